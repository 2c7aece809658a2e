/- A script that came in, opened: steps of an int, a uint32, an int. -/
import Derived.Test.YtoocaioilpgmeaaAw
import Derived.ProofKit
import Derived.OpenShut
import Derived.ChangeOld
import Derived.ChangeMaps5
import Derived.SizedLaws
import Derived.Deep.Slices
namespace Go.Proofs.Ytoocaioilpgmeaa
open Go.ChangeShapes Go.WideShapes Go.ChangeAt Go.RowKit Go.Deep Ix
theorem cells3 : Try.prog.cellsOf 3 = 1 := by kernel_rfl
theorem cells29 : Try.prog.cellsOf 29 = 1 := by kernel_rfl
theorem cells47 : Try.prog.cellsOf 47 = 3 := by kernel_rfl
theorem i64_of_wf {x : Int} (h : (Lit.int .i64 x).wf = true) : -9223372036854775808 ≤ x ∧ x ≤ 9223372036854775807 := bounds_i64 h
theorem u32_of_wf {x : Int} (h : (Lit.int .u32 x).wf = true) : 0 ≤ x ∧ x < 4294967296 := by
  simp [Lit.wf, IntKind.min, IntKind.max, IntKind.signed, IntKind.bits] at h; omega
theorem list3 {α : Type} {l : List α} (h : l.length = 3) : ∃ a b c, l = [a, b, c] := by
  match l, h with
  | [a, b, c], _ => exact ⟨a, b, c, rfl⟩
theorem add_block (a : Addr) (j : Nat) : (a.add j).block = a.block := by unfold Addr.add; split <;> rfl
section
variable {H : Type} {enc : TypeId × Value → H}
theorem open_op {w : World} {base n : Nat} {spare : Nat → Bool} {held : Bool} {a : Addr} {cs : List Value} {x : DataW H × List MemPlace} (hc : w.cells? base a 3 = some cs) (h : DataW.trod enc Try.prog w base spare held n 47 cs = some x) :
    ∃ o : OpD, o.Ok ∧ a = ⟨a.block, a.off, none⟩ ∧ w.cell? ⟨a.block, a.off, none⟩ = some (.int .i64 o.K) ∧ w.cell? ⟨a.block, a.off + 1, none⟩ = some (.int .u32 (o.I : Int)) ∧ w.cell? ⟨a.block, a.off + 2, none⟩ = some (.int .i64 o.V) := by
  obtain ⟨_, hlen, hcell⟩ := World.cells?_some hc
  obtain ⟨xs, n, _, rfl, hl, hsz, hf⟩ := DataW.trod_struct Try.underlying47 h
  obtain ⟨v0, v1, v2, rfl⟩ := list3 hlen
  obtain ⟨y0, y1, y2, rfl⟩ := list3 (show xs.length = 3 from hsz)
  clear hl hsz
  have f0 : DataW.trod enc Try.prog w base spare held n 3 [v0] = some y0 := by simpa [cells3, cells29] using hf 0 _ rfl
  have f1 : DataW.trod enc Try.prog w base spare held n 29 [v1] = some y1 := by simpa [cells3, cells29] using hf 1 _ rfl
  have f2 : DataW.trod enc Try.prog w base spare held n 3 [v2] = some y2 := by simpa [cells3, cells29] using hf 2 _ rfl
  obtain ⟨k, e0, rfl, wk⟩ := DataW.trod_int Try.underlying3 f0
  obtain ⟨O, e1, rfl, wO⟩ := DataW.trod_int Try.underlying29 f1
  obtain ⟨T, e2, rfl, wT⟩ := DataW.trod_int Try.underlying3 f2
  simp only [List.cons.injEq, and_true] at e0 e1 e2
  subst e0 e1 e2
  have g0 := hcell 0 (by omega)
  have ha : a = ⟨a.block, a.off, none⟩ := by
    have h1 : w.cell? a = some (.int .i64 k) := by simpa [Addr.add] using g0
    have h2 : a.spot = none := by
      unfold World.cell? at h1
      split at h1
      · split at h1
        · cases h1
        · rename_i hs; simpa using hs
      · cases h1
    cases a; simp_all
  rw [ha] at hcell
  have hO := u32_of_wf wO
  refine ⟨⟨k, O.toNat, T⟩, ⟨i64_of_wf wk, by simp; omega, i64_of_wf wT⟩, ha, ?_, ?_, ?_⟩
  · simpa [Addr.add_lit] using hcell 0 (by omega)
  · have := hcell 1 (by omega)
    rw [show ((O.toNat : Nat) : Int) = O by omega]
    simpa [Addr.add_lit] using this
  · simpa [Addr.add_lit] using hcell 2 (by omega)
theorem open_opsB {w : World} {base len n : Nat} {spare : Nat → Bool} {held : Bool} {a : Addr} {D : Nat → DataW H} {Pl : Nat → List MemPlace}
    (h : ∀ i, i < len → ∃ cs', w.cells? base (a.add (i * 3)) 3 = some cs' ∧ DataW.trod enc Try.prog w base spare held n 47 cs' = some (D i, Pl i)) :
    ∃ os : List OpD, os.length = len ∧ OpsAt w (some a) os ∧ (∀ o ∈ os, o.Ok) := by
  have hex : ∀ i, i < len → ∃ o : OpD, o.Ok ∧ ∃ blk off, some a = some (⟨blk, off, none⟩ : Addr) ∧ w.cell? ⟨blk, off + i * 3, none⟩ = some (.int .i64 o.K) ∧ w.cell? ⟨blk, off + i * 3 + 1, none⟩ = some (.int .u32 (o.I : Int)) ∧ w.cell? ⟨blk, off + i * 3 + 2, none⟩ = some (.int .i64 o.V) := by
    intro i hi
    obtain ⟨cs', hc, ht⟩ := h i hi
    obtain ⟨o, hok, _, h1, h2, h3⟩ := open_op hc ht
    have ha : a = ⟨a.block, a.off, none⟩ := by
      obtain ⟨cs0, hc0, ht0⟩ := h 0 (by omega)
      obtain ⟨_, _, he, _⟩ := open_op hc0 ht0
      simpa [Addr.add] using he
    have e1 : (a.add (i * 3)).block = a.block := add_block _ _
    have e2 : (a.add (i * 3)).off = a.off + i * 3 := by rw [ha, Addr.add_lit]
    rw [e1, e2] at h1 h2 h3
    exact ⟨o, hok, a.block, a.off, by rw [← ha], h1, h2, h3⟩
  clear h
  induction len with
  | zero => exact ⟨[], rfl, (fun j o h => by simp at h), fun o ho => by simp at ho⟩
  | succ k ih =>
    obtain ⟨os, h1, h2, h3⟩ := ih (fun i hi => hex i (by omega))
    obtain ⟨o, hok, g1⟩ := hex k (by omega)
    refine ⟨os ++ [o], by simp [h1], ?_, ?_⟩
    · intro j o' hj
      by_cases hjk : j < os.length
      · rw [List.getElem?_append_left hjk] at hj; exact h2 j o' hj
      · have hlt := (List.getElem?_eq_some_iff.1 hj).1
        have hjk2 : j = k := by simp at hlt; omega
        subst hjk2
        rw [List.getElem?_append_right (by omega), h1, Nat.sub_self] at hj
        simp at hj
        subst hj
        exact g1
    · intro o' ho'
      rcases List.mem_append.1 ho' with h | h
      · exact h3 o' h
      · simp at h; rw [h]; exact hok
theorem open_opsArg {w : World} {a0 : Option Addr} {len0 cap0 : Nat} {d0 : DataW H} {p0 : List MemPlace} (h0 : DataW.Trod enc Try.prog w 0 (fun _ => true) true 42 (Value.slice a0 len0 cap0) d0 p0) :
    ∃ os : List OpD, Scr w a0 len0 cap0 os := by
  obtain ⟨fuel, hf⟩ := h0
  rcases open_slice Try.underlying42 hf with ⟨hcs, _⟩ | ⟨a, len, cap, m, n, D, Pl, hcs, _, hl, hm, hmm, hx, hel⟩
  · simp [Value.cells] at hcs
    obtain ⟨rfl, rfl, rfl⟩ := hcs
    exact ⟨[], rfl, (fun j o h => by simp at h), (fun o ho => by simp at ho)⟩
  · simp [Value.cells] at hcs
    obtain ⟨rfl, rfl, rfl⟩ := hcs
    have hlm : len0 ≤ m := by rw [hmm]; split <;> omega
    rw [cells47] at hel
    obtain ⟨os, h1, h2, h3⟩ := open_opsB (len := len0) (fun i hi => hel i (by omega))
    exact ⟨os, h1, h2, h3⟩
end
end Go.Proofs.Ytoocaioilpgmeaa
