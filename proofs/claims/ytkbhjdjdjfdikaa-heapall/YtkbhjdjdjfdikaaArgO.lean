/- A script that came in, opened: steps of four numbers. -/
import Derived.Test.YtkbhjdjdjfdikaaHl
import Derived.ProofKit
import Derived.OpenShut
import Derived.ChangeOld
import Derived.ChangeMaps5
import Derived.SizedLaws
import Derived.Deep.Slices
namespace Go.Proofs.Ytkbhjdjdjfdikaa
open Go.ChangeShapes Go.WideShapes Go.ChangeAt Go.RowKit Go.Deep Ap
attribute [local go_sem ↓] Go.wp_at_zero Go.wp_at_succ
theorem cells3 : Try.prog.cellsOf 3 = 1 := by kernel_rfl
theorem Try.cells31 : Try.prog.cellsOf 31 = 4 := by kernel_rfl
theorem Try.bytes31 : Try.prog.bytesOf 31 = 32 := by kernel_rfl
/-- A step's four numbers. -/
structure OpD where
  K : Int
  O : Int
  N : Int
  V : Int
def OpD.Ok (o : OpD) : Prop := I64 o.K ∧ I64 o.O ∧ I64 o.N ∧ I64 o.V
def OpsAt (w : World) (ao : Option Addr) (os : List OpD) : Prop := ∀ j o, os[j]? = some o → ∃ blk off, ao = some (⟨blk, off, none⟩ : Addr) ∧ w.cell? ⟨blk, off + j * 4, none⟩ = some (.int .i64 o.K) ∧ w.cell? ⟨blk, off + j * 4 + 1, none⟩ = some (.int .i64 o.O) ∧ w.cell? ⟨blk, off + j * 4 + 2, none⟩ = some (.int .i64 o.N) ∧ w.cell? ⟨blk, off + j * 4 + 3, none⟩ = some (.int .i64 o.V)
theorem OpsAt.grown {w w' : World} {ao : Option Addr} {os : List OpD} (h : OpsAt w ao os) (g : w.grownBy w' none) : OpsAt w' ao os := by
  intro j o hj
  obtain ⟨b, off, e, h1, h2, h3, h4⟩ := h j o hj
  exact ⟨b, off, e, g.cell h1 (by simp), g.cell h2 (by simp), g.cell h3 (by simp), g.cell h4 (by simp)⟩
theorem i64_of_wf {x : Int} (h : (Lit.int .i64 x).wf = true) : I64 x := by
  have := bounds_i64 h
  unfold I64
  omega
theorem list4 {α : Type} {l : List α} (h : l.length = 4) : ∃ a b c d, l = [a, b, c, d] := by
  match l, h with
  | [a, b, c, d], _ => exact ⟨a, b, c, d, rfl⟩
section
variable {H : Type} {enc : TypeId × Value → H}
theorem open_op {w : World} {base n : Nat} {spare : Nat → Bool} {held : Bool} {a : Addr} {cs : List Value} {x : DataW H × List MemPlace} (hc : w.cells? base a 4 = some cs) (h : DataW.trod enc Try.prog w base spare held n 31 cs = some x) :
    ∃ o : OpD, o.Ok ∧ a = ⟨a.block, a.off, none⟩ ∧ w.cell? ⟨a.block, a.off, none⟩ = some (.int .i64 o.K) ∧ w.cell? ⟨a.block, a.off + 1, none⟩ = some (.int .i64 o.O) ∧ w.cell? ⟨a.block, a.off + 2, none⟩ = some (.int .i64 o.N) ∧ w.cell? ⟨a.block, a.off + 3, none⟩ = some (.int .i64 o.V) := by
  obtain ⟨_, hlen, hcell⟩ := World.cells?_some hc
  obtain ⟨xs, n, _, rfl, hl, hsz, hf⟩ := DataW.trod_struct Try.underlying31 h
  obtain ⟨v0, v1, v2, v3, rfl⟩ := list4 hlen
  obtain ⟨y0, y1, y2, y3, rfl⟩ := list4 (show xs.length = 4 from hsz)
  clear hl hsz
  have f0 : DataW.trod enc Try.prog w base spare held n 3 [v0] = some y0 := by simpa [cells3] using hf 0 _ rfl
  have f1 : DataW.trod enc Try.prog w base spare held n 3 [v1] = some y1 := by simpa [cells3] using hf 1 _ rfl
  have f2 : DataW.trod enc Try.prog w base spare held n 3 [v2] = some y2 := by simpa [cells3] using hf 2 _ rfl
  have f3 : DataW.trod enc Try.prog w base spare held n 3 [v3] = some y3 := by simpa [cells3] using hf 3 _ rfl
  obtain ⟨k, e0, rfl, wk⟩ := DataW.trod_int Try.underlying3 f0
  obtain ⟨O, e1, rfl, wO⟩ := DataW.trod_int Try.underlying3 f1
  obtain ⟨N, e2, rfl, wN⟩ := DataW.trod_int Try.underlying3 f2
  obtain ⟨T, e3, rfl, wT⟩ := DataW.trod_int Try.underlying3 f3
  simp only [List.cons.injEq, and_true] at e0 e1 e2 e3
  subst e0 e1 e2 e3
  have g0 := hcell 0 (by omega)
  have ha : a = ⟨a.block, a.off, none⟩ := by
    have h1 : w.cell? a = some (.int .i64 k) := by simpa [Addr.add] using g0
    have h2 : a.spot = none := by
      unfold World.cell? at h1
      split at h1
      · split at h1
        · cases h1
        · rename_i hs; simpa using hs
      · cases h1
    cases a; simp_all
  rw [ha] at hcell
  refine ⟨⟨k, O, N, T⟩, ⟨i64_of_wf wk, i64_of_wf wO, i64_of_wf wN, i64_of_wf wT⟩, ha, ?_, ?_, ?_, ?_⟩
  · simpa [Addr.add_lit] using hcell 0 (by omega)
  · simpa [Addr.add_lit] using hcell 1 (by omega)
  · simpa [Addr.add_lit] using hcell 2 (by omega)
  · simpa [Addr.add_lit] using hcell 3 (by omega)
theorem open_opsB {w : World} {base len n : Nat} {spare : Nat → Bool} {held : Bool} {a : Addr} {D : Nat → DataW H} {Pl : Nat → List MemPlace}
    (h : ∀ i, i < len → ∃ cs', w.cells? base (a.add (i * 4)) 4 = some cs' ∧ DataW.trod enc Try.prog w base spare held n 31 cs' = some (D i, Pl i)) :
    ∃ os : List OpD, os.length = len ∧ OpsAt w (some a) os ∧ (∀ o ∈ os, o.Ok) := by
  have hex : ∀ i, i < len → ∃ o : OpD, o.Ok ∧ ∃ blk off, some a = some (⟨blk, off, none⟩ : Addr) ∧ w.cell? ⟨blk, off + i * 4, none⟩ = some (.int .i64 o.K) ∧ w.cell? ⟨blk, off + i * 4 + 1, none⟩ = some (.int .i64 o.O) ∧ w.cell? ⟨blk, off + i * 4 + 2, none⟩ = some (.int .i64 o.N) ∧ w.cell? ⟨blk, off + i * 4 + 3, none⟩ = some (.int .i64 o.V) := by
    intro i hi
    obtain ⟨cs', hc, ht⟩ := h i hi
    obtain ⟨o, hok, _, h1, h2, h3, h4⟩ := open_op hc ht
    have ha : a = ⟨a.block, a.off, none⟩ := by
      obtain ⟨cs0, hc0, ht0⟩ := h 0 (by omega)
      obtain ⟨_, _, he, _⟩ := open_op hc0 ht0
      simpa [Addr.add] using he
    have e1 : (a.add (i * 4)).block = a.block := addr_add_block _ _
    have e2 : (a.add (i * 4)).off = a.off + i * 4 := by rw [ha, Addr.add_lit]
    rw [e1, e2] at h1 h2 h3 h4
    exact ⟨o, hok, a.block, a.off, by rw [← ha], h1, h2, h3, h4⟩
  clear h
  induction len with
  | zero => exact ⟨[], rfl, (fun j o h => by simp at h), fun o ho => by simp at ho⟩
  | succ k ih =>
    obtain ⟨os, h1, h2, h3⟩ := ih (fun i hi => hex i (by omega))
    obtain ⟨o, hok, g1⟩ := hex k (by omega)
    refine ⟨os ++ [o], by simp [h1], ?_, ?_⟩
    · intro j o' hj
      by_cases hjk : j < os.length
      · rw [List.getElem?_append_left hjk] at hj; exact h2 j o' hj
      · have hlt := (List.getElem?_eq_some_iff.1 hj).1
        have hjk2 : j = k := by simp at hlt; omega
        subst hjk2
        rw [List.getElem?_append_right (by omega), h1, Nat.sub_self] at hj
        simp at hj
        subst hj
        exact g1
    · intro o' ho'
      rcases List.mem_append.1 ho' with h | h
      · exact h3 o' h
      · simp at h; rw [h]; exact hok
theorem open_opsArg {w : World} {a0 : Option Addr} {len0 cap0 : Nat} {d0 : DataW H} {p0 : List MemPlace} (h0 : DataW.Trod enc Try.prog w 0 (fun _ => true) true 22 (Value.slice a0 len0 cap0) d0 p0) :
    ∃ os : List OpD, os.length = len0 ∧ OpsAt w a0 os ∧ (∀ o ∈ os, o.Ok) ∧ len0 ≤ cap0 := by
  obtain ⟨fuel, hf⟩ := h0
  rcases open_slice Try.underlying22 hf with ⟨hcs, _⟩ | ⟨a, len, cap, m, n, D, Pl, hcs, _, hl, hm, hmm, hx, hel⟩
  · simp [Value.cells] at hcs
    obtain ⟨rfl, rfl, rfl⟩ := hcs
    exact ⟨[], rfl, (fun j o h => by simp at h), (fun o ho => by simp at ho), by omega⟩
  · simp [Value.cells] at hcs
    obtain ⟨rfl, rfl, rfl⟩ := hcs
    have hlm : len0 ≤ m := by rw [hmm]; split <;> omega
    rw [Try.cells31] at hel
    obtain ⟨os, h1, h2, h3⟩ := open_opsB (len := len0) (fun i hi => hel i (by omega))
    exact ⟨os, h1, h2, h3, by omega⟩
end
theorem slice_300 (ao : Option Addr) (len cap : Nat) (h : 300 ≤ cap) (w : World) : (Instr.slice 22 (.slice ao len cap) none (some (.int .i64 300)) none).run Try.prog w = .ok (.slice ao 300 cap) w := by
  simp [Instr.slice, run_underlying Try.underlying22, Instr.sliceBounds, Instr.sliceBound, asIntOf]
  rw [if_pos (show (300 : Int) ≤ (cap : Int) by omega), if_neg (by omega)]
  cases ao <;> simp [Addr.add]
theorem few_any (ao : Option Addr) (len cap : Nat) (h : len ≤ cap) (w : World) : Calls Try.prog 10 #[.slice ao len cap] w fun e w' => e = .returned (.slice ao (min len 300) cap) ∧ w' = w := by
  by_cases h1 : 300 < len
  · have hs := slice_300 ao len cap (by omega)
    have hm : min len 300 = 300 := by omega
    rw [hm]
    go_enter Try.func10, Try.ntmps10
    go_wp2
    go_ret
    exact ⟨rfl, rfl⟩
  · have hm : min len 300 = len := by omega
    rw [hm]
    clear hm
    go_enter Try.func10, Try.ntmps10
    go_wp2
    go_ret
    exact ⟨rfl, rfl⟩
end Go.Proofs.Ytkbhjdjdjfdikaa
