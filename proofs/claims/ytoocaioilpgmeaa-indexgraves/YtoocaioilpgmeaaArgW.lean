/- A row of ids that came in, opened. -/
import Derived.Test.YtoocaioilpgmeaaArgO
import Derived.Test.YtoocaioilpgmeaaGv
namespace Go.Proofs.Ytoocaioilpgmeaa
open Go.ChangeShapes Go.WideShapes Go.ChangeAt Go.RowKit Go.Deep Ix
section
variable {H : Type} {enc : TypeId × Value → H}
theorem open_id {w : World} {base n : Nat} {spare : Nat → Bool} {held : Bool} {a : Addr} {cs : List Value} {x : DataW H × List MemPlace} (hc : w.cells? base a 1 = some cs) (h : DataW.trod enc Try.prog w base spare held n 29 cs = some x) :
    ∃ o : Nat, o < 4294967296 ∧ a = ⟨a.block, a.off, none⟩ ∧ w.cell? ⟨a.block, a.off, none⟩ = some (.int .u32 (o : Int)) := by
  obtain ⟨_, hlen, hcell⟩ := World.cells?_some hc
  obtain ⟨v0, rfl⟩ : ∃ v, cs = [v] := by
    match cs, hlen with
    | [v], _ => exact ⟨v, rfl⟩
  obtain ⟨O, e1, -, wO⟩ := DataW.trod_int Try.underlying29 h
  simp only [List.cons.injEq, and_true] at e1
  subst e1
  have g0 := hcell 0 (by omega)
  have h1 : w.cell? a = some (.int .u32 O) := by simpa [Addr.add] using g0
  have ha : a = ⟨a.block, a.off, none⟩ := by
    have h2 : a.spot = none := by
      unfold World.cell? at h1
      split at h1
      · split at h1
        · cases h1
        · rename_i hs; simpa using hs
      · cases h1
    cases a; simp_all
  have hO := u32_of_wf wO
  rw [ha] at h1
  exact ⟨O.toNat, by omega, ha, by rw [show ((O.toNat : Nat) : Int) = O by omega]; exact h1⟩
theorem open_idsB {w : World} {base len n : Nat} {spare : Nat → Bool} {held : Bool} {a : Addr} {D : Nat → DataW H} {Pl : Nat → List MemPlace}
    (h : ∀ i, i < len → ∃ cs', w.cells? base (a.add (i * 1)) 1 = some cs' ∧ DataW.trod enc Try.prog w base spare held n 29 cs' = some (D i, Pl i)) :
    ∃ os : List Nat, os.length = len ∧ (∀ j u, os[j]? = some u → ∃ blk off, some a = some (⟨blk, off, none⟩ : Addr) ∧ w.cell? ⟨blk, off + j, none⟩ = some (.int .u32 ((u : Nat) : Int))) ∧ (∀ o ∈ os, o < 4294967296) := by
  have hex : ∀ i, i < len → ∃ o : Nat, o < 4294967296 ∧ ∃ blk off, some a = some (⟨blk, off, none⟩ : Addr) ∧ w.cell? ⟨blk, off + i, none⟩ = some (.int .u32 (o : Int)) := by
    intro i hi
    obtain ⟨cs', hc, ht⟩ := h i hi
    obtain ⟨o, hok, _, h1⟩ := open_id hc ht
    have ha : a = ⟨a.block, a.off, none⟩ := by
      obtain ⟨cs0, hc0, ht0⟩ := h 0 (by omega)
      obtain ⟨_, _, he, _⟩ := open_id hc0 ht0
      simpa [Addr.add] using he
    have e1 : (a.add (i * 1)).block = a.block := add_block _ _
    have e2 : (a.add (i * 1)).off = a.off + i := by rw [ha, Addr.add_lit, Nat.mul_one]
    rw [e1, e2] at h1
    exact ⟨o, hok, a.block, a.off, by rw [← ha], h1⟩
  clear h
  induction len with
  | zero => exact ⟨[], rfl, (fun j o h => by simp at h), fun o ho => by simp at ho⟩
  | succ k ih =>
    obtain ⟨os, h1, h2, h3⟩ := ih (fun i hi => hex i (by omega))
    obtain ⟨o, hok, g1⟩ := hex k (by omega)
    refine ⟨os ++ [o], by simp [h1], ?_, ?_⟩
    · intro j o' hj
      by_cases hjk : j < os.length
      · rw [List.getElem?_append_left hjk] at hj; exact h2 j o' hj
      · have hlt := (List.getElem?_eq_some_iff.1 hj).1
        have hjk2 : j = k := by simp at hlt; omega
        subst hjk2
        rw [List.getElem?_append_right (by omega), h1, Nat.sub_self] at hj
        simp at hj
        subst hj
        exact g1
    · intro o' ho'
      rcases List.mem_append.1 ho' with h | h
      · exact h3 o' h
      · simp at h; rw [h]; exact hok
theorem open_idsArg {w : World} {a0 : Option Addr} {len0 cap0 : Nat} {d0 : DataW H} {p0 : List MemPlace} (h0 : DataW.Trod enc Try.prog w 0 (fun _ => true) true 58 (Value.slice a0 len0 cap0) d0 p0) :
    ∃ ids : List Nat, Ids w a0 len0 ids := by
  obtain ⟨fuel, hf⟩ := h0
  rcases open_slice Try.underlying58 hf with ⟨hcs, _⟩ | ⟨a, len, cap, m, n, D, Pl, hcs, _, hl, hm, hmm, hx, hel⟩
  · simp [Value.cells] at hcs
    obtain ⟨rfl, rfl, rfl⟩ := hcs
    exact ⟨[], rfl, (fun j o h => by simp at h), (fun o ho => by simp at ho)⟩
  · simp [Value.cells] at hcs
    obtain ⟨rfl, rfl, rfl⟩ := hcs
    have hlm : len0 ≤ m := by rw [hmm]; split <;> omega
    rw [cells29] at hel
    obtain ⟨os, h1, h2, h3⟩ := open_idsB (len := len0) (fun i hi => hel i (by omega))
    exact ⟨os, h1, h2, h3⟩
end
end Go.Proofs.Ytoocaioilpgmeaa
