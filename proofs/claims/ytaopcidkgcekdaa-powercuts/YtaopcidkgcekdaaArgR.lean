/- Rows of bytes that came in, opened. -/
import Derived.Test.YtaopcidkgcekdaaArgO
import Derived.Test.YtaopcidkgcekdaaKit
namespace Go.Proofs.Ytaopcidkgcekdaa
open Go.ChangeShapes Go.WideShapes Go.ChangeAt Go.RowKit Go.Deep Ap

/-- Rows that came in. -/
def RowsIn (w : World) (ro : Option Addr) (R : List (List Nat)) : Prop := ∀ j xs, R[j]? = some xs → ∃ b o ao cap, ro = some ⟨b, o, none⟩ ∧ w.cell? ⟨b, o + j, none⟩ = some (.slice ao xs.length cap) ∧ At w ao xs ∧ (ao = none → xs.length = 0 ∧ cap = 0) ∧ xs.length ≤ 140737488355000
theorem RowsIn.at_ {w : World} {ro : Option Addr} {R : List (List Nat)} (h : RowsIn w ro R) : RowsAt w ro R := by
  intro j xs hj
  obtain ⟨b, o, ao, cap, h1, h2, h3, h4, h5⟩ := h j xs hj
  exact ⟨b, o, ao, cap, h1, h2, h3, by omega⟩
theorem RowsIn.grown {w w' : World} {ro : Option Addr} {R : List (List Nat)} (h : RowsIn w ro R) (hg : w.grownBy w' none) : RowsIn w' ro R := by
  intro j xs hj
  obtain ⟨b, o, ao, cap, h1, h2, h3, h4⟩ := h j xs hj
  exact ⟨b, o, ao, cap, h1, hg.cell h2 (by simp), h3.grown hg, h4⟩

theorem Try.cells5 : Try.prog.cellsOf 5 = 1 := by kernel_rfl
theorem Try.cells46 : Try.prog.cellsOf 22 = 1 := by kernel_rfl
theorem Try.bytes46 : Try.prog.bytesOf 22 = 24 := by kernel_rfl
theorem Try.bytes5 : Try.prog.bytesOf 5 = 1 := by kernel_rfl
section
variable {H : Type} {enc : TypeId × Value → H}
theorem addr_flat {w : World} {a : Addr} {ao : Option Addr} {n c : Nat} (h : w.cell? a = some (.slice ao n c)) : a = ⟨a.block, a.off, none⟩ := by
  have h2 : a.spot = none := by
    unfold World.cell? at h
    split at h
    · split at h
      · cases h
      · rename_i hs; simpa using hs
    · cases h
  cases a; simp_all
theorem open_bytes {w : World} {base fuel : Nat} {spare : Nat → Bool} {held : Bool} {cs : List Value} {x : DataW H × List MemPlace} (h : DataW.trod enc Try.prog w base spare held fuel 22 cs = some x) (hw : ∀ n ∈ x.1.weights Try.prog 22, n ≤ reachBytes) :
    ∃ bo cap b, cs = [.slice bo b.length cap] ∧ At w bo b ∧ (bo = none → b.length = 0 ∧ cap = 0) ∧ b.length ≤ 140737488355000 := by
  rcases open_ints Try.underlying22 Try.underlying5 Try.cells5 h with ⟨rfl, rfl⟩ | ⟨a, len, cap, zs, rfl, _, hl, hm, hz, rfl, hcell, hwf⟩
  · exact ⟨none, 0, [], rfl, At.nil _ _, fun _ => ⟨rfl, rfl⟩, by simp⟩
  · have hzl : len ≤ zs.length := by rw [hz]; split <;> omega
    have hl2 : ((zs.take len).map Int.toNat).length = len := by simp; omega
    have hsz : len ≤ reachBytes := by
      have := hw (((lits .u8 (zs.take len)).length + (lits .u8 (zs.drop len)).length) * Try.prog.bytesOf 5) (by simp only [DataW.weights, Try.underlying22]; exact List.mem_cons_self)
      rw [Try.bytes5] at this
      simp [lits] at this
      omega
    refine ⟨some a, cap, (zs.take len).map Int.toNat, by rw [hl2], ?_, fun e => (by cases e), by rw [hl2]; unfold reachBytes at hsz; omega⟩
    intro j u hu
    refine ⟨a, rfl, ?_⟩
    rw [List.getElem?_map, List.getElem?_take] at hu
    split at hu
    · obtain ⟨z, hz1, rfl⟩ := Option.map_eq_some_iff.1 hu
      obtain ⟨hj, he⟩ := List.getElem?_eq_some_iff.1 hz1
      rw [hcell j hj]
      have := bounds_u8 (hwf z (List.mem_of_getElem? hz1))
      simp [hj, he]
      omega
    · simp at hu
theorem open_rows {w : World} {base fuel : Nat} {spare : Nat → Bool} {held : Bool} {cs : List Value} {x : DataW H × List MemPlace} (h : DataW.trod enc Try.prog w base spare held fuel 54 cs = some x) (hz : ∀ n ∈ x.1.weights Try.prog 54, n ≤ reachBytes) :
    ∃ ao cap R, cs = [.slice ao R.length cap] ∧ RowsIn w ao R ∧ R.length ≤ 140737488355328 := by
  rcases open_slice Try.underlying54 h with ⟨rfl, rfl⟩ | ⟨a, len, cap, m, n, D, Pl, rfl, hb, hl, hm, hmm, rfl, hx⟩
  · exact ⟨none, 0, [], rfl, fun j p hj => by simp at hj, by simp⟩
  · have hlm : len ≤ m := by rw [hmm]; split <;> omega
    have hw : ∀ i, i < len → ∀ n ∈ (D i).weights Try.prog 22, n ≤ reachBytes := fun i hi n hn => hz n (by
      simp only [DataW.weights, Try.underlying54]
      exact List.mem_cons_of_mem _ (List.mem_append_left _ (weights_all_mem (d := D i) (List.mem_map.2 ⟨i, by simpa using hi, rfl⟩) n hn)))
    have hsz : len * 24 ≤ reachBytes := by
      have := hz ((((List.range len).map D).length + ((List.range (m - len)).map fun j => D (len + j)).length) * Try.prog.bytesOf 22) (by simp [DataW.weights, Try.underlying54])
      rw [Try.bytes46] at this
      simp at this
      omega
    have hex : ∀ i, i < len → ∃ xs : List Nat, ∃ b o ao cap, some a = some (⟨b, o, none⟩ : Addr) ∧ w.cell? ⟨b, o + i, none⟩ = some (.slice ao xs.length cap) ∧ At w ao xs ∧ (ao = none → xs.length = 0 ∧ cap = 0) ∧ xs.length ≤ 140737488355000 := by
      intro i hi
      rw [Try.cells46] at hx
      have key : ∀ i, i < len → ∃ xs : List Nat, ∃ ao cap, w.cell? (a.add (i * 1)) = some (.slice ao xs.length cap) ∧ At w ao xs ∧ (ao = none → xs.length = 0 ∧ cap = 0) ∧ xs.length ≤ 140737488355000 := by
        intro i hi
        obtain ⟨cs', hc, ht⟩ := hx i (by omega)
        obtain ⟨_, hlen, hcell⟩ := World.cells?_some hc
        obtain ⟨bo, cap, b, rfl, h1, h2, h3⟩ := open_bytes ht (hw i hi)
        exact ⟨b, bo, cap, by have := hcell 0 (by omega); simpa [Addr.add] using this, h1, h2, h3⟩
      obtain ⟨_, _, _, k0, _⟩ := key 0 (by omega)
      have ha : a = ⟨a.block, a.off, none⟩ := addr_flat (by simpa [Addr.add] using k0)
      obtain ⟨xs, ao, cap, k1, k2⟩ := key i hi
      refine ⟨xs, a.block, a.off, ao, cap, by rw [← ha], ?_, k2⟩
      rw [ha, Addr.add_lit, Nat.mul_one] at k1; exact k1
    obtain ⟨R, hF1, hF2⟩ : ∃ R : List (List Nat), R.length = len ∧ RowsIn w (some a) R := by
      clear hsz hx hz h hlm hmm hl hw
      induction len with
      | zero => exact ⟨[], rfl, fun j p hj => by simp at hj⟩
      | succ k ih =>
        obtain ⟨F, f1, f2⟩ := ih (fun i hi => hex i (by omega))
        obtain ⟨p, g1⟩ := hex k (by omega)
        refine ⟨F ++ [p], by simp [f1], ?_⟩
        intro j q hj
        by_cases hjk : j < F.length
        · rw [List.getElem?_append_left hjk] at hj; exact f2 j q hj
        · have hlt := (List.getElem?_eq_some_iff.1 hj).1
          have hjk2 : j = k := by simp at hlt; omega
          subst hjk2
          rw [List.getElem?_append_right (by omega), f1, Nat.sub_self] at hj
          simp at hj
          subst hj
          exact g1
    exact ⟨some a, cap, R, by rw [hF1], hF2, by rw [hF1]; unfold reachBytes at hsz; omega⟩
end
end Go.Proofs.Ytaopcidkgcekdaa
