/- An argument that is rows of bytes, opened. -/
import Derived.Test.YtoeehajdmdmemaaDoorLa
import Derived.Test.YtoeehajdmdmemaaDoorBa
import Derived.Deep.Slices
namespace Go.Proofs.YtoeehajdmdmemaaDoor
open Go.ChangeShapes Go.WideShapes Go.ChangeAt Go.RowKit Go.Deep

theorem bytes23 : Tryd.prog.bytesOf 23 = 24 := by kernel_rfl
variable {H : Type} {enc : TypeId × Value → H}
theorem addr_flat {w : World} {a : Addr} {ao : Option Addr} {n c : Nat} (h : w.cell? a = some (.slice ao n c)) : a = ⟨a.block, a.off, none⟩ := by
  have h2 : a.spot = none := by
    unfold World.cell? at h
    split at h
    · split at h
      · cases h
      · rename_i hs; simpa using hs
    · cases h
  cases a; simp_all
theorem weights_all_mem {P : Program} {e : TypeId} {l : List (DataW H)} {d : DataW H} (hd : d ∈ l) : ∀ n ∈ d.weights P e, n ∈ DataW.weightsAll P e l := by
  induction l with
  | nil => cases hd
  | cons x r ih =>
    intro n hn
    simp only [DataW.weightsAll, List.mem_append]
    rcases List.mem_cons.1 hd with rfl | hd
    · exact Or.inl hn
    · exact Or.inr (ih hd n hn)
theorem open_rows {w : World} {base fuel : Nat} {spare : Nat → Bool} {held : Bool} {cs : List Value} {x : DataW H × List MemPlace} (h : DataW.trod enc Tryd.prog w base spare held fuel 52 cs = some x) (hz : ∀ n ∈ x.1.weights Tryd.prog 52, n ≤ reachBytes) :
    ∃ ao n cap R, cs = [.slice ao n cap] ∧ (R.length = n ∧ RwsAt w ao R ∧ n ≤ 140737488355328) := by
  rcases open_slice Tryd.underlying52 h with ⟨rfl, rfl⟩ | ⟨a, len, cap, m, n, D, Pl, rfl, hb, hl, hm, hmm, rfl, hx⟩
  · exact ⟨none, 0, 0, [], rfl, rfl, fun j p hj => by simp at hj, by omega⟩
  · have hlm : len ≤ m := by rw [hmm]; split <;> omega
    have hw : ∀ i, i < len → ∀ n ∈ (D i).weights Tryd.prog 23, n ≤ reachBytes := fun i hi n hn => hz n (by
      simp only [DataW.weights, Tryd.underlying52]
      exact List.mem_cons_of_mem _ (List.mem_append_left _ (weights_all_mem (d := D i) (List.mem_map.2 ⟨i, by simpa using hi, rfl⟩) n hn)))
    have hsz : len * 24 ≤ reachBytes := by
      have := hz ((((List.range len).map D).length + ((List.range (m - len)).map fun j => D (len + j)).length) * Tryd.prog.bytesOf 23) (by simp [DataW.weights, Tryd.underlying52])
      rw [bytes23] at this
      simp at this
      omega
    have hex : ∀ i, i < len → ∃ xs : List Int, ∃ b o, some a = some (⟨b, o, none⟩ : Addr) ∧ RwC w b o i xs := by
      intro i hi
      rw [cells23] at hx
      have key : ∀ i, i < len → ∃ xs : List Int, ∃ bo bc, w.cell? (a.add (i * 1)) = some (.slice bo xs.length bc) ∧ BIn w bo xs.length bc xs := by
        intro i hi
        obtain ⟨cs', hc, ht⟩ := hx i (by omega)
        obtain ⟨_, hlen, hcell⟩ := World.cells?_some hc
        obtain ⟨bo, k, bc, b, rfl, hB, _⟩ := open_bytes ht (hw i hi)
        have hk := hB.len
        subst hk
        exact ⟨b, bo, bc, by have := hcell 0 (by omega); simpa [Addr.add] using this, hB⟩
      obtain ⟨_, _, _, k0, _⟩ := key 0 (by omega)
      have ha : a = ⟨a.block, a.off, none⟩ := addr_flat (by simpa [Addr.add] using k0)
      obtain ⟨xs, bo, bc, k1, k2⟩ := key i hi
      refine ⟨xs, a.block, a.off, by rw [← ha], ⟨bo, bc, ?_, k2.at_, k2.nil, k2.fits, k2.most⟩, k2.byt, k2.sm⟩
      rw [ha, Addr.add_lit, Nat.mul_one] at k1; exact k1
    obtain ⟨R, hF1, hF2⟩ : ∃ R : List (List Int), R.length = len ∧ RwsAt w (some a) R := by
      clear hsz hx hz h hlm hmm hl hw
      induction len with
      | zero => exact ⟨[], rfl, fun j p hj => by simp at hj⟩
      | succ k ih =>
        obtain ⟨F, f1, f2⟩ := ih (fun i hi => hex i (by omega))
        obtain ⟨p, g1⟩ := hex k (by omega)
        refine ⟨F ++ [p], by simp [f1], ?_⟩
        intro j q hj
        by_cases hjk : j < F.length
        · rw [List.getElem?_append_left hjk] at hj; exact f2 j q hj
        · have hlt := (List.getElem?_eq_some_iff.1 hj).1
          have hjk2 : j = k := by simp at hlt; omega
          subst hjk2
          rw [List.getElem?_append_right (by omega), f1, Nat.sub_self] at hj
          simp at hj
          subst hj
          exact g1
    exact ⟨some a, len, cap, R, rfl, hF1, hF2, by unfold reachBytes at hsz; omega⟩
/-- An argument that is rows of bytes. -/
theorem open_rowsArg {w : World} {base : Nat} {spare : Nat → Bool} {held : Bool} {r : Reach} {b0 : Nat} {v : Value} {d : DataW H} {ps : List MemPlace} (hval : Value.okWide Tryd.prog w r b0 52 v) (hd : DataW.Trod enc Tryd.prog w base spare held 52 v d ps) (hz : ∀ n ∈ d.weights Tryd.prog 52, n ≤ reachBytes) :
    ∃ ao n cap rows, v = .slice ao n cap ∧ (rows.length = n ∧ RwsAt w ao rows ∧ n ≤ 140737488355328) := by
  obtain ⟨ao, n, cap, rfl⟩ := okWide_slice Tryd.underlying52 hval
  obtain ⟨fuel, h⟩ := hd
  have h : DataW.trod enc Tryd.prog w base spare held fuel 52 [.slice ao n cap] = some (d, ps) := h
  obtain ⟨ao', n', cap', R, e, hB⟩ := open_rows h hz
  simp only [List.cons.injEq, and_true, Value.slice.injEq] at e
  obtain ⟨rfl, rfl, rfl⟩ := e
  exact ⟨_, _, _, R, rfl, hB⟩
end Go.Proofs.YtoeehajdmdmemaaDoor
