/- The program's items and the document's: the same ones. -/
import Derived.Test.YtkbhjdjdjfdikaaRc
import Derived.Test.YtkbhjdjdjfdikaaHy
namespace Go.Proofs.Ytkbhjdjdjfdikaa
open Go.RowKit Ap Go.Shelf
/-- The document's row X by rising handles, the program's E in some order. -/
structure Same (E X : List (Nat × Int)) (N : Nat) : Prop where
  perm : X.Perm E
  asc : Asc X
  hds : Hds E N
section
variable {E X : List (Nat × Int)} {N : Nat}
theorem en_idx {L : List (Nat × Int)} {a : Nat × Int} (h : a ∈ L) : ∃ i, i < L.length ∧ en L i = a := by
  obtain ⟨i, hi, e⟩ := List.mem_iff_getElem.1 h
  exact ⟨i, hi, by rw [← e]; simp [en, hi]⟩
theorem Same.length (h : Same E X N) : X.length = E.length := h.perm.length_eq
theorem asc_lt (h : Asc X) {i j : Nat} (hj : j < X.length) (hij : i < j) : (en X i).1 < (en X j).1 := by
  have := List.pairwise_iff_getElem.1 h i j (by omega) hj hij
  simpa [en, hj, show i < X.length by omega] using this
theorem Same.hdsX (h : Same E X N) : Hds X N := by
  refine ⟨fun i j hi hj e => ?_, fun i hi => ?_⟩
  · rcases Nat.lt_trichotomy i j with hl | hl | hl
    · have := asc_lt h.asc hj hl; omega
    · exact hl
    · have := asc_lt h.asc hi hl; omega
  · obtain ⟨j, hj, e⟩ := en_idx (h.perm.subset (en_mem hi))
    rw [← e]
    exact h.hds.below j hj
/-- A handle's item lies in both. -/
theorem Same.fi (h : Same E X N) (x : Int) : (Go.Proofs.Ytkbhjdjdjfdikaa.fi E x = none ∧ Go.Proofs.Ytkbhjdjdjfdikaa.fi X x = none) ∨ ∃ i j, i < E.length ∧ j < X.length ∧ Go.Proofs.Ytkbhjdjdjfdikaa.fi E x = some i ∧ Go.Proofs.Ytkbhjdjdjfdikaa.fi X x = some j ∧ en X j = en E i := by
  cases hf : Go.Proofs.Ytkbhjdjdjfdikaa.fi E x with
  | some i =>
    obtain ⟨hi, hx⟩ := fi_lt hf
    obtain ⟨j, hj, e⟩ := en_idx (h.perm.symm.subset (en_mem hi))
    exact .inr ⟨i, j, hi, hj, rfl, fi_some h.hdsX hj (by rw [e]; exact hx), e⟩
  | none =>
    refine .inl ⟨rfl, fi_none (fun j hj e => ?_)⟩
    obtain ⟨i, hi, e2⟩ := en_idx (h.perm.subset (en_mem hj))
    rw [fi_some h.hds hi (by rw [e2]; exact e)] at hf
    cases hf
theorem Same.push (h : Same E X N) (v : Int) (hd : Hds (E ++ [(N, v)]) (N + 1)) : Same (E ++ [(N, v)]) (X ++ [(N, v)]) (N + 1) := by
  refine ⟨h.perm.append_right _, ?_, hd⟩
  unfold Asc
  refine List.pairwise_append.2 ⟨h.asc, by simp, fun a ha b hb => ?_⟩
  simp at hb
  subst hb
  obtain ⟨j, hj, rfl⟩ := en_idx ha
  exact h.hdsX.below j hj
theorem set_perm {L : List (Nat × Int)} {i : Nat} (hi : i < L.length) (a : Nat × Int) : (L.set i a).Perm (a :: L.eraseIdx i) := by
  rw [List.set_eq_take_append_cons_drop, if_pos hi, List.eraseIdx_eq_take_drop_succ]
  exact List.perm_middle
theorem get_perm {L : List (Nat × Int)} {i : Nat} (hi : i < L.length) : L.Perm (en L i :: L.eraseIdx i) := by
  have := set_perm hi (en L i)
  rw [show L.set i (en L i) = L by unfold en; rw [List.getElem?_eq_getElem hi]; simp] at this
  exact this
theorem erase_perm {E X : List (Nat × Int)} (h : X.Perm E) {i j : Nat} (hi : i < E.length) (hj : j < X.length) (e : en X j = en E i) : (X.eraseIdx j).Perm (E.eraseIdx i) := by
  have h1 := (get_perm hj).symm.trans (h.trans (get_perm hi))
  rw [e] at h1
  exact (List.perm_cons _).1 h1
theorem Same.set (h : Same E X N) {i j : Nat} (hi : i < E.length) (hj : j < X.length) (e : en X j = en E i) (v : Int) (hd : Hds (setI E i v) N) : Same (setI E i v) (setI X j v) N := by
  refine ⟨?_, ?_, hd⟩
  · unfold setI
    rw [e]
    exact (set_perm hj _).trans (((List.perm_cons _).2 (erase_perm h.perm hi hj e)).trans (set_perm hi _).symm)
  · unfold Asc
    rw [List.pairwise_iff_getElem]
    intro a b ha hb hab
    have h1 := asc_lt h.asc (j := b) (by rw [setI_length] at hb; exact hb) hab
    have e1 := setI_fst hj v a
    have e2 := setI_fst hj v b
    rw [← e1, ← e2] at h1
    simpa [en, ha, hb] using h1
theorem outE_perm {i : Nat} (hi : i < E.length) : (outE E i).Perm (E.eraseIdx i) := by
  obtain ⟨dl, last, rfl⟩ : ∃ dl last, E = dl ++ [last] := ⟨E.dropLast, E.getLast (fun e => by rw [e] at hi; simp at hi), (List.dropLast_concat_getLast _).symm⟩
  have hl : en (dl ++ [last]) ((dl ++ [last]).length - 1) = last := by simp [en]
  unfold outE
  rw [hl]
  simp only [List.length_append, List.length_singleton, Nat.add_sub_cancel] at hi ⊢
  by_cases h : i < dl.length
  · rw [List.set_append_left _ _ h, List.take_append_of_le_length (by simp), List.take_of_length_le (by simp), List.eraseIdx_append_of_lt_length h]
    exact (set_perm h last).trans (List.perm_append_singleton _ _).symm
  · have : i = dl.length := by omega
    subst this
    rw [List.set_append_right _ _ (by omega), List.eraseIdx_append_of_length_le (by omega)]
    simp
theorem Same.drop (h : Same E X N) {i j : Nat} (hi : i < E.length) (hj : j < X.length) (e : en X j = en E i) (hd : Hds (outE E i) N) : Same (outE E i) (X.eraseIdx j) N :=
  ⟨(erase_perm h.perm hi hj e).trans (outE_perm hi).symm, List.Pairwise.sublist (List.eraseIdx_sublist _ _) h.asc, hd⟩
/-- What an order goes by. -/
def rank (k : Int) (a : Int) : Int := if k = 0 then a else if k = 1 then -a else if k = 2 then a.tdiv 4 else 0
theorem lessK_rank {k : Int} (h0 : 0 ≤ k) (h4 : k < 4) (a b : Int) : lessK k a b = decide (rank k a < rank k b) := by
  have : k = 0 ∨ k = 1 ∨ k = 2 ∨ k = 3 := by omega
  rcases this with rfl | rfl | rfl | rfl <;> simp [lessK, rank]
theorem rl_least {k : Int} (h0 : 0 ≤ k) (h4 : k < 4) (ha : Asc X) : ∀ i, i < X.length → ∀ c, c ≤ i → Le (rank k) (en X (rl k X i)) (en X c) := by
  intro i
  induction i with
  | zero => intro _ c hc; obtain rfl : c = 0 := by omega
            exact Le.refl _
  | succ i ih =>
    intro hi c hc
    have hli := rl_le k X i
    have ih := ih (by omega)
    have hlt := asc_lt ha hi (show rl k X i < i + 1 by omega)
    unfold rl
    rw [lessK_rank h0 h4]
    by_cases hr : rank k (en X (i + 1)).2 < rank k (en X (rl k X i)).2
    · rw [if_pos (by simpa using hr)]
      by_cases hci : c ≤ i
      · exact Le.trans (.inl hr) (ih c hci)
      · obtain rfl : c = i + 1 := by omega
        exact Le.refl _
    · rw [if_neg (by simpa using hr)]
      by_cases hci : c ≤ i
      · exact ih c hci
      · obtain rfl : c = i + 1 := by omega
        by_cases he : rank k (en X (rl k X i)).2 < rank k (en X (i + 1)).2
        · exact .inl he
        · exact .inr ⟨by omega, by omega⟩
/-- The least of both, where less is an order. -/
theorem Same.least (h : Same E X N) {k : Int} (h0 : 0 ≤ k) (h4 : k < 4) {i : Nat} (hz : 0 < E.length) (ht : Top (lessK k) E i) : en X (rl k X (X.length - 1)) = en E i := by
  obtain ⟨T, hg, rfl⟩ := ht
  have hl := h.length
  have h1 := hg.least (r := rank k) (fun i j _ _ => lessK_rank h0 h4 _ _)
  have hi := (hg.sub 0 hz).2
  have hm : rl k X (X.length - 1) < X.length := by have := rl_le k X (X.length - 1); omega
  obtain ⟨c, hc, ec⟩ := en_idx (h.perm.subset (en_mem hm))
  obtain ⟨d, hd, ed⟩ := en_idx (h.perm.symm.subset (en_mem hi))
  have a1 := h1 c hc
  have a2 := rl_least h0 h4 h.asc (X.length - 1) (by omega) d (by omega)
  rw [ed, ← ec] at a2
  have e1 : (en E c).1 = (en E (tn T 0)).1 := by
    unfold Le at a1 a2
    omega
  have := h.hds.inj c (tn T 0) hc hi e1
  rw [← ec, this]
end
end Go.Proofs.Ytkbhjdjdjfdikaa
