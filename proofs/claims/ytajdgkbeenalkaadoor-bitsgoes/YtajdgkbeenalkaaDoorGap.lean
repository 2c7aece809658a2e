/- The gaps of a set, number by number: plain lemmas. -/
import Derived.Test.YtajdgkbeenalkaaDoorIter
namespace Go.Proofs.YtajdgkbeenalkaaDoor

theorem getD_app (L : List Bool) (x : Bool) (k : Nat) (h : k < L.length) : (L ++ [x]).getD k false = L.getD k false := by
  simp [List.getD_eq_getElem?_getD, List.getElem?_append_left h]
theorem getD_last (L : List Bool) (x : Bool) : (L ++ [x]).getD L.length false = x := by simp [List.getD_eq_getElem?_getD]

theorem Seek.app {L : List Bool} {v x : Bool} {i k : Nat} (h : Seek L v i (k : Int)) : Seek (L ++ [x]) v i (k : Int) := by
  rcases h with ⟨h, _⟩ | ⟨k', hk, h1, h2, h3, h4⟩
  · omega
  · obtain rfl : k = k' := by omega
    exact Or.inr ⟨k, rfl, h1, by simp; omega, by rw [getD_app L x k h2]; exact h3, fun j a b => by rw [getD_app L x j (by omega)]; exact h4 j a b⟩
theorem Seek.app_none {L : List Bool} {v x : Bool} {i : Nat} (h : Seek L v i (-1)) (hx : x ≠ v) : Seek (L ++ [x]) v i (-1) := by
  rcases h with ⟨_, h⟩ | ⟨k', hk, _⟩
  · refine Or.inl ⟨rfl, fun k h1 h2 => ?_⟩
    by_cases hk : k < L.length
    · rw [getD_app L x k hk]; exact h k h1 hk
    · obtain rfl : k = L.length := by simp at h2; omega
      rw [getD_last]; exact hx
  · omega
theorem Seek.app_last {L : List Bool} {v : Bool} {i : Nat} (h : Seek L v i (-1)) (hi : i ≤ L.length) : Seek (L ++ [v]) v i (L.length : Int) := by
  rcases h with ⟨_, h⟩ | ⟨k', hk, _⟩
  · exact Or.inr ⟨L.length, rfl, hi, by simp, getD_last L v, fun j h1 h2 => by rw [getD_app L v j h2]; exact h j h1 h2⟩
  · omega

theorem EndOf.le {L : List Bool} {k e : Nat} (h : EndOf L k e) : e ≤ L.length := by
  rcases h with h | ⟨_, rfl⟩
  · rcases h.cases with h | ⟨e', he, _, h2⟩
    · omega
    · omega
  · exact Nat.le_refl _

theorem GapsR.app_true {L : List Bool} {i : Nat} {xs : List (Nat × Nat)} (h : GapsR L i xs) : GapsR (L ++ [true]) i xs := by
  induction h with
  | nil h => exact .nil (h.app_none (by simp))
  | cons h he hx ih =>
    refine .cons h.app ?_ ih
    rcases he with he | ⟨he, rfl⟩
    · exact Or.inl he.app
    · refine Or.inl (he.app_last ?_)
      rcases h.cases with h0 | ⟨k, hk, _, h2⟩
      · omega
      · omega

/-- One more in the last row. -/
def bump : List (Nat × Nat) → List (Nat × Nat)
  | [] => []
  | [x] => [(x.1, x.2 + 1)]
  | x :: y :: xs => x :: bump (y :: xs)
theorem bump_cons (x : Nat × Nat) (xs : List (Nat × Nat)) (h : xs ≠ []) : bump (x :: xs) = x :: bump xs := by
  cases xs with
  | nil => exact absurd rfl h
  | cons y xs => rfl

/-- A number that is not in the set, behind the others: it is one more of the last row, or a row of its own. -/
theorem GapsR.app_false {L : List Bool} {i : Nat} {xs : List (Nat × Nat)} (h : GapsR L i xs) (hi : i ≤ L.length) :
    ((i < L.length ∧ L.getD (L.length - 1) false = false) → xs ≠ [] ∧ GapsR (L ++ [false]) i (bump xs)) ∧
    (¬ (i < L.length ∧ L.getD (L.length - 1) false = false) → GapsR (L ++ [false]) i (xs ++ [(L.length, 1)])) := by
  induction h with
  | nil h =>
    constructor
    · rintro ⟨h1, h2⟩
      rcases h with ⟨_, h⟩ | ⟨k', hk, _⟩
      · exact absurd h2 (h _ (by omega) (by omega))
      · omega
    · intro _
      have e : (L ++ [false]).length = L.length + 1 := by simp
      have := GapsR.cons (L := L ++ [false]) (h.app_last hi) (Or.inr ⟨Or.inl ⟨rfl, ?_⟩, e.symm⟩) (.nil (Seek.out (by omega)))
      · simpa using this
      · intro k h1 h2
        obtain rfl : k = L.length := by omega
        rw [getD_last]; simp
  | cons h he hx ih =>
    rename_i i k e xs'
    have hel := he.lt h
    obtain ⟨ih1, ih2⟩ := ih hel.2
    rcases he with he | ⟨he, rfl⟩
    · -- the row ends ahead of the end
      have hlt : e < L.length ∧ L.getD e false = true := by
        rcases he with ⟨h0, _⟩ | ⟨e', he', _, a2, a3, _⟩
        · omega
        · obtain rfl : e = e' := by omega
          exact ⟨a2, a3⟩
      have hiff : (i < L.length ∧ L.getD (L.length - 1) false = false) ↔ (e < L.length ∧ L.getD (L.length - 1) false = false) := by
        constructor
        · rintro ⟨_, h2⟩; exact ⟨hlt.1, h2⟩
        · rintro ⟨_, h2⟩
          refine ⟨?_, h2⟩
          rcases h.cases with h0 | ⟨k', hk', h3, h4⟩
          · omega
          · omega
      constructor
      · intro hp
        obtain ⟨hne, hg⟩ := ih1 (hiff.1 hp)
        refine ⟨by simp, ?_⟩
        rw [bump_cons _ _ hne]
        exact .cons h.app (Or.inl he.app) hg
      · intro hp
        exact .cons h.app (Or.inl he.app) (ih2 (fun hh => hp (hiff.2 hh)))
    · -- it ends at the end
      have hx0 : xs' = [] := hx.uniq (.nil (Seek.out (Nat.le_refl _)))
      subst hx0
      have hk : i ≤ k ∧ k < L.length := by
        rcases h.cases with h0 | ⟨k', hk', h3, h4⟩
        · omega
        · omega
      have hlast : L.getD (L.length - 1) false = false := by
        rcases he with ⟨_, he⟩ | ⟨_, h0, _⟩
        · simpa using he (L.length - 1) (by omega) (by omega)
        · omega
      constructor
      · intro _
        refine ⟨by simp, ?_⟩
        have e : (L ++ [false]).length = L.length + 1 := by simp
        have := GapsR.cons (L := L ++ [false]) h.app (Or.inr ⟨he.app_none (by simp), e.symm⟩) (.nil (Seek.out (by omega)))
        simp only [bump]
        rw [show L.length - k + 1 = L.length + 1 - k by omega]
        exact this
      · intro hp
        exact absurd ⟨by omega, hlast⟩ hp

/-- The gaps of the numbers below i. -/
noncomputable def gapTo (L : List Bool) (i : Nat) : List (Nat × Nat) := gapsL (L.take i)
theorem take_snoc (L : List Bool) (i : Nat) (h : i < L.length) : L.take (i + 1) = L.take i ++ [L.getD i false] := by
  rw [List.take_succ_eq_append_getElem h]
  simp [List.getD_eq_getElem?_getD, h]
theorem gapTo_zero (L : List Bool) : gapTo L 0 = [] := gapsL_eq (.nil (Seek.out (by simp)))
theorem gapTo_full (L : List Bool) : gapTo L L.length = gapsL L := by rw [gapTo, List.take_length]
theorem gapTo_true (L : List Bool) (i : Nat) (h : i < L.length) (hv : L.getD i false = true) : gapTo L (i + 1) = gapTo L i := by
  rw [gapTo, take_snoc L i h, hv]
  exact gapsL_eq (gapsL_is _).app_true
theorem gapTo_new (L : List Bool) (i : Nat) (h : i < L.length) (hv : L.getD i false = false) (hp : i = 0 ∨ L.getD (i - 1) false = true) : gapTo L (i + 1) = gapTo L i ++ [(i, 1)] := by
  have hl : (L.take i).length = i := by simp; omega
  rw [gapTo, take_snoc L i h, hv]
  have := ((gapsL_is (L.take i)).app_false (Nat.zero_le _)).2 ?_
  · rw [hl] at this; exact gapsL_eq this
  · rw [hl]
    rintro ⟨h1, h2⟩
    rcases hp with rfl | hp
    · omega
    · rw [List.getD_eq_getElem?_getD, List.getElem?_take_of_lt (by omega), ← List.getD_eq_getElem?_getD, hp] at h2
      cases h2
theorem gapTo_more (L : List Bool) (i : Nat) (h : i < L.length) (hv : L.getD i false = false) (hi : 0 < i) (hp : L.getD (i - 1) false = false) : gapTo L i ≠ [] ∧ gapTo L (i + 1) = bump (gapTo L i) := by
  have hl : (L.take i).length = i := by simp; omega
  have := ((gapsL_is (L.take i)).app_false (Nat.zero_le _)).1 ?_
  · refine ⟨this.1, ?_⟩
    rw [gapTo, take_snoc L i h, hv]
    exact gapsL_eq this.2
  · rw [hl]
    refine ⟨hi, ?_⟩
    rw [List.getD_eq_getElem?_getD, List.getElem?_take_of_lt (by omega), ← List.getD_eq_getElem?_getD, hp]

end Go.Proofs.YtajdgkbeenalkaaDoor
