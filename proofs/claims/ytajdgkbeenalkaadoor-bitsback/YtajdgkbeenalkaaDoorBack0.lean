/- What BitsBack leans on: a set and its bytes, its numbers, its gaps: plain lemmas. -/
import Derived.Test.YtajdgkbeenalkaaDoorOf
import Derived.Test.YtajdgkbeenalkaaDoorGap
namespace Go.Proofs.YtajdgkbeenalkaaDoor
open Go.RowKit Go.Shelf

/-- The set's bytes as numbers. -/
def bytesN (L : List Bool) : List Nat := (List.range ((L.length + 7) / 8)).map fun k => bytN L k
theorem bytesN_length (L : List Bool) : (bytesN L).length = (L.length + 7) / 8 := by simp [bytesN]
theorem bytesN_lt (L : List Bool) : ∀ x ∈ bytesN L, x < 256 := by
  intro x hx
  rw [bytesN, List.mem_map] at hx
  obtain ⟨k, _, rfl⟩ := hx
  exact bytN_lt L k
theorem bytesN_vals (L : List Bool) : ((bytesN L).map fun (x : Nat) => Value.int .u8 (x : Int)) = (bytesL L).map (Value.int .u8) := by simp [bytesN, bytesL]
theorem bytesN_bit (L : List Bool) (i : Nat) : bitB (bytesN L) i = L.getD i false := by
  by_cases hi : i / 8 < (L.length + 7) / 8
  · unfold bitB
    have : (bytesN L).getD (i / 8) 0 = bytN L (i / 8) := by simp [bytesN, List.getD_eq_getElem?_getD, hi]
    rw [this, bytN, ofB_bit]
    have h1 : i % 8 < 8 := Nat.mod_lt _ (by decide)
    rw [show 8 * (i / 8) + i % 8 = i by omega]
    simp [h1]
  · rw [bitB_out _ _ (by rw [bytesN_length]; omega), getD_out L i (by omega)]
theorem ofL_bytes (L : List Bool) : ofL (bytesN L) L.length = L := by
  apply List.ext_getElem (by simp [ofL])
  intro i h1 h2
  simp [ofL, bytesN_bit, List.getD_eq_getElem?_getD, h2]

/-- Put one behind the other. -/
def putAll (M : List Bool) (xs : List Nat) : List Bool := xs.foldl (fun M (x : Nat) => putF M (x : Int)) M
theorem putAll_snoc (M : List Bool) (xs : List Nat) (x : Nat) : putAll M (xs ++ [x]) = putF (putAll M xs) (x : Int) := by simp [putAll]
theorem putAll_length (M : List Bool) (xs : List Nat) : (putAll M xs).length = M.length := by
  induction xs generalizing M with
  | nil => rfl
  | cons x xs ih => rw [putAll, List.foldl_cons]; exact (ih _).trans (putF_length M _)
theorem putF_nat (M : List Bool) (x i : Nat) (hx : x < M.length) : (putF M (x : Int)).getD i false = if i = x then true else M.getD i false := by
  unfold putF
  rw [if_pos (by omega), Int.toNat_natCast, getD_set M x true hx]
theorem putAll_allTo (L : List Bool) (m j : Nat) (hm : L.length < m) (hj : j ≤ L.length) (i : Nat) : (putAll (List.replicate m false) (allTo L j)).getD i false = (decide (i < j) && L.getD i false) := by
  induction j generalizing i with
  | zero =>
    show (List.replicate m false).getD i false = _
    rw [List.getD_eq_getElem?_getD, List.getElem?_replicate]
    split <;> simp
  | succ j ih =>
    rw [allTo_succ]
    cases hv : L.getD j false with
    | false =>
      simp only [Bool.false_eq_true, if_false, List.append_nil]
      rw [ih (by omega)]
      by_cases e : i = j
      · subst e; rw [hv]; simp
      · have : decide (i < j + 1) = decide (i < j) := by rw [decide_eq_decide]; omega
        rw [this]
    | true =>
      simp only [if_true]
      rw [putAll_snoc, putF_nat _ _ _ (by rw [putAll_length]; simp; omega), ih (by omega)]
      by_cases e : i = j
      · subst e; rw [hv]; simp
      · rw [if_neg e]
        have : decide (i < j + 1) = decide (i < j) := by rw [decide_eq_decide]; omega
        rw [this]
theorem putAll_all (L : List Bool) : putAll (List.replicate (L.length + 1) false) (allL L) = L ++ [false] := by
  apply List.ext_getElem (by rw [putAll_length]; simp)
  intro i h1 h2
  have := putAll_allTo L (L.length + 1) L.length (by omega) (Nat.le_refl _) i
  rw [show allTo L L.length = allL L from rfl, List.getD_eq_getElem?_getD, List.getElem?_eq_getElem h1, Option.getD_some] at this
  rw [this]
  by_cases hi : i < L.length
  · simp [hi, List.getD_eq_getElem?_getD]
  · simp [hi]
    rw [List.getElem_append_right (by omega)]
    simp
theorem cntL_app (L : List Bool) : cntL (L ++ [false]) = cntL L := by
  unfold cntL
  rw [List.length_append]
  show cnt _ L.length + ((L ++ [false]).getD L.length false).toNat = _
  rw [getD_last]
  show cnt _ L.length + 0 = _
  rw [Nat.add_zero]
  exact cnt_congr _ _ _ (fun i hi => getD_app L false i hi)
theorem allTo_len (L : List Bool) (j : Nat) : (allTo L j).length = cnt (fun i => L.getD i false) j := by
  induction j with
  | zero => rfl
  | succ j ih =>
    rw [allTo_succ, List.length_append, ih, cnt]
    cases L.getD j false <;> rfl
theorem allL_len (L : List Bool) : (allL L).length = cntL L := allTo_len L L.length

/-- The next number from 'at' on, in the row of all. -/
theorem all_next (L : List Bool) (a : Nat) (ha : a < L.length) (hv : L.getD a false = true) : (allL L)[(allTo L a).length]? = some a := by
  have h1 := allTo_succ L a
  rw [hv] at h1
  obtain ⟨t, ht⟩ := allTo_prefix L (a + 1) L.length (by omega)
  rw [h1] at ht
  rw [allL, ← ht]
  simp
/-- What is told behind k numbers lies beyond. -/
theorem all_beyond (L : List Bool) (a x : Nat) (hx : (allL L)[(allTo L a).length]? = some x) : a ≤ x ∧ x < L.length ∧ L.getD x false = true := by
  have hm : x ∈ allL L := List.mem_of_getElem? hx
  rw [allL, allTo, List.mem_filter] at hm
  obtain ⟨h1, h2⟩ := hm
  have h1' := List.mem_range.1 h1
  refine ⟨?_, h1', by simpa using h2⟩
  by_cases hax : a ≤ x
  · exact hax
  · exfalso
    have hlt : x < a := by omega
    have h4 := all_next L x h1' (by simpa using h2)
    have h5 : (allTo L x).length < (allTo L a).length := by
      have := (allTo_prefix L (x + 1) a (by omega)).length_le
      rw [allTo_succ, show L.getD x false = true by simpa using h2] at this
      simp at this
      omega
    have hnd : (allL L).Nodup := List.nodup_range.filter _
    have := (List.getElem?_inj (List.getElem?_eq_some_iff.1 h4).1 hnd).1 (h4.trans hx.symm)
    omega
theorem GapsR.step {L : List Bool} {a : Nat} {xs : List (Nat × Nat)} (h : GapsR L a xs) (hv : L.getD a false = true) : GapsR L (a + 1) xs := by
  have key : ∀ r, Seek L false a r → Seek L false (a + 1) r := by
    intro r hr
    rcases hr with ⟨rfl, hr⟩ | ⟨k, rfl, h1, h2, h3, h4⟩
    · exact Or.inl ⟨rfl, fun k h1 h2 => hr k (by omega) h2⟩
    · have : k ≠ a := by rintro rfl; rw [hv] at h3; cases h3
      exact Or.inr ⟨k, rfl, by omega, h2, h3, fun j h5 h6 => h4 j (by omega) h6⟩
  cases h with
  | nil h => exact .nil (key _ h)
  | cons h he hx => exact .cons (key _ h) he hx
/-- At 'at' a row begins, or 'at' is in the set. -/
theorem GapsR.at {L : List Bool} {a : Nat} {xs : List (Nat × Nat)} (h : GapsR L a xs) (ha : a < L.length) (hv : L.getD a false = false) : ∃ e xs', xs = (a, e - a) :: xs' ∧ a < e ∧ e ≤ L.length ∧ GapsR L e xs' ∧ (∀ j, a ≤ j → j < e → L.getD j false = false) ∧ (e < L.length → L.getD e false = true) := by
  have hs : Seek L false a (a : Int) := Or.inr ⟨a, rfl, Nat.le_refl _, ha, hv, fun j h1 h2 => by omega⟩
  cases h with
  | nil h => have := h.uniq hs; omega
  | cons h he hx =>
    rename_i k e xs'
    have hk := Int.ofNat.inj (h.uniq hs)
    subst hk
    have hl := he.lt h
    refine ⟨e, xs', rfl, hl.1, hl.2, hx, ?_, ?_⟩
    · intro j h1 h2
      rcases he with he | ⟨he, rfl⟩
      · rcases he with ⟨h0, _⟩ | ⟨e', he', _, _, _, h4⟩
        · omega
        · obtain rfl : e = e' := by omega
          have := h4 j h1 h2
          simpa using this
      · rcases he with ⟨_, he⟩ | ⟨_, h0, _⟩
        · have := he j h1 h2
          simpa using this
        · omega
    · intro hlt
      rcases he with he | ⟨_, rfl⟩
      · rcases he with ⟨h0, _⟩ | ⟨e', he', _, _, h3, _⟩
        · omega
        · obtain rfl : e = e' := by omega
          exact h3
      · omega
/-- A row that is told from e on begins beyond e, where e is in the set or is the bound. -/
theorem GapsR.beyond {L : List Bool} {e : Nat} {x : Nat × Nat} {xs : List (Nat × Nat)} (h : GapsR L e (x :: xs)) (hv : e < L.length → L.getD e false = true) : e < x.1 := by
  cases h with
  | cons h he hx =>
    rcases h with ⟨h0, _⟩ | ⟨k', hk, h1, h2, h3, _⟩
    · omega
    · have e1 := Int.ofNat.inj hk
      subst e1
      rename_i k2 _ _
      rcases Nat.lt_or_ge e k2 with hlt | hge
      · exact hlt
      · obtain rfl : e = k2 := by omega
        rw [hv h2] at h3; cases h3

end Go.Proofs.YtajdgkbeenalkaaDoor
