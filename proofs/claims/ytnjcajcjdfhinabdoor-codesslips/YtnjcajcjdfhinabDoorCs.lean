/- Slips, numbers alone: one letter in another's place, two letters that changed places. -/
import Derived.Test.YtnjcajcjdfhinabDoorCn
namespace Go.Proofs.YtnjcajcjdfhinabDoor.Cn

theorem df_set : ∀ (l : List Nat) (i d : Nat), df (l.set i d) l ≤ 1
  | [], _, _ => by simp [df]
  | x :: r, 0, d => by simp only [List.set_cons_zero, df, df_self]; split <;> omega
  | x :: r, i + 1, d => by
    have := df_set r i d
    simp only [List.set_cons_succ, df, if_true]; omega
theorem tx_inj {a b : Nat} (h : tx a = tx b) : wo a = wo b := by
  have h1 := wts_map (wo a) (wo_low a)
  have h2 := wts_map (wo b) (wo_low b)
  unfold tx at h
  rw [← h1, ← h2, h]
/-- A code with one letter in the place of another one. -/
theorem slip_one {id i d : Nat} (hid : id < 4294967296) (hd : d < 32) :
    (prs ((tx id).set i (lt d)) = (id, 0, 0) ∧ (tx id).set i (lt d) = tx id) ∨ ((tx id).set i (lt d) ≠ tx id ∧ (prs ((tx id).set i (lt d))).1 = 0 ∧ (prs ((tx id).set i (lt d))).2.2 = 150) := by
  by_cases h : (tx id).set i (lt d) = tx id
  · rw [h]; exact Or.inl ⟨prs_tx hid, rfl⟩
  · refine Or.inr ⟨h, ?_⟩
    by_cases hc : (prs ((tx id).set i (lt d))).2.2 = 0
    · exfalso
      obtain ⟨n, k, hp⟩ : ∃ n k, prs ((tx id).set i (lt d)) = (n, k, 0) := ⟨_, (prs ((tx id).set i (lt d))).2.1, by rw [← hc]⟩
      obtain ⟨_, hn, htx⟩ := prs_ok hp
      have hs : (tx id).set i (lt d) = ((wo id).set i d).map lt := by unfold tx; rw [List.map_set]
      have hlow : Low ((wo id).set i d) := by
        intro x hx
        rcases List.mem_or_eq_of_mem_set hx with h1 | h1
        · exact wo_low id x h1
        · omega
      have hw : wo n = (wo id).set i d := by
        rw [hs] at htx
        have h1 := wts_map (wo n) (wo_low n)
        rw [show (wo n).map lt = tx n from rfl, htx, wts_map _ hlow] at h1
        exact h1.symm
      have h1 := df_set (wo id) i d
      rw [← hw] at h1
      have h2 := nr_one n id
      unfold nr at h2
      have h3 : df (wo n) (wo id) = 0 := by omega
      have h4 := df_zero (wo n) (wo id) rfl h3
      apply h
      rw [← htx]
      unfold tx
      rw [h4]
    · obtain ⟨h1, h2, _⟩ := prs_no (n := (prs ((tx id).set i (lt d))).1) (k := (prs ((tx id).set i (lt d))).2.1) (c := (prs ((tx id).set i (lt d))).2.2) rfl hc
      exact ⟨h2, h1⟩

/-- What is nought of a code. -/
def syn (l : List Nat) : Nat := l.foldl (fun c d => dbl c ^^^ d) 0
theorem dbl_xor {x y : Nat} (hx : x < 32) (hy : y < 32) : dbl (x ^^^ y) = dbl x ^^^ dbl y := by
  have := (by decide +kernel : ∀ x y : Fin 32, dbl (x.1 ^^^ y.1) = dbl x.1 ^^^ dbl y.1) ⟨x, hx⟩ ⟨y, hy⟩
  exact this
theorem syn_lin : ∀ (l m : List Nat) (c d : Nat), l.length = m.length → Low l → Low m → c < 32 → d < 32 →
    (List.zipWith (· ^^^ ·) l m).foldl (fun c d => dbl c ^^^ d) (c ^^^ d) = l.foldl (fun c d => dbl c ^^^ d) c ^^^ m.foldl (fun c d => dbl c ^^^ d) d
  | [], [], _, _, _, _, _, _, _ => rfl
  | x :: r, y :: s, c, d, h, hl, hm, hc, hd => by
    have hx := hl x (by simp)
    have hy := hm y (by simp)
    have e : dbl (c ^^^ d) ^^^ (x ^^^ y) = (dbl c ^^^ x) ^^^ (dbl d ^^^ y) := by
      rw [dbl_xor hc hd, Nat.xor_assoc, Nat.xor_assoc, ← Nat.xor_assoc (dbl d), Nat.xor_comm (dbl d) x, Nat.xor_assoc x]
    simp only [List.zipWith_cons_cons, List.foldl_cons, e]
    exact syn_lin r s _ _ (by simpa using h) (fun z hz => hl z (by simp [hz])) (fun z hz => hm z (by simp [hz])) (xor_lt (dbl_lt hc) hx) (xor_lt (dbl_lt hd) hy)
theorem chk_syn : ∀ (l : List Nat) (c : Nat), chk (dbl c) l = dbl (l.foldl (fun c d => dbl c ^^^ d) c)
  | [], _ => rfl
  | x :: r, c => chk_syn r (dbl c ^^^ x)
theorem syn_wo (id : Nat) : syn (wo id) = 0 := by
  unfold syn wo
  rw [List.foldl_append]
  have := chk_syn (dg id) 0
  rw [show dbl 0 = 0 from rfl] at this
  simp [this]
/-- x at two places. -/
def pat (i k x : Nat) : List Nat := (List.range 8).map fun p => if p = i ∨ p = k then x else 0
theorem syn_pat {i k x : Nat} (hi : i < 8) (hk : k < 8) (hx : x < 32) (hne : i ≠ k) (h : syn (pat i k x) = 0) : x = 0 := by
  have := (by decide +kernel : ∀ (i k : Fin 8) (x : Fin 32), i.1 ≠ k.1 → syn (pat i.1 k.1 x.1) = 0 → x.1 = 0) ⟨i, hi⟩ ⟨k, hk⟩ ⟨x, hx⟩ hne h
  exact this
theorem swap_pat {l : List Nat} {i k a b : Nat} (hlen : l.length = 8) (hi : l[i]? = some a) (hk : l[k]? = some b) : List.zipWith (· ^^^ ·) l ((l.set i b).set k a) = pat i k (a ^^^ b) := by
  have hil := (List.getElem?_eq_some_iff.1 hi).1
  have hkl := (List.getElem?_eq_some_iff.1 hk).1
  apply List.ext_getElem?
  intro p
  rw [List.getElem?_zipWith]
  by_cases hp : p < 8
  · have hpl : p < l.length := by omega
    have e1 : (pat i k (a ^^^ b))[p]? = some (if p = i ∨ p = k then a ^^^ b else 0) := by
      unfold pat; simp only [List.getElem?_map, List.getElem?_range hp, Option.map_some]
    rw [e1, List.getElem?_set, List.getElem?_set, List.length_set]
    by_cases h1 : k = p
    · subst h1
      rw [hk, if_pos rfl, if_pos hkl, if_pos (Or.inr rfl)]
      simp [Nat.xor_comm]
    · rw [if_neg h1]
      by_cases h2 : i = p
      · subst h2
        rw [hi, if_pos rfl, if_pos hil, if_pos (Or.inl rfl)]
      · rw [if_neg h2, if_neg (by omega), List.getElem?_eq_getElem hpl]
        simp
  · rw [List.getElem?_eq_none (l := l) (by omega)]
    unfold pat
    rw [List.getElem?_eq_none (l := List.map _ _) (by simp; omega)]
/-- A code of which two letters have changed places. -/
theorem slip_two {id i k : Nat} {x y : UInt8} (hid : id < 4294967296) (hi : (tx id)[i]? = some x) (hk : (tx id)[k]? = some y) :
    (prs (((tx id).set i y).set k x) = (id, 0, 0) ∧ ((tx id).set i y).set k x = tx id) ∨ (((tx id).set i y).set k x ≠ tx id ∧ (prs (((tx id).set i y).set k x)).1 = 0 ∧ (prs (((tx id).set i y).set k x)).2.2 = 150) := by
  by_cases h : ((tx id).set i y).set k x = tx id
  · rw [h]; exact Or.inl ⟨prs_tx hid, rfl⟩
  · refine Or.inr ⟨h, ?_⟩
    by_cases hc : (prs (((tx id).set i y).set k x)).2.2 = 0
    · exfalso
      obtain ⟨n, z, hp⟩ : ∃ n z, prs (((tx id).set i y).set k x) = (n, z, 0) := ⟨_, (prs (((tx id).set i y).set k x)).2.1, by rw [← hc]⟩
      obtain ⟨_, hn, htx⟩ := prs_ok hp
      have hil : i < 8 := by have := (List.getElem?_eq_some_iff.1 hi).1; rwa [tx_len] at this
      have hkl : k < 8 := by have := (List.getElem?_eq_some_iff.1 hk).1; rwa [tx_len] at this
      obtain ⟨a, ha⟩ : ∃ a, (wo id)[i]? = some a := ⟨_, List.getElem?_eq_getElem (by rw [wo_len]; exact hil)⟩
      obtain ⟨b, hb⟩ : ∃ b, (wo id)[k]? = some b := ⟨_, List.getElem?_eq_getElem (by rw [wo_len]; exact hkl)⟩
      have hx : x = lt a := by
        unfold tx at hi; rw [List.getElem?_map, ha] at hi; exact (Option.some.inj hi).symm
      have hy : y = lt b := by
        unfold tx at hk; rw [List.getElem?_map, hb] at hk; exact (Option.some.inj hk).symm
      have hal := wo_low id a (List.mem_of_getElem? ha)
      have hbl := wo_low id b (List.mem_of_getElem? hb)
      have hs : ((tx id).set i y).set k x = (((wo id).set i b).set k a).map lt := by
        unfold tx; rw [hx, hy, List.map_set, List.map_set]
      have hlow : Low (((wo id).set i b).set k a) := by
        intro z hz
        rcases List.mem_or_eq_of_mem_set hz with h1 | h1
        · rcases List.mem_or_eq_of_mem_set h1 with h2 | h2
          · exact wo_low id z h2
          · omega
        · omega
      have hw : wo n = ((wo id).set i b).set k a := by
        rw [hs] at htx
        have h1 := wts_map (wo n) (wo_low n)
        rw [show (wo n).map lt = tx n from rfl, htx, wts_map _ hlow] at h1
        exact h1.symm
      by_cases hne : i = k
      · subst hne
        rw [ha] at hb
        cases hb
        apply h
        rw [hs]
        unfold tx
        congr 1
        rw [List.set_set]
        apply List.ext_getElem?
        intro p
        rw [List.getElem?_set]
        split
        · rename_i e; subst e; rw [if_pos (by rw [wo_len]; exact hil), ha]
        · rfl
      · have hl := syn_lin (wo id) (wo n) 0 0 rfl (wo_low id) (wo_low n) (by decide) (by decide)
        have hz1 := syn_wo id
        have hz2 := syn_wo n
        unfold syn at hz1 hz2
        rw [hz1, hz2, hw, swap_pat (wo_len id) ha hb] at hl
        have h0 : a ^^^ b = 0 := syn_pat hil hkl (xor_lt hal hbl) hne hl
        have hab : a = b := by
          have := congrArg (· ^^^ b) h0
          simpa [Nat.xor_assoc] using this
        subst hab
        apply h
        rw [hs]
        unfold tx
        congr 1
        apply List.ext_getElem?
        intro p
        rw [List.getElem?_set, List.getElem?_set, List.length_set]
        split
        · rename_i e; subst e; rw [if_pos (by rw [wo_len]; exact hkl), hb]
        · split
          · rename_i e; subst e; rw [if_pos (by rw [wo_len]; exact hil), ha]
          · rfl
    · obtain ⟨h1, h2, _⟩ := prs_no (n := (prs (((tx id).set i y).set k x)).1) (k := (prs (((tx id).set i y).set k x)).2.1) (c := (prs (((tx id).set i y).set k x)).2.2) rfl hc
      exact ⟨h2, h1⟩
end Go.Proofs.YtnjcajcjdfhinabDoor.Cn
