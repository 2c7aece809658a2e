/- Codes, numbers alone: digits, the check, texts, what is read of a text. -/
import Derived.Laws.Strings
namespace Go.Proofs.YtnjcajcjdfhinabDoor.Cn

/-- The letters. -/
def lets : List UInt8 := [50, 51, 52, 53, 54, 55, 56, 57, 65, 66, 67, 68, 69, 70, 71, 72, 74, 75, 76, 77, 78, 80, 81, 82, 83, 84, 85, 86, 87, 88, 89, 90]
/-- The letter of a worth. -/
def lt (d : Nat) : UInt8 := lets.getD d 0
/-- The worth of a letter; -1: it is none. -/
def wr (x : UInt8) : Int := if lets.contains x then (lets.idxOf x : Int) else -1
/-- Doubled. -/
def dbl (x : Nat) : Nat := if x < 16 then 2 * x else (2 * x) ^^^ 37
/-- The check, begun with c. -/
def chk (c : Nat) (l : List Nat) : Nat := l.foldl (fun c d => dbl (c ^^^ d)) c
/-- An id's digits. -/
def dg (id : Nat) : List Nat := [id / 1073741824 % 32, id / 33554432 % 32, id / 1048576 % 32, id / 32768 % 32, id / 1024 % 32, id / 32 % 32, id % 32]
/-- The worths of a code. -/
def wo (id : Nat) : List Nat := dg id ++ [chk 0 (dg id)]
/-- A code. -/
def tx (id : Nat) : List UInt8 := (wo id).map lt
/-- Digits as a number. -/
def num (n : Nat) (l : List Nat) : Nat := l.foldl (fun n d => n * 32 + d) n
/-- Where two rows are unlike. -/
def df : List Nat → List Nat → Nat
  | x :: r, y :: s => (if x = y then 0 else 1) + df r s
  | _, _ => 0
/-- Near. -/
def nr (a b : Nat) : Nat := df (wo a) (wo b)
/-- Below 32. -/
def Low (l : List Nat) : Prop := ∀ x ∈ l, x < 32

theorem dbl_lt {x : Nat} (h : x < 32) : dbl x < 32 := (by decide : ∀ x : Fin 32, dbl x.1 < 32) ⟨x, h⟩
theorem dbl_inj {x y : Nat} (hx : x < 32) (hy : y < 32) (h : dbl x = dbl y) : x = y := by
  have := (by decide : ∀ x y : Fin 32, dbl x.1 = dbl y.1 → x = y) ⟨x, hx⟩ ⟨y, hy⟩ h
  exact congrArg Fin.val this
theorem xor_lt {x y : Nat} (hx : x < 32) (hy : y < 32) : x ^^^ y < 32 := Nat.xor_lt_two_pow (n := 5) hx hy
theorem chk_lt : ∀ {l : List Nat} {c : Nat}, c < 32 → Low l → chk c l < 32
  | [], _, hc, _ => hc
  | x :: r, c, hc, hl => chk_lt (l := r) (dbl_lt (xor_lt hc (hl x (by simp)))) (fun y hy => hl y (by simp [hy]))
theorem chk_snoc (c : Nat) (l : List Nat) (x : Nat) : chk c (l ++ [x]) = dbl (chk c l ^^^ x) := by simp [chk, List.foldl_append]
theorem num_snoc (n : Nat) (l : List Nat) (x : Nat) : num n (l ++ [x]) = num n l * 32 + x := by simp [num, List.foldl_append]
theorem dg_low (id : Nat) : Low (dg id) := by
  intro x hx
  simp only [dg, List.mem_cons, List.not_mem_nil, or_false] at hx
  rcases hx with rfl | rfl | rfl | rfl | rfl | rfl | rfl <;> exact Nat.mod_lt _ (by decide)
theorem dg_len (id : Nat) : (dg id).length = 7 := rfl
theorem wo_len (id : Nat) : (wo id).length = 8 := rfl
theorem wo_low (id : Nat) : Low (wo id) := by
  intro x hx
  simp only [wo, List.mem_append, List.mem_singleton] at hx
  rcases hx with h | rfl
  · exact dg_low id x h
  · exact chk_lt (by decide) (dg_low id)
theorem tx_len (id : Nat) : (tx id).length = 8 := rfl
theorem num_dg {id : Nat} (h : id < 4294967296) : num 0 (dg id) = id := by
  simp only [num, dg, List.foldl_cons, List.foldl_nil]; omega
theorem dg_num {a b c d e f g : Nat} (ha : a < 32) (hb : b < 32) (hc : c < 32) (hd : d < 32) (he : e < 32) (hf : f < 32) (hg : g < 32) : dg (num 0 [a, b, c, d, e, f, g]) = [a, b, c, d, e, f, g] := by
  simp only [num, dg, List.foldl_cons, List.foldl_nil, List.cons.injEq, and_true]
  refine ⟨?_, ?_, ?_, ?_, ?_, ?_, ?_⟩ <;> omega

theorem lets_len : lets.length = 32 := rfl
theorem lt_wr {d : Nat} (h : d < 32) : wr (lt d) = (d : Int) := by
  have := (by decide +kernel : ∀ d : Fin 32, wr (lt d.1) = (d.1 : Int)) ⟨d, h⟩
  exact this
theorem wr_cases (x : UInt8) : wr x = -1 ∨ ∃ d : Nat, d < 32 ∧ wr x = (d : Int) ∧ lt d = x := by
  unfold wr
  split
  · rename_i h
    have hm : x ∈ lets := by simpa using h
    have hi : lets.idxOf x < 32 := by have := List.idxOf_lt_length_of_mem hm; rwa [lets_len] at this
    refine Or.inr ⟨_, hi, rfl, ?_⟩
    unfold lt
    rw [List.getD_eq_getElem?_getD, List.getElem?_eq_getElem (by rw [lets_len]; exact hi)]
    simp
  · exact Or.inl rfl
theorem wr_lt (x : UInt8) : wr x < 32 := by rcases wr_cases x with h | ⟨d, h1, h2, _⟩ <;> omega
theorem lt_inj {a b : Nat} (ha : a < 32) (hb : b < 32) (h : lt a = lt b) : a = b := by
  have h1 := lt_wr ha
  rw [h, lt_wr hb] at h1
  omega

/-- How many of the first eight bytes are letters, from the first one on. -/
def pre (s : List UInt8) : Nat := ((s.take 8).takeWhile fun x => decide (0 ≤ wr x)).length
/-- The worths of letters. -/
def wts (s : List UInt8) : List Nat := s.map fun x => (wr x).toNat
/-- What Parse tells: the id, the place, the code. -/
def prs (s : List UInt8) : Nat × Nat × Nat :=
  if pre s < 8 then (0, pre s, 150)
  else if 8 < s.length then (0, 8, 150)
  else if 4294967295 < num 0 ((wts s).take 7) then (0, 0, 150)
  else if (wts s).getD 7 0 ≠ chk 0 ((wts s).take 7) then (0, 7, 150)
  else (num 0 ((wts s).take 7), 0, 0)

theorem pre_le (s : List UInt8) : pre s ≤ 8 ∧ pre s ≤ s.length := by
  unfold pre
  have h1 := (List.takeWhile_prefix (p := fun x => decide (0 ≤ wr x)) (l := s.take 8)).length_le
  rw [List.length_take] at h1
  omega
/-- The first pre s bytes are letters. -/
theorem pre_at {s : List UInt8} {j : Nat} (h : j < pre s) : ∃ x, s[j]? = some x ∧ 0 ≤ wr x := by
  unfold pre at h
  have hm : ((s.take 8).takeWhile fun x => decide (0 ≤ wr x))[j]'h ∈ (s.take 8).takeWhile fun x => decide (0 ≤ wr x) := List.getElem_mem h
  have hp := List.all_takeWhile (p := fun x => decide (0 ≤ wr x)) (l := s.take 8)
  rw [List.all_eq_true] at hp
  have h2 := hp _ hm
  refine ⟨_, ?_, of_decide_eq_true h2⟩
  have h3 := List.takeWhile_prefix (p := fun x => decide (0 ≤ wr x)) (l := s.take 8)
  obtain ⟨t, ht⟩ := h3
  have h4 : (s.take 8)[j]? = some (((s.take 8).takeWhile fun x => decide (0 ≤ wr x))[j]'h) := by
    conv => lhs; rw [← ht]
    rw [List.getElem?_append_left h, List.getElem?_eq_getElem h]
  rw [List.getElem?_take] at h4
  split at h4
  · exact h4
  · cases h4
/-- If j bytes are letters, and the next one is none or lacks, or j is 8, that is pre. -/
theorem pre_is {s : List UInt8} {j : Nat} (hj : j ≤ 8) (h1 : ∀ i, i < j → ∃ x, s[i]? = some x ∧ 0 ≤ wr x) (h2 : j = 8 ∨ s[j]? = none ∨ ∃ x, s[j]? = some x ∧ wr x < 0) : pre s = j := by
  have ha := pre_le s
  rcases Nat.lt_trichotomy (pre s) j with h | h | h
  · exfalso
    obtain ⟨x, hx, h0⟩ := h1 _ h
    have : pre s < pre s := by
      conv => rhs; unfold pre
      have e : s.take 8 = s.take (pre s) ++ x :: (s.take 8).drop (pre s + 1) := by
        have e1 : (s.take 8).drop (pre s) = x :: (s.take 8).drop (pre s + 1) := by
          rw [List.drop_eq_getElem?_toList_append]
          rw [List.getElem?_take, if_pos (by omega), hx]; rfl
        have e2 : (s.take 8).take (pre s) = s.take (pre s) := by rw [List.take_take, Nat.min_eq_left (by omega)]
        rw [← e1, ← e2, List.take_append_drop]
      rw [e, List.takeWhile_append_of_pos]
      · rw [List.takeWhile_cons_of_pos (by simpa using h0)]
        simp only [List.length_append, List.length_take, List.length_cons]
        omega
      · intro y hy
        obtain ⟨i, hi, rfl⟩ := List.getElem_of_mem hy
        rw [List.length_take] at hi
        obtain ⟨z, hz, hz0⟩ := pre_at (s := s) (j := i) (by omega)
        have : (s.take (pre s))[i]? = some z := by rw [List.getElem?_take, if_pos (by omega)]; exact hz
        rw [List.getElem?_eq_getElem (by rw [List.length_take]; omega)] at this
        rw [Option.some.inj this]
        simpa using hz0
    omega
  · exact h
  · exfalso
    obtain ⟨x, hx, h0⟩ := pre_at h
    rcases h2 with h2 | h2 | ⟨y, hy, hy0⟩
    · omega
    · rw [h2] at hx; cases hx
    · rw [hy] at hx; cases hx; omega

theorem wts_map (l : List Nat) (h : Low l) : wts (l.map lt) = l := by
  unfold wts
  rw [List.map_map]
  conv => rhs; rw [← List.map_id l]
  apply List.map_congr_left
  intro x hx
  simp [lt_wr (h x hx)]
theorem pre_tx (id : Nat) : pre (tx id) = 8 := by
  refine pre_is (by omega) (fun i hi => ?_) (Or.inl rfl)
  have hl : i < (wo id).length := by rw [wo_len]; exact hi
  refine ⟨lt ((wo id)[i]), by unfold tx; rw [List.getElem?_map, List.getElem?_eq_getElem hl]; rfl, ?_⟩
  rw [lt_wr (wo_low id _ (List.getElem_mem hl))]
  omega
theorem prs_tx {id : Nat} (h : id < 4294967296) : prs (tx id) = (id, 0, 0) := by
  unfold prs
  have e : wts (tx id) = wo id := wts_map _ (wo_low id)
  have e7 : (wo id).take 7 = dg id := by unfold wo; rw [List.take_left' (dg_len id)]
  have e8 : (wo id).getD 7 0 = chk 0 (dg id) := rfl
  rw [e, e7, e8, pre_tx, tx_len, num_dg h]
  simp
  omega
/-- Eight letters are told by their worths. -/
theorem eight {s : List UInt8} (hp : pre s = 8) (hl : s.length = 8) : s = (wts s).map lt ∧ Low (wts s) ∧ (wts s).length = 8 := by
  have hx : ∀ x ∈ s, 0 ≤ wr x := by
    intro x hx
    obtain ⟨i, hi, rfl⟩ := List.getElem_of_mem hx
    obtain ⟨y, hy, h0⟩ := pre_at (s := s) (j := i) (by omega)
    rw [List.getElem?_eq_getElem hi] at hy
    rw [Option.some.inj hy]; exact h0
  refine ⟨?_, ?_, by simp [wts, hl]⟩
  · unfold wts
    rw [List.map_map]
    conv => lhs; rw [← List.map_id s]
    apply List.map_congr_left
    intro x hxs
    rcases wr_cases x with h | ⟨d, h1, h2, h3⟩
    · have := hx x hxs; omega
    · simp [h2, h3]
  · intro y hy
    unfold wts at hy
    rw [List.mem_map] at hy
    obtain ⟨x, _, rfl⟩ := hy
    have := wr_lt x
    omega
/-- What is read is written so. -/
theorem prs_ok {s : List UInt8} {n k : Nat} (h : prs s = (n, k, 0)) : k = 0 ∧ n < 4294967296 ∧ tx n = s := by
  unfold prs at h
  by_cases h1 : pre s < 8
  · rw [if_pos h1] at h; simp at h
  · rw [if_neg h1] at h
    by_cases h2 : 8 < s.length
    · rw [if_pos h2] at h; simp at h
    · rw [if_neg h2] at h
      have hp := pre_le s
      obtain ⟨e1, e2, e3⟩ := eight (s := s) (by omega) (by omega)
      generalize wts s = l at *
      match l, e3 with
      | [a, b, c, d, e, f, g, z], _ =>
        have h7 : ([a, b, c, d, e, f, g, z] : List Nat).getD 7 0 = z := rfl
        have h6 : ([a, b, c, d, e, f, g, z] : List Nat).take 7 = [a, b, c, d, e, f, g] := rfl
        rw [h6, h7] at h
        have hd := dg_num (e2 a (by simp)) (e2 b (by simp)) (e2 c (by simp)) (e2 d (by simp)) (e2 e (by simp)) (e2 f (by simp)) (e2 g (by simp))
        by_cases h3 : 4294967295 < num 0 [a, b, c, d, e, f, g]
        · rw [if_pos h3] at h; simp at h
        · rw [if_neg h3] at h
          by_cases h4 : z ≠ chk 0 [a, b, c, d, e, f, g]
          · rw [if_pos h4] at h; simp at h
          · rw [if_neg h4] at h
            simp only [Prod.mk.injEq, and_true] at h
            obtain ⟨rfl, rfl⟩ := h
            refine ⟨rfl, by omega, ?_⟩
            have h5 : z = chk 0 [a, b, c, d, e, f, g] := by omega
            rw [e1, tx, wo, hd, ← h5]
            rfl
theorem prs_no {s : List UInt8} {n k c : Nat} (h : prs s = (n, k, c)) (hc : c ≠ 0) : c = 150 ∧ n = 0 ∧ k ≤ 8 ∧ k ≤ s.length := by
  unfold prs at h
  have hp := pre_le s
  by_cases h1 : pre s < 8
  · rw [if_pos h1] at h
    simp only [Prod.mk.injEq] at h
    omega
  · rw [if_neg h1] at h
    by_cases h2 : 8 < s.length
    · rw [if_pos h2] at h
      simp only [Prod.mk.injEq] at h
      omega
    · rw [if_neg h2] at h
      split at h
      · simp only [Prod.mk.injEq] at h; omega
      · split at h
        · simp only [Prod.mk.injEq] at h; omega
        · simp only [Prod.mk.injEq] at h; omega
theorem prs_code (s : List UInt8) : (prs s).2.2 = 0 ∨ (prs s).2.2 = 150 := by
  by_cases h : (prs s).2.2 = 0
  · exact Or.inl h
  · exact Or.inr (prs_no (n := (prs s).1) (k := (prs s).2.1) (c := (prs s).2.2) rfl h).1

theorem df_self : ∀ l : List Nat, df l l = 0
  | [] => rfl
  | x :: r => by simp [df, df_self r]
theorem df_symm : ∀ l m : List Nat, df l m = df m l
  | [], [] => rfl
  | [], _ :: _ => rfl
  | _ :: _, [] => rfl
  | x :: r, y :: s => by
    simp only [df, df_symm r s]
    by_cases h : x = y
    · simp [h]
    · rw [if_neg h, if_neg (fun e => h e.symm)]
theorem df_tri : ∀ l m n : List Nat, l.length = m.length → m.length = n.length → df l n ≤ df l m + df m n
  | [], [], [], _, _ => by simp [df]
  | x :: r, y :: s, z :: t, h1, h2 => by
    have := df_tri r s t (by simpa using h1) (by simpa using h2)
    simp only [df]
    by_cases h3 : x = y
    · subst h3; simp only [if_pos]; omega
    · rw [if_neg h3]; split <;> omega
theorem df_zero : ∀ l m : List Nat, l.length = m.length → df l m = 0 → l = m
  | [], [], _, _ => rfl
  | x :: r, y :: s, h1, h2 => by
    simp only [df] at h2
    by_cases h3 : x = y
    · subst h3; rw [df_zero r s (by simpa using h1) (by omega)]
    · rw [if_neg h3] at h2; omega
theorem df_snoc : ∀ (l m : List Nat) (x y : Nat), l.length = m.length → df (l ++ [x]) (m ++ [y]) = df l m + if x = y then 0 else 1
  | [], [], x, y, _ => by simp [df]
  | a :: r, b :: s, x, y, h => by
    have := df_snoc r s x y (by simpa using h)
    simp only [List.cons_append, df, this]; omega
theorem df_le : ∀ l m : List Nat, df l m ≤ l.length
  | [], _ => by simp [df]
  | _ :: _, [] => by simp [df]
  | x :: r, y :: s => by
    have := df_le r s
    simp only [df, List.length_cons]; split <;> omega
theorem xor_cancel {a b c : Nat} (h : a ^^^ c = b ^^^ c) : a = b := by
  have := congrArg (· ^^^ c) h
  simpa [Nat.xor_assoc] using this
theorem xor_cancel' {a b c : Nat} (h : c ^^^ a = c ^^^ b) : a = b := by
  rw [Nat.xor_comm c a, Nat.xor_comm c b] at h; exact xor_cancel h
theorem chk_apart : ∀ (l : List Nat) (c d : Nat), c < 32 → d < 32 → Low l → c ≠ d → chk c l ≠ chk d l
  | [], _, _, _, _, _, h => h
  | x :: r, c, d, hc, hd, hl, h => by
    have hx := hl x (by simp)
    refine chk_apart r _ _ (dbl_lt (xor_lt hc hx)) (dbl_lt (xor_lt hd hx)) (fun y hy => hl y (by simp [hy])) (fun e => h ?_)
    exact xor_cancel (dbl_inj (xor_lt hc hx) (xor_lt hd hx) e)
theorem chk_one : ∀ (l m : List Nat) (c : Nat), c < 32 → Low l → Low m → l.length = m.length → df l m = 1 → chk c l ≠ chk c m
  | [], [], _, _, _, _, _, h => by simp [df] at h
  | x :: r, y :: s, c, hc, hl, hm, hlen, h => by
    have hx := hl x (by simp)
    have hy := hm y (by simp)
    have hr : Low r := fun z hz => hl z (by simp [hz])
    have hs : Low s := fun z hz => hm z (by simp [hz])
    have hlen' : r.length = s.length := by simpa using hlen
    simp only [df] at h
    by_cases h3 : x = y
    · subst h3
      exact chk_one r s _ (dbl_lt (xor_lt hc hx)) hr hs hlen' (by simpa using h)
    · rw [if_neg h3] at h
      have : r = s := df_zero r s hlen' (by omega)
      subst this
      exact chk_apart r _ _ (dbl_lt (xor_lt hc hx)) (dbl_lt (xor_lt hc hy)) hr (fun e => h3 (xor_cancel' (dbl_inj (xor_lt hc hx) (xor_lt hc hy) e)))
theorem nr_symm (a b : Nat) : nr a b = nr b a := df_symm _ _
theorem nr_le (a b : Nat) : nr a b ≤ 8 := df_le (wo a) (wo b)
theorem nr_tri (a b c : Nat) : nr a c ≤ nr a b + nr b c := df_tri (wo a) (wo b) (wo c) rfl rfl
theorem nr_one (a b : Nat) : nr a b ≠ 1 := by
  unfold nr wo
  rw [df_snoc (dg a) (dg b) _ _ rfl]
  intro h
  by_cases h1 : df (dg a) (dg b) = 0
  · have := df_zero (dg a) (dg b) rfl h1
    rw [this] at h
    simp [df_self] at h
  · have h2 : df (dg a) (dg b) = 1 := by split at h <;> omega
    have h3 := chk_one (dg a) (dg b) 0 (by decide) (dg_low a) (dg_low b) rfl h2
    rw [if_neg h3] at h
    omega
theorem wo_inj {a b : Nat} (ha : a < 4294967296) (hb : b < 4294967296) (h : wo a = wo b) : a = b := by
  unfold wo at h
  have h1 := List.append_inj_left h rfl
  rw [← num_dg ha, ← num_dg hb, h1]
theorem nr_zero {a b : Nat} (ha : a < 4294967296) (hb : b < 4294967296) : nr a b = 0 ↔ a = b := by
  constructor
  · intro h; exact wo_inj ha hb (df_zero (wo a) (wo b) rfl h)
  · rintro rfl; exact df_self _
end Go.Proofs.YtnjcajcjdfhinabDoor.Cn
