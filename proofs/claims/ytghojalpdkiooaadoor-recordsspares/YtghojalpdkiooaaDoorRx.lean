/- Records as bytes: numbers alone, without the program. -/
import Derived.Test.YtghojalpdkiooaaDoorNum
namespace Go.Proofs.YtghojalpdkiooaaDoor

/-- Bytes are those of the number that they say. -/
theorem leB_leV : ∀ (xs : List Int), Byt xs → leB (leV xs) xs.length = xs
  | [], _ => rfl
  | x :: r, h => by
    have ih := leB_leV r h.tail
    have hx := h x (List.mem_cons_self ..)
    have h0 := (leV_bound r h.tail).1
    rw [List.length_cons]
    simp only [leB] at ih ⊢
    rw [List.range_succ_eq_map, List.map_cons, List.map_map]
    have e0 : leV (x :: r) / 2 ^ (8 * 0) % 256 = x := by simp [leV]; omega
    rw [e0]
    congr 1
    have hmap : (List.range r.length).map ((fun j => leV (x :: r) / 2 ^ (8 * j) % 256) ∘ Nat.succ) = (List.range r.length).map (fun j => leV r / 2 ^ (8 * j) % 256) := by
      apply List.map_congr_left
      intro j _
      simp only [Function.comp, Nat.succ_eq_add_one]
      rw [pow_succ8]
      have e1 : leV (x :: r) / (256 * 2 ^ (8 * j)) = leV r / 2 ^ (8 * j) := by
        rw [← Int.ediv_ediv_of_nonneg (by decide : (0 : Int) ≤ 256)]
        congr 1
        simp only [leV]
        omega
      rw [e1]
    rw [hmap]
    exact ih

/-- A record: kind, id, seat, until, clock. -/
structure Rc where
  k : Int
  i : Int
  s : Int
  u : Int
  c : Int
/-- Its numbers are such. -/
structure Rc.Ok (r : Rc) : Prop where
  k0 : -9223372036854775808 ≤ r.k
  k1 : r.k ≤ 9223372036854775807
  i0 : 0 ≤ r.i
  i1 : r.i < 4294967296
  s0 : -9223372036854775808 ≤ r.s
  s1 : r.s ≤ 9223372036854775807
  u0 : -9223372036854775808 ≤ r.u
  u1 : r.u ≤ 9223372036854775807
  c0 : -9223372036854775808 ≤ r.c
  c1 : r.c ≤ 9223372036854775807
/-- The last tick. -/
abbrev mxC : Int := 1099511627776
/-- It may be. -/
def Rc.May (r : Rc) : Prop := (r.k = 1 ∧ 1 ≤ r.i ∧ (0 ≤ r.s ∧ r.s < 1024) ∧ (1 ≤ r.u ∧ r.u ≤ mxC) ∧ r.c = 0) ∨ ((r.k = 2 ∨ r.k = 3) ∧ 1 ≤ r.i ∧ r.s = 0 ∧ r.u = 0 ∧ r.c = 0) ∨ (r.k = 4 ∧ 1 ≤ r.i ∧ (0 ≤ r.s ∧ r.s < 1024) ∧ r.u = 0 ∧ r.c = 0) ∨ (r.k = 5 ∧ r.i = 0 ∧ r.s = 0 ∧ r.u = 0 ∧ (1 ≤ r.c ∧ r.c ≤ mxC))
instance (r : Rc) : Decidable r.May := by unfold Rc.May; exact inferInstance
def zRc : Rc := ⟨0, 0, 0, 0, 0⟩
/-- How many bytes a kind has. -/
def sz (k : Int) : Nat := if k = 1 then 15 else if k = 2 then 5 else if k = 3 then 5 else if k = 4 then 7 else if k = 5 then 9 else 0
/-- A record's bytes. -/
def Rc.out (r : Rc) : List Int := r.k :: (if r.k = 1 then leB r.i 4 ++ leB r.s 2 ++ leB r.u 8 else if r.k = 4 then leB r.i 4 ++ leB r.s 2 else if r.k = 5 then leB r.c 8 else leB r.i 4)
/-- A number of eight bytes as an int64. -/
def i64of (n : Int) : Int := if n < 9223372036854775808 then n else n - 18446744073709551616
/-- The record in bytes. -/
def rcOf (xs : List Int) : Rc :=
  if xs.headD 0 = 1 then ⟨1, leV ((xs.drop 1).take 4), leV ((xs.drop 5).take 2), i64of (leV ((xs.drop 7).take 8)), 0⟩
  else if xs.headD 0 = 4 then ⟨4, leV ((xs.drop 1).take 4), leV ((xs.drop 5).take 2), 0, 0⟩
  else if xs.headD 0 = 5 then ⟨5, 0, 0, 0, i64of (leV ((xs.drop 1).take 8))⟩
  else ⟨xs.headD 0, leV ((xs.drop 1).take 4), 0, 0, 0⟩
/-- What Get answers. -/
def getR (xs : List Int) : Rc × Int :=
  if xs.length = 0 then (zRc, 4) else if sz (xs.headD 0) = 0 then (zRc, 160) else if xs.length < sz (xs.headD 0) then (zRc, 4)
  else if (rcOf xs).May then (if sz (xs.headD 0) < xs.length then (zRc, 5) else (rcOf xs, 0)) else (zRc, 160)

theorem may_kind {r : Rc} (h : r.May) : r.k = 1 ∨ r.k = 2 ∨ r.k = 3 ∨ r.k = 4 ∨ r.k = 5 := by unfold Rc.May at h; omega
theorem sz_pos {k : Int} (h : k = 1 ∨ k = 2 ∨ k = 3 ∨ k = 4 ∨ k = 5) : 0 < sz k := by rcases h with rfl | rfl | rfl | rfl | rfl <;> decide
theorem sz_zero {k : Int} (h : ¬ (1 ≤ k ∧ k ≤ 5)) : sz k = 0 := by
  unfold sz
  rw [if_neg (by omega), if_neg (by omega), if_neg (by omega), if_neg (by omega), if_neg (by omega)]
theorem sz_kind {k : Int} (h : sz k ≠ 0) : k = 1 ∨ k = 2 ∨ k = 3 ∨ k = 4 ∨ k = 5 := by
  apply Classical.byContradiction
  intro hn
  exact h (sz_zero (by omega))
theorem sz_le (k : Int) : sz k ≤ 15 := by
  unfold sz
  split <;> (try omega)
  split <;> (try omega)
  split <;> (try omega)
  split <;> (try omega)
  split <;> omega

/-- The four forms of bytes. -/
theorem out1 {r : Rc} (h : r.k = 1) : r.out = 1 :: (leB r.i 4 ++ leB r.s 2 ++ leB r.u 8) := by unfold Rc.out; rw [if_pos h, h]
theorem out4 {r : Rc} (h : r.k = 4) : r.out = 4 :: (leB r.i 4 ++ leB r.s 2) := by unfold Rc.out; rw [if_neg (by omega), if_pos h, h]
theorem out5 {r : Rc} (h : r.k = 5) : r.out = 5 :: leB r.c 8 := by unfold Rc.out; rw [if_neg (by omega), if_neg (by omega), if_pos h, h]
theorem out2 {r : Rc} (h : r.k = 2 ∨ r.k = 3) : r.out = r.k :: leB r.i 4 := by unfold Rc.out; rw [if_neg (by omega), if_neg (by omega), if_neg (by omega)]
theorem out_length {r : Rc} (h : r.May) : r.out.length = sz r.k := by
  rcases may_kind h with e | e | e | e | e
  · rw [out1 e, e]; simp [leB_length, sz]
  · rw [out2 (Or.inl e), e]; simp [leB_length, sz]
  · rw [out2 (Or.inr e), e]; simp [leB_length, sz]
  · rw [out4 e, e]; simp [leB_length, sz]
  · rw [out5 e, e]; simp [leB_length, sz]
theorem byt_cons {x : Int} {r : List Int} (h : 0 ≤ x ∧ x < 256) (g : Byt r) : Byt (x :: r) := fun y hy => (List.mem_cons.1 hy).elim (fun e => by rw [e]; exact h) (g y)
theorem out_byt {r : Rc} (h : r.May) : Byt r.out := by
  rcases may_kind h with e | e | e | e | e
  · rw [out1 e]; exact byt_cons (by decide) (((byt_leB _ _).append (byt_leB _ _)).append (byt_leB _ _))
  · rw [out2 (Or.inl e)]; exact byt_cons (by omega) (byt_leB _ _)
  · rw [out2 (Or.inr e)]; exact byt_cons (by omega) (byt_leB _ _)
  · rw [out4 e]; exact byt_cons (by decide) ((byt_leB _ _).append (byt_leB _ _))
  · rw [out5 e]; exact byt_cons (by decide) (byt_leB _ _)
theorem out_head (r : Rc) (ys : List Int) : (r.out ++ ys).headD 0 = r.k := rfl

theorem leV4 {n : Int} (h0 : 0 ≤ n) (h1 : n < 4294967296) : leV (leB n 4) = n := by rw [leV_leB n h0]; omega
theorem leV2 {n : Int} (h0 : 0 ≤ n) (h1 : n < 65536) : leV (leB n 2) = n := by rw [leV_leB n h0]; omega
theorem leV8 {n : Int} (h0 : 0 ≤ n) (h1 : n < 18446744073709551616) : leV (leB n 8) = n := by rw [leV_leB n h0]; omega
theorem i64of_small {n : Int} (h1 : n < 9223372036854775808) : i64of n = n := if_pos h1

/-- A record that may be is read of its bytes, whatever lies behind. -/
theorem rcOf_out {r : Rc} (ho : r.Ok) (h : r.May) (ys : List Int) : rcOf (r.out ++ ys) = r := by
  have hi0 := ho.i0
  have hi1 := ho.i1
  obtain ⟨rk, ri, rs, ru, rc⟩ := r
  unfold rcOf
  rw [out_head]
  unfold Rc.May at h
  dsimp only at *
  rcases h with ⟨rfl, h1, h2, h3, rfl⟩ | ⟨hk, h1, rfl, rfl, rfl⟩ | ⟨rfl, h1, h2, rfl, rfl⟩ | ⟨rfl, rfl, rfl, rfl, h1⟩
  · rw [if_pos rfl, out1 rfl]
    have e1 : List.take 4 (List.drop 1 ((1 : Int) :: (leB ri 4 ++ leB rs 2 ++ leB ru 8) ++ ys)) = leB ri 4 := by simp [leB_length, List.drop_append]
    have e2 : List.take 2 (List.drop 5 ((1 : Int) :: (leB ri 4 ++ leB rs 2 ++ leB ru 8) ++ ys)) = leB rs 2 := by simp [leB_length]
    have e3 : List.take 8 (List.drop 7 ((1 : Int) :: (leB ri 4 ++ leB rs 2 ++ leB ru 8) ++ ys)) = leB ru 8 := by simp [leB_length, List.take_append, List.drop_append]
    dsimp only
    rw [e1, e2, e3, leV4 hi0 hi1, leV2 h2.1 (by omega), leV8 (by omega) (by unfold mxC at h3; omega), i64of_small (by unfold mxC at h3; omega)]
  · have e1 : List.take 4 (List.drop 1 (rk :: leB ri 4 ++ ys)) = leB ri 4 := by simp [leB_length]
    rw [if_neg (by omega), if_neg (by omega), if_neg (by omega), out2 hk]
    dsimp only
    rw [e1, leV4 hi0 hi1]
  · rw [if_neg (by decide), if_pos rfl, out4 rfl]
    have e1 : List.take 4 (List.drop 1 ((4 : Int) :: (leB ri 4 ++ leB rs 2) ++ ys)) = leB ri 4 := by simp [leB_length]
    have e2 : List.take 2 (List.drop 5 ((4 : Int) :: (leB ri 4 ++ leB rs 2) ++ ys)) = leB rs 2 := by simp [leB_length]
    dsimp only
    rw [e1, e2, leV4 hi0 hi1, leV2 h2.1 (by omega)]
  · rw [if_neg (by decide), if_neg (by decide), if_pos rfl, out5 rfl]
    have e1 : List.take 8 (List.drop 1 ((5 : Int) :: leB rc 8 ++ ys)) = leB rc 8 := by simp [leB_length]
    dsimp only
    rw [e1, leV8 (by omega) (by unfold mxC at h1; omega), i64of_small (by unfold mxC at h1; omega)]

theorem getR_out {r : Rc} (ho : r.Ok) (h : r.May) : getR r.out = (r, 0) := by
  have hl := out_length h
  have hp := sz_pos (may_kind h)
  have hr := rcOf_out ho h []
  rw [List.append_nil] at hr
  have hh : r.out.headD 0 = r.k := rfl
  unfold getR
  rw [hh, hr, hl, if_neg (by omega), if_neg (by omega), if_neg (by omega), if_pos h, if_neg (by omega)]
theorem getR_more {r : Rc} (ho : r.Ok) (h : r.May) (y : Int) : getR (r.out ++ [y]) = (zRc, 5) := by
  have hl := out_length h
  have hp := sz_pos (may_kind h)
  have hr := rcOf_out ho h [y]
  have hh : (r.out ++ [y]).headD 0 = r.k := rfl
  have hl2 : (r.out ++ [y]).length = sz r.k + 1 := by rw [List.length_append, hl]; rfl
  unfold getR
  rw [hh, hr, hl2, if_neg (by omega), if_neg (by omega), if_neg (by omega), if_pos h, if_pos (by omega)]
theorem getR_less {r : Rc} (h : r.May) (n : Nat) (hn : n < sz r.k) : getR (r.out.take n) = (zRc, 4) := by
  have hl := out_length h
  have hp := sz_pos (may_kind h)
  unfold getR
  by_cases h0 : n = 0
  · subst h0; rw [if_pos (by simp)]
  · obtain ⟨m, rfl⟩ : ∃ m, n = m + 1 := ⟨n - 1, by omega⟩
    have hh : (r.out.take (m + 1)).headD 0 = r.k := rfl
    have hl2 : (r.out.take (m + 1)).length = m + 1 := by rw [List.length_take, hl]; omega
    rw [hh, hl2, if_neg (by omega), if_neg (by omega), if_pos (by omega)]
/-- What is answered, by cases. -/
theorem getR_cases (xs : List Int) : ((getR xs).2 = 0 ∧ (getR xs).1 = rcOf xs ∧ (rcOf xs).May ∧ xs.length = sz (xs.headD 0) ∧ sz (xs.headD 0) ≠ 0) ∨ ((getR xs).1 = zRc ∧ (((getR xs).2 = 4 ∧ (xs.length = 0 ∨ xs.length < sz (xs.headD 0))) ∨ ((getR xs).2 = 160 ∧ xs.length ≠ 0 ∧ (sz (xs.headD 0) = 0 ∨ (sz (xs.headD 0) ≤ xs.length ∧ ¬ (rcOf xs).May))) ∨ ((getR xs).2 = 5 ∧ sz (xs.headD 0) ≠ 0 ∧ sz (xs.headD 0) < xs.length ∧ (rcOf xs).May))) := by
  unfold getR
  by_cases h0 : xs.length = 0
  · rw [if_pos h0]; exact Or.inr ⟨rfl, Or.inl ⟨rfl, Or.inl h0⟩⟩
  · rw [if_neg h0]
    by_cases h1 : sz (xs.headD 0) = 0
    · rw [if_pos h1]; exact Or.inr ⟨rfl, Or.inr (Or.inl ⟨rfl, h0, Or.inl h1⟩)⟩
    · rw [if_neg h1]
      by_cases h2 : xs.length < sz (xs.headD 0)
      · rw [if_pos h2]; exact Or.inr ⟨rfl, Or.inl ⟨rfl, Or.inr h2⟩⟩
      · rw [if_neg h2]
        by_cases h3 : (rcOf xs).May
        · rw [if_pos h3]
          by_cases h4 : sz (xs.headD 0) < xs.length
          · rw [if_pos h4]; exact Or.inr ⟨rfl, Or.inr (Or.inr ⟨rfl, h1, h4, h3⟩)⟩
          · rw [if_neg h4]; exact Or.inl ⟨rfl, rfl, h3, by omega, h1⟩
        · rw [if_neg h3]; exact Or.inr ⟨rfl, Or.inr (Or.inl ⟨rfl, h0, Or.inr ⟨by omega, h3⟩⟩)⟩
theorem i64of_range {n : Int} (h0 : 0 ≤ n) (h1 : n < 18446744073709551616) : -9223372036854775808 ≤ i64of n ∧ i64of n ≤ 9223372036854775807 := by
  unfold i64of; split <;> omega
theorem val4 {xs : List Int} (h : Byt xs) (n : Nat) : 0 ≤ leV ((xs.drop n).take 4) ∧ leV ((xs.drop n).take 4) < 4294967296 := by
  obtain ⟨a, b⟩ := leV_bound _ ((h.drop n).take 4)
  refine ⟨a, Int.lt_of_lt_of_le b ?_⟩
  have : ((xs.drop n).take 4).length ≤ 4 := by rw [List.length_take]; omega
  generalize ((xs.drop n).take 4).length = m at *
  have h5 : m = 0 ∨ m = 1 ∨ m = 2 ∨ m = 3 ∨ m = 4 := by omega
  rcases h5 with rfl | rfl | rfl | rfl | rfl <;> decide
theorem val2 {xs : List Int} (h : Byt xs) (n : Nat) : 0 ≤ leV ((xs.drop n).take 2) ∧ leV ((xs.drop n).take 2) < 65536 := by
  obtain ⟨a, b⟩ := leV_bound _ ((h.drop n).take 2)
  refine ⟨a, Int.lt_of_lt_of_le b ?_⟩
  have : ((xs.drop n).take 2).length ≤ 2 := by rw [List.length_take]; omega
  generalize ((xs.drop n).take 2).length = m at *
  have h5 : m = 0 ∨ m = 1 ∨ m = 2 := by omega
  rcases h5 with rfl | rfl | rfl <;> decide
theorem val8 {xs : List Int} (h : Byt xs) (n : Nat) : 0 ≤ leV ((xs.drop n).take 8) ∧ leV ((xs.drop n).take 8) < 18446744073709551616 := by
  obtain ⟨a, b⟩ := leV_bound _ ((h.drop n).take 8)
  refine ⟨a, Int.lt_of_lt_of_le b ?_⟩
  have : ((xs.drop n).take 8).length ≤ 8 := by rw [List.length_take]; omega
  generalize ((xs.drop n).take 8).length = m at *
  have h5 : m = 0 ∨ m = 1 ∨ m = 2 ∨ m = 3 ∨ m = 4 ∨ m = 5 ∨ m = 6 ∨ m = 7 ∨ m = 8 := by omega
  rcases h5 with rfl | rfl | rfl | rfl | rfl | rfl | rfl | rfl | rfl <;> decide
theorem head_byt {xs : List Int} (h : Byt xs) : 0 ≤ xs.headD 0 ∧ xs.headD 0 < 256 := by
  cases xs with
  | nil => exact ⟨by decide, by decide⟩
  | cons x r => exact h x (List.mem_cons_self ..)
theorem rcOf_ok {xs : List Int} (h : Byt xs) : (rcOf xs).Ok := by
  have a := val4 h 1
  have b := val2 h 5
  have c := i64of_range (val8 h 7).1 (val8 h 7).2
  have d := i64of_range (val8 h 1).1 (val8 h 1).2
  have e := head_byt h
  unfold rcOf
  split
  · exact ⟨by dsimp only; omega, by dsimp only; omega, a.1, a.2, by dsimp only; omega, by dsimp only; omega, c.1, c.2, by dsimp only; omega, by dsimp only; omega⟩
  · split
    · exact ⟨by dsimp only; omega, by dsimp only; omega, a.1, a.2, by dsimp only; omega, by dsimp only; omega, by dsimp only; omega, by dsimp only; omega, by dsimp only; omega, by dsimp only; omega⟩
    · split
      · exact ⟨by dsimp only; omega, by dsimp only; omega, by dsimp only; omega, by dsimp only; omega, by dsimp only; omega, by dsimp only; omega, by dsimp only; omega, by dsimp only; omega, d.1, d.2⟩
      · exact ⟨by dsimp only; omega, by dsimp only; omega, a.1, a.2, by dsimp only; omega, by dsimp only; omega, by dsimp only; omega, by dsimp only; omega, by dsimp only; omega, by dsimp only; omega⟩
theorem rcOf_k (xs : List Int) : (rcOf xs).k = xs.headD 0 := by
  unfold rcOf
  split
  · rename_i h; exact h.symm
  · split
    · rename_i h; exact h.symm
    · split
      · rename_i h; exact h.symm
      · rfl
theorem back_n {xs : List Int} (h : Byt xs) (n m : Nat) (hl : n + m ≤ xs.length) : leB (leV ((xs.drop n).take m)) m = (xs.drop n).take m := by
  have := leB_leV _ ((h.drop n).take m)
  rw [show ((xs.drop n).take m).length = m by rw [List.length_take, List.length_drop]; omega] at this
  exact this
theorem i64of_may {n : Int} (h1 : n < 18446744073709551616) (h : 1 ≤ i64of n) : i64of n = n := by
  unfold i64of at h ⊢; split at h <;> rename_i hh
  · rw [if_pos hh]
  · omega
/-- What was read is written so. -/
theorem out_rcOf {xs : List Int} (h : Byt xs) (hm : (rcOf xs).May) (hl : xs.length = sz (xs.headD 0)) : (rcOf xs).out = xs := by
  have hk := may_kind hm
  rw [rcOf_k] at hk
  have hcons : ∀ n, xs.length = n + 1 → xs = xs.headD 0 :: xs.drop 1 := by
    intro n hn
    cases xs with
    | nil => cases hn
    | cons x r => rfl
  rcases hk with e | e | e | e | e
  · have hl15 : xs.length = 15 := by rw [hl, e]; rfl
    have e0 := hcons 14 hl15
    have er : rcOf xs = ⟨1, leV ((xs.drop 1).take 4), leV ((xs.drop 5).take 2), i64of (leV ((xs.drop 7).take 8)), 0⟩ := by unfold rcOf; rw [if_pos e]
    rw [er] at hm ⊢
    have hu : 1 ≤ i64of (leV ((xs.drop 7).take 8)) := by unfold Rc.May at hm; dsimp only at hm; omega
    rw [out1 rfl]
    dsimp only
    rw [i64of_may (val8 h 7).2 hu, back_n h 1 4 (by omega), back_n h 5 2 (by omega), back_n h 7 8 (by omega)]
    conv => rhs; rw [e0, e]
    congr 1
    have d5 : xs.drop 5 = (xs.drop 1).drop 4 := by rw [List.drop_drop]
    have d7 : xs.drop 7 = ((xs.drop 1).drop 4).drop 2 := by rw [List.drop_drop, List.drop_drop]
    have t8 : ((xs.drop 7).take 8) = xs.drop 7 := List.take_of_length_le (by rw [List.length_drop]; omega)
    rw [t8, d7, d5, List.append_assoc, List.take_append_drop, List.take_append_drop]
  · have hl5 : xs.length = 5 := by rw [hl, e]; rfl
    have e0 := hcons 4 hl5
    have er : rcOf xs = ⟨xs.headD 0, leV ((xs.drop 1).take 4), 0, 0, 0⟩ := by unfold rcOf; rw [if_neg (by omega), if_neg (by omega), if_neg (by omega)]
    rw [er, out2 (Or.inl e)]
    dsimp only
    rw [back_n h 1 4 (by omega), List.take_of_length_le (by rw [List.length_drop]; omega)]
    exact e0.symm
  · have hl5 : xs.length = 5 := by rw [hl, e]; rfl
    have e0 := hcons 4 hl5
    have er : rcOf xs = ⟨xs.headD 0, leV ((xs.drop 1).take 4), 0, 0, 0⟩ := by unfold rcOf; rw [if_neg (by omega), if_neg (by omega), if_neg (by omega)]
    rw [er, out2 (Or.inr e)]
    dsimp only
    rw [back_n h 1 4 (by omega), List.take_of_length_le (by rw [List.length_drop]; omega)]
    exact e0.symm
  · have hl7 : xs.length = 7 := by rw [hl, e]; rfl
    have e0 := hcons 6 hl7
    have er : rcOf xs = ⟨4, leV ((xs.drop 1).take 4), leV ((xs.drop 5).take 2), 0, 0⟩ := by unfold rcOf; rw [if_neg (by omega), if_pos e]
    rw [er, out4 rfl]
    dsimp only
    rw [back_n h 1 4 (by omega), back_n h 5 2 (by omega)]
    conv => rhs; rw [e0, e]
    congr 1
    have d5 : xs.drop 5 = (xs.drop 1).drop 4 := by rw [List.drop_drop]
    have t8 : ((xs.drop 5).take 2) = xs.drop 5 := List.take_of_length_le (by rw [List.length_drop]; omega)
    rw [t8, d5, List.take_append_drop]
  · have hl9 : xs.length = 9 := by rw [hl, e]; rfl
    have e0 := hcons 8 hl9
    have er : rcOf xs = ⟨5, 0, 0, 0, i64of (leV ((xs.drop 1).take 8))⟩ := by unfold rcOf; rw [if_neg (by omega), if_neg (by omega), if_pos e]
    rw [er] at hm ⊢
    have hu : 1 ≤ i64of (leV ((xs.drop 1).take 8)) := by unfold Rc.May at hm; dsimp only at hm; omega
    rw [out5 rfl]
    dsimp only
    rw [i64of_may (val8 h 1).2 hu, back_n h 1 8 (by omega), List.take_of_length_le (by rw [List.length_drop]; omega)]
    conv => rhs; rw [e0, e]
/-- More behind does not turn what is read. -/
theorem rcOf_append (xs ys : List Int) (hl : sz (xs.headD 0) ≤ xs.length) (h0 : sz (xs.headD 0) ≠ 0) : rcOf (xs ++ ys) = rcOf xs := by
  have hk := sz_kind h0
  have hh : (xs ++ ys).headD 0 = xs.headD 0 := by
    cases xs with
    | nil => exfalso; rw [List.length_nil] at hl; omega
    | cons x r => rfl
  have tk : ∀ n m, n + m ≤ xs.length → ((xs ++ ys).drop n).take m = (xs.drop n).take m := by
    intro n m hnm
    rw [List.drop_append_of_le_length (by omega), List.take_append_of_le_length (by rw [List.length_drop]; omega)]
  unfold rcOf
  rw [hh]
  rcases hk with e | e | e | e | e
  · rw [e] at hl; have hl : 15 ≤ xs.length := hl
    rw [if_pos e, if_pos e, tk 1 4 (by omega), tk 5 2 (by omega), tk 7 8 (by omega)]
  · rw [e] at hl; have hl : 5 ≤ xs.length := hl
    rw [if_neg (by omega), if_neg (by omega), if_neg (by omega), if_neg (by omega), if_neg (by omega), if_neg (by omega), tk 1 4 (by omega)]
  · rw [e] at hl; have hl : 5 ≤ xs.length := hl
    rw [if_neg (by omega), if_neg (by omega), if_neg (by omega), if_neg (by omega), if_neg (by omega), if_neg (by omega), tk 1 4 (by omega)]
  · rw [e] at hl; have hl : 7 ≤ xs.length := hl
    rw [if_neg (by omega), if_pos e, if_neg (by omega), if_pos e, tk 1 4 (by omega), tk 5 2 (by omega)]
  · rw [e] at hl; have hl : 9 ≤ xs.length := hl
    rw [if_neg (by omega), if_neg (by omega), if_pos e, if_neg (by omega), if_neg (by omega), if_pos e, tk 1 8 (by omega)]
/-- Which error, whatever comes behind. -/
theorem getR_append (xs ys : List Int) : ((getR xs).2 = 0 → (getR (xs ++ ys)).2 = if ys.length = 0 then 0 else 5) ∧ ((getR xs).2 = 5 → (getR (xs ++ ys)).2 = 5) ∧ ((getR xs).2 = 160 → (getR (xs ++ ys)).2 = 160) := by
  have hh : xs.length ≠ 0 → (xs ++ ys).headD 0 = xs.headD 0 := by
    intro hl
    cases xs with
    | nil => exact absurd rfl hl
    | cons x r => rfl
  rcases getR_cases xs with ⟨e, _, hm, hl, h0⟩ | ⟨_, ⟨e, _⟩ | ⟨e, h0, h1⟩ | ⟨e, h0, hl, hm⟩⟩
  · refine ⟨fun _ => ?_, fun h => by omega, fun h => by omega⟩
    have hr := rcOf_append xs ys (by omega) h0
    unfold getR
    rw [hh (by omega), hr, List.length_append, if_neg (by omega), if_neg h0, if_neg (by omega), if_pos hm]
    by_cases hy : ys.length = 0
    · rw [if_neg (by omega), if_pos hy]
    · rw [if_pos (by omega), if_neg hy]
  · exact ⟨fun h => by omega, fun h => by omega, fun h => by omega⟩
  · refine ⟨fun h => by omega, fun h => by omega, fun _ => ?_⟩
    unfold getR
    rw [hh h0, List.length_append, if_neg (by omega)]
    rcases h1 with h1 | ⟨h1, h2⟩
    · rw [if_pos h1]
    · by_cases h3 : sz (xs.headD 0) = 0
      · rw [if_pos h3]
      · rw [if_neg h3, if_neg (by omega), rcOf_append xs ys h1 h3, if_neg h2]
  · refine ⟨fun h => by omega, fun _ => ?_, fun h => by omega⟩
    unfold getR
    rw [hh (by omega), rcOf_append xs ys (by omega) h0, List.length_append, if_neg (by omega), if_neg h0, if_neg (by omega), if_pos hm, if_pos (by omega)]
end Go.Proofs.YtghojalpdkiooaaDoor
