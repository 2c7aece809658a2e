/- Requests as bytes: numbers alone, without the program. -/
import Derived.Test.YtkocmlfklokngaaNum
namespace Go.Proofs.Ytkocmlfklokngaa
/-- Bytes are those of the number that they say. -/
theorem leB_leV : ∀ (xs : List Int), Byt xs → leB (leV xs) xs.length = xs
  | [], _ => rfl
  | x :: r, h => by
    have ih := leB_leV r h.tail
    have hx := h x (List.mem_cons_self ..)
    have h0 := (leV_bound r h.tail).1
    rw [List.length_cons]
    simp only [leB] at ih ⊢
    rw [List.range_succ_eq_map, List.map_cons, List.map_map]
    have e0 : leV (x :: r) / 2 ^ (8 * 0) % 256 = x := by simp [leV]; omega
    rw [e0]
    congr 1
    have hmap : (List.range r.length).map ((fun j => leV (x :: r) / 2 ^ (8 * j) % 256) ∘ Nat.succ) = (List.range r.length).map (fun j => leV r / 2 ^ (8 * j) % 256) := by
      apply List.map_congr_left
      intro j _
      simp only [Function.comp, Nat.succ_eq_add_one]
      rw [pow_succ8]
      have e1 : leV (x :: r) / (256 * 2 ^ (8 * j)) = leV r / 2 ^ (8 * j) := by
        rw [← Int.ediv_ediv_of_nonneg (by decide : (0 : Int) ≤ 256)]
        congr 1
        simp only [leV]
        omega
      rw [e1]
    rw [hmap]
    exact ih
/-- A request: kind, tag, id, seat, ttl. -/
structure Rq where
  k : Int
  t : Int
  i : Int
  s : Int
  u : Int
/-- Its numbers are such. -/
structure Rq.Ok (q : Rq) : Prop where
  k0 : -9223372036854775808 ≤ q.k
  k1 : q.k ≤ 9223372036854775807
  t0 : 0 ≤ q.t
  t1 : q.t < 4294967296
  i0 : 0 ≤ q.i
  i1 : q.i < 4294967296
  s0 : -9223372036854775808 ≤ q.s
  s1 : q.s ≤ 9223372036854775807
  u0 : -9223372036854775808 ≤ q.u
  u1 : q.u ≤ 9223372036854775807
/-- What a kind has. -/
def hI (k : Int) : Bool := decide (k = 2 ∨ k = 3 ∨ k = 4 ∨ k = 5)
def hS (k : Int) : Bool := decide (k = 1 ∨ k = 4 ∨ k = 6)
def hL (k : Int) : Bool := decide (k = 1 ∨ k = 7)
/-- A number in its place. -/
def inP (b : Bool) (n m : Int) : Bool := if b then decide (0 ≤ n ∧ n ≤ m) else decide (n = 0)
/-- It may be. -/
def Rq.mayB (q : Rq) : Bool := decide (1 ≤ q.k ∧ q.k ≤ 10) && (inP (hI q.k) q.i 4294967295 && (inP (hS q.k) q.s 65535 && inP (hL q.k) q.u 9223372036854775807))
def Rq.May (q : Rq) : Prop := q.mayB = true
instance (q : Rq) : Decidable q.May := by unfold Rq.May; exact inferInstance
/-- What Check answers. -/
def chk (q : Rq) : Int := if q.May then 0 else 200
def zRq : Rq := ⟨0, 0, 0, 0, 0⟩
def ifB (b : Bool) (xs : List Int) : List Int := if b then xs else []
def ifN (b : Bool) (n : Nat) : Nat := if b then n else 0
/-- Its bytes. -/
def Rq.out (q : Rq) : List Int := q.k :: (leB q.t 4 ++ (ifB (hI q.k) (leB q.i 4) ++ (ifB (hS q.k) (leB q.s 2) ++ ifB (hL q.k) (leB q.u 8))))
def sz (k : Int) : Nat := 5 + (ifN (hI k) 4 + (ifN (hS k) 2 + ifN (hL k) 8))
/-- A number of eight bytes as an int64. -/
def i64of (n : Int) : Int := if n < 9223372036854775808 then n else n - 18446744073709551616
/-- The number of the n bytes at a place, if a kind has it. -/
def num (b : Bool) (xs : List Int) (a n : Nat) : Int := if b then leV ((xs.drop a).take n) else 0
/-- The request in bytes. -/
def rqOf (xs : List Int) : Rq := ⟨xs.headD 0, leV ((xs.drop 1).take 4), num (hI (xs.headD 0)) xs 5 4, num (hS (xs.headD 0)) xs (5 + ifN (hI (xs.headD 0)) 4) 2, i64of (num (hL (xs.headD 0)) xs (5 + (ifN (hI (xs.headD 0)) 4 + ifN (hS (xs.headD 0)) 2)) 8)⟩
/-- What Get answers. -/
def getQ (xs : List Int) : Rq × Int := if xs.length = sz (xs.headD 0) ∧ (rqOf xs).May then (rqOf xs, 0) else (zRq, 200)

theorem may_parts {q : Rq} (h : q.May) : (1 ≤ q.k ∧ q.k ≤ 10) ∧ inP (hI q.k) q.i 4294967295 = true ∧ inP (hS q.k) q.s 65535 = true ∧ inP (hL q.k) q.u 9223372036854775807 = true := by
  unfold Rq.May Rq.mayB at h
  simp only [Bool.and_eq_true, decide_eq_true_eq] at h
  exact h
theorem inP_true {b : Bool} {n m : Int} (hm : 0 ≤ m) (h : inP b n m = true) : 0 ≤ n ∧ n ≤ m ∧ (b = false → n = 0) := by
  unfold inP at h
  cases b with
  | false => rw [if_neg (by decide)] at h; have := of_decide_eq_true h; subst this; exact ⟨by omega, hm, fun _ => rfl⟩
  | true => rw [if_pos rfl] at h; have := of_decide_eq_true h; exact ⟨this.1, this.2, fun e => by cases e⟩
/-- What may be has numbers that their bytes hold. -/
theorem may_nums {q : Rq} (h : q.May) : (1 ≤ q.k ∧ q.k ≤ 10) ∧ (0 ≤ q.i ∧ q.i ≤ 4294967295 ∧ (hI q.k = false → q.i = 0)) ∧ (0 ≤ q.s ∧ q.s ≤ 65535 ∧ (hS q.k = false → q.s = 0)) ∧ (0 ≤ q.u ∧ q.u ≤ 9223372036854775807 ∧ (hL q.k = false → q.u = 0)) := by
  obtain ⟨a, b, c, d⟩ := may_parts h
  exact ⟨a, inP_true (by decide) b, inP_true (by decide) c, inP_true (by decide) d⟩
theorem ifB_length (b : Bool) (xs : List Int) : (ifB b xs).length = ifN b xs.length := by cases b <;> rfl
theorem out_length (q : Rq) : q.out.length = sz q.k := by
  unfold Rq.out sz
  rw [List.length_cons, List.length_append, List.length_append, List.length_append, ifB_length, ifB_length, ifB_length, leB_length, leB_length, leB_length, leB_length]
  omega
theorem ifN_le (b : Bool) (n : Nat) : ifN b n ≤ n := by cases b <;> simp [ifN]
theorem sz_le (k : Int) : 5 ≤ sz k ∧ sz k ≤ 15 := by
  unfold sz
  refine ⟨by omega, ?_⟩
  by_cases h : hI k = true
  · have h3 : hL k = false := by unfold hI hL at *; have := of_decide_eq_true h; apply decide_eq_false; omega
    rw [h3]
    have := ifN_le (hI k) 4
    have := ifN_le (hS k) 2
    simp only [ifN]
    have : (if false = true then 8 else 0) = 0 := rfl
    unfold ifN at *
    omega
  · have h1 : hI k = false := by simpa using h
    rw [h1]
    have := ifN_le (hS k) 2
    have := ifN_le (hL k) 8
    unfold ifN at *
    simp only [if_neg (by decide : ¬ (false = true))]
    omega
theorem byt_cons {x : Int} {r : List Int} (h : 0 ≤ x ∧ x < 256) (g : Byt r) : Byt (x :: r) := fun y hy => (List.mem_cons.1 hy).elim (fun e => by rw [e]; exact h) (g y)
theorem byt_nil : Byt [] := fun _ h => by cases h
theorem byt_ifB {b : Bool} {xs : List Int} (h : Byt xs) : Byt (ifB b xs) := by cases b with | false => exact byt_nil | true => exact h
theorem out_byt {q : Rq} (h : q.May) : Byt q.out := by
  have hk := (may_nums h).1
  unfold Rq.out
  exact byt_cons (by omega) ((byt_leB _ _).append ((byt_ifB (byt_leB _ _)).append ((byt_ifB (byt_leB _ _)).append (byt_ifB (byt_leB _ _)))))
theorem out_head (q : Rq) (ys : List Int) : (q.out ++ ys).headD 0 = q.k := rfl
theorem leV4 {n : Int} (h0 : 0 ≤ n) (h1 : n < 4294967296) : leV (leB n 4) = n := by rw [leV_leB n h0]; omega
theorem leV2 {n : Int} (h0 : 0 ≤ n) (h1 : n < 65536) : leV (leB n 2) = n := by rw [leV_leB n h0]; omega
theorem leV8 {n : Int} (h0 : 0 ≤ n) (h1 : n < 18446744073709551616) : leV (leB n 8) = n := by rw [leV_leB n h0]; omega
theorem i64of_small {n : Int} (h1 : n < 9223372036854775808) : i64of n = n := if_pos h1
theorem take_pre (xs ys : List Int) (n : Nat) (h : xs.length = n) : (xs ++ ys).take n = xs := by rw [← h, List.take_left]
theorem drop_pre (xs ys : List Int) (n : Nat) (h : xs.length = n) : (xs ++ ys).drop n = ys := by rw [← h, List.drop_left]
/-- A part is read where it was written. -/
theorem num_at (b : Bool) (p r : List Int) (a n m : Nat) (v : Int) (hp : p.length = a) (hn : n = m) (hv : leV (leB v m) = v) (h0 : b = false → v = 0) : num b (p ++ (ifB b (leB v m) ++ r)) a n = v := by
  subst hn
  unfold num
  cases b with
  | false => rw [if_neg (by decide), h0 rfl]
  | true => rw [if_pos rfl, drop_pre _ _ _ hp, show ifB true (leB v n) = leB v n from rfl, take_pre _ _ _ (leB_length _ _), hv]
/-- A request that may be is read of its bytes, whatever lies behind. -/
theorem rqOf_out {q : Rq} (ho : q.Ok) (h : q.May) (ys : List Int) : rqOf (q.out ++ ys) = q := by
  obtain ⟨hk, ⟨hi0, hi1, hi2⟩, ⟨hs0, hs1, hs2⟩, hu0, hu1, hu2⟩ := may_nums h
  have ht0 := ho.t0
  have ht1 := ho.t1
  obtain ⟨k, t, i, s, u⟩ := q
  unfold rqOf
  rw [out_head]
  dsimp only at *
  have e0 : (Rq.mk k t i s u).out ++ ys = (k :: leB t 4) ++ (ifB (hI k) (leB i 4) ++ ((ifB (hS k) (leB s 2) ++ ifB (hL k) (leB u 8)) ++ ys)) := by unfold Rq.out; simp
  have e1 : (Rq.mk k t i s u).out ++ ys = ((k :: leB t 4) ++ ifB (hI k) (leB i 4)) ++ (ifB (hS k) (leB s 2) ++ (ifB (hL k) (leB u 8) ++ ys)) := by unfold Rq.out; simp
  have e2 : (Rq.mk k t i s u).out ++ ys = (((k :: leB t 4) ++ ifB (hI k) (leB i 4)) ++ ifB (hS k) (leB s 2)) ++ (ifB (hL k) (leB u 8) ++ ys) := by unfold Rq.out; simp
  have e3 : ((Rq.mk k t i s u).out ++ ys).drop 1 = leB t 4 ++ ((ifB (hI k) (leB i 4) ++ (ifB (hS k) (leB s 2) ++ ifB (hL k) (leB u 8))) ++ ys) := by unfold Rq.out; simp
  have r1 : leV ((((Rq.mk k t i s u).out ++ ys).drop 1).take 4) = t := by rw [e3, take_pre _ _ _ (leB_length _ _), leV4 ht0 ht1]
  have r2 : num (hI k) ((Rq.mk k t i s u).out ++ ys) 5 4 = i := by
    rw [e0]; exact num_at _ _ _ _ _ 4 _ (by simp [leB_length]) rfl (leV4 hi0 (by omega)) hi2
  have r3 : num (hS k) ((Rq.mk k t i s u).out ++ ys) (5 + ifN (hI k) 4) 2 = s := by
    rw [e1]; exact num_at _ _ _ _ _ 2 _ (by rw [List.length_append, List.length_cons, ifB_length, leB_length, leB_length]) rfl (leV2 hs0 (by omega)) hs2
  have r4 : num (hL k) ((Rq.mk k t i s u).out ++ ys) (5 + (ifN (hI k) 4 + ifN (hS k) 2)) 8 = u := by
    rw [e2]; exact num_at _ _ _ _ _ 8 _ (by rw [List.length_append, List.length_append, List.length_cons, ifB_length, ifB_length, leB_length, leB_length, leB_length]; omega) rfl (leV8 hu0 (by omega)) hu2
  rw [r1, r2, r3, r4, i64of_small (by omega)]
theorem getQ_out {q : Rq} (ho : q.Ok) (h : q.May) : getQ q.out = (q, 0) := by
  have hr := rqOf_out ho h []
  rw [List.append_nil] at hr
  have hh : q.out.headD 0 = q.k := rfl
  unfold getQ
  rw [hh, hr, if_pos ⟨out_length q, h⟩]
theorem getQ_more {q : Rq} (y : Int) (ys : List Int) : getQ (q.out ++ y :: ys) = (zRq, 200) := by
  have hh : (q.out ++ y :: ys).headD 0 = q.k := rfl
  unfold getQ
  rw [hh, if_neg (by rw [List.length_append, out_length, List.length_cons]; omega)]
theorem getQ_less (q : Rq) (n : Nat) (hn : n < sz q.k) : getQ (q.out.take n) = (zRq, 200) := by
  have h5 := (sz_le 0).1
  unfold getQ
  by_cases h0 : n = 0
  · subst h0
    have e : (q.out.take 0) = [] := List.take_zero
    rw [e, if_neg (by intro h; have h2 : 0 = sz 0 := h.1; omega)]
  · obtain ⟨m, rfl⟩ : ∃ m, n = m + 1 := ⟨n - 1, by omega⟩
    have hh : (q.out.take (m + 1)).headD 0 = q.k := rfl
    rw [hh, if_neg (by rw [List.length_take, out_length]; omega)]
theorem i64of_range {n : Int} (h0 : 0 ≤ n) (h1 : n < 18446744073709551616) : -9223372036854775808 ≤ i64of n ∧ i64of n ≤ 9223372036854775807 := by
  unfold i64of; split <;> omega
theorem val4 {xs : List Int} (h : Byt xs) (n : Nat) : 0 ≤ leV ((xs.drop n).take 4) ∧ leV ((xs.drop n).take 4) < 4294967296 := by
  obtain ⟨a, b⟩ := leV_bound _ ((h.drop n).take 4)
  refine ⟨a, Int.lt_of_lt_of_le b ?_⟩
  have : ((xs.drop n).take 4).length ≤ 4 := by rw [List.length_take]; omega
  generalize ((xs.drop n).take 4).length = m at *
  have h5 : m = 0 ∨ m = 1 ∨ m = 2 ∨ m = 3 ∨ m = 4 := by omega
  rcases h5 with rfl | rfl | rfl | rfl | rfl <;> decide
theorem val2 {xs : List Int} (h : Byt xs) (n : Nat) : 0 ≤ leV ((xs.drop n).take 2) ∧ leV ((xs.drop n).take 2) < 65536 := by
  obtain ⟨a, b⟩ := leV_bound _ ((h.drop n).take 2)
  refine ⟨a, Int.lt_of_lt_of_le b ?_⟩
  have : ((xs.drop n).take 2).length ≤ 2 := by rw [List.length_take]; omega
  generalize ((xs.drop n).take 2).length = m at *
  have h5 : m = 0 ∨ m = 1 ∨ m = 2 := by omega
  rcases h5 with rfl | rfl | rfl <;> decide
theorem val8 {xs : List Int} (h : Byt xs) (n : Nat) : 0 ≤ leV ((xs.drop n).take 8) ∧ leV ((xs.drop n).take 8) < 18446744073709551616 := by
  obtain ⟨a, b⟩ := leV_bound _ ((h.drop n).take 8)
  refine ⟨a, Int.lt_of_lt_of_le b ?_⟩
  have : ((xs.drop n).take 8).length ≤ 8 := by rw [List.length_take]; omega
  generalize ((xs.drop n).take 8).length = m at *
  have h5 : m = 0 ∨ m = 1 ∨ m = 2 ∨ m = 3 ∨ m = 4 ∨ m = 5 ∨ m = 6 ∨ m = 7 ∨ m = 8 := by omega
  rcases h5 with rfl | rfl | rfl | rfl | rfl | rfl | rfl | rfl | rfl <;> decide
theorem head_byt {xs : List Int} (h : Byt xs) : 0 ≤ xs.headD 0 ∧ xs.headD 0 < 256 := by
  cases xs with
  | nil => exact ⟨by decide, by decide⟩
  | cons x r => exact h x (List.mem_cons_self ..)
theorem num_range {xs : List Int} (b : Bool) (a n : Nat) (m : Int) (_hm : 0 ≤ m) (h : 0 ≤ leV ((xs.drop a).take n) ∧ leV ((xs.drop a).take n) < m) (hp : 0 < m) : 0 ≤ num b xs a n ∧ num b xs a n < m := by
  unfold num
  cases b with
  | false => rw [if_neg (by decide)]; exact ⟨by decide, hp⟩
  | true => rw [if_pos rfl]; exact h
theorem rqOf_ok {xs : List Int} (h : Byt xs) : (rqOf xs).Ok := by
  have e := head_byt h
  have a := val4 h 1
  have b := num_range (xs := xs) (hI (xs.headD 0)) 5 4 4294967296 (by decide) (val4 h 5) (by decide)
  have c := num_range (xs := xs) (hS (xs.headD 0)) (5 + ifN (hI (xs.headD 0)) 4) 2 65536 (by decide) (val2 h _) (by decide)
  have d := num_range (xs := xs) (hL (xs.headD 0)) (5 + (ifN (hI (xs.headD 0)) 4 + ifN (hS (xs.headD 0)) 2)) 8 18446744073709551616 (by decide) (val8 h _) (by decide)
  have f := i64of_range d.1 d.2
  unfold rqOf
  exact ⟨by dsimp only; omega, by dsimp only; omega, a.1, a.2, b.1, b.2, by dsimp only; omega, by dsimp only; omega, f.1, f.2⟩
theorem back_n {xs : List Int} (h : Byt xs) (n m : Nat) (hl : n + m ≤ xs.length) : leB (leV ((xs.drop n).take m)) m = (xs.drop n).take m := by
  have := leB_leV _ ((h.drop n).take m)
  rw [show ((xs.drop n).take m).length = m by rw [List.length_take, List.length_drop]; omega] at this
  exact this
theorem i64of_may {n : Int} (h1 : n < 18446744073709551616) (h : 0 ≤ i64of n) : i64of n = n := by
  unfold i64of at h ⊢; split at h <;> rename_i hh
  · rw [if_pos hh]
  · omega
theorem num_back {xs : List Int} (h : Byt xs) (b : Bool) (a n : Nat) (hl : a + ifN b n ≤ xs.length) : ifB b (leB (num b xs a n) n) = (xs.drop a).take (ifN b n) := by
  unfold num
  cases b with
  | false => rw [show ifN false n = 0 from rfl, List.take_zero]; rfl
  | true => rw [if_pos rfl, show ifN true n = n from rfl] at *; exact back_n h a n (by exact hl)
/-- What was read is written so. -/
theorem out_rqOf {xs : List Int} (h : Byt xs) (hm : (rqOf xs).May) (hl : xs.length = sz (xs.headD 0)) : (rqOf xs).out = xs := by
  have hu := (may_nums hm).2.2.2.1
  have hz := sz_le (xs.headD 0)
  have h8 := i64of_may (num_range (xs := xs) (hL (xs.headD 0)) (5 + (ifN (hI (xs.headD 0)) 4 + ifN (hS (xs.headD 0)) 2)) 8 18446744073709551616 (by decide) (val8 h _) (by decide)).2 (show 0 ≤ i64of _ from hu)
  have hc : xs = xs.headD 0 :: xs.drop 1 := by
    cases xs with
    | nil => rw [List.length_nil] at hl; omega
    | cons x r => rfl
  unfold sz at hl hz
  unfold rqOf Rq.out
  dsimp only
  rw [h8, back_n h 1 4 (by omega), num_back h _ 5 4 (by omega), num_back h _ (5 + ifN (hI (xs.headD 0)) 4) 2 (by omega), num_back h _ (5 + (ifN (hI (xs.headD 0)) 4 + ifN (hS (xs.headD 0)) 2)) 8 (by omega)]
  conv => rhs; rw [hc]
  congr 1
  generalize ifN (hI (xs.headD 0)) 4 = a at *
  generalize ifN (hS (xs.headD 0)) 2 = b at *
  generalize ifN (hL (xs.headD 0)) 8 = c at *
  have t8 : (xs.drop (5 + (a + b))).take c = xs.drop (5 + (a + b)) := List.take_of_length_le (by rw [List.length_drop]; omega)
  have d8 : xs.drop (5 + (a + b)) = (xs.drop (5 + a)).drop b := by rw [List.drop_drop]; congr 1; omega
  have d2 : xs.drop (5 + a) = (xs.drop 5).drop a := by rw [List.drop_drop]
  have d5 : xs.drop 5 = (xs.drop 1).drop 4 := by rw [List.drop_drop]
  rw [t8, d8, List.take_append_drop, d2, List.take_append_drop, d5, List.take_append_drop]
/-- What Get answers, by cases. -/
theorem getQ_cases (xs : List Int) : ((getQ xs).2 = 0 ∧ (getQ xs).1 = rqOf xs ∧ (rqOf xs).May ∧ xs.length = sz (xs.headD 0)) ∨ ((getQ xs).1 = zRq ∧ (getQ xs).2 = 200 ∧ ¬ (xs.length = sz (xs.headD 0) ∧ (rqOf xs).May)) := by
  unfold getQ
  by_cases h : xs.length = sz (xs.headD 0) ∧ (rqOf xs).May
  · rw [if_pos h]; exact Or.inl ⟨rfl, rfl, h.2, h.1⟩
  · rw [if_neg h]; exact Or.inr ⟨rfl, rfl, h⟩
end Go.Proofs.Ytkocmlfklokngaa
