/- Numbers alone: rows of a half, Pascal's rows. -/
import Derived.Test.YtdhpjjbjgnnddabFq
namespace Go.Proofs.Ytdhpjjbjgnnddab
open Ieee

theorem rr_one : rr 4607182418800017408 = 0 := by unfold rr; rw [val_one, Nat.sub_self, rnd_zero]
theorem rr_zero : rr 0 = 4607182418800017408 := by unfold rr; rw [val_zero, Nat.sub_zero, ← val_one, rnd_val]
theorem prod_one (b : Nat) : rnd (val b * val 4607182418800017408) 1074 = b := rnd_eq_pw (by rw [val_one])
theorem st_all (a b : Nat) : st 4607182418800017408 a b = b := by
  unfold st
  rw [rr_one, prod_one, val_zero, Nat.mul_zero, rnd_zero, val_zero, Nat.zero_add, rnd_val]
theorem st_none (a b : Nat) : st 0 a b = a := by
  unfold st
  rw [rr_zero, prod_one, val_zero, Nat.mul_zero, rnd_zero, val_zero, Nat.add_zero, rnd_val]
theorem nx_all (q : List Nat) : nx 4607182418800017408 q = 0 :: q := by
  apply List.ext_getElem?
  intro k
  by_cases hk : k ≤ q.length
  · rw [nx_get _ _ _ hk, st_all]
    cases k with
    | zero => rfl
    | succ k =>
      rw [if_neg (by omega), Nat.add_sub_cancel, List.getElem?_cons_succ, List.getD_eq_getElem?_getD, List.getElem?_eq_getElem (by omega), Option.getD_some]
  · rw [List.getElem?_eq_none (by rw [nx_length]; omega), List.getElem?_eq_none (by rw [List.length_cons]; omega)]
theorem nx_none (q : List Nat) : nx 0 q = q ++ [0] := by
  apply List.ext_getElem?
  intro k
  by_cases hk : k ≤ q.length
  · rw [nx_get _ _ _ hk, st_none, List.getD_eq_getElem?_getD, List.getElem?_append]
    by_cases h : k < q.length
    · rw [if_pos h, List.getElem?_eq_getElem h, Option.getD_some]
    · have : k = q.length := by omega
      subst this
      rw [if_neg h, List.getElem?_eq_none (by omega), Nat.sub_self]; rfl
  · rw [List.getElem?_eq_none (by rw [nx_length]; omega), List.getElem?_eq_none (by rw [List.length_append]; simp; omega)]
theorem row_all (n : Nat) : rw' 4607182418800017408 n = List.replicate n 0 ++ [4607182418800017408] := by
  induction n with
  | zero => rfl
  | succ n ih => rw [rw', nx_all, ih]; rfl
theorem row_none (n : Nat) : rw' 0 n = 4607182418800017408 :: List.replicate n 0 := by
  induction n with
  | zero => rfl
  | succ n ih => rw [rw', nx_none, ih, List.cons_append, List.replicate_succ']

/-- The ways to pick k of n. -/
def ch : Nat → Nat → Nat
  | _, 0 => 1
  | 0, _ + 1 => 0
  | n + 1, k + 1 => ch n (k + 1) + ch n k
theorem ch_zero (n : Nat) : ch n 0 = 1 := by cases n <;> rfl
theorem ch_succ (n k : Nat) : ch (n + 1) (k + 1) = ch n (k + 1) + ch n k := rfl
theorem ch_over (n : Nat) : ∀ k, n < k → ch n k = 0 := by
  induction n with
  | zero => intro k hk; cases k with
    | zero => omega
    | succ k => rfl
  | succ n ih => intro k hk; cases k with
    | zero => omega
    | succ k => rw [ch_succ, ih (k + 1) (by omega), ih k (by omega)]
theorem ch_le (n : Nat) : ∀ k, ch n k ≤ 2 ^ n := by
  induction n with
  | zero => intro k; cases k with
    | zero => exact Nat.le_refl _
    | succ k => exact Nat.zero_le _
  | succ n ih => intro k; cases k with
    | zero => rw [ch_zero]; exact Nat.one_le_two_pow
    | succ k =>
      have h1 := ih (k + 1)
      have h2 := ih k
      rw [ch_succ, Nat.pow_succ]; omega

theorem rnd_scale_pw (X s t : Nat) : rnd (X * pw t) (s + t) = rnd X s := rnd_scale X s t
theorem rr_half : rr 4602678819172646912 = 4602678819172646912 := by
  unfold rr
  have h := pw_half
  have e : pw 1074 - val 4602678819172646912 = val 4602678819172646912 := by rw [val_half]; omega
  rw [e, rnd_val]
theorem half_prod {a A n : Nat} (h : val a = A * pw (1074 - n)) (hn : n ≤ 1073) (hA : A ≤ 2 ^ 53) : val (rnd (val a * val 4602678819172646912) 1074) = A * pw (1073 - n) := by
  have e : val a * val 4602678819172646912 = A * pw (1073 - n) * pw 1074 := by
    rw [h, val_half, Nat.mul_assoc, ← pw_add, Nat.mul_assoc, ← pw_add]
    congr 2; omega
  have hs := rnd_scale_pw (A * pw (1073 - n)) 0 1074
  rw [Nat.zero_add] at hs
  rw [e, hs]
  exact val_rnd_pw hA
theorem row_half (n : Nat) : n ≤ 51 → ∀ k, val ((rw' 4602678819172646912 n).getD k 0) = ch n k * pw (1074 - n) := by
  induction n with
  | zero =>
    intro _ k
    cases k with
    | zero =>
      have e : (rw' 4602678819172646912 0).getD 0 0 = 4607182418800017408 := rfl
      rw [e, val_one, ch_zero, Nat.one_mul]
    | succ k =>
      have e : (rw' 4602678819172646912 0).getD (k + 1) 0 = 0 := rfl
      rw [e, val_zero, ch_over 0 (k + 1) (by omega), Nat.zero_mul]
  | succ n ih =>
    intro hn k
    have ih := ih (by omega)
    have hlen := row_length 4602678819172646912 n
    have hl : ∀ m, ch n m ≤ 2 ^ 51 := fun m => Nat.le_trans (ch_le n m) (Nat.pow_le_pow_right (by omega) (by omega))
    rw [rw']
    by_cases hk : k ≤ n + 1
    · rw [List.getD_eq_getElem?_getD, nx_get _ _ _ (by omega), Option.getD_some]
      unfold st
      rw [rr_half, half_prod (ih k) (by omega) (by have := hl k; omega)]
      cases k with
      | zero =>
        rw [if_pos rfl, val_zero, Nat.zero_mul, rnd_zero, val_zero, Nat.add_zero, ch_zero, ch_zero]
        rw [show 1074 - (n + 1) = 1073 - n by omega]
        exact val_rnd_pw (by omega)
      | succ k =>
        rw [if_neg (by omega), Nat.add_sub_cancel, half_prod (ih k) (by omega) (by have := hl k; omega), ch_succ, ← Nat.add_mul]
        rw [show 1074 - (n + 1) = 1073 - n by omega]
        exact val_rnd_pw (by have := hl k; have := hl (k + 1); omega)
    · rw [List.getD_eq_getElem?_getD, List.getElem?_eq_none (by rw [nx_length]; omega)]
      show val 0 = _
      rw [val_zero, ch_over _ _ (by omega), Nat.zero_mul]

/-- A float of the row of n, times 2^n, is the number of ways. -/
theorem half_times {q n k : Nat} (hn : n ≤ 51) (hq : q ≤ 4607182418800017408) (h : val q = ch n k * pw (1074 - n)) :
    floatBits .mul .f64 q (FloatKind.f64.nearest ((2 ^ n : Nat) : Int)) = some (FloatKind.f64.nearest ((ch n k : Nat) : Int)) := by
  have h51 : 2 ^ n ≤ 2 ^ 51 := Nat.pow_le_pow_right (by omega) hn
  have hc := ch_le n k
  obtain ⟨f1, f2, f3⟩ := of_int (n := ((2 ^ n : Nat) : Int)) (by rw [Int.natAbs_natCast]; omega)
  rw [Int.natAbs_natCast] at f3
  rw [decide_eq_false (by omega)] at f2
  obtain ⟨r, r1, r2⟩ := small_rung (R := ch n k) (by omega)
  have e : FloatKind.f64.nearest ((ch n k : Nat) : Int) = double.word false r := by
    have := whole_word (s := decide (((ch n k : Nat) : Int) < 0)) r1 r2
    rw [decide_eq_false (by omega)] at this
    show double.nearest (decide (((ch n k : Nat) : Int) < 0)) (((ch n k : Nat) : Int)).natAbs 0 = _
    rw [decide_eq_false (by omega), Int.natAbs_natCast]
    exact this
  show double.mul q _ = _
  rw [mul_fin (fin_of (low_fin hq)) f1, sg_of (low_fin hq), f2, mg_of (low_fin hq), f3, e]
  have hx : rnd (val q * (2 ^ n * pw 1074)) 1074 = r := by
    apply rnd_eq_pw
    rw [h, r1]
    show ch n k * pw (1074 - n) * (pw n * pw 1074) = _
    rw [← Nat.mul_assoc, Nat.mul_assoc (ch n k), ← pw_add, Nat.sub_add_cancel (by omega)]
  unfold put
  rw [hx, Nat.min_eq_left (by omega)]; rfl
end Go.Proofs.Ytdhpjjbjgnnddab
