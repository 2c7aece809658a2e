/- Numbers alone: floats made whole. -/
import Derived.Test.YtbebblhnhpdpjaaFx
namespace Go.Proofs.Ytbebblhnhpdpjaa
open Ieee

theorem cut_zero (s : Bool) (n d : Nat) : Toward.zero.cut s n d = n / pw d := by
  show _ = n / 2 ^ d
  unfold Toward.cut
  have hlt : n < 2 ^ (n.log2 + 1) := Nat.lt_log2_self
  simp only [Nat.one_shiftLeft, Bool.toNat_false, Nat.add_zero]
  by_cases hd : d ≤ n.log2 + 2
  · rw [Nat.min_eq_left hd]
  · rw [Nat.min_eq_right (by omega)]
    have e2 : (2 : Nat) ^ (n.log2 + 2) = 2 * 2 ^ (n.log2 + 1) := by rw [Nat.pow_succ]; omega
    have hle : (2 : Nat) ^ (n.log2 + 2) ≤ 2 ^ d := Nat.pow_le_pow_right (by omega) (by omega)
    rw [Nat.div_eq_of_lt (by omega), Nat.div_eq_of_lt (by omega)]

theorem rhe_scale_pw (n d s : Nat) : rhe (n * pw s) (d + s) = rhe n d := rhe_scale n d s
theorem rhe_exact_pw (k d : Nat) : rhe (k * pw d) d = k := rhe_exact k d
theorem nearest_up_pw (neg : Bool) (mag k : Nat) : double.nearest neg mag (-1074 + (k : Int)) = double.word neg (min (rnd (mag * pw k) 0) double.infRung) := nearest_up neg mag k
theorem place_lo {k : Nat} (h : k ≤ 1074) : (-1074 + (k : Int)).toNat = 0 ∧ (-(-1074 + (k : Int))).toNat = 1074 - k := by omega
theorem place_hi {k : Nat} (h : ¬ k ≤ 1074) : (-1074 + (k : Int)).toNat = k - 1074 ∧ (-(-1074 + (k : Int))).toNat = 0 := by omega

theorem integral_even {x : Nat} (hx : Fin64 x) : (double.read x).integral .even = .number (sg x) (rhe (mg x) 1074) 0 := by
  obtain ⟨m, k, ex, hm⟩ := read_fin hx
  rw [ex, ← hm]
  unfold Datum.integral
  dsimp only
  rw [cut_even]
  by_cases hk : k ≤ 1074
  · obtain ⟨e1, e2⟩ := place_lo hk
    have := rhe_scale m (1074 - k) k
    rw [Nat.sub_add_cancel hk] at this
    rw [e1, e2, Nat.shiftLeft_zero, this]
  · obtain ⟨e1, e2⟩ := place_hi hk
    have := rhe_scale_pw (m * pw (k - 1074)) 0 1074
    rw [Nat.zero_add, Nat.mul_assoc, ← pw_add, show k - 1074 + 1074 = k by omega] at this
    rw [e1, e2, Nat.shiftLeft_eq]
    exact congrArg (fun z => Datum.number (sg x) z 0) this.symm

/-- Cut towards zero. -/
def tz (x : Nat) : Int := if sg x then -((mg x / pw 1074 : Nat) : Int) else ((mg x / pw 1074 : Nat) : Int)
theorem toInt_zero {x : Nat} (hx : Fin64 x) : (double.read x).toInt .zero = some (tz x) := by
  obtain ⟨m, k, ex, hm⟩ := read_fin hx
  have key : Toward.zero.cut (sg x) (m <<< (-1074 + (k : Int)).toNat) (-(-1074 + (k : Int))).toNat = mg x / pw 1074 := by
    rw [cut_zero, ← hm]
    by_cases hk : k ≤ 1074
    · obtain ⟨e1, e2⟩ := place_lo hk
      have e : pw 1074 = pw (1074 - k) * pw k := by rw [← pw_add, Nat.sub_add_cancel hk]
      have := Nat.mul_div_mul_right m (pw (1074 - k)) (pw_pos k)
      rw [e1, e2, Nat.shiftLeft_zero, e]
      exact this.symm
    · obtain ⟨e1, e2⟩ := place_hi hk
      have e : (2 : Nat) ^ k = pw (k - 1074) * pw 1074 := by rw [← pw_add, show k - 1074 + 1074 = k by omega]; rfl
      rw [e1, e2, Nat.shiftLeft_eq, e, ← Nat.mul_assoc, Nat.mul_div_cancel _ (pw_pos _), pw0, Nat.div_one]; rfl
  unfold Datum.toInt
  rw [ex]
  unfold Datum.integral
  dsimp only
  rw [key, signed_eq]
  simp [tz]

/-- A finite number's digits and its place. -/
theorem mg_parts (x : Nat) : ∃ m k, m < 2 ^ 53 ∧ mg x = m * pw k := by
  unfold mg val
  generalize x % 2 ^ 63 = r
  by_cases h : r < 2 ^ 52
  · rw [if_pos h]; exact ⟨r, 0, by omega, by rw [pw0, Nat.mul_one]⟩
  · rw [if_neg h]; exact ⟨_, _, by have := Nat.mod_lt r (show 0 < 2 ^ 52 by omega); omega, rfl⟩

theorem word_sg {r : Nat} (h : r < 2 ^ 63) (s : Bool) : sg (double.word s r) = s := by
  unfold sg Format.word
  rw [sign_eq]
  cases s
  · simp only [Bool.false_eq_true, if_false]; rw [Nat.div_eq_of_lt h]; rfl
  · simp only [if_true]
    have : (2 ^ 63 + r) / 2 ^ 63 = 1 := by omega
    rw [this]; rfl
theorem word_mod {r : Nat} (h : r < 2 ^ 63) (s : Bool) : double.word s r % 2 ^ 63 = r := by
  unfold Format.word
  rw [sign_eq]
  cases s
  · simp only [Bool.false_eq_true, if_false]; omega
  · simp only [if_true]; omega
theorem word_mg {r : Nat} (h : r < 2 ^ 63) (s : Bool) : mg (double.word s r) = val r := by
  unfold mg; rw [word_mod h]
theorem word_fin {r : Nat} (h : r < 2047 * 2 ^ 52) (s : Bool) : Fin64 (double.word s r) := by
  unfold Fin64; rw [word_mod (by omega)]; exact h

theorem val_huge : 2 ^ 53 * pw 1074 < val (2047 * 2 ^ 52) := by
  have h := val_hi 2047 0 (by omega) (by omega)
  rw [Nat.add_zero, Nat.add_zero, ← pw52, ← pw_add] at h
  rw [← pw52, h, show (2 : Nat) ^ 53 = pw 53 from rfl, ← pw_add]
  exact pw_lt (by omega)

/-- A whole number's word. -/
theorem whole_word {s : Bool} {R r : Nat} (h : val r = R * pw 1074) (hr : r < 2047 * 2 ^ 52) : double.nearest s R 0 = double.word s r := by
  have h1 := nearest_up_pw s R 1074
  have h0 : (-1074 + ((1074 : Nat) : Int)) = 0 := by decide
  rw [h0] at h1
  rw [h1, ← h, rnd_val, inf_eq, Nat.min_eq_left (by omega)]
theorem small_rung {R : Nat} (h : R ≤ 2 ^ 53) : ∃ r, val r = R * pw 1074 ∧ r < 2047 * 2 ^ 52 := by
  refine ⟨rnd (R * pw 1074) 0, val_rnd_pw h, val_lt_iff.1 ?_⟩
  rw [val_rnd_pw h]
  exact Nat.lt_of_le_of_lt (Nat.mul_le_mul_right _ h) val_huge

/-- To the nearest whole number, as a float. -/
theorem rte_fin {x : Nat} (hx : Fin64 x) : ∃ r, double.write ((double.read x).integral .even) = r ∧ Fin64 r ∧ sg r = sg x ∧ mg r = rhe (mg x) 1074 * pw 1074 := by
  rw [integral_even hx]
  refine ⟨_, rfl, ?_⟩
  show Fin64 (double.nearest (sg x) (rhe (mg x) 1074) 0) ∧ sg (double.nearest (sg x) (rhe (mg x) 1074) 0) = sg x ∧ mg (double.nearest (sg x) (rhe (mg x) 1074) 0) = rhe (mg x) 1074 * pw 1074
  have key : ∃ r, val r = rhe (mg x) 1074 * pw 1074 ∧ r < 2047 * 2 ^ 52 := by
    obtain ⟨m, k, hm, he⟩ := mg_parts x
    by_cases hk : k ≤ 1074
    · apply small_rung
      have := rhe_scale m (1074 - k) k
      rw [Nat.sub_add_cancel hk] at this
      rw [he]
      show rhe (m * 2 ^ k) 1074 ≤ 2 ^ 53
      rw [this]
      apply rhe_le
      exact Nat.le_trans (Nat.le_of_lt hm) (Nat.le_mul_of_pos_right _ (Nat.two_pow_pos _))
    · refine ⟨x % 2 ^ 63, ?_, hx⟩
      have e : mg x = m * pw (k - 1074) * pw 1074 := by rw [he, Nat.mul_assoc, ← pw_add, show k - 1074 + 1074 = k by omega]
      show mg x = _
      have := rhe_exact_pw (m * pw (k - 1074)) 1074
      rw [e]
      exact congrArg (· * pw 1074) this.symm
  obtain ⟨r, h1, h2⟩ := key
  rw [whole_word h1 h2]
  exact ⟨word_fin h2 _, word_sg (by omega) _, by rw [word_mg (by omega)]; exact h1⟩

/-- The nearest whole number. -/
def NN (x : Nat) : Int := if sg x then -((rhe (mg x) 1074 : Nat) : Int) else ((rhe (mg x) 1074 : Nat) : Int)
/-- What Nearest tells. -/
def nV (x : Nat) : Int := if x % 2 ^ 63 < 2047 * 2 ^ 52 ∧ -9223372036854775808 ≤ NN x ∧ NN x < 9223372036854775808 then NN x else 0
def nE (x : Nat) : Int := if x % 2 ^ 63 < 2047 * 2 ^ 52 ∧ -9223372036854775808 ≤ NN x ∧ NN x < 9223372036854775808 then 0 else 250

theorem lo_word : Fin64 14114281232179134464 ∧ sv 14114281232179134464 = -9223372036854775808 * (pw 1074 : Int) := by
  have h : val 4890909195324358656 = 9223372036854775808 * pw 1074 := by
    have := val_hi 1086 0 (by omega) (by omega)
    rw [Nat.add_zero, Nat.add_zero, ← pw52, ← pw_add] at this
    rw [show (9223372036854775808 : Nat) = pw 63 from rfl, ← pw_add]
    exact this
  refine ⟨by unfold Fin64; decide, ?_⟩
  unfold sv mg
  rw [show sg 14114281232179134464 = true from rfl, show 14114281232179134464 % 2 ^ 63 = 4890909195324358656 from rfl, h]
  simp only [if_true]
  rw [Int.natCast_mul]; omega
theorem hi_word : Fin64 4890909195324358656 ∧ sv 4890909195324358656 = 9223372036854775808 * (pw 1074 : Int) := by
  have h : val 4890909195324358656 = 9223372036854775808 * pw 1074 := by
    have := val_hi 1086 0 (by omega) (by omega)
    rw [Nat.add_zero, Nat.add_zero, ← pw52, ← pw_add] at this
    rw [show (9223372036854775808 : Nat) = pw 63 from rfl, ← pw_add]
    exact this
  refine ⟨by unfold Fin64; decide, ?_⟩
  rw [sv_of (by decide), h, Int.natCast_mul]; rfl

theorem sv_whole {r x : Nat} (hs : sg r = sg x) (hm : mg r = rhe (mg x) 1074 * pw 1074) : sv r = NN x * (pw 1074 : Int) := by
  unfold sv NN
  rw [hs, hm]
  cases sg x
  · simp only [Bool.false_eq_true, if_false]; rw [Int.natCast_mul]
  · simp only [if_true]; rw [Int.natCast_mul, Int.neg_mul]

theorem pw_int_pos (n : Nat) : (0 : Int) < (pw n : Int) := by have := pw_pos n; omega
theorem mul_lt_pw {a b : Int} (n : Nat) : a * (pw n : Int) < b * (pw n : Int) ↔ a < b := Int.mul_lt_mul_right (pw_int_pos n)

theorem order_self {r : Nat} (h : Fin64 r) : (FloatKind.f64.format.order r r == some .eq) = true := by
  rw [f64_double, order_fin h h, some_beq, decide_eq_true_eq, (comp_int _ _).2.2]
theorem lss_lo {r x : Nat} (h : Fin64 r) (hs : sg r = sg x) (hm : mg r = rhe (mg x) 1074 * pw 1074) : (FloatKind.f64.format.order r 14114281232179134464 == some .lt) = decide (NN x < -9223372036854775808) := by
  rw [f64_double, order_fin h lo_word.1, some_beq, sv_whole hs hm, lo_word.2]
  have := (comp_int (NN x * (pw 1074 : Int)) (-9223372036854775808 * (pw 1074 : Int))).2.1
  rw [mul_lt_pw] at this
  exact decide_eq_decide.2 this
theorem geq_hi {r x : Nat} (h : Fin64 r) (hs : sg r = sg x) (hm : mg r = rhe (mg x) 1074 * pw 1074) : (FloatKind.f64.format.order r 4890909195324358656 == some .lt) = decide (NN x < 9223372036854775808) := by
  rw [f64_double, order_fin h hi_word.1, some_beq, sv_whole hs hm, hi_word.2]
  have := (comp_int (NN x * (pw 1074 : Int)) (9223372036854775808 * (pw 1074 : Int))).2.1
  rw [mul_lt_pw] at this
  exact decide_eq_decide.2 this
theorem tz_whole {r x : Nat} (hs : sg r = sg x) (hm : mg r = rhe (mg x) 1074 * pw 1074) : tz r = NN x := by
  unfold tz NN
  rw [hs, hm, Nat.mul_div_cancel _ (pw_pos _)]
theorem toInt_ok {x : Nat} (hx : Fin64 x) (h1 : -9223372036854775808 ≤ tz x) (h2 : tz x < 9223372036854775808) : floatToIntVal .f64 x .i64 = some (tz x) := by
  unfold floatToIntVal
  rw [show FloatKind.f64.decode x = double.read x from rfl, toInt_zero hx]
  dsimp only
  have e1 : IntKind.i64.min = -9223372036854775808 := by decide
  have e2 : IntKind.i64.max = 9223372036854775807 := by decide
  rw [if_pos (by omega)]
end Go.Proofs.Ytbebblhnhpdpjaa
