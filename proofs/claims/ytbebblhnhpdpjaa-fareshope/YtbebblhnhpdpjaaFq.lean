/- Numbers alone: the document's way to the nearest whole number. -/
import Derived.Test.YtbebblhnhpdpjaaFn
namespace Go.Proofs.Ytbebblhnhpdpjaa
open Ieee

theorem val_half : val 4602678819172646912 = pw 1073 := by
  have h := val_hi 1022 0 (by omega) (by omega)
  rw [Nat.add_zero, Nat.add_zero, ← pw52, ← pw_add] at h
  exact h
theorem pw_half : pw 1074 = 2 * pw 1073 := by rw [show (1074 : Nat) = 1 + 1073 from rfl, pw_add, pw1]

/-- A whole number as a float. -/
theorem of_int {n : Int} (h : n.natAbs ≤ 2 ^ 53) : Fin64 (FloatKind.f64.nearest n) ∧ sg (FloatKind.f64.nearest n) = decide (n < 0) ∧ mg (FloatKind.f64.nearest n) = n.natAbs * pw 1074 := by
  obtain ⟨r, h1, h2⟩ := small_rung h
  have e : FloatKind.f64.nearest n = double.word (decide (n < 0)) r := whole_word h1 h2
  rw [e]
  exact ⟨word_fin h2 _, word_sg (by omega) _, by rw [word_mg (by omega)]; exact h1⟩
theorem of_int_sv {n : Int} (h : n.natAbs ≤ 2 ^ 53) : sv (FloatKind.f64.nearest n) = n * (pw 1074 : Int) := by
  obtain ⟨-, h2, h3⟩ := of_int h
  unfold sv
  rw [h2, h3, Int.natCast_mul]
  by_cases hn : n < 0
  · rw [decide_eq_true hn, if_pos rfl, ← Int.neg_mul]
    congr 1
    omega
  · rw [decide_eq_false hn, if_neg (by simp)]
    congr 1
    omega

theorem sv_word {r : Nat} (hr : r < 2 ^ 63) (s : Bool) : sv (double.word s r) = if s = true then -((val r : Nat) : Int) else ((val r : Nat) : Int) := by
  unfold sv
  rw [word_sg hr, word_mg hr]

/-- A difference of a size of at most 1. -/
theorem sub_word {x y : Nat} {D : Int} (hx : Fin64 x) (hy : Fin64 y) (hD : sv x - sv y = D) (h1 : D.natAbs ≤ pw 1074) :
    ∃ r, floatBits .sub .f64 x y = some r ∧ Fin64 r ∧ sv r = if D < 0 then -((val (rnd D.natAbs 0) : Nat) : Int) else ((val (rnd D.natAbs 0) : Nat) : Int) := by
  refine ⟨_, sub_fin hx hy, ?_⟩
  rw [hD]
  have hr : rnd D.natAbs 0 ≤ 4607182418800017408 := rnd_le_pw (by rw [val_one, pw0, Nat.mul_one]; exact h1)
  unfold put
  rw [Nat.min_eq_left (by omega)]
  refine ⟨word_fin (low_fin hr) _, ?_⟩
  rw [sv_word (by omega)]
  by_cases h0 : D = 0
  · subst h0
    rw [show (0 : Int).natAbs = 0 from rfl, rnd_zero, val_zero, if_neg (by omega : ¬ (0 : Int) < 0)]
    have hb : ∀ b : Bool, (if b = true then -((0 : Nat) : Int) else ((0 : Nat) : Int)) = ((0 : Nat) : Int) := by intro b; cases b <;> rfl
    exact hb _
  · rw [if_neg h0]
    by_cases hn : D < 0
    · rw [decide_eq_true hn, if_pos rfl, if_pos hn]
    · rw [decide_eq_false hn, if_neg (by simp), if_neg hn]

theorem tz_eq (x : Nat) : tz x = if sg x then -((mg x / pw 1074 : Nat) : Int) else ((mg x / pw 1074 : Nat) : Int) := rfl
theorem sv_eq (x : Nat) : sv x = if sg x then -((mg x : Nat) : Int) else ((mg x : Nat) : Int) := rfl
theorem NN_eq (x : Nat) : NN x = if sg x then -((rhe (mg x) 1074 : Nat) : Int) else ((rhe (mg x) 1074 : Nat) : Int) := rfl
/-- What lies behind the point, as digits at a place. -/
theorem frac_parts (x : Nat) : ∃ d k, d ≤ 2 ^ 53 ∧ mg x % pw 1074 = d * pw k ∧ (k ≤ 1074 ∧ d ≤ pw (1074 - k)) ∧ (k < 1021 → mg x < pw 1073) := by
  obtain ⟨m, k, hm, he⟩ := mg_parts x
  by_cases hk : k ≤ 1074
  · have e : pw 1074 = pw (1074 - k) * pw k := by rw [← pw_add, Nat.sub_add_cancel hk]
    have hlt : m % pw (1074 - k) < pw (1074 - k) := Nat.mod_lt _ (pw_pos _)
    have hle : m % pw (1074 - k) ≤ m := Nat.mod_le ..
    refine ⟨m % pw (1074 - k), k, by omega, ?_, ⟨hk, by omega⟩, fun h => ?_⟩
    · rw [he, e, Nat.mul_mod_mul_right]
    · rw [he]
      calc m * pw k < 2 ^ 53 * pw k := (Nat.mul_lt_mul_right (pw_pos k)).2 hm
        _ = pw (53 + k) := by rw [pw_add]; rfl
        _ ≤ pw 1073 := pw_le (by omega)
  · refine ⟨0, 1074, by omega, ?_, ⟨Nat.le_refl _, Nat.zero_le _⟩, fun h => by omega⟩
    have e : mg x = m * pw (k - 1074) * pw 1074 := by rw [he, Nat.mul_assoc, ← pw_add, show k - 1074 + 1074 = k by omega]
    rw [e, Nat.mul_mod_left, Nat.zero_mul]

/-- The whole number below. -/
def fl (x : Nat) : Int := if sv x < tz x * (pw 1074 : Int) then tz x - 1 else tz x
/-- How far the number is above it, as a rung. -/
def fr (x : Nat) : Nat := rnd (sv x - fl x * (pw 1074 : Int)).natAbs 0

/-- The whole number below, what is above it, and the nearest. -/
theorem fl_facts (x : Nat) : ∃ D : Nat, sv x - fl x * (pw 1074 : Int) = (D : Nat) ∧ D < pw 1074 ∧
    (val (rnd D 0) = D ∨ (fl x = -1 ∧ pw 1073 < D ∧ NN x = 0)) ∧
    (NN x = if pw 1073 < D ∨ (D = pw 1073 ∧ fl x % 2 = 1) then fl x + 1 else fl x) := by
  have hT := Nat.div_add_mod (mg x) (pw 1074)
  have hlt := Nat.mod_lt (mg x) (pw_pos 1074)
  obtain ⟨d, k, hd, hf, ⟨hk, hdk⟩, hsm⟩ := frac_parts x
  have hh := pw_half
  have hp := pw_pos 1073
  have hrhe := rhe_pw (mg x) 1074
  have hex : val (rnd (mg x % pw 1074) 0) = mg x % pw 1074 := by rw [hf]; exact val_rnd_pw hd
  have hT' : ((mg x : Nat) : Int) = ((mg x / pw 1074 : Nat) : Int) * (pw 1074 : Int) + ((mg x % pw 1074 : Nat) : Int) := by
    rw [← Int.natCast_mul, ← Int.natCast_add, Nat.mul_comm]; exact congrArg _ hT.symm
  have hneg : -((mg x / pw 1074 : Nat) : Int) * (pw 1074 : Int) = -(((mg x / pw 1074 : Nat) : Int) * (pw 1074 : Int)) := Int.neg_mul ..
  have hneg1 : (-((mg x / pw 1074 : Nat) : Int) - 1) * (pw 1074 : Int) = -(((mg x / pw 1074 : Nat) : Int) * (pw 1074 : Int)) - (pw 1074 : Int) := by rw [Int.sub_mul, hneg, Int.one_mul]
  cases hs : sg x
  · have htz : tz x = ((mg x / pw 1074 : Nat) : Int) := by rw [tz_eq, hs]; rfl
    have hsv : sv x = ((mg x : Nat) : Int) := by rw [sv_eq, hs]; rfl
    have hNN : NN x = ((rhe (mg x) 1074 : Nat) : Int) := by rw [NN_eq, hs]; rfl
    have hfl : fl x = ((mg x / pw 1074 : Nat) : Int) := by unfold fl; rw [htz, if_neg (by omega)]
    refine ⟨mg x % pw 1074, by rw [hfl]; omega, hlt, Or.inl hex, ?_⟩
    rw [hNN, hfl, hrhe]
    generalize mg x % pw 1074 = f at *
    generalize mg x / pw 1074 = T at *
    generalize pw 1074 = P at *
    generalize pw 1073 = H at *
    split <;> split <;> omega
  · have htz : tz x = -((mg x / pw 1074 : Nat) : Int) := by rw [tz_eq, hs]; rfl
    have hsv : sv x = -((mg x : Nat) : Int) := by rw [sv_eq, hs]; rfl
    have hNN : NN x = -((rhe (mg x) 1074 : Nat) : Int) := by rw [NN_eq, hs]; rfl
    by_cases h0 : mg x % pw 1074 = 0
    · have hfl : fl x = -((mg x / pw 1074 : Nat) : Int) := by unfold fl; rw [htz, if_neg (by omega)]
      refine ⟨0, by rw [hfl]; omega, pw_pos _, Or.inl (by rw [rnd_zero, val_zero]), ?_⟩
      rw [hNN, hfl, hrhe]
      generalize mg x % pw 1074 = f at *
      generalize mg x / pw 1074 = T at *
      generalize pw 1074 = P at *
      generalize pw 1073 = H at *
      split <;> split <;> omega
    · have hfl : fl x = -((mg x / pw 1074 : Nat) : Int) - 1 := by unfold fl; rw [htz, if_pos (by omega)]
      refine ⟨pw 1074 - mg x % pw 1074, by rw [hfl]; omega, by omega, ?_, ?_⟩
      · by_cases hk2 : k < 1021
        · have hlo := hsm hk2
          have hT0 : mg x / pw 1074 = 0 := Nat.div_eq_of_lt (by omega)
          have hf0 : mg x % pw 1074 = mg x := Nat.mod_eq_of_lt (by omega)
          refine Or.inr ⟨by rw [hfl, hT0]; rfl, by omega, ?_⟩
          rw [hNN, hrhe, hT0, hf0, if_neg (by omega)]; rfl
        · left
          have e : pw 1074 - mg x % pw 1074 = (pw (1074 - k) - d) * pw k := by
            rw [hf, Nat.sub_mul, ← pw_add, Nat.sub_add_cancel hk]
          rw [e]
          apply val_rnd_pw
          have : pw (1074 - k) ≤ pw 53 := pw_le (by omega)
          have h53 : pw 53 = 2 ^ 53 := rfl
          omega
      · rw [hNN, hfl, hrhe]
        generalize mg x % pw 1074 = f at *
        generalize mg x / pw 1074 = T at *
        generalize pw 1074 = P at *
        generalize pw 1073 = H at *
        split <;> split <;> omega
theorem tmod_two (n : Int) : (n.tmod 2 ≠ 0) ↔ n % 2 = 1 := by
  have h := Int.tmod_eq_emod (a := n) (b := 2)
  have h2 := Int.emod_nonneg n (show (2 : Int) ≠ 0 by omega)
  have h3 := Int.emod_lt_of_pos n (show (0 : Int) < 2 by omega)
  rw [h]
  split
  · omega
  · rw [show ((2 : Int)).natAbs = 2 from rfl]; omega

/-- What the document's Nearest does with the number below and the rest. -/
theorem NN_way (x : Nat) : NN x = if 4602678819172646912 < fr x ∨ (fr x = 4602678819172646912 ∧ (fl x).tmod 2 ≠ 0) then fl x + 1 else fl x := by
  obtain ⟨D, h1, h2, h3, h4⟩ := fl_facts x
  have hfr : fr x = rnd D 0 := by unfold fr; rw [h1]; rfl
  have hv := val_half
  simp only [tmod_two]
  rcases h3 with h3 | ⟨h5, h6, h7⟩
  · have e1 : 4602678819172646912 < fr x ↔ pw 1073 < D := by rw [← val_lt_iff, hfr, h3, hv]
    have e2 : fr x = 4602678819172646912 ↔ D = pw 1073 := by
      rw [hfr]
      constructor
      · intro h; rw [← h3, h, hv]
      · intro h; apply val_inj; rw [h3, hv, h]
    rw [h4]
    simp only [e1, e2]
  · have hle : 4602678819172646912 ≤ fr x := by
      rw [hfr]
      apply le_rnd
      rw [hv, Nat.pow_zero, Nat.mul_one]
      omega
    rw [h7, h5, if_pos (by omega)]; rfl
theorem fr_lt (x : Nat) : fr x ≤ 4607182418800017408 := by
  obtain ⟨D, h1, h2, -⟩ := fl_facts x
  have hfr : fr x = rnd D 0 := by unfold fr; rw [h1]; rfl
  rw [hfr]
  exact rnd_le_pw (by rw [val_one, pw0, Nat.mul_one]; omega)

/-- Of a size below 2^52. -/
theorem mid_sizes {x : Nat} (h : mg x < 4503599627370496 * pw 1074) : (tz x).natAbs ≤ 4503599627370496 ∧ (fl x).natAbs ≤ 4503599627370497 ∧ (NN x).natAbs ≤ 4503599627370497 := by
  have hd : mg x / pw 1074 < 4503599627370496 := (Nat.div_lt_iff_lt_mul (pw_pos _)).2 h
  have h1 : (tz x).natAbs ≤ 4503599627370495 := by
    rw [tz_eq]
    generalize mg x / pw 1074 = T at *
    split <;> omega
  have h2 : (fl x).natAbs ≤ 4503599627370496 := by unfold fl; split <;> omega
  refine ⟨by omega, by omega, ?_⟩
  rw [NN_way]; split <;> omega

/-- Of a size of 2^52 and more: a whole number. -/
theorem big_whole {x : Nat} (h : 4503599627370496 * pw 1074 ≤ mg x) : sv x = NN x * (pw 1074 : Int) ∧ tz x = NN x := by
  obtain ⟨m, k, hm, he⟩ := mg_parts x
  have hk : 1074 ≤ k := by
    apply Classical.byContradiction
    intro hn
    have h1 : m * pw k < 2 ^ 53 * pw k := (Nat.mul_lt_mul_right (pw_pos k)).2 hm
    have h2 : 2 ^ 53 * pw k ≤ 2 ^ 53 * pw 1073 := Nat.mul_le_mul_left _ (pw_le (by omega))
    have h3 := pw_half
    omega
  have e : mg x = m * pw (k - 1074) * pw 1074 := by rw [he, Nat.mul_assoc, ← pw_add, show k - 1074 + 1074 = k by omega]
  have hr : rhe (mg x) 1074 = m * pw (k - 1074) := by rw [e]; exact rhe_exact_pw _ _
  have hdv : mg x / pw 1074 = m * pw (k - 1074) := by rw [e]; exact Nat.mul_div_cancel _ (pw_pos _)
  constructor
  · rw [sv_eq, NN_eq, hr, e]
    cases sg x
    · simp only [Bool.false_eq_true, if_false]; rw [Int.natCast_mul]
    · simp only [if_true]; rw [Int.natCast_mul, Int.neg_mul]
  · rw [tz_eq, NN_eq, hr, hdv]
end Go.Proofs.Ytbebblhnhpdpjaa
