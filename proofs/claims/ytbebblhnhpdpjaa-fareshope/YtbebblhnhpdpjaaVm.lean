/- Fares: FaresUnits walked. -/
import Derived.Test.YtbebblhnhpdpjaaVl
namespace Go.Proofs.Ytbebblhnhpdpjaa
open Go.RowKit Ieee
attribute [local go_sem ↓] Go.wp_at_zero Go.wp_at_succ
attribute [local go_sem] run_store_float

theorem tz_float {y : Nat} (hy : Fin64 y) : Fin64 (FloatKind.f64.nearest (tz y)) ∧ sv (FloatKind.f64.nearest (tz y)) = tz y * (pw 1074 : Int) := by
  by_cases hb : 4503599627370496 * pw 1074 ≤ mg y
  · obtain ⟨e1, e2⟩ := big_whole hb
    rw [e2]
    have hp := pw_int_pos 1074
    have hmag : mg y = (NN y).natAbs * pw 1074 := by
      have h1 : (sv y).natAbs = (NN y).natAbs * pw 1074 := by rw [e1, Int.natAbs_mul]; rfl
      rw [← h1, sv_eq]
      cases sg y <;> simp
    have hv : val (y % 2 ^ 63) = (NN y).natAbs * pw 1074 := hmag
    have hw : FloatKind.f64.nearest (NN y) = double.word (decide (NN y < 0)) (y % 2 ^ 63) := whole_word hv hy
    have hlt : y % 2 ^ 63 < 2 ^ 63 := Nat.mod_lt _ (by omega)
    rw [hw]
    refine ⟨word_fin hy _, ?_⟩
    rw [sv_word hlt, hv]
    by_cases hn : NN y < 0
    · rw [decide_eq_true hn, if_pos rfl, Int.natCast_mul]
      have : (((NN y).natAbs : Nat) : Int) = -NN y := by omega
      rw [this, Int.neg_mul, Int.neg_neg]
    · rw [decide_eq_false hn, if_neg (by simp), Int.natCast_mul]
      have : (((NN y).natAbs : Nat) : Int) = NN y := by omega
      rw [this]
  · obtain ⟨z1, -⟩ := mid_sizes (x := y) (by omega)
    exact ⟨(of_int (by omega)).1, of_int_sv (by omega)⟩

theorem half_sv : Fin64 4602678819172646912 ∧ sv 4602678819172646912 = (pw 1073 : Nat) := by
  refine ⟨by unfold Fin64; decide, ?_⟩
  rw [sv_of (by decide), val_half]
theorem mhalf_sv : Fin64 13826050856027422720 ∧ sv 13826050856027422720 = -((pw 1073 : Nat) : Int) := by
  refine ⟨by unfold Fin64; decide, ?_⟩
  rw [sv_eq]
  unfold mg
  rw [show sg 13826050856027422720 = true from rfl, show 13826050856027422720 % 2 ^ 63 = 4602678819172646912 from rfl, val_half]
  rfl

/-- The rest behind the whole number towards nothing. -/
theorem rest_facts {y : Nat} (hy : Fin64 y) : ∃ r, floatBits .sub .f64 y (floatOfInt .f64 (tz y)) = some r ∧ Fin64 r ∧
    (∃ (T M : Nat), M < pw 1074 ∧ sv r = (if sg y then -((M : Nat) : Int) else ((M : Nat) : Int)) ∧ tz y = (if sg y then -((T : Nat) : Int) else ((T : Nat) : Int)) ∧
      NN y = (if sg y then -((T + (if pw 1073 < M ∨ (pw 1073 = M ∧ T % 2 = 1) then 1 else 0) : Nat) : Int) else ((T + (if pw 1073 < M ∨ (pw 1073 = M ∧ T % 2 = 1) then 1 else 0) : Nat) : Int))) := by
  obtain ⟨f1, f2⟩ := tz_float hy
  obtain ⟨d, k, hd, hM, -, -⟩ := frac_parts y
  have hlt : mg y % pw 1074 < pw 1074 := Nat.mod_lt _ (pw_pos _)
  have hdm := Nat.div_add_mod (mg y) (pw 1074)
  have hex : val (rnd (mg y % pw 1074) 0) = mg y % pw 1074 := by rw [hM]; exact val_rnd_pw hd
  have hD : sv y - sv (FloatKind.f64.nearest (tz y)) = if sg y then -((mg y % pw 1074 : Nat) : Int) else ((mg y % pw 1074 : Nat) : Int) := by
    rw [f2, sv_eq, tz_eq]
    generalize mg y / pw 1074 = T at *
    generalize mg y % pw 1074 = M at *
    generalize mg y = m at *
    have hc : ((m : Nat) : Int) = (T : Int) * (pw 1074 : Int) + (M : Int) := by rw [← hdm, Int.natCast_add, Int.natCast_mul, Int.mul_comm]
    cases sg y
    · simp only [Bool.false_eq_true, if_false]; omega
    · simp only [if_true]; rw [Int.neg_mul]; omega
  have hab : (if sg y then -((mg y % pw 1074 : Nat) : Int) else ((mg y % pw 1074 : Nat) : Int)).natAbs = mg y % pw 1074 := by generalize mg y % pw 1074 = M; cases sg y <;> simp
  obtain ⟨r, r1, r2, r3⟩ := sub_word hy f1 hD (by rw [hab]; omega)
  rw [hab, hex] at r3
  refine ⟨r, r1, r2, mg y / pw 1074, mg y % pw 1074, hlt, ?_, tz_eq y, ?_⟩
  · rw [r3]
    generalize mg y % pw 1074 = M at *
    cases sg y
    · simp only [Bool.false_eq_true, if_false]; rw [if_neg (by omega)]
    · simp only [if_true]; split <;> omega
  · rw [NN_eq, rhe_pw]
    have hh := pw_half
    have e1 : (pw 1074 < 2 * (mg y % pw 1074) ∨ (pw 1074 = 2 * (mg y % pw 1074) ∧ mg y / pw 1074 % 2 = 1)) ↔ (pw 1073 < mg y % pw 1074 ∨ (pw 1073 = mg y % pw 1074 ∧ mg y / pw 1074 % 2 = 1)) := by
      generalize mg y % pw 1074 = M at *
      omega
    simp only [e1]

theorem runits_at (x y : Nat) (w w0 : World) (hmul : (binOp .mul 33 (.float .f64 x) (.float .f64 4636737291354636288)).run Try.prog w = .ok (.float .f64 y) w0) (hg : w.grownBy w0 none) :
    Calls Try.prog 24 #[.float .f64 x] w fun e w' => e = .returned (.tuple #[.int .i64 (nV y), .int .i64 (nE y)]) ∧ w.grownBy w' none := by
  by_cases hy : y % 2 ^ 63 < 2047 * 2 ^ 52
  · have hfy : Fin64 y := hy
    obtain ⟨-, hlo, -⟩ := order_sv hfy lo_word.1
    obtain ⟨hhi, -⟩ := order_sv hfy hi_word.1
    rw [lo_word.2] at hlo
    rw [hi_word.2] at hhi
    have hself : (FloatKind.f64.format.order y y != some .eq) = false := by have := order_self hfy; simp only [bne, this]; rfl
    have hp := pw_int_pos 1074
    by_cases hok : -9223372036854775808 * (pw 1074 : Int) ≤ sv y ∧ sv y < 9223372036854775808 * (pw 1074 : Int)
    · have hrng : (-9223372036854775808 ≤ NN y ∧ NN y < 9223372036854775808) ∧ (-9223372036854775808 ≤ tz y ∧ tz y < 9223372036854775808) := by
        by_cases hb : 4503599627370496 * pw 1074 ≤ mg y
        · obtain ⟨e1, e2⟩ := big_whole hb
          rw [e1] at hok
          rw [e2]
          have k1 := Int.le_of_mul_le_mul_right hok.1 hp
          have k2 := (mul_lt_pw 1074).1 hok.2
          exact ⟨⟨k1, k2⟩, ⟨k1, k2⟩⟩
        · obtain ⟨z1, z2, z3⟩ := mid_sizes (x := y) (by omega)
          omega
      have v1 : nV y = NN y := by unfold nV; rw [if_pos ⟨hy, hrng.1⟩]
      have v2 : nE y = 0 := by unfold nE; rw [if_pos ⟨hy, hrng.1⟩]
      rw [v1, v2]
      rw [decide_eq_false (by omega)] at hlo
      rw [decide_eq_false (by omega)] at hhi
      obtain ⟨r, r1, r2, T, M, hM, hr, ht, hn⟩ := rest_facts hfy
      obtain ⟨-, -, -, hgt, heq⟩ := order_sv r2 half_sv.1
      obtain ⟨-, hlt, -, -, heq2⟩ := order_sv r2 mhalf_sv.1
      rw [half_sv.2] at hgt heq
      rw [mhalf_sv.2] at hlt heq2
      have hpp := pw_pos 1073
      have htm : ((tz y).tmod 2 != 0) = decide (T % 2 = 1) := by
        have := tmod_two (tz y)
        by_cases h : T % 2 = 1
        · rw [decide_eq_true h]
          have : (tz y).tmod 2 ≠ 0 := this.2 (by rw [ht]; split <;> omega)
          simpa using this
        · rw [decide_eq_false h]
          have : ¬ (tz y).tmod 2 ≠ 0 := fun k => h (by have := this.1 k; rw [ht] at this; split at this <;> omega)
          simpa using this
      refine runits_good x y r (tz y) (NN y) w w0 hmul hg hself hhi hlo (run_convert_float_int (P := Try.prog) w0 33 2 .f64 .i64 y (tz y) (by rw [Try.underlying33]; rfl) Try.underlying2 (toInt_ok hfy hrng.2.1 hrng.2.2)) r1 _ _ _ _ _ hgt heq htm hlt heq2 ?_ ?_ ?_ ?_ hrng.1
      · simp only [decide_eq_true_eq, decide_eq_false_iff_not]; omega
      · simp only [decide_eq_true_eq, decide_eq_false_iff_not]; omega
      · simp only [decide_eq_true_eq, decide_eq_false_iff_not]; omega
      · simp only [Bool.or_eq_true, Bool.and_eq_true, decide_eq_true_eq]
        rw [hn, ht, hr]
        generalize pw 1073 = H at *
        cases sg y
        · simp only [Bool.false_eq_true, if_false]
          by_cases c1 : H < M ∨ (H = M ∧ T % 2 = 1)
          · rw [if_pos c1, if_pos (by omega)]; omega
          · rw [if_neg c1, if_neg (by omega), if_neg (by omega)]; omega
        · simp only [if_true]
          by_cases c1 : H < M ∨ (H = M ∧ T % 2 = 1)
          · rw [if_pos c1, if_neg (by omega), if_pos (by omega)]; omega
          · rw [if_neg c1, if_neg (by omega), if_neg (by omega)]; omega
    · have hbig : 4503599627370496 * pw 1074 ≤ mg y := by
        apply Classical.byContradiction
        intro hnb
        have hmg : ((mg y : Nat) : Int) = sv y ∨ ((mg y : Nat) : Int) = -sv y := by rw [sv_eq]; cases sg y <;> simp
        have hb' : ((mg y : Nat) : Int) < ((4503599627370496 * pw 1074 : Nat) : Int) := by omega
        rw [Int.natCast_mul] at hb'
        have hc : ((4503599627370496 : Nat) : Int) = 4503599627370496 := rfl
        rw [hc] at hb'
        have hneg2 : -9223372036854775808 * (pw 1074 : Int) = -(2048 * (4503599627370496 * (pw 1074 : Int))) := by rw [← Int.mul_assoc, ← Int.neg_mul]; rfl
        have hpos2 : 9223372036854775808 * (pw 1074 : Int) = 2048 * (4503599627370496 * (pw 1074 : Int)) := by rw [← Int.mul_assoc]; rfl
        rw [hneg2, hpos2] at hok
        generalize 4503599627370496 * (pw 1074 : Int) = Q at *
        omega
      obtain ⟨e1, e2⟩ := big_whole hbig
      have hno : ¬ (-9223372036854775808 ≤ NN y ∧ NN y < 9223372036854775808) := by
        rintro ⟨k1, k2⟩
        apply hok
        rw [e1]
        exact ⟨Int.mul_le_mul_of_nonneg_right k1 (Int.le_of_lt hp), (mul_lt_pw 1074).2 k2⟩
      have v1 : nV y = 0 := by unfold nV; rw [if_neg (fun h => hno h.2)]
      have v2 : nE y = 250 := by unfold nE; rw [if_neg (fun h => hno h.2)]
      rw [v1, v2]
      refine runits_bad x y _ _ _ w w0 hmul hg hself hhi hlo ?_
      simp only [Bool.or_eq_true, decide_eq_true_eq]
      omega
  · obtain ⟨v1, v2⟩ := nV_not hy
    rw [v1, v2]
    rcases read_big hy with hr | ⟨t, hr⟩
    · have o1 := order_inf_self hr
      have o2 := order_inf hr lo_word.1
      have o3 := order_inf hr hi_word.1
      refine runits_bad x y _ _ _ w w0 hmul hg (by rw [o1]) (by rw [o3]) (by rw [o2]) ?_
      cases sg y <;> rfl
    · exact runits_bad x y _ _ _ w w0 hmul hg (by rw [order_nan _ hr]) (by rw [order_nan _ hr]) (by rw [order_nan _ hr]) rfl
theorem runits_any (x : Nat) (w : World) : Calls Try.prog 24 #[.float .f64 x] w fun e w' => e = .returned (.tuple #[.int .i64 (uV x), .int .i64 (uE x)]) ∧ w.grownBy w' none := by
  obtain ⟨y, w1, h1, h2, h3⟩ := mul_any x 4636737291354636288 w
  have h := runits_at x y w w1 h1 h2
  have e : uV x = nV y ∧ uE x = nE y := by
    unfold uV uE yv
    rcases h3 with h3 | ⟨h3, h4⟩
    · rw [h3]; exact ⟨rfl, rfl⟩
    · rw [h3]; have := nV_not h4; exact ⟨this.1.symm, this.2.symm⟩
  rw [e.1, e.2]; exact h
set_option maxHeartbeats 1000000 in
theorem faresUnits_any (x : Nat) (w : World) : Calls Try.prog 4 #[.float .f64 x] w fun e w' => e = .returned (.bool true) ∧ w.grownBy w' none := by
  go_enter Try.func4, Try.ntmps4
  go_wp2_with fail
  refine (awake_any w).mono ?_
  rintro e w1 ⟨rfl, hg1⟩
  have HG1 := hide hg1
  clear hg1
  go_wp2_with fail
  refine (units_any x w1).mono ?_
  rintro e w2 ⟨rfl, hg2⟩
  have HG2 := hide (grown_trans HG1.out hg2)
  clear hg2 HG1
  go_wp2_with fail
  refine (runits_any x w2).mono ?_
  rintro e w3 ⟨rfl, hg3⟩
  have HG3 := hide (grown_trans HG2.out hg3)
  clear hg3 HG2
  generalize uV x = a at *
  generalize uE x = b at *
  go_wp2
  go_ret
  exact ⟨rfl, HG3.out⟩
end Go.Proofs.Ytbebblhnhpdpjaa
