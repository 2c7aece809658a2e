/- The contract of the document's Nearest. -/
import Derived.Test.YtdhpjjbjgnnddaaFq
import Derived.Test.YtdhpjjbjgnnddaaOp
namespace Go.Proofs.Ytdhpjjbjgnnddaa
open Go.RowKit Ieee
attribute [local go_sem ↓] Go.wp_at_zero Go.wp_at_succ
attribute [local go_sem] run_store_float

theorem rnear_bad (x : Nat) (a b : Bool) (w : World) (ha : (FloatKind.f64.format.order x 14114281232179134464 == some .gt || FloatKind.f64.format.order x 14114281232179134464 == some .eq) = a)
    (hb : (FloatKind.f64.format.order x 4890909195324358656 == some .lt) = b) (hab : (a && b) = false) :
    Calls Try.prog 21 #[.float .f64 x] w fun e' w' => e' = .returned (.tuple #[.int .i64 0, .int .i64 250]) ∧ w.grownBy w' none := by
  cases a
  · clear hab hb
    go_enter Try.func21, Try.ntmps21
    go_wp2
    go_ret2
    exact ⟨rfl, grown_refl _ _⟩
  · obtain rfl : b = false := by simpa using hab
    clear hab
    go_enter Try.func21, Try.ntmps21
    go_wp2
    go_ret2
    exact ⟨rfl, grown_refl _ _⟩

theorem rnear_big (x : Nat) (c d : Bool) (v : Int) (w : World) (ha : (FloatKind.f64.format.order x 14114281232179134464 == some .gt || FloatKind.f64.format.order x 14114281232179134464 == some .eq) = true)
    (hb : (FloatKind.f64.format.order x 4890909195324358656 == some .lt) = true)
    (hc : (FloatKind.f64.format.order x 4841369599423283200 == some .gt || FloatKind.f64.format.order x 4841369599423283200 == some .eq) = c)
    (hd : (FloatKind.f64.format.order x 14064741636278059008 == some .lt || FloatKind.f64.format.order x 14064741636278059008 == some .eq) = d) (hcd : (c || d) = true)
    (hv : (convert 26 2 (.float .f64 x)).run Try.prog w = .ok (.int .i64 v) w) :
    Calls Try.prog 21 #[.float .f64 x] w fun e' w' => e' = .returned (.tuple #[.int .i64 v, .int .i64 0]) ∧ w.grownBy w' none := by
  cases c
  · obtain rfl : d = true := by simpa using hcd
    clear hcd
    go_enter Try.func21, Try.ntmps21
    go_wp2
    go_ret2
    exact ⟨rfl, grown_refl _ _⟩
  · clear hcd hd
    go_enter Try.func21, Try.ntmps21
    go_wp2
    go_ret2
    exact ⟨rfl, grown_refl _ _⟩

set_option maxHeartbeats 1000000 in
theorem rnear_mid (x r : Nat) (t n N : Int) (w : World) (ha : (FloatKind.f64.format.order x 14114281232179134464 == some .gt || FloatKind.f64.format.order x 14114281232179134464 == some .eq) = true)
    (hb : (FloatKind.f64.format.order x 4890909195324358656 == some .lt) = true)
    (hc : (FloatKind.f64.format.order x 4841369599423283200 == some .gt || FloatKind.f64.format.order x 4841369599423283200 == some .eq) = false)
    (hd : (FloatKind.f64.format.order x 14064741636278059008 == some .lt || FloatKind.f64.format.order x 14064741636278059008 == some .eq) = false)
    (hv : (convert 26 2 (.float .f64 x)).run Try.prog w = .ok (.int .i64 t) w) (ht : t.natAbs ≤ 4503599627370496)
    (g : Bool) (hg : (FloatKind.f64.format.order x (floatOfInt .f64 t) == some .lt) = g) (hn : n = if g = true then t - 1 else t)
    (hsub : floatBits .sub .f64 x (floatOfInt .f64 n) = some r)
    (h i j : Bool) (hh : (FloatKind.f64.format.order r 4602678819172646912 == some .gt) = h) (hi : (FloatKind.f64.format.order r 4602678819172646912 == some .eq) = i) (hj : (n.tmod 2 != 0) = j)
    (hN : N = if (h || (i && j)) = true then n + 1 else n) :
    Calls Try.prog 21 #[.float .f64 x] w fun e' w' => e' = .returned (.tuple #[.int .i64 N, .int .i64 0]) ∧ w.grownBy w' none := by
  have hs := run_sub hsub
  have hw1 : IntKind.i64.wrap (t - 1) = t - 1 := by rw [IntKind.wrap_i64]; omega
  have hw2 : IntKind.i64.wrap (n + 1) = n + 1 := by rw [IntKind.wrap_i64]; split at hn <;> omega
  have HN := hide hN
  have HT := hide hn
  have e1 : g = true → t - 1 = n := by intro e; rw [hn, if_pos e]
  have e2 : g = false → t = n := by intro e; rw [hn, if_neg (by rw [e]; simp)]
  clear hN hsub hn ht
  have HE := hide (grown_refl w none)
  cases g
  · obtain rfl := e2 rfl
    clear e1 e2 hw1
    cases h <;> cases i <;> cases j
    all_goals
      go_enter Try.func21, Try.ntmps21
      go_wp2
      go_ret2
      exact ⟨by rw [HN.out]; rfl, HE.out⟩
  · have e3 := e1 rfl
    rw [e3] at hw1
    clear e1 e2
    cases h <;> cases i <;> cases j
    all_goals
      go_enter Try.func21, Try.ntmps21
      go_wp2
      go_ret2
      exact ⟨by rw [HN.out]; rfl, HE.out⟩

theorem c52 : Fin64 4841369599423283200 ∧ sv 4841369599423283200 = 4503599627370496 * (pw 1074 : Int) := by
  have h : val 4841369599423283200 = 4503599627370496 * pw 1074 := by
    have := val_hi 1075 0 (by omega) (by omega)
    rw [Nat.add_zero, Nat.add_zero, show 1075 - 1 = 1074 from rfl] at this
    rw [show (4503599627370496 : Nat) = 2 ^ 52 from rfl]
    exact this
  refine ⟨by unfold Fin64; decide, ?_⟩
  rw [sv_of (by decide), h, Int.natCast_mul]; rfl
theorem m52 : Fin64 14064741636278059008 ∧ sv 14064741636278059008 = -4503599627370496 * (pw 1074 : Int) := by
  have h : val 4841369599423283200 = 4503599627370496 * pw 1074 := by
    have := val_hi 1075 0 (by omega) (by omega)
    rw [Nat.add_zero, Nat.add_zero, show 1075 - 1 = 1074 from rfl] at this
    rw [show (4503599627370496 : Nat) = 2 ^ 52 from rfl]
    exact this
  refine ⟨by unfold Fin64; decide, ?_⟩
  rw [sv_eq]
  unfold mg
  rw [show sg 14064741636278059008 = true from rfl, show 14064741636278059008 % 2 ^ 63 = 4841369599423283200 from rfl, h]
  simp only [if_true]
  rw [Int.natCast_mul]; omega

theorem order_sv {x c : Nat} (hx : Fin64 x) (hc : Fin64 c) : ((FloatKind.f64.format.order x c == some .gt || FloatKind.f64.format.order x c == some .eq) = decide (sv c ≤ sv x)) ∧
    ((FloatKind.f64.format.order x c == some .lt) = decide (sv x < sv c)) ∧ ((FloatKind.f64.format.order x c == some .lt || FloatKind.f64.format.order x c == some .eq) = decide (sv x ≤ sv c)) ∧
    ((FloatKind.f64.format.order x c == some .gt) = decide (sv c < sv x)) ∧ ((FloatKind.f64.format.order x c == some .eq) = decide (sv x = sv c)) := by
  rw [f64_double, order_fin hx hc]
  obtain ⟨h1, h2, h3⟩ := comp_int (sv x) (sv c)
  simp only [some_beq]
  generalize compare (sv x) (sv c) = o at *
  cases o <;> simp at h1 h2 h3 <;> simp <;> omega

theorem rnear_any (x : Nat) (w : World) : Calls Try.prog 21 #[.float .f64 x] w fun e w' => e = .returned (.tuple #[.int .i64 (nV x), .int .i64 (nE x)]) ∧ w.grownBy w' none := by
  by_cases hx : x % 2 ^ 63 < 2047 * 2 ^ 52
  · have hfx : Fin64 x := hx
    obtain ⟨hlo, -⟩ := order_sv hfx lo_word.1
    obtain ⟨-, hhi, -⟩ := order_sv hfx hi_word.1
    obtain ⟨h52, -⟩ := order_sv hfx c52.1
    obtain ⟨-, -, hm52, -⟩ := order_sv hfx m52.1
    rw [lo_word.2] at hlo
    rw [hi_word.2] at hhi
    rw [c52.2] at h52
    rw [m52.2] at hm52
    have hp := pw_int_pos 1074
    have hmg : ((mg x : Nat) : Int) = sv x ∨ ((mg x : Nat) : Int) = -sv x := by rw [sv_eq]; cases sg x <;> simp
    by_cases hbig : 4503599627370496 * pw 1074 ≤ mg x
    · obtain ⟨e1, e2⟩ := big_whole hbig
      have hb' : ((4503599627370496 * pw 1074 : Nat) : Int) ≤ ((mg x : Nat) : Int) := by omega
      rw [Int.natCast_mul] at hb'
      by_cases hr : -9223372036854775808 ≤ NN x ∧ NN x < 9223372036854775808
      · have v1 : nV x = NN x := by unfold nV; rw [if_pos ⟨hx, hr⟩]
        have v2 : nE x = 0 := by unfold nE; rw [if_pos ⟨hx, hr⟩]
        rw [v1, v2]
        have k1 : -9223372036854775808 * (pw 1074 : Int) ≤ sv x := by rw [e1]; exact Int.mul_le_mul_of_nonneg_right hr.1 (Int.le_of_lt hp)
        have k2 : sv x < 9223372036854775808 * (pw 1074 : Int) := by rw [e1]; exact (mul_lt_pw 1074).2 hr.2
        rw [decide_eq_true k1] at hlo
        rw [decide_eq_true k2] at hhi
        refine rnear_big x _ _ _ w hlo hhi h52 hm52 ?_ (run_convert_float_int (P := Try.prog) w 26 2 .f64 .i64 x (NN x) (by rw [Try.underlying26]; rfl) Try.underlying2 (by rw [← e2]; exact toInt_ok hfx (by omega) (by omega)))
        have hneg : -4503599627370496 * (pw 1074 : Int) = -(4503599627370496 * (pw 1074 : Int)) := Int.neg_mul ..
        rw [hneg]
        have hc : ((4503599627370496 : Nat) : Int) = 4503599627370496 := rfl
        rw [hc] at hb'
        generalize 4503599627370496 * (pw 1074 : Int) = Q at *
        simp only [Bool.or_eq_true, decide_eq_true_eq]
        omega
      · have v1 : nV x = 0 := by unfold nV; rw [if_neg (fun h => hr h.2)]
        have v2 : nE x = 250 := by unfold nE; rw [if_neg (fun h => hr h.2)]
        rw [v1, v2]
        refine rnear_bad x _ _ w hlo hhi ?_
        rw [← Bool.not_eq_true, Bool.and_eq_true, decide_eq_true_eq, decide_eq_true_eq]
        rintro ⟨k1, k2⟩
        rw [e1] at k1 k2
        exact hr ⟨Int.le_of_mul_le_mul_right k1 hp, (mul_lt_pw 1074).1 k2⟩
    · have hsm : mg x < 4503599627370496 * pw 1074 := by omega
      obtain ⟨z1, z2, z3⟩ := mid_sizes hsm
      have v1 : nV x = NN x := by unfold nV; rw [if_pos ⟨hx, by omega⟩]
      have v2 : nE x = 0 := by unfold nE; rw [if_pos ⟨hx, by omega⟩]
      rw [v1, v2]
      have hb' : ((mg x : Nat) : Int) < ((4503599627370496 * pw 1074 : Nat) : Int) := by omega
      rw [Int.natCast_mul] at hb'
      have hc : ((4503599627370496 : Nat) : Int) = 4503599627370496 := rfl
      rw [hc] at hb'
      have hneg : -4503599627370496 * (pw 1074 : Int) = -(4503599627370496 * (pw 1074 : Int)) := Int.neg_mul ..
      have hneg2 : -9223372036854775808 * (pw 1074 : Int) = -(2048 * (4503599627370496 * (pw 1074 : Int))) := by rw [← Int.mul_assoc, ← Int.neg_mul]; rfl
      have hpos2 : 9223372036854775808 * (pw 1074 : Int) = 2048 * (4503599627370496 * (pw 1074 : Int)) := by rw [← Int.mul_assoc]; rfl
      rw [hneg2] at hlo
      rw [hpos2] at hhi
      rw [hneg] at hm52
      generalize hQ : 4503599627370496 * (pw 1074 : Int) = Q at *
      rw [decide_eq_true (by omega)] at hlo hhi
      rw [decide_eq_false (by omega)] at h52 hm52
      obtain ⟨D, d1, d2, -, -⟩ := fl_facts x
      have hfl := of_int (n := fl x) (by omega)
      have htz := of_int (n := tz x) (by omega)
      have hfs := of_int_sv (n := fl x) (by omega)
      have hts := of_int_sv (n := tz x) (by omega)
      obtain ⟨r, r1, r2, r3⟩ := sub_word (D := sv x - fl x * (pw 1074 : Int)) hfx hfl.1 (by rw [hfs]) (by rw [d1]; omega)
      rw [if_neg (by omega)] at r3
      have r3' : sv r = ((val (fr x) : Nat) : Int) := r3
      obtain ⟨-, hlt, -⟩ := order_sv hfx htz.1
      rw [hts] at hlt
      have hhf : Fin64 4602678819172646912 := by unfold Fin64; decide
      obtain ⟨-, -, -, hgt, heq⟩ := order_sv r2 hhf
      rw [r3', sv_of (by decide)] at hgt heq
      have hgt' : decide (((val 4602678819172646912 : Nat) : Int) < ((val (fr x) : Nat) : Int)) = decide (4602678819172646912 < fr x) := decide_eq_decide.2 (by rw [Int.ofNat_lt]; exact val_lt_iff)
      have heq' : decide (((val (fr x) : Nat) : Int) = ((val 4602678819172646912 : Nat) : Int)) = decide (fr x = 4602678819172646912) := decide_eq_decide.2 (by rw [Int.ofNat_inj]; exact ⟨val_inj, fun h => by rw [h]⟩)
      rw [hgt'] at hgt
      rw [heq'] at heq
      refine rnear_mid x r (tz x) (fl x) (NN x) w hlo hhi h52 hm52 (run_convert_float_int (P := Try.prog) w 26 2 .f64 .i64 x (tz x) (by rw [Try.underlying26]; rfl) Try.underlying2 (toInt_ok hfx (by omega) (by omega))) z1 _ hlt ?_ r1 _ _ _ hgt heq rfl ?_
      · unfold fl; simp only [decide_eq_true_eq]
      · rw [NN_way]
        simp
  · have v1 : nV x = 0 := by unfold nV; rw [if_neg (fun h => hx h.1)]
    have v2 : nE x = 250 := by unfold nE; rw [if_neg (fun h => hx h.1)]
    rw [v1, v2]
    rcases read_big hx with hr | ⟨t, hr⟩
    · have o2 := order_inf hr lo_word.1
      have o3 := order_inf hr hi_word.1
      refine rnear_bad x _ _ w (by rw [o2]) (by rw [o3]) ?_
      cases sg x <;> rfl
    · exact rnear_bad x _ _ w (by rw [order_nan _ hr]) (by rw [order_nan _ hr]) rfl
end Go.Proofs.Ytdhpjjbjgnnddaa
