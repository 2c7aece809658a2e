/- OddsNear walked. -/
import Derived.Test.YtdhpjjbjgnnddabNb
import Derived.Test.YtdhpjjbjgnnddabOn
namespace Go.Proofs.Ytdhpjjbjgnnddab
open Go.RowKit Ieee
attribute [local go_sem ↓] Go.wp_at_zero Go.wp_at_succ
attribute [local go_sem] run_store_float

theorem c52 : Fin64 4841369599423283200 ∧ sv 4841369599423283200 = 4503599627370496 * (pw 1074 : Int) := by
  have h : val 4841369599423283200 = 4503599627370496 * pw 1074 := by
    have := val_hi 1075 0 (by omega) (by omega)
    rw [Nat.add_zero, Nat.add_zero, show 1075 - 1 = 1074 from rfl] at this
    rw [show (4503599627370496 : Nat) = 2 ^ 52 from rfl]
    exact this
  refine ⟨by unfold Fin64; decide, ?_⟩
  rw [sv_of (by decide), h, Int.natCast_mul]; rfl
theorem m52 : Fin64 14064741636278059008 ∧ sv 14064741636278059008 = -4503599627370496 * (pw 1074 : Int) := by
  have h : val 4841369599423283200 = 4503599627370496 * pw 1074 := by
    have := val_hi 1075 0 (by omega) (by omega)
    rw [Nat.add_zero, Nat.add_zero, show 1075 - 1 = 1074 from rfl] at this
    rw [show (4503599627370496 : Nat) = 2 ^ 52 from rfl]
    exact this
  refine ⟨by unfold Fin64; decide, ?_⟩
  rw [sv_eq]
  unfold mg
  rw [show sg 14064741636278059008 = true from rfl, show 14064741636278059008 % 2 ^ 63 = 4841369599423283200 from rfl, h]
  simp only [if_true]
  rw [Int.natCast_mul]; omega

theorem order_sv {x c : Nat} (hx : Fin64 x) (hc : Fin64 c) : ((FloatKind.f64.format.order x c == some .gt || FloatKind.f64.format.order x c == some .eq) = decide (sv c ≤ sv x)) ∧
    ((FloatKind.f64.format.order x c == some .lt) = decide (sv x < sv c)) ∧ ((FloatKind.f64.format.order x c == some .lt || FloatKind.f64.format.order x c == some .eq) = decide (sv x ≤ sv c)) ∧
    ((FloatKind.f64.format.order x c == some .gt) = decide (sv c < sv x)) ∧ ((FloatKind.f64.format.order x c == some .eq) = decide (sv x = sv c)) := by
  rw [f64_double, order_fin hx hc]
  obtain ⟨h1, h2, h3⟩ := comp_int (sv x) (sv c)
  simp only [some_beq]
  generalize compare (sv x) (sv c) = o at *
  cases o <;> simp at h1 h2 h3 <;> simp <;> omega
theorem run_neg (x : Nat) (w : World) : (Op.unary .neg (.float .f64 x)).run Try.prog w = .ok (.float .f64 (ng x)) w := rfl

set_option maxHeartbeats 1000000 in
theorem near_not (x : Nat) (a b : Bool) (v er : Int) (w : World) (hv : nV x = v) (he : nE x = er) (ha : (FloatKind.f64.format.order x 14064741636278059008 == some .gt) = a)
    (hb : (FloatKind.f64.format.order x 4841369599423283200 == some .lt) = b) (hab : (a && b) = false) (h : er = 0 ∨ (er = 250 ∧ v = 0)) :
    Calls Try.prog 4 #[.float .f64 x] w fun e w' => e = .returned (.bool true) ∧ w.grownBy w' none := by
  have N1 := hide (near_any x w)
  rw [hv, he] at N1
  clear hv he
  have A := hide (fun w => awake_any w)
  cases a
  · clear hab hb
    rcases h with rfl | ⟨rfl, rfl⟩
    all_goals
      go_enter Try.func4, Try.ntmps4
      go_wp2_with fail
      refine N1.out.mono ?_
      rintro e w1 ⟨rfl, hg1⟩
      have G1 := hide hg1
      clear hg1 N1
      go_wp2_with fail
      refine (A.out _).mono ?_
      rintro e w2 ⟨rfl, hg2⟩
      have G2 := hide (grown_trans G1.out hg2)
      clear hg2
      go_wp2
      go_ret
      exact ⟨rfl, G2.out⟩
  · obtain rfl : b = false := by simpa using hab
    clear hab
    rcases h with rfl | ⟨rfl, rfl⟩
    all_goals
      go_enter Try.func4, Try.ntmps4
      go_wp2_with fail
      refine N1.out.mono ?_
      rintro e w1 ⟨rfl, hg1⟩
      have G1 := hide hg1
      clear hg1 N1
      go_wp2_with fail
      refine (A.out _).mono ?_
      rintro e w2 ⟨rfl, hg2⟩
      have G2 := hide (grown_trans G1.out hg2)
      clear hg2
      go_wp2
      go_ret
      exact ⟨rfl, G2.out⟩

set_option maxHeartbeats 1000000 in
theorem near_yes (x r : Nat) (v : Int) (c d : Bool) (w : World) (hv : nV x = v) (he : nE x = 0) (ha : (FloatKind.f64.format.order x 14064741636278059008 == some .gt) = true)
    (hb : (FloatKind.f64.format.order x 4841369599423283200 == some .lt) = true) (hvb : v.natAbs ≤ 4503599627370497)
    (hn1 : nV (ng x) = -v) (hn2 : nE (ng x) = 0) (hw1 : nV (floatOfInt .f64 v) = v) (hw2 : nE (floatOfInt .f64 v) = 0)
    (hsub : floatBits .sub .f64 x (floatOfInt .f64 v) = some r)
    (h1 : (FloatKind.f64.format.order r 4602678819172646912 == some .lt || FloatKind.f64.format.order r 4602678819172646912 == some .eq) = true)
    (h2 : (FloatKind.f64.format.order r 13826050856027422720 == some .gt || FloatKind.f64.format.order r 13826050856027422720 == some .eq) = true)
    (h3 : (FloatKind.f64.format.order r 4602678819172646912 != some .eq) = c) (h4 : (FloatKind.f64.format.order r 13826050856027422720 != some .eq) = d)
    (h5 : (c && d) = false → v.tmod 2 = 0) :
    Calls Try.prog 4 #[.float .f64 x] w fun e w' => e = .returned (.bool true) ∧ w.grownBy w' none := by
  have N1 := hide (near_any x w)
  rw [hv, he] at N1
  have N2 := hide (fun w => near_any (ng x) w)
  rw [hn1, hn2] at N2
  have N3 := hide (fun w => near_any (floatOfInt .f64 v) w)
  rw [hw1, hw2] at N3
  have A := hide (fun w => awake_any w)
  have hs := run_sub hsub
  have hng := run_neg x
  have hwn : IntKind.i64.wrap (0 - v) = -v := by rw [IntKind.wrap_i64]; omega
  have hwn2 : IntKind.i64.wrap (-v) = -v := by rw [IntKind.wrap_i64]; omega
  clear hv he hn1 hn2 hw1 hw2 hsub hvb
  generalize ng x = x2 at *
  have H5 := hide h5
  clear h5
  cases c
  · have hm := H5.out rfl
    clear h4
    go_enter Try.func4, Try.ntmps4
    go_wp2_with fail
    refine N1.out.mono ?_
    rintro e w1 ⟨rfl, hg1⟩
    have G1 := hide hg1
    clear hg1 N1
    go_wp2_with fail
    refine (N2.out _).mono ?_
    rintro e w2 ⟨rfl, hg2⟩
    have G2 := hide (grown_trans G1.out hg2)
    clear hg2 N2 G1
    go_wp2_with fail
    refine (N3.out _).mono ?_
    rintro e w3 ⟨rfl, hg3⟩
    have G3 := hide (grown_trans G2.out hg3)
    clear hg3 N3 G2
    go_wp2_with fail
    refine (A.out _).mono ?_
    rintro e w4 ⟨rfl, hg4⟩
    have G4 := hide (grown_trans G3.out hg4)
    clear hg4
    go_wp2
    go_ret
    exact ⟨rfl, G4.out⟩
  · cases d
    · have hm := H5.out rfl
      go_enter Try.func4, Try.ntmps4
      go_wp2_with fail
      refine N1.out.mono ?_
      rintro e w1 ⟨rfl, hg1⟩
      have G1 := hide hg1
      clear hg1 N1
      go_wp2_with fail
      refine (N2.out _).mono ?_
      rintro e w2 ⟨rfl, hg2⟩
      have G2 := hide (grown_trans G1.out hg2)
      clear hg2 N2 G1
      go_wp2_with fail
      refine (N3.out _).mono ?_
      rintro e w3 ⟨rfl, hg3⟩
      have G3 := hide (grown_trans G2.out hg3)
      clear hg3 N3 G2
      go_wp2_with fail
      refine (A.out _).mono ?_
      rintro e w4 ⟨rfl, hg4⟩
      have G4 := hide (grown_trans G3.out hg4)
      clear hg4
      go_wp2
      go_ret
      exact ⟨rfl, G4.out⟩
    · clear H5
      go_enter Try.func4, Try.ntmps4
      go_wp2_with fail
      refine N1.out.mono ?_
      rintro e w1 ⟨rfl, hg1⟩
      have G1 := hide hg1
      clear hg1 N1
      go_wp2_with fail
      refine (N2.out _).mono ?_
      rintro e w2 ⟨rfl, hg2⟩
      have G2 := hide (grown_trans G1.out hg2)
      clear hg2 N2 G1
      go_wp2_with fail
      refine (N3.out _).mono ?_
      rintro e w3 ⟨rfl, hg3⟩
      have G3 := hide (grown_trans G2.out hg3)
      clear hg3 N3 G2
      go_wp2_with fail
      refine (A.out _).mono ?_
      rintro e w4 ⟨rfl, hg4⟩
      have G4 := hide (grown_trans G3.out hg4)
      clear hg4
      go_wp2
      go_ret
      exact ⟨rfl, G4.out⟩
end Go.Proofs.Ytdhpjjbjgnnddab
