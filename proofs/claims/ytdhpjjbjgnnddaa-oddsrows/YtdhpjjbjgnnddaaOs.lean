/- OddsNearest walked. -/
import Derived.Test.YtdhpjjbjgnnddaaOr
namespace Go.Proofs.Ytdhpjjbjgnnddaa
open Go.RowKit Ieee
attribute [local go_sem ↓] Go.wp_at_zero Go.wp_at_succ
attribute [local go_sem] run_store_float

theorem notnan_any (r : Nat) (w : World) (h : Fin64 r) : Calls Try.prog 30 #[.float .f64 r] w fun e w' => e = .returned (.bool false) ∧ w' = w := isnan_as r true w (order_self h)

set_option maxHeartbeats 1000000 in
theorem copysign_any (x y : Nat) (w : World) : Calls Try.prog 35 #[.float .f64 x, .float .f64 y] w fun e w' => (∃ u, e = .returned (.float .f64 u)) ∧ w' = w := by
  have h1 := fun (x : Nat) w => run_bits x w
  have h2 := fun (n : Int) w => run_from n w
  go_enter Try.func35, Try.ntmps35
  go_wp2
  go_ret
  exact ⟨⟨_, rfl⟩, rfl⟩

set_option maxHeartbeats 1000000 in
theorem after_any (x y : Nat) (w : World) (hx : Fin64 x) (hy : Fin64 y) : Calls Try.prog 20 #[.float .f64 x, .float .f64 y] w fun e w' => (∃ u, e = .returned (.float .f64 u)) ∧ w' = w := by
  have h1 := fun (x : Nat) w => run_bits x w
  have h2 := fun (n : Int) w => run_from n w
  have hc := hide (fun a => copysign_any a y w)
  have n1 := hide (notnan_any x w hx)
  have n2 := hide (notnan_any y w hy)
  clear hx hy
  generalize ha : (FloatKind.f64.format.order x y == some .eq) = a
  generalize hb : (FloatKind.f64.format.order x 0 == some .eq) = b
  generalize hd : (FloatKind.f64.format.order y x == some .gt) = d
  generalize he : (FloatKind.f64.format.order x 0 == some .gt) = e
  go_enter Try.func20, Try.ntmps20
  go_wp2_with fail
  refine n1.out.mono ?_
  rintro e w1 ⟨rfl, hw⟩
  obtain rfl := hw.symm
  clear hw
  go_wp2_with fail
  refine n2.out.mono ?_
  rintro e w1 ⟨rfl, hw⟩
  obtain rfl := hw.symm
  clear hw
  cases a
  · cases b
    · cases d <;> cases e
      all_goals
        go_wp2
        go_ret
        exact ⟨⟨_, rfl⟩, rfl⟩
    · go_wp2_with fail
      refine (hc.out _).mono ?_
      rintro e w1 ⟨⟨u, rfl⟩, hw⟩
      obtain rfl := hw.symm
      clear hw
      go_wp2
      go_ret
      exact ⟨⟨_, rfl⟩, rfl⟩
  · go_wp2
    go_ret
    exact ⟨⟨_, rfl⟩, rfl⟩

theorem half_any (m : Int) (h : m.natAbs ≤ 4503599627370496) : ∃ r, floatBits .add .f64 (floatOfInt .f64 m) 4602678819172646912 = some r ∧ Fin64 r := by
  obtain ⟨h1, -⟩ := of_int (n := m) (by omega)
  have hs : sv (floatOfInt .f64 m) = m * (pw 1074 : Int) := of_int_sv (n := m) (by omega)
  have hh : Fin64 4602678819172646912 := by unfold Fin64; decide
  refine ⟨_, add_fin h1 hh, ?_⟩
  rw [hs, sv_of (by decide), val_half]
  have hle : (m * (pw 1074 : Int) + ((pw 1073 : Nat) : Int)).natAbs ≤ 2 ^ 53 * pw 1074 := by
    have hp := pw_half
    have h2 : m * (pw 1074 : Int) ≤ 4503599627370496 * (pw 1074 : Int) := Int.mul_le_mul_of_nonneg_right (by omega) (by omega)
    have h3 : -4503599627370496 * (pw 1074 : Int) ≤ m * (pw 1074 : Int) := Int.mul_le_mul_of_nonneg_right (by omega) (by omega)
    have h4 : -4503599627370496 * (pw 1074 : Int) = -(4503599627370496 * (pw 1074 : Int)) := Int.neg_mul ..
    generalize m * (pw 1074 : Int) = q at *
    omega
  unfold put
  have hr : rnd (m * (pw 1074 : Int) + ((pw 1073 : Nat) : Int)).natAbs 0 < 2047 * 2 ^ 52 := by
    obtain ⟨r, e1, e2⟩ := small_rung (R := 2 ^ 53) (by omega)
    have : rnd (m * (pw 1074 : Int) + ((pw 1073 : Nat) : Int)).natAbs 0 ≤ r := rnd_le_pw (by rw [e1, pw0, Nat.mul_one]; exact hle)
    omega
  rw [Nat.min_eq_left (by omega)]
  exact word_fin hr _

/-- The word with the other sign. -/
def ng (x : Nat) : Nat := x ^^^ 2 ^ 63
theorem run_neg (x : Nat) (w : World) : (Op.unary .neg (.float .f64 x)).run Try.prog w = .ok (.float .f64 (ng x)) w := rfl
theorem fin60 : Fin64 4877398396442247168 := by unfold Fin64; decide
theorem fin0 : Fin64 0 := by unfold Fin64; decide

set_option maxHeartbeats 1000000 in
theorem oddsNearest_any (x : Nat) (n : Int) (w : World) : Calls Try.prog 6 #[.float .f64 x, .int .i64 n] w fun e w' => e = .returned (.bool true) ∧ w.grownBy w' none := by
  have hm : (n.tmod 4503599627370496).natAbs ≤ 4503599627370496 := by
    have h1 := Int.tmod_lt_of_pos n (show (0 : Int) < 4503599627370496 by omega)
    have h2 := Int.lt_tmod_of_pos n (show (0 : Int) < 4503599627370496 by omega)
    omega
  obtain ⟨r, hadd, hfr⟩ := half_any _ hm
  have hr := run_add hadd
  clear hadd hm
  have HF := hide hfr
  clear hfr
  have hng := run_neg x
  generalize ng x = u4 at *
  go_enter Try.func6, Try.ntmps6
  go_wp2_with fail
  refine (after_any r 0 w HF.out fin0).mono ?_
  rintro e w1 ⟨⟨u1, rfl⟩, hw⟩
  obtain rfl := hw.symm
  clear hw
  go_wp2_with fail
  refine (after_any r 4877398396442247168 w HF.out fin60).mono ?_
  rintro e w1 ⟨⟨u2, rfl⟩, hw⟩
  obtain rfl := hw.symm
  clear hw
  go_wp2_with fail
  generalize floatOfInt FloatKind.f64 n = u3 at *
  have HA := hide (fresh_at w [x, r, u1, u2, u3, u4])
  have HG := hide (grown_alloc w (.cells (fv [x, r, u1, u2, u3, u4]).toArray 26))
  clear hr hng HF
  change Code.wp _ _ _ _ (w.alloc (.cells (fv [x, r, u1, u2, u3, u4]).toArray 26))
  generalize w.alloc (.cells (fv [x, r, u1, u2, u3, u4]).toArray 26) = wa at *
  have HL : Hid (([x, r, u1, u2, u3, u4] : List Nat).length = 6) := rfl
  generalize ([x, r, u1, u2, u3, u4] : List Nat) = xs at *
  go_loopg [28] 6 (fun k i wr => ∃ j : Nat, k + j = 6 ∧ i = .int .i64 (j : Int) ∧ Hid (wa.grownBy wr none))
  case atStart => exact ⟨0, rfl, rfl, grown_refl _ _⟩
  case round =>
    obtain ⟨j, hkj, rfl, HW⟩ := hrel
    by_cases hk : 0 < gk
    · have h1 : (j : Int) < 6 := by omega
      have h0 : (0 : Int) ≤ (j : Int) := by omega
      have hw : IntKind.i64.wrap ((j : Int) + 1) = (j : Int) + 1 := by rw [IntKind.wrap_i64]; omega
      obtain ⟨a, ea, hc⟩ := (HA.out.grown HW.out).take (j := j) (by rw [HL.out]; omega)
      cases ea
      rw [Addr.add_lit, Nat.zero_add] at hc
      generalize xs.getD j 0 = y at *
      have N1 := hide (near_any y wr)
      go_wp2_with fail
      refine N1.out.mono ?_
      rintro e w1 ⟨rfl, hg1⟩
      have N2 := hide (rnear_any y w1)
      have HG1 := hide (grown_trans HW.out hg1)
      clear hg1 N1 HW hc
      generalize nV y = v at *
      generalize nE y = er at *
      go_wp2_with fail
      refine N2.out.mono ?_
      rintro e w2 ⟨rfl, hg2⟩
      have HG2 := hide (grown_trans HG1.out hg2)
      clear hg2 N2 HG1
      go_wp2
      go_roundg (gk - 1)
      case measure => omega
      case rel => exact ⟨j + 1, by omega, by go_num, HG2⟩
    · obtain rfl : j = 6 := by omega
      go_wp2_with fail
      refine (awake_any wr).mono ?_
      rintro e w3 ⟨rfl, hg3⟩
      have HG3 := hide (grown_trans HG.out (grown_trans HW.out hg3))
      go_wp2
      go_ret
      exact ⟨rfl, HG3.out⟩
end Go.Proofs.Ytdhpjjbjgnnddaa
