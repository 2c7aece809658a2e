/- GeometryLies. -/
import Derived.Test.YtmjecgdamkkpaaaLa
namespace Go.Proofs.Ytmjecgdamkkpaaa
open Go.RowKit
attribute [local go_sem ↓] Go.wp_at_zero Go.wp_at_succ

set_option maxHeartbeats 1000000 in
theorem behind_ok (x y u v : Int) (h1 : u = x + y) (h2 : 1 ≤ v) (hx : 0 ≤ x) (hX : x ≤ 1000000) (hy : 0 ≤ y) (hY : y ≤ 1000000) (w : World) : Calls Try.prog 18 #[.agg #[.int .i64 x, .int .i64 y], .agg #[.int .i64 u, .int .i64 v]] w fun e w' => e = .returned (.bool true) ∧ w.grownBy w' none := by
  subst h1
  have hG : ∀ o o', w.grownBy ((w.alloc o).alloc o') none := fun o o' => grown_trans (grown_alloc _ _) (grown_alloc _ _)
  go_enter Try.func18, Try.ntmps18
  go_wp2
  go_ret
  exact ⟨rfl, hG _ _⟩

set_option maxHeartbeats 2000000 in
theorem lies_shape (n s a b c : Int) (h : ¬ Gx.OkS a b c) (w : World) : Calls Try.prog 7 #[.int .i64 n, .int .i64 s, shV a b c] w fun e w' => e = .returned (.bool true) ∧ w.grownBy w' none := by
  have A := hide awake_any
  have C := hide (plan_shape n s a b c h)
  have D := hide (need_shape a b c s h)
  have E := hide (image_no a b c h)
  unfold shV loZ at *
  go_enter Try.func7, Try.ntmps7
  go_wp2_with fail
  refine (A.out _).mono ?_
  rintro e w1 ⟨rfl, hg⟩
  have hb := box_kept hg
  have K1 := hide (And.intro (grown_box hg) hb)
  obtain ⟨c0, c1, c2⟩ := row3 hb
  clear hg hb
  go_wp2_with fail
  refine (C.out _).mono ?_
  rintro e w2 ⟨rfl, hg⟩
  have hb := keep hg K1.out.2
  have K2 := hide (And.intro (grown_trans K1.out.1 hg) hb)
  clear hg c0 c1 c2 K1
  obtain ⟨c0, c1, c2⟩ := row3 hb
  have hlt : w.heap.size < w2.heap.size := row_lt hb
  clear hb
  go_wp2_with fail
  refine (D.out _).mono ?_
  rintro e w3 ⟨rfl, hg⟩
  have hb := keep (grown_trans (grown_alloc _ _) hg) K2.out.2
  have hl := box_kept hg
  have K3 := hide (And.intro (grown_trans K2.out.1 (grown_box hg)) (And.intro hb hl))
  clear hg c0 c1 c2 K2 hl
  obtain ⟨c0, c1, c2⟩ := row3 hb
  clear hb
  go_wp2_with fail
  refine (E.out _).mono ?_
  rintro e w4 ⟨rfl, hg⟩
  have hl := keep hg K3.out.2.2
  have K4 := hide (And.intro (grown_trans K3.out.1 hg) hl)
  clear hg c0 c1 c2 K3
  obtain ⟨d0, d1, d2, d3, d4, d5, d6⟩ := row7 hl
  generalize w2.heap.size = B at *
  clear hl
  go_wp2
  go_ret
  exact ⟨rfl, K4.out.1⟩

set_option maxHeartbeats 2000000 in
theorem lies_arg (n s a b c : Int) (h : Gx.OkS a b c) (h1 : -9223372036854775808 ≤ s) (h2 : s ≤ 9223372036854775807) (hd : ¬ Gx.OkD n s) (w : World) : Calls Try.prog 7 #[.int .i64 n, .int .i64 s, shV a b c] w fun e w' => e = .returned (.bool true) ∧ w.grownBy w' none := by
  have A := hide awake_any
  have C := hide (plan_arg n s a b c h h1 h2 hd)
  obtain ⟨k, r, hr, D⟩ : ∃ k r : Int, (r = 0 ∨ r = 2) ∧ Hid (∀ w, Calls Try.prog 14 #[shV a b c, .int .i64 s] w fun e w' => e = .returned (.tuple #[.int .i64 k, .int .i64 r]) ∧ w.grownBy w' none) := by
    by_cases hz : Gx.OkZ s
    · exact ⟨_, 0, Or.inl rfl, hide (need_ok a b c s h hz)⟩
    · exact ⟨_, 2, Or.inr rfl, hide (need_arg a b c s h h1 h2 hz)⟩
  have E := hide (image_ok a b c h)
  have hr9 : (r != 90) = true := by rcases hr with rfl | rfl <;> decide
  clear hr
  generalize Gx.img a b = q at *
  unfold shV loZ at *
  go_enter Try.func7, Try.ntmps7
  go_wp2_with fail
  refine (A.out _).mono ?_
  rintro e w1 ⟨rfl, hg⟩
  have hb := box_kept hg
  have K1 := hide (And.intro (grown_box hg) hb)
  obtain ⟨c0, c1, c2⟩ := row3 hb
  clear hg hb
  go_wp2_with fail
  refine (C.out _).mono ?_
  rintro e w2 ⟨rfl, hg⟩
  have hb := keep hg K1.out.2
  have K2 := hide (And.intro (grown_trans K1.out.1 hg) hb)
  clear hg c0 c1 c2 K1
  obtain ⟨c0, c1, c2⟩ := row3 hb
  have hlt : w.heap.size < w2.heap.size := row_lt hb
  clear hb
  go_wp2_with fail
  refine (D.out _).mono ?_
  rintro e w3 ⟨rfl, hg⟩
  have hb := keep (grown_trans (grown_alloc _ _) hg) K2.out.2
  have hl := box_kept hg
  have K3 := hide (And.intro (grown_trans K2.out.1 (grown_box hg)) (And.intro hb hl))
  clear hg c0 c1 c2 K2 hl
  obtain ⟨c0, c1, c2⟩ := row3 hb
  clear hb
  go_wp2_with fail
  refine (E.out _).mono ?_
  rintro e w4 ⟨rfl, hg⟩
  have hl := keep hg K3.out.2.2
  have K4 := hide (And.intro (grown_trans K3.out.1 hg) hl)
  clear hg c0 c1 c2 K3
  obtain ⟨d0, d1, d2, d3, d4, d5, d6⟩ := row7 hl
  generalize w2.heap.size = B at *
  clear hl
  go_wp2
  go_ret
  exact ⟨rfl, K4.out.1⟩

set_option maxHeartbeats 2000000 in
theorem lies_small (n s a b c : Int) (h : Gx.OkS a b c) (hd : Gx.OkD n s) (hn : n < Gx.need a b s) (w : World) : Calls Try.prog 7 #[.int .i64 n, .int .i64 s, shV a b c] w fun e w' => e = .returned (.bool true) ∧ w.grownBy w' none := by
  have A := hide awake_any
  have C := hide (plan_small n s a b c h hd hn)
  have D := hide (need_ok a b c s h hd.2.2.1)
  have E := hide (image_ok a b c h)
  generalize Gx.img a b = q at *
  generalize Gx.need a b s = k at *
  unfold shV loZ at *
  go_enter Try.func7, Try.ntmps7
  go_wp2_with fail
  refine (A.out _).mono ?_
  rintro e w1 ⟨rfl, hg⟩
  have hb := box_kept hg
  have K1 := hide (And.intro (grown_box hg) hb)
  obtain ⟨c0, c1, c2⟩ := row3 hb
  clear hg hb
  go_wp2_with fail
  refine (C.out _).mono ?_
  rintro e w2 ⟨rfl, hg⟩
  have hb := keep hg K1.out.2
  have K2 := hide (And.intro (grown_trans K1.out.1 hg) hb)
  clear hg c0 c1 c2 K1
  obtain ⟨c0, c1, c2⟩ := row3 hb
  have hlt : w.heap.size < w2.heap.size := row_lt hb
  clear hb
  go_wp2_with fail
  refine (D.out _).mono ?_
  rintro e w3 ⟨rfl, hg⟩
  have hb := keep (grown_trans (grown_alloc _ _) hg) K2.out.2
  have hl := box_kept hg
  have K3 := hide (And.intro (grown_trans K2.out.1 (grown_box hg)) (And.intro hb hl))
  clear hg c0 c1 c2 K2 hl
  obtain ⟨c0, c1, c2⟩ := row3 hb
  clear hb
  go_wp2_with fail
  refine (E.out _).mono ?_
  rintro e w4 ⟨rfl, hg⟩
  have hl := keep hg K3.out.2.2
  have K4 := hide (And.intro (grown_trans K3.out.1 hg) hl)
  clear hg c0 c1 c2 K3
  obtain ⟨d0, d1, d2, d3, d4, d5, d6⟩ := row7 hl
  generalize w2.heap.size = B at *
  clear hl
  go_wp2
  go_ret
  exact ⟨rfl, K4.out.1⟩

set_option maxRecDepth 100000 in
set_option maxHeartbeats 4000000 in
theorem lies_ok (n s a b c : Int) (h : Gx.OkS a b c) (hd : Gx.OkD n s) (hn : Gx.need a b s ≤ n) (w : World) : Calls Try.prog 7 #[.int .i64 n, .int .i64 s, shV a b c] w fun e w' => e = .returned (.bool true) ∧ w.grownBy w' none := by
  have A := hide awake_any
  have C := hide (plan_ok n s a b c h hd hn)
  have D := hide (need_ok a b c s h hd.2.2.1)
  have E := hide (image_ok a b c h)
  have hs := Gx.okz_bounds hd.2.2.1
  have hq := Gx.img_bounds h
  obtain ⟨g1, g2, g3⟩ := Gx.hold_spec (b := Gx.img a b) (s := s) (by omega) (by omega)
  have hk := Gx.slot_bounds h hd.2.2.1
  have hnk := Gx.need_eq (a := a) (b := b) hd.2.2.1
  have hN := hd.2.1
  have e1 : Gx.hold (Gx.img a b) s = Gx.slot a b s - 1 := by unfold Gx.slot; omega
  rw [e1] at g1 g2 g3
  clear e1 hd h
  generalize Gx.img a b = q at *
  generalize Gx.slot a b s = k at *
  generalize Gx.need a b s = t at *
  have e2 : k - 1 - 1 = k - 2 := by omega
  rw [e2] at g2
  clear e2
  have g4 : (k - 1) * s ≤ 10000000 := Int.le_trans (Int.mul_le_mul_of_nonneg_left hs.2 (by omega)) (by omega)
  have g5 : 0 ≤ (k - 2) * s := Int.mul_nonneg (by omega) (by omega)
  have g6 : 64 ≤ (n - 2 * k) * s := by
    have i1 : (1 : Int) * 64 ≤ (n - 2 * k) * s := Int.mul_le_mul (by omega) hs.1 (by omega) (by omega)
    omega
  have g7 : (n - 2 * k) * s ≤ 1000000000 := Int.le_trans (Int.mul_le_mul_of_nonneg_left hs.2 (by omega)) (by omega)
  have hk2 : 0 ≤ 2 * k := by omega
  have hM : 1 ≤ n - 2 * k := by omega
  have hMM : n - 2 * k ≤ 65536 := by omega
  have hFM : 2 * k + (n - 2 * k) = n := by omega
  have hF : 2 * k = k + k := by omega
  have hF6 : 2 * k ≤ 500 := by omega
  unfold shV loV at *
  clear hnk
  generalize n - 2 * k = M at *
  generalize 2 * k = F at *
  have U := hide (behind_ok 0 k k k (by omega) (by omega) (by omega) (by omega) (by omega) (by omega))
  have V := hide (behind_ok k k F M hF hM (by omega) (by omega) (by omega) (by omega))
  clear hF
  obtain ⟨P1, hp1⟩ : ∃ P, (k - 1) * s = P := ⟨_, rfl⟩
  obtain ⟨P2, hp2⟩ : ∃ P, (k - 2) * s = P := ⟨_, rfl⟩
  obtain ⟨P3, hp3⟩ : ∃ P, M * s = P := ⟨_, rfl⟩
  rw [hp1] at g1 g4
  rw [hp2] at g2 g5
  rw [hp3] at g6 g7
  have g8 : decide (54 ≤ P3) = true := decide_eq_true (by omega)
  go_enter Try.func7, Try.ntmps7
  go_wp2_with fail
  refine (A.out _).mono ?_
  rintro e w1 ⟨rfl, hg⟩
  have hb := box_kept hg
  have K1 := hide (And.intro (grown_box hg) hb)
  obtain ⟨c0, c1, c2⟩ := row3 hb
  clear hg hb
  go_wp2_with fail
  refine (C.out _).mono ?_
  rintro e w2 ⟨rfl, hg⟩
  have hb := keep hg K1.out.2
  have K2 := hide (And.intro (grown_trans K1.out.1 hg) hb)
  clear hg c0 c1 c2 K1
  obtain ⟨c0, c1, c2⟩ := row3 hb
  have hlt : w.heap.size < w2.heap.size := row_lt hb
  clear hb
  go_wp2_with fail
  refine (D.out _).mono ?_
  rintro e w3 ⟨rfl, hg⟩
  have hb := keep (grown_trans (grown_alloc _ _) hg) K2.out.2
  have hl := box_kept hg
  have K3 := hide (And.intro (grown_trans K2.out.1 (grown_box hg)) (And.intro hb hl))
  clear hg c0 c1 c2 K2 hl
  obtain ⟨c0, c1, c2⟩ := row3 hb
  clear hb
  go_wp2_with fail
  refine (E.out _).mono ?_
  rintro e w4 ⟨rfl, hg⟩
  have hl := keep hg K3.out.2.2
  have K4 := hide (And.intro (grown_trans K3.out.1 hg) hl)
  clear hg c0 c1 c2 K3
  obtain ⟨d0, d1, d2, d3, d4, d5, d6⟩ := row7 hl
  generalize w2.heap.size = B at *
  clear hl
  go_wp2_with fail
  refine (U.out _).mono ?_
  rintro e w5 ⟨rfl, hg⟩
  have hl := keep hg K4.out.2
  have K5 := hide (And.intro (grown_trans K4.out.1 hg) hl)
  clear hg d0 d1 d2 d3 d4 d5 d6 K4
  obtain ⟨d0, d1, d2, d3, d4, d5, d6⟩ := row7 hl
  clear hl
  go_wp2_with fail
  refine (V.out _).mono ?_
  rintro e w6 ⟨rfl, hg⟩
  have hl := keep hg K5.out.2
  have K6 := hide (And.intro (grown_trans K5.out.1 hg) hl)
  clear hg d0 d1 d2 d3 d4 d5 d6 K5
  obtain ⟨d0, d1, d2, d3, d4, d5, d6⟩ := row7 hl
  clear hl
  go_wp2
  go_ret
  exact ⟨rfl, K6.out.1⟩

theorem lies_any (n s a b c : Int) (h1 : -9223372036854775808 ≤ s) (h2 : s ≤ 9223372036854775807) (w : World) : Calls Try.prog 7 #[.int .i64 n, .int .i64 s, shV a b c] w fun e w' => e = .returned (.bool true) ∧ w.grownBy w' none := by
  by_cases h : Gx.OkS a b c
  · by_cases hd : Gx.OkD n s
    · by_cases hn : n < Gx.need a b s
      · exact lies_small n s a b c h hd hn w
      · exact lies_ok n s a b c h hd (by omega) w
    · exact lies_arg n s a b c h h1 h2 hd w
  · exact lies_shape n s a b c h w
end Go.Proofs.Ytmjecgdamkkpaaa
