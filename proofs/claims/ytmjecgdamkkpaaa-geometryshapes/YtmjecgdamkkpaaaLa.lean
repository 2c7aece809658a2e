/- The statements' own functions: awake; GeometryShapes, GeometryNeeds. -/
import Derived.Test.YtmjecgdamkkpaaaRg
namespace Go.Proofs.Ytmjecgdamkkpaaa
open Go.RowKit
attribute [local go_sem ↓] Go.wp_at_zero Go.wp_at_succ

theorem row7 {w : World} {g : Nat} {v0 v1 v2 v3 v4 v5 v6 : Value} {t : TypeId} (h : w.heap[g]? = some (.cells #[v0, v1, v2, v3, v4, v5, v6] t)) :
    w.cell? ⟨g, 0, none⟩ = some v0 ∧ w.cell? ⟨g, 1, none⟩ = some v1 ∧ w.cell? ⟨g, 2, none⟩ = some v2 ∧ w.cell? ⟨g, 3, none⟩ = some v3 ∧ w.cell? ⟨g, 4, none⟩ = some v4 ∧ w.cell? ⟨g, 5, none⟩ = some v5 ∧ w.cell? ⟨g, 6, none⟩ = some v6 :=
  ⟨cell_row (l := [v0, v1, v2, v3, v4, v5, v6]) h 0, cell_row (l := [v0, v1, v2, v3, v4, v5, v6]) h 1, cell_row (l := [v0, v1, v2, v3, v4, v5, v6]) h 2, cell_row (l := [v0, v1, v2, v3, v4, v5, v6]) h 3, cell_row (l := [v0, v1, v2, v3, v4, v5, v6]) h 4, cell_row (l := [v0, v1, v2, v3, v4, v5, v6]) h 5, cell_row (l := [v0, v1, v2, v3, v4, v5, v6]) h 6⟩
theorem row3 {w : World} {g : Nat} {v0 v1 v2 : Value} {t : TypeId} (h : w.heap[g]? = some (.cells #[v0, v1, v2] t)) :
    w.cell? ⟨g, 0, none⟩ = some v0 ∧ w.cell? ⟨g, 1, none⟩ = some v1 ∧ w.cell? ⟨g, 2, none⟩ = some v2 :=
  ⟨cell3 h 0, cell3 h 1, cell3 h 2⟩

set_option maxHeartbeats 2000000 in
theorem awake_any (w : World) : Calls Try.prog 13 #[] w fun e w' => e = .returned (.bool true) ∧ w.grownBy w' none := by
  have hS : Gx.OkS 12 8 4 := by decide
  have hZ : Gx.OkZ 64 := by decide
  have hD : Gx.OkD 20 64 := by decide
  have e1 : Gx.need 12 8 64 = 9 := by decide
  have e2 : Gx.slot 12 8 64 = 4 := by decide
  have C := hide (need_ok 12 8 4 64 hS hZ)
  have D := hide (plan_ok 20 64 12 8 4 hS hD (by rw [e1]; decide))
  have E := hide (check_ok 12 8 4 hS)
  rw [e1] at C
  rw [e2] at D
  clear hS hZ hD e1 e2
  have e3 : loV 64 4 20 = .agg #[.int .i64 64, .int .i64 0, .int .i64 4, .int .i64 4, .int .i64 4, .int .i64 8, .int .i64 12] := rfl
  rw [e3] at D
  clear e3
  unfold shV at *
  go_enter Try.func13, Try.ntmps13
  go_wp2_with fail
  refine (C.out _).mono ?_
  rintro e w2 ⟨rfl, hg⟩
  have hb := box_kept hg
  have K := hide (And.intro (grown_box hg) hb)
  obtain ⟨c0, c1, c2⟩ := row3 hb
  clear hg hb
  go_wp2_with fail
  refine (D.out _).mono ?_
  rintro e w3 ⟨rfl, hg⟩
  have hb := keep hg K.out.2
  have K3 := hide (And.intro (grown_trans K.out.1 hg) hb)
  clear hg c0 c1 c2 K
  obtain ⟨c0, c1, c2⟩ := row3 hb
  have hlt : w.heap.size < w3.heap.size := row_lt hb
  clear hb
  go_wp2_with fail
  refine (E.out _).mono ?_
  rintro e w4 ⟨rfl, hg⟩
  have hb := box_kept hg
  have G := hide (grown_trans K3.out.1 (grown_box hg))
  clear hg c0 c1 c2 K3
  obtain ⟨d0, d1, d2, d3, d4, d5, d6⟩ := row7 hb
  clear hb
  go_wp2
  go_ret
  exact ⟨rfl, G.out⟩

set_option maxHeartbeats 2000000 in
theorem needs_any (a b c s : Int) (h1 : -9223372036854775808 ≤ s) (h2 : s ≤ 9223372036854775807) (w : World) : Calls Try.prog 4 #[shV a b c, .int .i64 s] w fun e w' => e = .returned (.bool true) ∧ w.grownBy w' none := by
  have A := hide awake_any
  obtain ⟨n, r, C, D⟩ : ∃ n r : Int, Hid (∀ w, Calls Try.prog 14 #[shV a b c, .int .i64 s] w fun e w' => e = .returned (.tuple #[.int .i64 n, .int .i64 r]) ∧ w.grownBy w' none) ∧ Hid (∀ w, Calls Try.prog 15 #[shV a b c, .int .i64 s] w fun e w' => e = .returned (.tuple #[.int .i64 n, .int .i64 r]) ∧ w.grownBy w' none) := by
    by_cases h : Gx.OkS a b c
    · by_cases hz : Gx.OkZ s
      · exact ⟨_, _, hide (need_ok a b c s h hz), hide (rneed_ok a b c s h hz)⟩
      · exact ⟨_, _, hide (need_arg a b c s h h1 h2 hz), hide (rneed_arg a b c s h hz)⟩
    · exact ⟨_, _, hide (need_shape a b c s h), hide (rneed_shape a b c s h)⟩
  unfold shV at *
  go_enter Try.func4, Try.ntmps4
  go_wp2_with fail
  refine (C.out _).mono ?_
  rintro e w2 ⟨rfl, hg⟩
  have hb := box_kept hg
  have K := hide (And.intro (grown_box hg) hb)
  obtain ⟨c0, c1, c2⟩ := row3 hb
  clear hg hb
  go_wp2_with fail
  refine (D.out _).mono ?_
  rintro e w3 ⟨rfl, hg⟩
  have G := hide (grown_trans K.out.1 hg)
  clear hg c0 c1 c2 K
  go_wp2_with fail
  refine (A.out _).mono ?_
  rintro e w4 ⟨rfl, hg⟩
  have G4 := hide (grown_trans G.out hg)
  clear hg
  go_wp2
  go_ret
  exact ⟨rfl, G4.out⟩

set_option maxHeartbeats 2000000 in
theorem plans_any (n s a b c : Int) (h1 : -9223372036854775808 ≤ s) (h2 : s ≤ 9223372036854775807) (w : World) : Calls Try.prog 5 #[.int .i64 n, .int .i64 s, shV a b c] w fun e w' => e = .returned (.bool true) ∧ w.grownBy w' none := by
  have A := hide awake_any
  obtain ⟨x0, x1, x2, x3, x4, x5, x6, r, C, D⟩ : ∃ x0 x1 x2 x3 x4 x5 x6 r : Int, Hid (∀ w, Calls Try.prog 16 #[.int .i64 n, .int .i64 s, shV a b c] w fun e w' => e = .returned (.tuple #[.agg #[.int .i64 x0, .int .i64 x1, .int .i64 x2, .int .i64 x3, .int .i64 x4, .int .i64 x5, .int .i64 x6], .int .i64 r]) ∧ w.grownBy w' none) ∧ Hid (∀ w, Calls Try.prog 17 #[.int .i64 n, .int .i64 s, shV a b c] w fun e w' => e = .returned (.tuple #[.agg #[.int .i64 x0, .int .i64 x1, .int .i64 x2, .int .i64 x3, .int .i64 x4, .int .i64 x5, .int .i64 x6], .int .i64 r]) ∧ w.grownBy w' none) := by
    by_cases h : Gx.OkS a b c
    · by_cases hd : Gx.OkD n s
      · by_cases hn : n < Gx.need a b s
        · exact ⟨_, _, _, _, _, _, _, _, hide (plan_small n s a b c h hd hn), hide (rplan_small n s a b c h hd hn)⟩
        · exact ⟨_, _, _, _, _, _, _, _, hide (plan_ok n s a b c h hd (by omega)), hide (rplan_ok n s a b c h hd (by omega))⟩
      · exact ⟨_, _, _, _, _, _, _, _, hide (plan_arg n s a b c h h1 h2 hd), hide (rplan_arg n s a b c h hd)⟩
    · exact ⟨_, _, _, _, _, _, _, _, hide (plan_shape n s a b c h), hide (rplan_shape n s a b c h)⟩
  unfold shV at *
  go_enter Try.func5, Try.ntmps5
  go_wp2_with fail
  refine (C.out _).mono ?_
  rintro e w2 ⟨rfl, hg⟩
  have hb := box_kept hg
  have K := hide (And.intro (grown_box hg) hb)
  obtain ⟨c0, c1, c2⟩ := row3 hb
  have hlt : w.heap.size < w2.heap.size := row_lt hb
  clear hg hb
  go_wp2_with fail
  refine (D.out _).mono ?_
  rintro e w3 ⟨rfl, hg⟩
  have hb := box_kept hg
  have G := hide (grown_trans K.out.1 (grown_box hg))
  clear hg c0 c1 c2 K
  obtain ⟨d0, d1, d2, d3, d4, d5, d6⟩ := row7 hb
  have hB : w2.heap.size < w3.heap.size := row_lt hb
  clear hb
  go_wp2_with fail
  refine (A.out _).mono ?_
  rintro e w4 ⟨rfl, hg⟩
  have G4 := hide (grown_trans G.out (grown_box hg))
  clear hg
  go_wp2
  go_ret
  exact ⟨rfl, G4.out⟩

set_option maxHeartbeats 2000000 in
theorem shapes_any (a b c : Int) (w : World) : Calls Try.prog 3 #[shV a b c] w fun e w' => e = .returned (.bool true) ∧ w.grownBy w' none := by
  have A := hide awake_any
  obtain ⟨n, r, C, D, E, F⟩ : ∃ n r : Int, Hid (∀ w, Calls Try.prog 9 #[shV a b c] w fun e w' => e = .returned (.tuple #[.int .i64 n, .int .i64 r]) ∧ w.grownBy w' none) ∧ Hid (∀ w, Calls Try.prog 10 #[shV a b c] w fun e w' => e = .returned (.tuple #[.int .i64 n, .int .i64 r]) ∧ w.grownBy w' none) ∧ Hid (∀ w, Calls Try.prog 11 #[shV a b c] w fun e w' => e = .returned (.int .i64 r) ∧ w.grownBy w' none) ∧ Hid (∀ w, Calls Try.prog 12 #[shV a b c] w fun e w' => e = .returned (.int .i64 r) ∧ w.grownBy w' none) := by
    by_cases h : Gx.OkS a b c
    · exact ⟨_, _, hide (image_ok a b c h), hide (rimage_ok a b c h), hide (check_ok a b c h), hide (rcheck_ok a b c h)⟩
    · exact ⟨_, _, hide (image_no a b c h), hide (rimage_no a b c h), hide (check_no a b c h), hide (rcheck_no a b c h)⟩
  unfold shV at *
  go_enter Try.func3, Try.ntmps3
  go_wp2_with fail
  refine (C.out _).mono ?_
  rintro e w2 ⟨rfl, hg⟩
  have hb := box_kept hg
  have K := hide (And.intro (grown_box hg) hb)
  obtain ⟨c0, c1, c2⟩ := row3 hb
  clear hg hb
  go_wp2_with fail
  refine (D.out _).mono ?_
  rintro e w3 ⟨rfl, hg⟩
  have hb := keep hg K.out.2
  have K3 := hide (And.intro (grown_trans K.out.1 hg) hb)
  clear hg c0 c1 c2 K
  have hS3 := row3 hb
  clear hb
  go_wp2_with fail
  go_region_held3 (fun w' => w'.cell? ⟨w.heap.size, 0, none⟩ = some (.int .i64 a) ∧ w'.cell? ⟨w.heap.size, 1, none⟩ = some (.int .i64 b) ∧ w'.cell? ⟨w.heap.size, 2, none⟩ = some (.int .i64 c)) (first | assumption | go_keep) (first
    | (go_at_call 11; refine (E.out _).mono ?_; rintro e w4 ⟨rfl, hg⟩; have K4 := hide (And.intro (grown_trans K3.out.1 (grown_trans (grown_drew _ _) hg)) (keep (grown_trans (grown_drew _ _) hg) K3.out.2)); have hS4 := row3 K4.out.2; clear hg)
    | (go_at_call 12; refine (F.out _).mono ?_; rintro e w5 ⟨rfl, hg⟩; have K5 := hide (And.intro (grown_trans K4.out.1 hg) (keep hg K4.out.2)); have hS5 := row3 K5.out.2; clear hg)
    | (go_at_call 13; refine (A.out _).mono ?_; rintro e w6 ⟨rfl, hg⟩; have K6 := hide (And.intro (grown_trans K5.out.1 hg) (keep hg K5.out.2)); have hS6 := row3 K6.out.2; clear hg))
  rename_i hHeld
  clear hHeld hS3 hS4 hS5 hS6
  go_wp2
  go_ret
  exact ⟨rfl, K6.out.1⟩
end Go.Proofs.Ytmjecgdamkkpaaa
