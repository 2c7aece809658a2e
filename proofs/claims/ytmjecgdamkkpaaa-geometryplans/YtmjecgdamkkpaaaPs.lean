/- The contracts of Image, Need, Plan. -/
import Derived.Test.YtmjecgdamkkpaaaPr
namespace Go.Proofs.Ytmjecgdamkkpaaa
open Go.RowKit
attribute [local go_sem ↓] Go.wp_at_zero Go.wp_at_succ

theorem box_cells {w w2 : World} {u v x : Value} {t : TypeId} (h : (w.alloc (.cells #[u, v, x] t)).grownBy w2 none) :
    w.grownBy w2 none ∧ w2.cell? ⟨w.heap.size, 0, none⟩ = some u ∧ w2.cell? ⟨w.heap.size, 1, none⟩ = some v ∧ w2.cell? ⟨w.heap.size, 2, none⟩ = some x :=
  ⟨grown_box h, cell3 (box_kept h) 0, cell3 (box_kept h) 1, cell3 (box_kept h) 2⟩

set_option maxHeartbeats 1000000 in
theorem image_no (a b c : Int) (h : ¬ Gx.OkS a b c) (w : World) : Calls Try.prog 9 #[shV a b c] w fun e w' => e = .returned (.tuple #[.int .i64 0, .int .i64 90]) ∧ w.grownBy w' none := by
  have C := hide (check_no a b c h)
  unfold shV at *
  go_enter Try.func9, Try.ntmps9
  go_wp2_with fail
  refine (C.out _).mono ?_
  rintro e w2 ⟨rfl, hg⟩
  have G := hide (grown_box hg)
  clear hg
  go_wp2
  go_ret2
  exact ⟨rfl, G.out⟩

set_option maxHeartbeats 1000000 in
theorem image_ok (a b c : Int) (h : Gx.OkS a b c) (w : World) : Calls Try.prog 9 #[shV a b c] w fun e w' => e = .returned (.tuple #[.int .i64 (Gx.img a b), .int .i64 0]) ∧ w.grownBy w' none := by
  have C := hide (check_ok a b c h)
  have D := hide (imageOf_any a b c h)
  generalize Gx.img a b = n at *
  unfold shV at *
  go_enter Try.func9, Try.ntmps9
  go_wp2_with fail
  refine (C.out _).mono ?_
  rintro e w2 ⟨rfl, hg⟩
  obtain ⟨hG, c0, c1, c2⟩ := box_cells hg
  have G := hide hG
  clear hg hG
  go_wp2_with fail
  refine (D.out _).mono ?_
  rintro e w3 ⟨rfl, hg⟩
  have G3 := hide (grown_trans G.out hg)
  clear hg
  go_wp2
  go_ret2
  exact ⟨rfl, G3.out⟩

set_option maxHeartbeats 1000000 in
theorem slotOf_any (a b c s : Int) (h : Gx.OkS a b c) (hz : Gx.OkZ s) (w : World) : Calls Try.prog 27 #[shV a b c, .int .i64 s] w fun e w' => e = .returned (.int .i64 (Gx.slot a b s)) ∧ w.grownBy w' none := by
  have D := hide (imageOf_any a b c h)
  have hi := Gx.img_bounds h
  have hs := Gx.okz_bounds hz
  have hh := Gx.hold_bounds hz (b := Gx.img a b) (by omega) hi.2
  have E := hide (sectorsFor_any (Gx.img a b) s (by omega) (by omega) (by omega) (by omega))
  unfold Gx.slot
  generalize Gx.img a b = n at *
  generalize Gx.hold n s = k at *
  unfold shV at *
  go_enter Try.func27, Try.ntmps27
  go_wp2_with fail
  refine (D.out _).mono ?_
  rintro e w2 ⟨rfl, hg⟩
  have G := hide (grown_box hg)
  clear hg
  go_wp2_with fail
  refine (E.out _).mono ?_
  rintro e w3 ⟨rfl, rfl⟩
  go_wp2
  go_ret
  exact ⟨rfl, G.out⟩

set_option maxHeartbeats 1000000 in
theorem needOf_any (a b c s : Int) (h : Gx.OkS a b c) (hz : Gx.OkZ s) (w : World) : Calls Try.prog 22 #[shV a b c, .int .i64 s] w fun e w' => e = .returned (.int .i64 (Gx.need a b s)) ∧ w.grownBy w' none := by
  have D := hide (slotOf_any a b c s h hz)
  have hs := Gx.okz_bounds hz
  have hh := Gx.slot_bounds h hz
  have hk := Gx.hold_bounds hz (b := 54) (by omega) (by omega)
  have E := hide (sectorsFor_any 54 s (by omega) (by omega) (by omega) (by omega))
  unfold Gx.need
  generalize Gx.slot a b s = n at *
  generalize Gx.hold 54 s = k at *
  unfold shV at *
  go_enter Try.func22, Try.ntmps22
  go_wp2_with fail
  refine (D.out _).mono ?_
  rintro e w2 ⟨rfl, hg⟩
  have G := hide (grown_box hg)
  clear hg
  go_wp2_with fail
  refine (E.out _).mono ?_
  rintro e w3 ⟨rfl, rfl⟩
  go_wp2
  go_ret
  exact ⟨rfl, G.out⟩

set_option maxHeartbeats 1000000 in
theorem need_shape (a b c s : Int) (h : ¬ Gx.OkS a b c) (w : World) : Calls Try.prog 14 #[shV a b c, .int .i64 s] w fun e w' => e = .returned (.tuple #[.int .i64 0, .int .i64 90]) ∧ w.grownBy w' none := by
  have C := hide (check_no a b c h)
  unfold shV at *
  go_enter Try.func14, Try.ntmps14
  go_wp2_with fail
  refine (C.out _).mono ?_
  rintro e w2 ⟨rfl, hg⟩
  have G := hide (grown_box hg)
  clear hg
  go_wp2
  go_ret2
  exact ⟨rfl, G.out⟩

set_option maxHeartbeats 1000000 in
theorem need_arg (a b c s : Int) (h : Gx.OkS a b c) (h1 : -9223372036854775808 ≤ s) (h2 : s ≤ 9223372036854775807) (hz : ¬ Gx.OkZ s) (w : World) : Calls Try.prog 14 #[shV a b c, .int .i64 s] w fun e w' => e = .returned (.tuple #[.int .i64 0, .int .i64 2]) ∧ w.grownBy w' none := by
  have C := hide (check_ok a b c h)
  have D := hide (mayBeSize_any s h1 h2)
  rw [decide_eq_false hz] at D
  unfold shV at *
  go_enter Try.func14, Try.ntmps14
  go_wp2_with fail
  refine (C.out _).mono ?_
  rintro e w2 ⟨rfl, hg⟩
  have G := hide (grown_box hg)
  clear hg
  go_wp2_with fail
  refine (D.out _).mono ?_
  rintro e w3 ⟨rfl, rfl⟩
  go_wp2
  go_ret2
  exact ⟨rfl, G.out⟩

set_option maxHeartbeats 1000000 in
theorem need_ok (a b c s : Int) (h : Gx.OkS a b c) (hz : Gx.OkZ s) (w : World) : Calls Try.prog 14 #[shV a b c, .int .i64 s] w fun e w' => e = .returned (.tuple #[.int .i64 (Gx.need a b s), .int .i64 0]) ∧ w.grownBy w' none := by
  have C := hide (check_ok a b c h)
  have hs := Gx.okz_bounds hz
  have D := hide (mayBeSize_any s (by omega) (by omega))
  rw [decide_eq_true hz] at D
  have E := hide (needOf_any a b c s h hz)
  generalize Gx.need a b s = n at *
  unfold shV at *
  go_enter Try.func14, Try.ntmps14
  go_wp2_with fail
  refine (C.out _).mono ?_
  rintro e w2 ⟨rfl, hg⟩
  obtain ⟨hG, c0, c1, c2⟩ := box_cells hg
  have G := hide hG
  clear hg hG
  go_wp2_with fail
  refine (D.out _).mono ?_
  rintro e w3 ⟨rfl, rfl⟩
  go_wp2_with fail
  refine (E.out _).mono ?_
  rintro e w4 ⟨rfl, hg⟩
  have G3 := hide (grown_trans G.out hg)
  clear hg
  go_wp2
  go_ret2
  exact ⟨rfl, G3.out⟩

end Go.Proofs.Ytmjecgdamkkpaaa
