/- The contracts of the document's functions: slot, Need, Disk, Plan. -/
import Derived.Test.YtmjecgdamkkpaaaRf
namespace Go.Proofs.Ytmjecgdamkkpaaa
open Go.RowKit
attribute [local go_sem ↓] Go.wp_at_zero Go.wp_at_succ

set_option maxHeartbeats 1000000 in
theorem rslot_any (a b c s : Int) (h : Gx.OkS a b c) (hz : Gx.OkZ s) (w : World) : Calls Try.prog 24 #[shV a b c, .int .i64 s] w fun e w' => e = .returned (.int .i64 (Gx.slot a b s)) ∧ w.grownBy w' none := by
  have D := hide (rimage_ok a b c h)
  have hi := Gx.img_bounds h
  have hs := Gx.okz_bounds hz
  have hh := Gx.hold_bounds hz (b := Gx.img a b) (by omega) hi.2
  have E := hide (rhold_any (Gx.img a b) s (by omega) (by omega) (by omega) (by omega))
  unfold Gx.slot
  generalize Gx.img a b = n at *
  generalize Gx.hold n s = k at *
  unfold shV at *
  go_enter Try.func24, Try.ntmps24
  go_wp2_with fail
  refine (D.out _).mono ?_
  rintro e w2 ⟨rfl, hg⟩
  have G := hide (grown_box hg)
  clear hg
  go_wp2_with fail
  refine (E.out _).mono ?_
  rintro e w3 ⟨rfl, rfl⟩
  go_wp2
  go_ret
  exact ⟨rfl, G.out⟩

set_option maxHeartbeats 1000000 in
theorem rneed_shape (a b c s : Int) (h : ¬ Gx.OkS a b c) (w : World) : Calls Try.prog 15 #[shV a b c, .int .i64 s] w fun e w' => e = .returned (.tuple #[.int .i64 0, .int .i64 90]) ∧ w.grownBy w' none := by
  have C := hide (rcheck_no a b c h)
  unfold shV at *
  go_enter Try.func15, Try.ntmps15
  go_wp2_with fail
  refine (C.out _).mono ?_
  rintro e w2 ⟨rfl, hg⟩
  have G := hide (grown_box hg)
  clear hg
  go_wp2
  go_ret2
  exact ⟨rfl, G.out⟩


set_option maxHeartbeats 1000000 in
theorem rneed_arg (a b c s : Int) (h : Gx.OkS a b c) (hz : ¬ Gx.OkZ s) (w : World) : Calls Try.prog 15 #[shV a b c, .int .i64 s] w fun e w' => e = .returned (.tuple #[.int .i64 0, .int .i64 2]) ∧ w.grownBy w' none := by
  have C := hide (rcheck_ok a b c h)
  have D := hide (rsize_no s hz)
  unfold shV at *
  go_enter Try.func15, Try.ntmps15
  go_wp2_with fail
  refine (C.out _).mono ?_
  rintro e w2 ⟨rfl, hg⟩
  have G := hide (grown_box hg)
  clear hg
  go_wp2_with fail
  refine (D.out _).mono ?_
  rintro e w3 ⟨rfl, rfl⟩
  go_wp2
  go_ret2
  exact ⟨rfl, G.out⟩


set_option maxHeartbeats 1000000 in
theorem rneed_ok (a b c s : Int) (h : Gx.OkS a b c) (hz : Gx.OkZ s) (w : World) : Calls Try.prog 15 #[shV a b c, .int .i64 s] w fun e w' => e = .returned (.tuple #[.int .i64 (Gx.need a b s), .int .i64 0]) ∧ w.grownBy w' none := by
  have C := hide (rcheck_ok a b c h)
  have hs := Gx.okz_bounds hz
  have D := hide (rsize_ok s hz)
  have E := hide (rslot_any a b c s h hz)
  have hh := Gx.slot_bounds h hz
  have hk := Gx.hold_bounds hz (b := 54) (by omega) (by omega)
  have F := hide (rhold_any 54 s (by omega) (by omega) (by omega) (by omega))
  unfold Gx.need
  generalize Gx.slot a b s = n at *
  generalize Gx.hold 54 s = k at *
  unfold shV at *
  go_enter Try.func15, Try.ntmps15
  go_wp2_with fail
  refine (C.out _).mono ?_
  rintro e w2 ⟨rfl, hg⟩
  obtain ⟨hG, c0, c1, c2⟩ := box_cells hg
  have G := hide hG
  clear hg hG
  go_wp2_with fail
  refine (D.out _).mono ?_
  rintro e w3 ⟨rfl, rfl⟩
  go_wp2_with fail
  refine (E.out _).mono ?_
  rintro e w4 ⟨rfl, hg⟩
  have G3 := hide (grown_trans G.out hg)
  clear hg c0 c1 c2
  go_wp2_with fail
  refine (F.out _).mono ?_
  rintro e w5 ⟨rfl, rfl⟩
  go_wp2
  go_ret2
  exact ⟨rfl, G3.out⟩

set_option maxHeartbeats 1000000 in
theorem rdisk_any (n s : Int) (w : World) : Calls Try.prog 28 #[.int .i64 n, .int .i64 s] w fun e w' => e = .returned (.bool (decide (Gx.OkD n s))) ∧ w' = w := by
  by_cases hn : 1 ≤ n ∧ n ≤ 65536
  · obtain ⟨hn1, hn2⟩ := hn
    by_cases hz : Gx.OkZ s
    · have hs := Gx.okz_bounds hz
      have hp : n * s ≤ 268435456 := Int.le_trans (Int.mul_le_mul_of_nonneg_left hs.2 (by omega)) (by omega)
      have hq : 0 ≤ n * s := Int.mul_nonneg (by omega) (by omega)
      have D := hide (rsize_ok s hz)
      have e : decide (Gx.OkD n s) = decide (n * s ≤ 67108864) := by
        rw [decide_eq_decide]; unfold Gx.OkD; exact ⟨fun h => h.2.2.2, fun h => ⟨hn1, hn2, hz, h⟩⟩
      rw [e]
      have hw : IntKind.i64.wrap (n * s) = n * s := IntWalk.i64_in _ (by omega)
      have hw' : wrap64 (n * s) = n * s := by rw [← IntWalk.i64_left]; exact hw
      clear e hz
      go_enter Try.func28, Try.ntmps28
      go_wp2_with fail
      refine (D.out _).mono ?_
      rintro e w2 ⟨rfl, rfl⟩
      go_wp2
      all_goals go_ret
      all_goals first | exact ⟨rfl, rfl⟩ | (refine ⟨?_, rfl⟩; congr 2; rw [Bool.eq_iff_iff]; simp only [decide_eq_true_eq]; omega)
    · have e : decide (Gx.OkD n s) = false := decide_eq_false fun h => hz h.2.2.1
      have D := hide (rsize_no s hz)
      rw [e]
      clear e hz
      go_enter Try.func28, Try.ntmps28
      go_wp2_with fail
      refine (D.out _).mono ?_
      rintro e w2 ⟨rfl, rfl⟩
      go_wp2
      go_ret
      exact ⟨rfl, rfl⟩
  · have e : decide (Gx.OkD n s) = false := decide_eq_false fun h => hn ⟨h.1, h.2.1⟩
    rw [e]
    clear e
    by_cases h3 : 1 ≤ n
    · have h4 : ¬ n ≤ 65536 := fun h => hn ⟨h3, h⟩
      clear hn
      go_enter Try.func28, Try.ntmps28
      go_wp2
      go_ret
      exact ⟨rfl, rfl⟩
    · clear hn
      go_enter Try.func28, Try.ntmps28
      go_wp2
      go_ret
      exact ⟨rfl, rfl⟩


set_option maxHeartbeats 1000000 in
theorem rplan_shape (n s a b c : Int) (h : ¬ Gx.OkS a b c) (w : World) : Calls Try.prog 17 #[.int .i64 n, .int .i64 s, shV a b c] w fun e w' => e = .returned (.tuple #[loZ, .int .i64 90]) ∧ w.grownBy w' none := by
  have C := hide (rcheck_no a b c h)
  unfold shV loZ at *
  go_enter Try.func17, Try.ntmps17
  go_wp2_with fail
  refine (C.out _).mono ?_
  rintro e w2 ⟨rfl, hg⟩
  obtain ⟨hG, hb, hc⟩ := box2 hg
  have L := hide (laid (vs := loN) (cs := loN) (by omega) hG hc rfl)
  clear hg hG hb hc
  go_wp2_with (first | (refine wpList_store_mid rfl 35 (.tmp 6) (.tmp 14) rfl (w.heap.size + 1) 0 loN.toArray rfl rfl L.out.1 (by kernel_rfl) (by kernel_rfl) ?_) | fail)
  refine bodyPost_ret (results_cellT rfl _ _ (w.heap.size + 1) loN _ _ rfl L.out.2.1 Try.underlying35 rfl (by kernel_rfl) rfl) rfl ?_
  exact ⟨rfl, L.out.2.2⟩


set_option maxHeartbeats 1000000 in
theorem rplan_arg (n s a b c : Int) (h : Gx.OkS a b c) (hd : ¬ Gx.OkD n s) (w : World) : Calls Try.prog 17 #[.int .i64 n, .int .i64 s, shV a b c] w fun e w' => e = .returned (.tuple #[loZ, .int .i64 2]) ∧ w.grownBy w' none := by
  have C := hide (rcheck_ok a b c h)
  have D := hide (rdisk_any n s)
  rw [decide_eq_false hd] at D
  unfold shV loZ at *
  go_enter Try.func17, Try.ntmps17
  go_wp2_with fail
  refine (C.out _).mono ?_
  rintro e w2 ⟨rfl, hg⟩
  obtain ⟨hG, hb, hc⟩ := box2 hg
  have L := hide (laid (vs := loN) (cs := loN) (by omega) hG hc rfl)
  clear hg hG hb hc
  go_wp2_with fail
  refine (D.out _).mono ?_
  rintro e w3 ⟨rfl, rfl⟩
  go_wp2_with (first | (refine wpList_store_mid rfl 35 (.tmp 6) (.tmp 19) rfl (w.heap.size + 1) 0 (loN).toArray rfl rfl L.out.1 (by kernel_rfl) (by kernel_rfl) ?_) | fail)
  refine bodyPost_ret (results_cellT rfl _ _ (w.heap.size + 1) (loN) _ _ rfl L.out.2.1 Try.underlying35 rfl (by kernel_rfl) rfl) rfl ?_
  exact ⟨rfl, L.out.2.2⟩


set_option maxHeartbeats 1000000 in
theorem rplan_small (n s a b c : Int) (h : Gx.OkS a b c) (hd : Gx.OkD n s) (hn : n < Gx.need a b s) (w : World) : Calls Try.prog 17 #[.int .i64 n, .int .i64 s, shV a b c] w fun e w' => e = .returned (.tuple #[loZ, .int .i64 91]) ∧ w.grownBy w' none := by
  have C := hide (rcheck_ok a b c h)
  have hs := Gx.okz_bounds hd.2.2.1
  have D := hide (rdisk_any n s)
  rw [decide_eq_true hd] at D
  have E := hide (rneed_ok a b c s h hd.2.2.1)
  generalize Gx.need a b s = k at *
  clear hd
  unfold shV loZ at *
  go_enter Try.func17, Try.ntmps17
  go_wp2_with fail
  refine (C.out _).mono ?_
  rintro e w2 ⟨rfl, hg⟩
  obtain ⟨hG, hb, hc⟩ := box2 hg
  have c0 := cell3 hb 0
  have c1 := cell3 hb 1
  have c2 := cell3 hb 2
  simp only [getElem?_v0, getElem?_v1, getElem?_v2] at c0 c1 c2
  have K := hide (And.intro hG hc)
  clear hg hG hb hc
  go_wp2_with fail
  refine (D.out _).mono ?_
  rintro e w3 ⟨rfl, rfl⟩
  go_wp2_with fail
  refine (E.out _).mono ?_
  rintro e w4 ⟨rfl, hg⟩
  have L := hide (laid (vs := loN) (cs := loN) (by omega) (grown_trans K.out.1 hg) (keep hg K.out.2) rfl)
  clear hg c0 c1 c2 K
  go_wp2_with (first | (refine wpList_store_mid rfl 35 (.tmp 6) (.tmp 29) rfl (w.heap.size + 1) 0 (loN).toArray rfl rfl L.out.1 (by kernel_rfl) (by kernel_rfl) ?_) | fail)
  refine bodyPost_ret (results_cellT rfl _ _ (w.heap.size + 1) (loN) _ _ rfl L.out.2.1 Try.underlying35 rfl (by kernel_rfl) rfl) rfl ?_
  exact ⟨rfl, L.out.2.2⟩


set_option maxHeartbeats 1000000 in
theorem rplan_ok (n s a b c : Int) (h : Gx.OkS a b c) (hd : Gx.OkD n s) (hn : Gx.need a b s ≤ n) (w : World) : Calls Try.prog 17 #[.int .i64 n, .int .i64 s, shV a b c] w fun e w' => e = .returned (.tuple #[loV s (Gx.slot a b s) n, .int .i64 0]) ∧ w.grownBy w' none := by
  have C := hide (rcheck_ok a b c h)
  have hs := Gx.okz_bounds hd.2.2.1
  have D := hide (rdisk_any n s)
  rw [decide_eq_true hd] at D
  have E := hide (rneed_ok a b c s h hd.2.2.1)
  have F := hide (rslot_any a b c s h hd.2.2.1)
  have hk := Gx.slot_bounds h hd.2.2.1
  have hn2 := hd.2.1
  have hn1 := hd.1
  generalize Gx.need a b s = k at *
  generalize Gx.slot a b s = t at *
  clear hd
  unfold shV loV at *
  go_enter Try.func17, Try.ntmps17
  go_wp2_with fail
  refine (C.out _).mono ?_
  rintro e w2 ⟨rfl, hg⟩
  obtain ⟨hG, hb, hc⟩ := box2 hg
  have c0 := cell3 hb 0
  have c1 := cell3 hb 1
  have c2 := cell3 hb 2
  simp only [getElem?_v0, getElem?_v1, getElem?_v2] at c0 c1 c2
  have K := hide (And.intro hG (And.intro hc hb))
  clear hg hG hb hc
  go_wp2_with fail
  refine (D.out _).mono ?_
  rintro e w3 ⟨rfl, rfl⟩
  go_wp2_with fail
  refine (E.out _).mono ?_
  rintro e w4 ⟨rfl, hg⟩
  have hb := keep hg K.out.2.2
  have K4 := hide (And.intro (grown_trans K.out.1 hg) (And.intro (keep hg K.out.2.1) hb))
  clear hg c0 c1 c2 K
  have c0 := cell3 hb 0
  have c1 := cell3 hb 1
  have c2 := cell3 hb 2
  simp only [getElem?_v0, getElem?_v1, getElem?_v2] at c0 c1 c2
  clear hb
  go_wp2_with fail
  refine (F.out _).mono ?_
  rintro e w5 ⟨rfl, hg⟩
  have L := hide (laid (vs := loL s t n) (cs := loN) (by omega) (grown_trans K4.out.1 hg) (keep hg K4.out.2.1) rfl)
  clear hg c0 c1 c2 K4
  go_wp2_with (first | (refine wpList_store_mid rfl 35 (.tmp 6) (.tmp 46) rfl (w.heap.size + 1) 0 (loL s t n).toArray rfl rfl L.out.1 (by kernel_rfl) (by kernel_rfl) ?_) | fail)
  refine bodyPost_ret (results_cellT rfl _ _ (w.heap.size + 1) (loL s t n) _ _ rfl L.out.2.1 Try.underlying35 rfl (by kernel_rfl) rfl) rfl ?_
  exact ⟨rfl, L.out.2.2⟩


end Go.Proofs.Ytmjecgdamkkpaaa
