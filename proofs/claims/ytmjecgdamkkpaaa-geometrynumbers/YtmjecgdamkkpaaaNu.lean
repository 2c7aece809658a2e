/- GeometryNumbers. -/
import Derived.Test.YtmjecgdamkkpaaaLa
namespace Go.Proofs.Ytmjecgdamkkpaaa
open Go.RowKit
attribute [local go_sem ↓] Go.wp_at_zero Go.wp_at_succ

set_option maxRecDepth 100000 in
set_option maxHeartbeats 4000000 in
theorem numbers_any (w : World) : Calls Try.prog 6 #[] w fun e w' => e = .returned (.bool true) ∧ w.grownBy w' none := by
  have A := hide awake_any
  have hS : Gx.OkS 1024 4096 64 := by decide
  have I := hide (image_ok 1024 4096 64 hS)
  have e1 : Gx.img 1024 4096 = 14356 := by decide
  have e2 : Gx.need 1024 4096 64 = 453 := by decide
  have e3 : Gx.slot 1024 4096 1024 = 16 := by decide
  have e4 : Gx.need 1024 4096 1024 = 33 := by decide
  rw [e1] at I
  have D := hide (need_ok 1024 4096 64 64 hS (by decide))
  rw [e2] at D
  have P1 := hide (plan_ok 65536 1024 1024 4096 64 hS (by decide) (by rw [e4]; decide))
  rw [e3] at P1
  have P2 := hide (plan_arg 65536 2048 1024 4096 64 hS (by decide) (by decide) (by decide))
  have P3 := hide (plan_arg 65537 64 1024 4096 64 hS (by decide) (by decide) (by decide))
  have P4 := hide (plan_small 452 64 1024 4096 64 hS (by decide) (by rw [e2]; decide))
  have C1 := hide (check_no 1025 1 1 (by decide))
  have C2 := hide (check_no 1 4097 1 (by decide))
  have C3 := hide (check_no 1 1 65 (by decide))
  clear hS e1 e2 e3 e4
  unfold shV loV loZ at *
  go_enter Try.func6, Try.ntmps6
  go_wp2_with fail
  refine (I.out _).mono ?_
  rintro e w1 ⟨rfl, hg⟩
  have K1 := hide (And.intro (grown_box hg) (box_kept hg))
  clear hg
  obtain ⟨c0, c1, c2⟩ := row3 K1.out.2
  have hlt : w.heap.size < w1.heap.size := row_lt K1.out.2
  go_wp2_with fail
  refine (D.out _).mono ?_
  rintro e w2 ⟨rfl, hg⟩
  have K2 := hide (And.intro (grown_trans K1.out.1 hg) (keep hg K1.out.2))
  clear c0 c1 c2 K1
  try clear hlt
  clear hg
  obtain ⟨c0, c1, c2⟩ := row3 K2.out.2
  have hlt : w.heap.size < w2.heap.size := row_lt K2.out.2
  go_wp2_with fail
  refine (P1.out _).mono ?_
  rintro e w3 ⟨rfl, hg⟩
  have K3 := hide (And.intro (grown_trans K2.out.1 hg) (keep hg K2.out.2))
  clear c0 c1 c2 K2
  try clear hlt
  clear hg
  obtain ⟨c0, c1, c2⟩ := row3 K3.out.2
  have hlt : w.heap.size < w3.heap.size := row_lt K3.out.2
  go_wp2_with fail
  refine (P2.out _).mono ?_
  rintro e w4 ⟨rfl, hg⟩
  have K4 := hide (And.intro (grown_trans K3.out.1 (grown_trans (grown_alloc _ _) hg)) (keep (grown_trans (grown_alloc _ _) hg) K3.out.2))
  clear c0 c1 c2 K3
  try clear hlt
  clear hg
  obtain ⟨c0, c1, c2⟩ := row3 K4.out.2
  have hlt : w.heap.size < w4.heap.size := row_lt K4.out.2
  go_wp2_with fail
  refine (P3.out _).mono ?_
  rintro e w5 ⟨rfl, hg⟩
  have K5 := hide (And.intro (grown_trans K4.out.1 (grown_trans (grown_alloc _ _) hg)) (keep (grown_trans (grown_alloc _ _) hg) K4.out.2))
  clear c0 c1 c2 K4
  try clear hlt
  clear hg
  obtain ⟨c0, c1, c2⟩ := row3 K5.out.2
  have hlt : w.heap.size < w5.heap.size := row_lt K5.out.2
  go_wp2_with fail
  refine (P4.out _).mono ?_
  rintro e w6 ⟨rfl, hg⟩
  have K6 := hide (And.intro (grown_trans K5.out.1 (grown_trans (grown_alloc _ _) hg)) (keep (grown_trans (grown_alloc _ _) hg) K5.out.2))
  clear c0 c1 c2 K5
  try clear hlt
  clear hg
  obtain ⟨c0, c1, c2⟩ := row3 K6.out.2
  have hlt : w.heap.size < w6.heap.size := row_lt K6.out.2
  go_wp2_with fail
  refine (C1.out _).mono ?_
  rintro e w7 ⟨rfl, hg⟩
  have K7 := hide (And.intro (grown_trans K6.out.1 (grown_trans (grown_alloc _ _) hg)) (keep (grown_trans (grown_alloc _ _) hg) K6.out.2))
  clear c0 c1 c2 K6
  try clear hlt
  clear hg
  obtain ⟨c0, c1, c2⟩ := row3 K7.out.2
  have hlt : w.heap.size < w7.heap.size := row_lt K7.out.2
  go_wp2_with fail
  refine (C2.out _).mono ?_
  rintro e w8 ⟨rfl, hg⟩
  have K8 := hide (And.intro (grown_trans K7.out.1 hg) (keep hg K7.out.2))
  clear c0 c1 c2 K7
  try clear hlt
  clear hg
  obtain ⟨c0, c1, c2⟩ := row3 K8.out.2
  have hlt : w.heap.size < w8.heap.size := row_lt K8.out.2
  go_wp2_with fail
  refine (C3.out _).mono ?_
  rintro e w9 ⟨rfl, hg⟩
  have K9 := hide (And.intro (grown_trans K8.out.1 hg) (keep hg K8.out.2))
  clear c0 c1 c2 K8
  try clear hlt
  clear hg
  obtain ⟨c0, c1, c2⟩ := row3 K9.out.2
  have hlt : w.heap.size < w9.heap.size := row_lt K9.out.2
  go_wp2_with fail
  refine (A.out _).mono ?_
  rintro e w10 ⟨rfl, hg⟩
  have K10 := hide (grown_trans K9.out.1 hg)
  clear hg c0 c1 c2 K9
  go_wp2
  go_ret
  exact ⟨rfl, K10.out⟩
end Go.Proofs.Ytmjecgdamkkpaaa
