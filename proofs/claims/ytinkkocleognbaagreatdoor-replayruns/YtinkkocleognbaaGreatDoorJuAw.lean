/- Texts joined: JpAg, O1. -/
import Derived.Test.YtinkkocleognbaaGreatDoorJuAv
import Derived.Test.YtinkkocleognbaaGreatDoorJuAn
import Derived.Test.YtinkkocleognbaaGreatDoorJuAp
/- Texts joined: Hy2, Hy3, LaC, Hy4. -/
namespace Go.Proofs.YtinkkocleognbaaGreatDoor
/- A record out of plain numbers. -/
open Go.RowKit
attribute [local go_sem ↓] Go.wp_at_zero Go.wp_at_succ
attribute [local go_sem] Oper.semAt_some
def cgV (c : Cg) : Value := .agg #[.int .i64 c.k, .int .i64 c.i, .int .i64 c.s, .int .i64 c.t]
theorem box_mid (w : World) (o0 o1 o2 : Obj) : (((w.alloc o0).alloc o1).alloc o2).heap[w.heap.size + 1]? = some o1 := by
  have := heap_alloc_new (w.alloc o0) o1
  rw [World.size_alloc] at this
  exact keep1 _ _ this
set_option maxRecDepth 20000 in
set_option maxHeartbeats 8000000 in
theorem mrec_0 (c : Cg) (n : Nat) (t : Int) (hn : 1 ≤ n) (hn1 : n < 4294967296) (ht : 0 ≤ t) (ht1 : t ≤ mxC) (hk : c.k % 5 = 0) (w : World) : Calls Tryz.prog 25 #[cgV c, .int .u32 (n : Int), .int .i64 t] w fun e w' => e = .returned (Rk.rcV ⟨1, (n : Int), c.s % 13, t + 1 + c.t % 7, 0⟩) ∧ w.grownBy w' none := by
  have P1 : Hid (∀ W, Calls Tryz.prog 32 #[.int .i64 c.k, .int .i64 5] W fun e w' => e = .returned (.int .i64 0) ∧ w' = W) := fun W => by have := pick_any c.k 5 W (by decide) (by decide); simp only [show ((5 : Nat) : Int) = 5 from rfl, hk] at this; exact this
  have P2 : Hid (∀ W, Calls Tryz.prog 32 #[.int .i64 c.t, .int .i64 7] W fun e w' => e = .returned (.int .i64 (c.t % 7)) ∧ w' = W) := fun W => pick_any c.t 7 W (by decide) (by decide)
  have P3 : Hid (∀ W, Calls Tryz.prog 32 #[.int .i64 c.i, .int .i64 (n : Int)] W fun e w' => e = .returned (.int .i64 (c.i % (n : Int))) ∧ w' = W) := fun W => pick_any c.i n W hn (by omega)
  have P4 : Hid (∀ W, Calls Tryz.prog 32 #[.int .i64 c.s, .int .i64 13] W fun e w' => e = .returned (.int .i64 (c.s % 13)) ∧ w' = W) := fun W => pick_any c.s 13 W (by decide) (by decide)
  have b1 := Int.emod_nonneg c.s (b := 13) (by decide)
  have b2 := Int.emod_lt_of_pos c.s (b := 13) (by decide)
  have d1 := Int.emod_nonneg c.t (b := 7) (by decide)
  have d2 := Int.emod_lt_of_pos c.t (b := 7) (by decide)
  have e1 := Int.emod_nonneg c.i (b := (n : Int)) (by omega)
  have e2 := Int.emod_lt_of_pos c.i (b := (n : Int)) (by omega)
  generalize c.i % (n : Int) = ii at *
  generalize c.s % 13 = ss at *
  generalize c.t % 7 = tt at *
  unfold mxC at ht1
  have w1 : IntKind.i64.wrap (t + 1) = t + 1 := by rw [IntKind.wrap_i64]; omega
  have w2 : IntKind.i64.wrap (t + 1 + tt) = t + 1 + tt := by rw [IntKind.wrap_i64]; omega
  have w3 : IntKind.i64.wrap (n : Int) = (n : Int) := by rw [IntKind.wrap_i64]; omega
  have w4 : IntKind.u32.wrap ii = ii := by rw [IntKind.wrap_u32]; omega
  have w5 : IntKind.u32.wrap (1 + ii) = 1 + ii := by rw [IntKind.wrap_u32]; omega
  obtain ⟨ck, ci, cs, ct⟩ := c
  unfold cgV Rk.rcV
  simp only at *
  clear hk
  go_enter Tryz.func25, Tryz.ntmps25
  go_wp2_with fail
  refine (P1.out _).mono ?_
  rintro e wa ⟨rfl, rfl⟩
  go_wp2_with fail
  refine (P2.out _).mono ?_
  rintro e wa ⟨rfl, rfl⟩
  go_wp2_with fail
  refine (P3.out _).mono ?_
  rintro e wa ⟨rfl, rfl⟩
  go_wp2_with fail
  refine (P4.out _).mono ?_
  rintro e wa ⟨rfl, rfl⟩
  go_wp2
  exact bodyPost_ret (results_cell_row rfl _ _ (w.heap.size + 1) 47 #[.int .i64 1, .int .u32 (n : Int), .int .i64 ss, .int .i64 (t + 1 + tt), .int .i64 0] (0, 0) _ rfl (box_mid w _ _ _) Tryz.underlying47 rfl (by kernel_rfl)) rfl ⟨rfl, gn_alloc (gn_alloc (grown_alloc w _) _) _⟩
set_option maxRecDepth 20000 in
set_option maxHeartbeats 8000000 in
theorem mrec_1 (c : Cg) (n : Nat) (t : Int) (hn : 1 ≤ n) (hn1 : n < 4294967296) (ht : 0 ≤ t) (ht1 : t ≤ mxC) (hk : c.k % 5 = 1) (w : World) : Calls Tryz.prog 25 #[cgV c, .int .u32 (n : Int), .int .i64 t] w fun e w' => e = .returned (Rk.rcV ⟨2, 1 + c.i % (n : Int), 0, 0, 0⟩) ∧ w.grownBy w' none := by
  have P1 : Hid (∀ W, Calls Tryz.prog 32 #[.int .i64 c.k, .int .i64 5] W fun e w' => e = .returned (.int .i64 1) ∧ w' = W) := fun W => by have := pick_any c.k 5 W (by decide) (by decide); simp only [show ((5 : Nat) : Int) = 5 from rfl, hk] at this; exact this
  have P2 : Hid (∀ W, Calls Tryz.prog 32 #[.int .i64 c.t, .int .i64 7] W fun e w' => e = .returned (.int .i64 (c.t % 7)) ∧ w' = W) := fun W => pick_any c.t 7 W (by decide) (by decide)
  have P3 : Hid (∀ W, Calls Tryz.prog 32 #[.int .i64 c.i, .int .i64 (n : Int)] W fun e w' => e = .returned (.int .i64 (c.i % (n : Int))) ∧ w' = W) := fun W => pick_any c.i n W hn (by omega)
  have P4 : Hid (∀ W, Calls Tryz.prog 32 #[.int .i64 c.s, .int .i64 13] W fun e w' => e = .returned (.int .i64 (c.s % 13)) ∧ w' = W) := fun W => pick_any c.s 13 W (by decide) (by decide)
  have b1 := Int.emod_nonneg c.s (b := 13) (by decide)
  have b2 := Int.emod_lt_of_pos c.s (b := 13) (by decide)
  have d1 := Int.emod_nonneg c.t (b := 7) (by decide)
  have d2 := Int.emod_lt_of_pos c.t (b := 7) (by decide)
  have e1 := Int.emod_nonneg c.i (b := (n : Int)) (by omega)
  have e2 := Int.emod_lt_of_pos c.i (b := (n : Int)) (by omega)
  generalize c.i % (n : Int) = ii at *
  generalize c.s % 13 = ss at *
  generalize c.t % 7 = tt at *
  unfold mxC at ht1
  have w1 : IntKind.i64.wrap (t + 1) = t + 1 := by rw [IntKind.wrap_i64]; omega
  have w2 : IntKind.i64.wrap (t + 1 + tt) = t + 1 + tt := by rw [IntKind.wrap_i64]; omega
  have w3 : IntKind.i64.wrap (n : Int) = (n : Int) := by rw [IntKind.wrap_i64]; omega
  have w4 : IntKind.u32.wrap ii = ii := by rw [IntKind.wrap_u32]; omega
  have w5 : IntKind.u32.wrap (1 + ii) = 1 + ii := by rw [IntKind.wrap_u32]; omega
  obtain ⟨ck, ci, cs, ct⟩ := c
  unfold cgV Rk.rcV
  simp only at *
  clear hk
  go_enter Tryz.func25, Tryz.ntmps25
  go_wp2_with fail
  refine (P1.out _).mono ?_
  rintro e wa ⟨rfl, rfl⟩
  go_wp2_with fail
  refine (P2.out _).mono ?_
  rintro e wa ⟨rfl, rfl⟩
  go_wp2_with fail
  refine (P3.out _).mono ?_
  rintro e wa ⟨rfl, rfl⟩
  go_wp2_with fail
  refine (P4.out _).mono ?_
  rintro e wa ⟨rfl, rfl⟩
  go_wp2
  exact bodyPost_ret (results_cell_row rfl _ _ (w.heap.size + 1) 47 #[.int .i64 2, .int .u32 (1 + ii), .int .i64 0, .int .i64 0, .int .i64 0] (0, 0) _ rfl (box_mid w _ _ _) Tryz.underlying47 rfl (by kernel_rfl)) rfl ⟨rfl, gn_alloc (gn_alloc (grown_alloc w _) _) _⟩
set_option maxRecDepth 20000 in
set_option maxHeartbeats 8000000 in
theorem mrec_2 (c : Cg) (n : Nat) (t : Int) (hn : 1 ≤ n) (hn1 : n < 4294967296) (ht : 0 ≤ t) (ht1 : t ≤ mxC) (hk : c.k % 5 = 2) (w : World) : Calls Tryz.prog 25 #[cgV c, .int .u32 (n : Int), .int .i64 t] w fun e w' => e = .returned (Rk.rcV ⟨3, 1 + c.i % (n : Int), 0, 0, 0⟩) ∧ w.grownBy w' none := by
  have P1 : Hid (∀ W, Calls Tryz.prog 32 #[.int .i64 c.k, .int .i64 5] W fun e w' => e = .returned (.int .i64 2) ∧ w' = W) := fun W => by have := pick_any c.k 5 W (by decide) (by decide); simp only [show ((5 : Nat) : Int) = 5 from rfl, hk] at this; exact this
  have P2 : Hid (∀ W, Calls Tryz.prog 32 #[.int .i64 c.t, .int .i64 7] W fun e w' => e = .returned (.int .i64 (c.t % 7)) ∧ w' = W) := fun W => pick_any c.t 7 W (by decide) (by decide)
  have P3 : Hid (∀ W, Calls Tryz.prog 32 #[.int .i64 c.i, .int .i64 (n : Int)] W fun e w' => e = .returned (.int .i64 (c.i % (n : Int))) ∧ w' = W) := fun W => pick_any c.i n W hn (by omega)
  have P4 : Hid (∀ W, Calls Tryz.prog 32 #[.int .i64 c.s, .int .i64 13] W fun e w' => e = .returned (.int .i64 (c.s % 13)) ∧ w' = W) := fun W => pick_any c.s 13 W (by decide) (by decide)
  have b1 := Int.emod_nonneg c.s (b := 13) (by decide)
  have b2 := Int.emod_lt_of_pos c.s (b := 13) (by decide)
  have d1 := Int.emod_nonneg c.t (b := 7) (by decide)
  have d2 := Int.emod_lt_of_pos c.t (b := 7) (by decide)
  have e1 := Int.emod_nonneg c.i (b := (n : Int)) (by omega)
  have e2 := Int.emod_lt_of_pos c.i (b := (n : Int)) (by omega)
  generalize c.i % (n : Int) = ii at *
  generalize c.s % 13 = ss at *
  generalize c.t % 7 = tt at *
  unfold mxC at ht1
  have w1 : IntKind.i64.wrap (t + 1) = t + 1 := by rw [IntKind.wrap_i64]; omega
  have w2 : IntKind.i64.wrap (t + 1 + tt) = t + 1 + tt := by rw [IntKind.wrap_i64]; omega
  have w3 : IntKind.i64.wrap (n : Int) = (n : Int) := by rw [IntKind.wrap_i64]; omega
  have w4 : IntKind.u32.wrap ii = ii := by rw [IntKind.wrap_u32]; omega
  have w5 : IntKind.u32.wrap (1 + ii) = 1 + ii := by rw [IntKind.wrap_u32]; omega
  obtain ⟨ck, ci, cs, ct⟩ := c
  unfold cgV Rk.rcV
  simp only at *
  clear hk
  go_enter Tryz.func25, Tryz.ntmps25
  go_wp2_with fail
  refine (P1.out _).mono ?_
  rintro e wa ⟨rfl, rfl⟩
  go_wp2_with fail
  refine (P2.out _).mono ?_
  rintro e wa ⟨rfl, rfl⟩
  go_wp2_with fail
  refine (P3.out _).mono ?_
  rintro e wa ⟨rfl, rfl⟩
  go_wp2_with fail
  refine (P4.out _).mono ?_
  rintro e wa ⟨rfl, rfl⟩
  go_wp2
  exact bodyPost_ret (results_cell_row rfl _ _ (w.heap.size + 1) 47 #[.int .i64 3, .int .u32 (1 + ii), .int .i64 0, .int .i64 0, .int .i64 0] (0, 0) _ rfl (box_mid w _ _ _) Tryz.underlying47 rfl (by kernel_rfl)) rfl ⟨rfl, gn_alloc (gn_alloc (grown_alloc w _) _) _⟩
set_option maxRecDepth 20000 in
set_option maxHeartbeats 8000000 in
theorem mrec_3 (c : Cg) (n : Nat) (t : Int) (hn : 1 ≤ n) (hn1 : n < 4294967296) (ht : 0 ≤ t) (ht1 : t ≤ mxC) (hk : c.k % 5 = 3) (w : World) : Calls Tryz.prog 25 #[cgV c, .int .u32 (n : Int), .int .i64 t] w fun e w' => e = .returned (Rk.rcV ⟨4, 1 + c.i % (n : Int), c.s % 13, 0, 0⟩) ∧ w.grownBy w' none := by
  have P1 : Hid (∀ W, Calls Tryz.prog 32 #[.int .i64 c.k, .int .i64 5] W fun e w' => e = .returned (.int .i64 3) ∧ w' = W) := fun W => by have := pick_any c.k 5 W (by decide) (by decide); simp only [show ((5 : Nat) : Int) = 5 from rfl, hk] at this; exact this
  have P2 : Hid (∀ W, Calls Tryz.prog 32 #[.int .i64 c.t, .int .i64 7] W fun e w' => e = .returned (.int .i64 (c.t % 7)) ∧ w' = W) := fun W => pick_any c.t 7 W (by decide) (by decide)
  have P3 : Hid (∀ W, Calls Tryz.prog 32 #[.int .i64 c.i, .int .i64 (n : Int)] W fun e w' => e = .returned (.int .i64 (c.i % (n : Int))) ∧ w' = W) := fun W => pick_any c.i n W hn (by omega)
  have P4 : Hid (∀ W, Calls Tryz.prog 32 #[.int .i64 c.s, .int .i64 13] W fun e w' => e = .returned (.int .i64 (c.s % 13)) ∧ w' = W) := fun W => pick_any c.s 13 W (by decide) (by decide)
  have b1 := Int.emod_nonneg c.s (b := 13) (by decide)
  have b2 := Int.emod_lt_of_pos c.s (b := 13) (by decide)
  have d1 := Int.emod_nonneg c.t (b := 7) (by decide)
  have d2 := Int.emod_lt_of_pos c.t (b := 7) (by decide)
  have e1 := Int.emod_nonneg c.i (b := (n : Int)) (by omega)
  have e2 := Int.emod_lt_of_pos c.i (b := (n : Int)) (by omega)
  generalize c.i % (n : Int) = ii at *
  generalize c.s % 13 = ss at *
  generalize c.t % 7 = tt at *
  unfold mxC at ht1
  have w1 : IntKind.i64.wrap (t + 1) = t + 1 := by rw [IntKind.wrap_i64]; omega
  have w2 : IntKind.i64.wrap (t + 1 + tt) = t + 1 + tt := by rw [IntKind.wrap_i64]; omega
  have w3 : IntKind.i64.wrap (n : Int) = (n : Int) := by rw [IntKind.wrap_i64]; omega
  have w4 : IntKind.u32.wrap ii = ii := by rw [IntKind.wrap_u32]; omega
  have w5 : IntKind.u32.wrap (1 + ii) = 1 + ii := by rw [IntKind.wrap_u32]; omega
  obtain ⟨ck, ci, cs, ct⟩ := c
  unfold cgV Rk.rcV
  simp only at *
  clear hk
  go_enter Tryz.func25, Tryz.ntmps25
  go_wp2_with fail
  refine (P1.out _).mono ?_
  rintro e wa ⟨rfl, rfl⟩
  go_wp2_with fail
  refine (P2.out _).mono ?_
  rintro e wa ⟨rfl, rfl⟩
  go_wp2_with fail
  refine (P3.out _).mono ?_
  rintro e wa ⟨rfl, rfl⟩
  go_wp2_with fail
  refine (P4.out _).mono ?_
  rintro e wa ⟨rfl, rfl⟩
  go_wp2
  exact bodyPost_ret (results_cell_row rfl _ _ (w.heap.size + 1) 47 #[.int .i64 4, .int .u32 (1 + ii), .int .i64 ss, .int .i64 0, .int .i64 0] (0, 0) _ rfl (box_mid w _ _ _) Tryz.underlying47 rfl (by kernel_rfl)) rfl ⟨rfl, gn_alloc (gn_alloc (grown_alloc w _) _) _⟩
set_option maxRecDepth 20000 in
set_option maxHeartbeats 8000000 in
theorem mrec_4 (c : Cg) (n : Nat) (t : Int) (hn : 1 ≤ n) (hn1 : n < 4294967296) (ht : 0 ≤ t) (ht1 : t ≤ mxC) (hk : c.k % 5 = 4) (w : World) : Calls Tryz.prog 25 #[cgV c, .int .u32 (n : Int), .int .i64 t] w fun e w' => e = .returned (Rk.rcV ⟨5, 0, 0, 0, t + 1 + c.t % 7⟩) ∧ w.grownBy w' none := by
  have P1 : Hid (∀ W, Calls Tryz.prog 32 #[.int .i64 c.k, .int .i64 5] W fun e w' => e = .returned (.int .i64 4) ∧ w' = W) := fun W => by have := pick_any c.k 5 W (by decide) (by decide); simp only [show ((5 : Nat) : Int) = 5 from rfl, hk] at this; exact this
  have P2 : Hid (∀ W, Calls Tryz.prog 32 #[.int .i64 c.t, .int .i64 7] W fun e w' => e = .returned (.int .i64 (c.t % 7)) ∧ w' = W) := fun W => pick_any c.t 7 W (by decide) (by decide)
  have P3 : Hid (∀ W, Calls Tryz.prog 32 #[.int .i64 c.i, .int .i64 (n : Int)] W fun e w' => e = .returned (.int .i64 (c.i % (n : Int))) ∧ w' = W) := fun W => pick_any c.i n W hn (by omega)
  have P4 : Hid (∀ W, Calls Tryz.prog 32 #[.int .i64 c.s, .int .i64 13] W fun e w' => e = .returned (.int .i64 (c.s % 13)) ∧ w' = W) := fun W => pick_any c.s 13 W (by decide) (by decide)
  have b1 := Int.emod_nonneg c.s (b := 13) (by decide)
  have b2 := Int.emod_lt_of_pos c.s (b := 13) (by decide)
  have d1 := Int.emod_nonneg c.t (b := 7) (by decide)
  have d2 := Int.emod_lt_of_pos c.t (b := 7) (by decide)
  have e1 := Int.emod_nonneg c.i (b := (n : Int)) (by omega)
  have e2 := Int.emod_lt_of_pos c.i (b := (n : Int)) (by omega)
  generalize c.i % (n : Int) = ii at *
  generalize c.s % 13 = ss at *
  generalize c.t % 7 = tt at *
  unfold mxC at ht1
  have w1 : IntKind.i64.wrap (t + 1) = t + 1 := by rw [IntKind.wrap_i64]; omega
  have w2 : IntKind.i64.wrap (t + 1 + tt) = t + 1 + tt := by rw [IntKind.wrap_i64]; omega
  have w3 : IntKind.i64.wrap (n : Int) = (n : Int) := by rw [IntKind.wrap_i64]; omega
  have w4 : IntKind.u32.wrap ii = ii := by rw [IntKind.wrap_u32]; omega
  have w5 : IntKind.u32.wrap (1 + ii) = 1 + ii := by rw [IntKind.wrap_u32]; omega
  obtain ⟨ck, ci, cs, ct⟩ := c
  unfold cgV Rk.rcV
  simp only at *
  clear hk
  go_enter Tryz.func25, Tryz.ntmps25
  go_wp2_with fail
  refine (P1.out _).mono ?_
  rintro e wa ⟨rfl, rfl⟩
  go_wp2_with fail
  refine (P2.out _).mono ?_
  rintro e wa ⟨rfl, rfl⟩
  go_wp2_with fail
  refine (P3.out _).mono ?_
  rintro e wa ⟨rfl, rfl⟩
  go_wp2_with fail
  refine (P4.out _).mono ?_
  rintro e wa ⟨rfl, rfl⟩
  go_wp2
  exact bodyPost_ret (results_cell_row rfl _ _ (w.heap.size + 1) 47 #[.int .i64 5, .int .u32 0, .int .i64 0, .int .i64 0, .int .i64 (t + 1 + tt)] (0, 0) _ rfl (box_mid w _ _ _) Tryz.underlying47 rfl (by kernel_rfl)) rfl ⟨rfl, gn_alloc (gn_alloc (grown_alloc w _) _) _⟩
theorem mrec_any (c : Cg) (n : Nat) (t : Int) (hn : 1 ≤ n) (hn1 : n < 4294967296) (ht : 0 ≤ t) (ht1 : t ≤ mxC) (w : World) : Calls Tryz.prog 25 #[cgV c, .int .u32 (n : Int), .int .i64 t] w fun e w' => e = .returned (Rk.rcV (cgR c n t)) ∧ w.grownBy w' none := by
  have a1 := Int.emod_nonneg c.k (b := 5) (by decide)
  have a2 := Int.emod_lt_of_pos c.k (b := 5) (by decide)
  have hk : c.k % 5 = 0 ∨ c.k % 5 = 1 ∨ c.k % 5 = 2 ∨ c.k % 5 = 3 ∨ c.k % 5 = 4 := by omega
  unfold cgR
  rcases hk with hk | hk | hk | hk | hk
  · rw [if_pos hk]; exact mrec_0 c n t hn hn1 ht ht1 hk w
  · rw [if_neg (by omega), if_neg (by omega), if_neg (by omega), hk]; exact mrec_1 c n t hn hn1 ht ht1 hk w
  · rw [if_neg (by omega), if_neg (by omega), if_neg (by omega), hk]; exact mrec_2 c n t hn hn1 ht ht1 hk w
  · rw [if_neg (by omega), if_pos hk]; exact mrec_3 c n t hn hn1 ht ht1 hk w
  · rw [if_neg (by omega), if_neg (by omega), if_pos hk]; exact mrec_4 c n t hn hn1 ht ht1 hk w
end Go.Proofs.YtinkkocleognbaaGreatDoor
namespace Go.Proofs.YtinkkocleognbaaGreatDoor
/- Histories. -/
open Go.RowKit
attribute [local go_sem ↓] Go.wp_at_zero Go.wp_at_succ
attribute [local go_sem] Oper.semAt_some
/-- Changes that lie somewhere. -/
def CgsAt (w : World) (ao : Option Addr) (l : List Cg) : Prop := ∀ j c, l[j]? = some c → ∃ blk off, ao = some (⟨blk, off, none⟩ : Addr) ∧ w.cell? ⟨blk, off + j * 4, none⟩ = some (.int .i64 c.k) ∧ w.cell? ⟨blk, off + j * 4 + 1, none⟩ = some (.int .i64 c.i) ∧ w.cell? ⟨blk, off + j * 4 + 2, none⟩ = some (.int .i64 c.s) ∧ w.cell? ⟨blk, off + j * 4 + 3, none⟩ = some (.int .i64 c.t)
theorem CgsAt.grown {w w' : World} {ao : Option Addr} {l : List Cg} (h : CgsAt w ao l) (g : w.grownBy w' none) : CgsAt w' ao l := by
  intro j o hj
  obtain ⟨b, off, e, h1, h2, h3, h4⟩ := h j o hj
  exact ⟨b, off, e, g.cell h1 (by simp), g.cell h2 (by simp), g.cell h3 (by simp), g.cell h4 (by simp)⟩
theorem CgsAt.take {w : World} {ao : Option Addr} {l : List Cg} (h : CgsAt w ao l) (n : Nat) : CgsAt w ao (l.take n) := fun j c hj => by
  refine h j c ?_
  rw [List.getElem?_take] at hj
  split at hj
  · exact hj
  · cases hj
/-- Inside History, behind j changes. -/
structure HiS (w wr : World) (d : Nat) (S0 : Sb) (l : List Cg) (all : Bool) (j : Nat) (q : Value) : Prop where
  db : ∃ v, Db wr w.heap.size d v (hS S0 l j)
  row : wr.ownsRow w.heap.size 47 5 q (hist all S0 (l.take j)).length (rcs (hist all S0 (l.take j)))
  gr : w.grownBy wr none
theorem HiS.then {w wr wr' : World} {d : Nat} {S0 : Sb} {l : List Cg} {all : Bool} {j : Nat} {q : Value} (h : HiS w wr d S0 l all j q) (g : wr.grownBy wr' none) : HiS w wr' d S0 l all j q := by
  obtain ⟨v, h1⟩ := h.db
  exact ⟨⟨v, h1.then g⟩, own_keep h.row g, grown_trans h.gr g⟩
/-- A row of records lies off the document's book. -/
theorem row_off {w : World} {lo d b n : Nat} {v q : Value} {S : Sb} {xs : List Value} (h : Db w lo d v S) (hr : w.ownsRow b 47 5 q n xs) : ∀ i, q.ownBlock = some i → ¬ dbo d v i := by
  rintro i hi (e | e)
  · obtain ⟨-, cur, hc⟩ := Ix.own_block hr hi
    rw [e, h.head] at hc
    cases hc
  · obtain ⟨-, cur, hc⟩ := Ix.own_block hr hi
    obtain ⟨-, cur', hc'⟩ := Ix.own_block h.row e
    rw [hc] at hc'
    cases hc'
def zrc : List Value := [.int .i64 0, .int .u32 0, .int .i64 0, .int .i64 0, .int .i64 0]
theorem mid_b {wr w1 : World} (g : (wr.alloc (.cells zrc.toArray 47)).grownBy w1 none) : w1.heap[wr.heap.size]? = some (.cells zrc.toArray 47 (0, 0)) := (g.block _ (row_lt (heap_alloc_new wr _)) (by simp)).trans (heap_alloc_new wr _)
set_option maxRecDepth 20000 in
set_option maxHeartbeats 16000000 in
theorem hist_any {w : World} {a b c : Nat} (ho : Gx.OkS a b c) {ao : Option Addr} {cap : Nat} {l : List Cg} (hl : l.length ≤ 1000) (hC : CgsAt w ao l) (all : Bool) : Calls Tryz.prog 21 #[limV a b c, .slice ao l.length cap, .bool all] w fun e w' => ∃ so c2, e = .returned (.slice so (hist all (nS a b c) l).length c2) ∧ w'.ownsRow w.heap.size 47 5 (.slice so (hist all (nS a b c) l).length c2) (hist all (nS a b c) l).length (rcs (hist all (nS a b c) l)) ∧ w.grownBy w' none := by
  have b0 := grown_alloc w (.cells [Value.int .i64 (a : Int), .int .i64 (b : Int), .int .i64 (c : Int)].toArray 23)
  have HN : Hid (Calls Tryz.prog 46 #[.agg #[.int .i64 (a : Int), .int .i64 (b : Int), .int .i64 (c : Int)]] (w.alloc (.cells [Value.int .i64 (a : Int), .int .i64 (b : Int), .int .i64 (c : Int)].toArray 23)) fun e w' => ∃ d, e = .returned (.tuple #[.pointer (some ⟨d, 0, none⟩), .int .i64 0]) ∧ HiS w w' d (nS a b c) l all 0 (.slice none 0 0)) := by
    refine (dnew_any ho _).mono ?_
    rintro e w' ⟨d, rfl, h1, h2⟩
    exact ⟨d, rfl, ⟨_, h1.head, own_base h1.row b0.size, Nat.le_trans b0.size h1.ge⟩, World.ownsRow_nil _ _ _ _, grown_trans b0 h2⟩
  have HOk : Hid (∀ j, (hS (nS a b c) l j).Ok) := fun j => hS_ok (nS_ok ho) l j
  have HRe : Hid (∀ (c' : Cg) j (W : World), Calls Tryz.prog 25 #[.agg #[.int .i64 c'.k, .int .i64 c'.i, .int .i64 c'.s, .int .i64 c'.t], .int .u32 ((hS (nS a b c) l j).n : Int), .int .i64 (hS (nS a b c) l j).t] W fun e w' => e = .returned (.agg (rcc (cgR c' (hS (nS a b c) l j).n (hS (nS a b c) l j).t)).toArray) ∧ W.grownBy w' none) := fun c' j W => mrec_any c' _ _ (HOk.out j).n0 (HOk.out j).n1 (HOk.out j).t0 (HOk.out j).t1 W
  have HSt : Hid (∀ j c', l[j]? = some c' → hS (nS a b c) l (j + 1) = app (hS (nS a b c) l j) (cgR c' (hS (nS a b c) l j).n (hS (nS a b c) l j).t)) := fun j c' h => hS_succ h
  have HHt : Hid (∀ j c', l[j]? = some c' → hist all (nS a b c) (l.take (j + 1)) = hist all (nS a b c) (l.take j) ++ (if appE (hS (nS a b c) l j) (cgR c' (hS (nS a b c) l j).n (hS (nS a b c) l j).t) = 0 ∨ all = true then [cgR c' (hS (nS a b c) l j).n (hS (nS a b c) l j).t] else [])) := fun j c' h => hist_take h
  have HLe : Hid (∀ j, (hist all (nS a b c) (l.take j)).length ≤ j) := fun j => Nat.le_trans (hist_le all _ _) (by rw [List.length_take]; omega)
  have HAll : Hid (l.take l.length = l) := List.take_length
  have HC := hide hC
  clear ho b0 hC
  unfold limV
  generalize (nS a b c) = S0 at *
  generalize (a : Int) = a at *
  generalize (b : Int) = b at *
  generalize (c : Int) = c at *
  obtain ⟨i0, hi0, hz0, hz1, hz2⟩ := info_parts info47
  have HI0 := hide (And.intro hi0 (And.intro hz0 (And.intro hz1 hz2)))
  clear hi0 hz0 hz1 hz2
  go_enter Tryz.func21, Tryz.ntmps21
  go_wp2_with fail
  refine HN.out.mono ?_
  rintro e w1 ⟨d, rfl, h1⟩
  have H1 := hide h1
  clear h1 HN
  go_wp2
  go_loopg [9, 10] l.length (fun k q9 q10 wr => ∃ (j : Nat) (vq : Option Addr) (mq cq : Nat), k + j = l.length ∧ q10 = .int .i64 (j : Int) ∧ q9 = .slice vq mq cq ∧ Hid (HiS w wr d S0 l all j (.slice vq mq cq)))
  case atStart => exact ⟨0, none, 0, 0, by omega, rfl, rfl, H1.out⟩
  case round =>
    clear H1
    obtain ⟨j, vq, mq, cq, hkj, rfl, rfl, HH⟩ := hrel
    by_cases hk : 0 < gk
    · have hj : j < l.length := by omega
      have h1 : (j : Int) < (l.length : Int) := by omega
      have h0 : (0 : Int) ≤ (j : Int) := by omega
      obtain ⟨c', hc'⟩ : ∃ c', l[j]? = some c' := ⟨l[j]'hj, List.getElem?_eq_getElem hj⟩
      obtain ⟨rb, off, rfl, k0, k1, k2, k3⟩ := (HC.out.grown HH.out.gr) j c' hc'
      obtain ⟨vd, hdb⟩ := HH.out.db
      have HD := hide hdb
      have d5 := hdb.cell (j := 5) rfl
      have d6 := hdb.cell (j := 6) rfl
      have HRe' := hide (HRe.out c' j)
      obtain ⟨r, hr⟩ : ∃ r, r = cgR c' (hS S0 l j).n (hS S0 l j).t := ⟨_, rfl⟩
      have HOkR : Hid r.Ok := by rw [hr]; exact cgR_ok (HOk.out j).n0 (HOk.out j).n1 (HOk.out j).t0 (HOk.out j).t1
      have HSj : Hid (hS S0 l (j + 1) = app (hS S0 l j) r) := by rw [hr]; exact HSt.out j c' hc'
      have HHj : Hid (hist all S0 (l.take (j + 1)) = hist all S0 (l.take j) ++ (if appE (hS S0 l j) r = 0 ∨ all = true then [r] else [])) := by rw [hr]; exact HHt.out j c' hc'
      rw [← hr] at HRe'
      have HKf : Hid (∀ W, wr.grownBy W none → W.cell? ⟨rb, off + j * 4, none⟩ = some (.int .i64 c'.k) ∧ W.cell? ⟨rb, off + j * 4 + 1, none⟩ = some (.int .i64 c'.i) ∧ W.cell? ⟨rb, off + j * 4 + 2, none⟩ = some (.int .i64 c'.s) ∧ W.cell? ⟨rb, off + j * 4 + 3, none⟩ = some (.int .i64 c'.t) ∧ W.cell? ⟨d, 5, none⟩ = some (.int .u32 ((hS S0 l j).n : Int)) ∧ W.cell? ⟨d, 6, none⟩ = some (.int .i64 (hS S0 l j).t)) := fun W g => ⟨g.cell k0 (by simp), g.cell k1 (by simp), g.cell k2 (by simp), g.cell k3 (by simp), g.cell d5 (by simp), g.cell d6 (by simp)⟩
      clear hr hdb hc' hj
      unfold rcc at HRe'
      obtain ⟨rk, ri, rs, ru, rc⟩ := r
      obtain ⟨ck, ci, cs, ct⟩ := c'
      simp only at *
      generalize ((hS S0 l j).n : Int) = Sn at *
      generalize (hS S0 l j).t = St at *
      go_wp2
      go_cut [11] from 28 to 40 (fun v W => ∃ B, v = .pointer (some ⟨B, 0, none⟩) ∧ Hid (W.heap[B]? = some (.cells [Value.int .i64 rk, .int .u32 ri, .int .i64 rs, .int .i64 ru, .int .i64 rc].toArray 47 (0, 0)) ∧ wr.grownBy W none))
      case first =>
        have hK0 := HKf.out wr.drew (grown_drew wr none)
        have hKz := HKf.out _ (gn_drew (grown_alloc wr (.cells #[.int .i64 0, .int .u32 0, .int .i64 0, .int .i64 0, .int .i64 0] 47)))
        refine wp_region_held_drew (S := (fun W => W.cell? ⟨rb, off + j * 4, none⟩ = some (.int .i64 ck) ∧ W.cell? ⟨rb, off + j * 4 + 1, none⟩ = some (.int .i64 ci) ∧ W.cell? ⟨rb, off + j * 4 + 2, none⟩ = some (.int .i64 cs) ∧ W.cell? ⟨rb, off + j * 4 + 3, none⟩ = some (.int .i64 ct) ∧ W.cell? ⟨d, 5, none⟩ = some (.int .u32 Sn) ∧ W.cell? ⟨d, 6, none⟩ = some (.int .i64 St))) (by kernel_rfl) ?_ (fun hHeld => ?_)
        · (exact hK0)
        refine tkQ 0 (oi := ⟨some 28, .move (.tmp 1), 64, "made.go:78", #[], none⟩) rfl ?_
        try simp only [Act.put, pA, pB, pC]
        refine tkQ 1 (oi := ⟨some 29, .move (.tmp 10), 3, "made.go:78", #[], none⟩) rfl ?_
        try simp only [Act.put, pA, pB, pC]
        refine tkQ 2 (oi := ⟨some 30, .indexAddr 64 (.tmp 28) (.tmp 29), 0, "made.go:78", #[⟨0, .data⟩, ⟨1, .data⟩], none⟩) rfl ?_
        try simp only [Act.put, pA, pB, pC]
        refine tkQ 3 (oi := ⟨some 31, .load 73 (.tmp 30), 73, "made.go:78", #[⟨2, .data⟩], none⟩) rfl ?_
        try simp only [Act.put, pA, pB, pC]
        refine tkQ 4 (oi := ⟨some 32, .move (.tmp 7), 61, "made.go:78", #[], none⟩) rfl ?_
        try simp only [Act.put, pA, pB, pC]
        refine tkQ 5 (oi := ⟨some 33, .nilCheck (.tmp 32), 0, "made.go:78", #[⟨4, .data⟩], none⟩) rfl ?_
        try simp only [Act.put, pA, pB, pC]
        refine tkQ 6 (oi := ⟨some 34, .fieldAddr 76 (.tmp 33) 3, 0, "made.go:78", #[⟨5, .data⟩], none⟩) rfl ?_
        try simp only [Act.put, pA, pB, pC]
        refine tkQ 7 (oi := ⟨some 35, .load 30 (.tmp 34), 30, "made.go:78", #[⟨6, .data⟩], none⟩) rfl ?_
        try simp only [Act.put, pA, pB, pC]
        refine tkQ 8 (oi := ⟨some 36, .move (.tmp 7), 61, "made.go:78", #[], none⟩) rfl ?_
        try simp only [Act.put, pA, pB, pC]
        refine tkQ 9 (oi := ⟨some 37, .nilCheck (.tmp 36), 0, "made.go:78", #[⟨8, .data⟩], none⟩) rfl ?_
        try simp only [Act.put, pA, pB, pC]
        refine tkQ 10 (oi := ⟨some 38, .fieldAddr 76 (.tmp 37) 4, 0, "made.go:78", #[⟨9, .data⟩], none⟩) rfl ?_
        try simp only [Act.put, pA, pB, pC]
        refine tkQ 11 (oi := ⟨some 39, .load 2 (.tmp 38), 2, "made.go:78", #[⟨10, .data⟩], none⟩) rfl ?_
        try simp only [Act.put, pA, pB, pC]
        refine wpAnyH_ready (rs := [12, 13]) (by kernel_rfl) (by simp) ?_
        refine AllReadyH.cons (o := { dst := some 40, op := Go.Op.call { callee := Go.Callee.value (Go.Operand.func 25), args := #[Go.Operand.tmp 31, Go.Operand.tmp 35, Go.Operand.tmp 39], argTypes := #[73, 30, 2] }, type := 47, pos := "made.go:78", after := #[{ on := 3, ground := Go.Ground.data }, { on := 7, ground := Go.Ground.data }, { on := 11, ground := Go.Ground.data }], guard := none }) rfl (fun K hK => ?_) ?_
        · skip
          go_simp
          refine (HRe'.out _).mono ?_
          rintro e w2 ⟨rfl, g2⟩
          have G1 := hide (grown_trans (grown_drew wr none) g2)
          have hK1 := HKf.out w2 G1.out
          have hK2 := HKf.out _ (gn_alloc G1.out (.cells #[.int .i64 0, .int .u32 0, .int .i64 0, .int .i64 0, .int .i64 0] 47))
          have hK3 := HKf.out _ (gn_alloc G1.out (.cells #[.int .i64 rk, .int .u32 ri, .int .i64 rs, .int .i64 ru, .int .i64 rc] 47))
          have HZ := hide (And.intro (heap_alloc_new w2 (.cells #[.int .i64 rk, .int .u32 ri, .int .i64 rs, .int .i64 ru, .int .i64 rc] 47)) (gn_alloc G1.out (.cells #[.int .i64 rk, .int .u32 ri, .int .i64 rs, .int .i64 ru, .int .i64 rc] 47)))
          clear g2
          go_wp2_with fail
          refine hK.out _ _ ?_ (fun hHeld => ?_)
          · ((try dsimp only); first | with_reducible exact hK1 | with_reducible exact hK2 | with_reducible exact hK3 | with_reducible exact hK0 | with_reducible exact hKz | exact hK0 | exact hKz | exact hK1 | exact hK2 | exact hK3)
          clear hK K
          try simp only [Act.put, pA, pB, pC]
          refine rdH (i := 13) rfl (fun K hK => ?_)
          go_simp
          refine hK.out _ _ ?_ (fun hHeld => ?_)
          · ((try dsimp only); first | with_reducible exact hK1 | with_reducible exact hK2 | with_reducible exact hK3 | with_reducible exact hK0 | with_reducible exact hKz | exact hK0 | exact hKz | exact hK1 | exact hK2 | exact hK3)
          clear hK K
          try simp only [Act.put, pA, pB, pC]
          refine rdH (i := 14) rfl (fun K hK => ?_)
          go_simp
          refine hK.out _ _ ?_ (fun hHeld => ?_)
          · ((try dsimp only); first | with_reducible exact hK1 | with_reducible exact hK2 | with_reducible exact hK3 | with_reducible exact hK0 | with_reducible exact hKz | exact hK0 | exact hKz | exact hK1 | exact hK2 | exact hK3)
          clear hK K
          try simp only [Act.put, pA, pB, pC]
          refine wpAnyH_done (by kernel_rfl) ?_ _
          go_wp2
          go_meet
          case rel => exact ⟨_, rfl, HZ.out.1, HZ.out.2⟩
        refine AllReadyH.cons (o := { dst := some 11, op := Go.Op.alloc 47, type := 0, pos := "made.go:78", after := #[], guard := none }) rfl (fun K hK => ?_) ?_
        · skip
          go_simp
          refine hK.out _ _ ?_ (fun hHeld => ?_)
          · ((try dsimp only); first | with_reducible exact hK1 | with_reducible exact hK2 | with_reducible exact hK3 | with_reducible exact hK0 | with_reducible exact hKz | exact hK0 | exact hKz | exact hK1 | exact hK2 | exact hK3)
          clear hK K
          try simp only [Act.put, pA, pB, pC]
          refine rdH (i := 12) rfl (fun K hK => ?_)
          go_simp
          refine (HRe'.out _).mono ?_
          rintro e w2 ⟨rfl, g2⟩
          have G2 := hide (grown_trans (grown_drew (wr.alloc (.cells #[.int .i64 0, .int .u32 0, .int .i64 0, .int .i64 0, .int .i64 0] 47)) none) g2)
          have hK1 := HKf.out w2 (grown_trans (grown_alloc wr _) G2.out)
          have HQ5 := hide (Rk.set5 (mid_b G2.out) (.int .i64 rk) (.int .u32 ri) (.int .i64 rs) (.int .i64 ru) (.int .i64 rc))
          have G3 := hide (gn_set (gn_set (gn_set (gn_set (gn_set (grown_trans (grown_alloc wr _) G2.out) (Nat.le_refl _) (j := 0) (v := .int .i64 rk)) (Nat.le_refl _) (j := 1) (v := .int .u32 ri)) (Nat.le_refl _) (j := 2) (v := .int .i64 rs)) (Nat.le_refl _) (j := 3) (v := .int .i64 ru)) (Nat.le_refl _) (j := 4) (v := .int .i64 rc))
          have hK2 := HKf.out _ G3.out
          have HZ := hide (And.intro HQ5.out.1 G3.out)
          obtain ⟨y0, y1, y2, y3, y4⟩ := Rk.box5 (mid_b G2.out)
          have z0 := free_row (mid_b G2.out) 0
          have z1 := free_row (mid_b G2.out) 1
          have z2 := free_row (mid_b G2.out) 2
          have z3 := free_row (mid_b G2.out) 3
          have z4 := free_row (mid_b G2.out) 4
          clear g2
          go_wp2_with fail
          refine hK.out _ _ ?_ (fun hHeld => ?_)
          · ((try dsimp only); first | with_reducible exact hK1 | with_reducible exact hK2 | with_reducible exact hK3 | with_reducible exact hK0 | with_reducible exact hKz | exact hK0 | exact hKz | exact hK1 | exact hK2 | exact hK3)
          clear hK K
          try simp only [Act.put, pA, pB, pC]
          refine rdH (i := 14) rfl (fun K hK => ?_)
          go_simp
          refine hK.out _ _ ?_ (fun hHeld => ?_)
          · ((try dsimp only); first | with_reducible exact hK1 | with_reducible exact hK2 | with_reducible exact hK3 | with_reducible exact hK0 | with_reducible exact hKz | exact hK0 | exact hKz | exact hK1 | exact hK2 | exact hK3)
          clear hK K
          try simp only [Act.put, pA, pB, pC]
          refine wpAnyH_done (by kernel_rfl) ?_ _
          go_wp2
          go_meet
          case rel => exact ⟨_, rfl, HZ.out.1, HZ.out.2⟩
        exact AllReadyH.nil
      case rest =>
        obtain ⟨B, rfl, HB⟩ := hcut
        have hdw := HD.out.then HB.out.2
        have hA := dapply_any hdw (HOk.out j) ⟨rk, ri, rs, ru, rc⟩ HOkR.out
        obtain ⟨y0, y1, y2, y3, y4⟩ := Rk.box5 HB.out.1
        have HA : Hid (Calls Tryz.prog 26 #[.pointer (some ⟨d, 0, none⟩), .agg #[.int .i64 rk, .int .u32 ri, .int .i64 rs, .int .i64 ru, .int .i64 rc]] wc fun e w' => e = .returned (.int .i64 (appE (hS S0 l j) ⟨rk, ri, rs, ru, rc⟩)) ∧ (∃ v', Db w' w.heap.size d v' (hS S0 l (j + 1))) ∧ w'.ownsRow w.heap.size 47 5 (.slice vq mq cq) (hist all S0 (l.take j)).length (rcs (hist all S0 (l.take j))) ∧ w.grownBy w' none ∧ w'.heap[B]? = some (.cells [Value.int .i64 rk, .int .u32 ri, .int .i64 rs, .int .i64 ru, .int .i64 rc].toArray 47 (0, 0))) := by
          refine hA.mono ?_
          rintro e w' ⟨v', rfl, h1, h2⟩
          have hrow := own_keep HH.out.row HB.out.2
          have hBo : ¬ dbo d vd B := by
            rintro (e | e)
            · have := HB.out.1; rw [e, hdw.head] at this; cases this
            · obtain ⟨-, cur, hc⟩ := Ix.own_block hdw.row e
              rw [HB.out.1] at hc; cases hc
          refine ⟨rfl, ⟨v', by rw [HSj.out]; exact h1⟩, own_kept hrow h2.kept (row_off hdw hrow), kept_grown (grown_trans HH.out.gr HB.out.2) h2.kept (fun i hi => hdw.lows i hi), h2.kept.at HB.out.1 hBo⟩
        have hmq : mq = (hist all S0 (l.take j)).length := slice_n HH.out.row
        have hmj : mq ≤ 1000 := by have := HLe.out j; omega
        clear hdw hA HH HB HD HOkR HSj k0 k1 k2 k3 d5 d6 HKf HRe'
        go_wp2_with fail
        refine HA.out.mono ?_
        rintro e w3 ⟨rfl, hdb3, hrow3, hg3, hB3⟩
        obtain ⟨x0, x1, x2, x3, x4⟩ := Rk.box5 hB3
        have H3 := hide (And.intro hdb3 (And.intro hrow3 hg3))
        have HRow : Hid ((w3.alloc (.cells [Value.int .i64 rk, .int .u32 ri, .int .i64 rs, .int .i64 ru, .int .i64 rc].toArray 47)).ownsRow w.heap.size 47 5 (.slice vq mq cq) mq (rcs (hist all S0 (l.take j))) ∧ (∀ jj u, [Value.int .i64 rk, .int .u32 ri, .int .i64 rs, .int .i64 ru, .int .i64 rc][jj]? = some u → (w3.alloc (.cells [Value.int .i64 rk, .int .u32 ri, .int .i64 rs, .int .i64 ru, .int .i64 rc].toArray 47)).cell? ((⟨w3.heap.size, 0, none⟩ : Addr).add jj) = some u) ∧ w.heap.size ≤ w3.heap.size) := by
          refine ⟨by rw [hmq]; rw [← hmq]; have := hrow3.alloc (.cells [Value.int .i64 rk, .int .u32 ri, .int .i64 rs, .int .i64 ru, .int .i64 rc].toArray 47); rw [← hmq] at this; exact this, fun jj u hu => ?_, hg3.size⟩
          rw [Addr.add_lit, Nat.zero_add, cell_row (heap_alloc_new w3 _)]
          exact hu
        have HOc : Hid (∀ u ∈ [Value.int .i64 rk, .int .u32 ri, .int .i64 rs, .int .i64 ru, .int .i64 rc], u.oneCell' = true) := by
          intro u hu
          simp at hu
          rcases hu with rfl | rfl | rfl | rfl | rfl <;> rfl
        have HAp : Hid (appE (hS S0 l j) ⟨rk, ri, rs, ru, rc⟩ = 0 ∨ all = true → ∀ v' w', w'.ownsRow w.heap.size 47 5 v' (mq + 1) (rcs (hist all S0 (l.take j)) ++ [Value.int .i64 rk, .int .u32 ri, .int .i64 rs, .int .i64 ru, .int .i64 rc]) → (w3.alloc (.cells [Value.int .i64 rk, .int .u32 ri, .int .i64 rs, .int .i64 ru, .int .i64 rc].toArray 47)).grownBy w' (Value.slice vq mq cq).ownBlock → HiS w w' d S0 l all (j + 1) v') := by
          intro hy v' w' hov hg
          obtain ⟨⟨v3, hd3⟩, hr3, hg3⟩ := H3.out
          have k : Kept w3 w' (fun i => (Value.slice vq mq cq).ownBlock = some i) := (Kept.new (grown_alloc w3 _) _).trans (Kept.of hg (S := fun i => (Value.slice vq mq cq).ownBlock = some i) (fun j e _ => e)) (fun _ _ e => e)
          have hge : ∀ i, (Value.slice vq mq cq).ownBlock = some i → w.heap.size ≤ i := fun i hi => (Ix.own_block hr3 hi).1
          have hof := row_off hd3 hr3
          refine ⟨⟨v3, hd3.far k (fun i hi e => hof i e hi)⟩, ?_, kept_grown hg3 k hge⟩
          rw [HHj.out, if_pos hy, List.length_append, ← hmq, rcs_snoc]
          exact hov
        have HNo : Hid (¬ (appE (hS S0 l j) ⟨rk, ri, rs, ru, rc⟩ = 0 ∨ all = true) → HiS w w3 d S0 l all (j + 1) (.slice vq mq cq)) := by
          intro hn
          refine ⟨H3.out.1, ?_, H3.out.2.2⟩
          rw [HHj.out, if_neg hn, List.append_nil]
          exact H3.out.2.1
        have HMq := hide hmj
        clear hdb3 hrow3 hg3 hB3 HA HHj H3 hmq hmj y0 y1 y2 y3 y4
        generalize rcs (hist all S0 (l.take j)) = Lt at *
        generalize appE (hS S0 l j) ⟨rk, ri, rs, ru, rc⟩ = er at *
        by_cases he : er = 0
        · subst he
          have HAp2 := hide (HAp.out (.inl rfl))
          clear HNo HAp
          go_wp2_with (at_builtin; refine wpList_append_own _ rfl (.tmp 49) (.tmp 51) 48 rfl w.heap.size 47 i0 (.agg #[.int .i64 0, .int .u32 0, .int .i64 0, .int .i64 0, .int .i64 0]) 5 40 Tryz.underlying48 HI0.out.1 HI0.out.2.1 HI0.out.2.2.1 HI0.out.2.2.2 rfl (by decide) (.slice vq mq cq) mq Lt rfl HRow.out.1 ⟨w3.heap.size, 0, none⟩ 1 1 [.int .i64 rk, .int .u32 ri, .int .i64 rs, .int .i64 ru, .int .i64 rc] rfl rfl HRow.out.2.1 HOc.out (by have := HMq.out; unfold maxLen; omega) (by have := HMq.out; omega) (by have := HRow.out.2.2; simp; omega) ?_)
          intro v' w' hov hg hv
          clear hv
          obtain ⟨vo', vc', rfl, -⟩ := Ix.own_form hov
          have HN := hide (HAp2.out _ _ hov hg)
          clear hov hg
          go_wp2
          go_roundg (gk - 1)
          case measure => omega
          case rel => exact ⟨j + 1, vo', mq + 1, vc', by omega, by go_num, rfl, HN.out⟩
        · have f1 : (er == 0) = false := by simpa using he
          have f2 : decide (er = 0) = false := by simpa using he
          cases all with
          | true =>
            have HAp2 := hide (HAp.out (.inr rfl))
            clear HNo he HAp
            go_wp2_with (at_builtin; refine wpList_append_own _ rfl (.tmp 49) (.tmp 51) 48 rfl w.heap.size 47 i0 (.agg #[.int .i64 0, .int .u32 0, .int .i64 0, .int .i64 0, .int .i64 0]) 5 40 Tryz.underlying48 HI0.out.1 HI0.out.2.1 HI0.out.2.2.1 HI0.out.2.2.2 rfl (by decide) (.slice vq mq cq) mq Lt rfl HRow.out.1 ⟨w3.heap.size, 0, none⟩ 1 1 [.int .i64 rk, .int .u32 ri, .int .i64 rs, .int .i64 ru, .int .i64 rc] rfl rfl HRow.out.2.1 HOc.out (by have := HMq.out; unfold maxLen; omega) (by have := HMq.out; omega) (by have := HRow.out.2.2; simp; omega) ?_)
            intro v' w' hov hg hv
            clear hv
            obtain ⟨vo', vc', rfl, -⟩ := Ix.own_form hov
            have HN := hide (HAp2.out _ _ hov hg)
            clear hov hg
            go_wp2
            go_roundg (gk - 1)
            case measure => omega
            case rel => exact ⟨j + 1, vo', mq + 1, vc', by omega, by go_num, rfl, HN.out⟩
          | false =>
            have HN := hide (HNo.out (fun e => e.elim he (fun e => by cases e)))
            clear HNo HAp he HRow HOc
            go_wp2
            go_roundg (gk - 1)
            case measure => omega
            case rel => exact ⟨j + 1, vq, mq, cq, by omega, by go_num, rfl, HN.out⟩
    · have hj : j = l.length := by omega
      have HF := HH.out
      rw [hj] at HF
      have hrow := HF.row
      rw [HAll.out] at hrow
      have hmq : mq = (hist all S0 l).length := slice_n hrow
      have HX := hide (And.intro hrow HF.gr)
      clear HF hrow HH
      subst hj
      subst hmq
      go_wp2
      go_ret
      exact ⟨vq, cq, rfl, HX.out⟩
end Go.Proofs.YtinkkocleognbaaGreatDoor
namespace Go.Proofs.YtinkkocleognbaaGreatDoor
/- An argument that is a slice of changes. -/
open Go.ChangeShapes Go.WideShapes Go.ChangeAt Go.RowKit Go.Deep
section
variable {H : Type} {enc : TypeId × Value → H}
theorem cellsOf73 : Tryz.prog.cellsOf 73 = 4 := by kernel_rfl
theorem open_cg {w : World} {base n : Nat} {spare : Nat → Bool} {held : Bool} {a : Addr} {cs : List Value} {x : DataW H × List MemPlace} (hc : w.cells? base a 4 = some cs) (h : DataW.trod enc Tryz.prog w base spare held n 73 cs = some x) :
    ∃ r : Cg, a = ⟨a.block, a.off, none⟩ ∧ w.cell? ⟨a.block, a.off, none⟩ = some (.int .i64 r.k) ∧ w.cell? ⟨a.block, a.off + 1, none⟩ = some (.int .i64 r.i) ∧ w.cell? ⟨a.block, a.off + 2, none⟩ = some (.int .i64 r.s) ∧ w.cell? ⟨a.block, a.off + 3, none⟩ = some (.int .i64 r.t) := by
  obtain ⟨_, hlen, hcell⟩ := World.cells?_some hc
  obtain ⟨xs, n, _, rfl, hl, hsz, hf⟩ := DataW.trod_struct Tryz.underlying73 h
  obtain ⟨v0, v1, v2, v3, rfl⟩ := listOf4 hlen
  obtain ⟨y0, y1, y2, y3, rfl⟩ := listOf4 (show xs.length = 4 from hsz)
  clear hl hsz
  have f0 : DataW.trod enc Tryz.prog w base spare held n 3 [v0] = some y0 := by simpa [cellsOf3] using hf 0 _ rfl
  have f1 : DataW.trod enc Tryz.prog w base spare held n 3 [v1] = some y1 := by simpa [cellsOf3] using hf 1 _ rfl
  have f2 : DataW.trod enc Tryz.prog w base spare held n 3 [v2] = some y2 := by simpa [cellsOf3] using hf 2 _ rfl
  have f3 : DataW.trod enc Tryz.prog w base spare held n 3 [v3] = some y3 := by simpa [cellsOf3] using hf 3 _ rfl
  obtain ⟨b0, e0, rfl, wa⟩ := DataW.trod_int Tryz.underlying3 f0
  obtain ⟨b1, e1, rfl, wb⟩ := DataW.trod_int Tryz.underlying3 f1
  obtain ⟨b2, e2, rfl, wc⟩ := DataW.trod_int Tryz.underlying3 f2
  obtain ⟨b3, e3, rfl, wd⟩ := DataW.trod_int Tryz.underlying3 f3
  simp only [List.cons.injEq, and_true] at e0 e1 e2 e3
  subst e0 e1 e2 e3
  have g0 := hcell 0 (by omega)
  have ha : a = ⟨a.block, a.off, none⟩ := by
    have h1 : w.cell? a = some (.int .i64 b0) := by simpa [Addr.add] using g0
    have h2 : a.spot = none := by
      unfold World.cell? at h1
      split at h1
      · split at h1
        · cases h1
        · rename_i hs; simpa using hs
      · cases h1
    cases a; simp_all
  rw [ha] at hcell
  refine ⟨⟨b0, b1, b2, b3⟩, ha, ?_, ?_, ?_, ?_⟩
  · simpa [Addr.add_lit] using hcell 0 (by omega)
  · simpa [Addr.add_lit] using hcell 1 (by omega)
  · simpa [Addr.add_lit] using hcell 2 (by omega)
  · simpa [Addr.add_lit] using hcell 3 (by omega)
theorem open_cgsB {w : World} {base len n : Nat} {spare : Nat → Bool} {held : Bool} {a : Addr} {D : Nat → DataW H} {Pl : Nat → List MemPlace}
    (h : ∀ i, i < len → ∃ cs', w.cells? base (a.add (i * 4)) 4 = some cs' ∧ DataW.trod enc Tryz.prog w base spare held n 73 cs' = some (D i, Pl i)) :
    ∃ os : List Cg, os.length = len ∧ CgsAt w (some a) os := by
  have hex : ∀ i, i < len → ∃ r : Cg, ∃ blk off, some a = some (⟨blk, off, none⟩ : Addr) ∧ w.cell? ⟨blk, off + i * 4, none⟩ = some (.int .i64 r.k) ∧ w.cell? ⟨blk, off + i * 4 + 1, none⟩ = some (.int .i64 r.i) ∧ w.cell? ⟨blk, off + i * 4 + 2, none⟩ = some (.int .i64 r.s) ∧ w.cell? ⟨blk, off + i * 4 + 3, none⟩ = some (.int .i64 r.t) := by
    intro i hi
    obtain ⟨cs', hc, ht⟩ := h i hi
    obtain ⟨o, _, h1, h2, h3, h4⟩ := open_cg hc ht
    have ha : a = ⟨a.block, a.off, none⟩ := by
      obtain ⟨cs0, hc0, ht0⟩ := h 0 (by omega)
      obtain ⟨_, he, _⟩ := open_cg hc0 ht0
      simpa [Addr.add] using he
    have e1 : (a.add (i * 4)).block = a.block := by unfold Addr.add; split <;> rfl
    have e2 : (a.add (i * 4)).off = a.off + i * 4 := by rw [ha, Addr.add_lit]
    rw [e1, e2] at h1 h2 h3 h4
    exact ⟨o, a.block, a.off, by rw [← ha], h1, h2, h3, h4⟩
  clear h
  induction len with
  | zero => exact ⟨[], rfl, (fun j o h => by simp at h)⟩
  | succ k ih =>
    obtain ⟨os, h1, h2⟩ := ih (fun i hi => hex i (by omega))
    obtain ⟨o, g1⟩ := hex k (by omega)
    refine ⟨os ++ [o], by simp [h1], ?_⟩
    intro j o' hj
    by_cases hjk : j < os.length
    · rw [List.getElem?_append_left hjk] at hj; exact h2 j o' hj
    · have hlt := (List.getElem?_eq_some_iff.1 hj).1
      have hjk2 : j = k := by simp at hlt; omega
      subst hjk2
      rw [List.getElem?_append_right (by omega), h1, Nat.sub_self] at hj
      simp at hj
      subst hj
      exact g1
set_option maxRecDepth 20000 in
theorem open_cgsArg {w : World} {r : Reach} {b0 : Nat} {v : Value} {d : DataW H} {p0 : List MemPlace} (hval : Value.okWide Tryz.prog w r b0 64 v) (h0 : DataW.Trod enc Tryz.prog w 0 (fun _ => true) true 64 v d p0) :
    ∃ (ao : Option Addr) (cap : Nat) (os : List Cg), v = .slice ao os.length cap ∧ CgsAt w ao os ∧ os.length ≤ cap := by
  obtain ⟨ao, len0, cap0, rfl⟩ := okWide_slice Tryz.underlying64 hval
  obtain ⟨fuel, hf⟩ := h0
  rcases open_slice Tryz.underlying64 hf with ⟨hcs, _⟩ | ⟨a, len, cap, m, n, D, Pl, hcs, _, hl, hm, hmm, hx, hel⟩
  · simp [Value.cells] at hcs
    obtain ⟨rfl, rfl, rfl⟩ := hcs
    exact ⟨none, 0, [], rfl, (fun j o h => by simp at h), Nat.le_refl _⟩
  · simp [Value.cells] at hcs
    obtain ⟨rfl, rfl, rfl⟩ := hcs
    have hlm : len0 ≤ m := by rw [hmm]; split <;> omega
    rw [cellsOf73] at hel
    obtain ⟨os, h1, h2⟩ := open_cgsB (len := len0) (fun i hi => hel i (by omega))
    exact ⟨_, cap0, os, by rw [h1], h2, by rw [h1]; exact hl⟩
end
end Go.Proofs.YtinkkocleognbaaGreatDoor
namespace Go.Proofs.YtinkkocleognbaaGreatDoor
/- What the laws of this layer begin with: few changes, their history, a book of it. -/
open Go.RowKit Go.Shelf
attribute [local go_sem ↓] Go.wp_at_zero Go.wp_at_succ
attribute [local go_sem] Oper.semAt_some
theorem addr_add0 (a : Addr) : a.add 0 = a := by obtain ⟨b, o, m⟩ := a; cases m <;> simp [Addr.add]
theorem slice_to64 (ao : Option Addr) (i n cap : Nat) (hi : i ≤ cap) (w : World) : (Instr.slice 64 (.slice ao n cap) none (some (.int .i64 (i : Int))) none).run Tryz.prog w = .ok (.slice ao i cap) w := by
  simp [Instr.slice, run_underlying Tryz.underlying64, Instr.sliceBounds, Instr.sliceBound, asIntOf]
  rw [if_pos hi]
  cases ao with
  | none => simp
  | some a => simp [addr_add0]
def fw (l : List Cg) : List Cg := l.take 120
theorem fw_len (l : List Cg) : (fw l).length ≤ 120 := by unfold fw; rw [List.length_take]; omega
theorem few_any {ao : Option Addr} {cap : Nat} (l : List Cg) (hc : l.length ≤ cap) (w : World) : Calls Tryz.prog 22 #[.slice ao l.length cap] w fun e w' => e = .returned (.slice ao (fw l).length cap) ∧ w' = w := by
  by_cases h : 120 < l.length
  · have hs := slice_to64 ao 120 l.length cap (by omega)
    have h1 : (120 : Int) < (l.length : Int) := by omega
    have e1 : (fw l).length = 120 := by unfold fw; rw [List.length_take]; omega
    rw [e1]
    clear e1
    simp only [show ((120 : Nat) : Int) = 120 from rfl] at hs
    go_enter Tryz.func22, Tryz.ntmps22
    go_wp2
    go_ret
    exact ⟨rfl, rfl⟩
  · have h1 : ¬ (120 : Int) < (l.length : Int) := by omega
    have e1 : (fw l).length = l.length := by unfold fw; rw [List.length_take]; omega
    rw [e1]
    go_enter Tryz.func22, Tryz.ntmps22
    go_wp2
    go_ret
    exact ⟨rfl, rfl⟩
/-- A row of records made since B0, beside what else is there. -/
structure Rw (w : World) (B0 : Nat) (so : Option Addr) (c2 : Nat) (h : List Rc) : Prop where
  row : w.ownsRow B0 47 5 (.slice so h.length c2) h.length (rcs h)
theorem Rw.at {w : World} {B0 : Nat} {so : Option Addr} {c2 : Nat} {h : List Rc} (r : Rw w B0 so c2 h) : RecsAt w so h := (recs_own r.row).1
theorem Rw.then {w w' : World} {B0 : Nat} {so : Option Addr} {c2 : Nat} {h : List Rc} (r : Rw w B0 so c2 h) (g : w.grownBy w' none) : Rw w' B0 so c2 h := ⟨own_keep r.row g⟩
/-- The history of few changes. -/
def hs (x : Int) (l : List Cg) (all : Bool) : List Rc := hist all (nS (sa x) (sb x) (sc x)) (fw l)
theorem hs_len (x : Int) (l : List Cg) (all : Bool) : (hs x l all).length ≤ 120 := Nat.le_trans (hist_le _ _ _) (fw_len l)
theorem hs_mem (x : Int) (l : List Cg) (all : Bool) : ∀ r ∈ hs x l all, r.May ∧ r.Ok := by
  refine hist_mem (nS_ok (s_ok x)) ?_
  have := fw_len l
  show (0 : Int) + 7 * ((fw l).length : Int) + 8 ≤ 1099511627776
  omega
theorem hs_any {w W : World} {ao : Option Addr} {cap : Nat} (x : Int) (l : List Cg) (all : Bool) (hC : CgsAt w ao l) (g : w.grownBy W none) : Calls Tryz.prog 21 #[.agg #[.int .i64 (sa x : Int), .int .i64 (sb x : Int), .int .i64 (sc x : Int)], .slice ao (fw l).length cap, .bool all] W fun e w' => ∃ so c2, e = .returned (.slice so (hs x l all).length c2) ∧ Rw w' W.heap.size so c2 (hs x l all) ∧ W.grownBy w' none := by
  refine (hist_any (l := fw l) (s_ok x) (by have := fw_len l; omega) ((hC.grown g).take 120) all).mono ?_
  rintro e w' ⟨so, c2, rfl, h1, h2⟩
  exact ⟨so, c2, rfl, ⟨h1⟩, h2⟩
/-- A book that was made since w0. -/
structure Lb (w0 w : World) (d : Nat) (S : Sb) (p : Bp) : Prop where
  eb : p.b = d
  bk : BkAt w p S 10000
  own : ∀ i, p.own i → w0.heap.size ≤ i
theorem Lb.then {w0 w w' : World} {d : Nat} {S : Sb} {p : Bp} (h : Lb w0 w d S p) (g : w.grownBy w' none) : Lb w0 w' d S p := ⟨h.eb, h.bk.then g, h.own⟩
theorem Lb.far {w0 w w' : World} {d : Nat} {S : Sb} {p : Bp} {X : Nat → Prop} (h : Lb w0 w d S p) (k : Kept w w' X) (hX : ∀ i, X i → i < w0.heap.size) : Lb w0 w' d S p := ⟨h.eb, h.bk.far k (fun i hi e => by have := h.own i hi; have := hX i e; omega), h.own⟩
theorem Lb.base {w0 w1 w : World} {d : Nat} {S : Sb} {p : Bp} (h : Lb w1 w d S p) (hz : w0.heap.size ≤ w1.heap.size) : Lb w0 w d S p := ⟨h.eb, h.bk, fun i hi => Nat.le_trans hz (h.own i hi)⟩
theorem of_lb {W : World} (x : Int) {h : List Rc} {so : Option Addr} {c2 : Nat} (hl : h.length ≤ 120) (hR : RecsAt W so h) (hO : ∀ r ∈ h, r.Ok) (hT : Rk.Tab W) : Calls Tryz.prog 10 #[.agg #[.int .i64 (sa x : Int), .int .i64 (sb x : Int), .int .i64 (sc x : Int)], .slice so h.length c2] W fun e w' => ∃ d p, e = .returned (.tuple #[.pointer (some ⟨d, 0, none⟩), .int .i64 (rn (nS (sa x) (sb x) (sc x)) h : Int), .int .i64 (rE (nS (sa x) (sb x) (sc x)) h)]) ∧ Lb W w' d (fo (nS (sa x) (sb x) (sc x)) h (rn (nS (sa x) (sb x) (sc x)) h)) p ∧ W.grownBy w' none := by
  refine (of_any (s_ok x) (len := h.length) rfl (by omega) hR hO hT).mono ?_
  rintro e w' ⟨d, p, rfl, h1⟩
  exact ⟨d, p, rfl, ⟨h1.eb, h1.bk, h1.own⟩, h1.gr⟩
theorem Lb.same {w0 w1 w : World} {d d' : Nat} {S S' : Sb} {p q : Bp} (h : Lb w0 w d S p) (k : Lb w1 w d' S' q) (hS : S.Ok) (hS' : S'.Ok) (ha : S'.a = S.a) (hb : S'.b = S.b) : Calls Tryz.prog 34 #[.pointer (some ⟨d, 0, none⟩), .pointer (some ⟨d', 0, none⟩)] w fun e w' => e = .returned (.bool (sameS S S')) ∧ w.grownBy w' none := by
  have := same_any h.bk k.bk hS.wk hS'.wk ha hb
  rw [h.eb, k.eb] at this
  exact this
end Go.Proofs.YtinkkocleognbaaGreatDoor
/- What the laws of this layer ask a book: its bookings, gathered. -/
namespace Go.Proofs.YtinkkocleognbaaGreatDoor
open Go.RowKit Go.Shelf
attribute [local go_sem ↓] Go.wp_at_zero Go.wp_at_succ
attribute [local go_sem] Oper.semAt_some
/-- Inside bookings, between two of them. -/
structure ToJ (w W : World) (lo : Nat) (pre : List Bg) : Prop where
  row : ∃ v, Boxed W w.heap.size 32 v ∧ W.ownsRow lo 108 3 v pre.length (bgs pre)
  gr : w.grownBy W none
  sz : lo ≤ W.heap.size
theorem ToJ.own_from {w : World} {lo B : Nat} (hB : w.heap.size ≤ B) : OwnFrom B (fun pre W => ToJ w W lo pre) := fun pre W W' row h hg hr => by
  obtain ⟨v, h1, h2⟩ := h.row
  exact ⟨⟨v, box_own_from B () W W' row h1 hg hr, own_own_from B () W W' row h2 hg hr⟩, grown_then h.gr hg (fun j e => Or.inl (Nat.le_trans hB (hr j e).1)), Nat.le_trans h.sz hg.size⟩
set_option maxRecDepth 100000 in
set_option maxHeartbeats 16000000 in
theorem lbk_any {w : World} {p : Bp} {S : Sb} {K : Nat} (h : BkAt w p S K) (hw : S.Wk) : Calls Tryz.prog 50 #[.pointer (some ⟨p.b, 0, none⟩)] w fun e w' => ∃ v, e = .returned v ∧ w'.ownsRow w.heap.size 108 3 v S.L.length (bgs S.L) ∧ w.grownBy w' none := by
  have hX : S.L.length ≤ 65536 := by have := hw.few; have := hw.b1; omega
  obtain ⟨w1, hw1⟩ : ∃ w1, w1 = w.alloc (.cells #[.slice none 0 0] 32) := ⟨_, rfl⟩
  have g1 : w.grownBy w1 none := by rw [hw1]; exact grown_alloc _ _
  have b1 : Boxed w1 w.heap.size 32 (.slice none 0 0) := by rw [hw1]; exact Boxed.new w 32 _
  have s1 : w1.heap.size = w.heap.size + 1 := by rw [hw1]; simp
  have HA := all_any (h.then g1) hw
  have HW1 := hide hw1
  have H1 := hide (And.intro g1 (And.intro b1 s1))
  generalize S.L = X at *
  obtain ⟨i0, hi0, hz0, hz1, hz2⟩ := info_parts Tryz.info108
  have H78 := hide (And.intro hi0 (And.intro hz0 (And.intro hz1 hz2)))
  have HXX := hide hX
  clear hi0 hz0 hz1 hz2 g1 b1 hw1 s1 h hw hX
  refine (callsIn_wide (n := 6)).1 (callsIn_of_wp_marks Tryz.func50 rfl trivial ?_ rfl)
  simp only [Tryz.ntmps50, List.size_toArray, List.length_cons, List.length_nil, Nat.reduceAdd, Nat.reduceSub, Array.replicate_succ, Array.replicate_zero, List.push_toArray, List.append_toArray, List.nil_append, List.cons_append]
  refine wpIn_wide.2 ?_
  go_wp2_with fail
  rw [← HW1.out]
  refine HA.mono ?_
  clear HA
  rintro e w2 ⟨u, rfl, ⟨B, so, cap, rfl, hI, hlo⟩, g2⟩
  have hsl := hI.lt
  have I0 : Hid (ToJ w w2 w2.heap.size []) := ⟨⟨_, H1.out.2.1.kept g2 (by simp), World.ownsRow_nil _ _ _ _⟩, grown_trans H1.out.1 g2, Nat.le_refl _⟩
  have hq : ∀ i, vbk B so X.length i → w.heap.size + 1 ≤ i ∧ i < w2.heap.size := fun i hi => ⟨by rw [← H1.out.2.2]; exact hlo i hi, hsl i hi⟩
  have HI := hide (And.intro hI hq)
  have hz : w.heap.size ≤ w2.heap.size := (grown_trans H1.out.1 g2).size
  have hzz : w.heap.size < w2.heap.size := by have := g2.size; have := H1.out.2.2; omega
  have l0 : w2.cell? ⟨w.heap.size, 0, none⟩ = some (.slice none 0 0) := (H1.out.2.1.kept g2 (by simp)).cell
  clear hI hsl hq g2 hlo
  go_wp2
  refine (wpIn_wide (n := 6)).1 (wpIn_range_V (w := w2) rfl (by decide) (gf := 145) (lb := #[.pointer (some ⟨B, 0, none⟩)]) rfl trivial (enters_of Tryz.func145 (by kernel_rfl) rfl)
    (encs := encB) (Kp := KpB (vbk B so X.length)) (V := fun pre x _ => pre ++ [x] <+: X) (S := fun ys => ys = X)
    (fun W hW => vt_seqV 5 (by decide) B so cap X HXX.out W (HI.out.1.grown hW))
    (fun h k => h.trans k) (fun W l o hl => KpB.put (fun hq => by have := (HI.out.2 l hq).2; omega)) (fun W W' _ hg => KpB.new hg) (fun _ => rfl)
    (fun pre => fun _ _ _ _ h _ _ => h)
    (fun pre W => ToJ w W w2.heap.size pre) (fun _ _ _ => False)
    (ToJ.own_from hz) (fun _ _ _ _ _ h _ _ => h) I0.out
    (fun x a' W => ∃ F, a' = { tmps := #[Value.pointer (some ⟨p.b, 0, none⟩), undef, Value.slice none 0 0, Value.pointer (some ⟨w.heap.size, 0, none⟩), Value.pointer (some ⟨F, 0, none⟩), Value.pointer (some ⟨p.b, 0, none⟩), Value.func (Fn.func 145) #[] #[Value.pointer (some ⟨B, 0, none⟩)], bgV x, undef, undef, undef, undef, undef], defers := [] } ∧ W.heap[F]? = some (.cells (bgc x).toArray 108 (0, 0)))
    (fun x => fun a' W W' row h hg hr => by obtain ⟨F, h1, h2⟩ := h; exact ⟨F, h1, cells_own_from w2.heap.size () W W' row h2 hg hr⟩) ?assign ?body ?done (fun _ _ _ _ _ h _ => h.elim))
  case assign =>
    rintro l pre ⟨xi, xs, xu⟩ W K hI hV hK
    simp only [encB, bgV]
    gi_wp2
    exact hK _ _ (grown_alloc W _) ⟨W.heap.size, rfl, heap_alloc_new W _⟩
  case body =>
    rintro l pre ⟨xi, xs, xu⟩ a' W hI hV ⟨F, rfl, hF⟩
    have hpl : pre.length + 1 ≤ X.length := by have := hV.length_le; simpa using this
    have hX0 := HXX.out
    obtain ⟨v, hb2, hr2⟩ := hI.row
    obtain ⟨vo, vcap, rfl, -⟩ := Ix.own_form hr2
    have l1 : W.cell? ⟨w.heap.size, 0, none⟩ = some (.slice vo pre.length vcap) := hb2.cell
    obtain ⟨f0, f1, f2, -⟩ := box3 hF
    have hsz := hI.sz
    have HX := hide (And.intro hI (And.intro hb2 hr2))
    have HC := hide (cell3_new W ⟨xi, xs, xu⟩ 108)
    simp only [bgc, bgV] at *
    clear hI hb2 hr2 hV hF
    gi_wp2_with (gi_at_builtin; refine wpListIn_append_own _ rfl (.tmp 8) (.tmp 10) 32 rfl w2.heap.size 108 i0 (.agg #[.int .u32 0, .int .i64 0, .int .i64 0]) 3 24 Tryz.underlying32 H78.out.1 H78.out.2.1 H78.out.2.2.1 H78.out.2.2.2 rfl (by decide) (.slice vo pre.length vcap) pre.length (bgs pre) rfl (HX.out.2.2.alloc _) ⟨W.heap.size, 0, none⟩ 1 1 [.int .u32 (xi : Int), .int .i64 (xs : Int), .int .i64 xu] rfl rfl HC.out (by simp [Value.oneCell']) (by unfold maxLen; omega) (by omega) (by simp; omega) ?_)
    intro v' w3 ho hg hne
    obtain ⟨hI, hb2, hr2⟩ := HX.out
    have ho' : w3.ownsRow w2.heap.size 108 3 v' (pre.length + 1) (bgs (pre ++ [⟨xi, xs, xu⟩])) := by rw [← bgs_snoc]; exact ho
    obtain ⟨q1, q2, q3, q4, q5, q6⟩ := box_app hb2 (by decide) hr2 ho' hg
    have hrow1 : ∀ k, (Value.slice vo pre.length vcap).ownBlock = some k → w2.heap.size ≤ k := fun k hk => (Ix.own_block hr2 hk).1
    have HZZ : Hid (∀ a', ownPostG w2.heap.size (KpB (vbk B so X.length)) (fun pre W => ToJ w W w2.heap.size pre) (fun _ _ _ => False) (pre ++ [⟨xi, xs, xu⟩]) W .normal a' (w3.setCell ⟨w.heap.size, 0, none⟩ v')) := by
      intro a'
      refine ⟨q4.from _, KpB.of q6 ?_, ⟨⟨v', q2, by rw [List.length_append]; exact q3⟩, ?_, Nat.le_trans hsz q6.size⟩⟩
      · intro i hi
        have h2 := HI.out.2 i hi
        rintro (e | e)
        · omega
        · have := hrow1 i e; omega
      · refine Kept.grown (((Kept.new hI.gr (fun i => w.heap.size ≤ i)).trans q6 ?_)) (fun i hi e => by omega)
        rintro i hi (e | e)
        · omega
        · have := hrow1 _ e; omega
    obtain ⟨vo', vcap', rfl, -⟩ := Ix.own_form ho
    have l2 := q1.cell
    have l3 := q1.frozen
    clear q1 q2 q3 q4 q5 q6 hrow1 ho ho' hg hne hI hb2 hr2 HX HC
    gi_wp2
    exact HZZ.out _
  case done =>
    rintro D ys W hD rfl hI hK
    obtain ⟨v, hb2, hr2⟩ := hI.row
    obtain ⟨vo, vcap, rfl, -⟩ := Ix.own_form hr2
    have l1 : W.cell? ⟨w.heap.size, 0, none⟩ = some (.slice vo ys.length vcap) := hb2.cell
    have HX := hide (And.intro hI (And.intro hr2 hK))
    clear hI hb2 hr2 hK
    go_wp2
    obtain ⟨hI, hr2, hK⟩ := HX.out
    refine ⟨by simp, .inl ⟨_, _, rfl, run_takeDeferred hK, ?_⟩⟩
    have hf2 := ownsRow_putObj hr2 (.deferred none) hK rfl
    refine ⟨_, results_tmp rfl _ _ _, _, rfl, own_base hf2 hz, ?_⟩
    exact grown_then hI.gr (grownBy_putObj' _ D _) (fun j e => by cases e; exact Or.inl (by omega))
end Go.Proofs.YtinkkocleognbaaGreatDoor
