/- Texts joined: RkRd, Rp5, Hy2, Hy3. -/
import Derived.Laws.ResultCell
import Derived.Test.YtjfhilignbeboaaGreatDoorJuAa
import Derived.Test.YtjfhilignbeboaaGreatDoorJuAb
import Derived.Test.YtjfhilignbeboaaGreatDoorJuAl
import Derived.Test.YtjfhilignbeboaaGreatDoorJuAn
import Derived.Test.YtjfhilignbeboaaGreatDoorJuAt
/- records: read. -/
namespace Go.Proofs.YtjfhilignbeboaaGreatDoor.Rk
open Go.RowKit
attribute [local go_sem ↓] Go.wp_at_zero Go.wp_at_succ
section
variable {w wr wr' : World} {r r' : Rc} {a b c d : Bool} {X Y : Nat} {R R' : List Int}
end
theorem set5 {w : World} {g : Nat} {t : TypeId} {x y z u v : Value} (h : w.heap[g]? = some (.cells [x, y, z, u, v].toArray t (0, 0))) (a b c d e : Value) :
    (((((w.setCell ⟨g, 0, none⟩ a).setCell ⟨g, 1, none⟩ b).setCell ⟨g, 2, none⟩ c).setCell ⟨g, 3, none⟩ d).setCell ⟨g, 4, none⟩ e).heap[g]? = some (.cells [a, b, c, d, e].toArray t (0, 0)) ∧ w.grownBy (((((w.setCell ⟨g, 0, none⟩ a).setCell ⟨g, 1, none⟩ b).setCell ⟨g, 2, none⟩ c).setCell ⟨g, 3, none⟩ d).setCell ⟨g, 4, none⟩ e) (some g) :=
  ⟨row_setCell (row_setCell (row_setCell (row_setCell (row_setCell h 0 a) 1 b) 2 c) 3 d) 4 e, grown_trans (grown_trans (grown_trans (grown_trans (grown_setCell w g 0 a) (grown_setCell _ g 1 b)) (grown_setCell _ g 2 c)) (grown_setCell _ g 3 d)) (grown_setCell _ g 4 e)⟩
end Go.Proofs.YtjfhilignbeboaaGreatDoor.Rk
namespace Go.Proofs.YtjfhilignbeboaaGreatDoor
/- Find. -/
open Go.RowKit Go.Shelf
attribute [local go_sem ↓] Go.wp_at_zero Go.wp_at_succ
attribute [local go_sem] Oper.semAt_some
theorem keep1 (w : World) (o : Obj) {i : Nat} {x : Obj} (h : w.heap[i]? = some x) : (w.alloc o).heap[i]? = some x := ((grown_alloc w o).block _ (row_lt h) (by simp)).trans h
theorem kept_grown {w6 A B : World} {O : Nat → Prop} (h : w6.grownBy A none) (k : Kept A B O) (hO : ∀ i, O i → w6.heap.size ≤ i) : w6.grownBy B none :=
  ((Kept.new h (fun i => w6.heap.size ≤ i)).trans k (fun i _ e => hO i e)).grown (fun i hi e => by omega)
end Go.Proofs.YtjfhilignbeboaaGreatDoor
namespace Go.Proofs.YtjfhilignbeboaaGreatDoor
/- A record out of plain numbers. -/
open Go.RowKit
attribute [local go_sem ↓] Go.wp_at_zero Go.wp_at_succ
attribute [local go_sem] Oper.semAt_some
def cgV (c : Cg) : Value := .agg #[.int .i64 c.k, .int .i64 c.i, .int .i64 c.s, .int .i64 c.t]
theorem box_mid (w : World) (o0 o1 o2 : Obj) : (((w.alloc o0).alloc o1).alloc o2).heap[w.heap.size + 1]? = some o1 := by
  have := heap_alloc_new (w.alloc o0) o1
  rw [World.size_alloc] at this
  exact keep1 _ _ this
set_option maxRecDepth 20000 in
set_option maxHeartbeats 8000000 in
theorem mrec_0 (c : Cg) (n : Nat) (t : Int) (hn : 1 ≤ n) (hn1 : n < 4294967296) (ht : 0 ≤ t) (ht1 : t ≤ mxC) (hk : c.k % 5 = 0) (w : World) : Calls Tryz.prog 101 #[cgV c, .int .u32 (n : Int), .int .i64 t] w fun e w' => e = .returned (Rk.rcV ⟨1, (n : Int), c.s % 13, t + 1 + c.t % 7, 0⟩) ∧ w.grownBy w' none := by
  have P1 : Hid (∀ W, Calls Tryz.prog 57 #[.int .i64 c.k, .int .i64 5] W fun e w' => e = .returned (.int .i64 0) ∧ w' = W) := fun W => by have := pick_any c.k 5 W (by decide) (by decide); simp only [show ((5 : Nat) : Int) = 5 from rfl, hk] at this; exact this
  have P2 : Hid (∀ W, Calls Tryz.prog 57 #[.int .i64 c.t, .int .i64 7] W fun e w' => e = .returned (.int .i64 (c.t % 7)) ∧ w' = W) := fun W => pick_any c.t 7 W (by decide) (by decide)
  have P3 : Hid (∀ W, Calls Tryz.prog 57 #[.int .i64 c.i, .int .i64 (n : Int)] W fun e w' => e = .returned (.int .i64 (c.i % (n : Int))) ∧ w' = W) := fun W => pick_any c.i n W hn (by omega)
  have P4 : Hid (∀ W, Calls Tryz.prog 57 #[.int .i64 c.s, .int .i64 13] W fun e w' => e = .returned (.int .i64 (c.s % 13)) ∧ w' = W) := fun W => pick_any c.s 13 W (by decide) (by decide)
  have b1 := Int.emod_nonneg c.s (b := 13) (by decide)
  have b2 := Int.emod_lt_of_pos c.s (b := 13) (by decide)
  have d1 := Int.emod_nonneg c.t (b := 7) (by decide)
  have d2 := Int.emod_lt_of_pos c.t (b := 7) (by decide)
  have e1 := Int.emod_nonneg c.i (b := (n : Int)) (by omega)
  have e2 := Int.emod_lt_of_pos c.i (b := (n : Int)) (by omega)
  generalize c.i % (n : Int) = ii at *
  generalize c.s % 13 = ss at *
  generalize c.t % 7 = tt at *
  unfold mxC at ht1
  have w1 : IntKind.i64.wrap (t + 1) = t + 1 := by rw [IntKind.wrap_i64]; omega
  have w2 : IntKind.i64.wrap (t + 1 + tt) = t + 1 + tt := by rw [IntKind.wrap_i64]; omega
  have w3 : IntKind.i64.wrap (n : Int) = (n : Int) := by rw [IntKind.wrap_i64]; omega
  have w4 : IntKind.u32.wrap ii = ii := by rw [IntKind.wrap_u32]; omega
  have w5 : IntKind.u32.wrap (1 + ii) = 1 + ii := by rw [IntKind.wrap_u32]; omega
  obtain ⟨ck, ci, cs, ct⟩ := c
  unfold cgV Rk.rcV
  simp only at *
  clear hk
  go_enter Tryz.func101, Tryz.ntmps101
  go_wp2_with fail
  refine (P1.out _).mono ?_
  rintro e wa ⟨rfl, rfl⟩
  go_wp2_with fail
  refine (P2.out _).mono ?_
  rintro e wa ⟨rfl, rfl⟩
  go_wp2_with fail
  refine (P3.out _).mono ?_
  rintro e wa ⟨rfl, rfl⟩
  go_wp2_with fail
  refine (P4.out _).mono ?_
  rintro e wa ⟨rfl, rfl⟩
  go_wp2
  exact bodyPost_ret (results_cell_row rfl _ _ (w.heap.size + 1) 28 #[.int .i64 1, .int .u32 (n : Int), .int .i64 ss, .int .i64 (t + 1 + tt), .int .i64 0] (0, 0) _ rfl (box_mid w _ _ _) Tryz.underlying28 rfl (by kernel_rfl)) rfl ⟨rfl, gn_alloc (gn_alloc (grown_alloc w _) _) _⟩
set_option maxRecDepth 20000 in
set_option maxHeartbeats 8000000 in
theorem mrec_1 (c : Cg) (n : Nat) (t : Int) (hn : 1 ≤ n) (hn1 : n < 4294967296) (ht : 0 ≤ t) (ht1 : t ≤ mxC) (hk : c.k % 5 = 1) (w : World) : Calls Tryz.prog 101 #[cgV c, .int .u32 (n : Int), .int .i64 t] w fun e w' => e = .returned (Rk.rcV ⟨2, 1 + c.i % (n : Int), 0, 0, 0⟩) ∧ w.grownBy w' none := by
  have P1 : Hid (∀ W, Calls Tryz.prog 57 #[.int .i64 c.k, .int .i64 5] W fun e w' => e = .returned (.int .i64 1) ∧ w' = W) := fun W => by have := pick_any c.k 5 W (by decide) (by decide); simp only [show ((5 : Nat) : Int) = 5 from rfl, hk] at this; exact this
  have P2 : Hid (∀ W, Calls Tryz.prog 57 #[.int .i64 c.t, .int .i64 7] W fun e w' => e = .returned (.int .i64 (c.t % 7)) ∧ w' = W) := fun W => pick_any c.t 7 W (by decide) (by decide)
  have P3 : Hid (∀ W, Calls Tryz.prog 57 #[.int .i64 c.i, .int .i64 (n : Int)] W fun e w' => e = .returned (.int .i64 (c.i % (n : Int))) ∧ w' = W) := fun W => pick_any c.i n W hn (by omega)
  have P4 : Hid (∀ W, Calls Tryz.prog 57 #[.int .i64 c.s, .int .i64 13] W fun e w' => e = .returned (.int .i64 (c.s % 13)) ∧ w' = W) := fun W => pick_any c.s 13 W (by decide) (by decide)
  have b1 := Int.emod_nonneg c.s (b := 13) (by decide)
  have b2 := Int.emod_lt_of_pos c.s (b := 13) (by decide)
  have d1 := Int.emod_nonneg c.t (b := 7) (by decide)
  have d2 := Int.emod_lt_of_pos c.t (b := 7) (by decide)
  have e1 := Int.emod_nonneg c.i (b := (n : Int)) (by omega)
  have e2 := Int.emod_lt_of_pos c.i (b := (n : Int)) (by omega)
  generalize c.i % (n : Int) = ii at *
  generalize c.s % 13 = ss at *
  generalize c.t % 7 = tt at *
  unfold mxC at ht1
  have w1 : IntKind.i64.wrap (t + 1) = t + 1 := by rw [IntKind.wrap_i64]; omega
  have w2 : IntKind.i64.wrap (t + 1 + tt) = t + 1 + tt := by rw [IntKind.wrap_i64]; omega
  have w3 : IntKind.i64.wrap (n : Int) = (n : Int) := by rw [IntKind.wrap_i64]; omega
  have w4 : IntKind.u32.wrap ii = ii := by rw [IntKind.wrap_u32]; omega
  have w5 : IntKind.u32.wrap (1 + ii) = 1 + ii := by rw [IntKind.wrap_u32]; omega
  obtain ⟨ck, ci, cs, ct⟩ := c
  unfold cgV Rk.rcV
  simp only at *
  clear hk
  go_enter Tryz.func101, Tryz.ntmps101
  go_wp2_with fail
  refine (P1.out _).mono ?_
  rintro e wa ⟨rfl, rfl⟩
  go_wp2_with fail
  refine (P2.out _).mono ?_
  rintro e wa ⟨rfl, rfl⟩
  go_wp2_with fail
  refine (P3.out _).mono ?_
  rintro e wa ⟨rfl, rfl⟩
  go_wp2_with fail
  refine (P4.out _).mono ?_
  rintro e wa ⟨rfl, rfl⟩
  go_wp2
  exact bodyPost_ret (results_cell_row rfl _ _ (w.heap.size + 1) 28 #[.int .i64 2, .int .u32 (1 + ii), .int .i64 0, .int .i64 0, .int .i64 0] (0, 0) _ rfl (box_mid w _ _ _) Tryz.underlying28 rfl (by kernel_rfl)) rfl ⟨rfl, gn_alloc (gn_alloc (grown_alloc w _) _) _⟩
set_option maxRecDepth 20000 in
set_option maxHeartbeats 8000000 in
theorem mrec_2 (c : Cg) (n : Nat) (t : Int) (hn : 1 ≤ n) (hn1 : n < 4294967296) (ht : 0 ≤ t) (ht1 : t ≤ mxC) (hk : c.k % 5 = 2) (w : World) : Calls Tryz.prog 101 #[cgV c, .int .u32 (n : Int), .int .i64 t] w fun e w' => e = .returned (Rk.rcV ⟨3, 1 + c.i % (n : Int), 0, 0, 0⟩) ∧ w.grownBy w' none := by
  have P1 : Hid (∀ W, Calls Tryz.prog 57 #[.int .i64 c.k, .int .i64 5] W fun e w' => e = .returned (.int .i64 2) ∧ w' = W) := fun W => by have := pick_any c.k 5 W (by decide) (by decide); simp only [show ((5 : Nat) : Int) = 5 from rfl, hk] at this; exact this
  have P2 : Hid (∀ W, Calls Tryz.prog 57 #[.int .i64 c.t, .int .i64 7] W fun e w' => e = .returned (.int .i64 (c.t % 7)) ∧ w' = W) := fun W => pick_any c.t 7 W (by decide) (by decide)
  have P3 : Hid (∀ W, Calls Tryz.prog 57 #[.int .i64 c.i, .int .i64 (n : Int)] W fun e w' => e = .returned (.int .i64 (c.i % (n : Int))) ∧ w' = W) := fun W => pick_any c.i n W hn (by omega)
  have P4 : Hid (∀ W, Calls Tryz.prog 57 #[.int .i64 c.s, .int .i64 13] W fun e w' => e = .returned (.int .i64 (c.s % 13)) ∧ w' = W) := fun W => pick_any c.s 13 W (by decide) (by decide)
  have b1 := Int.emod_nonneg c.s (b := 13) (by decide)
  have b2 := Int.emod_lt_of_pos c.s (b := 13) (by decide)
  have d1 := Int.emod_nonneg c.t (b := 7) (by decide)
  have d2 := Int.emod_lt_of_pos c.t (b := 7) (by decide)
  have e1 := Int.emod_nonneg c.i (b := (n : Int)) (by omega)
  have e2 := Int.emod_lt_of_pos c.i (b := (n : Int)) (by omega)
  generalize c.i % (n : Int) = ii at *
  generalize c.s % 13 = ss at *
  generalize c.t % 7 = tt at *
  unfold mxC at ht1
  have w1 : IntKind.i64.wrap (t + 1) = t + 1 := by rw [IntKind.wrap_i64]; omega
  have w2 : IntKind.i64.wrap (t + 1 + tt) = t + 1 + tt := by rw [IntKind.wrap_i64]; omega
  have w3 : IntKind.i64.wrap (n : Int) = (n : Int) := by rw [IntKind.wrap_i64]; omega
  have w4 : IntKind.u32.wrap ii = ii := by rw [IntKind.wrap_u32]; omega
  have w5 : IntKind.u32.wrap (1 + ii) = 1 + ii := by rw [IntKind.wrap_u32]; omega
  obtain ⟨ck, ci, cs, ct⟩ := c
  unfold cgV Rk.rcV
  simp only at *
  clear hk
  go_enter Tryz.func101, Tryz.ntmps101
  go_wp2_with fail
  refine (P1.out _).mono ?_
  rintro e wa ⟨rfl, rfl⟩
  go_wp2_with fail
  refine (P2.out _).mono ?_
  rintro e wa ⟨rfl, rfl⟩
  go_wp2_with fail
  refine (P3.out _).mono ?_
  rintro e wa ⟨rfl, rfl⟩
  go_wp2_with fail
  refine (P4.out _).mono ?_
  rintro e wa ⟨rfl, rfl⟩
  go_wp2
  exact bodyPost_ret (results_cell_row rfl _ _ (w.heap.size + 1) 28 #[.int .i64 3, .int .u32 (1 + ii), .int .i64 0, .int .i64 0, .int .i64 0] (0, 0) _ rfl (box_mid w _ _ _) Tryz.underlying28 rfl (by kernel_rfl)) rfl ⟨rfl, gn_alloc (gn_alloc (grown_alloc w _) _) _⟩
set_option maxRecDepth 20000 in
set_option maxHeartbeats 8000000 in
theorem mrec_3 (c : Cg) (n : Nat) (t : Int) (hn : 1 ≤ n) (hn1 : n < 4294967296) (ht : 0 ≤ t) (ht1 : t ≤ mxC) (hk : c.k % 5 = 3) (w : World) : Calls Tryz.prog 101 #[cgV c, .int .u32 (n : Int), .int .i64 t] w fun e w' => e = .returned (Rk.rcV ⟨4, 1 + c.i % (n : Int), c.s % 13, 0, 0⟩) ∧ w.grownBy w' none := by
  have P1 : Hid (∀ W, Calls Tryz.prog 57 #[.int .i64 c.k, .int .i64 5] W fun e w' => e = .returned (.int .i64 3) ∧ w' = W) := fun W => by have := pick_any c.k 5 W (by decide) (by decide); simp only [show ((5 : Nat) : Int) = 5 from rfl, hk] at this; exact this
  have P2 : Hid (∀ W, Calls Tryz.prog 57 #[.int .i64 c.t, .int .i64 7] W fun e w' => e = .returned (.int .i64 (c.t % 7)) ∧ w' = W) := fun W => pick_any c.t 7 W (by decide) (by decide)
  have P3 : Hid (∀ W, Calls Tryz.prog 57 #[.int .i64 c.i, .int .i64 (n : Int)] W fun e w' => e = .returned (.int .i64 (c.i % (n : Int))) ∧ w' = W) := fun W => pick_any c.i n W hn (by omega)
  have P4 : Hid (∀ W, Calls Tryz.prog 57 #[.int .i64 c.s, .int .i64 13] W fun e w' => e = .returned (.int .i64 (c.s % 13)) ∧ w' = W) := fun W => pick_any c.s 13 W (by decide) (by decide)
  have b1 := Int.emod_nonneg c.s (b := 13) (by decide)
  have b2 := Int.emod_lt_of_pos c.s (b := 13) (by decide)
  have d1 := Int.emod_nonneg c.t (b := 7) (by decide)
  have d2 := Int.emod_lt_of_pos c.t (b := 7) (by decide)
  have e1 := Int.emod_nonneg c.i (b := (n : Int)) (by omega)
  have e2 := Int.emod_lt_of_pos c.i (b := (n : Int)) (by omega)
  generalize c.i % (n : Int) = ii at *
  generalize c.s % 13 = ss at *
  generalize c.t % 7 = tt at *
  unfold mxC at ht1
  have w1 : IntKind.i64.wrap (t + 1) = t + 1 := by rw [IntKind.wrap_i64]; omega
  have w2 : IntKind.i64.wrap (t + 1 + tt) = t + 1 + tt := by rw [IntKind.wrap_i64]; omega
  have w3 : IntKind.i64.wrap (n : Int) = (n : Int) := by rw [IntKind.wrap_i64]; omega
  have w4 : IntKind.u32.wrap ii = ii := by rw [IntKind.wrap_u32]; omega
  have w5 : IntKind.u32.wrap (1 + ii) = 1 + ii := by rw [IntKind.wrap_u32]; omega
  obtain ⟨ck, ci, cs, ct⟩ := c
  unfold cgV Rk.rcV
  simp only at *
  clear hk
  go_enter Tryz.func101, Tryz.ntmps101
  go_wp2_with fail
  refine (P1.out _).mono ?_
  rintro e wa ⟨rfl, rfl⟩
  go_wp2_with fail
  refine (P2.out _).mono ?_
  rintro e wa ⟨rfl, rfl⟩
  go_wp2_with fail
  refine (P3.out _).mono ?_
  rintro e wa ⟨rfl, rfl⟩
  go_wp2_with fail
  refine (P4.out _).mono ?_
  rintro e wa ⟨rfl, rfl⟩
  go_wp2
  exact bodyPost_ret (results_cell_row rfl _ _ (w.heap.size + 1) 28 #[.int .i64 4, .int .u32 (1 + ii), .int .i64 ss, .int .i64 0, .int .i64 0] (0, 0) _ rfl (box_mid w _ _ _) Tryz.underlying28 rfl (by kernel_rfl)) rfl ⟨rfl, gn_alloc (gn_alloc (grown_alloc w _) _) _⟩
set_option maxRecDepth 20000 in
set_option maxHeartbeats 8000000 in
theorem mrec_4 (c : Cg) (n : Nat) (t : Int) (hn : 1 ≤ n) (hn1 : n < 4294967296) (ht : 0 ≤ t) (ht1 : t ≤ mxC) (hk : c.k % 5 = 4) (w : World) : Calls Tryz.prog 101 #[cgV c, .int .u32 (n : Int), .int .i64 t] w fun e w' => e = .returned (Rk.rcV ⟨5, 0, 0, 0, t + 1 + c.t % 7⟩) ∧ w.grownBy w' none := by
  have P1 : Hid (∀ W, Calls Tryz.prog 57 #[.int .i64 c.k, .int .i64 5] W fun e w' => e = .returned (.int .i64 4) ∧ w' = W) := fun W => by have := pick_any c.k 5 W (by decide) (by decide); simp only [show ((5 : Nat) : Int) = 5 from rfl, hk] at this; exact this
  have P2 : Hid (∀ W, Calls Tryz.prog 57 #[.int .i64 c.t, .int .i64 7] W fun e w' => e = .returned (.int .i64 (c.t % 7)) ∧ w' = W) := fun W => pick_any c.t 7 W (by decide) (by decide)
  have P3 : Hid (∀ W, Calls Tryz.prog 57 #[.int .i64 c.i, .int .i64 (n : Int)] W fun e w' => e = .returned (.int .i64 (c.i % (n : Int))) ∧ w' = W) := fun W => pick_any c.i n W hn (by omega)
  have P4 : Hid (∀ W, Calls Tryz.prog 57 #[.int .i64 c.s, .int .i64 13] W fun e w' => e = .returned (.int .i64 (c.s % 13)) ∧ w' = W) := fun W => pick_any c.s 13 W (by decide) (by decide)
  have b1 := Int.emod_nonneg c.s (b := 13) (by decide)
  have b2 := Int.emod_lt_of_pos c.s (b := 13) (by decide)
  have d1 := Int.emod_nonneg c.t (b := 7) (by decide)
  have d2 := Int.emod_lt_of_pos c.t (b := 7) (by decide)
  have e1 := Int.emod_nonneg c.i (b := (n : Int)) (by omega)
  have e2 := Int.emod_lt_of_pos c.i (b := (n : Int)) (by omega)
  generalize c.i % (n : Int) = ii at *
  generalize c.s % 13 = ss at *
  generalize c.t % 7 = tt at *
  unfold mxC at ht1
  have w1 : IntKind.i64.wrap (t + 1) = t + 1 := by rw [IntKind.wrap_i64]; omega
  have w2 : IntKind.i64.wrap (t + 1 + tt) = t + 1 + tt := by rw [IntKind.wrap_i64]; omega
  have w3 : IntKind.i64.wrap (n : Int) = (n : Int) := by rw [IntKind.wrap_i64]; omega
  have w4 : IntKind.u32.wrap ii = ii := by rw [IntKind.wrap_u32]; omega
  have w5 : IntKind.u32.wrap (1 + ii) = 1 + ii := by rw [IntKind.wrap_u32]; omega
  obtain ⟨ck, ci, cs, ct⟩ := c
  unfold cgV Rk.rcV
  simp only at *
  clear hk
  go_enter Tryz.func101, Tryz.ntmps101
  go_wp2_with fail
  refine (P1.out _).mono ?_
  rintro e wa ⟨rfl, rfl⟩
  go_wp2_with fail
  refine (P2.out _).mono ?_
  rintro e wa ⟨rfl, rfl⟩
  go_wp2_with fail
  refine (P3.out _).mono ?_
  rintro e wa ⟨rfl, rfl⟩
  go_wp2_with fail
  refine (P4.out _).mono ?_
  rintro e wa ⟨rfl, rfl⟩
  go_wp2
  exact bodyPost_ret (results_cell_row rfl _ _ (w.heap.size + 1) 28 #[.int .i64 5, .int .u32 0, .int .i64 0, .int .i64 0, .int .i64 (t + 1 + tt)] (0, 0) _ rfl (box_mid w _ _ _) Tryz.underlying28 rfl (by kernel_rfl)) rfl ⟨rfl, gn_alloc (gn_alloc (grown_alloc w _) _) _⟩
theorem mrec_any (c : Cg) (n : Nat) (t : Int) (hn : 1 ≤ n) (hn1 : n < 4294967296) (ht : 0 ≤ t) (ht1 : t ≤ mxC) (w : World) : Calls Tryz.prog 101 #[cgV c, .int .u32 (n : Int), .int .i64 t] w fun e w' => e = .returned (Rk.rcV (cgR c n t)) ∧ w.grownBy w' none := by
  have a1 := Int.emod_nonneg c.k (b := 5) (by decide)
  have a2 := Int.emod_lt_of_pos c.k (b := 5) (by decide)
  have hk : c.k % 5 = 0 ∨ c.k % 5 = 1 ∨ c.k % 5 = 2 ∨ c.k % 5 = 3 ∨ c.k % 5 = 4 := by omega
  unfold cgR
  rcases hk with hk | hk | hk | hk | hk
  · rw [if_pos hk]; exact mrec_0 c n t hn hn1 ht ht1 hk w
  · rw [if_neg (by omega), if_neg (by omega), if_neg (by omega), hk]; exact mrec_1 c n t hn hn1 ht ht1 hk w
  · rw [if_neg (by omega), if_neg (by omega), if_neg (by omega), hk]; exact mrec_2 c n t hn hn1 ht ht1 hk w
  · rw [if_neg (by omega), if_pos hk]; exact mrec_3 c n t hn hn1 ht ht1 hk w
  · rw [if_neg (by omega), if_neg (by omega), if_pos hk]; exact mrec_4 c n t hn hn1 ht ht1 hk w
end Go.Proofs.YtjfhilignbeboaaGreatDoor
namespace Go.Proofs.YtjfhilignbeboaaGreatDoor
/- Histories. -/
open Go.RowKit
attribute [local go_sem ↓] Go.wp_at_zero Go.wp_at_succ
attribute [local go_sem] Oper.semAt_some
/-- Changes that lie somewhere. -/
def CgsAt (w : World) (ao : Option Addr) (l : List Cg) : Prop := ∀ j c, l[j]? = some c → ∃ blk off, ao = some (⟨blk, off, none⟩ : Addr) ∧ w.cell? ⟨blk, off + j * 4, none⟩ = some (.int .i64 c.k) ∧ w.cell? ⟨blk, off + j * 4 + 1, none⟩ = some (.int .i64 c.i) ∧ w.cell? ⟨blk, off + j * 4 + 2, none⟩ = some (.int .i64 c.s) ∧ w.cell? ⟨blk, off + j * 4 + 3, none⟩ = some (.int .i64 c.t)
theorem CgsAt.grown {w w' : World} {ao : Option Addr} {l : List Cg} (h : CgsAt w ao l) (g : w.grownBy w' none) : CgsAt w' ao l := by
  intro j o hj
  obtain ⟨b, off, e, h1, h2, h3, h4⟩ := h j o hj
  exact ⟨b, off, e, g.cell h1 (by simp), g.cell h2 (by simp), g.cell h3 (by simp), g.cell h4 (by simp)⟩
theorem CgsAt.take {w : World} {ao : Option Addr} {l : List Cg} (h : CgsAt w ao l) (n : Nat) : CgsAt w ao (l.take n) := fun j c hj => by
  refine h j c ?_
  rw [List.getElem?_take] at hj
  split at hj
  · exact hj
  · cases hj
/-- Inside History, behind j changes. -/
structure HiS (w wr : World) (d : Nat) (S0 : Sb) (l : List Cg) (all : Bool) (j : Nat) (q : Value) : Prop where
  db : ∃ v, Db wr w.heap.size d v (hS S0 l j)
  row : wr.ownsRow w.heap.size 28 5 q (hist all S0 (l.take j)).length (rcs (hist all S0 (l.take j)))
  gr : w.grownBy wr none
theorem HiS.then {w wr wr' : World} {d : Nat} {S0 : Sb} {l : List Cg} {all : Bool} {j : Nat} {q : Value} (h : HiS w wr d S0 l all j q) (g : wr.grownBy wr' none) : HiS w wr' d S0 l all j q := by
  obtain ⟨v, h1⟩ := h.db
  exact ⟨⟨v, h1.then g⟩, own_keep h.row g, grown_trans h.gr g⟩
/-- A row of records lies off the document's book. -/
theorem row_off {w : World} {lo d b n : Nat} {v q : Value} {S : Sb} {xs : List Value} (h : Db w lo d v S) (hr : w.ownsRow b 28 5 q n xs) : ∀ i, q.ownBlock = some i → ¬ dbo d v i := by
  rintro i hi (e | e)
  · obtain ⟨-, cur, hc⟩ := Ix.own_block hr hi
    rw [e, h.head] at hc
    cases hc
  · obtain ⟨-, cur, hc⟩ := Ix.own_block hr hi
    obtain ⟨-, cur', hc'⟩ := Ix.own_block h.row e
    rw [hc] at hc'
    cases hc'
def zrc : List Value := [.int .i64 0, .int .u32 0, .int .i64 0, .int .i64 0, .int .i64 0]
theorem mid_b {wr w1 : World} (g : (wr.alloc (.cells zrc.toArray 28)).grownBy w1 none) : w1.heap[wr.heap.size]? = some (.cells zrc.toArray 28 (0, 0)) := (g.block _ (row_lt (heap_alloc_new wr _)) (by simp)).trans (heap_alloc_new wr _)
set_option maxRecDepth 20000 in
set_option maxHeartbeats 16000000 in
theorem hist_any {w : World} {a b c : Nat} (ho : Gx.OkS a b c) {ao : Option Addr} {cap : Nat} {l : List Cg} (hl : l.length ≤ 1000) (hC : CgsAt w ao l) (all : Bool) : Calls Tryz.prog 42 #[limV a b c, .slice ao l.length cap, .bool all] w fun e w' => ∃ so c2, e = .returned (.slice so (hist all (nS a b c) l).length c2) ∧ w'.ownsRow w.heap.size 28 5 (.slice so (hist all (nS a b c) l).length c2) (hist all (nS a b c) l).length (rcs (hist all (nS a b c) l)) ∧ w.grownBy w' none := by
  have b0 := grown_alloc w (.cells [Value.int .i64 (a : Int), .int .i64 (b : Int), .int .i64 (c : Int)].toArray 36)
  have HN : Hid (Calls Tryz.prog 41 #[.agg #[.int .i64 (a : Int), .int .i64 (b : Int), .int .i64 (c : Int)]] (w.alloc (.cells [Value.int .i64 (a : Int), .int .i64 (b : Int), .int .i64 (c : Int)].toArray 36)) fun e w' => ∃ d, e = .returned (.tuple #[.pointer (some ⟨d, 0, none⟩), .int .i64 0]) ∧ HiS w w' d (nS a b c) l all 0 (.slice none 0 0)) := by
    refine (dnew_any ho _).mono ?_
    rintro e w' ⟨d, rfl, h1, h2⟩
    exact ⟨d, rfl, ⟨_, h1.head, own_base h1.row b0.size, Nat.le_trans b0.size h1.ge⟩, World.ownsRow_nil _ _ _ _, grown_trans b0 h2⟩
  have HOk : Hid (∀ j, (hS (nS a b c) l j).Ok) := fun j => hS_ok (nS_ok ho) l j
  have HRe : Hid (∀ (c' : Cg) j (W : World), Calls Tryz.prog 101 #[.agg #[.int .i64 c'.k, .int .i64 c'.i, .int .i64 c'.s, .int .i64 c'.t], .int .u32 ((hS (nS a b c) l j).n : Int), .int .i64 (hS (nS a b c) l j).t] W fun e w' => e = .returned (.agg (rcc (cgR c' (hS (nS a b c) l j).n (hS (nS a b c) l j).t)).toArray) ∧ W.grownBy w' none) := fun c' j W => mrec_any c' _ _ (HOk.out j).n0 (HOk.out j).n1 (HOk.out j).t0 (HOk.out j).t1 W
  have HSt : Hid (∀ j c', l[j]? = some c' → hS (nS a b c) l (j + 1) = app (hS (nS a b c) l j) (cgR c' (hS (nS a b c) l j).n (hS (nS a b c) l j).t)) := fun j c' h => hS_succ h
  have HHt : Hid (∀ j c', l[j]? = some c' → hist all (nS a b c) (l.take (j + 1)) = hist all (nS a b c) (l.take j) ++ (if appE (hS (nS a b c) l j) (cgR c' (hS (nS a b c) l j).n (hS (nS a b c) l j).t) = 0 ∨ all = true then [cgR c' (hS (nS a b c) l j).n (hS (nS a b c) l j).t] else [])) := fun j c' h => hist_take h
  have HLe : Hid (∀ j, (hist all (nS a b c) (l.take j)).length ≤ j) := fun j => Nat.le_trans (hist_le all _ _) (by rw [List.length_take]; omega)
  have HAll : Hid (l.take l.length = l) := List.take_length
  have HC := hide hC
  clear ho b0 hC
  unfold limV
  generalize (nS a b c) = S0 at *
  generalize (a : Int) = a at *
  generalize (b : Int) = b at *
  generalize (c : Int) = c at *
  obtain ⟨i0, hi0, hz0, hz1, hz2⟩ := info_parts info47
  have HI0 := hide (And.intro hi0 (And.intro hz0 (And.intro hz1 hz2)))
  clear hi0 hz0 hz1 hz2
  go_enter Tryz.func42, Tryz.ntmps42
  go_wp2_with fail
  refine HN.out.mono ?_
  rintro e w1 ⟨d, rfl, h1⟩
  have H1 := hide h1
  clear h1 HN
  go_wp2
  go_loopg [9, 10] l.length (fun k q9 q10 wr => ∃ (j : Nat) (vq : Option Addr) (mq cq : Nat), k + j = l.length ∧ q10 = .int .i64 (j : Int) ∧ q9 = .slice vq mq cq ∧ Hid (HiS w wr d S0 l all j (.slice vq mq cq)))
  case atStart => exact ⟨0, none, 0, 0, by omega, rfl, rfl, H1.out⟩
  case round =>
    clear H1
    obtain ⟨j, vq, mq, cq, hkj, rfl, rfl, HH⟩ := hrel
    by_cases hk : 0 < gk
    · have hj : j < l.length := by omega
      have h1 : (j : Int) < (l.length : Int) := by omega
      have h0 : (0 : Int) ≤ (j : Int) := by omega
      obtain ⟨c', hc'⟩ : ∃ c', l[j]? = some c' := ⟨l[j]'hj, List.getElem?_eq_getElem hj⟩
      obtain ⟨rb, off, rfl, k0, k1, k2, k3⟩ := (HC.out.grown HH.out.gr) j c' hc'
      obtain ⟨vd, hdb⟩ := HH.out.db
      have HD := hide hdb
      have d5 := hdb.cell (j := 5) rfl
      have d6 := hdb.cell (j := 6) rfl
      have HRe' := hide (HRe.out c' j)
      obtain ⟨r, hr⟩ : ∃ r, r = cgR c' (hS S0 l j).n (hS S0 l j).t := ⟨_, rfl⟩
      have HOkR : Hid r.Ok := by rw [hr]; exact cgR_ok (HOk.out j).n0 (HOk.out j).n1 (HOk.out j).t0 (HOk.out j).t1
      have HSj : Hid (hS S0 l (j + 1) = app (hS S0 l j) r) := by rw [hr]; exact HSt.out j c' hc'
      have HHj : Hid (hist all S0 (l.take (j + 1)) = hist all S0 (l.take j) ++ (if appE (hS S0 l j) r = 0 ∨ all = true then [r] else [])) := by rw [hr]; exact HHt.out j c' hc'
      rw [← hr] at HRe'
      have HKf : Hid (∀ W, wr.grownBy W none → W.cell? ⟨rb, off + j * 4, none⟩ = some (.int .i64 c'.k) ∧ W.cell? ⟨rb, off + j * 4 + 1, none⟩ = some (.int .i64 c'.i) ∧ W.cell? ⟨rb, off + j * 4 + 2, none⟩ = some (.int .i64 c'.s) ∧ W.cell? ⟨rb, off + j * 4 + 3, none⟩ = some (.int .i64 c'.t) ∧ W.cell? ⟨d, 5, none⟩ = some (.int .u32 ((hS S0 l j).n : Int)) ∧ W.cell? ⟨d, 6, none⟩ = some (.int .i64 (hS S0 l j).t)) := fun W g => ⟨g.cell k0 (by simp), g.cell k1 (by simp), g.cell k2 (by simp), g.cell k3 (by simp), g.cell d5 (by simp), g.cell d6 (by simp)⟩
      clear hr hdb hc' hj
      unfold rcc at HRe'
      obtain ⟨rk, ri, rs, ru, rc⟩ := r
      obtain ⟨ck, ci, cs, ct⟩ := c'
      simp only at *
      generalize ((hS S0 l j).n : Int) = Sn at *
      generalize (hS S0 l j).t = St at *
      go_wp2
      go_cut [11] from 28 to 40 (fun v W => ∃ B, v = .pointer (some ⟨B, 0, none⟩) ∧ Hid (W.heap[B]? = some (.cells [Value.int .i64 rk, .int .u32 ri, .int .i64 rs, .int .i64 ru, .int .i64 rc].toArray 28 (0, 0)) ∧ wr.grownBy W none))
      case first =>
        have hK0 := HKf.out wr.drew (grown_drew wr none)
        have hKz := HKf.out _ (gn_drew (grown_alloc wr (.cells #[.int .i64 0, .int .u32 0, .int .i64 0, .int .i64 0, .int .i64 0] 28)))
        refine wp_region_held_drew (S := (fun W => W.cell? ⟨rb, off + j * 4, none⟩ = some (.int .i64 ck) ∧ W.cell? ⟨rb, off + j * 4 + 1, none⟩ = some (.int .i64 ci) ∧ W.cell? ⟨rb, off + j * 4 + 2, none⟩ = some (.int .i64 cs) ∧ W.cell? ⟨rb, off + j * 4 + 3, none⟩ = some (.int .i64 ct) ∧ W.cell? ⟨d, 5, none⟩ = some (.int .u32 Sn) ∧ W.cell? ⟨d, 6, none⟩ = some (.int .i64 St))) (by kernel_rfl) ?_ (fun hHeld => ?_)
        · (exact hK0)
        refine tkH (i := 0) (v := ?_) rfl ?_ ?_
        rotate_left
        · (intro w hSw; (try dsimp only at hSw); (go_simp <;> with_reducible rfl))
        try simp only [Act.put, List.setIfInBounds_toArray]
        refine tkH (i := 1) (v := ?_) rfl ?_ ?_
        rotate_left
        · (intro w hSw; (try dsimp only at hSw); (go_simp <;> with_reducible rfl))
        try simp only [Act.put]
        refine tkH (i := 2) (v := ?_) rfl ?_ ?_
        rotate_left
        · (intro w hSw; (try dsimp only at hSw); (go_simp <;> with_reducible rfl))
        try simp only [Act.put]
        refine tkH (i := 3) (v := ?_) rfl ?_ ?_
        rotate_left
        · (intro w hSw; (try dsimp only at hSw); (go_simp <;> with_reducible rfl))
        try simp only [Act.put]
        refine tkH (i := 4) (v := ?_) rfl ?_ ?_
        rotate_left
        · (intro w hSw; (try dsimp only at hSw); (go_simp <;> with_reducible rfl))
        try simp only [Act.put]
        refine tkH (i := 5) (v := ?_) rfl ?_ ?_
        rotate_left
        · (intro w hSw; (try dsimp only at hSw); (go_simp <;> with_reducible rfl))
        try simp only [Act.put]
        refine tkH (i := 6) (v := ?_) rfl ?_ ?_
        rotate_left
        · (intro w hSw; (try dsimp only at hSw); (go_simp <;> with_reducible rfl))
        try simp only [Act.put]
        refine tkH (i := 7) (v := ?_) rfl ?_ ?_
        rotate_left
        · (intro w hSw; (try dsimp only at hSw); (go_simp <;> with_reducible rfl))
        try simp only [Act.put]
        refine tkH (i := 8) (v := ?_) rfl ?_ ?_
        rotate_left
        · (intro w hSw; (try dsimp only at hSw); (go_simp <;> with_reducible rfl))
        try simp only [Act.put]
        refine tkH (i := 9) (v := ?_) rfl ?_ ?_
        rotate_left
        · (intro w hSw; (try dsimp only at hSw); (go_simp <;> with_reducible rfl))
        try simp only [Act.put]
        refine tkH (i := 10) (v := ?_) rfl ?_ ?_
        rotate_left
        · (intro w hSw; (try dsimp only at hSw); (go_simp <;> with_reducible rfl))
        try simp only [Act.put]
        refine tkH (i := 11) (v := ?_) rfl ?_ ?_
        rotate_left
        · (intro w hSw; (try dsimp only at hSw); (go_simp <;> with_reducible rfl))
        try simp only [Act.put]
        refine wpAnyH_ready (rs := [12, 13]) (by kernel_rfl) (by simp) ?_
        refine AllReadyH.cons rfl (fun K hK => ?_) ?_
        · skip
          go_simp
          refine (HRe'.out _).mono ?_
          rintro e w2 ⟨rfl, g2⟩
          have G1 := hide (grown_trans (grown_drew wr none) g2)
          have hK1 := HKf.out w2 G1.out
          have hK2 := HKf.out _ (gn_alloc G1.out (.cells #[.int .i64 0, .int .u32 0, .int .i64 0, .int .i64 0, .int .i64 0] 28))
          have hK3 := HKf.out _ (gn_alloc G1.out (.cells #[.int .i64 rk, .int .u32 ri, .int .i64 rs, .int .i64 ru, .int .i64 rc] 28))
          have HZ := hide (And.intro (heap_alloc_new w2 (.cells #[.int .i64 rk, .int .u32 ri, .int .i64 rs, .int .i64 ru, .int .i64 rc] 28)) (gn_alloc G1.out (.cells #[.int .i64 rk, .int .u32 ri, .int .i64 rs, .int .i64 ru, .int .i64 rc] 28)))
          clear g2
          go_wp2_with fail
          refine hK.out _ _ ?_ (fun hHeld => ?_)
          · ((try dsimp only); first | with_reducible exact hK1 | with_reducible exact hK2 | with_reducible exact hK3 | with_reducible exact hK0 | with_reducible exact hKz | exact hK0 | exact hKz | exact hK1 | exact hK2 | exact hK3)
          clear hK K
          try simp only [Act.put, List.setIfInBounds_toArray, List.set_cons_zero, List.set_cons_succ]
          refine rdH (i := 13) rfl (fun K hK => ?_)
          go_simp
          refine hK.out _ _ ?_ (fun hHeld => ?_)
          · ((try dsimp only); first | with_reducible exact hK1 | with_reducible exact hK2 | with_reducible exact hK3 | with_reducible exact hK0 | with_reducible exact hKz | exact hK0 | exact hKz | exact hK1 | exact hK2 | exact hK3)
          clear hK K
          try simp only [Act.put, List.setIfInBounds_toArray, List.set_cons_zero, List.set_cons_succ]
          refine rdH (i := 14) rfl (fun K hK => ?_)
          go_simp
          refine hK.out _ _ ?_ (fun hHeld => ?_)
          · ((try dsimp only); first | with_reducible exact hK1 | with_reducible exact hK2 | with_reducible exact hK3 | with_reducible exact hK0 | with_reducible exact hKz | exact hK0 | exact hKz | exact hK1 | exact hK2 | exact hK3)
          clear hK K
          try simp only [Act.put, List.setIfInBounds_toArray, List.set_cons_zero, List.set_cons_succ]
          refine wpAnyH_done (by kernel_rfl) ?_ _
          go_wp2
          go_meet
          case rel => exact ⟨_, rfl, HZ.out.1, HZ.out.2⟩
        refine AllReadyH.cons rfl (fun K hK => ?_) ?_
        · skip
          go_simp
          refine hK.out _ _ ?_ (fun hHeld => ?_)
          · ((try dsimp only); first | with_reducible exact hK1 | with_reducible exact hK2 | with_reducible exact hK3 | with_reducible exact hK0 | with_reducible exact hKz | exact hK0 | exact hKz | exact hK1 | exact hK2 | exact hK3)
          clear hK K
          try simp only [Act.put, List.setIfInBounds_toArray, List.set_cons_zero, List.set_cons_succ]
          refine rdH (i := 12) rfl (fun K hK => ?_)
          go_simp
          refine (HRe'.out _).mono ?_
          rintro e w2 ⟨rfl, g2⟩
          have G2 := hide (grown_trans (grown_drew (wr.alloc (.cells #[.int .i64 0, .int .u32 0, .int .i64 0, .int .i64 0, .int .i64 0] 28)) none) g2)
          have hK1 := HKf.out w2 (grown_trans (grown_alloc wr _) G2.out)
          have HQ5 := hide (Rk.set5 (mid_b G2.out) (.int .i64 rk) (.int .u32 ri) (.int .i64 rs) (.int .i64 ru) (.int .i64 rc))
          have G3 := hide (gn_set (gn_set (gn_set (gn_set (gn_set (grown_trans (grown_alloc wr _) G2.out) (Nat.le_refl _) (j := 0) (v := .int .i64 rk)) (Nat.le_refl _) (j := 1) (v := .int .u32 ri)) (Nat.le_refl _) (j := 2) (v := .int .i64 rs)) (Nat.le_refl _) (j := 3) (v := .int .i64 ru)) (Nat.le_refl _) (j := 4) (v := .int .i64 rc))
          have hK2 := HKf.out _ G3.out
          have HZ := hide (And.intro HQ5.out.1 G3.out)
          obtain ⟨y0, y1, y2, y3, y4⟩ := Rk.box5 (mid_b G2.out)
          have z0 := free_row (mid_b G2.out) 0
          have z1 := free_row (mid_b G2.out) 1
          have z2 := free_row (mid_b G2.out) 2
          have z3 := free_row (mid_b G2.out) 3
          have z4 := free_row (mid_b G2.out) 4
          clear g2
          go_wp2_with fail
          refine hK.out _ _ ?_ (fun hHeld => ?_)
          · ((try dsimp only); first | with_reducible exact hK1 | with_reducible exact hK2 | with_reducible exact hK3 | with_reducible exact hK0 | with_reducible exact hKz | exact hK0 | exact hKz | exact hK1 | exact hK2 | exact hK3)
          clear hK K
          try simp only [Act.put, List.setIfInBounds_toArray, List.set_cons_zero, List.set_cons_succ]
          refine rdH (i := 14) rfl (fun K hK => ?_)
          go_simp
          refine hK.out _ _ ?_ (fun hHeld => ?_)
          · ((try dsimp only); first | with_reducible exact hK1 | with_reducible exact hK2 | with_reducible exact hK3 | with_reducible exact hK0 | with_reducible exact hKz | exact hK0 | exact hKz | exact hK1 | exact hK2 | exact hK3)
          clear hK K
          try simp only [Act.put, List.setIfInBounds_toArray, List.set_cons_zero, List.set_cons_succ]
          refine wpAnyH_done (by kernel_rfl) ?_ _
          go_wp2
          go_meet
          case rel => exact ⟨_, rfl, HZ.out.1, HZ.out.2⟩
        exact AllReadyH.nil
      case rest =>
        obtain ⟨B, rfl, HB⟩ := hcut
        have hdw := HD.out.then HB.out.2
        have hA := dapply_any hdw (HOk.out j) ⟨rk, ri, rs, ru, rc⟩ HOkR.out
        obtain ⟨y0, y1, y2, y3, y4⟩ := Rk.box5 HB.out.1
        have HA : Hid (Calls Tryz.prog 43 #[.pointer (some ⟨d, 0, none⟩), .agg #[.int .i64 rk, .int .u32 ri, .int .i64 rs, .int .i64 ru, .int .i64 rc]] wc fun e w' => e = .returned (.int .i64 (appE (hS S0 l j) ⟨rk, ri, rs, ru, rc⟩)) ∧ (∃ v', Db w' w.heap.size d v' (hS S0 l (j + 1))) ∧ w'.ownsRow w.heap.size 28 5 (.slice vq mq cq) (hist all S0 (l.take j)).length (rcs (hist all S0 (l.take j))) ∧ w.grownBy w' none ∧ w'.heap[B]? = some (.cells [Value.int .i64 rk, .int .u32 ri, .int .i64 rs, .int .i64 ru, .int .i64 rc].toArray 28 (0, 0))) := by
          refine hA.mono ?_
          rintro e w' ⟨v', rfl, h1, h2⟩
          have hrow := own_keep HH.out.row HB.out.2
          have hBo : ¬ dbo d vd B := by
            rintro (e | e)
            · have := HB.out.1; rw [e, hdw.head] at this; cases this
            · obtain ⟨-, cur, hc⟩ := Ix.own_block hdw.row e
              rw [HB.out.1] at hc; cases hc
          refine ⟨rfl, ⟨v', by rw [HSj.out]; exact h1⟩, own_kept hrow h2.kept (row_off hdw hrow), kept_grown (grown_trans HH.out.gr HB.out.2) h2.kept (fun i hi => hdw.lows i hi), h2.kept.at HB.out.1 hBo⟩
        have hmq : mq = (hist all S0 (l.take j)).length := slice_n HH.out.row
        have hmj : mq ≤ 1000 := by have := HLe.out j; omega
        clear hdw hA HH HB HD HOkR HSj k0 k1 k2 k3 d5 d6 HKf HRe'
        go_wp2_with fail
        refine HA.out.mono ?_
        rintro e w3 ⟨rfl, hdb3, hrow3, hg3, hB3⟩
        obtain ⟨x0, x1, x2, x3, x4⟩ := Rk.box5 hB3
        have H3 := hide (And.intro hdb3 (And.intro hrow3 hg3))
        have HRow : Hid ((w3.alloc (.cells [Value.int .i64 rk, .int .u32 ri, .int .i64 rs, .int .i64 ru, .int .i64 rc].toArray 28)).ownsRow w.heap.size 28 5 (.slice vq mq cq) mq (rcs (hist all S0 (l.take j))) ∧ (∀ jj u, [Value.int .i64 rk, .int .u32 ri, .int .i64 rs, .int .i64 ru, .int .i64 rc][jj]? = some u → (w3.alloc (.cells [Value.int .i64 rk, .int .u32 ri, .int .i64 rs, .int .i64 ru, .int .i64 rc].toArray 28)).cell? ((⟨w3.heap.size, 0, none⟩ : Addr).add jj) = some u) ∧ w.heap.size ≤ w3.heap.size) := by
          refine ⟨by rw [hmq]; rw [← hmq]; have := hrow3.alloc (.cells [Value.int .i64 rk, .int .u32 ri, .int .i64 rs, .int .i64 ru, .int .i64 rc].toArray 28); rw [← hmq] at this; exact this, fun jj u hu => ?_, hg3.size⟩
          rw [Addr.add_lit, Nat.zero_add, cell_row (heap_alloc_new w3 _)]
          exact hu
        have HOc : Hid (∀ u ∈ [Value.int .i64 rk, .int .u32 ri, .int .i64 rs, .int .i64 ru, .int .i64 rc], u.oneCell' = true) := by
          intro u hu
          simp at hu
          rcases hu with rfl | rfl | rfl | rfl | rfl <;> rfl
        have HAp : Hid (appE (hS S0 l j) ⟨rk, ri, rs, ru, rc⟩ = 0 ∨ all = true → ∀ v' w', w'.ownsRow w.heap.size 28 5 v' (mq + 1) (rcs (hist all S0 (l.take j)) ++ [Value.int .i64 rk, .int .u32 ri, .int .i64 rs, .int .i64 ru, .int .i64 rc]) → (w3.alloc (.cells [Value.int .i64 rk, .int .u32 ri, .int .i64 rs, .int .i64 ru, .int .i64 rc].toArray 28)).grownBy w' (Value.slice vq mq cq).ownBlock → HiS w w' d S0 l all (j + 1) v') := by
          intro hy v' w' hov hg
          obtain ⟨⟨v3, hd3⟩, hr3, hg3⟩ := H3.out
          have k : Kept w3 w' (fun i => (Value.slice vq mq cq).ownBlock = some i) := (Kept.new (grown_alloc w3 _) _).trans (Kept.of hg (S := fun i => (Value.slice vq mq cq).ownBlock = some i) (fun j e _ => e)) (fun _ _ e => e)
          have hge : ∀ i, (Value.slice vq mq cq).ownBlock = some i → w.heap.size ≤ i := fun i hi => (Ix.own_block hr3 hi).1
          have hof := row_off hd3 hr3
          refine ⟨⟨v3, hd3.far k (fun i hi e => hof i e hi)⟩, ?_, kept_grown hg3 k hge⟩
          rw [HHj.out, if_pos hy, List.length_append, ← hmq, rcs_snoc]
          exact hov
        have HNo : Hid (¬ (appE (hS S0 l j) ⟨rk, ri, rs, ru, rc⟩ = 0 ∨ all = true) → HiS w w3 d S0 l all (j + 1) (.slice vq mq cq)) := by
          intro hn
          refine ⟨H3.out.1, ?_, H3.out.2.2⟩
          rw [HHj.out, if_neg hn, List.append_nil]
          exact H3.out.2.1
        have HMq := hide hmj
        clear hdb3 hrow3 hg3 hB3 HA HHj H3 hmq hmj y0 y1 y2 y3 y4
        generalize rcs (hist all S0 (l.take j)) = Lt at *
        generalize appE (hS S0 l j) ⟨rk, ri, rs, ru, rc⟩ = er at *
        by_cases he : er = 0
        · subst he
          have HAp2 := hide (HAp.out (.inl rfl))
          clear HNo HAp
          go_wp2_with (at_builtin; refine wpList_append_own _ rfl (.tmp 49) (.tmp 51) 100 rfl w.heap.size 28 i0 (.agg #[.int .i64 0, .int .u32 0, .int .i64 0, .int .i64 0, .int .i64 0]) 5 40 Tryz.underlying100 HI0.out.1 HI0.out.2.1 HI0.out.2.2.1 HI0.out.2.2.2 rfl (by decide) (.slice vq mq cq) mq Lt rfl HRow.out.1 ⟨w3.heap.size, 0, none⟩ 1 1 [.int .i64 rk, .int .u32 ri, .int .i64 rs, .int .i64 ru, .int .i64 rc] rfl rfl HRow.out.2.1 HOc.out (by have := HMq.out; unfold maxLen; omega) (by have := HMq.out; omega) (by have := HRow.out.2.2; simp; omega) ?_)
          intro v' w' hov hg hv
          clear hv
          obtain ⟨vo', vc', rfl, -⟩ := Ix.own_form hov
          have HN := hide (HAp2.out _ _ hov hg)
          clear hov hg
          go_wp2
          go_roundg (gk - 1)
          case measure => omega
          case rel => exact ⟨j + 1, vo', mq + 1, vc', by omega, by go_num, rfl, HN.out⟩
        · have f1 : (er == 0) = false := by simpa using he
          have f2 : decide (er = 0) = false := by simpa using he
          cases all with
          | true =>
            have HAp2 := hide (HAp.out (.inr rfl))
            clear HNo he HAp
            go_wp2_with (at_builtin; refine wpList_append_own _ rfl (.tmp 49) (.tmp 51) 100 rfl w.heap.size 28 i0 (.agg #[.int .i64 0, .int .u32 0, .int .i64 0, .int .i64 0, .int .i64 0]) 5 40 Tryz.underlying100 HI0.out.1 HI0.out.2.1 HI0.out.2.2.1 HI0.out.2.2.2 rfl (by decide) (.slice vq mq cq) mq Lt rfl HRow.out.1 ⟨w3.heap.size, 0, none⟩ 1 1 [.int .i64 rk, .int .u32 ri, .int .i64 rs, .int .i64 ru, .int .i64 rc] rfl rfl HRow.out.2.1 HOc.out (by have := HMq.out; unfold maxLen; omega) (by have := HMq.out; omega) (by have := HRow.out.2.2; simp; omega) ?_)
            intro v' w' hov hg hv
            clear hv
            obtain ⟨vo', vc', rfl, -⟩ := Ix.own_form hov
            have HN := hide (HAp2.out _ _ hov hg)
            clear hov hg
            go_wp2
            go_roundg (gk - 1)
            case measure => omega
            case rel => exact ⟨j + 1, vo', mq + 1, vc', by omega, by go_num, rfl, HN.out⟩
          | false =>
            have HN := hide (HNo.out (fun e => e.elim he (fun e => by cases e)))
            clear HNo HAp he HRow HOc
            go_wp2
            go_roundg (gk - 1)
            case measure => omega
            case rel => exact ⟨j + 1, vq, mq, cq, by omega, by go_num, rfl, HN.out⟩
    · have hj : j = l.length := by omega
      have HF := HH.out
      rw [hj] at HF
      have hrow := HF.row
      rw [HAll.out] at hrow
      have hmq : mq = (hist all S0 l).length := slice_n hrow
      have HX := hide (And.intro hrow HF.gr)
      clear HF hrow HH
      subst hj
      subst hmq
      go_wp2
      go_ret
      exact ⟨vq, cq, rfl, HX.out⟩
end Go.Proofs.YtjfhilignbeboaaGreatDoor
