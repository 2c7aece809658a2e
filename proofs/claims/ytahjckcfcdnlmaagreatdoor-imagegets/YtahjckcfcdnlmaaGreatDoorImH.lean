/- The document's Get of image, where it refuses ahead of the bookings. -/
import Derived.Test.YtahjckcfcdnlmaaGreatDoorImG
namespace Go.Proofs.YtahjckcfcdnlmaaGreatDoor
open Go.RowKit
attribute [local go_sem ↓] Go.wp_at_zero Go.wp_at_succ
attribute [local go_sem] Oper.semAt_some
/-- Nothing told, and why. -/
def GdN (w : World) (E : Int) (e : Ending) (w' : World) : Prop := e = .returned (.tuple #[.agg z6.toArray, .int .i64 E]) ∧ w.grownBy w' none
/-- The world behind the first region. -/
def w7 (w : World) (a b c : Int) : World := (w.alloc (.cells [.int .i64 a, .int .i64 b, .int .i64 c].toArray 23)).alloc (.cells z6.toArray 33)
theorem w7_gr (w : World) (a b c : Int) : w.grownBy (w7 w a b c) none := gn_alloc (grown_alloc w _) _
theorem w7_size (w : World) (a b c : Int) : (w7 w a b c).heap.size = w.heap.size + 2 := by unfold w7; rw [Ge.alloc_size, Ge.alloc_size]
theorem w7_s (w : World) (a b c : Int) : (w7 w a b c).heap[w.heap.size]? = some (.cells [.int .i64 a, .int .i64 b, .int .i64 c].toArray 23 (0, 0)) :=
  ((grown_alloc _ _).block _ (row_lt (heap_alloc_new w _)) (by simp)).trans (heap_alloc_new w _)
theorem w7_r (w : World) (a b c : Int) : (w7 w a b c).heap[w.heap.size + 1]? = some (.cells z6.toArray 33 (0, 0)) := by
  have := heap_alloc_new (w.alloc (.cells [.int .i64 a, .int .i64 b, .int .i64 c].toArray 23)) (.cells z6.toArray 33)
  rw [Ge.alloc_size] at this
  exact this
/-- What lies still behind it. -/
structure G7 (w W : World) (a b c : Int) : Prop where
  gr : w.grownBy W none
  sz : w.heap.size + 2 ≤ W.heap.size
  bs : W.heap[w.heap.size]? = some (.cells [.int .i64 a, .int .i64 b, .int .i64 c].toArray 23 (0, 0))
  br : W.heap[w.heap.size + 1]? = some (.cells z6.toArray 33 (0, 0))
theorem G7.new (w : World) (a b c : Int) : G7 w (w7 w a b c) a b c := ⟨w7_gr w a b c, by rw [w7_size]; exact Nat.le_refl _, w7_s w a b c, w7_r w a b c⟩
theorem G7.then {w W W' : World} {a b c : Int} (h : G7 w W a b c) (g : W.grownBy W' none) : G7 w W' a b c :=
  ⟨grown_trans h.gr g, Nat.le_trans h.sz g.size, (g.block _ (row_lt h.bs) (by simp)).trans h.bs, (g.block _ (row_lt h.br) (by simp)).trans h.br⟩
theorem G7.six {w W : World} {a b c : Int} (h : G7 w W a b c) : (W.cell? ⟨w.heap.size, 0, none⟩ = some (.int .i64 a) ∧ W.cell? ⟨w.heap.size, 1, none⟩ = some (.int .i64 b) ∧ W.cell? ⟨w.heap.size, 2, none⟩ = some (.int .i64 c)) ∧ W.cell? ⟨w.heap.size + 1, 0, none⟩ = some (.int .i64 0) ∧ W.cell? ⟨w.heap.size + 1, 1, none⟩ = some (.int .i64 0) ∧ W.cell? ⟨w.heap.size + 1, 2, none⟩ = some (.int .i64 0) ∧ W.cell? ⟨w.heap.size + 1, 3, none⟩ = some (.int .u32 0) ∧ W.cell? ⟨w.heap.size + 1, 4, none⟩ = some (.int .i64 0) ∧ W.cell? ⟨w.heap.size + 1, 5, none⟩ = some (.slice none 0 0) ∧ ∀ j, W.frozen? ⟨w.heap.size + 1, j, none⟩ = false := by
  obtain ⟨y0, y1, y2, -⟩ := box3 h.bs
  have h6 := box6 (show W.heap[w.heap.size + 1]? = some (.cells [.int .i64 0, .int .i64 0, .int .i64 0, .int .u32 0, .int .i64 0, .slice none 0 0].toArray 33 (0, 0)) from h.br)
  obtain ⟨q0, q1, q2, q3, q4, q5, q6⟩ := h6
  exact ⟨⟨y0, y1, y2⟩, q0, q1, q2, q3, q4, q5, q6⟩
set_option maxRecDepth 20000 in
set_option maxHeartbeats 4000000 in
theorem rget_shape {w : World} {ao : Option Addr} {n cap : Nat} {a b c : Int} (hS : ¬ Gx.OkS a b c) : Calls Tryz.prog 7 #[.agg #[.int .i64 a, .int .i64 b, .int .i64 c], .slice ao n cap] w (GdN w 90) := by
  have HC : Hid (∀ W : World, Calls Tryz.prog 25 #[.agg #[.int .i64 a, .int .i64 b, .int .i64 c]] W fun e w' => e = .returned (.int .i64 90) ∧ W.grownBy w' none) := fun W => Ge.rcheck_no _ _ _ hS W
  have H0 := hide (G7.new w a b c)
  obtain ⟨⟨y0, y1, y2⟩, -⟩ := H0.out.six
  unfold w7 z6 at *
  go_enter Tryz.func7, Tryz.ntmps7
  go_wp2_with fail
  refine (HC.out _).mono ?_
  rintro e w1 ⟨rfl, hg⟩
  have H1 := hide (H0.out.then hg)
  obtain ⟨⟨z0, z1, z2⟩, q0, q1, q2, q3, q4, q5, q6⟩ := H1.out.six
  have m0 := q6 0
  have m1 := q6 1
  have m2 := q6 2
  have m3 := q6 3
  have m4 := q6 4
  have m5 := q6 5
  clear hg
  go_wp2
  exact bodyPost_ret (results_33 (p := 4) (u := 5) rfl _ _ (w.heap.size + 1) _ _ _ _ _ _ (.int .i64 90) rfl (row6 w1 H1.out.br _ _ _ _ _ _) (by simp [Value.oneCell']) rfl) rfl ⟨rfl, gr6 H1.out.gr (by omega) _ _ _ _ _ _⟩
set_option maxRecDepth 20000 in
set_option maxHeartbeats 8000000 in
theorem rget_short {w : World} {ao : Option Addr} {n cap : Nat} {a b c : Int} (hS : Gx.OkS a b c) (hs : n < 20) : Calls Tryz.prog 7 #[.agg #[.int .i64 a, .int .i64 b, .int .i64 c], .slice ao n cap] w (GdN w 4) := by
  have HC : Hid (∀ W : World, Calls Tryz.prog 25 #[.agg #[.int .i64 a, .int .i64 b, .int .i64 c]] W fun e w' => e = .returned (.int .i64 0) ∧ W.grownBy w' none) := fun W => Ge.rcheck_ok _ _ _ hS W
  have H0 := hide (G7.new w a b c)
  obtain ⟨⟨y0, y1, y2⟩, -⟩ := H0.out.six
  unfold w7 z6 at *
  go_enter Tryz.func7, Tryz.ntmps7
  go_wp2_with fail
  refine (HC.out _).mono ?_
  rintro e w1 ⟨rfl, hg⟩
  have H1 := hide (H0.out.then hg)
  clear hg y0 y1 y2 H0 HC
  obtain ⟨⟨z0, z1, z2⟩, q0, q1, q2, q3, q4, q5, q6⟩ := H1.out.six
  have m0 := q6 0
  have m1 := q6 1
  have m2 := q6 2
  have m3 := q6 3
  have m4 := q6 4
  have m5 := q6 5
  have hs' : (n : Int) < 20 := by omega
  go_wp2
  exact bodyPost_ret (results_33 (p := 4) (u := 5) rfl _ _ (w.heap.size + 1) _ _ _ _ _ _ (.int .i64 4) rfl (row6 w1 H1.out.br _ _ _ _ _ _) (by simp [Value.oneCell']) rfl) rfl ⟨rfl, gr6 H1.out.gr (by omega) _ _ _ _ _ _⟩
set_option maxRecDepth 20000 in
set_option maxHeartbeats 8000000 in
theorem rget_less {w : World} {ao : Option Addr} {n cap : Nat} {xs : List Int} {a b c : Int} (hl : xs.length = n) (hat : Oc.At w ao xs) (hB : Oc.Byt xs) (hn48 : n ≤ 9000000000000000) (hS : Gx.OkS a b c) (hs : 20 ≤ n) (hx : n < 20 + 14 * imM xs) : Calls Tryz.prog 7 #[.agg #[.int .i64 a, .int .i64 b, .int .i64 c], .slice ao n cap] w (GdN w 4) := by
  have HC : Hid (∀ W : World, Calls Tryz.prog 25 #[.agg #[.int .i64 a, .int .i64 b, .int .i64 c]] W fun e w' => e = .returned (.int .i64 0) ∧ W.grownBy w' none) := fun W => Ge.rcheck_ok _ _ _ hS W
  have HN : Hid (∀ W, w.grownBy W none → ∀ o k : Nat, o + k ≤ n → k ≤ 8 → Calls Tryz.prog 26 #[.slice ao n cap, .int .i64 (o : Int), .int .i64 (k : Int)] W fun e w' => e = .returned (.int .u64 (gV xs o k)) ∧ w' = W) := fun W g o k h1 h2 => number_any hl (Oc.At.kept hat g (fun _ _ => by simp)) hB o k h1 h2 (by omega)
  have HM : Hid (gV xs 18 2 = (imM xs : Int)) := (Int.toNat_of_nonneg (gV_bound hB 18 2).1).symm
  have hM1 := imM_le hB
  have H0 := hide (G7.new w a b c)
  obtain ⟨⟨y0, y1, y2⟩, -⟩ := H0.out.six
  unfold w7 z6 at *
  go_enter Tryz.func7, Tryz.ntmps7
  go_wp2_with fail
  refine (HC.out _).mono ?_
  rintro e w1 ⟨rfl, hg⟩
  have H1 := hide (H0.out.then hg)
  clear hg y0 y1 y2 H0 HC
  obtain ⟨⟨z0, z1, z2⟩, q0, q1, q2, q3, q4, q5, q6⟩ := H1.out.six
  have m0 := q6 0
  have m1 := q6 1
  have m2 := q6 2
  have m3 := q6 3
  have m4 := q6 4
  have m5 := q6 5
  have hs1 : ¬ (n : Int) < 20 := by omega
  have hs2 : decide ((n : Int) < 20) = false := by simpa using hs1
  go_wp2_with fail
  refine (HN.out _ H1.out.gr 18 2 (by omega) (by omega)).mono ?_
  rintro e w2 ⟨rfl, rfl⟩
  rw [HM.out]
  generalize imM xs = M at *
  have e1 : IntKind.i64.wrap (M : Int) = (M : Int) := by rw [IntKind.wrap_i64]; omega
  have e2 : IntKind.i64.wrap (14 * (M : Int)) = 14 * (M : Int) := by rw [IntKind.wrap_i64]; omega
  have e3 : IntKind.i64.wrap (20 + 14 * (M : Int)) = 20 + 14 * (M : Int) := by rw [IntKind.wrap_i64]; omega
  have f1 : (n : Int) < 20 + 14 * (M : Int) := by omega
  go_wp2
  exact bodyPost_ret (results_33 (p := 4) (u := 5) rfl _ _ (w.heap.size + 1) _ _ _ _ _ _ (.int .i64 4) rfl (row6 w2 H1.out.br _ _ _ _ _ _) (by simp [Value.oneCell']) rfl) rfl ⟨rfl, gr6 H1.out.gr (by omega) _ _ _ _ _ _⟩
set_option maxRecDepth 20000 in
set_option maxHeartbeats 8000000 in
theorem rget_more {w : World} {ao : Option Addr} {n cap : Nat} {xs : List Int} {a b c : Int} (hl : xs.length = n) (hat : Oc.At w ao xs) (hB : Oc.Byt xs) (hn48 : n ≤ 9000000000000000) (hS : Gx.OkS a b c) (hs : 20 ≤ n) (hx : 20 + 14 * imM xs < n) : Calls Tryz.prog 7 #[.agg #[.int .i64 a, .int .i64 b, .int .i64 c], .slice ao n cap] w (GdN w 5) := by
  have HC : Hid (∀ W : World, Calls Tryz.prog 25 #[.agg #[.int .i64 a, .int .i64 b, .int .i64 c]] W fun e w' => e = .returned (.int .i64 0) ∧ W.grownBy w' none) := fun W => Ge.rcheck_ok _ _ _ hS W
  have HN : Hid (∀ W, w.grownBy W none → ∀ o k : Nat, o + k ≤ n → k ≤ 8 → Calls Tryz.prog 26 #[.slice ao n cap, .int .i64 (o : Int), .int .i64 (k : Int)] W fun e w' => e = .returned (.int .u64 (gV xs o k)) ∧ w' = W) := fun W g o k h1 h2 => number_any hl (Oc.At.kept hat g (fun _ _ => by simp)) hB o k h1 h2 (by omega)
  have HM : Hid (gV xs 18 2 = (imM xs : Int)) := (Int.toNat_of_nonneg (gV_bound hB 18 2).1).symm
  have hM1 := imM_le hB
  have H0 := hide (G7.new w a b c)
  obtain ⟨⟨y0, y1, y2⟩, -⟩ := H0.out.six
  unfold w7 z6 at *
  go_enter Tryz.func7, Tryz.ntmps7
  go_wp2_with fail
  refine (HC.out _).mono ?_
  rintro e w1 ⟨rfl, hg⟩
  have H1 := hide (H0.out.then hg)
  clear hg y0 y1 y2 H0 HC
  obtain ⟨⟨z0, z1, z2⟩, q0, q1, q2, q3, q4, q5, q6⟩ := H1.out.six
  have m0 := q6 0
  have m1 := q6 1
  have m2 := q6 2
  have m3 := q6 3
  have m4 := q6 4
  have m5 := q6 5
  have hs1 : ¬ (n : Int) < 20 := by omega
  have hs2 : decide ((n : Int) < 20) = false := by simpa using hs1
  go_wp2_with fail
  refine (HN.out _ H1.out.gr 18 2 (by omega) (by omega)).mono ?_
  rintro e w2 ⟨rfl, rfl⟩
  rw [HM.out]
  generalize imM xs = M at *
  have e1 : IntKind.i64.wrap (M : Int) = (M : Int) := by rw [IntKind.wrap_i64]; omega
  have e2 : IntKind.i64.wrap (14 * (M : Int)) = 14 * (M : Int) := by rw [IntKind.wrap_i64]; omega
  have e3 : IntKind.i64.wrap (20 + 14 * (M : Int)) = 20 + 14 * (M : Int) := by rw [IntKind.wrap_i64]; omega
  have f1 : ¬ (n : Int) < 20 + 14 * (M : Int) := by omega
  have f2 : decide ((n : Int) < 20 + 14 * (M : Int)) = false := by simpa using f1
  have f3 : 20 + 14 * (M : Int) < (n : Int) := by omega
  go_wp2
  exact bodyPost_ret (results_33 (p := 4) (u := 5) rfl _ _ (w.heap.size + 1) _ _ _ _ _ _ (.int .i64 5) rfl (row6 w2 H1.out.br _ _ _ _ _ _) (by simp [Value.oneCell']) rfl) rfl ⟨rfl, gr6 H1.out.gr (by omega) _ _ _ _ _ _⟩
end Go.Proofs.YtahjckcfcdnlmaaGreatDoor
