/- The contracts of mayBeDisk, Plan. -/
import Derived.Test.YtmjecgdamkkpaaaPs
namespace Go.Proofs.Ytmjecgdamkkpaaa
open Go.RowKit
attribute [local go_sem ↓] Go.wp_at_zero Go.wp_at_succ

set_option maxHeartbeats 1000000 in
theorem mayBeDisk_any (n s : Int) (h1 : -9223372036854775808 ≤ s) (h2 : s ≤ 9223372036854775807) (w : World) : Calls Try.prog 26 #[.int .i64 n, .int .i64 s] w fun e w' => e = .returned (.bool (decide (Gx.OkD n s))) ∧ w' = w := by
  have D := hide (mayBeSize_any s h1 h2)
  by_cases hn : 1 ≤ n ∧ n ≤ 65536
  · obtain ⟨hn1, hn2⟩ := hn
    by_cases hz : Gx.OkZ s
    · have hs := Gx.okz_bounds hz
      have hp : n * s ≤ 268435456 := Int.le_trans (Int.mul_le_mul_of_nonneg_left hs.2 (by omega)) (by omega)
      have hq : 0 ≤ n * s := Int.mul_nonneg (by omega) (by omega)
      rw [decide_eq_true hz] at D
      have e : decide (Gx.OkD n s) = decide (n * s ≤ 67108864) := by
        rw [decide_eq_decide]; unfold Gx.OkD; exact ⟨fun h => h.2.2.2, fun h => ⟨hn1, hn2, hz, h⟩⟩
      rw [e]
      have hw : IntKind.i64.wrap (n * s) = n * s := IntWalk.i64_in _ (by omega)
      have hw' : wrap64 (n * s) = n * s := by rw [← IntWalk.i64_left]; exact hw
      clear e hz
      go_enter Try.func26, Try.ntmps26
      go_wp2_with fail
      refine (D.out _).mono ?_
      rintro e w2 ⟨rfl, rfl⟩
      go_wp2
      all_goals go_ret
      all_goals first | exact ⟨rfl, rfl⟩ | (refine ⟨?_, rfl⟩; congr 2; rw [Bool.eq_iff_iff]; simp only [decide_eq_true_eq]; omega)
    · have e : decide (Gx.OkD n s) = false := decide_eq_false fun h => hz h.2.2.1
      rw [decide_eq_false hz] at D
      rw [e]
      clear e hz
      go_enter Try.func26, Try.ntmps26
      go_wp2_with fail
      refine (D.out _).mono ?_
      rintro e w2 ⟨rfl, rfl⟩
      go_wp2
      go_ret
      exact ⟨rfl, rfl⟩
  · have e : decide (Gx.OkD n s) = false := decide_eq_false fun h => hn ⟨h.1, h.2.1⟩
    rw [e]
    clear e
    by_cases h3 : 1 ≤ n
    · have h4 : ¬ n ≤ 65536 := fun h => hn ⟨h3, h⟩
      clear hn
      go_enter Try.func26, Try.ntmps26
      go_wp2
      go_ret
      exact ⟨rfl, rfl⟩
    · clear hn
      go_enter Try.func26, Try.ntmps26
      go_wp2
      go_ret
      exact ⟨rfl, rfl⟩

/-- A layout as a value. -/
def loV (s k n : Int) : Value := .agg #[.int .i64 s, .int .i64 0, .int .i64 k, .int .i64 k, .int .i64 k, .int .i64 (2 * k), .int .i64 (n - 2 * k)]
/-- No layout. -/
def loZ : Value := .agg #[.int .i64 0, .int .i64 0, .int .i64 0, .int .i64 0, .int .i64 0, .int .i64 0, .int .i64 0]

theorem grown_setCells (b : Nat) : ∀ (vs : List Value) (o : Nat) (w : World), w.grownBy (w.setCells b o vs) (some b)
  | [], _, w => grown_refl w _
  | v :: r, o, w => by
    rw [World.setCells]
    exact grown_trans (grown_setCell w b o v) (grown_setCells b r (o + 1) _)
theorem there_row {w : World} {b : Nat} {cs : List Value} {t : TypeId} (h : w.heap[b]? = some (.cells cs.toArray t (0, 0))) : w.there b 0 cs.length := fun j hj => by
  refine ⟨?_, free_row h _⟩
  rw [cell_row h, Nat.zero_add, List.getElem?_eq_getElem hj]; rfl
theorem results_cellT {P : Program} {fn : Func} {p u : Tmp} {ty : TypeId} (h : fn.results = #[.cell p ty, .tmp u]) (tmps : Array Value) (w : World) (b : Nat) (cs : List Value) (d : TypeDesc) (x : Value)
    (hp : tmps.getD p undef = .pointer (some ⟨b, 0, none⟩)) (hc : w.rangeAt b 0 cs) (hu : P.underlying ty = some d) (hd : d.isRow = true) (hi : (P.info? ty).map (·.size) = some cs.length) (hx : tmps.getD u undef = x) :
    (results fn tmps).run P w = .ok (.tuple #[.agg cs.toArray, x]) w := by
  rw [results_cell_tmp h, hp, hx]
  simp [asAddr, run_loadVar_mid w b 0 ty cs d hc hu hd hi, Result.andThen]
theorem box2 {w w2 : World} {o o' : Obj} (h : ((w.alloc o).alloc o').grownBy w2 none) : w.grownBy w2 none ∧ w2.heap[w.heap.size]? = some o ∧ w2.heap[w.heap.size + 1]? = some o' := by
  refine ⟨grown_box (grown_box h), box_kept (grown_box h), ?_⟩
  have := box_kept h
  rwa [alloc_size] at this
/-- A layout is laid into the answer's own cells. -/
theorem laid {w w2 : World} {b : Nat} {cs vs : List Value} {t : TypeId} (hb : w.heap.size ≤ b) (hg : w.grownBy w2 none) (h : w2.heap[b]? = some (.cells cs.toArray t (0, 0))) (hl : cs.length = vs.length) :
    w2.there b 0 vs.length ∧ (w2.setCells b 0 vs).rangeAt b 0 vs ∧ w.grownBy (w2.setCells b 0 vs) none := by
  have ht : w2.there b 0 vs.length := by rw [← hl]; exact there_row h
  exact ⟨ht, World.rangeAt_setCells_same w2 b 0 vs ht, grown_then hg (grown_setCells b vs 0 w2) (fun j e => by cases e; exact Or.inl hb)⟩
/-- The cells of a layout. -/
def loL (s k n : Int) : List Value := [.int .i64 s, .int .i64 0, .int .i64 k, .int .i64 k, .int .i64 k, .int .i64 (2 * k), .int .i64 (n - 2 * k)]
def loN : List Value := [.int .i64 0, .int .i64 0, .int .i64 0, .int .i64 0, .int .i64 0, .int .i64 0, .int .i64 0]

set_option maxHeartbeats 1000000 in
theorem plan_shape (n s a b c : Int) (h : ¬ Gx.OkS a b c) (w : World) : Calls Try.prog 16 #[.int .i64 n, .int .i64 s, shV a b c] w fun e w' => e = .returned (.tuple #[loZ, .int .i64 90]) ∧ w.grownBy w' none := by
  have C := hide (check_no a b c h)
  unfold shV loZ at *
  go_enter Try.func16, Try.ntmps16
  go_wp2_with fail
  refine (C.out _).mono ?_
  rintro e w2 ⟨rfl, hg⟩
  obtain ⟨hG, hb, hc⟩ := box2 hg
  have L := hide (laid (vs := loN) (cs := loN) (by omega) hG hc rfl)
  clear hg hG hb hc
  go_wp2_with (first | (refine wpList_store_mid rfl 35 (.tmp 6) (.tmp 14) rfl (w.heap.size + 1) 0 loN.toArray rfl rfl L.out.1 (by kernel_rfl) (by kernel_rfl) ?_) | fail)
  refine bodyPost_ret (results_cellT rfl _ _ (w.heap.size + 1) loN _ _ rfl L.out.2.1 Try.underlying35 rfl (by kernel_rfl) rfl) rfl ?_
  exact ⟨rfl, L.out.2.2⟩
theorem keep {w w2 : World} {b : Nat} {o : Obj} (hg : w.grownBy w2 none) (h : w.heap[b]? = some o) : w2.heap[b]? = some o := (hg.block b (row_lt h) (fun e => by cases e)).trans h

set_option maxHeartbeats 1000000 in
theorem plan_arg (n s a b c : Int) (h : Gx.OkS a b c) (h1 : -9223372036854775808 ≤ s) (h2 : s ≤ 9223372036854775807) (hd : ¬ Gx.OkD n s) (w : World) : Calls Try.prog 16 #[.int .i64 n, .int .i64 s, shV a b c] w fun e w' => e = .returned (.tuple #[loZ, .int .i64 2]) ∧ w.grownBy w' none := by
  have C := hide (check_ok a b c h)
  have D := hide (mayBeDisk_any n s h1 h2)
  rw [decide_eq_false hd] at D
  unfold shV loZ at *
  go_enter Try.func16, Try.ntmps16
  go_wp2_with fail
  refine (C.out _).mono ?_
  rintro e w2 ⟨rfl, hg⟩
  obtain ⟨hG, hb, hc⟩ := box2 hg
  have L := hide (laid (vs := loN) (cs := loN) (by omega) hG hc rfl)
  clear hg hG hb hc
  go_wp2_with fail
  refine (D.out _).mono ?_
  rintro e w3 ⟨rfl, rfl⟩
  go_wp2_with (first | (refine wpList_store_mid rfl 35 (.tmp 6) (.tmp 20) rfl (w.heap.size + 1) 0 (loN).toArray rfl rfl L.out.1 (by kernel_rfl) (by kernel_rfl) ?_) | fail)
  refine bodyPost_ret (results_cellT rfl _ _ (w.heap.size + 1) (loN) _ _ rfl L.out.2.1 Try.underlying35 rfl (by kernel_rfl) rfl) rfl ?_
  exact ⟨rfl, L.out.2.2⟩

set_option maxHeartbeats 1000000 in
theorem plan_small (n s a b c : Int) (h : Gx.OkS a b c) (hd : Gx.OkD n s) (hn : n < Gx.need a b s) (w : World) : Calls Try.prog 16 #[.int .i64 n, .int .i64 s, shV a b c] w fun e w' => e = .returned (.tuple #[loZ, .int .i64 91]) ∧ w.grownBy w' none := by
  have C := hide (check_ok a b c h)
  have hs := Gx.okz_bounds hd.2.2.1
  have D := hide (mayBeDisk_any n s (by omega) (by omega))
  rw [decide_eq_true hd] at D
  have E := hide (needOf_any a b c s h hd.2.2.1)
  generalize Gx.need a b s = k at *
  clear hd
  unfold shV loZ at *
  go_enter Try.func16, Try.ntmps16
  go_wp2_with fail
  refine (C.out _).mono ?_
  rintro e w2 ⟨rfl, hg⟩
  obtain ⟨hG, hb, hc⟩ := box2 hg
  have c0 := cell3 hb 0
  have c1 := cell3 hb 1
  have c2 := cell3 hb 2
  simp only [getElem?_v0, getElem?_v1, getElem?_v2] at c0 c1 c2
  have K := hide (And.intro hG hc)
  clear hg hG hb hc
  go_wp2_with fail
  refine (D.out _).mono ?_
  rintro e w3 ⟨rfl, rfl⟩
  go_wp2_with fail
  refine (E.out _).mono ?_
  rintro e w4 ⟨rfl, hg⟩
  have L := hide (laid (vs := loN) (cs := loN) (by omega) (grown_trans K.out.1 hg) (keep hg K.out.2) rfl)
  clear hg c0 c1 c2 K
  go_wp2_with (first | (refine wpList_store_mid rfl 35 (.tmp 6) (.tmp 26) rfl (w.heap.size + 1) 0 (loN).toArray rfl rfl L.out.1 (by kernel_rfl) (by kernel_rfl) ?_) | fail)
  refine bodyPost_ret (results_cellT rfl _ _ (w.heap.size + 1) (loN) _ _ rfl L.out.2.1 Try.underlying35 rfl (by kernel_rfl) rfl) rfl ?_
  exact ⟨rfl, L.out.2.2⟩

set_option maxHeartbeats 1000000 in
theorem plan_ok (n s a b c : Int) (h : Gx.OkS a b c) (hd : Gx.OkD n s) (hn : Gx.need a b s ≤ n) (w : World) : Calls Try.prog 16 #[.int .i64 n, .int .i64 s, shV a b c] w fun e w' => e = .returned (.tuple #[loV s (Gx.slot a b s) n, .int .i64 0]) ∧ w.grownBy w' none := by
  have C := hide (check_ok a b c h)
  have hs := Gx.okz_bounds hd.2.2.1
  have D := hide (mayBeDisk_any n s (by omega) (by omega))
  rw [decide_eq_true hd] at D
  have E := hide (needOf_any a b c s h hd.2.2.1)
  have F := hide (slotOf_any a b c s h hd.2.2.1)
  have hk := Gx.slot_bounds h hd.2.2.1
  have hn2 := hd.2.1
  have hn1 := hd.1
  generalize Gx.need a b s = k at *
  generalize Gx.slot a b s = t at *
  clear hd
  unfold shV loV at *
  go_enter Try.func16, Try.ntmps16
  go_wp2_with fail
  refine (C.out _).mono ?_
  rintro e w2 ⟨rfl, hg⟩
  obtain ⟨hG, hb, hc⟩ := box2 hg
  have c0 := cell3 hb 0
  have c1 := cell3 hb 1
  have c2 := cell3 hb 2
  simp only [getElem?_v0, getElem?_v1, getElem?_v2] at c0 c1 c2
  have K := hide (And.intro hG (And.intro hc hb))
  clear hg hG hb hc
  go_wp2_with fail
  refine (D.out _).mono ?_
  rintro e w3 ⟨rfl, rfl⟩
  go_wp2_with fail
  refine (E.out _).mono ?_
  rintro e w4 ⟨rfl, hg⟩
  have hb := keep hg K.out.2.2
  have K4 := hide (And.intro (grown_trans K.out.1 hg) (And.intro (keep hg K.out.2.1) hb))
  clear hg c0 c1 c2 K
  have c0 := cell3 hb 0
  have c1 := cell3 hb 1
  have c2 := cell3 hb 2
  simp only [getElem?_v0, getElem?_v1, getElem?_v2] at c0 c1 c2
  clear hb
  go_wp2_with fail
  refine (F.out _).mono ?_
  rintro e w5 ⟨rfl, hg⟩
  have L := hide (laid (vs := loL s t n) (cs := loN) (by omega) (grown_trans K4.out.1 hg) (keep hg K4.out.2.1) rfl)
  clear hg c0 c1 c2 K4
  go_wp2_with (first | (refine wpList_store_mid rfl 35 (.tmp 6) (.tmp 43) rfl (w.heap.size + 1) 0 (loL s t n).toArray rfl rfl L.out.1 (by kernel_rfl) (by kernel_rfl) ?_) | fail)
  refine bodyPost_ret (results_cellT rfl _ _ (w.heap.size + 1) (loL s t n) _ _ rfl L.out.2.1 Try.underlying35 rfl (by kernel_rfl) rfl) rfl ?_
  exact ⟨rfl, L.out.2.2⟩

end Go.Proofs.Ytmjecgdamkkpaaa
