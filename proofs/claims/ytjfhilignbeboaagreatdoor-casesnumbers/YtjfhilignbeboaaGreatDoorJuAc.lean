/- Texts joined: RkRa, RkRb, IxIf, UMap, Bk0. -/
import Derived.WalkMore
import Derived.WalkKit
import Derived.WalkSpells
import Derived.WalkLawsBesides
import Derived.Laws.CopyOwn
import Derived.Laws.Bits64b
import Derived.Laws.Bits64
import Derived.Deep.MidRow
import Derived.Deep.LoopGhost
import Derived.Deep.RegionHeld3
import Derived.Deep.DrawnRows
import Derived.Deep.QuietTactic
import Derived.Deep.RegionWith
import Derived.BigQuiet
import Derived.Deep.OwnRows
import Derived.Laws.AppendOwnNone
import Derived.Laws.BitsAllLaws
import Derived.Laws.OwnMore
import Derived.ArgAppend
import Derived.Test.YtjfhilignbeboaaGreatDoorJuAb
import Derived.Maps.OwnSet
import Derived.Shelf.SlMaps.Clone
/- records: which fields a kind has, what may be, Check, Size. -/
namespace Go.Proofs.YtjfhilignbeboaaGreatDoor.Rk
open Go.RowKit
attribute [local go_sem ↓] Go.wp_at_zero Go.wp_at_succ
/-- The table of fields, cell by cell. -/
def tabB : List Bool := [false, false, false, false, true, true, true, false, true, false, false, false, true, false, false, false, true, true, false, false, false, false, false, true]
def Tab (w : World) : Prop := ∀ j, j < 24 → w.cell? ⟨0, j, none⟩ = some (.bool (tabB.getD j false))
theorem Tab.lt {w : World} (h : Tab w) : 0 < w.heap.size := by
  have := h 0 (by decide)
  cases hb : w.heap[0]? with
  | none => simp [World.cell?, hb] at this
  | some o => exact row_lt hb
theorem Tab.grown {w w' : World} {row : Option Nat} (h : Tab w) (hg : w.grownBy w' row) (hr : row ≠ some 0) : Tab w' := fun j hj => hg.cell (h j hj) (fun e => hr e.symm)
theorem Tab.new {w w' : World} (h : Tab w) (hg : w.grownBy w' none) : Tab w' := h.grown hg (by simp)
/-- Which fields a kind has. -/
def fI (k : Int) : Bool := decide (k = 1 ∨ k = 2 ∨ k = 3 ∨ k = 4)
def fS (k : Int) : Bool := decide (k = 1 ∨ k = 4)
def fU (k : Int) : Bool := decide (k = 1)
def fC (k : Int) : Bool := decide (k = 5)
def rcV (r : Rc) : Value := .agg #[.int .i64 r.k, .int .u32 r.i, .int .i64 r.s, .int .i64 r.u, .int .i64 r.c]
def rcC (r : Rc) : List Value := [.int .i64 r.k, .int .u32 r.i, .int .i64 r.s, .int .i64 r.u, .int .i64 r.c]
def isR (has : Bool) (n lo hi : Int) : Bool := if has then decide (lo ≤ n ∧ n ≤ hi) else decide (n = 0)

theorem isKind_any (k : Int) (w : World) : Calls Tryz.prog 62 #[.int .i64 k] w fun e w' => e = .returned (.bool (decide (1 ≤ k ∧ k ≤ 5))) ∧ w' = w := by
  by_cases h1 : 1 ≤ k
  · by_cases h2 : k ≤ 5
    · rw [decide_eq_true (show 1 ≤ k ∧ k ≤ 5 from ⟨h1, h2⟩)]
      go_enter Tryz.func62, Tryz.ntmps62
      go_wp2
      go_ret
      exact ⟨rfl, rfl⟩
    · rw [decide_eq_false (show ¬ (1 ≤ k ∧ k ≤ 5) from fun h => h2 h.2)]
      go_enter Tryz.func62, Tryz.ntmps62
      go_wp2
      go_ret
      exact ⟨rfl, rfl⟩
  · rw [decide_eq_false (show ¬ (1 ≤ k ∧ k ≤ 5) from fun h => h1 h.1)]
    go_enter Tryz.func62, Tryz.ntmps62
    go_wp2
    go_ret
    exact ⟨rfl, rfl⟩
theorem isRight_any (has : Bool) (n lo hi : Int) (w : World) : Calls Tryz.prog 112 #[.bool has, .int .i64 n, .int .i64 lo, .int .i64 hi] w fun e w' => e = .returned (.bool (isR has n lo hi)) ∧ w' = w := by
  cases has with
  | false =>
    rw [show isR false n lo hi = decide (n = 0) from rfl]
    by_cases h0 : n = 0
    · rw [decide_eq_true h0]
      subst h0
      go_enter Tryz.func112, Tryz.ntmps112
      go_wp2
      go_ret
      exact ⟨rfl, rfl⟩
    · rw [decide_eq_false h0]
      have h1 : (n == 0) = false := by simpa using h0
      have h2 : decide (n = 0) = false := by simpa using h0
      go_enter Tryz.func112, Tryz.ntmps112
      go_wp2
      go_ret
      exact ⟨rfl, rfl⟩
  | true =>
    rw [show isR true n lo hi = decide (lo ≤ n ∧ n ≤ hi) from rfl]
    by_cases h1 : lo ≤ n
    · by_cases h2 : n ≤ hi
      · rw [decide_eq_true (show lo ≤ n ∧ n ≤ hi from ⟨h1, h2⟩)]
        go_enter Tryz.func112, Tryz.ntmps112
        go_wp2
        go_ret
        exact ⟨rfl, rfl⟩
      · rw [decide_eq_false (show ¬ (lo ≤ n ∧ n ≤ hi) from fun h => h2 h.2)]
        go_enter Tryz.func112, Tryz.ntmps112
        go_wp2
        go_ret
        exact ⟨rfl, rfl⟩
    · rw [decide_eq_false (show ¬ (lo ≤ n ∧ n ≤ hi) from fun h => h1 h.1)]
      go_enter Tryz.func112, Tryz.ntmps112
      go_wp2
      go_ret
      exact ⟨rfl, rfl⟩
end Go.Proofs.YtjfhilignbeboaaGreatDoor.Rk
/- records: mayBe, Check, Size. -/
namespace Go.Proofs.YtjfhilignbeboaaGreatDoor.Rk
open Go.RowKit
attribute [local go_sem ↓] Go.wp_at_zero Go.wp_at_succ
theorem box5 {w : World} {g : Nat} {t : TypeId} {x y z u v : Value} (h : w.heap[g]? = some (.cells [x, y, z, u, v].toArray t (0, 0))) : w.cell? ⟨g, 0, none⟩ = some x ∧ w.cell? ⟨g, 1, none⟩ = some y ∧ w.cell? ⟨g, 2, none⟩ = some z ∧ w.cell? ⟨g, 3, none⟩ = some u ∧ w.cell? ⟨g, 4, none⟩ = some v :=
  ⟨cell_row h 0, cell_row h 1, cell_row h 2, cell_row h 3, cell_row h 4⟩
theorem box4 {w : World} {g : Nat} {t : TypeId} {x y z u : Value} (h : w.heap[g]? = some (.cells [x, y, z, u].toArray t (0, 0))) : w.cell? ⟨g, 0, none⟩ = some x ∧ w.cell? ⟨g, 1, none⟩ = some y ∧ w.cell? ⟨g, 2, none⟩ = some z ∧ w.cell? ⟨g, 3, none⟩ = some u :=
  ⟨cell_row h 0, cell_row h 1, cell_row h 2, cell_row h 3⟩
/-- What is asked of a record of a kind that there is. -/
def mayB (r : Rc) : Bool := isR (fI r.k) r.i 1 4294967295 && (isR (fS r.k) r.s 0 1023 && (isR (fU r.k) r.u 1 1099511627776 && isR (fC r.k) r.c 1 1099511627776))
theorem mayB_may {r : Rc} (ho : r.Ok) (hk : 1 ≤ r.k ∧ r.k ≤ 5) : mayB r = decide r.May := by
  have h1 := ho.i1
  obtain ⟨k, i, s, u, c⟩ := r
  dsimp only at *
  have hk5 : k = 1 ∨ k = 2 ∨ k = 3 ∨ k = 4 ∨ k = 5 := by omega
  unfold mayB Rc.May isR mxC
  rcases hk5 with rfl | rfl | rfl | rfl | rfl <;> simp [fI, fS, fU, fC] <;> simp only [← Bool.decide_and, decide_eq_decide] <;> omega

theorem tab1 {w : World} (h : Tab w) : w.cell? ⟨0, 4, none⟩ = some (.bool true) ∧ w.cell? ⟨0, 5, none⟩ = some (.bool true) ∧ w.cell? ⟨0, 6, none⟩ = some (.bool true) ∧ w.cell? ⟨0, 7, none⟩ = some (.bool false) :=
  ⟨h 4 (by decide), h 5 (by decide), h 6 (by decide), h 7 (by decide)⟩
theorem tab2 {w : World} (h : Tab w) : w.cell? ⟨0, 8, none⟩ = some (.bool true) ∧ w.cell? ⟨0, 9, none⟩ = some (.bool false) ∧ w.cell? ⟨0, 10, none⟩ = some (.bool false) ∧ w.cell? ⟨0, 11, none⟩ = some (.bool false) :=
  ⟨h 8 (by decide), h 9 (by decide), h 10 (by decide), h 11 (by decide)⟩
theorem tab3 {w : World} (h : Tab w) : w.cell? ⟨0, 12, none⟩ = some (.bool true) ∧ w.cell? ⟨0, 13, none⟩ = some (.bool false) ∧ w.cell? ⟨0, 14, none⟩ = some (.bool false) ∧ w.cell? ⟨0, 15, none⟩ = some (.bool false) :=
  ⟨h 12 (by decide), h 13 (by decide), h 14 (by decide), h 15 (by decide)⟩
theorem tab4 {w : World} (h : Tab w) : w.cell? ⟨0, 16, none⟩ = some (.bool true) ∧ w.cell? ⟨0, 17, none⟩ = some (.bool true) ∧ w.cell? ⟨0, 18, none⟩ = some (.bool false) ∧ w.cell? ⟨0, 19, none⟩ = some (.bool false) :=
  ⟨h 16 (by decide), h 17 (by decide), h 18 (by decide), h 19 (by decide)⟩
theorem tab5 {w : World} (h : Tab w) : w.cell? ⟨0, 20, none⟩ = some (.bool false) ∧ w.cell? ⟨0, 21, none⟩ = some (.bool false) ∧ w.cell? ⟨0, 22, none⟩ = some (.bool false) ∧ w.cell? ⟨0, 23, none⟩ = some (.bool true) :=
  ⟨h 20 (by decide), h 21 (by decide), h 22 (by decide), h 23 (by decide)⟩
theorem two_boxes (w : World) (A B : List Value) (tA tB : TypeId) : ((w.alloc (.cells A.toArray tA)).alloc (.cells B.toArray tB)).heap[w.heap.size]? = some (.cells A.toArray tA (0, 0)) ∧ ((w.alloc (.cells A.toArray tA)).alloc (.cells B.toArray tB)).heap[w.heap.size + 1]? = some (.cells B.toArray tB (0, 0)) ∧ w.grownBy ((w.alloc (.cells A.toArray tA)).alloc (.cells B.toArray tB)) none := by
  have g2 := World.grownBy_alloc (w.alloc (.cells A.toArray tA)) (.cells B.toArray tB) none
  have b1 := heap_alloc_new w (.cells A.toArray tA)
  refine ⟨(g2.block _ (row_lt b1) (by simp)).trans b1, ?_, grown_trans (World.grownBy_alloc w _ none) g2⟩
  have := heap_alloc_new (w.alloc (.cells A.toArray tA)) (.cells B.toArray tB)
  rwa [World.size_alloc] at this
set_option maxHeartbeats 2000000 in
theorem mayBe_1 (i s u c : Int) (hi : IntKind.i64.wrap i = i) (w : World) (hT : Tab w) : Calls Tryz.prog 63 #[rcV ⟨1, i, s, u, c⟩] w fun e w' => e = .returned (.bool (mayB ⟨1, i, s, u, c⟩)) ∧ w.grownBy w' none := by
  have hm : mayB ⟨1, i, s, u, c⟩ = (isR true i 1 4294967295 && (isR true s 0 1023 && (isR true u 1 1099511627776 && isR false c 1 1099511627776))) := rfl
  rw [hm]
  clear hm
  have q1 := isRight_any true i 1 4294967295
  have q2 := isRight_any true s 0 1023
  have q3 := isRight_any true u 1 1099511627776
  have q4 := isRight_any false c 1 1099511627776
  generalize isR true i 1 4294967295 = b1 at *
  generalize isR true s 0 1023 = b2 at *
  generalize isR true u 1 1099511627776 = b3 at *
  generalize isR false c 1 1099511627776 = b4 at *
  unfold rcV
  obtain ⟨c0, c1, c2, c3, c4⟩ := box5 (heap_alloc_new w (.cells [Value.int .i64 1, .int .u32 i, .int .i64 s, .int .i64 u, .int .i64 c].toArray 28))
  obtain ⟨t0, t1, t2, t3⟩ := tab1 (hT.new (World.grownBy_alloc w (.cells [Value.int .i64 1, .int .u32 i, .int .i64 s, .int .i64 u, .int .i64 c].toArray 28) none))
  obtain ⟨ba, bb, bg⟩ := two_boxes w [Value.int .i64 1, .int .u32 i, .int .i64 s, .int .i64 u, .int .i64 c] [Value.bool true, .bool true, .bool true, .bool false] 28 126
  obtain ⟨d0, d1, d2, d3, d4⟩ := box5 ba
  obtain ⟨f0, f1, f2, f3⟩ := box4 bb
  have HG := hide bg
  clear ba bb bg hT
  go_enter Tryz.func63, Tryz.ntmps63
  go_wp2_with fail
  clear c0 c1 c2 c3 c4 t0 t1 t2 t3
  generalize (w.alloc (.cells #[.int .i64 1, .int .u32 i, .int .i64 s, .int .i64 u, .int .i64 c] 28)).alloc (.cells #[.bool true, .bool true, .bool true, .bool false] 126) = w2 at *
  refine (q1 w2).mono ?_
  rintro e w3 ⟨rfl, hw⟩
  obtain rfl := hw.symm
  clear hw
  cases b1 with
  | false =>
    go_wp2
    go_ret
    exact ⟨rfl, HG.out⟩
  | true =>
    go_wp2_with fail
    refine (q2 w2).mono ?_
    rintro e w3 ⟨rfl, hw⟩
    obtain rfl := hw.symm
    clear hw
    cases b2 with
    | false =>
      go_wp2
      go_ret
      exact ⟨rfl, HG.out⟩
    | true =>
      go_wp2_with fail
      refine (q3 w2).mono ?_
      rintro e w3 ⟨rfl, hw⟩
      obtain rfl := hw.symm
      clear hw
      cases b3 with
      | false =>
        go_wp2
        go_ret
        exact ⟨rfl, HG.out⟩
      | true =>
        go_wp2_with fail
        refine (q4 w2).mono ?_
        rintro e w3 ⟨rfl, hw⟩
        obtain rfl := hw.symm
        clear hw
        cases b4 <;>
        · go_wp2
          go_ret
          exact ⟨rfl, HG.out⟩
set_option maxHeartbeats 2000000 in
theorem mayBe_2 (i s u c : Int) (hi : IntKind.i64.wrap i = i) (w : World) (hT : Tab w) : Calls Tryz.prog 63 #[rcV ⟨2, i, s, u, c⟩] w fun e w' => e = .returned (.bool (mayB ⟨2, i, s, u, c⟩)) ∧ w.grownBy w' none := by
  have hm : mayB ⟨2, i, s, u, c⟩ = (isR true i 1 4294967295 && (isR false s 0 1023 && (isR false u 1 1099511627776 && isR false c 1 1099511627776))) := rfl
  rw [hm]
  clear hm
  have q1 := isRight_any true i 1 4294967295
  have q2 := isRight_any false s 0 1023
  have q3 := isRight_any false u 1 1099511627776
  have q4 := isRight_any false c 1 1099511627776
  generalize isR true i 1 4294967295 = b1 at *
  generalize isR false s 0 1023 = b2 at *
  generalize isR false u 1 1099511627776 = b3 at *
  generalize isR false c 1 1099511627776 = b4 at *
  unfold rcV
  obtain ⟨c0, c1, c2, c3, c4⟩ := box5 (heap_alloc_new w (.cells [Value.int .i64 2, .int .u32 i, .int .i64 s, .int .i64 u, .int .i64 c].toArray 28))
  obtain ⟨t0, t1, t2, t3⟩ := tab2 (hT.new (World.grownBy_alloc w (.cells [Value.int .i64 2, .int .u32 i, .int .i64 s, .int .i64 u, .int .i64 c].toArray 28) none))
  obtain ⟨ba, bb, bg⟩ := two_boxes w [Value.int .i64 2, .int .u32 i, .int .i64 s, .int .i64 u, .int .i64 c] [Value.bool true, .bool false, .bool false, .bool false] 28 126
  obtain ⟨d0, d1, d2, d3, d4⟩ := box5 ba
  obtain ⟨f0, f1, f2, f3⟩ := box4 bb
  have HG := hide bg
  clear ba bb bg hT
  go_enter Tryz.func63, Tryz.ntmps63
  go_wp2_with fail
  clear c0 c1 c2 c3 c4 t0 t1 t2 t3
  generalize (w.alloc (.cells #[.int .i64 2, .int .u32 i, .int .i64 s, .int .i64 u, .int .i64 c] 28)).alloc (.cells #[.bool true, .bool false, .bool false, .bool false] 126) = w2 at *
  refine (q1 w2).mono ?_
  rintro e w3 ⟨rfl, hw⟩
  obtain rfl := hw.symm
  clear hw
  cases b1 with
  | false =>
    go_wp2
    go_ret
    exact ⟨rfl, HG.out⟩
  | true =>
    go_wp2_with fail
    refine (q2 w2).mono ?_
    rintro e w3 ⟨rfl, hw⟩
    obtain rfl := hw.symm
    clear hw
    cases b2 with
    | false =>
      go_wp2
      go_ret
      exact ⟨rfl, HG.out⟩
    | true =>
      go_wp2_with fail
      refine (q3 w2).mono ?_
      rintro e w3 ⟨rfl, hw⟩
      obtain rfl := hw.symm
      clear hw
      cases b3 with
      | false =>
        go_wp2
        go_ret
        exact ⟨rfl, HG.out⟩
      | true =>
        go_wp2_with fail
        refine (q4 w2).mono ?_
        rintro e w3 ⟨rfl, hw⟩
        obtain rfl := hw.symm
        clear hw
        cases b4 <;>
        · go_wp2
          go_ret
          exact ⟨rfl, HG.out⟩
set_option maxHeartbeats 2000000 in
theorem mayBe_3 (i s u c : Int) (hi : IntKind.i64.wrap i = i) (w : World) (hT : Tab w) : Calls Tryz.prog 63 #[rcV ⟨3, i, s, u, c⟩] w fun e w' => e = .returned (.bool (mayB ⟨3, i, s, u, c⟩)) ∧ w.grownBy w' none := by
  have hm : mayB ⟨3, i, s, u, c⟩ = (isR true i 1 4294967295 && (isR false s 0 1023 && (isR false u 1 1099511627776 && isR false c 1 1099511627776))) := rfl
  rw [hm]
  clear hm
  have q1 := isRight_any true i 1 4294967295
  have q2 := isRight_any false s 0 1023
  have q3 := isRight_any false u 1 1099511627776
  have q4 := isRight_any false c 1 1099511627776
  generalize isR true i 1 4294967295 = b1 at *
  generalize isR false s 0 1023 = b2 at *
  generalize isR false u 1 1099511627776 = b3 at *
  generalize isR false c 1 1099511627776 = b4 at *
  unfold rcV
  obtain ⟨c0, c1, c2, c3, c4⟩ := box5 (heap_alloc_new w (.cells [Value.int .i64 3, .int .u32 i, .int .i64 s, .int .i64 u, .int .i64 c].toArray 28))
  obtain ⟨t0, t1, t2, t3⟩ := tab3 (hT.new (World.grownBy_alloc w (.cells [Value.int .i64 3, .int .u32 i, .int .i64 s, .int .i64 u, .int .i64 c].toArray 28) none))
  obtain ⟨ba, bb, bg⟩ := two_boxes w [Value.int .i64 3, .int .u32 i, .int .i64 s, .int .i64 u, .int .i64 c] [Value.bool true, .bool false, .bool false, .bool false] 28 126
  obtain ⟨d0, d1, d2, d3, d4⟩ := box5 ba
  obtain ⟨f0, f1, f2, f3⟩ := box4 bb
  have HG := hide bg
  clear ba bb bg hT
  go_enter Tryz.func63, Tryz.ntmps63
  go_wp2_with fail
  clear c0 c1 c2 c3 c4 t0 t1 t2 t3
  generalize (w.alloc (.cells #[.int .i64 3, .int .u32 i, .int .i64 s, .int .i64 u, .int .i64 c] 28)).alloc (.cells #[.bool true, .bool false, .bool false, .bool false] 126) = w2 at *
  refine (q1 w2).mono ?_
  rintro e w3 ⟨rfl, hw⟩
  obtain rfl := hw.symm
  clear hw
  cases b1 with
  | false =>
    go_wp2
    go_ret
    exact ⟨rfl, HG.out⟩
  | true =>
    go_wp2_with fail
    refine (q2 w2).mono ?_
    rintro e w3 ⟨rfl, hw⟩
    obtain rfl := hw.symm
    clear hw
    cases b2 with
    | false =>
      go_wp2
      go_ret
      exact ⟨rfl, HG.out⟩
    | true =>
      go_wp2_with fail
      refine (q3 w2).mono ?_
      rintro e w3 ⟨rfl, hw⟩
      obtain rfl := hw.symm
      clear hw
      cases b3 with
      | false =>
        go_wp2
        go_ret
        exact ⟨rfl, HG.out⟩
      | true =>
        go_wp2_with fail
        refine (q4 w2).mono ?_
        rintro e w3 ⟨rfl, hw⟩
        obtain rfl := hw.symm
        clear hw
        cases b4 <;>
        · go_wp2
          go_ret
          exact ⟨rfl, HG.out⟩
set_option maxHeartbeats 2000000 in
theorem mayBe_4 (i s u c : Int) (hi : IntKind.i64.wrap i = i) (w : World) (hT : Tab w) : Calls Tryz.prog 63 #[rcV ⟨4, i, s, u, c⟩] w fun e w' => e = .returned (.bool (mayB ⟨4, i, s, u, c⟩)) ∧ w.grownBy w' none := by
  have hm : mayB ⟨4, i, s, u, c⟩ = (isR true i 1 4294967295 && (isR true s 0 1023 && (isR false u 1 1099511627776 && isR false c 1 1099511627776))) := rfl
  rw [hm]
  clear hm
  have q1 := isRight_any true i 1 4294967295
  have q2 := isRight_any true s 0 1023
  have q3 := isRight_any false u 1 1099511627776
  have q4 := isRight_any false c 1 1099511627776
  generalize isR true i 1 4294967295 = b1 at *
  generalize isR true s 0 1023 = b2 at *
  generalize isR false u 1 1099511627776 = b3 at *
  generalize isR false c 1 1099511627776 = b4 at *
  unfold rcV
  obtain ⟨c0, c1, c2, c3, c4⟩ := box5 (heap_alloc_new w (.cells [Value.int .i64 4, .int .u32 i, .int .i64 s, .int .i64 u, .int .i64 c].toArray 28))
  obtain ⟨t0, t1, t2, t3⟩ := tab4 (hT.new (World.grownBy_alloc w (.cells [Value.int .i64 4, .int .u32 i, .int .i64 s, .int .i64 u, .int .i64 c].toArray 28) none))
  obtain ⟨ba, bb, bg⟩ := two_boxes w [Value.int .i64 4, .int .u32 i, .int .i64 s, .int .i64 u, .int .i64 c] [Value.bool true, .bool true, .bool false, .bool false] 28 126
  obtain ⟨d0, d1, d2, d3, d4⟩ := box5 ba
  obtain ⟨f0, f1, f2, f3⟩ := box4 bb
  have HG := hide bg
  clear ba bb bg hT
  go_enter Tryz.func63, Tryz.ntmps63
  go_wp2_with fail
  clear c0 c1 c2 c3 c4 t0 t1 t2 t3
  generalize (w.alloc (.cells #[.int .i64 4, .int .u32 i, .int .i64 s, .int .i64 u, .int .i64 c] 28)).alloc (.cells #[.bool true, .bool true, .bool false, .bool false] 126) = w2 at *
  refine (q1 w2).mono ?_
  rintro e w3 ⟨rfl, hw⟩
  obtain rfl := hw.symm
  clear hw
  cases b1 with
  | false =>
    go_wp2
    go_ret
    exact ⟨rfl, HG.out⟩
  | true =>
    go_wp2_with fail
    refine (q2 w2).mono ?_
    rintro e w3 ⟨rfl, hw⟩
    obtain rfl := hw.symm
    clear hw
    cases b2 with
    | false =>
      go_wp2
      go_ret
      exact ⟨rfl, HG.out⟩
    | true =>
      go_wp2_with fail
      refine (q3 w2).mono ?_
      rintro e w3 ⟨rfl, hw⟩
      obtain rfl := hw.symm
      clear hw
      cases b3 with
      | false =>
        go_wp2
        go_ret
        exact ⟨rfl, HG.out⟩
      | true =>
        go_wp2_with fail
        refine (q4 w2).mono ?_
        rintro e w3 ⟨rfl, hw⟩
        obtain rfl := hw.symm
        clear hw
        cases b4 <;>
        · go_wp2
          go_ret
          exact ⟨rfl, HG.out⟩
set_option maxHeartbeats 2000000 in
theorem mayBe_5 (i s u c : Int) (hi : IntKind.i64.wrap i = i) (w : World) (hT : Tab w) : Calls Tryz.prog 63 #[rcV ⟨5, i, s, u, c⟩] w fun e w' => e = .returned (.bool (mayB ⟨5, i, s, u, c⟩)) ∧ w.grownBy w' none := by
  have hm : mayB ⟨5, i, s, u, c⟩ = (isR false i 1 4294967295 && (isR false s 0 1023 && (isR false u 1 1099511627776 && isR true c 1 1099511627776))) := rfl
  rw [hm]
  clear hm
  have q1 := isRight_any false i 1 4294967295
  have q2 := isRight_any false s 0 1023
  have q3 := isRight_any false u 1 1099511627776
  have q4 := isRight_any true c 1 1099511627776
  generalize isR false i 1 4294967295 = b1 at *
  generalize isR false s 0 1023 = b2 at *
  generalize isR false u 1 1099511627776 = b3 at *
  generalize isR true c 1 1099511627776 = b4 at *
  unfold rcV
  obtain ⟨c0, c1, c2, c3, c4⟩ := box5 (heap_alloc_new w (.cells [Value.int .i64 5, .int .u32 i, .int .i64 s, .int .i64 u, .int .i64 c].toArray 28))
  obtain ⟨t0, t1, t2, t3⟩ := tab5 (hT.new (World.grownBy_alloc w (.cells [Value.int .i64 5, .int .u32 i, .int .i64 s, .int .i64 u, .int .i64 c].toArray 28) none))
  obtain ⟨ba, bb, bg⟩ := two_boxes w [Value.int .i64 5, .int .u32 i, .int .i64 s, .int .i64 u, .int .i64 c] [Value.bool false, .bool false, .bool false, .bool true] 28 126
  obtain ⟨d0, d1, d2, d3, d4⟩ := box5 ba
  obtain ⟨f0, f1, f2, f3⟩ := box4 bb
  have HG := hide bg
  clear ba bb bg hT
  go_enter Tryz.func63, Tryz.ntmps63
  go_wp2_with fail
  clear c0 c1 c2 c3 c4 t0 t1 t2 t3
  generalize (w.alloc (.cells #[.int .i64 5, .int .u32 i, .int .i64 s, .int .i64 u, .int .i64 c] 28)).alloc (.cells #[.bool false, .bool false, .bool false, .bool true] 126) = w2 at *
  refine (q1 w2).mono ?_
  rintro e w3 ⟨rfl, hw⟩
  obtain rfl := hw.symm
  clear hw
  cases b1 with
  | false =>
    go_wp2
    go_ret
    exact ⟨rfl, HG.out⟩
  | true =>
    go_wp2_with fail
    refine (q2 w2).mono ?_
    rintro e w3 ⟨rfl, hw⟩
    obtain rfl := hw.symm
    clear hw
    cases b2 with
    | false =>
      go_wp2
      go_ret
      exact ⟨rfl, HG.out⟩
    | true =>
      go_wp2_with fail
      refine (q3 w2).mono ?_
      rintro e w3 ⟨rfl, hw⟩
      obtain rfl := hw.symm
      clear hw
      cases b3 with
      | false =>
        go_wp2
        go_ret
        exact ⟨rfl, HG.out⟩
      | true =>
        go_wp2_with fail
        refine (q4 w2).mono ?_
        rintro e w3 ⟨rfl, hw⟩
        obtain rfl := hw.symm
        clear hw
        cases b4 <;>
        · go_wp2
          go_ret
          exact ⟨rfl, HG.out⟩
theorem wrap_id {r : Rc} (ho : r.Ok) : IntKind.i64.wrap r.i = r.i := by rw [IntKind.wrap_i64]; have := ho.i0; have := ho.i1; omega
theorem mayBe_any (r : Rc) (ho : r.Ok) (hk : 1 ≤ r.k ∧ r.k ≤ 5) (w : World) (hT : Tab w) : Calls Tryz.prog 63 #[rcV r] w fun e w' => e = .returned (.bool (decide r.May)) ∧ w.grownBy w' none := by
  rw [← mayB_may ho hk]
  have hi := wrap_id ho
  obtain ⟨k, i, s, u, c⟩ := r
  dsimp only at hk hi
  have hk5 : k = 1 ∨ k = 2 ∨ k = 3 ∨ k = 4 ∨ k = 5 := by omega
  rcases hk5 with rfl | rfl | rfl | rfl | rfl
  · exact mayBe_1 i s u c hi w hT
  · exact mayBe_2 i s u c hi w hT
  · exact mayBe_3 i s u c hi w hT
  · exact mayBe_4 i s u c hi w hT
  · exact mayBe_5 i s u c hi w hT
theorem may_not_kind {r : Rc} (h : ¬ (1 ≤ r.k ∧ r.k ≤ 5)) : ¬ r.May := fun hm => by have := may_kind hm; omega
/-- Check. -/
def chk (r : Rc) : Int := if r.May then 0 else 160
theorem check_any (r : Rc) (ho : r.Ok) (w : World) (hT : Tab w) : Calls Tryz.prog 23 #[rcV r] w fun e w' => e = .returned (.int .i64 (chk r)) ∧ w.grownBy w' none := by
  have b1 := heap_alloc_new w (.cells (rcC r).toArray 28)
  have g1 := World.grownBy_alloc w (.cells (rcC r).toArray 28) none
  have T1 := hide (hT.new g1)
  have K := hide ho
  have G := hide g1
  obtain ⟨c0, c1, c2, c3, c4⟩ := box5 b1
  clear hT b1 g1 ho
  unfold rcV
  by_cases hk : 1 ≤ r.k ∧ r.k ≤ 5
  · have q := isKind_any r.k (w.alloc (.cells (rcC r).toArray 28))
    rw [decide_eq_true hk] at q
    have q2 := mayBe_any r K.out hk _ T1.out
    unfold rcV at q2
    by_cases hm : r.May
    · rw [decide_eq_true hm] at q2
      rw [show chk r = 0 from if_pos hm]
      unfold rcC at *
      clear hk hm
      go_enter Tryz.func23, Tryz.ntmps23
      go_wp2_with fail
      refine q.mono ?_
      rintro e w3 ⟨rfl, hw⟩
      obtain rfl := hw.symm
      clear hw q
      go_wp2_with fail
      refine q2.mono ?_
      rintro e w3 ⟨rfl, hg⟩
      have HG := hide (grown_trans G.out hg)
      clear hg q2
      go_wp2
      go_ret
      exact ⟨rfl, HG.out⟩
    · rw [decide_eq_false hm] at q2
      rw [show chk r = 160 from if_neg hm]
      unfold rcC at *
      clear hk hm
      go_enter Tryz.func23, Tryz.ntmps23
      go_wp2_with fail
      refine q.mono ?_
      rintro e w3 ⟨rfl, hw⟩
      obtain rfl := hw.symm
      clear hw q
      go_wp2_with fail
      refine q2.mono ?_
      rintro e w3 ⟨rfl, hg⟩
      have HG := hide (grown_trans G.out hg)
      clear hg q2
      go_wp2
      go_ret
      exact ⟨rfl, HG.out⟩
  · have q := isKind_any r.k (w.alloc (.cells (rcC r).toArray 28))
    rw [decide_eq_false hk] at q
    rw [show chk r = 160 from if_neg (may_not_kind hk)]
    unfold rcC at *
    clear hk
    go_enter Tryz.func23, Tryz.ntmps23
    go_wp2_with fail
    refine q.mono ?_
    rintro e w3 ⟨rfl, hw⟩
    obtain rfl := hw.symm
    clear hw q
    go_wp2
    go_ret
    exact ⟨rfl, G.out⟩
end Go.Proofs.YtjfhilignbeboaaGreatDoor.Rk
/- Items move up; Drop. -/
namespace Go.Proofs.YtjfhilignbeboaaGreatDoor.Ix
open Go.RowKit
attribute [local go_sem ↓] Go.wp_at_zero Go.wp_at_succ
section
variable {w w' : World} {x g n m c st : Nat} {S : List (Option (Nat × Int))} {M : List (Nat × Int)}
set_option maxRecDepth 20000 in
set_option maxHeartbeats 4000000 in
theorem takeOut_at (h : IxR w x g n m c st S) {g0 F : Nat} (hT : TO (hs n) n S M g0 F g0 (bh n g0)) (hA : Asc M) (hf : 2 * M.length ≤ n) (hid : ∀ y ∈ M, y.1 < 4294967296) (hst : st ≤ 20000) :
    Calls Tryz.prog 173 #[.pointer (some ⟨x, 0, none⟩), .int .i64 (g0 : Int)] w fun e w' => ∃ S', e = .returned (.tuple #[]) ∧ Inv (hs n) n S' M ∧ IxR w' x g n m c (st + wy n g0 F) S' ∧ Kept w w' (fun i => i = x ∨ i = g) := by
  have hb0 := behind_at h g0 hT.g0n
  have HH := hide (And.intro h (And.intro hT (And.intro hA (And.intro hf hid))))
  have hn8 := h.most
  have hb1 : wy n g0 (bh n g0) = 1 := by
    have h1 : wy n g0 g0 < wy n g0 F := by have := hT.ga; have := hT.aF; omega
    rw [wy_bh hT.g0n hT.g0n hT.Fn h1, wy_self]
  have HB1 := hide hb1
  clear h hT hA hf hid hb1
  generalize hbb : bh n g0 = b0 at *
  clear hbb
  go_enter Tryz.func173, Tryz.ntmps173
  go_wp2_with fail
  refine hb0.mono ?_
  clear hb0
  rintro e w1 ⟨rfl, hw1⟩
  obtain rfl := hw1.symm
  go_wp2
  go_loopg [1, 4] (wy n g0 F - 1) (fun q v1 v4 wr => ∃ gp a : Nat, v1 = .int .i64 (gp : Int) ∧ v4 = .int .i64 (a : Int) ∧ Hid (∃ S' s, TO (hs n) n S' M g0 F gp a ∧ IxR wr x g n m c s S' ∧ s + 1 = st + wy n g0 a ∧ q = wy n g0 F - wy n g0 a ∧ Kept w wr (fun i => i = x ∨ i = g)))
  case atStart => exact ⟨g0, b0, rfl, rfl, S, st, HH.out.2.1, HH.out.1, by rw [HB1.out], by rw [HB1.out], Kept.refl _ _⟩
  case round =>
    obtain ⟨gp, a, rfl, rfl, S', s, hT, hI, hs1, hq, hK⟩ := hrel
    obtain ⟨-, -, -, c3, c4⟩ := hI.cells
    have han := hT.an
    have hgn := hT.gn
    have hlF := wy_lt hT.g0n hT.Fn
    have hla := hT.aF
    obtain ⟨d0, d1, d2⟩ := hI.slot han
    cases hy : sl S' a with
    | none =>
      rw [hy] at d0
      simp only [Option.isSome] at d0
      obtain ⟨haF, hInv⟩ := hT.done HH.out.2.2.1 HH.out.2.2.2.1 hy
      have hs9 : s ≤ 40000 := by omega
      have hwr : IntKind.i64.wrap ((s : Int) + 1) = ((s + 1 : Nat) : Int) := by rw [IntKind.wrap_i64]; omega
      have f3 := free_row hI.head 3
      have hI2 := hI.step (s + 1)
      have k2 := hK.trans (kept_setCell wr x 3 (.int .i64 ((s + 1 : Nat) : Int))) (fun i _ e => .inl e)
      obtain ⟨-, -, -, -, t4⟩ := hI2.cells
      obtain ⟨t0, t1, t2⟩ := hI2.slot hgn
      have fz : ∀ j, (wr.setCell ⟨x, 3, none⟩ (.int .i64 ((s + 1 : Nat) : Int))).frozen? ⟨g, j, none⟩ = false := fun j => free_row hI2.row j
      obtain ⟨r1, r2⟩ := hI2.put hgn none
      have HR : Hid (∀ W, (((wr.setCell ⟨x, 3, none⟩ (.int .i64 ((s + 1 : Nat) : Int))).setCell ⟨g, gp * 3, none⟩ (.bool false)).setCell ⟨g, gp * 3 + 1, none⟩ (.int .u32 0)).setCell ⟨g, gp * 3 + 2, none⟩ (.int .i64 0) = W → ∃ S'', Inv (hs n) n S'' M ∧ IxR W x g n m c (st + wy n g0 F) S'' ∧ Kept w W (fun i => i = x ∨ i = g)) := by
        rintro W rfl
        refine ⟨S'.set gp none, hInv, ?_, k2.trans r2 (fun i _ e => .inr e)⟩
        rw [show st + wy n g0 F = s + 1 by rw [hs1, haF]]
        exact r1
      clear hT hI hI2 hK hy hq r1 r2 k2 hInv haF hs1 d1 d2 hlF hla
      generalize hW1 : wr.setCell ⟨x, 3, none⟩ (.int .i64 ((s + 1 : Nat) : Int)) = W1 at *
      generalize ((s + 1 : Nat) : Int) = s1 at *
      go_wp2
      go_end0
      obtain ⟨S'', h1, h2, h3⟩ := HR.out _ rfl
      exact ⟨S'', rfl, h1, h2, h3⟩
    | some y =>
      rw [hy] at d0 d1
      simp only [Option.isSome] at d0
      rw [show idN (some y) = y.1 from rfl] at d1
      have hs9 : s ≤ 40000 := by omega
      have hag : a ≠ gp := fun e => by have := hT.ga; rw [e] at this; omega
      have hyM : y ∈ M := (hT.mem y).2 ⟨a, hag, hy⟩
      have hy9 := HH.out.2.2.2.2 y hyM
      have hltF := hT.lt hy
      have hbh := wy_bh hT.g0n hT.an hT.Fn hltF
      have hwr : IntKind.i64.wrap ((s : Int) + 1) = ((s + 1 : Nat) : Int) := by rw [IntKind.wrap_i64]; omega
      have f3 := free_row hI.head 3
      have hI2 := hI.step (s + 1)
      have k2 := hK.trans (kept_setCell wr x 3 (.int .i64 ((s + 1 : Nat) : Int))) (fun i _ e => .inl e)
      obtain ⟨-, -, -, -, t4⟩ := hI2.cells
      obtain ⟨t0, t1, t2⟩ := hI2.slot han
      rw [hy] at t0 t1 t2
      rw [show idN (some y) = y.1 from rfl] at t1
      rw [show vlN (some y) = y.2 from rfl] at t2
      have hhm := home_at hI2 y.1 hy9
      have hhl := hs_lt hI2.pos y.1
      have HI2 := hide (And.intro hI2 (And.intro k2 (And.intro hT (And.intro hy (And.intro hs1 (And.intro hq (And.intro hbh hltF)))))))
      clear hT hI hI2 hK hy hq k2 hs1 d2 hlF hla hbh hltF
      have hgp1 : hs n y.1 = hs n y.1 := rfl
      obtain ⟨hm, hhm1⟩ : ∃ hm, hm = hs n y.1 := ⟨_, rfl⟩
      rw [← hhm1] at hhm hhl
      have HHM := hide hhm1
      clear hhm1 hgp1
      generalize hW1 : wr.setCell ⟨x, 3, none⟩ (.int .i64 ((s + 1 : Nat) : Int)) = W1 at *
      generalize hs1e : ((s + 1 : Nat) : Int) = s1 at *
      have HW1 := hide (And.intro hW1 hs1e)
      clear hs1e
      obtain ⟨y1, hy1⟩ : ∃ y1, y1 = y.1 := ⟨_, rfl⟩
      obtain ⟨y2, hy2⟩ : ∃ y2, y2 = y.2 := ⟨_, rfl⟩
      rw [← hy1] at d1 t1 hy9 hhm
      rw [← hy2] at t2
      have HY := hide (And.intro hy1 hy2)
      clear hy1 hy2
      go_wp2_with fail
      refine hhm.mono ?_
      clear hhm
      rintro e w2 ⟨rfl, hg2⟩
      have hJ2 := HI2.out.1.then hg2
      have K2 := hide (And.intro hJ2 (HI2.out.2.1.trans (Kept.new hg2 (fun i => i = x ∨ i = g)) (fun _ _ e => e)))
      have hw1 := way_at hJ2 hm a hhl han
      clear hg2 hJ2
      go_wp2_with fail
      refine hw1.mono ?_
      clear hw1
      rintro e w3 ⟨rfl, hg3⟩
      have hJ3 := K2.out.1.then hg3
      have K3 := hide (And.intro hJ3 (K2.out.2.trans (Kept.new hg3 (fun i => i = x ∨ i = g)) (fun _ _ e => e)))
      have hw2 := way_at hJ3 gp a hgn han
      clear hg3 hJ3 K2
      go_wp2_with fail
      refine hw2.mono ?_
      clear hw2
      rintro e w4 ⟨rfl, hg4⟩
      have hJ4 := K3.out.1.then hg4
      have K4 := hide (And.intro hJ4 (K3.out.2.trans (Kept.new hg4 (fun i => i = x ∨ i = g)) (fun _ _ e => e)))
      clear hg4 K3
      obtain ⟨-, -, -, -, v4⟩ := hJ4.cells
      obtain ⟨v0, v1, v2⟩ := hJ4.slot han
      obtain ⟨u0, u1, u2⟩ := hJ4.slot hgn
      have fz : ∀ j, w4.frozen? ⟨g, j, none⟩ = false := fun j => free_row hJ4.row j
      rw [HI2.out.2.2.2.1] at v0 v1 v2
      rw [show idN (some y) = y.1 from rfl, ← HY.out.1] at v1
      rw [show vlN (some y) = y.2 from rfl, ← HY.out.2] at v2
      simp only [Option.isSome] at v0
      clear hJ4 t0 t1 t2 t4
      by_cases hge : wy n gp a ≤ wy n hm a
      · have hge' : ((wy n gp a : Int) ≤ (wy n hm a : Int)) = True := by simp; omega
        have HG := hide (HI2.out.2.2.1.move HI2.out.2.2.2.1 (by rw [← HHM.out]; exact hge))
        clear hge
        generalize wy n gp a = p1 at *
        generalize wy n hm a = p2 at *
        go_wp2
        have hput := K4.out.1.put hgn (some y)
        rw [show idN (some y) = y.1 from rfl, show vlN (some y) = y.2 from rfl, ← HY.out.1, ← HY.out.2] at hput
        simp only [Option.isSome] at hput
        have HP := hide hput
        clear hput
        go_region
        generalize hw5 : ((w4.setCell ⟨g, gp * 3, none⟩ (.bool true)).setCell ⟨g, gp * 3 + 1, none⟩ (.int .u32 (y1 : Int))).setCell ⟨g, gp * 3 + 2, none⟩ (.int .i64 y2) = w5
        rw [hw5] at HP
        generalize hw6 : w5.drew = w6
        have g6 : w5.grownBy w6 none := by rw [← hw6]; exact grown_drew _ _
        have hJ6 := HP.out.1.then g6
        have K6 := hide (And.intro hJ6 ((K4.out.2.trans HP.out.2 (fun i _ e => .inr e)).trans (Kept.new g6 (fun i => i = x ∨ i = g)) (fun _ _ e => e)))
        have hbe := behind_at hJ6 a han
        clear hw5 hw6 g6 hJ6 HP v0 v1 v2 v4 u0 u1 u2 fz
        go_wp2_with fail
        refine hbe.mono ?_
        clear hbe
        rintro e w7 ⟨rfl, hw7⟩
        obtain rfl := hw7.symm
        go_wp2
        go_roundg (gk - 1)
        case rel => exact ⟨a, bh n a, rfl, rfl, S'.set gp (some y), s + 1, HG.out, K6.out.1, by have h1 := HI2.out.2.2.2.2.2.2.1; have h2 := HI2.out.2.2.2.2.1; omega, by have h1 := HI2.out.2.2.2.2.2.2.1; have h2 := HI2.out.2.2.2.2.2.1; omega, K6.out.2⟩
        case measure => have h1 := HI2.out.2.2.2.2.2.2.2; have h2 := HI2.out.2.2.2.2.2.1; omega
      · have hge' : ((wy n gp a : Int) ≤ (wy n hm a : Int)) = False := by simp; omega
        have HG := hide (HI2.out.2.2.1.pass HI2.out.2.2.2.1 (by rw [← HHM.out]; exact hge))
        clear hge
        have hbe := behind_at K4.out.1 a han
        generalize wy n gp a = p1 at *
        generalize wy n hm a = p2 at *
        go_wp2_with fail
        refine hbe.mono ?_
        clear hbe
        rintro e w7 ⟨rfl, hw7⟩
        obtain rfl := hw7.symm
        go_wp2
        go_roundg (gk - 1)
        case rel => exact ⟨gp, bh n a, rfl, rfl, S', s + 1, HG.out, K4.out.1, by have h1 := HI2.out.2.2.2.2.2.2.1; have h2 := HI2.out.2.2.2.2.1; omega, by have h1 := HI2.out.2.2.2.2.2.2.1; have h2 := HI2.out.2.2.2.2.2.1; omega, K4.out.2⟩
        case measure => have h1 := HI2.out.2.2.2.2.2.2.2; have h2 := HI2.out.2.2.2.2.2.1; omega
end
set_option maxRecDepth 20000 in
theorem drop_io {w : World} {p : Ip} {M : List (Nat × Int)} {lo : Bool} (h : Io w p M lo) (k : Nat) (hk : k < 4294967296) :
    Calls Tryz.prog 157 #[.pointer (some ⟨p.x, 0, none⟩), .int .u32 (k : Int)] w fun e w' => e = .returned (.bool (lk M k).isSome) ∧ Io w' p (dr M k) true ∧ Kept w w' p.own := by
  have hf := h.find k hk
  have HA := hide h.asc
  clear h
  obtain ⟨b, hb⟩ : ∃ b, (lk M k).isSome = b := ⟨_, rfl⟩
  obtain ⟨hy, hn⟩ := lk_val HA.out hb
  rw [hb] at hf ⊢
  cases b with
  | false =>
    have hn0 := hn rfl
    rw [dr_none hn0]
    clear hy hn hn0
    go_enter Tryz.func157, Tryz.ntmps157
    go_wp2_with fail
    refine hf.mono ?_
    clear hf
    rintro e w1 ⟨q, S, rfl, hF, hI, hK⟩
    have H1 : Hid (Io w1 p M true ∧ Kept w w1 p.own) := ⟨hI.io, hK.mono (fun i _ e => .inl e)⟩
    clear hI hK hF
    go_wp2
    go_ret
    exact ⟨rfl, H1.out⟩
  | true =>
    obtain ⟨u, hu, hm⟩ := hy rfl
    have HV := hide (And.intro hu hm)
    clear hy hn hu hb hm
    go_enter Tryz.func157, Tryz.ntmps157
    go_wp2_with fail
    refine hf.mono ?_
    clear hf
    rintro e w1 ⟨q, S, rfl, hF, hI, hK⟩
    obtain ⟨F, hT, hlt⟩ := TO.start hI.inv hF
    have hlen := dr_length HA.out HV.out.2
    have hq := wy_lt (hI.inv.home k) hF.lt
    have hto := takeOut_at hI.at_ hT (dr_asc HA.out k) (by have := hI.inv.few; omega) (fun y hy => (hI.ids y (dr_mem.1 hy).1).1) (by have := hI.at_.most; omega)
    have HI := hide (And.intro hI (And.intro hK (And.intro hlt hlen)))
    clear hI hK hT hlt hq hlen hF
    go_wp2_with fail
    refine hto.mono ?_
    clear hto
    rintro e w2 ⟨S2, rfl, hInv, hR, hK2⟩
    obtain ⟨-, -, c2, -, -⟩ := hR.cells
    have f2 := free_row hR.head 2
    obtain ⟨c, hc⟩ : ∃ c, c = (dr M k).length := ⟨_, rfl⟩
    have hlen := HI.out.2.2.2
    have hR2 := hR.count c
    have hfull := HI.out.1.full
    have hm2 := HI.out.1.m2
    have hml : M.length = c + 1 := by omega
    rw [hml] at c2 hfull
    have hc9 : c < 4096 := by omega
    have hwr : ((c + 1 : Nat) : Int) - 1 = (c : Int) := by omega
    have H1 : Hid (Io (w2.setCell ⟨p.x, 2, none⟩ (.int .i64 (c : Int))) p (dr M k) true ∧ Kept w (w2.setCell ⟨p.x, 2, none⟩ (.int .i64 (c : Int))) p.own) := by
      refine ⟨⟨_, S2, { at_ := by rw [← hc]; exact hR2, inv := hInv, sz := HI.out.1.sz, m1 := HI.out.1.m1, m2 := HI.out.1.m2, full := by omega, st := by have := HI.out.2.2.1; omega, ids := fun y hy => HI.out.1.ids y (dr_mem.1 hy).1 }, ?_⟩, ((HI.out.2.1.mono (fun i _ e => Or.inl e)).trans hK2 (fun i _ e => e)).trans (kept_setCell w2 p.x 2 _) (fun i _ e => .inl e)⟩
      simp
      omega
    clear hR hK2 hR2 hc hml hlen hInv hfull hm2
    go_wp2
    go_ret
    exact ⟨rfl, H1.out⟩
end Go.Proofs.YtjfhilignbeboaaGreatDoor.Ix
/- A map keyed by ints, as what it answers at each key: plain lemmas, over any program. -/
namespace Go.Proofs.YtjfhilignbeboaaGreatDoor.U
open Go.RowKit Go.Maps Go.MapKept Go.ChangeMaps

/-- An element is held as it is. -/
def valR (v : Value) : Option (DataW Value × List MemPlace) := some (.held v, [])
/-- Block b is a map of at most n entries that answers f. -/
def MapAt (w : World) (P : Program) (k : TypeId) (b n : Nat) (f : Int → Option Value) : Prop :=
  ∃ D : DataW Value, w.ownsMap P k valR b n D ∧ ∀ x, (f x = none → Maps.has D (.int .u32 x) = false) ∧ (∀ v, f x = some v → Maps.has D (.int .u32 x) = true ∧ ∀ z, D.atKey (.int .u32 x) z = .held v)

variable {P : Program} {k : TypeId} {w : World} {b n : Nat} {f : Int → Option Value}
theorem MapAt.lt (h : MapAt w P k b n f) : b < w.heap.size := by obtain ⟨D, h, _⟩ := h; exact h.lt
theorem MapAt.mono (h : MapAt w P k b n f) {n' : Nat} (hn : n ≤ n') : MapAt w P k b n' f := by
  obtain ⟨D, h, hf⟩ := h; exact ⟨D, h.mono hn, hf⟩
theorem MapAt.block (h : MapAt w P k b n f) : ∃ es clock, w.heap[b]? = some (.map es clock) := by
  obtain ⟨D, ⟨es, clock, h, _⟩, _⟩ := h; exact ⟨es, clock, h⟩
theorem MapAt.same (h : MapAt w P k b n f) {w' : World} (hb : w'.heap[b]? = w.heap[b]?) : MapAt w' P k b n f := by
  obtain ⟨D, ⟨es, clock, h1, h2⟩, hf⟩ := h; exact ⟨D, ⟨es, clock, hb.trans h1, h2⟩, hf⟩
theorem MapAt.moved (h : MapAt w P k b n f) {w' : World} {b' : Nat} (hb : w'.heap[b']? = w.heap[b]?) : MapAt w' P k b' n f := by
  obtain ⟨D, ⟨es, clock, h1, h2⟩, hf⟩ := h; exact ⟨D, ⟨es, clock, hb.trans h1, h2⟩, hf⟩
theorem mapAt_made {b : Nat} {clock : Nat} (h : w.heap[b]? = some (.map #[] clock)) : MapAt w P k b 0 (fun _ => none) := by
  refine ⟨.map [], ⟨#[], clock, h, ⟨by simp, stamped_empty _, by simp⟩, Nat.le_refl _, rfl⟩, fun x => ⟨fun _ => rfl, fun v h => by cases h⟩⟩

theorem MapAt.look {t e : TypeId} (h : MapAt w P k b n f) (hk : P.underlying k = some (.int .u32)) (ht : P.underlying t = some (.map k e)) {z : Value} (hz : (zeroValue e).run P w = .ok z w) {x : Int} (hx : (Lit.int .u32 x).wf = true) :
    (Instr.lookup t (.map (some b)) (.int .u32 x) true).run P w = .ok (.tuple #[(f x).getD z, .bool (f x).isSome]) w := by
  obtain ⟨D, hD, hf⟩ := h
  obtain ⟨v, ps, hrun, hv⟩ := hD.look_ok (int_keyed hk) ht hz (zd := .held z) (zp := []) rfl (keyOf_int_mk hk hx)
  rw [hrun]
  cases hfx : f x with
  | none =>
    rw [(hf x).1 hfx]
    rw [atKey_of_not_has ((hf x).1 hfx)] at hv
    simp [valR] at hv
    simp [hv]
  | some u =>
    obtain ⟨h1, h2⟩ := (hf x).2 u hfx
    rw [h1]
    rw [h2] at hv
    simp [valR] at hv
    simp [hv]

theorem lit_ne {x y : Int} (h : x ≠ y) : Lit.int .u32 x ≠ Lit.int .u32 y := fun e => by cases e; exact h rfl

theorem MapAt.store {t e : TypeId} (h : MapAt w P k b n f) (hk : P.underlying k = some (.int .u32)) (ht : P.underlying t = some (.map k e)) (hn : n < maxLen) {x : Int} (hx : (Lit.int .u32 x).wf = true) (val : Value) :
    ∃ w', (Instr.mapUpdate t (.map (some b)) (.int .u32 x) val).run P w = .ok () w' ∧ MapAt w' P k b (n + 1) (fun y => if y = x then some val else f y) ∧ w.grownBy w' (some b) := by
  obtain ⟨D, hD, hf⟩ := h
  obtain ⟨w', hrun, hD', hg⟩ := hD.update (int_keyed hk) ht hn (keyOf_int_mk hk hx) (val := val) (d := .held val) (ps := []) rfl
  refine ⟨w', hrun, ⟨_, hD', fun y => ?_⟩, hg⟩
  have hK : WideAt.IsKeyLit (.int .u32 x) := by trivial
  by_cases hy : y = x
  · subst hy
    refine ⟨fun h => by simp at h, fun v h => ?_⟩
    simp at h
    subst h
    exact ⟨has_put_same hD.isMap hK _, fun z => atKey_put_same hD.isMap hK _ z⟩
  · show ((if y = x then some val else f y) = none → _) ∧ ∀ v, (if y = x then some val else f y) = some v → _
    rw [if_neg hy, has_put_other (lit_ne hy)]
    refine ⟨(hf y).1, fun v h => ⟨((hf y).2 v h).1, fun z => ?_⟩⟩
    rw [atKey_put_other (lit_ne hy)]
    exact ((hf y).2 v h).2 z

open Go.Maps Go.MapKept Go.ChangeMaps in
theorem MapAt.drop {P : Program} {k : TypeId} {w : World} {b n : Nat} {f : Int → Option Value} {t e : TypeId} (h : MapAt w P k b n f) (hk : P.underlying k = some (.int .u32)) (ht : P.underlying t = some (.map k e)) {x : Int} (hx : (Lit.int .u32 x).wf = true) (ty : TypeId) :
    ∃ w', (Builtin.delete_ #[t, k] ty #[.map (some b), .int .u32 x]).run P w = .ok (.tuple #[]) w' ∧ MapAt w' P k b n (fun y => if y = x then none else f y) ∧ w.grownBy w' (some b) := by
  obtain ⟨D, hD, hf⟩ := h
  obtain ⟨w', hrun, hD', hg⟩ := hD.drop (int_keyed hk) ht (keyOf_int_mk hk hx) ty
  refine ⟨w', hrun, ⟨_, hD', fun y => ?_⟩, hg.grown⟩
  by_cases hy : y = x
  · subst hy
    exact ⟨fun _ => has_del_same, fun v h => by simp at h⟩
  · show ((if y = x then none else f y) = none → _) ∧ ∀ v, (if y = x then none else f y) = some v → _
    rw [if_neg hy, has_del_other (lit_ne hy)]
    refine ⟨(hf y).1, fun v h => ⟨((hf y).2 v h).1, fun z => ?_⟩⟩
    rw [atKey_del_other (lit_ne hy)]
    exact ((hf y).2 v h).2 z
open Go.Maps Go.MapKept Go.ChangeMaps in
theorem MapAt.get {P : Program} {k : TypeId} {w : World} {b n : Nat} {f : Int → Option Value} {t e : TypeId} (h : MapAt w P k b n f) (hk : P.underlying k = some (.int .u32)) (ht : P.underlying t = some (.map k e)) {z : Value} (hz : (zeroValue e).run P w = .ok z w) {x : Int} (hx : (Lit.int .u32 x).wf = true) :
    (Instr.lookup t (.map (some b)) (.int .u32 x) false).run P w = .ok ((f x).getD z) w := by
  obtain ⟨D, hD, hf⟩ := h
  obtain ⟨v, ps, hrun, hv⟩ := hD.lookup (int_keyed hk) ht hz (zd := .held z) (zp := []) rfl (keyOf_int_mk hk hx)
  rw [hrun]
  cases hfx : f x with
  | none =>
    rw [atKey_of_not_has ((hf x).1 hfx)] at hv
    simp [valR] at hv
    simp [hv]
  | some u =>
    obtain ⟨h1, h2⟩ := (hf x).2 u hfx
    rw [h2] at hv
    simp [valR] at hv
    simp [hv]
theorem MapAt.congr {P : Program} {k : TypeId} {w : World} {b n : Nat} {f g : Int → Option Value} (h : MapAt w P k b n f) (e : ∀ x, f x = g x) : MapAt w P k b n g := by
  rw [← show f = g from funext e]; exact h

end Go.Proofs.YtjfhilignbeboaaGreatDoor.U
/- A book: numbers and lists alone, without the program. -/
namespace Go.Proofs.YtjfhilignbeboaaGreatDoor

/-- A booking: id, seat, until. -/
structure Bg where
  i : Nat
  s : Nat
  u : Int
instance : Inhabited Bg := ⟨⟨0, 0, 0⟩⟩
theorem Bg.ext' {x y : Bg} (h1 : x.i = y.i) (h2 : x.s = y.s) (h3 : x.u = y.u) : x = y := by
  cases x; cases y; simp at *; exact ⟨h1, h2, h3⟩
instance : DecidableEq Bg := fun x y => if h : x.i = y.i ∧ x.s = y.s ∧ x.u = y.u then .isTrue (Bg.ext' h.1 h.2.1 h.2.2) else .isFalse (fun e => h (by rw [e]; exact ⟨rfl, rfl, rfl⟩))
/-- A book: seats, codes, group, the next id, the clock, its bookings. -/
structure Sb where
  a : Nat
  b : Nat
  c : Nat
  n : Nat
  t : Int
  L : List Bg
/-- By rising ids. -/
def AscB (L : List Bg) : Prop := L.Pairwise fun x y => x.i < y.i
/-- No two have one seat. -/
def OneS (L : List Bg) : Prop := L.Pairwise fun x y => x.s ≠ y.s
/-- It may be. -/
structure Sb.Ok (S : Sb) : Prop where
  a0 : 1 ≤ S.a
  a1 : S.a ≤ 1024
  b0 : 1 ≤ S.b
  b1 : S.b ≤ 4096
  c0 : 1 ≤ S.c
  c1 : S.c ≤ 64
  n0 : 1 ≤ S.n
  n1 : S.n < 4294967296
  t0 : 0 ≤ S.t
  t1 : S.t ≤ mxC
  asc : AscB S.L
  id : ∀ x ∈ S.L, 1 ≤ x.i ∧ x.i < S.n
  st : ∀ x ∈ S.L, x.s < S.a
  one : OneS S.L
  til : ∀ x ∈ S.L, x.u = 0 ∨ (S.t < x.u ∧ x.u ≤ mxC)
  few : S.L.length ≤ S.b
def fnd (L : List Bg) (i : Nat) : Option Bg := L.find? fun x => x.i == i
def sat (L : List Bg) (s : Nat) : Option Bg := L.find? fun x => x.s == s

theorem AscB.same {L : List Bg} (h : AscB L) {x y : Bg} (hx : x ∈ L) (hy : y ∈ L) (e : x.i = y.i) : x = y := by
  induction L with
  | nil => simp at hx
  | cons z r ih =>
    have h1 := List.pairwise_cons.1 h
    rcases List.mem_cons.1 hx with e1 | hx' <;> rcases List.mem_cons.1 hy with e2 | hy'
    · rw [e1, e2]
    · have := h1.1 y hy'; rw [← e1] at this; omega
    · have := h1.1 x hx'; rw [← e2] at this; omega
    · exact ih h1.2 hx' hy'
theorem OneS.same {L : List Bg} (h : OneS L) {x y : Bg} (hx : x ∈ L) (hy : y ∈ L) (e : x.s = y.s) : x = y := by
  induction L with
  | nil => simp at hx
  | cons z r ih =>
    have h1 := List.pairwise_cons.1 h
    rcases List.mem_cons.1 hx with e1 | hx' <;> rcases List.mem_cons.1 hy with e2 | hy'
    · rw [e1, e2]
    · exact absurd e (by rw [e1]; exact h1.1 y hy')
    · exact absurd e.symm (by rw [e2]; exact h1.1 x hx')
    · exact ih h1.2 hx' hy'
theorem fnd_some {L : List Bg} (h : AscB L) {i : Nat} {x : Bg} : fnd L i = some x ↔ x ∈ L ∧ x.i = i := by
  unfold fnd
  constructor
  · intro e
    exact ⟨List.mem_of_find?_eq_some e, by simpa using List.find?_some e⟩
  · rintro ⟨hx, rfl⟩
    cases hq : L.find? (fun y => y.i == x.i) with
    | none => exact absurd (List.find?_eq_none.1 hq x hx) (by simp)
    | some y => rw [h.same (List.mem_of_find?_eq_some hq) hx (by simpa using List.find?_some hq)]
theorem fnd_none {L : List Bg} {i : Nat} : fnd L i = none ↔ ∀ x ∈ L, x.i ≠ i := by
  unfold fnd; rw [List.find?_eq_none]; simp
theorem sat_some {L : List Bg} (h : OneS L) {s : Nat} {x : Bg} : sat L s = some x ↔ x ∈ L ∧ x.s = s := by
  unfold sat
  constructor
  · intro e
    exact ⟨List.mem_of_find?_eq_some e, by simpa using List.find?_some e⟩
  · rintro ⟨hx, rfl⟩
    cases hq : L.find? (fun y => y.s == x.s) with
    | none => exact absurd (List.find?_eq_none.1 hq x hx) (by simp)
    | some y => rw [h.same (List.mem_of_find?_eq_some hq) hx (by simpa using List.find?_some hq)]
theorem sat_none {L : List Bg} {s : Nat} : sat L s = none ↔ ∀ x ∈ L, x.s ≠ s := by
  unfold sat; rw [List.find?_eq_none]; simp
theorem sat_isSome {L : List Bg} {s : Nat} : (sat L s).isSome = true ↔ ∃ x ∈ L, x.s = s := by
  cases h : sat L s with
  | none => rw [sat_none] at h; simp; exact fun x hx e => h x hx e
  | some y => simp; exact ⟨y, List.mem_of_find?_eq_some h, by have := List.find?_some h; simpa using this⟩
theorem fnd_isSome {L : List Bg} {i : Nat} : (fnd L i).isSome = true ↔ ∃ x ∈ L, x.i = i := by
  cases h : fnd L i with
  | none => rw [fnd_none] at h; simp; exact fun x hx e => h x hx e
  | some y => simp; exact ⟨y, List.mem_of_find?_eq_some h, by have := List.find?_some h; simpa using this⟩

/-- One booking is another one. -/
def upd (L : List Bg) (i : Nat) (y : Bg) : List Bg := L.map fun x => if x.i = i then y else x
def del (L : List Bg) (i : Nat) : List Bg := L.filter fun x => x.i != i
def tik (L : List Bg) (t : Int) : List Bg := L.filter fun x => x.u == 0 || decide (t < x.u)
theorem upd_length (L : List Bg) (i : Nat) (y : Bg) : (upd L i y).length = L.length := by simp [upd]
theorem upd_mem {L : List Bg} {i : Nat} {y z : Bg} : z ∈ upd L i y ↔ (z = y ∧ ∃ x ∈ L, x.i = i) ∨ (z ∈ L ∧ z.i ≠ i) := by
  unfold upd
  rw [List.mem_map]
  constructor
  · rintro ⟨x, hx, rfl⟩
    split
    · rename_i h; exact .inl ⟨rfl, x, hx, h⟩
    · rename_i h; exact .inr ⟨hx, h⟩
  · rintro (⟨rfl, x, hx, h⟩ | ⟨hz, h⟩)
    · exact ⟨x, hx, by rw [if_pos h]⟩
    · exact ⟨z, hz, by rw [if_neg h]⟩
theorem upd_asc {L : List Bg} (h : AscB L) {i : Nat} {y : Bg} (hy : y.i = i) : AscB (upd L i y) := by
  unfold upd AscB
  rw [List.pairwise_map]
  refine h.imp (fun {p q} hpq => ?_)
  split <;> split <;> omega
theorem upd_one {L : List Bg} (h : OneS L) (hA : AscB L) {i : Nat} {y : Bg} (hy : ∀ x ∈ L, x.i ≠ i → x.s ≠ y.s) : OneS (upd L i y) := by
  unfold upd OneS
  rw [List.pairwise_map]
  have h2 := h.and hA
  refine (List.Pairwise.imp_of_mem ?_ h2)
  rintro p q hp hq ⟨h3, h4⟩
  split <;> split
  · omega
  · rename_i e1 e2; exact fun e => hy q hq e2 e.symm
  · rename_i e1 e2; exact hy p hp e1
  · exact h3
theorem del_mem {L : List Bg} {i : Nat} {z : Bg} : z ∈ del L i ↔ z ∈ L ∧ z.i ≠ i := by simp [del]
theorem tik_mem {L : List Bg} {t : Int} {z : Bg} : z ∈ tik L t ↔ z ∈ L ∧ (z.u = 0 ∨ t < z.u) := by simp [tik]

/-- What a hold is told. -/
def holdE (S : Sb) (r : Rc) : Int :=
  if r.i ≠ (S.n : Int) then 2 else if ¬ r.s < (S.a : Int) then 140 else if r.u ≤ S.t then 173 else if (sat S.L r.s.toNat).isSome then 170 else if S.b ≤ S.L.length ∨ S.n = 4294967295 then 6 else 0
def reseatE (S : Sb) (i s : Nat) : Int :=
  match fnd S.L i with
  | none => 171
  | some x => if ¬ s < S.a then 140 else if s ≠ x.s ∧ (sat S.L s).isSome then 170 else 0
/-- What a record is told. -/
def appE (S : Sb) (r : Rc) : Int :=
  if ¬ r.May then 160
  else if r.k = 1 then holdE S r
  else if r.k = 2 ∨ r.k = 3 then (if (fnd S.L r.i.toNat).isSome then 0 else 171)
  else if r.k = 4 then reseatE S r.i.toNat r.s.toNat
  else if r.c ≤ S.t then 173 else 0
/-- What a record that is not refused makes of it. -/
def appS (S : Sb) (r : Rc) : Sb :=
  if r.k = 1 then { S with L := S.L ++ [⟨r.i.toNat, r.s.toNat, r.u⟩], n := S.n + 1 }
  else if r.k = 2 then { S with L := (fnd S.L r.i.toNat).elim S.L fun x => upd S.L x.i { x with u := 0 } }
  else if r.k = 3 then { S with L := del S.L r.i.toNat }
  else if r.k = 4 then { S with L := (fnd S.L r.i.toNat).elim S.L fun x => upd S.L x.i { x with s := r.s.toNat } }
  else { S with L := tik S.L r.c, t := r.c }
def app (S : Sb) (r : Rc) : Sb := if appE S r = 0 then appS S r else S
theorem app_no {S : Sb} {r : Rc} (h : appE S r ≠ 0) : app S r = S := by unfold app; rw [if_neg h]
theorem app_yes {S : Sb} {r : Rc} (h : appE S r = 0) : app S r = appS S r := by unfold app; rw [if_pos h]
theorem appE_may {S : Sb} {r : Rc} (h : appE S r = 0) : r.May := by
  apply Classical.byContradiction
  intro hn
  unfold appE at h
  rw [if_pos hn] at h
  cases h
theorem holdE_zero {S : Sb} {r : Rc} : holdE S r = 0 ↔ r.i = (S.n : Int) ∧ r.s < (S.a : Int) ∧ S.t < r.u ∧ sat S.L r.s.toNat = none ∧ S.L.length < S.b ∧ S.n ≠ 4294967295 := by
  unfold holdE
  by_cases h1 : r.i = (S.n : Int)
  · rw [if_neg (fun e => e h1)]
    by_cases h2 : r.s < (S.a : Int)
    · rw [if_neg (fun e => e h2)]
      by_cases h3 : r.u ≤ S.t
      · rw [if_pos h3]; constructor
        · intro e; cases e
        · intro e; omega
      · rw [if_neg h3]
        cases hs : sat S.L r.s.toNat with
        | some x => simp
        | none =>
          rw [if_neg (by simp)]
          by_cases h4 : S.b ≤ S.L.length ∨ S.n = 4294967295
          · rw [if_pos h4]; constructor
            · intro e; cases e
            · intro e; omega
          · rw [if_neg h4]; exact ⟨fun _ => ⟨h1, h2, by omega, rfl, by omega, by omega⟩, fun _ => rfl⟩
    · rw [if_pos h2]; constructor
      · intro e; cases e
      · intro e; exact absurd e.2.1 h2
  · rw [if_pos h1]; constructor
    · intro e; cases e
    · intro e; exact absurd e.1 h1
theorem reseatE_zero {S : Sb} {i s : Nat} : reseatE S i s = 0 ↔ ∃ x, fnd S.L i = some x ∧ s < S.a ∧ (s = x.s ∨ sat S.L s = none) := by
  unfold reseatE
  cases hf : fnd S.L i with
  | none => simp
  | some x =>
    simp only
    by_cases h1 : s < S.a
    · rw [if_neg (fun e => e h1)]
      by_cases h2 : s = x.s
      · rw [if_neg (fun e => e.1 h2)]
        exact ⟨fun _ => ⟨x, rfl, h1, .inl h2⟩, fun _ => rfl⟩
      · cases hs : sat S.L s with
        | none => rw [if_neg (by simp)]; exact ⟨fun _ => ⟨x, rfl, h1, .inr rfl⟩, fun _ => rfl⟩
        | some y =>
          rw [if_pos ⟨h2, rfl⟩]
          constructor
          · intro e; cases e
          · rintro ⟨z, hz, -, h3⟩
            cases hz
            rcases h3 with h3 | h3
            · exact absurd h3 h2
            · cases h3
    · rw [if_pos h1]
      constructor
      · intro e; cases e
      · rintro ⟨z, hz, h3, -⟩; exact absurd h3 h1
theorem AscB.snoc {L : List Bg} (h : AscB L) {x : Bg} (hx : ∀ y ∈ L, y.i < x.i) : AscB (L ++ [x]) := by
  unfold AscB
  rw [List.pairwise_append]
  exact ⟨h, List.pairwise_singleton _ _, fun y hy z hz => by rw [List.mem_singleton] at hz; rw [hz]; exact hx y hy⟩
theorem OneS.snoc {L : List Bg} (h : OneS L) {x : Bg} (hx : ∀ y ∈ L, y.s ≠ x.s) : OneS (L ++ [x]) := by
  unfold OneS
  rw [List.pairwise_append]
  exact ⟨h, List.pairwise_singleton _ _, fun y hy z hz => by rw [List.mem_singleton] at hz; rw [hz]; exact hx y hy⟩
theorem Sb.Ok.app {S : Sb} (h : S.Ok) (r : Rc) : (app S r).Ok := by
  by_cases he : appE S r = 0
  · rw [app_yes he]
    have hm := appE_may he
    have he2 := he
    unfold appE at he2
    rw [if_neg (fun e => e hm)] at he2
    unfold appS
    by_cases k1 : r.k = 1
    · rw [if_pos k1]
      rw [if_pos k1, holdE_zero] at he2
      obtain ⟨e1, e2, e3, e4, e5, e6⟩ := he2
      have hm1 : 1 ≤ r.i ∧ 0 ≤ r.s ∧ r.u ≤ mxC := by unfold Rc.May at hm; omega
      have hin : r.i.toNat = S.n := by omega
      have hn1 := h.n1
      refine ⟨h.a0, h.a1, h.b0, h.b1, h.c0, h.c1, by simp, by simp; omega, h.t0, h.t1, h.asc.snoc (fun y hy => ?_), fun x hx => ?_, fun x hx => ?_, h.one.snoc (fun y hy => ?_), fun x hx => ?_, ?_⟩
      · have := h.id y hy; simp; omega
      · rcases List.mem_append.1 hx with hx | hx
        · have := h.id x hx; simp; omega
        · rw [List.mem_singleton] at hx; subst hx; simp; omega
      · rcases List.mem_append.1 hx with hx | hx
        · exact h.st x hx
        · rw [List.mem_singleton] at hx; subst hx; simp; omega
      · exact sat_none.1 e4 y hy
      · rcases List.mem_append.1 hx with hx | hx
        · exact h.til x hx
        · rw [List.mem_singleton] at hx; subst hx; exact .inr ⟨e3, hm1.2.2⟩
      · simp; omega
    · rw [if_neg k1] at he2 ⊢
      by_cases k2 : r.k = 2
      · rw [if_pos k2]
        rw [if_pos (.inl k2)] at he2
        cases hf : fnd S.L r.i.toNat with
        | none => exact h
        | some x =>
          obtain ⟨hx, hxi⟩ := (fnd_some h.asc).1 hf
          refine ⟨h.a0, h.a1, h.b0, h.b1, h.c0, h.c1, h.n0, h.n1, h.t0, h.t1, upd_asc h.asc rfl, fun y hy => ?_, fun y hy => ?_, upd_one h.one h.asc (fun y hy hne e => hne (by rw [h.one.same hy hx e])), fun y hy => ?_, by simp [upd_length]; exact h.few⟩
          all_goals rcases upd_mem.1 hy with ⟨rfl, -⟩ | ⟨hy, -⟩
          · exact h.id x hx
          · exact h.id y hy
          · exact h.st x hx
          · exact h.st y hy
          · exact .inl rfl
          · exact h.til y hy
      · rw [if_neg k2]
        by_cases k3 : r.k = 3
        · rw [if_pos k3]
          refine ⟨h.a0, h.a1, h.b0, h.b1, h.c0, h.c1, h.n0, h.n1, h.t0, h.t1, h.asc.filter _, fun y hy => h.id y (del_mem.1 hy).1, fun y hy => h.st y (del_mem.1 hy).1, h.one.filter _, fun y hy => h.til y (del_mem.1 hy).1, Nat.le_trans (List.length_filter_le _ _) h.few⟩
        · rw [if_neg k3]
          rw [if_neg (by omega)] at he2
          by_cases k4 : r.k = 4
          · rw [if_pos k4]
            rw [if_pos k4, reseatE_zero] at he2
            obtain ⟨x, hf, hs, ho⟩ := he2
            obtain ⟨hx, hxi⟩ := (fnd_some h.asc).1 hf
            rw [hf]
            refine ⟨h.a0, h.a1, h.b0, h.b1, h.c0, h.c1, h.n0, h.n1, h.t0, h.t1, upd_asc h.asc rfl, fun y hy => ?_, fun y hy => ?_, upd_one h.one h.asc (fun y hy hne e => ?_), fun y hy => ?_, by simp [upd_length]; exact h.few⟩
            · rcases upd_mem.1 hy with ⟨rfl, -⟩ | ⟨hy, -⟩
              · exact h.id x hx
              · exact h.id y hy
            · rcases upd_mem.1 hy with ⟨rfl, -⟩ | ⟨hy, -⟩
              · exact hs
              · exact h.st y hy
            · rcases ho with ho | ho
              · exact hne (by rw [h.one.same hy hx (e.trans ho)])
              · exact sat_none.1 ho y hy e
            · rcases upd_mem.1 hy with ⟨rfl, -⟩ | ⟨hy, -⟩
              · exact h.til x hx
              · exact h.til y hy
          · rw [if_neg k4]
            rw [if_neg k4] at he2
            have ht : S.t < r.c := by
              apply Classical.byContradiction
              intro e
              rw [if_pos (by omega)] at he2
              cases he2
            have hc : r.c ≤ mxC := by unfold Rc.May at hm; omega
            have ht0 := h.t0
            refine ⟨h.a0, h.a1, h.b0, h.b1, h.c0, h.c1, h.n0, h.n1, by show 0 ≤ r.c; omega, hc, h.asc.filter _, fun y hy => h.id y (tik_mem.1 hy).1, fun y hy => h.st y (tik_mem.1 hy).1, h.one.filter _, fun y hy => ?_, Nat.le_trans (List.length_filter_le _ _) h.few⟩
            obtain ⟨h1, h2⟩ := tik_mem.1 hy
            rcases h2 with h2 | h2
            · exact .inl h2
            · rcases h.til y h1 with h3 | h3
              · exact .inl h3
              · exact .inr ⟨h2, h3.2⟩
  · rw [app_no he]; exact h
end Go.Proofs.YtjfhilignbeboaaGreatDoor
