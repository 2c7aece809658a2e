/- Texts joined: RkRb, UMap. -/
import Derived.Test.YtcbiloomnkbalaaGreatDoorJoAe
import Derived.WalkKit
import Derived.Maps.OwnSet
import Derived.Shelf.SlMaps.Clone
import Derived.Test.YtcbiloomnkbalaaGreatDoorJoAa
/- records: mayBe, Check, Size. -/
namespace Go.Proofs.YtcbiloomnkbalaaGreatDoor.Rk
open Go.RowKit
attribute [local go_sem ↓] Go.wp_at_zero Go.wp_at_succ
theorem box5 {w : World} {g : Nat} {t : TypeId} {x y z u v : Value} (h : w.heap[g]? = some (.cells [x, y, z, u, v].toArray t (0, 0))) : w.cell? ⟨g, 0, none⟩ = some x ∧ w.cell? ⟨g, 1, none⟩ = some y ∧ w.cell? ⟨g, 2, none⟩ = some z ∧ w.cell? ⟨g, 3, none⟩ = some u ∧ w.cell? ⟨g, 4, none⟩ = some v :=
  ⟨cell_row h 0, cell_row h 1, cell_row h 2, cell_row h 3, cell_row h 4⟩
theorem box4 {w : World} {g : Nat} {t : TypeId} {x y z u : Value} (h : w.heap[g]? = some (.cells [x, y, z, u].toArray t (0, 0))) : w.cell? ⟨g, 0, none⟩ = some x ∧ w.cell? ⟨g, 1, none⟩ = some y ∧ w.cell? ⟨g, 2, none⟩ = some z ∧ w.cell? ⟨g, 3, none⟩ = some u :=
  ⟨cell_row h 0, cell_row h 1, cell_row h 2, cell_row h 3⟩
/-- What is asked of a record of a kind that there is. -/
def mayB (r : Rc) : Bool := isR (fI r.k) r.i 1 4294967295 && (isR (fS r.k) r.s 0 1023 && (isR (fU r.k) r.u 1 1099511627776 && isR (fC r.k) r.c 1 1099511627776))
theorem mayB_may {r : Rc} (ho : r.Ok) (hk : 1 ≤ r.k ∧ r.k ≤ 5) : mayB r = decide r.May := by
  have h1 := ho.i1
  obtain ⟨k, i, s, u, c⟩ := r
  dsimp only at *
  have hk5 : k = 1 ∨ k = 2 ∨ k = 3 ∨ k = 4 ∨ k = 5 := by omega
  unfold mayB Rc.May isR mxC
  rcases hk5 with rfl | rfl | rfl | rfl | rfl <;> simp [fI, fS, fU, fC] <;> simp only [← Bool.decide_and, decide_eq_decide] <;> omega

theorem tab1 {w : World} (h : Tab w) : w.cell? ⟨0, 4, none⟩ = some (.bool true) ∧ w.cell? ⟨0, 5, none⟩ = some (.bool true) ∧ w.cell? ⟨0, 6, none⟩ = some (.bool true) ∧ w.cell? ⟨0, 7, none⟩ = some (.bool false) :=
  ⟨h 4 (by decide), h 5 (by decide), h 6 (by decide), h 7 (by decide)⟩
theorem tab2 {w : World} (h : Tab w) : w.cell? ⟨0, 8, none⟩ = some (.bool true) ∧ w.cell? ⟨0, 9, none⟩ = some (.bool false) ∧ w.cell? ⟨0, 10, none⟩ = some (.bool false) ∧ w.cell? ⟨0, 11, none⟩ = some (.bool false) :=
  ⟨h 8 (by decide), h 9 (by decide), h 10 (by decide), h 11 (by decide)⟩
theorem tab3 {w : World} (h : Tab w) : w.cell? ⟨0, 12, none⟩ = some (.bool true) ∧ w.cell? ⟨0, 13, none⟩ = some (.bool false) ∧ w.cell? ⟨0, 14, none⟩ = some (.bool false) ∧ w.cell? ⟨0, 15, none⟩ = some (.bool false) :=
  ⟨h 12 (by decide), h 13 (by decide), h 14 (by decide), h 15 (by decide)⟩
theorem tab4 {w : World} (h : Tab w) : w.cell? ⟨0, 16, none⟩ = some (.bool true) ∧ w.cell? ⟨0, 17, none⟩ = some (.bool true) ∧ w.cell? ⟨0, 18, none⟩ = some (.bool false) ∧ w.cell? ⟨0, 19, none⟩ = some (.bool false) :=
  ⟨h 16 (by decide), h 17 (by decide), h 18 (by decide), h 19 (by decide)⟩
theorem tab5 {w : World} (h : Tab w) : w.cell? ⟨0, 20, none⟩ = some (.bool false) ∧ w.cell? ⟨0, 21, none⟩ = some (.bool false) ∧ w.cell? ⟨0, 22, none⟩ = some (.bool false) ∧ w.cell? ⟨0, 23, none⟩ = some (.bool true) :=
  ⟨h 20 (by decide), h 21 (by decide), h 22 (by decide), h 23 (by decide)⟩
theorem two_boxes (w : World) (A B : List Value) (tA tB : TypeId) : ((w.alloc (.cells A.toArray tA)).alloc (.cells B.toArray tB)).heap[w.heap.size]? = some (.cells A.toArray tA (0, 0)) ∧ ((w.alloc (.cells A.toArray tA)).alloc (.cells B.toArray tB)).heap[w.heap.size + 1]? = some (.cells B.toArray tB (0, 0)) ∧ w.grownBy ((w.alloc (.cells A.toArray tA)).alloc (.cells B.toArray tB)) none := by
  have g2 := World.grownBy_alloc (w.alloc (.cells A.toArray tA)) (.cells B.toArray tB) none
  have b1 := heap_alloc_new w (.cells A.toArray tA)
  refine ⟨(g2.block _ (row_lt b1) (by simp)).trans b1, ?_, grown_trans (World.grownBy_alloc w _ none) g2⟩
  have := heap_alloc_new (w.alloc (.cells A.toArray tA)) (.cells B.toArray tB)
  rwa [World.size_alloc] at this
set_option maxHeartbeats 2000000 in
theorem mayBe_1 (i s u c : Int) (hi : IntKind.i64.wrap i = i) (w : World) (hT : Tab w) : Calls Tryz.prog 89 #[rcV ⟨1, i, s, u, c⟩] w fun e w' => e = .returned (.bool (mayB ⟨1, i, s, u, c⟩)) ∧ w.grownBy w' none := by
  have hm : mayB ⟨1, i, s, u, c⟩ = (isR true i 1 4294967295 && (isR true s 0 1023 && (isR true u 1 1099511627776 && isR false c 1 1099511627776))) := rfl
  rw [hm]
  clear hm
  have q1 := isRight_any true i 1 4294967295
  have q2 := isRight_any true s 0 1023
  have q3 := isRight_any true u 1 1099511627776
  have q4 := isRight_any false c 1 1099511627776
  generalize isR true i 1 4294967295 = b1 at *
  generalize isR true s 0 1023 = b2 at *
  generalize isR true u 1 1099511627776 = b3 at *
  generalize isR false c 1 1099511627776 = b4 at *
  unfold rcV
  obtain ⟨c0, c1, c2, c3, c4⟩ := box5 (heap_alloc_new w (.cells [Value.int .i64 1, .int .u32 i, .int .i64 s, .int .i64 u, .int .i64 c].toArray 46))
  obtain ⟨t0, t1, t2, t3⟩ := tab1 (hT.new (World.grownBy_alloc w (.cells [Value.int .i64 1, .int .u32 i, .int .i64 s, .int .i64 u, .int .i64 c].toArray 46) none))
  obtain ⟨ba, bb, bg⟩ := two_boxes w [Value.int .i64 1, .int .u32 i, .int .i64 s, .int .i64 u, .int .i64 c] [Value.bool true, .bool true, .bool true, .bool false] 46 159
  obtain ⟨d0, d1, d2, d3, d4⟩ := box5 ba
  obtain ⟨f0, f1, f2, f3⟩ := box4 bb
  have HG := hide bg
  clear ba bb bg hT
  go_enter Tryz.func89, Tryz.ntmps89
  go_wp2_with fail
  clear c0 c1 c2 c3 c4 t0 t1 t2 t3
  generalize (w.alloc (.cells #[.int .i64 1, .int .u32 i, .int .i64 s, .int .i64 u, .int .i64 c] 46)).alloc (.cells #[.bool true, .bool true, .bool true, .bool false] 159) = w2 at *
  refine (q1 w2).mono ?_
  rintro e w3 ⟨rfl, hw⟩
  obtain rfl := hw.symm
  clear hw
  cases b1 with
  | false =>
    go_wp2
    go_ret
    exact ⟨rfl, HG.out⟩
  | true =>
    go_wp2_with fail
    refine (q2 w2).mono ?_
    rintro e w3 ⟨rfl, hw⟩
    obtain rfl := hw.symm
    clear hw
    cases b2 with
    | false =>
      go_wp2
      go_ret
      exact ⟨rfl, HG.out⟩
    | true =>
      go_wp2_with fail
      refine (q3 w2).mono ?_
      rintro e w3 ⟨rfl, hw⟩
      obtain rfl := hw.symm
      clear hw
      cases b3 with
      | false =>
        go_wp2
        go_ret
        exact ⟨rfl, HG.out⟩
      | true =>
        go_wp2_with fail
        refine (q4 w2).mono ?_
        rintro e w3 ⟨rfl, hw⟩
        obtain rfl := hw.symm
        clear hw
        cases b4 <;>
        · go_wp2
          go_ret
          exact ⟨rfl, HG.out⟩
set_option maxHeartbeats 2000000 in
theorem mayBe_2 (i s u c : Int) (hi : IntKind.i64.wrap i = i) (w : World) (hT : Tab w) : Calls Tryz.prog 89 #[rcV ⟨2, i, s, u, c⟩] w fun e w' => e = .returned (.bool (mayB ⟨2, i, s, u, c⟩)) ∧ w.grownBy w' none := by
  have hm : mayB ⟨2, i, s, u, c⟩ = (isR true i 1 4294967295 && (isR false s 0 1023 && (isR false u 1 1099511627776 && isR false c 1 1099511627776))) := rfl
  rw [hm]
  clear hm
  have q1 := isRight_any true i 1 4294967295
  have q2 := isRight_any false s 0 1023
  have q3 := isRight_any false u 1 1099511627776
  have q4 := isRight_any false c 1 1099511627776
  generalize isR true i 1 4294967295 = b1 at *
  generalize isR false s 0 1023 = b2 at *
  generalize isR false u 1 1099511627776 = b3 at *
  generalize isR false c 1 1099511627776 = b4 at *
  unfold rcV
  obtain ⟨c0, c1, c2, c3, c4⟩ := box5 (heap_alloc_new w (.cells [Value.int .i64 2, .int .u32 i, .int .i64 s, .int .i64 u, .int .i64 c].toArray 46))
  obtain ⟨t0, t1, t2, t3⟩ := tab2 (hT.new (World.grownBy_alloc w (.cells [Value.int .i64 2, .int .u32 i, .int .i64 s, .int .i64 u, .int .i64 c].toArray 46) none))
  obtain ⟨ba, bb, bg⟩ := two_boxes w [Value.int .i64 2, .int .u32 i, .int .i64 s, .int .i64 u, .int .i64 c] [Value.bool true, .bool false, .bool false, .bool false] 46 159
  obtain ⟨d0, d1, d2, d3, d4⟩ := box5 ba
  obtain ⟨f0, f1, f2, f3⟩ := box4 bb
  have HG := hide bg
  clear ba bb bg hT
  go_enter Tryz.func89, Tryz.ntmps89
  go_wp2_with fail
  clear c0 c1 c2 c3 c4 t0 t1 t2 t3
  generalize (w.alloc (.cells #[.int .i64 2, .int .u32 i, .int .i64 s, .int .i64 u, .int .i64 c] 46)).alloc (.cells #[.bool true, .bool false, .bool false, .bool false] 159) = w2 at *
  refine (q1 w2).mono ?_
  rintro e w3 ⟨rfl, hw⟩
  obtain rfl := hw.symm
  clear hw
  cases b1 with
  | false =>
    go_wp2
    go_ret
    exact ⟨rfl, HG.out⟩
  | true =>
    go_wp2_with fail
    refine (q2 w2).mono ?_
    rintro e w3 ⟨rfl, hw⟩
    obtain rfl := hw.symm
    clear hw
    cases b2 with
    | false =>
      go_wp2
      go_ret
      exact ⟨rfl, HG.out⟩
    | true =>
      go_wp2_with fail
      refine (q3 w2).mono ?_
      rintro e w3 ⟨rfl, hw⟩
      obtain rfl := hw.symm
      clear hw
      cases b3 with
      | false =>
        go_wp2
        go_ret
        exact ⟨rfl, HG.out⟩
      | true =>
        go_wp2_with fail
        refine (q4 w2).mono ?_
        rintro e w3 ⟨rfl, hw⟩
        obtain rfl := hw.symm
        clear hw
        cases b4 <;>
        · go_wp2
          go_ret
          exact ⟨rfl, HG.out⟩
set_option maxHeartbeats 2000000 in
theorem mayBe_3 (i s u c : Int) (hi : IntKind.i64.wrap i = i) (w : World) (hT : Tab w) : Calls Tryz.prog 89 #[rcV ⟨3, i, s, u, c⟩] w fun e w' => e = .returned (.bool (mayB ⟨3, i, s, u, c⟩)) ∧ w.grownBy w' none := by
  have hm : mayB ⟨3, i, s, u, c⟩ = (isR true i 1 4294967295 && (isR false s 0 1023 && (isR false u 1 1099511627776 && isR false c 1 1099511627776))) := rfl
  rw [hm]
  clear hm
  have q1 := isRight_any true i 1 4294967295
  have q2 := isRight_any false s 0 1023
  have q3 := isRight_any false u 1 1099511627776
  have q4 := isRight_any false c 1 1099511627776
  generalize isR true i 1 4294967295 = b1 at *
  generalize isR false s 0 1023 = b2 at *
  generalize isR false u 1 1099511627776 = b3 at *
  generalize isR false c 1 1099511627776 = b4 at *
  unfold rcV
  obtain ⟨c0, c1, c2, c3, c4⟩ := box5 (heap_alloc_new w (.cells [Value.int .i64 3, .int .u32 i, .int .i64 s, .int .i64 u, .int .i64 c].toArray 46))
  obtain ⟨t0, t1, t2, t3⟩ := tab3 (hT.new (World.grownBy_alloc w (.cells [Value.int .i64 3, .int .u32 i, .int .i64 s, .int .i64 u, .int .i64 c].toArray 46) none))
  obtain ⟨ba, bb, bg⟩ := two_boxes w [Value.int .i64 3, .int .u32 i, .int .i64 s, .int .i64 u, .int .i64 c] [Value.bool true, .bool false, .bool false, .bool false] 46 159
  obtain ⟨d0, d1, d2, d3, d4⟩ := box5 ba
  obtain ⟨f0, f1, f2, f3⟩ := box4 bb
  have HG := hide bg
  clear ba bb bg hT
  go_enter Tryz.func89, Tryz.ntmps89
  go_wp2_with fail
  clear c0 c1 c2 c3 c4 t0 t1 t2 t3
  generalize (w.alloc (.cells #[.int .i64 3, .int .u32 i, .int .i64 s, .int .i64 u, .int .i64 c] 46)).alloc (.cells #[.bool true, .bool false, .bool false, .bool false] 159) = w2 at *
  refine (q1 w2).mono ?_
  rintro e w3 ⟨rfl, hw⟩
  obtain rfl := hw.symm
  clear hw
  cases b1 with
  | false =>
    go_wp2
    go_ret
    exact ⟨rfl, HG.out⟩
  | true =>
    go_wp2_with fail
    refine (q2 w2).mono ?_
    rintro e w3 ⟨rfl, hw⟩
    obtain rfl := hw.symm
    clear hw
    cases b2 with
    | false =>
      go_wp2
      go_ret
      exact ⟨rfl, HG.out⟩
    | true =>
      go_wp2_with fail
      refine (q3 w2).mono ?_
      rintro e w3 ⟨rfl, hw⟩
      obtain rfl := hw.symm
      clear hw
      cases b3 with
      | false =>
        go_wp2
        go_ret
        exact ⟨rfl, HG.out⟩
      | true =>
        go_wp2_with fail
        refine (q4 w2).mono ?_
        rintro e w3 ⟨rfl, hw⟩
        obtain rfl := hw.symm
        clear hw
        cases b4 <;>
        · go_wp2
          go_ret
          exact ⟨rfl, HG.out⟩
set_option maxHeartbeats 2000000 in
theorem mayBe_4 (i s u c : Int) (hi : IntKind.i64.wrap i = i) (w : World) (hT : Tab w) : Calls Tryz.prog 89 #[rcV ⟨4, i, s, u, c⟩] w fun e w' => e = .returned (.bool (mayB ⟨4, i, s, u, c⟩)) ∧ w.grownBy w' none := by
  have hm : mayB ⟨4, i, s, u, c⟩ = (isR true i 1 4294967295 && (isR true s 0 1023 && (isR false u 1 1099511627776 && isR false c 1 1099511627776))) := rfl
  rw [hm]
  clear hm
  have q1 := isRight_any true i 1 4294967295
  have q2 := isRight_any true s 0 1023
  have q3 := isRight_any false u 1 1099511627776
  have q4 := isRight_any false c 1 1099511627776
  generalize isR true i 1 4294967295 = b1 at *
  generalize isR true s 0 1023 = b2 at *
  generalize isR false u 1 1099511627776 = b3 at *
  generalize isR false c 1 1099511627776 = b4 at *
  unfold rcV
  obtain ⟨c0, c1, c2, c3, c4⟩ := box5 (heap_alloc_new w (.cells [Value.int .i64 4, .int .u32 i, .int .i64 s, .int .i64 u, .int .i64 c].toArray 46))
  obtain ⟨t0, t1, t2, t3⟩ := tab4 (hT.new (World.grownBy_alloc w (.cells [Value.int .i64 4, .int .u32 i, .int .i64 s, .int .i64 u, .int .i64 c].toArray 46) none))
  obtain ⟨ba, bb, bg⟩ := two_boxes w [Value.int .i64 4, .int .u32 i, .int .i64 s, .int .i64 u, .int .i64 c] [Value.bool true, .bool true, .bool false, .bool false] 46 159
  obtain ⟨d0, d1, d2, d3, d4⟩ := box5 ba
  obtain ⟨f0, f1, f2, f3⟩ := box4 bb
  have HG := hide bg
  clear ba bb bg hT
  go_enter Tryz.func89, Tryz.ntmps89
  go_wp2_with fail
  clear c0 c1 c2 c3 c4 t0 t1 t2 t3
  generalize (w.alloc (.cells #[.int .i64 4, .int .u32 i, .int .i64 s, .int .i64 u, .int .i64 c] 46)).alloc (.cells #[.bool true, .bool true, .bool false, .bool false] 159) = w2 at *
  refine (q1 w2).mono ?_
  rintro e w3 ⟨rfl, hw⟩
  obtain rfl := hw.symm
  clear hw
  cases b1 with
  | false =>
    go_wp2
    go_ret
    exact ⟨rfl, HG.out⟩
  | true =>
    go_wp2_with fail
    refine (q2 w2).mono ?_
    rintro e w3 ⟨rfl, hw⟩
    obtain rfl := hw.symm
    clear hw
    cases b2 with
    | false =>
      go_wp2
      go_ret
      exact ⟨rfl, HG.out⟩
    | true =>
      go_wp2_with fail
      refine (q3 w2).mono ?_
      rintro e w3 ⟨rfl, hw⟩
      obtain rfl := hw.symm
      clear hw
      cases b3 with
      | false =>
        go_wp2
        go_ret
        exact ⟨rfl, HG.out⟩
      | true =>
        go_wp2_with fail
        refine (q4 w2).mono ?_
        rintro e w3 ⟨rfl, hw⟩
        obtain rfl := hw.symm
        clear hw
        cases b4 <;>
        · go_wp2
          go_ret
          exact ⟨rfl, HG.out⟩
set_option maxHeartbeats 2000000 in
theorem mayBe_5 (i s u c : Int) (hi : IntKind.i64.wrap i = i) (w : World) (hT : Tab w) : Calls Tryz.prog 89 #[rcV ⟨5, i, s, u, c⟩] w fun e w' => e = .returned (.bool (mayB ⟨5, i, s, u, c⟩)) ∧ w.grownBy w' none := by
  have hm : mayB ⟨5, i, s, u, c⟩ = (isR false i 1 4294967295 && (isR false s 0 1023 && (isR false u 1 1099511627776 && isR true c 1 1099511627776))) := rfl
  rw [hm]
  clear hm
  have q1 := isRight_any false i 1 4294967295
  have q2 := isRight_any false s 0 1023
  have q3 := isRight_any false u 1 1099511627776
  have q4 := isRight_any true c 1 1099511627776
  generalize isR false i 1 4294967295 = b1 at *
  generalize isR false s 0 1023 = b2 at *
  generalize isR false u 1 1099511627776 = b3 at *
  generalize isR true c 1 1099511627776 = b4 at *
  unfold rcV
  obtain ⟨c0, c1, c2, c3, c4⟩ := box5 (heap_alloc_new w (.cells [Value.int .i64 5, .int .u32 i, .int .i64 s, .int .i64 u, .int .i64 c].toArray 46))
  obtain ⟨t0, t1, t2, t3⟩ := tab5 (hT.new (World.grownBy_alloc w (.cells [Value.int .i64 5, .int .u32 i, .int .i64 s, .int .i64 u, .int .i64 c].toArray 46) none))
  obtain ⟨ba, bb, bg⟩ := two_boxes w [Value.int .i64 5, .int .u32 i, .int .i64 s, .int .i64 u, .int .i64 c] [Value.bool false, .bool false, .bool false, .bool true] 46 159
  obtain ⟨d0, d1, d2, d3, d4⟩ := box5 ba
  obtain ⟨f0, f1, f2, f3⟩ := box4 bb
  have HG := hide bg
  clear ba bb bg hT
  go_enter Tryz.func89, Tryz.ntmps89
  go_wp2_with fail
  clear c0 c1 c2 c3 c4 t0 t1 t2 t3
  generalize (w.alloc (.cells #[.int .i64 5, .int .u32 i, .int .i64 s, .int .i64 u, .int .i64 c] 46)).alloc (.cells #[.bool false, .bool false, .bool false, .bool true] 159) = w2 at *
  refine (q1 w2).mono ?_
  rintro e w3 ⟨rfl, hw⟩
  obtain rfl := hw.symm
  clear hw
  cases b1 with
  | false =>
    go_wp2
    go_ret
    exact ⟨rfl, HG.out⟩
  | true =>
    go_wp2_with fail
    refine (q2 w2).mono ?_
    rintro e w3 ⟨rfl, hw⟩
    obtain rfl := hw.symm
    clear hw
    cases b2 with
    | false =>
      go_wp2
      go_ret
      exact ⟨rfl, HG.out⟩
    | true =>
      go_wp2_with fail
      refine (q3 w2).mono ?_
      rintro e w3 ⟨rfl, hw⟩
      obtain rfl := hw.symm
      clear hw
      cases b3 with
      | false =>
        go_wp2
        go_ret
        exact ⟨rfl, HG.out⟩
      | true =>
        go_wp2_with fail
        refine (q4 w2).mono ?_
        rintro e w3 ⟨rfl, hw⟩
        obtain rfl := hw.symm
        clear hw
        cases b4 <;>
        · go_wp2
          go_ret
          exact ⟨rfl, HG.out⟩
theorem wrap_id {r : Rc} (ho : r.Ok) : IntKind.i64.wrap r.i = r.i := by rw [IntKind.wrap_i64]; have := ho.i0; have := ho.i1; omega
theorem mayBe_any (r : Rc) (ho : r.Ok) (hk : 1 ≤ r.k ∧ r.k ≤ 5) (w : World) (hT : Tab w) : Calls Tryz.prog 89 #[rcV r] w fun e w' => e = .returned (.bool (decide r.May)) ∧ w.grownBy w' none := by
  rw [← mayB_may ho hk]
  have hi := wrap_id ho
  obtain ⟨k, i, s, u, c⟩ := r
  dsimp only at hk hi
  have hk5 : k = 1 ∨ k = 2 ∨ k = 3 ∨ k = 4 ∨ k = 5 := by omega
  rcases hk5 with rfl | rfl | rfl | rfl | rfl
  · exact mayBe_1 i s u c hi w hT
  · exact mayBe_2 i s u c hi w hT
  · exact mayBe_3 i s u c hi w hT
  · exact mayBe_4 i s u c hi w hT
  · exact mayBe_5 i s u c hi w hT
theorem may_not_kind {r : Rc} (h : ¬ (1 ≤ r.k ∧ r.k ≤ 5)) : ¬ r.May := fun hm => by have := may_kind hm; omega
/-- Check. -/
def chk (r : Rc) : Int := if r.May then 0 else 160
theorem check_any (r : Rc) (ho : r.Ok) (w : World) (hT : Tab w) : Calls Tryz.prog 58 #[rcV r] w fun e w' => e = .returned (.int .i64 (chk r)) ∧ w.grownBy w' none := by
  have b1 := heap_alloc_new w (.cells (rcC r).toArray 46)
  have g1 := World.grownBy_alloc w (.cells (rcC r).toArray 46) none
  have T1 := hide (hT.new g1)
  have K := hide ho
  have G := hide g1
  obtain ⟨c0, c1, c2, c3, c4⟩ := box5 b1
  clear hT b1 g1 ho
  unfold rcV
  by_cases hk : 1 ≤ r.k ∧ r.k ≤ 5
  · have q := isKind_any r.k (w.alloc (.cells (rcC r).toArray 46))
    rw [decide_eq_true hk] at q
    have q2 := mayBe_any r K.out hk _ T1.out
    unfold rcV at q2
    by_cases hm : r.May
    · rw [decide_eq_true hm] at q2
      rw [show chk r = 0 from if_pos hm]
      unfold rcC at *
      clear hk hm
      go_enter Tryz.func58, Tryz.ntmps58
      go_wp2_with fail
      refine q.mono ?_
      rintro e w3 ⟨rfl, hw⟩
      obtain rfl := hw.symm
      clear hw q
      go_wp2_with fail
      refine q2.mono ?_
      rintro e w3 ⟨rfl, hg⟩
      have HG := hide (grown_trans G.out hg)
      clear hg q2
      go_wp2
      go_ret
      exact ⟨rfl, HG.out⟩
    · rw [decide_eq_false hm] at q2
      rw [show chk r = 160 from if_neg hm]
      unfold rcC at *
      clear hk hm
      go_enter Tryz.func58, Tryz.ntmps58
      go_wp2_with fail
      refine q.mono ?_
      rintro e w3 ⟨rfl, hw⟩
      obtain rfl := hw.symm
      clear hw q
      go_wp2_with fail
      refine q2.mono ?_
      rintro e w3 ⟨rfl, hg⟩
      have HG := hide (grown_trans G.out hg)
      clear hg q2
      go_wp2
      go_ret
      exact ⟨rfl, HG.out⟩
  · have q := isKind_any r.k (w.alloc (.cells (rcC r).toArray 46))
    rw [decide_eq_false hk] at q
    rw [show chk r = 160 from if_neg (may_not_kind hk)]
    unfold rcC at *
    clear hk
    go_enter Tryz.func58, Tryz.ntmps58
    go_wp2_with fail
    refine q.mono ?_
    rintro e w3 ⟨rfl, hw⟩
    obtain rfl := hw.symm
    clear hw q
    go_wp2
    go_ret
    exact ⟨rfl, G.out⟩
end Go.Proofs.YtcbiloomnkbalaaGreatDoor.Rk
/- A map keyed by ints, as what it answers at each key: plain lemmas, over any program. -/
namespace Go.Proofs.YtcbiloomnkbalaaGreatDoor.U
open Go.RowKit Go.Maps Go.MapKept Go.ChangeMaps

/-- An element is held as it is. -/
def valR (v : Value) : Option (DataW Value × List MemPlace) := some (.held v, [])
/-- Block b is a map of at most n entries that answers f. -/
def MapAt (w : World) (P : Program) (k : TypeId) (b n : Nat) (f : Int → Option Value) : Prop :=
  ∃ D : DataW Value, w.ownsMap P k valR b n D ∧ ∀ x, (f x = none → Maps.has D (.int .u32 x) = false) ∧ (∀ v, f x = some v → Maps.has D (.int .u32 x) = true ∧ ∀ z, D.atKey (.int .u32 x) z = .held v)

variable {P : Program} {k : TypeId} {w : World} {b n : Nat} {f : Int → Option Value}
theorem MapAt.lt (h : MapAt w P k b n f) : b < w.heap.size := by obtain ⟨D, h, _⟩ := h; exact h.lt
theorem MapAt.mono (h : MapAt w P k b n f) {n' : Nat} (hn : n ≤ n') : MapAt w P k b n' f := by
  obtain ⟨D, h, hf⟩ := h; exact ⟨D, h.mono hn, hf⟩
theorem MapAt.block (h : MapAt w P k b n f) : ∃ es clock, w.heap[b]? = some (.map es clock) := by
  obtain ⟨D, ⟨es, clock, h, _⟩, _⟩ := h; exact ⟨es, clock, h⟩
theorem MapAt.same (h : MapAt w P k b n f) {w' : World} (hb : w'.heap[b]? = w.heap[b]?) : MapAt w' P k b n f := by
  obtain ⟨D, ⟨es, clock, h1, h2⟩, hf⟩ := h; exact ⟨D, ⟨es, clock, hb.trans h1, h2⟩, hf⟩
theorem MapAt.moved (h : MapAt w P k b n f) {w' : World} {b' : Nat} (hb : w'.heap[b']? = w.heap[b]?) : MapAt w' P k b' n f := by
  obtain ⟨D, ⟨es, clock, h1, h2⟩, hf⟩ := h; exact ⟨D, ⟨es, clock, hb.trans h1, h2⟩, hf⟩
theorem mapAt_made {b : Nat} {clock : Nat} (h : w.heap[b]? = some (.map #[] clock)) : MapAt w P k b 0 (fun _ => none) := by
  refine ⟨.map [], ⟨#[], clock, h, ⟨by simp, stamped_empty _, by simp⟩, Nat.le_refl _, rfl⟩, fun x => ⟨fun _ => rfl, fun v h => by cases h⟩⟩

theorem MapAt.look {t e : TypeId} (h : MapAt w P k b n f) (hk : P.underlying k = some (.int .u32)) (ht : P.underlying t = some (.map k e)) {z : Value} (hz : (zeroValue e).run P w = .ok z w) {x : Int} (hx : (Lit.int .u32 x).wf = true) :
    (Instr.lookup t (.map (some b)) (.int .u32 x) true).run P w = .ok (.tuple #[(f x).getD z, .bool (f x).isSome]) w := by
  obtain ⟨D, hD, hf⟩ := h
  obtain ⟨v, ps, hrun, hv⟩ := hD.look_ok (int_keyed hk) ht hz (zd := .held z) (zp := []) rfl (keyOf_int_mk hk hx)
  rw [hrun]
  cases hfx : f x with
  | none =>
    rw [(hf x).1 hfx]
    rw [atKey_of_not_has ((hf x).1 hfx)] at hv
    simp [valR] at hv
    simp [hv]
  | some u =>
    obtain ⟨h1, h2⟩ := (hf x).2 u hfx
    rw [h1]
    rw [h2] at hv
    simp [valR] at hv
    simp [hv]

theorem lit_ne {x y : Int} (h : x ≠ y) : Lit.int .u32 x ≠ Lit.int .u32 y := fun e => by cases e; exact h rfl

theorem MapAt.store {t e : TypeId} (h : MapAt w P k b n f) (hk : P.underlying k = some (.int .u32)) (ht : P.underlying t = some (.map k e)) (hn : n < maxLen) {x : Int} (hx : (Lit.int .u32 x).wf = true) (val : Value) :
    ∃ w', (Instr.mapUpdate t (.map (some b)) (.int .u32 x) val).run P w = .ok () w' ∧ MapAt w' P k b (n + 1) (fun y => if y = x then some val else f y) ∧ w.grownBy w' (some b) := by
  obtain ⟨D, hD, hf⟩ := h
  obtain ⟨w', hrun, hD', hg⟩ := hD.update (int_keyed hk) ht hn (keyOf_int_mk hk hx) (val := val) (d := .held val) (ps := []) rfl
  refine ⟨w', hrun, ⟨_, hD', fun y => ?_⟩, hg⟩
  have hK : WideAt.IsKeyLit (.int .u32 x) := by trivial
  by_cases hy : y = x
  · subst hy
    refine ⟨fun h => by simp at h, fun v h => ?_⟩
    simp at h
    subst h
    exact ⟨has_put_same hD.isMap hK _, fun z => atKey_put_same hD.isMap hK _ z⟩
  · show ((if y = x then some val else f y) = none → _) ∧ ∀ v, (if y = x then some val else f y) = some v → _
    rw [if_neg hy, has_put_other (lit_ne hy)]
    refine ⟨(hf y).1, fun v h => ⟨((hf y).2 v h).1, fun z => ?_⟩⟩
    rw [atKey_put_other (lit_ne hy)]
    exact ((hf y).2 v h).2 z

theorem MapAt.clear {t e : TypeId} (h : MapAt w P k b n f) (ht : P.underlying t = some (.map k e)) (ty : TypeId) :
    ∃ w', (Builtin.clear_ #[t] ty #[.map (some b)]).run P w = .ok (.tuple #[]) w' ∧ MapAt w' P k b 0 (fun _ => none) ∧ w.grownBy w' (some b) := by
  obtain ⟨es, clock, hb⟩ := h.block
  refine ⟨setBlock w b (.map #[] clock), ?_, mapAt_made (heap_setBlock_same hb _), ⟨rfl, rfl, rfl, by simp [setBlock], fun i _ hi => heap_setBlock_other hb _ (fun e => hi (by rw [e]))⟩⟩
  simp [Builtin.clear_, run_underlying ht, MapKept.run_getObj_map hb, MapKept.run_setObj_map _ hb, Result.andThen, setBlock]

open Go.Maps Go.MapKept Go.ChangeMaps in
theorem MapAt.drop {P : Program} {k : TypeId} {w : World} {b n : Nat} {f : Int → Option Value} {t e : TypeId} (h : MapAt w P k b n f) (hk : P.underlying k = some (.int .u32)) (ht : P.underlying t = some (.map k e)) {x : Int} (hx : (Lit.int .u32 x).wf = true) (ty : TypeId) :
    ∃ w', (Builtin.delete_ #[t, k] ty #[.map (some b), .int .u32 x]).run P w = .ok (.tuple #[]) w' ∧ MapAt w' P k b n (fun y => if y = x then none else f y) ∧ w.grownBy w' (some b) := by
  obtain ⟨D, hD, hf⟩ := h
  obtain ⟨w', hrun, hD', hg⟩ := hD.drop (int_keyed hk) ht (keyOf_int_mk hk hx) ty
  refine ⟨w', hrun, ⟨_, hD', fun y => ?_⟩, hg.grown⟩
  by_cases hy : y = x
  · subst hy
    exact ⟨fun _ => has_del_same, fun v h => by simp at h⟩
  · show ((if y = x then none else f y) = none → _) ∧ ∀ v, (if y = x then none else f y) = some v → _
    rw [if_neg hy, has_del_other (lit_ne hy)]
    refine ⟨(hf y).1, fun v h => ⟨((hf y).2 v h).1, fun z => ?_⟩⟩
    rw [atKey_del_other (lit_ne hy)]
    exact ((hf y).2 v h).2 z
open Go.Maps Go.MapKept Go.ChangeMaps in
theorem MapAt.get {P : Program} {k : TypeId} {w : World} {b n : Nat} {f : Int → Option Value} {t e : TypeId} (h : MapAt w P k b n f) (hk : P.underlying k = some (.int .u32)) (ht : P.underlying t = some (.map k e)) {z : Value} (hz : (zeroValue e).run P w = .ok z w) {x : Int} (hx : (Lit.int .u32 x).wf = true) :
    (Instr.lookup t (.map (some b)) (.int .u32 x) false).run P w = .ok ((f x).getD z) w := by
  obtain ⟨D, hD, hf⟩ := h
  obtain ⟨v, ps, hrun, hv⟩ := hD.lookup (int_keyed hk) ht hz (zd := .held z) (zp := []) rfl (keyOf_int_mk hk hx)
  rw [hrun]
  cases hfx : f x with
  | none =>
    rw [atKey_of_not_has ((hf x).1 hfx)] at hv
    simp [valR] at hv
    simp [hv]
  | some u =>
    obtain ⟨h1, h2⟩ := (hf x).2 u hfx
    rw [h2] at hv
    simp [valR] at hv
    simp [hv]
theorem MapAt.congr {P : Program} {k : TypeId} {w : World} {b n : Nat} {f g : Int → Option Value} (h : MapAt w P k b n f) (e : ∀ x, f x = g x) : MapAt w P k b n g := by
  rw [← show f = g from funext e]; exact h

end Go.Proofs.YtcbiloomnkbalaaGreatDoor.U
