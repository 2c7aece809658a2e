/- Texts joined: JnAd. -/
import Derived.Test.YtinkkocleognbaaGreatDoorJuAc
import Derived.Test.YtinkkocleognbaaGreatDoorJuAa
import Derived.WalkKit
import Derived.Maps.OwnSet
import Derived.Shelf.SlMaps.Clone
import Derived.Test.YtinkkocleognbaaGreatDoorJuAb
/- Texts joined: RkRb, UMap, Bk0, HpHx. -/
/- records: mayBe, Check, Size. -/
namespace Go.Proofs.YtinkkocleognbaaGreatDoor.Rk
open Go.RowKit
attribute [local go_sem ↓] Go.wp_at_zero Go.wp_at_succ
theorem box5 {w : World} {g : Nat} {t : TypeId} {x y z u v : Value} (h : w.heap[g]? = some (.cells [x, y, z, u, v].toArray t (0, 0))) : w.cell? ⟨g, 0, none⟩ = some x ∧ w.cell? ⟨g, 1, none⟩ = some y ∧ w.cell? ⟨g, 2, none⟩ = some z ∧ w.cell? ⟨g, 3, none⟩ = some u ∧ w.cell? ⟨g, 4, none⟩ = some v :=
  ⟨cell_row h 0, cell_row h 1, cell_row h 2, cell_row h 3, cell_row h 4⟩
theorem box4 {w : World} {g : Nat} {t : TypeId} {x y z u : Value} (h : w.heap[g]? = some (.cells [x, y, z, u].toArray t (0, 0))) : w.cell? ⟨g, 0, none⟩ = some x ∧ w.cell? ⟨g, 1, none⟩ = some y ∧ w.cell? ⟨g, 2, none⟩ = some z ∧ w.cell? ⟨g, 3, none⟩ = some u :=
  ⟨cell_row h 0, cell_row h 1, cell_row h 2, cell_row h 3⟩
/-- What is asked of a record of a kind that there is. -/
def mayB (r : Rc) : Bool := isR (fI r.k) r.i 1 4294967295 && (isR (fS r.k) r.s 0 1023 && (isR (fU r.k) r.u 1 1099511627776 && isR (fC r.k) r.c 1 1099511627776))
theorem mayB_may {r : Rc} (ho : r.Ok) (hk : 1 ≤ r.k ∧ r.k ≤ 5) : mayB r = decide r.May := by
  have h1 := ho.i1
  obtain ⟨k, i, s, u, c⟩ := r
  dsimp only at *
  have hk5 : k = 1 ∨ k = 2 ∨ k = 3 ∨ k = 4 ∨ k = 5 := by omega
  unfold mayB Rc.May isR mxC
  rcases hk5 with rfl | rfl | rfl | rfl | rfl <;> simp [fI, fS, fU, fC] <;> simp only [← Bool.decide_and, decide_eq_decide] <;> omega

theorem tab1 {w : World} (h : Tab w) : w.cell? ⟨0, 4, none⟩ = some (.bool true) ∧ w.cell? ⟨0, 5, none⟩ = some (.bool true) ∧ w.cell? ⟨0, 6, none⟩ = some (.bool true) ∧ w.cell? ⟨0, 7, none⟩ = some (.bool false) :=
  ⟨h 4 (by decide), h 5 (by decide), h 6 (by decide), h 7 (by decide)⟩
theorem tab2 {w : World} (h : Tab w) : w.cell? ⟨0, 8, none⟩ = some (.bool true) ∧ w.cell? ⟨0, 9, none⟩ = some (.bool false) ∧ w.cell? ⟨0, 10, none⟩ = some (.bool false) ∧ w.cell? ⟨0, 11, none⟩ = some (.bool false) :=
  ⟨h 8 (by decide), h 9 (by decide), h 10 (by decide), h 11 (by decide)⟩
theorem tab3 {w : World} (h : Tab w) : w.cell? ⟨0, 12, none⟩ = some (.bool true) ∧ w.cell? ⟨0, 13, none⟩ = some (.bool false) ∧ w.cell? ⟨0, 14, none⟩ = some (.bool false) ∧ w.cell? ⟨0, 15, none⟩ = some (.bool false) :=
  ⟨h 12 (by decide), h 13 (by decide), h 14 (by decide), h 15 (by decide)⟩
theorem tab4 {w : World} (h : Tab w) : w.cell? ⟨0, 16, none⟩ = some (.bool true) ∧ w.cell? ⟨0, 17, none⟩ = some (.bool true) ∧ w.cell? ⟨0, 18, none⟩ = some (.bool false) ∧ w.cell? ⟨0, 19, none⟩ = some (.bool false) :=
  ⟨h 16 (by decide), h 17 (by decide), h 18 (by decide), h 19 (by decide)⟩
theorem tab5 {w : World} (h : Tab w) : w.cell? ⟨0, 20, none⟩ = some (.bool false) ∧ w.cell? ⟨0, 21, none⟩ = some (.bool false) ∧ w.cell? ⟨0, 22, none⟩ = some (.bool false) ∧ w.cell? ⟨0, 23, none⟩ = some (.bool true) :=
  ⟨h 20 (by decide), h 21 (by decide), h 22 (by decide), h 23 (by decide)⟩
theorem two_boxes (w : World) (A B : List Value) (tA tB : TypeId) : ((w.alloc (.cells A.toArray tA)).alloc (.cells B.toArray tB)).heap[w.heap.size]? = some (.cells A.toArray tA (0, 0)) ∧ ((w.alloc (.cells A.toArray tA)).alloc (.cells B.toArray tB)).heap[w.heap.size + 1]? = some (.cells B.toArray tB (0, 0)) ∧ w.grownBy ((w.alloc (.cells A.toArray tA)).alloc (.cells B.toArray tB)) none := by
  have g2 := World.grownBy_alloc (w.alloc (.cells A.toArray tA)) (.cells B.toArray tB) none
  have b1 := heap_alloc_new w (.cells A.toArray tA)
  refine ⟨(g2.block _ (row_lt b1) (by simp)).trans b1, ?_, grown_trans (World.grownBy_alloc w _ none) g2⟩
  have := heap_alloc_new (w.alloc (.cells A.toArray tA)) (.cells B.toArray tB)
  rwa [World.size_alloc] at this
set_option maxHeartbeats 2000000 in
theorem mayBe_1 (i s u c : Int) (hi : IntKind.i64.wrap i = i) (w : World) (hT : Tab w) : Calls Tryz.prog 92 #[rcV ⟨1, i, s, u, c⟩] w fun e w' => e = .returned (.bool (mayB ⟨1, i, s, u, c⟩)) ∧ w.grownBy w' none := by
  have hm : mayB ⟨1, i, s, u, c⟩ = (isR true i 1 4294967295 && (isR true s 0 1023 && (isR true u 1 1099511627776 && isR false c 1 1099511627776))) := rfl
  rw [hm]
  clear hm
  have q1 := isRight_any true i 1 4294967295
  have q2 := isRight_any true s 0 1023
  have q3 := isRight_any true u 1 1099511627776
  have q4 := isRight_any false c 1 1099511627776
  generalize isR true i 1 4294967295 = b1 at *
  generalize isR true s 0 1023 = b2 at *
  generalize isR true u 1 1099511627776 = b3 at *
  generalize isR false c 1 1099511627776 = b4 at *
  unfold rcV
  obtain ⟨c0, c1, c2, c3, c4⟩ := box5 (heap_alloc_new w (.cells [Value.int .i64 1, .int .u32 i, .int .i64 s, .int .i64 u, .int .i64 c].toArray 47))
  obtain ⟨t0, t1, t2, t3⟩ := tab1 (hT.new (World.grownBy_alloc w (.cells [Value.int .i64 1, .int .u32 i, .int .i64 s, .int .i64 u, .int .i64 c].toArray 47) none))
  obtain ⟨ba, bb, bg⟩ := two_boxes w [Value.int .i64 1, .int .u32 i, .int .i64 s, .int .i64 u, .int .i64 c] [Value.bool true, .bool true, .bool true, .bool false] 47 138
  obtain ⟨d0, d1, d2, d3, d4⟩ := box5 ba
  obtain ⟨f0, f1, f2, f3⟩ := box4 bb
  have HG := hide bg
  clear ba bb bg hT
  go_enter Tryz.func92, Tryz.ntmps92
  go_wp2_with fail
  clear c0 c1 c2 c3 c4 t0 t1 t2 t3
  generalize (w.alloc (.cells #[.int .i64 1, .int .u32 i, .int .i64 s, .int .i64 u, .int .i64 c] 47)).alloc (.cells #[.bool true, .bool true, .bool true, .bool false] 138) = w2 at *
  refine (q1 w2).mono ?_
  rintro e w3 ⟨rfl, hw⟩
  obtain rfl := hw.symm
  clear hw
  cases b1 with
  | false =>
    go_wp2
    go_ret
    exact ⟨rfl, HG.out⟩
  | true =>
    go_wp2_with fail
    refine (q2 w2).mono ?_
    rintro e w3 ⟨rfl, hw⟩
    obtain rfl := hw.symm
    clear hw
    cases b2 with
    | false =>
      go_wp2
      go_ret
      exact ⟨rfl, HG.out⟩
    | true =>
      go_wp2_with fail
      refine (q3 w2).mono ?_
      rintro e w3 ⟨rfl, hw⟩
      obtain rfl := hw.symm
      clear hw
      cases b3 with
      | false =>
        go_wp2
        go_ret
        exact ⟨rfl, HG.out⟩
      | true =>
        go_wp2_with fail
        refine (q4 w2).mono ?_
        rintro e w3 ⟨rfl, hw⟩
        obtain rfl := hw.symm
        clear hw
        cases b4 <;>
        · go_wp2
          go_ret
          exact ⟨rfl, HG.out⟩
set_option maxHeartbeats 2000000 in
theorem mayBe_2 (i s u c : Int) (hi : IntKind.i64.wrap i = i) (w : World) (hT : Tab w) : Calls Tryz.prog 92 #[rcV ⟨2, i, s, u, c⟩] w fun e w' => e = .returned (.bool (mayB ⟨2, i, s, u, c⟩)) ∧ w.grownBy w' none := by
  have hm : mayB ⟨2, i, s, u, c⟩ = (isR true i 1 4294967295 && (isR false s 0 1023 && (isR false u 1 1099511627776 && isR false c 1 1099511627776))) := rfl
  rw [hm]
  clear hm
  have q1 := isRight_any true i 1 4294967295
  have q2 := isRight_any false s 0 1023
  have q3 := isRight_any false u 1 1099511627776
  have q4 := isRight_any false c 1 1099511627776
  generalize isR true i 1 4294967295 = b1 at *
  generalize isR false s 0 1023 = b2 at *
  generalize isR false u 1 1099511627776 = b3 at *
  generalize isR false c 1 1099511627776 = b4 at *
  unfold rcV
  obtain ⟨c0, c1, c2, c3, c4⟩ := box5 (heap_alloc_new w (.cells [Value.int .i64 2, .int .u32 i, .int .i64 s, .int .i64 u, .int .i64 c].toArray 47))
  obtain ⟨t0, t1, t2, t3⟩ := tab2 (hT.new (World.grownBy_alloc w (.cells [Value.int .i64 2, .int .u32 i, .int .i64 s, .int .i64 u, .int .i64 c].toArray 47) none))
  obtain ⟨ba, bb, bg⟩ := two_boxes w [Value.int .i64 2, .int .u32 i, .int .i64 s, .int .i64 u, .int .i64 c] [Value.bool true, .bool false, .bool false, .bool false] 47 138
  obtain ⟨d0, d1, d2, d3, d4⟩ := box5 ba
  obtain ⟨f0, f1, f2, f3⟩ := box4 bb
  have HG := hide bg
  clear ba bb bg hT
  go_enter Tryz.func92, Tryz.ntmps92
  go_wp2_with fail
  clear c0 c1 c2 c3 c4 t0 t1 t2 t3
  generalize (w.alloc (.cells #[.int .i64 2, .int .u32 i, .int .i64 s, .int .i64 u, .int .i64 c] 47)).alloc (.cells #[.bool true, .bool false, .bool false, .bool false] 138) = w2 at *
  refine (q1 w2).mono ?_
  rintro e w3 ⟨rfl, hw⟩
  obtain rfl := hw.symm
  clear hw
  cases b1 with
  | false =>
    go_wp2
    go_ret
    exact ⟨rfl, HG.out⟩
  | true =>
    go_wp2_with fail
    refine (q2 w2).mono ?_
    rintro e w3 ⟨rfl, hw⟩
    obtain rfl := hw.symm
    clear hw
    cases b2 with
    | false =>
      go_wp2
      go_ret
      exact ⟨rfl, HG.out⟩
    | true =>
      go_wp2_with fail
      refine (q3 w2).mono ?_
      rintro e w3 ⟨rfl, hw⟩
      obtain rfl := hw.symm
      clear hw
      cases b3 with
      | false =>
        go_wp2
        go_ret
        exact ⟨rfl, HG.out⟩
      | true =>
        go_wp2_with fail
        refine (q4 w2).mono ?_
        rintro e w3 ⟨rfl, hw⟩
        obtain rfl := hw.symm
        clear hw
        cases b4 <;>
        · go_wp2
          go_ret
          exact ⟨rfl, HG.out⟩
set_option maxHeartbeats 2000000 in
theorem mayBe_3 (i s u c : Int) (hi : IntKind.i64.wrap i = i) (w : World) (hT : Tab w) : Calls Tryz.prog 92 #[rcV ⟨3, i, s, u, c⟩] w fun e w' => e = .returned (.bool (mayB ⟨3, i, s, u, c⟩)) ∧ w.grownBy w' none := by
  have hm : mayB ⟨3, i, s, u, c⟩ = (isR true i 1 4294967295 && (isR false s 0 1023 && (isR false u 1 1099511627776 && isR false c 1 1099511627776))) := rfl
  rw [hm]
  clear hm
  have q1 := isRight_any true i 1 4294967295
  have q2 := isRight_any false s 0 1023
  have q3 := isRight_any false u 1 1099511627776
  have q4 := isRight_any false c 1 1099511627776
  generalize isR true i 1 4294967295 = b1 at *
  generalize isR false s 0 1023 = b2 at *
  generalize isR false u 1 1099511627776 = b3 at *
  generalize isR false c 1 1099511627776 = b4 at *
  unfold rcV
  obtain ⟨c0, c1, c2, c3, c4⟩ := box5 (heap_alloc_new w (.cells [Value.int .i64 3, .int .u32 i, .int .i64 s, .int .i64 u, .int .i64 c].toArray 47))
  obtain ⟨t0, t1, t2, t3⟩ := tab3 (hT.new (World.grownBy_alloc w (.cells [Value.int .i64 3, .int .u32 i, .int .i64 s, .int .i64 u, .int .i64 c].toArray 47) none))
  obtain ⟨ba, bb, bg⟩ := two_boxes w [Value.int .i64 3, .int .u32 i, .int .i64 s, .int .i64 u, .int .i64 c] [Value.bool true, .bool false, .bool false, .bool false] 47 138
  obtain ⟨d0, d1, d2, d3, d4⟩ := box5 ba
  obtain ⟨f0, f1, f2, f3⟩ := box4 bb
  have HG := hide bg
  clear ba bb bg hT
  go_enter Tryz.func92, Tryz.ntmps92
  go_wp2_with fail
  clear c0 c1 c2 c3 c4 t0 t1 t2 t3
  generalize (w.alloc (.cells #[.int .i64 3, .int .u32 i, .int .i64 s, .int .i64 u, .int .i64 c] 47)).alloc (.cells #[.bool true, .bool false, .bool false, .bool false] 138) = w2 at *
  refine (q1 w2).mono ?_
  rintro e w3 ⟨rfl, hw⟩
  obtain rfl := hw.symm
  clear hw
  cases b1 with
  | false =>
    go_wp2
    go_ret
    exact ⟨rfl, HG.out⟩
  | true =>
    go_wp2_with fail
    refine (q2 w2).mono ?_
    rintro e w3 ⟨rfl, hw⟩
    obtain rfl := hw.symm
    clear hw
    cases b2 with
    | false =>
      go_wp2
      go_ret
      exact ⟨rfl, HG.out⟩
    | true =>
      go_wp2_with fail
      refine (q3 w2).mono ?_
      rintro e w3 ⟨rfl, hw⟩
      obtain rfl := hw.symm
      clear hw
      cases b3 with
      | false =>
        go_wp2
        go_ret
        exact ⟨rfl, HG.out⟩
      | true =>
        go_wp2_with fail
        refine (q4 w2).mono ?_
        rintro e w3 ⟨rfl, hw⟩
        obtain rfl := hw.symm
        clear hw
        cases b4 <;>
        · go_wp2
          go_ret
          exact ⟨rfl, HG.out⟩
set_option maxHeartbeats 2000000 in
theorem mayBe_4 (i s u c : Int) (hi : IntKind.i64.wrap i = i) (w : World) (hT : Tab w) : Calls Tryz.prog 92 #[rcV ⟨4, i, s, u, c⟩] w fun e w' => e = .returned (.bool (mayB ⟨4, i, s, u, c⟩)) ∧ w.grownBy w' none := by
  have hm : mayB ⟨4, i, s, u, c⟩ = (isR true i 1 4294967295 && (isR true s 0 1023 && (isR false u 1 1099511627776 && isR false c 1 1099511627776))) := rfl
  rw [hm]
  clear hm
  have q1 := isRight_any true i 1 4294967295
  have q2 := isRight_any true s 0 1023
  have q3 := isRight_any false u 1 1099511627776
  have q4 := isRight_any false c 1 1099511627776
  generalize isR true i 1 4294967295 = b1 at *
  generalize isR true s 0 1023 = b2 at *
  generalize isR false u 1 1099511627776 = b3 at *
  generalize isR false c 1 1099511627776 = b4 at *
  unfold rcV
  obtain ⟨c0, c1, c2, c3, c4⟩ := box5 (heap_alloc_new w (.cells [Value.int .i64 4, .int .u32 i, .int .i64 s, .int .i64 u, .int .i64 c].toArray 47))
  obtain ⟨t0, t1, t2, t3⟩ := tab4 (hT.new (World.grownBy_alloc w (.cells [Value.int .i64 4, .int .u32 i, .int .i64 s, .int .i64 u, .int .i64 c].toArray 47) none))
  obtain ⟨ba, bb, bg⟩ := two_boxes w [Value.int .i64 4, .int .u32 i, .int .i64 s, .int .i64 u, .int .i64 c] [Value.bool true, .bool true, .bool false, .bool false] 47 138
  obtain ⟨d0, d1, d2, d3, d4⟩ := box5 ba
  obtain ⟨f0, f1, f2, f3⟩ := box4 bb
  have HG := hide bg
  clear ba bb bg hT
  go_enter Tryz.func92, Tryz.ntmps92
  go_wp2_with fail
  clear c0 c1 c2 c3 c4 t0 t1 t2 t3
  generalize (w.alloc (.cells #[.int .i64 4, .int .u32 i, .int .i64 s, .int .i64 u, .int .i64 c] 47)).alloc (.cells #[.bool true, .bool true, .bool false, .bool false] 138) = w2 at *
  refine (q1 w2).mono ?_
  rintro e w3 ⟨rfl, hw⟩
  obtain rfl := hw.symm
  clear hw
  cases b1 with
  | false =>
    go_wp2
    go_ret
    exact ⟨rfl, HG.out⟩
  | true =>
    go_wp2_with fail
    refine (q2 w2).mono ?_
    rintro e w3 ⟨rfl, hw⟩
    obtain rfl := hw.symm
    clear hw
    cases b2 with
    | false =>
      go_wp2
      go_ret
      exact ⟨rfl, HG.out⟩
    | true =>
      go_wp2_with fail
      refine (q3 w2).mono ?_
      rintro e w3 ⟨rfl, hw⟩
      obtain rfl := hw.symm
      clear hw
      cases b3 with
      | false =>
        go_wp2
        go_ret
        exact ⟨rfl, HG.out⟩
      | true =>
        go_wp2_with fail
        refine (q4 w2).mono ?_
        rintro e w3 ⟨rfl, hw⟩
        obtain rfl := hw.symm
        clear hw
        cases b4 <;>
        · go_wp2
          go_ret
          exact ⟨rfl, HG.out⟩
set_option maxHeartbeats 2000000 in
theorem mayBe_5 (i s u c : Int) (hi : IntKind.i64.wrap i = i) (w : World) (hT : Tab w) : Calls Tryz.prog 92 #[rcV ⟨5, i, s, u, c⟩] w fun e w' => e = .returned (.bool (mayB ⟨5, i, s, u, c⟩)) ∧ w.grownBy w' none := by
  have hm : mayB ⟨5, i, s, u, c⟩ = (isR false i 1 4294967295 && (isR false s 0 1023 && (isR false u 1 1099511627776 && isR true c 1 1099511627776))) := rfl
  rw [hm]
  clear hm
  have q1 := isRight_any false i 1 4294967295
  have q2 := isRight_any false s 0 1023
  have q3 := isRight_any false u 1 1099511627776
  have q4 := isRight_any true c 1 1099511627776
  generalize isR false i 1 4294967295 = b1 at *
  generalize isR false s 0 1023 = b2 at *
  generalize isR false u 1 1099511627776 = b3 at *
  generalize isR true c 1 1099511627776 = b4 at *
  unfold rcV
  obtain ⟨c0, c1, c2, c3, c4⟩ := box5 (heap_alloc_new w (.cells [Value.int .i64 5, .int .u32 i, .int .i64 s, .int .i64 u, .int .i64 c].toArray 47))
  obtain ⟨t0, t1, t2, t3⟩ := tab5 (hT.new (World.grownBy_alloc w (.cells [Value.int .i64 5, .int .u32 i, .int .i64 s, .int .i64 u, .int .i64 c].toArray 47) none))
  obtain ⟨ba, bb, bg⟩ := two_boxes w [Value.int .i64 5, .int .u32 i, .int .i64 s, .int .i64 u, .int .i64 c] [Value.bool false, .bool false, .bool false, .bool true] 47 138
  obtain ⟨d0, d1, d2, d3, d4⟩ := box5 ba
  obtain ⟨f0, f1, f2, f3⟩ := box4 bb
  have HG := hide bg
  clear ba bb bg hT
  go_enter Tryz.func92, Tryz.ntmps92
  go_wp2_with fail
  clear c0 c1 c2 c3 c4 t0 t1 t2 t3
  generalize (w.alloc (.cells #[.int .i64 5, .int .u32 i, .int .i64 s, .int .i64 u, .int .i64 c] 47)).alloc (.cells #[.bool false, .bool false, .bool false, .bool true] 138) = w2 at *
  refine (q1 w2).mono ?_
  rintro e w3 ⟨rfl, hw⟩
  obtain rfl := hw.symm
  clear hw
  cases b1 with
  | false =>
    go_wp2
    go_ret
    exact ⟨rfl, HG.out⟩
  | true =>
    go_wp2_with fail
    refine (q2 w2).mono ?_
    rintro e w3 ⟨rfl, hw⟩
    obtain rfl := hw.symm
    clear hw
    cases b2 with
    | false =>
      go_wp2
      go_ret
      exact ⟨rfl, HG.out⟩
    | true =>
      go_wp2_with fail
      refine (q3 w2).mono ?_
      rintro e w3 ⟨rfl, hw⟩
      obtain rfl := hw.symm
      clear hw
      cases b3 with
      | false =>
        go_wp2
        go_ret
        exact ⟨rfl, HG.out⟩
      | true =>
        go_wp2_with fail
        refine (q4 w2).mono ?_
        rintro e w3 ⟨rfl, hw⟩
        obtain rfl := hw.symm
        clear hw
        cases b4 <;>
        · go_wp2
          go_ret
          exact ⟨rfl, HG.out⟩
theorem wrap_id {r : Rc} (ho : r.Ok) : IntKind.i64.wrap r.i = r.i := by rw [IntKind.wrap_i64]; have := ho.i0; have := ho.i1; omega
theorem mayBe_any (r : Rc) (ho : r.Ok) (hk : 1 ≤ r.k ∧ r.k ≤ 5) (w : World) (hT : Tab w) : Calls Tryz.prog 92 #[rcV r] w fun e w' => e = .returned (.bool (decide r.May)) ∧ w.grownBy w' none := by
  rw [← mayB_may ho hk]
  have hi := wrap_id ho
  obtain ⟨k, i, s, u, c⟩ := r
  dsimp only at hk hi
  have hk5 : k = 1 ∨ k = 2 ∨ k = 3 ∨ k = 4 ∨ k = 5 := by omega
  rcases hk5 with rfl | rfl | rfl | rfl | rfl
  · exact mayBe_1 i s u c hi w hT
  · exact mayBe_2 i s u c hi w hT
  · exact mayBe_3 i s u c hi w hT
  · exact mayBe_4 i s u c hi w hT
  · exact mayBe_5 i s u c hi w hT
theorem may_not_kind {r : Rc} (h : ¬ (1 ≤ r.k ∧ r.k ≤ 5)) : ¬ r.May := fun hm => by have := may_kind hm; omega
/-- Check. -/
def chk (r : Rc) : Int := if r.May then 0 else 160
theorem check_any (r : Rc) (ho : r.Ok) (w : World) (hT : Tab w) : Calls Tryz.prog 68 #[rcV r] w fun e w' => e = .returned (.int .i64 (chk r)) ∧ w.grownBy w' none := by
  have b1 := heap_alloc_new w (.cells (rcC r).toArray 47)
  have g1 := World.grownBy_alloc w (.cells (rcC r).toArray 47) none
  have T1 := hide (hT.new g1)
  have K := hide ho
  have G := hide g1
  obtain ⟨c0, c1, c2, c3, c4⟩ := box5 b1
  clear hT b1 g1 ho
  unfold rcV
  by_cases hk : 1 ≤ r.k ∧ r.k ≤ 5
  · have q := isKind_any r.k (w.alloc (.cells (rcC r).toArray 47))
    rw [decide_eq_true hk] at q
    have q2 := mayBe_any r K.out hk _ T1.out
    unfold rcV at q2
    by_cases hm : r.May
    · rw [decide_eq_true hm] at q2
      rw [show chk r = 0 from if_pos hm]
      unfold rcC at *
      clear hk hm
      go_enter Tryz.func68, Tryz.ntmps68
      go_wp2_with fail
      refine q.mono ?_
      rintro e w3 ⟨rfl, hw⟩
      obtain rfl := hw.symm
      clear hw q
      go_wp2_with fail
      refine q2.mono ?_
      rintro e w3 ⟨rfl, hg⟩
      have HG := hide (grown_trans G.out hg)
      clear hg q2
      go_wp2
      go_ret
      exact ⟨rfl, HG.out⟩
    · rw [decide_eq_false hm] at q2
      rw [show chk r = 160 from if_neg hm]
      unfold rcC at *
      clear hk hm
      go_enter Tryz.func68, Tryz.ntmps68
      go_wp2_with fail
      refine q.mono ?_
      rintro e w3 ⟨rfl, hw⟩
      obtain rfl := hw.symm
      clear hw q
      go_wp2_with fail
      refine q2.mono ?_
      rintro e w3 ⟨rfl, hg⟩
      have HG := hide (grown_trans G.out hg)
      clear hg q2
      go_wp2
      go_ret
      exact ⟨rfl, HG.out⟩
  · have q := isKind_any r.k (w.alloc (.cells (rcC r).toArray 47))
    rw [decide_eq_false hk] at q
    rw [show chk r = 160 from if_neg (may_not_kind hk)]
    unfold rcC at *
    clear hk
    go_enter Tryz.func68, Tryz.ntmps68
    go_wp2_with fail
    refine q.mono ?_
    rintro e w3 ⟨rfl, hw⟩
    obtain rfl := hw.symm
    clear hw q
    go_wp2
    go_ret
    exact ⟨rfl, G.out⟩
end Go.Proofs.YtinkkocleognbaaGreatDoor.Rk
/- A map keyed by ints, as what it answers at each key: plain lemmas, over any program. -/
namespace Go.Proofs.YtinkkocleognbaaGreatDoor.U
open Go.RowKit Go.Maps Go.MapKept Go.ChangeMaps

/-- An element is held as it is. -/
def valR (v : Value) : Option (DataW Value × List MemPlace) := some (.held v, [])
/-- Block b is a map of at most n entries that answers f. -/
def MapAt (w : World) (P : Program) (k : TypeId) (b n : Nat) (f : Int → Option Value) : Prop :=
  ∃ D : DataW Value, w.ownsMap P k valR b n D ∧ ∀ x, (f x = none → Maps.has D (.int .u32 x) = false) ∧ (∀ v, f x = some v → Maps.has D (.int .u32 x) = true ∧ ∀ z, D.atKey (.int .u32 x) z = .held v)

variable {P : Program} {k : TypeId} {w : World} {b n : Nat} {f : Int → Option Value}
theorem MapAt.lt (h : MapAt w P k b n f) : b < w.heap.size := by obtain ⟨D, h, _⟩ := h; exact h.lt
theorem MapAt.mono (h : MapAt w P k b n f) {n' : Nat} (hn : n ≤ n') : MapAt w P k b n' f := by
  obtain ⟨D, h, hf⟩ := h; exact ⟨D, h.mono hn, hf⟩
theorem MapAt.block (h : MapAt w P k b n f) : ∃ es clock, w.heap[b]? = some (.map es clock) := by
  obtain ⟨D, ⟨es, clock, h, _⟩, _⟩ := h; exact ⟨es, clock, h⟩
theorem MapAt.same (h : MapAt w P k b n f) {w' : World} (hb : w'.heap[b]? = w.heap[b]?) : MapAt w' P k b n f := by
  obtain ⟨D, ⟨es, clock, h1, h2⟩, hf⟩ := h; exact ⟨D, ⟨es, clock, hb.trans h1, h2⟩, hf⟩
theorem MapAt.moved (h : MapAt w P k b n f) {w' : World} {b' : Nat} (hb : w'.heap[b']? = w.heap[b]?) : MapAt w' P k b' n f := by
  obtain ⟨D, ⟨es, clock, h1, h2⟩, hf⟩ := h; exact ⟨D, ⟨es, clock, hb.trans h1, h2⟩, hf⟩
theorem mapAt_made {b : Nat} {clock : Nat} (h : w.heap[b]? = some (.map #[] clock)) : MapAt w P k b 0 (fun _ => none) := by
  refine ⟨.map [], ⟨#[], clock, h, ⟨by simp, stamped_empty _, by simp⟩, Nat.le_refl _, rfl⟩, fun x => ⟨fun _ => rfl, fun v h => by cases h⟩⟩

theorem MapAt.look {t e : TypeId} (h : MapAt w P k b n f) (hk : P.underlying k = some (.int .u32)) (ht : P.underlying t = some (.map k e)) {z : Value} (hz : (zeroValue e).run P w = .ok z w) {x : Int} (hx : (Lit.int .u32 x).wf = true) :
    (Instr.lookup t (.map (some b)) (.int .u32 x) true).run P w = .ok (.tuple #[(f x).getD z, .bool (f x).isSome]) w := by
  obtain ⟨D, hD, hf⟩ := h
  obtain ⟨v, ps, hrun, hv⟩ := hD.look_ok (int_keyed hk) ht hz (zd := .held z) (zp := []) rfl (keyOf_int_mk hk hx)
  rw [hrun]
  cases hfx : f x with
  | none =>
    rw [(hf x).1 hfx]
    rw [atKey_of_not_has ((hf x).1 hfx)] at hv
    simp [valR] at hv
    simp [hv]
  | some u =>
    obtain ⟨h1, h2⟩ := (hf x).2 u hfx
    rw [h1]
    rw [h2] at hv
    simp [valR] at hv
    simp [hv]

theorem lit_ne {x y : Int} (h : x ≠ y) : Lit.int .u32 x ≠ Lit.int .u32 y := fun e => by cases e; exact h rfl

theorem MapAt.store {t e : TypeId} (h : MapAt w P k b n f) (hk : P.underlying k = some (.int .u32)) (ht : P.underlying t = some (.map k e)) (hn : n < maxLen) {x : Int} (hx : (Lit.int .u32 x).wf = true) (val : Value) :
    ∃ w', (Instr.mapUpdate t (.map (some b)) (.int .u32 x) val).run P w = .ok () w' ∧ MapAt w' P k b (n + 1) (fun y => if y = x then some val else f y) ∧ w.grownBy w' (some b) := by
  obtain ⟨D, hD, hf⟩ := h
  obtain ⟨w', hrun, hD', hg⟩ := hD.update (int_keyed hk) ht hn (keyOf_int_mk hk hx) (val := val) (d := .held val) (ps := []) rfl
  refine ⟨w', hrun, ⟨_, hD', fun y => ?_⟩, hg⟩
  have hK : WideAt.IsKeyLit (.int .u32 x) := by trivial
  by_cases hy : y = x
  · subst hy
    refine ⟨fun h => by simp at h, fun v h => ?_⟩
    simp at h
    subst h
    exact ⟨has_put_same hD.isMap hK _, fun z => atKey_put_same hD.isMap hK _ z⟩
  · show ((if y = x then some val else f y) = none → _) ∧ ∀ v, (if y = x then some val else f y) = some v → _
    rw [if_neg hy, has_put_other (lit_ne hy)]
    refine ⟨(hf y).1, fun v h => ⟨((hf y).2 v h).1, fun z => ?_⟩⟩
    rw [atKey_put_other (lit_ne hy)]
    exact ((hf y).2 v h).2 z

open Go.Maps Go.MapKept Go.ChangeMaps in
theorem MapAt.drop {P : Program} {k : TypeId} {w : World} {b n : Nat} {f : Int → Option Value} {t e : TypeId} (h : MapAt w P k b n f) (hk : P.underlying k = some (.int .u32)) (ht : P.underlying t = some (.map k e)) {x : Int} (hx : (Lit.int .u32 x).wf = true) (ty : TypeId) :
    ∃ w', (Builtin.delete_ #[t, k] ty #[.map (some b), .int .u32 x]).run P w = .ok (.tuple #[]) w' ∧ MapAt w' P k b n (fun y => if y = x then none else f y) ∧ w.grownBy w' (some b) := by
  obtain ⟨D, hD, hf⟩ := h
  obtain ⟨w', hrun, hD', hg⟩ := hD.drop (int_keyed hk) ht (keyOf_int_mk hk hx) ty
  refine ⟨w', hrun, ⟨_, hD', fun y => ?_⟩, hg.grown⟩
  by_cases hy : y = x
  · subst hy
    exact ⟨fun _ => has_del_same, fun v h => by simp at h⟩
  · show ((if y = x then none else f y) = none → _) ∧ ∀ v, (if y = x then none else f y) = some v → _
    rw [if_neg hy, has_del_other (lit_ne hy)]
    refine ⟨(hf y).1, fun v h => ⟨((hf y).2 v h).1, fun z => ?_⟩⟩
    rw [atKey_del_other (lit_ne hy)]
    exact ((hf y).2 v h).2 z
theorem MapAt.congr {P : Program} {k : TypeId} {w : World} {b n : Nat} {f g : Int → Option Value} (h : MapAt w P k b n f) (e : ∀ x, f x = g x) : MapAt w P k b n g := by
  rw [← show f = g from funext e]; exact h

end Go.Proofs.YtinkkocleognbaaGreatDoor.U
/- A book: numbers and lists alone, without the program. -/
namespace Go.Proofs.YtinkkocleognbaaGreatDoor

/-- A booking: id, seat, until. -/
structure Bg where
  i : Nat
  s : Nat
  u : Int
instance : Inhabited Bg := ⟨⟨0, 0, 0⟩⟩
theorem Bg.ext' {x y : Bg} (h1 : x.i = y.i) (h2 : x.s = y.s) (h3 : x.u = y.u) : x = y := by
  cases x; cases y; simp at *; exact ⟨h1, h2, h3⟩
instance : DecidableEq Bg := fun x y => if h : x.i = y.i ∧ x.s = y.s ∧ x.u = y.u then .isTrue (Bg.ext' h.1 h.2.1 h.2.2) else .isFalse (fun e => h (by rw [e]; exact ⟨rfl, rfl, rfl⟩))
/-- A book: seats, codes, group, the next id, the clock, its bookings. -/
structure Sb where
  a : Nat
  b : Nat
  c : Nat
  n : Nat
  t : Int
  L : List Bg
/-- By rising ids. -/
def AscB (L : List Bg) : Prop := L.Pairwise fun x y => x.i < y.i
/-- No two have one seat. -/
def OneS (L : List Bg) : Prop := L.Pairwise fun x y => x.s ≠ y.s
/-- It may be. -/
structure Sb.Ok (S : Sb) : Prop where
  a0 : 1 ≤ S.a
  a1 : S.a ≤ 1024
  b0 : 1 ≤ S.b
  b1 : S.b ≤ 4096
  c0 : 1 ≤ S.c
  c1 : S.c ≤ 64
  n0 : 1 ≤ S.n
  n1 : S.n < 4294967296
  t0 : 0 ≤ S.t
  t1 : S.t ≤ mxC
  asc : AscB S.L
  id : ∀ x ∈ S.L, 1 ≤ x.i ∧ x.i < S.n
  st : ∀ x ∈ S.L, x.s < S.a
  one : OneS S.L
  til : ∀ x ∈ S.L, x.u = 0 ∨ (S.t < x.u ∧ x.u ≤ mxC)
  few : S.L.length ≤ S.b
def fnd (L : List Bg) (i : Nat) : Option Bg := L.find? fun x => x.i == i
def sat (L : List Bg) (s : Nat) : Option Bg := L.find? fun x => x.s == s

theorem AscB.same {L : List Bg} (h : AscB L) {x y : Bg} (hx : x ∈ L) (hy : y ∈ L) (e : x.i = y.i) : x = y := by
  induction L with
  | nil => simp at hx
  | cons z r ih =>
    have h1 := List.pairwise_cons.1 h
    rcases List.mem_cons.1 hx with e1 | hx' <;> rcases List.mem_cons.1 hy with e2 | hy'
    · rw [e1, e2]
    · have := h1.1 y hy'; rw [← e1] at this; omega
    · have := h1.1 x hx'; rw [← e2] at this; omega
    · exact ih h1.2 hx' hy'
theorem OneS.same {L : List Bg} (h : OneS L) {x y : Bg} (hx : x ∈ L) (hy : y ∈ L) (e : x.s = y.s) : x = y := by
  induction L with
  | nil => simp at hx
  | cons z r ih =>
    have h1 := List.pairwise_cons.1 h
    rcases List.mem_cons.1 hx with e1 | hx' <;> rcases List.mem_cons.1 hy with e2 | hy'
    · rw [e1, e2]
    · exact absurd e (by rw [e1]; exact h1.1 y hy')
    · exact absurd e.symm (by rw [e2]; exact h1.1 x hx')
    · exact ih h1.2 hx' hy'
theorem fnd_some {L : List Bg} (h : AscB L) {i : Nat} {x : Bg} : fnd L i = some x ↔ x ∈ L ∧ x.i = i := by
  unfold fnd
  constructor
  · intro e
    exact ⟨List.mem_of_find?_eq_some e, by simpa using List.find?_some e⟩
  · rintro ⟨hx, rfl⟩
    cases hq : L.find? (fun y => y.i == x.i) with
    | none => exact absurd (List.find?_eq_none.1 hq x hx) (by simp)
    | some y => rw [h.same (List.mem_of_find?_eq_some hq) hx (by simpa using List.find?_some hq)]
theorem fnd_none {L : List Bg} {i : Nat} : fnd L i = none ↔ ∀ x ∈ L, x.i ≠ i := by
  unfold fnd; rw [List.find?_eq_none]; simp
theorem sat_some {L : List Bg} (h : OneS L) {s : Nat} {x : Bg} : sat L s = some x ↔ x ∈ L ∧ x.s = s := by
  unfold sat
  constructor
  · intro e
    exact ⟨List.mem_of_find?_eq_some e, by simpa using List.find?_some e⟩
  · rintro ⟨hx, rfl⟩
    cases hq : L.find? (fun y => y.s == x.s) with
    | none => exact absurd (List.find?_eq_none.1 hq x hx) (by simp)
    | some y => rw [h.same (List.mem_of_find?_eq_some hq) hx (by simpa using List.find?_some hq)]
theorem sat_none {L : List Bg} {s : Nat} : sat L s = none ↔ ∀ x ∈ L, x.s ≠ s := by
  unfold sat; rw [List.find?_eq_none]; simp
theorem sat_isSome {L : List Bg} {s : Nat} : (sat L s).isSome = true ↔ ∃ x ∈ L, x.s = s := by
  cases h : sat L s with
  | none => rw [sat_none] at h; simp; exact fun x hx e => h x hx e
  | some y => simp; exact ⟨y, List.mem_of_find?_eq_some h, by have := List.find?_some h; simpa using this⟩
/-- One booking is another one. -/
def upd (L : List Bg) (i : Nat) (y : Bg) : List Bg := L.map fun x => if x.i = i then y else x
def del (L : List Bg) (i : Nat) : List Bg := L.filter fun x => x.i != i
def tik (L : List Bg) (t : Int) : List Bg := L.filter fun x => x.u == 0 || decide (t < x.u)
theorem upd_length (L : List Bg) (i : Nat) (y : Bg) : (upd L i y).length = L.length := by simp [upd]
theorem upd_mem {L : List Bg} {i : Nat} {y z : Bg} : z ∈ upd L i y ↔ (z = y ∧ ∃ x ∈ L, x.i = i) ∨ (z ∈ L ∧ z.i ≠ i) := by
  unfold upd
  rw [List.mem_map]
  constructor
  · rintro ⟨x, hx, rfl⟩
    split
    · rename_i h; exact .inl ⟨rfl, x, hx, h⟩
    · rename_i h; exact .inr ⟨hx, h⟩
  · rintro (⟨rfl, x, hx, h⟩ | ⟨hz, h⟩)
    · exact ⟨x, hx, by rw [if_pos h]⟩
    · exact ⟨z, hz, by rw [if_neg h]⟩
theorem upd_asc {L : List Bg} (h : AscB L) {i : Nat} {y : Bg} (hy : y.i = i) : AscB (upd L i y) := by
  unfold upd AscB
  rw [List.pairwise_map]
  refine h.imp (fun {p q} hpq => ?_)
  split <;> split <;> omega
theorem upd_one {L : List Bg} (h : OneS L) (hA : AscB L) {i : Nat} {y : Bg} (hy : ∀ x ∈ L, x.i ≠ i → x.s ≠ y.s) : OneS (upd L i y) := by
  unfold upd OneS
  rw [List.pairwise_map]
  have h2 := h.and hA
  refine (List.Pairwise.imp_of_mem ?_ h2)
  rintro p q hp hq ⟨h3, h4⟩
  split <;> split
  · omega
  · rename_i e1 e2; exact fun e => hy q hq e2 e.symm
  · rename_i e1 e2; exact hy p hp e1
  · exact h3
theorem del_mem {L : List Bg} {i : Nat} {z : Bg} : z ∈ del L i ↔ z ∈ L ∧ z.i ≠ i := by simp [del]
theorem tik_mem {L : List Bg} {t : Int} {z : Bg} : z ∈ tik L t ↔ z ∈ L ∧ (z.u = 0 ∨ t < z.u) := by simp [tik]

/-- What a hold is told. -/
def holdE (S : Sb) (r : Rc) : Int :=
  if r.i ≠ (S.n : Int) then 2 else if ¬ r.s < (S.a : Int) then 140 else if r.u ≤ S.t then 173 else if (sat S.L r.s.toNat).isSome then 170 else if S.b ≤ S.L.length ∨ S.n = 4294967295 then 6 else 0
def reseatE (S : Sb) (i s : Nat) : Int :=
  match fnd S.L i with
  | none => 171
  | some x => if ¬ s < S.a then 140 else if s ≠ x.s ∧ (sat S.L s).isSome then 170 else 0
/-- What a record is told. -/
def appE (S : Sb) (r : Rc) : Int :=
  if ¬ r.May then 160
  else if r.k = 1 then holdE S r
  else if r.k = 2 ∨ r.k = 3 then (if (fnd S.L r.i.toNat).isSome then 0 else 171)
  else if r.k = 4 then reseatE S r.i.toNat r.s.toNat
  else if r.c ≤ S.t then 173 else 0
/-- What a record that is not refused makes of it. -/
def appS (S : Sb) (r : Rc) : Sb :=
  if r.k = 1 then { S with L := S.L ++ [⟨r.i.toNat, r.s.toNat, r.u⟩], n := S.n + 1 }
  else if r.k = 2 then { S with L := (fnd S.L r.i.toNat).elim S.L fun x => upd S.L x.i { x with u := 0 } }
  else if r.k = 3 then { S with L := del S.L r.i.toNat }
  else if r.k = 4 then { S with L := (fnd S.L r.i.toNat).elim S.L fun x => upd S.L x.i { x with s := r.s.toNat } }
  else { S with L := tik S.L r.c, t := r.c }
def app (S : Sb) (r : Rc) : Sb := if appE S r = 0 then appS S r else S
theorem app_no {S : Sb} {r : Rc} (h : appE S r ≠ 0) : app S r = S := by unfold app; rw [if_neg h]
theorem app_yes {S : Sb} {r : Rc} (h : appE S r = 0) : app S r = appS S r := by unfold app; rw [if_pos h]
theorem appE_may {S : Sb} {r : Rc} (h : appE S r = 0) : r.May := by
  apply Classical.byContradiction
  intro hn
  unfold appE at h
  rw [if_pos hn] at h
  cases h
theorem holdE_zero {S : Sb} {r : Rc} : holdE S r = 0 ↔ r.i = (S.n : Int) ∧ r.s < (S.a : Int) ∧ S.t < r.u ∧ sat S.L r.s.toNat = none ∧ S.L.length < S.b ∧ S.n ≠ 4294967295 := by
  unfold holdE
  by_cases h1 : r.i = (S.n : Int)
  · rw [if_neg (fun e => e h1)]
    by_cases h2 : r.s < (S.a : Int)
    · rw [if_neg (fun e => e h2)]
      by_cases h3 : r.u ≤ S.t
      · rw [if_pos h3]; constructor
        · intro e; cases e
        · intro e; omega
      · rw [if_neg h3]
        cases hs : sat S.L r.s.toNat with
        | some x => simp
        | none =>
          rw [if_neg (by simp)]
          by_cases h4 : S.b ≤ S.L.length ∨ S.n = 4294967295
          · rw [if_pos h4]; constructor
            · intro e; cases e
            · intro e; omega
          · rw [if_neg h4]; exact ⟨fun _ => ⟨h1, h2, by omega, rfl, by omega, by omega⟩, fun _ => rfl⟩
    · rw [if_pos h2]; constructor
      · intro e; cases e
      · intro e; exact absurd e.2.1 h2
  · rw [if_pos h1]; constructor
    · intro e; cases e
    · intro e; exact absurd e.1 h1
theorem reseatE_zero {S : Sb} {i s : Nat} : reseatE S i s = 0 ↔ ∃ x, fnd S.L i = some x ∧ s < S.a ∧ (s = x.s ∨ sat S.L s = none) := by
  unfold reseatE
  cases hf : fnd S.L i with
  | none => simp
  | some x =>
    simp only
    by_cases h1 : s < S.a
    · rw [if_neg (fun e => e h1)]
      by_cases h2 : s = x.s
      · rw [if_neg (fun e => e.1 h2)]
        exact ⟨fun _ => ⟨x, rfl, h1, .inl h2⟩, fun _ => rfl⟩
      · cases hs : sat S.L s with
        | none => rw [if_neg (by simp)]; exact ⟨fun _ => ⟨x, rfl, h1, .inr rfl⟩, fun _ => rfl⟩
        | some y =>
          rw [if_pos ⟨h2, rfl⟩]
          constructor
          · intro e; cases e
          · rintro ⟨z, hz, -, h3⟩
            cases hz
            rcases h3 with h3 | h3
            · exact absurd h3 h2
            · cases h3
    · rw [if_pos h1]
      constructor
      · intro e; cases e
      · rintro ⟨z, hz, h3, -⟩; exact absurd h3 h1
theorem AscB.snoc {L : List Bg} (h : AscB L) {x : Bg} (hx : ∀ y ∈ L, y.i < x.i) : AscB (L ++ [x]) := by
  unfold AscB
  rw [List.pairwise_append]
  exact ⟨h, List.pairwise_singleton _ _, fun y hy z hz => by rw [List.mem_singleton] at hz; rw [hz]; exact hx y hy⟩
theorem OneS.snoc {L : List Bg} (h : OneS L) {x : Bg} (hx : ∀ y ∈ L, y.s ≠ x.s) : OneS (L ++ [x]) := by
  unfold OneS
  rw [List.pairwise_append]
  exact ⟨h, List.pairwise_singleton _ _, fun y hy z hz => by rw [List.mem_singleton] at hz; rw [hz]; exact hx y hy⟩
theorem Sb.Ok.app {S : Sb} (h : S.Ok) (r : Rc) : (app S r).Ok := by
  by_cases he : appE S r = 0
  · rw [app_yes he]
    have hm := appE_may he
    have he2 := he
    unfold appE at he2
    rw [if_neg (fun e => e hm)] at he2
    unfold appS
    by_cases k1 : r.k = 1
    · rw [if_pos k1]
      rw [if_pos k1, holdE_zero] at he2
      obtain ⟨e1, e2, e3, e4, e5, e6⟩ := he2
      have hm1 : 1 ≤ r.i ∧ 0 ≤ r.s ∧ r.u ≤ mxC := by unfold Rc.May at hm; omega
      have hin : r.i.toNat = S.n := by omega
      have hn1 := h.n1
      refine ⟨h.a0, h.a1, h.b0, h.b1, h.c0, h.c1, by simp, by simp; omega, h.t0, h.t1, h.asc.snoc (fun y hy => ?_), fun x hx => ?_, fun x hx => ?_, h.one.snoc (fun y hy => ?_), fun x hx => ?_, ?_⟩
      · have := h.id y hy; simp; omega
      · rcases List.mem_append.1 hx with hx | hx
        · have := h.id x hx; simp; omega
        · rw [List.mem_singleton] at hx; subst hx; simp; omega
      · rcases List.mem_append.1 hx with hx | hx
        · exact h.st x hx
        · rw [List.mem_singleton] at hx; subst hx; simp; omega
      · exact sat_none.1 e4 y hy
      · rcases List.mem_append.1 hx with hx | hx
        · exact h.til x hx
        · rw [List.mem_singleton] at hx; subst hx; exact .inr ⟨e3, hm1.2.2⟩
      · simp; omega
    · rw [if_neg k1] at he2 ⊢
      by_cases k2 : r.k = 2
      · rw [if_pos k2]
        rw [if_pos (.inl k2)] at he2
        cases hf : fnd S.L r.i.toNat with
        | none => exact h
        | some x =>
          obtain ⟨hx, hxi⟩ := (fnd_some h.asc).1 hf
          refine ⟨h.a0, h.a1, h.b0, h.b1, h.c0, h.c1, h.n0, h.n1, h.t0, h.t1, upd_asc h.asc rfl, fun y hy => ?_, fun y hy => ?_, upd_one h.one h.asc (fun y hy hne e => hne (by rw [h.one.same hy hx e])), fun y hy => ?_, by simp [upd_length]; exact h.few⟩
          all_goals rcases upd_mem.1 hy with ⟨rfl, -⟩ | ⟨hy, -⟩
          · exact h.id x hx
          · exact h.id y hy
          · exact h.st x hx
          · exact h.st y hy
          · exact .inl rfl
          · exact h.til y hy
      · rw [if_neg k2]
        by_cases k3 : r.k = 3
        · rw [if_pos k3]
          refine ⟨h.a0, h.a1, h.b0, h.b1, h.c0, h.c1, h.n0, h.n1, h.t0, h.t1, h.asc.filter _, fun y hy => h.id y (del_mem.1 hy).1, fun y hy => h.st y (del_mem.1 hy).1, h.one.filter _, fun y hy => h.til y (del_mem.1 hy).1, Nat.le_trans (List.length_filter_le _ _) h.few⟩
        · rw [if_neg k3]
          rw [if_neg (by omega)] at he2
          by_cases k4 : r.k = 4
          · rw [if_pos k4]
            rw [if_pos k4, reseatE_zero] at he2
            obtain ⟨x, hf, hs, ho⟩ := he2
            obtain ⟨hx, hxi⟩ := (fnd_some h.asc).1 hf
            rw [hf]
            refine ⟨h.a0, h.a1, h.b0, h.b1, h.c0, h.c1, h.n0, h.n1, h.t0, h.t1, upd_asc h.asc rfl, fun y hy => ?_, fun y hy => ?_, upd_one h.one h.asc (fun y hy hne e => ?_), fun y hy => ?_, by simp [upd_length]; exact h.few⟩
            · rcases upd_mem.1 hy with ⟨rfl, -⟩ | ⟨hy, -⟩
              · exact h.id x hx
              · exact h.id y hy
            · rcases upd_mem.1 hy with ⟨rfl, -⟩ | ⟨hy, -⟩
              · exact hs
              · exact h.st y hy
            · rcases ho with ho | ho
              · exact hne (by rw [h.one.same hy hx (e.trans ho)])
              · exact sat_none.1 ho y hy e
            · rcases upd_mem.1 hy with ⟨rfl, -⟩ | ⟨hy, -⟩
              · exact h.til x hx
              · exact h.til y hy
          · rw [if_neg k4]
            rw [if_neg k4] at he2
            have ht : S.t < r.c := by
              apply Classical.byContradiction
              intro e
              rw [if_pos (by omega)] at he2
              cases he2
            have hc : r.c ≤ mxC := by unfold Rc.May at hm; omega
            have ht0 := h.t0
            refine ⟨h.a0, h.a1, h.b0, h.b1, h.c0, h.c1, h.n0, h.n1, by show 0 ≤ r.c; omega, hc, h.asc.filter _, fun y hy => h.id y (tik_mem.1 hy).1, fun y hy => h.st y (tik_mem.1 hy).1, h.one.filter _, fun y hy => ?_, Nat.le_trans (List.length_filter_le _ _) h.few⟩
            obtain ⟨h1, h2⟩ := tik_mem.1 hy
            rcases h2 with h2 | h2
            · exact .inl h2
            · rcases h.til y h1 with h3 | h3
              · exact .inl h3
              · exact .inr ⟨h2, h3.2⟩
  · rw [app_no he]; exact h
end Go.Proofs.YtinkkocleognbaaGreatDoor
/- A tree of least places, numbers and lists alone. -/
namespace Go.Proofs.YtinkkocleognbaaGreatDoor.Hp
section
variable {α : Type} [Inhabited α]
/-- Does the entry x come ahead of y? -/
def ah (lt : α → α → Bool) (x y : Nat × α) : Bool := if x.1 < y.1 then !(lt y.2 x.2) else lt x.2 y.2
def en (E : List (Nat × α)) (i : Nat) : Nat × α := E[i]?.getD default
def tn (T : List Nat) (i : Nat) : Nat := T[i]?.getD 0
/-- The better one of l and what the place b knows. -/
def lw1 (lt : α → α → Bool) (E : List (Nat × α)) (T : List Nat) (l b : Nat) : Nat := if ah lt (en E (tn T b)) (en E l) then tn T b else l
def lwA (lt : α → α → Bool) (E : List (Nat × α)) (T : List Nat) (j : Nat) : Nat := if 2 * j + 1 < E.length then lw1 lt E T j (2 * j + 1) else j
/-- The least place of j and all below it, by what those below it know. -/
def lw (lt : α → α → Bool) (E : List (Nat × α)) (T : List Nat) (j : Nat) : Nat := if 2 * j + 2 < E.length then lw1 lt E T (lwA lt E T j) (2 * j + 2) else lwA lt E T j
/-- From the place k - 1 up to the top. -/
def stl (lt : α → α → Bool) (E : List (Nat × α)) (T : List Nat) (k : Nat) : List Nat :=
  if h : k = 0 then T else stl lt E (T.set (k - 1) (lw lt E T (k - 1))) (k / 2)
termination_by k
decreasing_by omega
theorem stl_zero (lt : α → α → Bool) (E : List (Nat × α)) (T : List Nat) : stl lt E T 0 = T := by unfold stl; simp
theorem stl_step (lt : α → α → Bool) (E : List (Nat × α)) (T : List Nat) {k : Nat} (h : 0 < k) : stl lt E T k = stl lt E (T.set (k - 1) (lw lt E T (k - 1))) (k / 2) := by rw [stl, dif_neg (by omega)]
theorem stl_length (lt : α → α → Bool) (E : List (Nat × α)) (T : List Nat) (k : Nat) : (stl lt E T k).length = T.length := by
  induction k using Nat.strongRecOn generalizing T with
  | _ k ih =>
    by_cases h : k = 0
    · subst h; rw [stl_zero]
    · rw [stl_step _ _ _ (by omega), ih (k / 2) (by omega), List.length_set]
/-- The place b lies on the way from k - 1 up. -/
def Pth (k b : Nat) : Prop := ∃ d, k / 2 ^ d = b + 1
theorem Pth.self (b : Nat) : Pth (b + 1) b := ⟨0, by simp⟩
theorem Pth.up {k b : Nat} (h : Pth (k / 2) b) : Pth k b := by
  obtain ⟨d, h⟩ := h
  exact ⟨d + 1, by rw [Nat.pow_succ, Nat.mul_comm, ← Nat.div_div_eq_div_mul]; exact h⟩
theorem Pth.cases {k b : Nat} (h : Pth k b) : k = b + 1 ∨ Pth (k / 2) b := by
  obtain ⟨d, h⟩ := h
  cases d with
  | zero => left; simpa using h
  | succ d => right; exact ⟨d, by rw [Nat.pow_succ, Nat.mul_comm, ← Nat.div_div_eq_div_mul] at h; exact h⟩
theorem Pth.le {k b : Nat} (h : Pth k b) : b + 1 ≤ k := by
  obtain ⟨d, h⟩ := h
  have := Nat.div_le_self k (2 ^ d)
  omega
theorem not_pth_zero (b : Nat) : ¬ Pth 0 b := fun h => by have := h.le; omega
theorem Pth.trans {k b c : Nat} (h : Pth k b) (g : Pth (b + 1) c) : Pth k c := by
  obtain ⟨d, h⟩ := h
  obtain ⟨e, g⟩ := g
  refine ⟨d + e, ?_⟩
  rw [Nat.pow_add, ← Nat.div_div_eq_div_mul, h]
  exact g
theorem pth_left (j : Nat) : Pth (2 * j + 2) j := ⟨1, by rw [Nat.pow_one]; omega⟩
theorem pth_right (j : Nat) : Pth (2 * j + 3) j := ⟨1, by rw [Nat.pow_one]; omega⟩
theorem pth_top (k : Nat) (h : 0 < k) : Pth k 0 := by
  induction k using Nat.strongRecOn with
  | _ k ih =>
    by_cases h1 : k = 1
    · subst h1; exact Pth.self 0
    · exact (ih (k / 2) (by omega) (by omega)).up
/-- What lies below j: j itself, or below one of its two. -/
theorem Pth.below {k b : Nat} (h : Pth k b) : k = b + 1 ∨ Pth k (2 * b + 1) ∨ Pth k (2 * b + 2) := by
  obtain ⟨d, h⟩ := h
  induction d with
  | zero => left; simpa using h
  | succ d ih =>
    right
    rw [Nat.pow_succ, ← Nat.div_div_eq_div_mul] at h
    have h2 : k / 2 ^ d = 2 * b + 1 + 1 ∨ k / 2 ^ d = 2 * b + 2 + 1 := by omega
    rcases h2 with h2 | h2
    · exact .inl ⟨d, h2⟩
    · exact .inr ⟨d, h2⟩
theorem tn_set_self {T : List Nat} {i : Nat} (h : i < T.length) (x : Nat) : tn (T.set i x) i = x := by simp [tn, h]
theorem tn_set_other {T : List Nat} {i j : Nat} (h : i ≠ j) (x : Nat) : tn (T.set i x) j = tn T j := by simp [tn, h]
variable {lt : α → α → Bool} {E : List (Nat × α)} {T : List Nat}
theorem lw1_or (l b : Nat) : lw1 lt E T l b = l ∨ lw1 lt E T l b = tn T b := by unfold lw1; split <;> simp
theorem lwA_or (j : Nat) : lwA lt E T j = j ∨ (2 * j + 1 < E.length ∧ lwA lt E T j = tn T (2 * j + 1)) := by
  unfold lwA
  split
  · rename_i h
    rcases lw1_or (lt := lt) (E := E) (T := T) j (2 * j + 1) with h1 | h1
    · exact .inl h1
    · exact .inr ⟨h, h1⟩
  · exact .inl rfl
theorem lw_or (j : Nat) : lw lt E T j = j ∨ (2 * j + 1 < E.length ∧ lw lt E T j = tn T (2 * j + 1)) ∨ (2 * j + 2 < E.length ∧ lw lt E T j = tn T (2 * j + 2)) := by
  unfold lw
  split
  · rename_i h
    rcases lw1_or (lt := lt) (E := E) (T := T) (lwA lt E T j) (2 * j + 2) with h1 | h1
    · rw [h1]
      rcases lwA_or (lt := lt) (E := E) (T := T) j with h2 | h2
      · exact .inl h2
      · exact .inr (.inl h2)
    · exact .inr (.inr ⟨h, h1⟩)
  · rcases lwA_or (lt := lt) (E := E) (T := T) j with h2 | h2
    · exact .inl h2
    · exact .inr (.inl h2)
/-- What is reckoned at j hangs on what its two know, and on the items that these and j lead to. -/
theorem lw_congr {E' : List (Nat × α)} {T' : List Nat} {j : Nat} (hl : 2 * j + 1 < E'.length ↔ 2 * j + 1 < E.length) (hr : 2 * j + 2 < E'.length ↔ 2 * j + 2 < E.length)
    (h1 : 2 * j + 1 < E.length → tn T' (2 * j + 1) = tn T (2 * j + 1)) (h2 : 2 * j + 2 < E.length → tn T' (2 * j + 2) = tn T (2 * j + 2))
    (e0 : en E' j = en E j) (e1 : 2 * j + 1 < E.length → en E' (tn T (2 * j + 1)) = en E (tn T (2 * j + 1))) (e2 : 2 * j + 2 < E.length → en E' (tn T (2 * j + 2)) = en E (tn T (2 * j + 2))) : lw lt E' T' j = lw lt E T j := by
  have hA : lwA lt E' T' j = lwA lt E T j := by
    unfold lwA
    by_cases h : 2 * j + 1 < E.length
    · rw [if_pos h, if_pos (hl.2 h)]; unfold lw1; rw [h1 h, e1 h, e0]
    · rw [if_neg h, if_neg (fun e => h (hl.1 e))]
  unfold lw
  rw [hA]
  by_cases h : 2 * j + 2 < E.length
  · rw [if_pos h, if_pos (hr.2 h)]
    unfold lw1
    rw [h2 h, e2 h]
    have e3 : en E' (lwA lt E T j) = en E (lwA lt E T j) := by
      rcases lwA_or (lt := lt) (E := E) (T := T) j with h3 | ⟨h3, h4⟩
      · rw [h3]; exact e0
      · rw [h4]; exact e1 h3
    rw [e3]
  · rw [if_neg h, if_neg (fun e => h (hr.1 e))]
theorem lw_set {i : Nat} {x j : Nat} (h : (i + 1) / 2 ≠ j + 1) : lw lt E (T.set i x) j = lw lt E T j :=
  lw_congr Iff.rfl Iff.rfl (fun _ => tn_set_other (by omega) _) (fun _ => tn_set_other (by omega) _) rfl (fun _ => rfl) (fun _ => rfl)
/-- All places that are asked on the way up lie in the heap. -/
theorem stl_in {k : Nat} (hk : k ≤ E.length) (hT : T.length = E.length) (h : ∀ b, b < E.length → ¬ Pth k b → tn T b < E.length) : ∀ b, b < E.length → tn (stl lt E T k) b < E.length := by
  induction k using Nat.strongRecOn generalizing T with
  | _ k ih =>
    by_cases hz : k = 0
    · subst hz; rw [stl_zero]; exact fun b hb => h b hb (not_pth_zero b)
    · rw [stl_step _ _ _ (by omega)]
      refine ih (k / 2) (by omega) (by omega) (by rw [List.length_set]; exact hT) (fun b hb hp => ?_)
      by_cases hb1 : k - 1 = b
      · subst hb1
        rw [tn_set_self (by omega)]
        rcases lw_or (lt := lt) (E := E) (T := T) (k - 1) with h1 | ⟨h1, h2⟩ | ⟨h1, h2⟩
        · rw [h1]; omega
        · rw [h2]; exact h _ h1 (fun e => by have := e.le; omega)
        · rw [h2]; exact h _ h1 (fun e => by have := e.le; omega)
      · rw [tn_set_other hb1]
        refine h b hb (fun e => ?_)
        rcases e.cases with e | e
        · omega
        · exact hp e
/-- Behind the way up each place that was right is right, and so are those on the way. -/
theorem stl_right {k : Nat} (hk : k ≤ T.length) : ∀ b, (Pth k b ∨ tn T b = lw lt E T b) → tn (stl lt E T k) b = lw lt E (stl lt E T k) b := by
  induction k using Nat.strongRecOn generalizing T with
  | _ k ih =>
    intro b hb
    by_cases hz : k = 0
    · subst hz; rw [stl_zero]; exact hb.resolve_left (not_pth_zero b)
    · rw [stl_step _ _ _ (by omega)]
      refine ih (k / 2) (by omega) (by rw [List.length_set]; omega) b ?_
      by_cases hp : Pth (k / 2) b
      · exact .inl hp
      · right
        by_cases hb1 : k - 1 = b
        · subst hb1
          rw [tn_set_self (by omega), lw_set (by omega)]
        · have hn : ¬ Pth k b := fun e => by
            rcases e.cases with e | e
            · omega
            · exact hp e
          have hbl : tn T b = lw lt E T b := hb.resolve_left hn
          rw [tn_set_other hb1, lw_set (fun e => hp ⟨0, by rw [show k - 1 + 1 = k by omega] at e; simpa using e⟩)]
          exact hbl
/-- Each place knows the least one below it. -/
structure Good (lt : α → α → Bool) (E : List (Nat × α)) (T : List Nat) : Prop where
  len : T.length = E.length
  right : ∀ b, b < E.length → tn T b = lw lt E T b
theorem Good.sub (h : Good lt E T) : ∀ b, b < E.length → Pth (tn T b + 1) b ∧ tn T b < E.length := by
  have H : ∀ m b, E.length - b ≤ m → b < E.length → Pth (tn T b + 1) b ∧ tn T b < E.length := by
    intro m
    induction m with
    | zero => intro b h1 h2; omega
    | succ m ih =>
      intro b h1 h2
      rw [h.right b h2]
      rcases lw_or (lt := lt) (E := E) (T := T) b with e | ⟨e1, e2⟩ | ⟨e1, e2⟩
      · rw [e]; exact ⟨Pth.self b, h2⟩
      · rw [e2]
        have := ih (2 * b + 1) (by omega) e1
        exact ⟨this.1.trans (pth_left b), this.2⟩
      · rw [e2]
        have := ih (2 * b + 2) (by omega) e1
        exact ⟨this.1.trans (pth_right b), this.2⟩
  exact fun b hb => H _ b (Nat.le_refl _) hb
theorem en_append_left {E : List (Nat × α)} {x : Nat × α} {i : Nat} (h : i < E.length) : en (E ++ [x]) i = en E i := by simp [en, List.getElem?_append_left h]
theorem tn_append_left {T : List Nat} {x i : Nat} (h : i < T.length) : tn (T ++ [x]) i = tn T i := by simp [tn, List.getElem?_append_left h]
theorem en_set_other {E : List (Nat × α)} {x : Nat × α} {i j : Nat} (h : i ≠ j) : en (E.set i x) j = en E j := by simp [en, h]
/-- An item more. -/
theorem Good.push (h : Good lt E T) (x : Nat × α) : Good lt (E ++ [x]) (stl lt (E ++ [x]) (T ++ [E.length]) (E.length + 1)) := by
  have hl := h.len
  refine ⟨by rw [stl_length]; simp [hl], fun b hb => ?_⟩
  refine stl_right (by simp [hl]) b ?_
  by_cases hp : Pth (E.length + 1) b
  · exact .inl hp
  · right
    have hb1 : b ≠ E.length := fun e => hp (by rw [e]; exact Pth.self _)
    have hb2 : b < E.length := by simp at hb; omega
    have hl1 : 2 * b + 1 ≠ E.length := fun e => hp (by rw [← e]; exact pth_left b)
    have hl2 : 2 * b + 2 ≠ E.length := fun e => hp (by rw [← e]; exact pth_right b)
    rw [tn_append_left (by omega), h.right b hb2]
    symm
    refine lw_congr (by simp; omega) (by simp; omega) (fun h1 => tn_append_left (by omega)) (fun h1 => tn_append_left (by omega)) (en_append_left hb2) (fun h1 => en_append_left (h.sub _ h1).2) (fun h1 => en_append_left (h.sub _ h1).2)
/-- Another item at a place. -/
theorem Good.set (h : Good lt E T) {i : Nat} (hi : i < E.length) (x : Nat × α) : Good lt (E.set i x) (stl lt (E.set i x) T (i + 1)) := by
  have hl := h.len
  refine ⟨by rw [stl_length]; simp [hl], fun b hb => ?_⟩
  refine stl_right (by omega) b ?_
  rw [List.length_set] at hb
  by_cases hp : Pth (i + 1) b
  · exact .inl hp
  · right
    rw [h.right b hb]
    symm
    refine lw_congr (by simp) (by simp) (fun _ => rfl) (fun _ => rfl) (en_set_other (fun e => hp (by rw [e]; exact Pth.self _))) (fun h1 => en_set_other (fun e => hp ?_)) (fun h1 => en_set_other (fun e => hp ?_))
    · have := (h.sub _ h1).1
      rw [← e] at this
      exact this.trans (pth_left b)
    · have := (h.sub _ h1).1
      rw [← e] at this
      exact this.trans (pth_right b)
/-- What lies there when the item at i has gone: the last one takes its place. -/
def outE (E : List (Nat × α)) (i : Nat) : List (Nat × α) := (E.set i (en E (E.length - 1))).take (E.length - 1)
def outT (lt : α → α → Bool) (E : List (Nat × α)) (T : List Nat) (i : Nat) : List Nat :=
  if i < E.length - 1 then stl lt (outE E i) (stl lt (outE E i) (T.take (E.length - 1)) (E.length / 2)) (i + 1) else stl lt (outE E i) (T.take (E.length - 1)) (E.length / 2)
theorem outE_length {i : Nat} : (outE E i).length = E.length - 1 := by simp [outE]
theorem en_out {i j : Nat} (hj : j < E.length - 1) (h : j ≠ i) : en (outE E i) j = en E j := by
  unfold en outE
  rw [List.getElem?_take, if_pos hj, List.getElem?_set_ne (fun e => h e.symm)]
theorem tn_take {n i : Nat} (h : i < n) : tn (T.take n) i = tn T i := by simp [tn, h]
theorem Good.out_mid (h : Good lt E T) {i : Nat} (hi : i < E.length) {b : Nat} (hb : b < E.length - 1) (h1 : ¬ Pth (E.length / 2) b) (h2 : i < E.length - 1 → ¬ Pth (i + 1) b) : tn (T.take (E.length - 1)) b = lw lt (outE E i) (T.take (E.length - 1)) b := by
  have hl := h.len
  have hq : ¬ Pth (E.length - 1 + 1) b := fun e => by
    rw [show E.length - 1 + 1 = E.length by omega] at e
    rcases e.cases with e | e
    · omega
    · exact h1 e
  have hq2 : ¬ Pth (i + 1) b := fun e => by
    by_cases hi2 : i < E.length - 1
    · exact h2 hi2 e
    · rw [show i = E.length - 1 by omega] at e; exact hq e
  have hl1 : 2 * b + 1 ≠ E.length - 1 := fun e => hq (by rw [← e]; exact pth_left b)
  have hl2 : 2 * b + 2 ≠ E.length - 1 := fun e => hq (by rw [← e]; exact pth_right b)
  have far : ∀ c, c < E.length → (c = b ∨ Pth (c + 1) b) → en (outE E i) c = en E c := fun c hc hcb => by
    have h3 : Pth (c + 1) b := by rcases hcb with rfl | e; exact Pth.self _; exact e
    exact en_out (by have : c ≠ E.length - 1 := fun e => hq (by rw [← e]; exact h3); omega) (fun e => hq2 (by rw [← e]; exact h3))
  rw [tn_take hb, h.right b (by omega)]
  symm
  refine lw_congr (by rw [outE_length]; omega) (by rw [outE_length]; omega) (fun h3 => tn_take (by omega)) (fun h3 => tn_take (by omega)) (far b (by omega) (.inl rfl)) (fun h3 => ?_) (fun h3 => ?_)
  · exact far _ (h.sub _ h3).2 (.inr ((h.sub _ h3).1.trans (pth_left b)))
  · exact far _ (h.sub _ h3).2 (.inr ((h.sub _ h3).1.trans (pth_right b)))
theorem Good.out (h : Good lt E T) {i : Nat} (hi : i < E.length) : Good lt (outE E i) (outT lt E T i) := by
  have hl := h.len
  refine ⟨?_, fun b hb => ?_⟩
  · unfold outT; split <;> simp [stl_length, outE_length] <;> omega
  · rw [outE_length] at hb
    unfold outT
    split
    · rename_i hi2
      refine stl_right (by rw [stl_length]; simp; omega) b ?_
      by_cases h2 : Pth (i + 1) b
      · exact .inl h2
      · right
        refine stl_right (by simp; omega) b ?_
        by_cases h1 : Pth (E.length / 2) b
        · exact .inl h1
        · exact .inr (h.out_mid hi hb h1 (fun _ => h2))
    · rename_i hi2
      refine stl_right (by simp; omega) b ?_
      by_cases h1 : Pth (E.length / 2) b
      · exact .inl h1
      · exact .inr (h.out_mid hi hb h1 (fun e => absurd e hi2))
/-- All that is asked when an item goes lies in the heap. -/
theorem Good.out_in (h : Good lt E T) : ∀ b, b < E.length - 1 → ¬ Pth (E.length / 2) b → tn (T.take (E.length - 1)) b < E.length - 1 := by
  intro b hb hp
  rw [tn_take hb]
  obtain ⟨h1, h2⟩ := h.sub b (by omega)
  by_cases e : tn T b = E.length - 1
  · rw [e, show E.length - 1 + 1 = E.length by omega] at h1
    rcases h1.cases with e2 | e2
    · omega
    · exact absurd e2 hp
  · omega
end
end Go.Proofs.YtinkkocleognbaaGreatDoor.Hp
