/- records: mayBe, Check, Size. -/
import Derived.Test.YtghojalpdkiooaaDoorRa
namespace Go.Proofs.YtghojalpdkiooaaDoor
open Go.RowKit
attribute [local go_sem ↓] Go.wp_at_zero Go.wp_at_succ
theorem box5 {w : World} {g : Nat} {t : TypeId} {x y z u v : Value} (h : w.heap[g]? = some (.cells [x, y, z, u, v].toArray t (0, 0))) : w.cell? ⟨g, 0, none⟩ = some x ∧ w.cell? ⟨g, 1, none⟩ = some y ∧ w.cell? ⟨g, 2, none⟩ = some z ∧ w.cell? ⟨g, 3, none⟩ = some u ∧ w.cell? ⟨g, 4, none⟩ = some v :=
  ⟨cell_row h 0, cell_row h 1, cell_row h 2, cell_row h 3, cell_row h 4⟩
theorem box4 {w : World} {g : Nat} {t : TypeId} {x y z u : Value} (h : w.heap[g]? = some (.cells [x, y, z, u].toArray t (0, 0))) : w.cell? ⟨g, 0, none⟩ = some x ∧ w.cell? ⟨g, 1, none⟩ = some y ∧ w.cell? ⟨g, 2, none⟩ = some z ∧ w.cell? ⟨g, 3, none⟩ = some u :=
  ⟨cell_row h 0, cell_row h 1, cell_row h 2, cell_row h 3⟩
/-- What is asked of a record of a kind that there is. -/
def mayB (r : Rc) : Bool := isR (fI r.k) r.i 1 4294967295 && (isR (fS r.k) r.s 0 1023 && (isR (fU r.k) r.u 1 1099511627776 && isR (fC r.k) r.c 1 1099511627776))
theorem mayB_may {r : Rc} (ho : r.Ok) (hk : 1 ≤ r.k ∧ r.k ≤ 5) : mayB r = decide r.May := by
  have h1 := ho.i1
  obtain ⟨k, i, s, u, c⟩ := r
  dsimp only at *
  have hk5 : k = 1 ∨ k = 2 ∨ k = 3 ∨ k = 4 ∨ k = 5 := by omega
  unfold mayB Rc.May isR mxC
  rcases hk5 with rfl | rfl | rfl | rfl | rfl <;> simp [fI, fS, fU, fC] <;> simp only [← Bool.decide_and, decide_eq_decide] <;> omega

theorem tab1 {w : World} (h : Tab w) : w.cell? ⟨0, 4, none⟩ = some (.bool true) ∧ w.cell? ⟨0, 5, none⟩ = some (.bool true) ∧ w.cell? ⟨0, 6, none⟩ = some (.bool true) ∧ w.cell? ⟨0, 7, none⟩ = some (.bool false) :=
  ⟨h 4 (by decide), h 5 (by decide), h 6 (by decide), h 7 (by decide)⟩
theorem tab2 {w : World} (h : Tab w) : w.cell? ⟨0, 8, none⟩ = some (.bool true) ∧ w.cell? ⟨0, 9, none⟩ = some (.bool false) ∧ w.cell? ⟨0, 10, none⟩ = some (.bool false) ∧ w.cell? ⟨0, 11, none⟩ = some (.bool false) :=
  ⟨h 8 (by decide), h 9 (by decide), h 10 (by decide), h 11 (by decide)⟩
theorem tab3 {w : World} (h : Tab w) : w.cell? ⟨0, 12, none⟩ = some (.bool true) ∧ w.cell? ⟨0, 13, none⟩ = some (.bool false) ∧ w.cell? ⟨0, 14, none⟩ = some (.bool false) ∧ w.cell? ⟨0, 15, none⟩ = some (.bool false) :=
  ⟨h 12 (by decide), h 13 (by decide), h 14 (by decide), h 15 (by decide)⟩
theorem tab4 {w : World} (h : Tab w) : w.cell? ⟨0, 16, none⟩ = some (.bool true) ∧ w.cell? ⟨0, 17, none⟩ = some (.bool true) ∧ w.cell? ⟨0, 18, none⟩ = some (.bool false) ∧ w.cell? ⟨0, 19, none⟩ = some (.bool false) :=
  ⟨h 16 (by decide), h 17 (by decide), h 18 (by decide), h 19 (by decide)⟩
theorem tab5 {w : World} (h : Tab w) : w.cell? ⟨0, 20, none⟩ = some (.bool false) ∧ w.cell? ⟨0, 21, none⟩ = some (.bool false) ∧ w.cell? ⟨0, 22, none⟩ = some (.bool false) ∧ w.cell? ⟨0, 23, none⟩ = some (.bool true) :=
  ⟨h 20 (by decide), h 21 (by decide), h 22 (by decide), h 23 (by decide)⟩
theorem two_boxes (w : World) (A B : List Value) (tA tB : TypeId) : ((w.alloc (.cells A.toArray tA)).alloc (.cells B.toArray tB)).heap[w.heap.size]? = some (.cells A.toArray tA (0, 0)) ∧ ((w.alloc (.cells A.toArray tA)).alloc (.cells B.toArray tB)).heap[w.heap.size + 1]? = some (.cells B.toArray tB (0, 0)) ∧ w.grownBy ((w.alloc (.cells A.toArray tA)).alloc (.cells B.toArray tB)) none := by
  have g2 := World.grownBy_alloc (w.alloc (.cells A.toArray tA)) (.cells B.toArray tB) none
  have b1 := heap_alloc_new w (.cells A.toArray tA)
  refine ⟨(g2.block _ (row_lt b1) (by simp)).trans b1, ?_, grown_trans (World.grownBy_alloc w _ none) g2⟩
  have := heap_alloc_new (w.alloc (.cells A.toArray tA)) (.cells B.toArray tB)
  rwa [World.size_alloc] at this
set_option maxHeartbeats 2000000 in
theorem mayBe_1 (i s u c : Int) (hi : IntKind.i64.wrap i = i) (w : World) (hT : Tab w) : Calls Tryd.prog 25 #[rcV ⟨1, i, s, u, c⟩] w fun e w' => e = .returned (.bool (mayB ⟨1, i, s, u, c⟩)) ∧ w.grownBy w' none := by
  have hm : mayB ⟨1, i, s, u, c⟩ = (isR true i 1 4294967295 && (isR true s 0 1023 && (isR true u 1 1099511627776 && isR false c 1 1099511627776))) := rfl
  rw [hm]
  clear hm
  have q1 := isRight_any true i 1 4294967295
  have q2 := isRight_any true s 0 1023
  have q3 := isRight_any true u 1 1099511627776
  have q4 := isRight_any false c 1 1099511627776
  generalize isR true i 1 4294967295 = b1 at *
  generalize isR true s 0 1023 = b2 at *
  generalize isR true u 1 1099511627776 = b3 at *
  generalize isR false c 1 1099511627776 = b4 at *
  unfold rcV
  obtain ⟨c0, c1, c2, c3, c4⟩ := box5 (heap_alloc_new w (.cells [Value.int .i64 1, .int .u32 i, .int .i64 s, .int .i64 u, .int .i64 c].toArray 25))
  obtain ⟨t0, t1, t2, t3⟩ := tab1 (hT.new (World.grownBy_alloc w (.cells [Value.int .i64 1, .int .u32 i, .int .i64 s, .int .i64 u, .int .i64 c].toArray 25) none))
  obtain ⟨ba, bb, bg⟩ := two_boxes w [Value.int .i64 1, .int .u32 i, .int .i64 s, .int .i64 u, .int .i64 c] [Value.bool true, .bool true, .bool true, .bool false] 25 48
  obtain ⟨d0, d1, d2, d3, d4⟩ := box5 ba
  obtain ⟨f0, f1, f2, f3⟩ := box4 bb
  have HG := hide bg
  clear ba bb bg hT
  go_enter Tryd.func25, Tryd.ntmps25
  go_wp2_with fail
  clear c0 c1 c2 c3 c4 t0 t1 t2 t3
  generalize (w.alloc (.cells #[.int .i64 1, .int .u32 i, .int .i64 s, .int .i64 u, .int .i64 c] 25)).alloc (.cells #[.bool true, .bool true, .bool true, .bool false] 48) = w2 at *
  refine (q1 w2).mono ?_
  rintro e w3 ⟨rfl, hw⟩
  obtain rfl := hw.symm
  clear hw
  cases b1 with
  | false =>
    go_wp2
    go_ret
    exact ⟨rfl, HG.out⟩
  | true =>
    go_wp2_with fail
    refine (q2 w2).mono ?_
    rintro e w3 ⟨rfl, hw⟩
    obtain rfl := hw.symm
    clear hw
    cases b2 with
    | false =>
      go_wp2
      go_ret
      exact ⟨rfl, HG.out⟩
    | true =>
      go_wp2_with fail
      refine (q3 w2).mono ?_
      rintro e w3 ⟨rfl, hw⟩
      obtain rfl := hw.symm
      clear hw
      cases b3 with
      | false =>
        go_wp2
        go_ret
        exact ⟨rfl, HG.out⟩
      | true =>
        go_wp2_with fail
        refine (q4 w2).mono ?_
        rintro e w3 ⟨rfl, hw⟩
        obtain rfl := hw.symm
        clear hw
        cases b4 <;>
        · go_wp2
          go_ret
          exact ⟨rfl, HG.out⟩
set_option maxHeartbeats 2000000 in
theorem mayBe_2 (i s u c : Int) (hi : IntKind.i64.wrap i = i) (w : World) (hT : Tab w) : Calls Tryd.prog 25 #[rcV ⟨2, i, s, u, c⟩] w fun e w' => e = .returned (.bool (mayB ⟨2, i, s, u, c⟩)) ∧ w.grownBy w' none := by
  have hm : mayB ⟨2, i, s, u, c⟩ = (isR true i 1 4294967295 && (isR false s 0 1023 && (isR false u 1 1099511627776 && isR false c 1 1099511627776))) := rfl
  rw [hm]
  clear hm
  have q1 := isRight_any true i 1 4294967295
  have q2 := isRight_any false s 0 1023
  have q3 := isRight_any false u 1 1099511627776
  have q4 := isRight_any false c 1 1099511627776
  generalize isR true i 1 4294967295 = b1 at *
  generalize isR false s 0 1023 = b2 at *
  generalize isR false u 1 1099511627776 = b3 at *
  generalize isR false c 1 1099511627776 = b4 at *
  unfold rcV
  obtain ⟨c0, c1, c2, c3, c4⟩ := box5 (heap_alloc_new w (.cells [Value.int .i64 2, .int .u32 i, .int .i64 s, .int .i64 u, .int .i64 c].toArray 25))
  obtain ⟨t0, t1, t2, t3⟩ := tab2 (hT.new (World.grownBy_alloc w (.cells [Value.int .i64 2, .int .u32 i, .int .i64 s, .int .i64 u, .int .i64 c].toArray 25) none))
  obtain ⟨ba, bb, bg⟩ := two_boxes w [Value.int .i64 2, .int .u32 i, .int .i64 s, .int .i64 u, .int .i64 c] [Value.bool true, .bool false, .bool false, .bool false] 25 48
  obtain ⟨d0, d1, d2, d3, d4⟩ := box5 ba
  obtain ⟨f0, f1, f2, f3⟩ := box4 bb
  have HG := hide bg
  clear ba bb bg hT
  go_enter Tryd.func25, Tryd.ntmps25
  go_wp2_with fail
  clear c0 c1 c2 c3 c4 t0 t1 t2 t3
  generalize (w.alloc (.cells #[.int .i64 2, .int .u32 i, .int .i64 s, .int .i64 u, .int .i64 c] 25)).alloc (.cells #[.bool true, .bool false, .bool false, .bool false] 48) = w2 at *
  refine (q1 w2).mono ?_
  rintro e w3 ⟨rfl, hw⟩
  obtain rfl := hw.symm
  clear hw
  cases b1 with
  | false =>
    go_wp2
    go_ret
    exact ⟨rfl, HG.out⟩
  | true =>
    go_wp2_with fail
    refine (q2 w2).mono ?_
    rintro e w3 ⟨rfl, hw⟩
    obtain rfl := hw.symm
    clear hw
    cases b2 with
    | false =>
      go_wp2
      go_ret
      exact ⟨rfl, HG.out⟩
    | true =>
      go_wp2_with fail
      refine (q3 w2).mono ?_
      rintro e w3 ⟨rfl, hw⟩
      obtain rfl := hw.symm
      clear hw
      cases b3 with
      | false =>
        go_wp2
        go_ret
        exact ⟨rfl, HG.out⟩
      | true =>
        go_wp2_with fail
        refine (q4 w2).mono ?_
        rintro e w3 ⟨rfl, hw⟩
        obtain rfl := hw.symm
        clear hw
        cases b4 <;>
        · go_wp2
          go_ret
          exact ⟨rfl, HG.out⟩
set_option maxHeartbeats 2000000 in
theorem mayBe_3 (i s u c : Int) (hi : IntKind.i64.wrap i = i) (w : World) (hT : Tab w) : Calls Tryd.prog 25 #[rcV ⟨3, i, s, u, c⟩] w fun e w' => e = .returned (.bool (mayB ⟨3, i, s, u, c⟩)) ∧ w.grownBy w' none := by
  have hm : mayB ⟨3, i, s, u, c⟩ = (isR true i 1 4294967295 && (isR false s 0 1023 && (isR false u 1 1099511627776 && isR false c 1 1099511627776))) := rfl
  rw [hm]
  clear hm
  have q1 := isRight_any true i 1 4294967295
  have q2 := isRight_any false s 0 1023
  have q3 := isRight_any false u 1 1099511627776
  have q4 := isRight_any false c 1 1099511627776
  generalize isR true i 1 4294967295 = b1 at *
  generalize isR false s 0 1023 = b2 at *
  generalize isR false u 1 1099511627776 = b3 at *
  generalize isR false c 1 1099511627776 = b4 at *
  unfold rcV
  obtain ⟨c0, c1, c2, c3, c4⟩ := box5 (heap_alloc_new w (.cells [Value.int .i64 3, .int .u32 i, .int .i64 s, .int .i64 u, .int .i64 c].toArray 25))
  obtain ⟨t0, t1, t2, t3⟩ := tab3 (hT.new (World.grownBy_alloc w (.cells [Value.int .i64 3, .int .u32 i, .int .i64 s, .int .i64 u, .int .i64 c].toArray 25) none))
  obtain ⟨ba, bb, bg⟩ := two_boxes w [Value.int .i64 3, .int .u32 i, .int .i64 s, .int .i64 u, .int .i64 c] [Value.bool true, .bool false, .bool false, .bool false] 25 48
  obtain ⟨d0, d1, d2, d3, d4⟩ := box5 ba
  obtain ⟨f0, f1, f2, f3⟩ := box4 bb
  have HG := hide bg
  clear ba bb bg hT
  go_enter Tryd.func25, Tryd.ntmps25
  go_wp2_with fail
  clear c0 c1 c2 c3 c4 t0 t1 t2 t3
  generalize (w.alloc (.cells #[.int .i64 3, .int .u32 i, .int .i64 s, .int .i64 u, .int .i64 c] 25)).alloc (.cells #[.bool true, .bool false, .bool false, .bool false] 48) = w2 at *
  refine (q1 w2).mono ?_
  rintro e w3 ⟨rfl, hw⟩
  obtain rfl := hw.symm
  clear hw
  cases b1 with
  | false =>
    go_wp2
    go_ret
    exact ⟨rfl, HG.out⟩
  | true =>
    go_wp2_with fail
    refine (q2 w2).mono ?_
    rintro e w3 ⟨rfl, hw⟩
    obtain rfl := hw.symm
    clear hw
    cases b2 with
    | false =>
      go_wp2
      go_ret
      exact ⟨rfl, HG.out⟩
    | true =>
      go_wp2_with fail
      refine (q3 w2).mono ?_
      rintro e w3 ⟨rfl, hw⟩
      obtain rfl := hw.symm
      clear hw
      cases b3 with
      | false =>
        go_wp2
        go_ret
        exact ⟨rfl, HG.out⟩
      | true =>
        go_wp2_with fail
        refine (q4 w2).mono ?_
        rintro e w3 ⟨rfl, hw⟩
        obtain rfl := hw.symm
        clear hw
        cases b4 <;>
        · go_wp2
          go_ret
          exact ⟨rfl, HG.out⟩
set_option maxHeartbeats 2000000 in
theorem mayBe_4 (i s u c : Int) (hi : IntKind.i64.wrap i = i) (w : World) (hT : Tab w) : Calls Tryd.prog 25 #[rcV ⟨4, i, s, u, c⟩] w fun e w' => e = .returned (.bool (mayB ⟨4, i, s, u, c⟩)) ∧ w.grownBy w' none := by
  have hm : mayB ⟨4, i, s, u, c⟩ = (isR true i 1 4294967295 && (isR true s 0 1023 && (isR false u 1 1099511627776 && isR false c 1 1099511627776))) := rfl
  rw [hm]
  clear hm
  have q1 := isRight_any true i 1 4294967295
  have q2 := isRight_any true s 0 1023
  have q3 := isRight_any false u 1 1099511627776
  have q4 := isRight_any false c 1 1099511627776
  generalize isR true i 1 4294967295 = b1 at *
  generalize isR true s 0 1023 = b2 at *
  generalize isR false u 1 1099511627776 = b3 at *
  generalize isR false c 1 1099511627776 = b4 at *
  unfold rcV
  obtain ⟨c0, c1, c2, c3, c4⟩ := box5 (heap_alloc_new w (.cells [Value.int .i64 4, .int .u32 i, .int .i64 s, .int .i64 u, .int .i64 c].toArray 25))
  obtain ⟨t0, t1, t2, t3⟩ := tab4 (hT.new (World.grownBy_alloc w (.cells [Value.int .i64 4, .int .u32 i, .int .i64 s, .int .i64 u, .int .i64 c].toArray 25) none))
  obtain ⟨ba, bb, bg⟩ := two_boxes w [Value.int .i64 4, .int .u32 i, .int .i64 s, .int .i64 u, .int .i64 c] [Value.bool true, .bool true, .bool false, .bool false] 25 48
  obtain ⟨d0, d1, d2, d3, d4⟩ := box5 ba
  obtain ⟨f0, f1, f2, f3⟩ := box4 bb
  have HG := hide bg
  clear ba bb bg hT
  go_enter Tryd.func25, Tryd.ntmps25
  go_wp2_with fail
  clear c0 c1 c2 c3 c4 t0 t1 t2 t3
  generalize (w.alloc (.cells #[.int .i64 4, .int .u32 i, .int .i64 s, .int .i64 u, .int .i64 c] 25)).alloc (.cells #[.bool true, .bool true, .bool false, .bool false] 48) = w2 at *
  refine (q1 w2).mono ?_
  rintro e w3 ⟨rfl, hw⟩
  obtain rfl := hw.symm
  clear hw
  cases b1 with
  | false =>
    go_wp2
    go_ret
    exact ⟨rfl, HG.out⟩
  | true =>
    go_wp2_with fail
    refine (q2 w2).mono ?_
    rintro e w3 ⟨rfl, hw⟩
    obtain rfl := hw.symm
    clear hw
    cases b2 with
    | false =>
      go_wp2
      go_ret
      exact ⟨rfl, HG.out⟩
    | true =>
      go_wp2_with fail
      refine (q3 w2).mono ?_
      rintro e w3 ⟨rfl, hw⟩
      obtain rfl := hw.symm
      clear hw
      cases b3 with
      | false =>
        go_wp2
        go_ret
        exact ⟨rfl, HG.out⟩
      | true =>
        go_wp2_with fail
        refine (q4 w2).mono ?_
        rintro e w3 ⟨rfl, hw⟩
        obtain rfl := hw.symm
        clear hw
        cases b4 <;>
        · go_wp2
          go_ret
          exact ⟨rfl, HG.out⟩
set_option maxHeartbeats 2000000 in
theorem mayBe_5 (i s u c : Int) (hi : IntKind.i64.wrap i = i) (w : World) (hT : Tab w) : Calls Tryd.prog 25 #[rcV ⟨5, i, s, u, c⟩] w fun e w' => e = .returned (.bool (mayB ⟨5, i, s, u, c⟩)) ∧ w.grownBy w' none := by
  have hm : mayB ⟨5, i, s, u, c⟩ = (isR false i 1 4294967295 && (isR false s 0 1023 && (isR false u 1 1099511627776 && isR true c 1 1099511627776))) := rfl
  rw [hm]
  clear hm
  have q1 := isRight_any false i 1 4294967295
  have q2 := isRight_any false s 0 1023
  have q3 := isRight_any false u 1 1099511627776
  have q4 := isRight_any true c 1 1099511627776
  generalize isR false i 1 4294967295 = b1 at *
  generalize isR false s 0 1023 = b2 at *
  generalize isR false u 1 1099511627776 = b3 at *
  generalize isR true c 1 1099511627776 = b4 at *
  unfold rcV
  obtain ⟨c0, c1, c2, c3, c4⟩ := box5 (heap_alloc_new w (.cells [Value.int .i64 5, .int .u32 i, .int .i64 s, .int .i64 u, .int .i64 c].toArray 25))
  obtain ⟨t0, t1, t2, t3⟩ := tab5 (hT.new (World.grownBy_alloc w (.cells [Value.int .i64 5, .int .u32 i, .int .i64 s, .int .i64 u, .int .i64 c].toArray 25) none))
  obtain ⟨ba, bb, bg⟩ := two_boxes w [Value.int .i64 5, .int .u32 i, .int .i64 s, .int .i64 u, .int .i64 c] [Value.bool false, .bool false, .bool false, .bool true] 25 48
  obtain ⟨d0, d1, d2, d3, d4⟩ := box5 ba
  obtain ⟨f0, f1, f2, f3⟩ := box4 bb
  have HG := hide bg
  clear ba bb bg hT
  go_enter Tryd.func25, Tryd.ntmps25
  go_wp2_with fail
  clear c0 c1 c2 c3 c4 t0 t1 t2 t3
  generalize (w.alloc (.cells #[.int .i64 5, .int .u32 i, .int .i64 s, .int .i64 u, .int .i64 c] 25)).alloc (.cells #[.bool false, .bool false, .bool false, .bool true] 48) = w2 at *
  refine (q1 w2).mono ?_
  rintro e w3 ⟨rfl, hw⟩
  obtain rfl := hw.symm
  clear hw
  cases b1 with
  | false =>
    go_wp2
    go_ret
    exact ⟨rfl, HG.out⟩
  | true =>
    go_wp2_with fail
    refine (q2 w2).mono ?_
    rintro e w3 ⟨rfl, hw⟩
    obtain rfl := hw.symm
    clear hw
    cases b2 with
    | false =>
      go_wp2
      go_ret
      exact ⟨rfl, HG.out⟩
    | true =>
      go_wp2_with fail
      refine (q3 w2).mono ?_
      rintro e w3 ⟨rfl, hw⟩
      obtain rfl := hw.symm
      clear hw
      cases b3 with
      | false =>
        go_wp2
        go_ret
        exact ⟨rfl, HG.out⟩
      | true =>
        go_wp2_with fail
        refine (q4 w2).mono ?_
        rintro e w3 ⟨rfl, hw⟩
        obtain rfl := hw.symm
        clear hw
        cases b4 <;>
        · go_wp2
          go_ret
          exact ⟨rfl, HG.out⟩
theorem wrap_id {r : Rc} (ho : r.Ok) : IntKind.i64.wrap r.i = r.i := by rw [IntKind.wrap_i64]; have := ho.i0; have := ho.i1; omega
theorem mayBe_any (r : Rc) (ho : r.Ok) (hk : 1 ≤ r.k ∧ r.k ≤ 5) (w : World) (hT : Tab w) : Calls Tryd.prog 25 #[rcV r] w fun e w' => e = .returned (.bool (decide r.May)) ∧ w.grownBy w' none := by
  rw [← mayB_may ho hk]
  have hi := wrap_id ho
  obtain ⟨k, i, s, u, c⟩ := r
  dsimp only at hk hi
  have hk5 : k = 1 ∨ k = 2 ∨ k = 3 ∨ k = 4 ∨ k = 5 := by omega
  rcases hk5 with rfl | rfl | rfl | rfl | rfl
  · exact mayBe_1 i s u c hi w hT
  · exact mayBe_2 i s u c hi w hT
  · exact mayBe_3 i s u c hi w hT
  · exact mayBe_4 i s u c hi w hT
  · exact mayBe_5 i s u c hi w hT
theorem may_not_kind {r : Rc} (h : ¬ (1 ≤ r.k ∧ r.k ≤ 5)) : ¬ r.May := fun hm => by have := may_kind hm; omega
/-- Check. -/
def chk (r : Rc) : Int := if r.May then 0 else 160
theorem check_any (r : Rc) (ho : r.Ok) (w : World) (hT : Tab w) : Calls Tryd.prog 10 #[rcV r] w fun e w' => e = .returned (.int .i64 (chk r)) ∧ w.grownBy w' none := by
  have b1 := heap_alloc_new w (.cells (rcC r).toArray 25)
  have g1 := World.grownBy_alloc w (.cells (rcC r).toArray 25) none
  have T1 := hide (hT.new g1)
  have K := hide ho
  have G := hide g1
  obtain ⟨c0, c1, c2, c3, c4⟩ := box5 b1
  clear hT b1 g1 ho
  unfold rcV
  by_cases hk : 1 ≤ r.k ∧ r.k ≤ 5
  · have q := isKind_any r.k (w.alloc (.cells (rcC r).toArray 25))
    rw [decide_eq_true hk] at q
    have q2 := mayBe_any r K.out hk _ T1.out
    unfold rcV at q2
    by_cases hm : r.May
    · rw [decide_eq_true hm] at q2
      rw [show chk r = 0 from if_pos hm]
      unfold rcC at *
      clear hk hm
      go_enter Tryd.func10, Tryd.ntmps10
      go_wp2_with fail
      refine q.mono ?_
      rintro e w3 ⟨rfl, hw⟩
      obtain rfl := hw.symm
      clear hw q
      go_wp2_with fail
      refine q2.mono ?_
      rintro e w3 ⟨rfl, hg⟩
      have HG := hide (grown_trans G.out hg)
      clear hg q2
      go_wp2
      go_ret
      exact ⟨rfl, HG.out⟩
    · rw [decide_eq_false hm] at q2
      rw [show chk r = 160 from if_neg hm]
      unfold rcC at *
      clear hk hm
      go_enter Tryd.func10, Tryd.ntmps10
      go_wp2_with fail
      refine q.mono ?_
      rintro e w3 ⟨rfl, hw⟩
      obtain rfl := hw.symm
      clear hw q
      go_wp2_with fail
      refine q2.mono ?_
      rintro e w3 ⟨rfl, hg⟩
      have HG := hide (grown_trans G.out hg)
      clear hg q2
      go_wp2
      go_ret
      exact ⟨rfl, HG.out⟩
  · have q := isKind_any r.k (w.alloc (.cells (rcC r).toArray 25))
    rw [decide_eq_false hk] at q
    rw [show chk r = 160 from if_neg (may_not_kind hk)]
    unfold rcC at *
    clear hk
    go_enter Tryd.func10, Tryd.ntmps10
    go_wp2_with fail
    refine q.mono ?_
    rintro e w3 ⟨rfl, hw⟩
    obtain rfl := hw.symm
    clear hw q
    go_wp2
    go_ret
    exact ⟨rfl, G.out⟩
set_option maxHeartbeats 2000000 in
theorem size_1 (w : World) (hT : Tab w) : Calls Tryd.prog 15 #[.int .i64 1] w fun e w' => e = .returned (.int .i64 15) ∧ w.grownBy w' none := by
  obtain ⟨t0, t1, t2, t3⟩ := tab1 hT
  have bb := heap_alloc_new w (.cells [Value.bool true, .bool true, .bool true, .bool false].toArray 48)
  obtain ⟨f0, f1, f2, f3⟩ := box4 bb
  have HG := hide (World.grownBy_alloc w (.cells [Value.bool true, .bool true, .bool true, .bool false].toArray 48) none)
  have q : Calls Tryd.prog 24 #[.int .i64 1] w fun e w' => e = .returned (.bool true) ∧ w' = w := isKind_any 1 w
  have sT : ∀ n w, Calls Tryd.prog 29 #[.bool true, .int .i64 n] w fun e w' => e = .returned (.int .i64 n) ∧ w' = w := fun n w => sizeIf_any true n w
  have sF : ∀ n w, Calls Tryd.prog 29 #[.bool false, .int .i64 n] w fun e w' => e = .returned (.int .i64 0) ∧ w' = w := fun n w => sizeIf_any false n w
  clear bb hT
  go_enter Tryd.func15, Tryd.ntmps15
  go_wp2_with fail
  refine q.mono ?_
  rintro e w3 ⟨rfl, hw⟩
  obtain rfl := hw.symm
  clear hw q
  go_wp2_with fail
  clear t0 t1 t2 t3
  generalize w.alloc (.cells #[.bool true, .bool true, .bool true, .bool false] 48) = w2 at *
  go_quiet (first | (go_at_call_of 29 (Value.bool true); exact Calls.quiet_of_same (sT _ _)) | (go_at_call_of 29 (Value.bool false); exact Calls.quiet_of_same (sF _ _)))
  go_wp2
  go_ret
  exact ⟨rfl, grown_trans HG.out (grown_drewN _ _ none)⟩
set_option maxHeartbeats 2000000 in
theorem size_2 (w : World) (hT : Tab w) : Calls Tryd.prog 15 #[.int .i64 2] w fun e w' => e = .returned (.int .i64 5) ∧ w.grownBy w' none := by
  obtain ⟨t0, t1, t2, t3⟩ := tab2 hT
  have bb := heap_alloc_new w (.cells [Value.bool true, .bool false, .bool false, .bool false].toArray 48)
  obtain ⟨f0, f1, f2, f3⟩ := box4 bb
  have HG := hide (World.grownBy_alloc w (.cells [Value.bool true, .bool false, .bool false, .bool false].toArray 48) none)
  have q : Calls Tryd.prog 24 #[.int .i64 2] w fun e w' => e = .returned (.bool true) ∧ w' = w := isKind_any 2 w
  have sT : ∀ n w, Calls Tryd.prog 29 #[.bool true, .int .i64 n] w fun e w' => e = .returned (.int .i64 n) ∧ w' = w := fun n w => sizeIf_any true n w
  have sF : ∀ n w, Calls Tryd.prog 29 #[.bool false, .int .i64 n] w fun e w' => e = .returned (.int .i64 0) ∧ w' = w := fun n w => sizeIf_any false n w
  clear bb hT
  go_enter Tryd.func15, Tryd.ntmps15
  go_wp2_with fail
  refine q.mono ?_
  rintro e w3 ⟨rfl, hw⟩
  obtain rfl := hw.symm
  clear hw q
  go_wp2_with fail
  clear t0 t1 t2 t3
  generalize w.alloc (.cells #[.bool true, .bool false, .bool false, .bool false] 48) = w2 at *
  go_quiet (first | (go_at_call_of 29 (Value.bool true); exact Calls.quiet_of_same (sT _ _)) | (go_at_call_of 29 (Value.bool false); exact Calls.quiet_of_same (sF _ _)))
  go_wp2
  go_ret
  exact ⟨rfl, grown_trans HG.out (grown_drewN _ _ none)⟩
set_option maxHeartbeats 2000000 in
theorem size_3 (w : World) (hT : Tab w) : Calls Tryd.prog 15 #[.int .i64 3] w fun e w' => e = .returned (.int .i64 5) ∧ w.grownBy w' none := by
  obtain ⟨t0, t1, t2, t3⟩ := tab3 hT
  have bb := heap_alloc_new w (.cells [Value.bool true, .bool false, .bool false, .bool false].toArray 48)
  obtain ⟨f0, f1, f2, f3⟩ := box4 bb
  have HG := hide (World.grownBy_alloc w (.cells [Value.bool true, .bool false, .bool false, .bool false].toArray 48) none)
  have q : Calls Tryd.prog 24 #[.int .i64 3] w fun e w' => e = .returned (.bool true) ∧ w' = w := isKind_any 3 w
  have sT : ∀ n w, Calls Tryd.prog 29 #[.bool true, .int .i64 n] w fun e w' => e = .returned (.int .i64 n) ∧ w' = w := fun n w => sizeIf_any true n w
  have sF : ∀ n w, Calls Tryd.prog 29 #[.bool false, .int .i64 n] w fun e w' => e = .returned (.int .i64 0) ∧ w' = w := fun n w => sizeIf_any false n w
  clear bb hT
  go_enter Tryd.func15, Tryd.ntmps15
  go_wp2_with fail
  refine q.mono ?_
  rintro e w3 ⟨rfl, hw⟩
  obtain rfl := hw.symm
  clear hw q
  go_wp2_with fail
  clear t0 t1 t2 t3
  generalize w.alloc (.cells #[.bool true, .bool false, .bool false, .bool false] 48) = w2 at *
  go_quiet (first | (go_at_call_of 29 (Value.bool true); exact Calls.quiet_of_same (sT _ _)) | (go_at_call_of 29 (Value.bool false); exact Calls.quiet_of_same (sF _ _)))
  go_wp2
  go_ret
  exact ⟨rfl, grown_trans HG.out (grown_drewN _ _ none)⟩
set_option maxHeartbeats 2000000 in
theorem size_4 (w : World) (hT : Tab w) : Calls Tryd.prog 15 #[.int .i64 4] w fun e w' => e = .returned (.int .i64 7) ∧ w.grownBy w' none := by
  obtain ⟨t0, t1, t2, t3⟩ := tab4 hT
  have bb := heap_alloc_new w (.cells [Value.bool true, .bool true, .bool false, .bool false].toArray 48)
  obtain ⟨f0, f1, f2, f3⟩ := box4 bb
  have HG := hide (World.grownBy_alloc w (.cells [Value.bool true, .bool true, .bool false, .bool false].toArray 48) none)
  have q : Calls Tryd.prog 24 #[.int .i64 4] w fun e w' => e = .returned (.bool true) ∧ w' = w := isKind_any 4 w
  have sT : ∀ n w, Calls Tryd.prog 29 #[.bool true, .int .i64 n] w fun e w' => e = .returned (.int .i64 n) ∧ w' = w := fun n w => sizeIf_any true n w
  have sF : ∀ n w, Calls Tryd.prog 29 #[.bool false, .int .i64 n] w fun e w' => e = .returned (.int .i64 0) ∧ w' = w := fun n w => sizeIf_any false n w
  clear bb hT
  go_enter Tryd.func15, Tryd.ntmps15
  go_wp2_with fail
  refine q.mono ?_
  rintro e w3 ⟨rfl, hw⟩
  obtain rfl := hw.symm
  clear hw q
  go_wp2_with fail
  clear t0 t1 t2 t3
  generalize w.alloc (.cells #[.bool true, .bool true, .bool false, .bool false] 48) = w2 at *
  go_quiet (first | (go_at_call_of 29 (Value.bool true); exact Calls.quiet_of_same (sT _ _)) | (go_at_call_of 29 (Value.bool false); exact Calls.quiet_of_same (sF _ _)))
  go_wp2
  go_ret
  exact ⟨rfl, grown_trans HG.out (grown_drewN _ _ none)⟩
set_option maxHeartbeats 2000000 in
theorem size_5 (w : World) (hT : Tab w) : Calls Tryd.prog 15 #[.int .i64 5] w fun e w' => e = .returned (.int .i64 9) ∧ w.grownBy w' none := by
  obtain ⟨t0, t1, t2, t3⟩ := tab5 hT
  have bb := heap_alloc_new w (.cells [Value.bool false, .bool false, .bool false, .bool true].toArray 48)
  obtain ⟨f0, f1, f2, f3⟩ := box4 bb
  have HG := hide (World.grownBy_alloc w (.cells [Value.bool false, .bool false, .bool false, .bool true].toArray 48) none)
  have q : Calls Tryd.prog 24 #[.int .i64 5] w fun e w' => e = .returned (.bool true) ∧ w' = w := isKind_any 5 w
  have sT : ∀ n w, Calls Tryd.prog 29 #[.bool true, .int .i64 n] w fun e w' => e = .returned (.int .i64 n) ∧ w' = w := fun n w => sizeIf_any true n w
  have sF : ∀ n w, Calls Tryd.prog 29 #[.bool false, .int .i64 n] w fun e w' => e = .returned (.int .i64 0) ∧ w' = w := fun n w => sizeIf_any false n w
  clear bb hT
  go_enter Tryd.func15, Tryd.ntmps15
  go_wp2_with fail
  refine q.mono ?_
  rintro e w3 ⟨rfl, hw⟩
  obtain rfl := hw.symm
  clear hw q
  go_wp2_with fail
  clear t0 t1 t2 t3
  generalize w.alloc (.cells #[.bool false, .bool false, .bool false, .bool true] 48) = w2 at *
  go_quiet (first | (go_at_call_of 29 (Value.bool true); exact Calls.quiet_of_same (sT _ _)) | (go_at_call_of 29 (Value.bool false); exact Calls.quiet_of_same (sF _ _)))
  go_wp2
  go_ret
  exact ⟨rfl, grown_trans HG.out (grown_drewN _ _ none)⟩
theorem size_any (k : Int) (w : World) (hT : Tab w) : Calls Tryd.prog 15 #[.int .i64 k] w fun e w' => e = .returned (.int .i64 (sz k : Nat)) ∧ w.grownBy w' none := by
  by_cases hk : 1 ≤ k ∧ k ≤ 5
  · have hk5 : k = 1 ∨ k = 2 ∨ k = 3 ∨ k = 4 ∨ k = 5 := by omega
    rcases hk5 with rfl | rfl | rfl | rfl | rfl
    · exact size_1 w hT
    · exact size_2 w hT
    · exact size_3 w hT
    · exact size_4 w hT
    · exact size_5 w hT
  · rw [sz_zero hk]
    have q := isKind_any k w
    rw [decide_eq_false hk] at q
    clear hk
    go_enter Tryd.func15, Tryd.ntmps15
    go_wp2_with fail
    refine q.mono ?_
    rintro e w3 ⟨rfl, hw⟩
    obtain rfl := hw.symm
    go_wp2
    go_ret
    exact ⟨rfl, grown_refl _ _⟩
end Go.Proofs.YtghojalpdkiooaaDoor
