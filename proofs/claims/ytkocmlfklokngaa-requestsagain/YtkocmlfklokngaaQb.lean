/- requests: a part's number, isRight, Check. -/
import Derived.Test.YtkocmlfklokngaaQa
namespace Go.Proofs.Ytkocmlfklokngaa
open Go.RowKit
attribute [local go_sem ↓] Go.wp_at_zero Go.wp_at_succ
theorem box5 {w : World} {g : Nat} {t : TypeId} {x y z u v : Value} (h : w.heap[g]? = some (.cells [x, y, z, u, v].toArray t (0, 0))) : w.cell? ⟨g, 0, none⟩ = some x ∧ w.cell? ⟨g, 1, none⟩ = some y ∧ w.cell? ⟨g, 2, none⟩ = some z ∧ w.cell? ⟨g, 3, none⟩ = some u ∧ w.cell? ⟨g, 4, none⟩ = some v :=
  ⟨cell_row h 0, cell_row h 1, cell_row h 2, cell_row h 3, cell_row h 4⟩
theorem two_boxes (w : World) (l m : List Value) (s t : TypeId) : ((w.alloc (.cells l.toArray s)).alloc (.cells m.toArray t)).heap[w.heap.size]? = some (.cells l.toArray s (0, 0)) ∧ ((w.alloc (.cells l.toArray s)).alloc (.cells m.toArray t)).heap[w.heap.size + 1]? = some (.cells m.toArray t (0, 0)) ∧ w.grownBy ((w.alloc (.cells l.toArray s)).alloc (.cells m.toArray t)) none := by
  have g1 := World.grownBy_alloc w (.cells l.toArray s) none
  have g2 := World.grownBy_alloc (w.alloc (.cells l.toArray s)) (.cells m.toArray t) none
  have b1 := heap_alloc_new w (.cells l.toArray s)
  have b2 := heap_alloc_new (w.alloc (.cells l.toArray s)) (.cells m.toArray t)
  rw [World.size_alloc] at b2
  exact ⟨(g2.block _ (row_lt b1) (by simp)).trans b1, b2, grown_trans g1 g2⟩
def partI : List Value := [.int .i64 4294967295, .func (.func 40) #[] #[], .func (.func 41) #[] #[], .func (.func 42) #[] #[], .func (.func 43) #[] #[]]
theorem numI_any (q : Rq) (ho : q.Ok) (w : World) : Calls Try.prog 41 #[rqV q] w fun e w' => e = .returned (.int .i64 q.i) ∧ w.grownBy w' none := by
  have W1 : IntKind.i64.wrap q.i = q.i := by rw [IntKind.wrap_i64]; have := ho.i0; have := ho.i1; omega
  have G := hide (World.grownBy_alloc w (.cells #[.int .i64 q.k, .int .u32 q.t, .int .u32 q.i, .int .i64 q.s, .int .i64 q.u] 25) none)
  obtain ⟨c0, c1, c2, c3, c4⟩ := box5 (heap_alloc_new w (.cells [Value.int .i64 q.k, .int .u32 q.t, .int .u32 q.i, .int .i64 q.s, .int .i64 q.u].toArray 25))
  clear ho
  unfold rqV
  go_enter Try.func41, Try.ntmps41
  go_wp2
  go_ret
  exact ⟨rfl, G.out⟩
theorem rightI_any (q : Rq) (ho : q.Ok) (w : World) : Calls Try.prog 30 #[.agg partI.toArray, rqV q] w fun e w' => e = .returned (.bool (inP (hI q.k) q.i 4294967295)) ∧ w.grownBy w' none := by
  obtain ⟨ba, bb, bg⟩ := two_boxes w partI (rqC q) 53 25
  have HB := hide (And.intro ba (And.intro bb bg))
  have qn := numI_any q ho ((w.alloc (.cells partI.toArray 53)).alloc (.cells (rqC q).toArray 25))
  have qh := hasId_any q.k
  unfold partI at ba
  unfold rqC at bb
  obtain ⟨c0, c1, c2, c3, c4⟩ := box5 ba
  obtain ⟨d0, d1, d2, d3, d4⟩ := box5 bb
  obtain ⟨res, hres⟩ : ∃ res, res = inP (hI q.k) q.i 4294967295 := ⟨_, rfl⟩
  rw [← hres]
  have HR := hide hres
  clear hres ba bb bg ho
  unfold partI rqV at *
  unfold rqC at c0 c1 c2 c3 c4 qn HB
  generalize hI q.k = hb at *
  go_enter Try.func30, Try.ntmps30
  go_wp2_with fail
  generalize ((w.alloc (.cells [Value.int .i64 4294967295, .func (.func 40) #[] #[], .func (.func 41) #[] #[], .func (.func 42) #[] #[], .func (.func 43) #[] #[]].toArray 53)).alloc (.cells [Value.int .i64 q.k, .int .u32 q.t, .int .u32 q.i, .int .i64 q.s, .int .i64 q.u].toArray 25)) = w1 at *
  refine qn.mono ?_
  clear qn
  rintro e w2 ⟨rfl, hg⟩
  have B1 := (hg.block _ (row_lt HB.out.1) (by simp)).trans HB.out.1
  have B2 := (hg.block _ (row_lt HB.out.2.1) (by simp)).trans HB.out.2.1
  have HG := hide (grown_trans HB.out.2.2 hg)
  clear c0 c1 c2 c3 c4 d0 d1 d2 d3 d4 hg
  obtain ⟨c0, c1, c2, c3, c4⟩ := box5 B1
  obtain ⟨d0, d1, d2, d3, d4⟩ := box5 B2
  clear B1 B2
  go_wp2_with fail
  refine (qh w2).mono ?_
  clear qh
  rintro e wx ⟨rfl, hw⟩
  obtain rfl := hw.symm
  clear hw
  cases hb with
  | false =>
    have HR2 : Hid (res = decide (q.i = 0)) := HR.out
    by_cases h0 : q.i = 0
    · have e1 : (q.i == 0) = true := by simpa using h0
      have HR3 : Hid (res = true) := HR2.out.trans (decide_eq_true h0)
      clear h0
      go_wp2
      go_ret
      exact ⟨by rw [HR3.out]; rfl, HG.out⟩
    · have e1 : (q.i == 0) = false := by simpa using h0
      have e2 : decide (q.i = 0) = false := by simpa using h0
      have HR3 : Hid (res = false) := HR2.out.trans (decide_eq_false h0)
      clear h0
      go_wp2
      go_ret
      exact ⟨by rw [HR3.out]; rfl, HG.out⟩
  | true =>
    have HR2 : Hid (res = decide (0 ≤ q.i ∧ q.i ≤ 4294967295)) := HR.out
    by_cases h1 : 0 ≤ q.i
    · by_cases h2 : q.i ≤ 4294967295
      · have HR3 : Hid (res = true) := HR2.out.trans (decide_eq_true ⟨h1, h2⟩)
        go_wp2
        go_ret
        exact ⟨by rw [HR3.out]; rfl, HG.out⟩
      · have HR3 : Hid (res = false) := HR2.out.trans (decide_eq_false (fun h => h2 h.2))
        have h3 : decide (q.i ≤ 4294967295) = false := decide_eq_false h2
        go_wp2
        go_ret
        exact ⟨by rw [HR3.out]; rfl, HG.out⟩
    · have HR3 : Hid (res = false) := HR2.out.trans (decide_eq_false (fun h => h1 h.1))
      go_wp2
      go_ret
      exact ⟨by rw [HR3.out]; rfl, HG.out⟩
def partS : List Value := [.int .i64 65535, .func (.func 45) #[] #[], .func (.func 46) #[] #[], .func (.func 47) #[] #[], .func (.func 49) #[] #[]]
theorem numS_any (q : Rq) (ho : q.Ok) (w : World) : Calls Try.prog 46 #[rqV q] w fun e w' => e = .returned (.int .i64 q.s) ∧ w.grownBy w' none := by
  have W1 : IntKind.i64.wrap q.s = q.s := by rw [IntKind.wrap_i64]; have := ho.s0; have := ho.s1; omega
  have G := hide (World.grownBy_alloc w (.cells #[.int .i64 q.k, .int .u32 q.t, .int .u32 q.i, .int .i64 q.s, .int .i64 q.u] 25) none)
  obtain ⟨c0, c1, c2, c3, c4⟩ := box5 (heap_alloc_new w (.cells [Value.int .i64 q.k, .int .u32 q.t, .int .u32 q.i, .int .i64 q.s, .int .i64 q.u].toArray 25))
  clear ho
  unfold rqV
  go_enter Try.func46, Try.ntmps46
  go_wp2
  go_ret
  exact ⟨rfl, G.out⟩
theorem rightS_any (q : Rq) (ho : q.Ok) (w : World) : Calls Try.prog 30 #[.agg partS.toArray, rqV q] w fun e w' => e = .returned (.bool (inP (hS q.k) q.s 65535)) ∧ w.grownBy w' none := by
  obtain ⟨ba, bb, bg⟩ := two_boxes w partS (rqC q) 53 25
  have HB := hide (And.intro ba (And.intro bb bg))
  have qn := numS_any q ho ((w.alloc (.cells partS.toArray 53)).alloc (.cells (rqC q).toArray 25))
  have qh := hasSeat_any q.k
  unfold partS at ba
  unfold rqC at bb
  obtain ⟨c0, c1, c2, c3, c4⟩ := box5 ba
  obtain ⟨d0, d1, d2, d3, d4⟩ := box5 bb
  obtain ⟨res, hres⟩ : ∃ res, res = inP (hS q.k) q.s 65535 := ⟨_, rfl⟩
  rw [← hres]
  have HR := hide hres
  clear hres ba bb bg ho
  unfold partS rqV at *
  unfold rqC at c0 c1 c2 c3 c4 qn HB
  generalize hS q.k = hb at *
  go_enter Try.func30, Try.ntmps30
  go_wp2_with fail
  generalize ((w.alloc (.cells [Value.int .i64 65535, .func (.func 45) #[] #[], .func (.func 46) #[] #[], .func (.func 47) #[] #[], .func (.func 49) #[] #[]].toArray 53)).alloc (.cells [Value.int .i64 q.k, .int .u32 q.t, .int .u32 q.i, .int .i64 q.s, .int .i64 q.u].toArray 25)) = w1 at *
  refine qn.mono ?_
  clear qn
  rintro e w2 ⟨rfl, hg⟩
  have B1 := (hg.block _ (row_lt HB.out.1) (by simp)).trans HB.out.1
  have B2 := (hg.block _ (row_lt HB.out.2.1) (by simp)).trans HB.out.2.1
  have HG := hide (grown_trans HB.out.2.2 hg)
  clear c0 c1 c2 c3 c4 d0 d1 d2 d3 d4 hg
  obtain ⟨c0, c1, c2, c3, c4⟩ := box5 B1
  obtain ⟨d0, d1, d2, d3, d4⟩ := box5 B2
  clear B1 B2
  go_wp2_with fail
  refine (qh w2).mono ?_
  clear qh
  rintro e wx ⟨rfl, hw⟩
  obtain rfl := hw.symm
  clear hw
  cases hb with
  | false =>
    have HR2 : Hid (res = decide (q.s = 0)) := HR.out
    by_cases h0 : q.s = 0
    · have e1 : (q.s == 0) = true := by simpa using h0
      have HR3 : Hid (res = true) := HR2.out.trans (decide_eq_true h0)
      clear h0
      go_wp2
      go_ret
      exact ⟨by rw [HR3.out]; rfl, HG.out⟩
    · have e1 : (q.s == 0) = false := by simpa using h0
      have e2 : decide (q.s = 0) = false := by simpa using h0
      have HR3 : Hid (res = false) := HR2.out.trans (decide_eq_false h0)
      clear h0
      go_wp2
      go_ret
      exact ⟨by rw [HR3.out]; rfl, HG.out⟩
  | true =>
    have HR2 : Hid (res = decide (0 ≤ q.s ∧ q.s ≤ 65535)) := HR.out
    by_cases h1 : 0 ≤ q.s
    · by_cases h2 : q.s ≤ 65535
      · have HR3 : Hid (res = true) := HR2.out.trans (decide_eq_true ⟨h1, h2⟩)
        go_wp2
        go_ret
        exact ⟨by rw [HR3.out]; rfl, HG.out⟩
      · have HR3 : Hid (res = false) := HR2.out.trans (decide_eq_false (fun h => h2 h.2))
        have h3 : decide (q.s ≤ 65535) = false := decide_eq_false h2
        go_wp2
        go_ret
        exact ⟨by rw [HR3.out]; rfl, HG.out⟩
    · have HR3 : Hid (res = false) := HR2.out.trans (decide_eq_false (fun h => h1 h.1))
      go_wp2
      go_ret
      exact ⟨by rw [HR3.out]; rfl, HG.out⟩
def partL : List Value := [.int .i64 9223372036854775807, .func (.func 51) #[] #[], .func (.func 52) #[] #[], .func (.func 53) #[] #[], .func (.func 55) #[] #[]]
theorem numL_any (q : Rq) (ho : q.Ok) (w : World) : Calls Try.prog 52 #[rqV q] w fun e w' => e = .returned (.int .i64 q.u) ∧ w.grownBy w' none := by
  have W1 : IntKind.i64.wrap q.u = q.u := by rw [IntKind.wrap_i64]; have := ho.u0; have := ho.u1; omega
  have G := hide (World.grownBy_alloc w (.cells #[.int .i64 q.k, .int .u32 q.t, .int .u32 q.i, .int .i64 q.s, .int .i64 q.u] 25) none)
  obtain ⟨c0, c1, c2, c3, c4⟩ := box5 (heap_alloc_new w (.cells [Value.int .i64 q.k, .int .u32 q.t, .int .u32 q.i, .int .i64 q.s, .int .i64 q.u].toArray 25))
  clear ho
  unfold rqV
  go_enter Try.func52, Try.ntmps52
  go_wp2
  go_ret
  exact ⟨rfl, G.out⟩
theorem rightL_any (q : Rq) (ho : q.Ok) (w : World) : Calls Try.prog 30 #[.agg partL.toArray, rqV q] w fun e w' => e = .returned (.bool (inP (hL q.k) q.u 9223372036854775807)) ∧ w.grownBy w' none := by
  obtain ⟨ba, bb, bg⟩ := two_boxes w partL (rqC q) 53 25
  have HB := hide (And.intro ba (And.intro bb bg))
  have qn := numL_any q ho ((w.alloc (.cells partL.toArray 53)).alloc (.cells (rqC q).toArray 25))
  have qh := hasTtl_any q.k
  unfold partL at ba
  unfold rqC at bb
  obtain ⟨c0, c1, c2, c3, c4⟩ := box5 ba
  obtain ⟨d0, d1, d2, d3, d4⟩ := box5 bb
  obtain ⟨res, hres⟩ : ∃ res, res = inP (hL q.k) q.u 9223372036854775807 := ⟨_, rfl⟩
  rw [← hres]
  have HR := hide hres
  clear hres ba bb bg ho
  unfold partL rqV at *
  unfold rqC at c0 c1 c2 c3 c4 qn HB
  generalize hL q.k = hb at *
  go_enter Try.func30, Try.ntmps30
  go_wp2_with fail
  generalize ((w.alloc (.cells [Value.int .i64 9223372036854775807, .func (.func 51) #[] #[], .func (.func 52) #[] #[], .func (.func 53) #[] #[], .func (.func 55) #[] #[]].toArray 53)).alloc (.cells [Value.int .i64 q.k, .int .u32 q.t, .int .u32 q.i, .int .i64 q.s, .int .i64 q.u].toArray 25)) = w1 at *
  refine qn.mono ?_
  clear qn
  rintro e w2 ⟨rfl, hg⟩
  have B1 := (hg.block _ (row_lt HB.out.1) (by simp)).trans HB.out.1
  have B2 := (hg.block _ (row_lt HB.out.2.1) (by simp)).trans HB.out.2.1
  have HG := hide (grown_trans HB.out.2.2 hg)
  clear c0 c1 c2 c3 c4 d0 d1 d2 d3 d4 hg
  obtain ⟨c0, c1, c2, c3, c4⟩ := box5 B1
  obtain ⟨d0, d1, d2, d3, d4⟩ := box5 B2
  clear B1 B2
  go_wp2_with fail
  refine (qh w2).mono ?_
  clear qh
  rintro e wx ⟨rfl, hw⟩
  obtain rfl := hw.symm
  clear hw
  cases hb with
  | false =>
    have HR2 : Hid (res = decide (q.u = 0)) := HR.out
    by_cases h0 : q.u = 0
    · have e1 : (q.u == 0) = true := by simpa using h0
      have HR3 : Hid (res = true) := HR2.out.trans (decide_eq_true h0)
      clear h0
      go_wp2
      go_ret
      exact ⟨by rw [HR3.out]; rfl, HG.out⟩
    · have e1 : (q.u == 0) = false := by simpa using h0
      have e2 : decide (q.u = 0) = false := by simpa using h0
      have HR3 : Hid (res = false) := HR2.out.trans (decide_eq_false h0)
      clear h0
      go_wp2
      go_ret
      exact ⟨by rw [HR3.out]; rfl, HG.out⟩
  | true =>
    have HR2 : Hid (res = decide (0 ≤ q.u ∧ q.u ≤ 9223372036854775807)) := HR.out
    by_cases h1 : 0 ≤ q.u
    · by_cases h2 : q.u ≤ 9223372036854775807
      · have HR3 : Hid (res = true) := HR2.out.trans (decide_eq_true ⟨h1, h2⟩)
        go_wp2
        go_ret
        exact ⟨by rw [HR3.out]; rfl, HG.out⟩
      · have HR3 : Hid (res = false) := HR2.out.trans (decide_eq_false (fun h => h2 h.2))
        have h3 : decide (q.u ≤ 9223372036854775807) = false := decide_eq_false h2
        go_wp2
        go_ret
        exact ⟨by rw [HR3.out]; rfl, HG.out⟩
    · have HR3 : Hid (res = false) := HR2.out.trans (decide_eq_false (fun h => h1 h.1))
      go_wp2
      go_ret
      exact ⟨by rw [HR3.out]; rfl, HG.out⟩
end Go.Proofs.Ytkocmlfklokngaa
