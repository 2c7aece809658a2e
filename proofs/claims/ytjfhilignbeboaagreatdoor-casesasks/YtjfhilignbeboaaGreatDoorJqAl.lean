/- Texts joined: Qb, Qc, Cs5, Cs6, Cd1. -/
import Derived.Test.YtjfhilignbeboaaGreatDoorJqAi
import Derived.Test.YtjfhilignbeboaaGreatDoorJqAk
import Derived.LoopN
/- requests: a part's number, isRight, Check. -/
namespace Go.Proofs.YtjfhilignbeboaaGreatDoor.Rs
open Go.RowKit
attribute [local go_sem ↓] Go.wp_at_zero Go.wp_at_succ
theorem box5 {w : World} {g : Nat} {t : TypeId} {x y z u v : Value} (h : w.heap[g]? = some (.cells [x, y, z, u, v].toArray t (0, 0))) : w.cell? ⟨g, 0, none⟩ = some x ∧ w.cell? ⟨g, 1, none⟩ = some y ∧ w.cell? ⟨g, 2, none⟩ = some z ∧ w.cell? ⟨g, 3, none⟩ = some u ∧ w.cell? ⟨g, 4, none⟩ = some v :=
  ⟨cell_row h 0, cell_row h 1, cell_row h 2, cell_row h 3, cell_row h 4⟩
theorem two_boxes (w : World) (l m : List Value) (s t : TypeId) : ((w.alloc (.cells l.toArray s)).alloc (.cells m.toArray t)).heap[w.heap.size]? = some (.cells l.toArray s (0, 0)) ∧ ((w.alloc (.cells l.toArray s)).alloc (.cells m.toArray t)).heap[w.heap.size + 1]? = some (.cells m.toArray t (0, 0)) ∧ w.grownBy ((w.alloc (.cells l.toArray s)).alloc (.cells m.toArray t)) none := by
  have g1 := World.grownBy_alloc w (.cells l.toArray s) none
  have g2 := World.grownBy_alloc (w.alloc (.cells l.toArray s)) (.cells m.toArray t) none
  have b1 := heap_alloc_new w (.cells l.toArray s)
  have b2 := heap_alloc_new (w.alloc (.cells l.toArray s)) (.cells m.toArray t)
  rw [World.size_alloc] at b2
  exact ⟨(g2.block _ (row_lt b1) (by simp)).trans b1, b2, grown_trans g1 g2⟩
def partI : List Value := [.int .i64 4294967295, .func (.func 120) #[] #[], .func (.func 121) #[] #[], .func (.func 122) #[] #[], .func (.func 124) #[] #[]]
theorem numI_any (q : Rq) (ho : q.Ok) (w : World) : Calls Tryz.prog 121 #[rqV q] w fun e w' => e = .returned (.int .i64 q.i) ∧ w.grownBy w' none := by
  have W1 : IntKind.i64.wrap q.i = q.i := by rw [IntKind.wrap_i64]; have := ho.i0; have := ho.i1; omega
  have G := hide (World.grownBy_alloc w (.cells #[.int .i64 q.k, .int .u32 q.t, .int .u32 q.i, .int .i64 q.s, .int .i64 q.u] 25) none)
  obtain ⟨c0, c1, c2, c3, c4⟩ := box5 (heap_alloc_new w (.cells [Value.int .i64 q.k, .int .u32 q.t, .int .u32 q.i, .int .i64 q.s, .int .i64 q.u].toArray 25))
  clear ho
  unfold rqV
  go_enter Tryz.func121, Tryz.ntmps121
  go_wp2
  go_ret
  exact ⟨rfl, G.out⟩
theorem rightI_any (q : Rq) (ho : q.Ok) (w : World) : Calls Tryz.prog 74 #[.agg partI.toArray, rqV q] w fun e w' => e = .returned (.bool (inP (hI q.k) q.i 4294967295)) ∧ w.grownBy w' none := by
  obtain ⟨ba, bb, bg⟩ := two_boxes w partI (rqC q) 133 25
  have HB := hide (And.intro ba (And.intro bb bg))
  have qn := numI_any q ho ((w.alloc (.cells partI.toArray 133)).alloc (.cells (rqC q).toArray 25))
  have qh := hasId_any q.k
  unfold partI at ba
  unfold rqC at bb
  obtain ⟨c0, c1, c2, c3, c4⟩ := box5 ba
  obtain ⟨d0, d1, d2, d3, d4⟩ := box5 bb
  obtain ⟨res, hres⟩ : ∃ res, res = inP (hI q.k) q.i 4294967295 := ⟨_, rfl⟩
  rw [← hres]
  have HR := hide hres
  clear hres ba bb bg ho
  unfold partI rqV at *
  unfold rqC at c0 c1 c2 c3 c4 qn HB
  generalize hI q.k = hb at *
  go_enter Tryz.func74, Tryz.ntmps74
  go_wp2_with fail
  generalize ((w.alloc (.cells [Value.int .i64 4294967295, .func (.func 120) #[] #[], .func (.func 121) #[] #[], .func (.func 122) #[] #[], .func (.func 124) #[] #[]].toArray 133)).alloc (.cells [Value.int .i64 q.k, .int .u32 q.t, .int .u32 q.i, .int .i64 q.s, .int .i64 q.u].toArray 25)) = w1 at *
  refine qn.mono ?_
  clear qn
  rintro e w2 ⟨rfl, hg⟩
  have B1 := (hg.block _ (row_lt HB.out.1) (by simp)).trans HB.out.1
  have B2 := (hg.block _ (row_lt HB.out.2.1) (by simp)).trans HB.out.2.1
  have HG := hide (grown_trans HB.out.2.2 hg)
  clear c0 c1 c2 c3 c4 d0 d1 d2 d3 d4 hg
  obtain ⟨c0, c1, c2, c3, c4⟩ := box5 B1
  obtain ⟨d0, d1, d2, d3, d4⟩ := box5 B2
  clear B1 B2
  go_wp2_with fail
  refine (qh w2).mono ?_
  clear qh
  rintro e wx ⟨rfl, hw⟩
  obtain rfl := hw.symm
  clear hw
  cases hb with
  | false =>
    have HR2 : Hid (res = decide (q.i = 0)) := HR.out
    by_cases h0 : q.i = 0
    · have e1 : (q.i == 0) = true := by simpa using h0
      have HR3 : Hid (res = true) := HR2.out.trans (decide_eq_true h0)
      clear h0
      go_wp2
      go_ret
      exact ⟨by rw [HR3.out]; rfl, HG.out⟩
    · have e1 : (q.i == 0) = false := by simpa using h0
      have e2 : decide (q.i = 0) = false := by simpa using h0
      have HR3 : Hid (res = false) := HR2.out.trans (decide_eq_false h0)
      clear h0
      go_wp2
      go_ret
      exact ⟨by rw [HR3.out]; rfl, HG.out⟩
  | true =>
    have HR2 : Hid (res = decide (0 ≤ q.i ∧ q.i ≤ 4294967295)) := HR.out
    by_cases h1 : 0 ≤ q.i
    · by_cases h2 : q.i ≤ 4294967295
      · have HR3 : Hid (res = true) := HR2.out.trans (decide_eq_true ⟨h1, h2⟩)
        go_wp2
        go_ret
        exact ⟨by rw [HR3.out]; rfl, HG.out⟩
      · have HR3 : Hid (res = false) := HR2.out.trans (decide_eq_false (fun h => h2 h.2))
        have h3 : decide (q.i ≤ 4294967295) = false := decide_eq_false h2
        go_wp2
        go_ret
        exact ⟨by rw [HR3.out]; rfl, HG.out⟩
    · have HR3 : Hid (res = false) := HR2.out.trans (decide_eq_false (fun h => h1 h.1))
      go_wp2
      go_ret
      exact ⟨by rw [HR3.out]; rfl, HG.out⟩
def partS : List Value := [.int .i64 65535, .func (.func 126) #[] #[], .func (.func 127) #[] #[], .func (.func 128) #[] #[], .func (.func 130) #[] #[]]
theorem numS_any (q : Rq) (ho : q.Ok) (w : World) : Calls Tryz.prog 127 #[rqV q] w fun e w' => e = .returned (.int .i64 q.s) ∧ w.grownBy w' none := by
  have W1 : IntKind.i64.wrap q.s = q.s := by rw [IntKind.wrap_i64]; have := ho.s0; have := ho.s1; omega
  have G := hide (World.grownBy_alloc w (.cells #[.int .i64 q.k, .int .u32 q.t, .int .u32 q.i, .int .i64 q.s, .int .i64 q.u] 25) none)
  obtain ⟨c0, c1, c2, c3, c4⟩ := box5 (heap_alloc_new w (.cells [Value.int .i64 q.k, .int .u32 q.t, .int .u32 q.i, .int .i64 q.s, .int .i64 q.u].toArray 25))
  clear ho
  unfold rqV
  go_enter Tryz.func127, Tryz.ntmps127
  go_wp2
  go_ret
  exact ⟨rfl, G.out⟩
theorem rightS_any (q : Rq) (ho : q.Ok) (w : World) : Calls Tryz.prog 74 #[.agg partS.toArray, rqV q] w fun e w' => e = .returned (.bool (inP (hS q.k) q.s 65535)) ∧ w.grownBy w' none := by
  obtain ⟨ba, bb, bg⟩ := two_boxes w partS (rqC q) 133 25
  have HB := hide (And.intro ba (And.intro bb bg))
  have qn := numS_any q ho ((w.alloc (.cells partS.toArray 133)).alloc (.cells (rqC q).toArray 25))
  have qh := hasSeat_any q.k
  unfold partS at ba
  unfold rqC at bb
  obtain ⟨c0, c1, c2, c3, c4⟩ := box5 ba
  obtain ⟨d0, d1, d2, d3, d4⟩ := box5 bb
  obtain ⟨res, hres⟩ : ∃ res, res = inP (hS q.k) q.s 65535 := ⟨_, rfl⟩
  rw [← hres]
  have HR := hide hres
  clear hres ba bb bg ho
  unfold partS rqV at *
  unfold rqC at c0 c1 c2 c3 c4 qn HB
  generalize hS q.k = hb at *
  go_enter Tryz.func74, Tryz.ntmps74
  go_wp2_with fail
  generalize ((w.alloc (.cells [Value.int .i64 65535, .func (.func 126) #[] #[], .func (.func 127) #[] #[], .func (.func 128) #[] #[], .func (.func 130) #[] #[]].toArray 133)).alloc (.cells [Value.int .i64 q.k, .int .u32 q.t, .int .u32 q.i, .int .i64 q.s, .int .i64 q.u].toArray 25)) = w1 at *
  refine qn.mono ?_
  clear qn
  rintro e w2 ⟨rfl, hg⟩
  have B1 := (hg.block _ (row_lt HB.out.1) (by simp)).trans HB.out.1
  have B2 := (hg.block _ (row_lt HB.out.2.1) (by simp)).trans HB.out.2.1
  have HG := hide (grown_trans HB.out.2.2 hg)
  clear c0 c1 c2 c3 c4 d0 d1 d2 d3 d4 hg
  obtain ⟨c0, c1, c2, c3, c4⟩ := box5 B1
  obtain ⟨d0, d1, d2, d3, d4⟩ := box5 B2
  clear B1 B2
  go_wp2_with fail
  refine (qh w2).mono ?_
  clear qh
  rintro e wx ⟨rfl, hw⟩
  obtain rfl := hw.symm
  clear hw
  cases hb with
  | false =>
    have HR2 : Hid (res = decide (q.s = 0)) := HR.out
    by_cases h0 : q.s = 0
    · have e1 : (q.s == 0) = true := by simpa using h0
      have HR3 : Hid (res = true) := HR2.out.trans (decide_eq_true h0)
      clear h0
      go_wp2
      go_ret
      exact ⟨by rw [HR3.out]; rfl, HG.out⟩
    · have e1 : (q.s == 0) = false := by simpa using h0
      have e2 : decide (q.s = 0) = false := by simpa using h0
      have HR3 : Hid (res = false) := HR2.out.trans (decide_eq_false h0)
      clear h0
      go_wp2
      go_ret
      exact ⟨by rw [HR3.out]; rfl, HG.out⟩
  | true =>
    have HR2 : Hid (res = decide (0 ≤ q.s ∧ q.s ≤ 65535)) := HR.out
    by_cases h1 : 0 ≤ q.s
    · by_cases h2 : q.s ≤ 65535
      · have HR3 : Hid (res = true) := HR2.out.trans (decide_eq_true ⟨h1, h2⟩)
        go_wp2
        go_ret
        exact ⟨by rw [HR3.out]; rfl, HG.out⟩
      · have HR3 : Hid (res = false) := HR2.out.trans (decide_eq_false (fun h => h2 h.2))
        have h3 : decide (q.s ≤ 65535) = false := decide_eq_false h2
        go_wp2
        go_ret
        exact ⟨by rw [HR3.out]; rfl, HG.out⟩
    · have HR3 : Hid (res = false) := HR2.out.trans (decide_eq_false (fun h => h1 h.1))
      go_wp2
      go_ret
      exact ⟨by rw [HR3.out]; rfl, HG.out⟩
def partL : List Value := [.int .i64 9223372036854775807, .func (.func 132) #[] #[], .func (.func 133) #[] #[], .func (.func 134) #[] #[], .func (.func 136) #[] #[]]
theorem numL_any (q : Rq) (ho : q.Ok) (w : World) : Calls Tryz.prog 133 #[rqV q] w fun e w' => e = .returned (.int .i64 q.u) ∧ w.grownBy w' none := by
  have W1 : IntKind.i64.wrap q.u = q.u := by rw [IntKind.wrap_i64]; have := ho.u0; have := ho.u1; omega
  have G := hide (World.grownBy_alloc w (.cells #[.int .i64 q.k, .int .u32 q.t, .int .u32 q.i, .int .i64 q.s, .int .i64 q.u] 25) none)
  obtain ⟨c0, c1, c2, c3, c4⟩ := box5 (heap_alloc_new w (.cells [Value.int .i64 q.k, .int .u32 q.t, .int .u32 q.i, .int .i64 q.s, .int .i64 q.u].toArray 25))
  clear ho
  unfold rqV
  go_enter Tryz.func133, Tryz.ntmps133
  go_wp2
  go_ret
  exact ⟨rfl, G.out⟩
theorem rightL_any (q : Rq) (ho : q.Ok) (w : World) : Calls Tryz.prog 74 #[.agg partL.toArray, rqV q] w fun e w' => e = .returned (.bool (inP (hL q.k) q.u 9223372036854775807)) ∧ w.grownBy w' none := by
  obtain ⟨ba, bb, bg⟩ := two_boxes w partL (rqC q) 133 25
  have HB := hide (And.intro ba (And.intro bb bg))
  have qn := numL_any q ho ((w.alloc (.cells partL.toArray 133)).alloc (.cells (rqC q).toArray 25))
  have qh := hasTtl_any q.k
  unfold partL at ba
  unfold rqC at bb
  obtain ⟨c0, c1, c2, c3, c4⟩ := box5 ba
  obtain ⟨d0, d1, d2, d3, d4⟩ := box5 bb
  obtain ⟨res, hres⟩ : ∃ res, res = inP (hL q.k) q.u 9223372036854775807 := ⟨_, rfl⟩
  rw [← hres]
  have HR := hide hres
  clear hres ba bb bg ho
  unfold partL rqV at *
  unfold rqC at c0 c1 c2 c3 c4 qn HB
  generalize hL q.k = hb at *
  go_enter Tryz.func74, Tryz.ntmps74
  go_wp2_with fail
  generalize ((w.alloc (.cells [Value.int .i64 9223372036854775807, .func (.func 132) #[] #[], .func (.func 133) #[] #[], .func (.func 134) #[] #[], .func (.func 136) #[] #[]].toArray 133)).alloc (.cells [Value.int .i64 q.k, .int .u32 q.t, .int .u32 q.i, .int .i64 q.s, .int .i64 q.u].toArray 25)) = w1 at *
  refine qn.mono ?_
  clear qn
  rintro e w2 ⟨rfl, hg⟩
  have B1 := (hg.block _ (row_lt HB.out.1) (by simp)).trans HB.out.1
  have B2 := (hg.block _ (row_lt HB.out.2.1) (by simp)).trans HB.out.2.1
  have HG := hide (grown_trans HB.out.2.2 hg)
  clear c0 c1 c2 c3 c4 d0 d1 d2 d3 d4 hg
  obtain ⟨c0, c1, c2, c3, c4⟩ := box5 B1
  obtain ⟨d0, d1, d2, d3, d4⟩ := box5 B2
  clear B1 B2
  go_wp2_with fail
  refine (qh w2).mono ?_
  clear qh
  rintro e wx ⟨rfl, hw⟩
  obtain rfl := hw.symm
  clear hw
  cases hb with
  | false =>
    have HR2 : Hid (res = decide (q.u = 0)) := HR.out
    by_cases h0 : q.u = 0
    · have e1 : (q.u == 0) = true := by simpa using h0
      have HR3 : Hid (res = true) := HR2.out.trans (decide_eq_true h0)
      clear h0
      go_wp2
      go_ret
      exact ⟨by rw [HR3.out]; rfl, HG.out⟩
    · have e1 : (q.u == 0) = false := by simpa using h0
      have e2 : decide (q.u = 0) = false := by simpa using h0
      have HR3 : Hid (res = false) := HR2.out.trans (decide_eq_false h0)
      clear h0
      go_wp2
      go_ret
      exact ⟨by rw [HR3.out]; rfl, HG.out⟩
  | true =>
    have HR2 : Hid (res = decide (0 ≤ q.u ∧ q.u ≤ 9223372036854775807)) := HR.out
    by_cases h1 : 0 ≤ q.u
    · by_cases h2 : q.u ≤ 9223372036854775807
      · have HR3 : Hid (res = true) := HR2.out.trans (decide_eq_true ⟨h1, h2⟩)
        go_wp2
        go_ret
        exact ⟨by rw [HR3.out]; rfl, HG.out⟩
      · have HR3 : Hid (res = false) := HR2.out.trans (decide_eq_false (fun h => h2 h.2))
        have h3 : decide (q.u ≤ 9223372036854775807) = false := decide_eq_false h2
        go_wp2
        go_ret
        exact ⟨by rw [HR3.out]; rfl, HG.out⟩
    · have HR3 : Hid (res = false) := HR2.out.trans (decide_eq_false (fun h => h1 h.1))
      go_wp2
      go_ret
      exact ⟨by rw [HR3.out]; rfl, HG.out⟩
end Go.Proofs.YtjfhilignbeboaaGreatDoor.Rs
/- requests: Check. -/
namespace Go.Proofs.YtjfhilignbeboaaGreatDoor.Rs
open Go.RowKit
attribute [local go_sem ↓] Go.wp_at_zero Go.wp_at_succ
/-- A request in a box of the call's own. -/
structure CkS (w wr : World) (q : Rq) : Prop where
  box : wr.heap[w.heap.size]? = some (.cells [Value.int .i64 q.k, .int .u32 q.t, .int .u32 q.i, .int .i64 q.s, .int .i64 q.u].toArray 25 (0, 0))
  gr : w.grownBy wr none
theorem CkS.then {w wr wr' : World} {q : Rq} (h : CkS w wr q) (hg : wr.grownBy wr' none) : CkS w wr' q := ⟨(hg.block _ (row_lt h.box) (by simp)).trans h.box, grown_trans h.gr hg⟩
theorem CkS.begin (w : World) (q : Rq) : CkS w (w.alloc (.cells #[.int .i64 q.k, .int .u32 q.t, .int .u32 q.i, .int .i64 q.s, .int .i64 q.u] 25)) q := ⟨heap_alloc_new w _, World.grownBy_alloc w _ none⟩
theorem index0 (w : World) : (Instr.index 134 (.agg #[.int .i64 4294967295, .func (.func 120) #[] #[], .func (.func 121) #[] #[], .func (.func 122) #[] #[], .func (.func 124) #[] #[], .int .i64 65535, .func (.func 126) #[] #[], .func (.func 127) #[] #[], .func (.func 128) #[] #[], .func (.func 130) #[] #[], .int .i64 9223372036854775807, .func (.func 132) #[] #[], .func (.func 133) #[] #[], .func (.func 134) #[] #[], .func (.func 136) #[] #[]]) (.int .i64 0)).run Tryz.prog w = .ok (.agg #[.int .i64 4294967295, .func (.func 120) #[] #[], .func (.func 121) #[] #[], .func (.func 122) #[] #[], .func (.func 124) #[] #[]]) w := by simp [Instr.index, run_underlying Tryz.underlying134, asIntOf, go_sem]
theorem index1 (w : World) : (Instr.index 134 (.agg #[.int .i64 4294967295, .func (.func 120) #[] #[], .func (.func 121) #[] #[], .func (.func 122) #[] #[], .func (.func 124) #[] #[], .int .i64 65535, .func (.func 126) #[] #[], .func (.func 127) #[] #[], .func (.func 128) #[] #[], .func (.func 130) #[] #[], .int .i64 9223372036854775807, .func (.func 132) #[] #[], .func (.func 133) #[] #[], .func (.func 134) #[] #[], .func (.func 136) #[] #[]]) (.int .i64 1)).run Tryz.prog w = .ok (.agg #[.int .i64 65535, .func (.func 126) #[] #[], .func (.func 127) #[] #[], .func (.func 128) #[] #[], .func (.func 130) #[] #[]]) w := by simp [Instr.index, run_underlying Tryz.underlying134, asIntOf, go_sem]
theorem index2 (w : World) : (Instr.index 134 (.agg #[.int .i64 4294967295, .func (.func 120) #[] #[], .func (.func 121) #[] #[], .func (.func 122) #[] #[], .func (.func 124) #[] #[], .int .i64 65535, .func (.func 126) #[] #[], .func (.func 127) #[] #[], .func (.func 128) #[] #[], .func (.func 130) #[] #[], .int .i64 9223372036854775807, .func (.func 132) #[] #[], .func (.func 133) #[] #[], .func (.func 134) #[] #[], .func (.func 136) #[] #[]]) (.int .i64 2)).run Tryz.prog w = .ok (.agg #[.int .i64 9223372036854775807, .func (.func 132) #[] #[], .func (.func 133) #[] #[], .func (.func 134) #[] #[], .func (.func 136) #[] #[]]) w := by simp [Instr.index, run_underlying Tryz.underlying134, asIntOf, go_sem]
theorem chk_of {q : Rq} {b : Bool} (h : q.mayB = b) : chk q = if b = true then 0 else 200 := by
  subst h
  rfl
set_option maxRecDepth 20000 in
set_option maxHeartbeats 4000000 in
theorem check_any (q : Rq) (ho : q.Ok) (w : World) : Calls Tryz.prog 31 #[rqV q] w fun e w' => e = .returned (.int .i64 (chk q)) ∧ w.grownBy w' none := by
  obtain ⟨res, hres⟩ : ∃ res, res = chk q := ⟨_, rfl⟩
  rw [← hres]
  have HR := hide hres
  clear hres
  have S0 := hide (CkS.begin w q)
  have qk := isKind_any q.k
  have qI := rightI_any q ho
  have qS := rightS_any q ho
  have qL := rightL_any q ho
  have hm : q.mayB = (decide (1 ≤ q.k ∧ q.k ≤ 10) && (inP (hI q.k) q.i 4294967295 && (inP (hS q.k) q.s 65535 && inP (hL q.k) q.u 9223372036854775807))) := rfl
  have HM := hide hm
  clear hm ho
  generalize decide (1 ≤ q.k ∧ q.k ≤ 10) = bk at *
  generalize inP (hI q.k) q.i 4294967295 = bI at *
  generalize inP (hS q.k) q.s 65535 = bS at *
  generalize inP (hL q.k) q.u 9223372036854775807 = bL at *
  unfold rqV partI at qI
  unfold rqV partS at qS
  unfold rqV partL at qL
  unfold rqV
  obtain ⟨c0, c1, c2, c3, c4⟩ := box5 S0.out.box
  go_enter Tryz.func31, Tryz.ntmps31
  go_wp2_with fail
  generalize w.alloc (.cells #[.int .i64 q.k, .int .u32 q.t, .int .u32 q.i, .int .i64 q.s, .int .i64 q.u] 25) = w1 at *
  refine (qk w1).mono ?_
  clear qk
  rintro e wx ⟨rfl, hw⟩
  obtain rfl := hw.symm
  clear hw
  cases bk with
  | false =>
    have HZ : Hid (res = 200) := by rw [HR.out, chk_of HM.out]; rfl
    go_wp2
    go_ret
    exact ⟨by rw [HZ.out]; rfl, S0.out.gr⟩
  | true =>
    go_wp2_with fail
    refine (parts_any w1).mono ?_
    rintro e w2 ⟨rfl, hg⟩
    have S1 := hide (S0.out.then hg)
    clear hg S0 c0 c1 c2 c3 c4
    unfold partsV
    go_wp2_with fail
    have x0 := index0
    have x1 := index1
    have x2 := index2
    refine wp_loop_rounds 4 ?_
    rw [rounds_succ]
    have TI := hide (S1.out.then (World.grownBy_alloc w2 (.cells #[.int .i64 4294967295, .func (.func 120) #[] #[], .func (.func 121) #[] #[], .func (.func 122) #[] #[], .func (.func 124) #[] #[]] 133) none))
    obtain ⟨c0, c1, c2, c3, c4⟩ := box5 TI.out.box
    have qIw := qI (w2.alloc (.cells #[.int .i64 4294967295, .func (.func 120) #[] #[], .func (.func 121) #[] #[], .func (.func 122) #[] #[], .func (.func 124) #[] #[]] 133))
    clear qI S1
    go_wp2_with fail
    generalize w2.alloc (.cells #[.int .i64 4294967295, .func (.func 120) #[] #[], .func (.func 121) #[] #[], .func (.func 122) #[] #[], .func (.func 124) #[] #[]] 133) = vI at *
    refine qIw.mono ?_
    clear qIw
    rintro e wI ⟨rfl, hg⟩
    have SI := hide (TI.out.then hg)
    clear hg TI c0 c1 c2 c3 c4
    cases bI with
    | false =>
      have HZ : Hid (res = 200) := by rw [HR.out, chk_of HM.out]; rfl
      go_wp2
      go_ret
      exact ⟨by rw [HZ.out]; rfl, SI.out.gr⟩
    | true =>
      go_wp2_with fail
      rw [rounds_succ]
      have TS := hide (SI.out.then (World.grownBy_alloc wI (.cells #[.int .i64 65535, .func (.func 126) #[] #[], .func (.func 127) #[] #[], .func (.func 128) #[] #[], .func (.func 130) #[] #[]] 133) none))
      obtain ⟨c0, c1, c2, c3, c4⟩ := box5 TS.out.box
      have qSw := qS (wI.alloc (.cells #[.int .i64 65535, .func (.func 126) #[] #[], .func (.func 127) #[] #[], .func (.func 128) #[] #[], .func (.func 130) #[] #[]] 133))
      clear qS SI
      go_wp2_with fail
      generalize wI.alloc (.cells #[.int .i64 65535, .func (.func 126) #[] #[], .func (.func 127) #[] #[], .func (.func 128) #[] #[], .func (.func 130) #[] #[]] 133) = vS at *
      refine qSw.mono ?_
      clear qSw
      rintro e wS ⟨rfl, hg⟩
      have SS := hide (TS.out.then hg)
      clear hg TS c0 c1 c2 c3 c4
      cases bS with
      | false =>
        have HZ : Hid (res = 200) := by rw [HR.out, chk_of HM.out]; rfl
        go_wp2
        go_ret
        exact ⟨by rw [HZ.out]; rfl, SS.out.gr⟩
      | true =>
        go_wp2_with fail
        rw [rounds_succ]
        have TL := hide (SS.out.then (World.grownBy_alloc wS (.cells #[.int .i64 9223372036854775807, .func (.func 132) #[] #[], .func (.func 133) #[] #[], .func (.func 134) #[] #[], .func (.func 136) #[] #[]] 133) none))
        obtain ⟨c0, c1, c2, c3, c4⟩ := box5 TL.out.box
        have qLw := qL (wS.alloc (.cells #[.int .i64 9223372036854775807, .func (.func 132) #[] #[], .func (.func 133) #[] #[], .func (.func 134) #[] #[], .func (.func 136) #[] #[]] 133))
        clear qL SS
        go_wp2_with fail
        generalize wS.alloc (.cells #[.int .i64 9223372036854775807, .func (.func 132) #[] #[], .func (.func 133) #[] #[], .func (.func 134) #[] #[], .func (.func 136) #[] #[]] 133) = vL at *
        refine qLw.mono ?_
        clear qLw
        rintro e wL ⟨rfl, hg⟩
        have SL := hide (TL.out.then hg)
        clear hg TL c0 c1 c2 c3 c4
        cases bL with
        | false =>
          have HZ : Hid (res = 200) := by rw [HR.out, chk_of HM.out]; rfl
          go_wp2
          go_ret
          exact ⟨by rw [HZ.out]; rfl, SL.out.gr⟩
        | true =>
          go_wp2_with fail
          have HZ : Hid (res = 0) := by rw [HR.out, chk_of HM.out]; rfl
          rw [rounds_succ]
          go_wp2
          go_ret
          exact ⟨by rw [HZ.out]; rfl, SL.out.gr⟩
end Go.Proofs.YtjfhilignbeboaaGreatDoor.Rs
namespace Go.Proofs.YtjfhilignbeboaaGreatDoor
/- cases: Decide, kind by kind. -/
open Go.RowKit
attribute [local go_sem ↓] Go.wp_at_zero Go.wp_at_succ
attribute [local go_sem] Oper.semAt_some
theorem Mt.three {w : World} {p : Bp} {S : Sb} {K : Nat} (h : BkAt w p S K) (a b c : List Value) (s t u : TypeId) : Mt w (((w.alloc (.cells a.toArray s)).alloc (.cells b.toArray t)).alloc (.cells c.toArray u)) p S K [(w.heap.size + 1 + 1, c, u), (w.heap.size + 1, b, t), (w.heap.size, a, s)] := by
  have m0 := (((Mt.start h).box a s).box b t).box c u
  rw [show ((w.alloc (.cells a.toArray s)).alloc (.cells b.toArray t)).heap.size = w.heap.size + 1 + 1 from by show ((w.heap.push _).push _).size = _; simp, show (w.alloc (.cells a.toArray s)).heap.size = w.heap.size + 1 from by show (w.heap.push _).size = _; simp] at m0
  exact m0
section
variable {w : World} {p : Bp} {S : Sb} {K : Nat}
set_option maxHeartbeats 4000000 in
theorem decide_may (h : BkAt w p S K) (ho : S.Ok) (room : Int) (q : Rs.Rq) (hq : q.Ok) (hm : ¬ q.May) : Calls Tryz.prog 9 #[.pointer (some ⟨p.b, 0, none⟩), .int .i64 room, Rs.rqV q] w fun e w' => e = .returned (dcV ⟨zRc, Rt.zRy, false, 200⟩) ∧ Mt w w' p S K [] := by
  have HN : Hid (∀ W, BkAt W p S K → Calls Tryz.prog 30 #[.pointer (some ⟨p.b, 0, none⟩)] W fun e w' => e = .returned (.bool false) ∧ Mt W w' p S K []) := fun W hW => isNone_no hW ho
  have HQ := hide (fun W => Rs.check_any q hq W)
  have HM := hide (Mt.three h (Rs.rqC q) [Value.int .i64 0, .int .u32 0, .int .i64 0, .int .i64 0, .int .i64 0] [Value.int .u32 0, .int .i64 0, .int .i64 0, .int .u32 0, .int .i64 0, .int .i64 0, .int .i64 0] 25 28 31)
  have hk : Rs.chk q = 200 := by unfold Rs.chk; rw [if_neg hm]
  rw [hk] at HQ
  clear hk hm h ho hq
  unfold Rs.rqV at *
  unfold Rs.rqC at HM
  unfold dcV Rk.rcV Rt.ryV zRc Rt.zRy
  simp only
  generalize hb : p.b = b at *
  have HB := hide hb
  clear hb
  go_enter Tryz.func9, Tryz.ntmps9
  go_wp2_with fail
  refine (HN.out _ HM.out.bk).mono ?_
  rintro e w1 ⟨rfl, m1⟩
  have M1 := hide (HM.out.mt m1)
  clear m1 HM HN
  obtain ⟨c0, c1, c2, c3, c4⟩ := bx5 M1.out.b2
  go_wp2_with fail
  refine (HQ.out _).mono ?_
  rintro e w2 ⟨rfl, hg⟩
  have M2 := hide (M1.out.then hg)
  clear hg M1 HQ c0 c1 c2 c3 c4
  obtain ⟨⟨d0, d1, d2, d3, d4⟩, d5⟩ := bxf5 M2.out.b1
  obtain ⟨⟨x0, x1, x2, x3, x4, x5, x6⟩, x7⟩ := bxf7 M2.out.b0
  go_wp2
  obtain ⟨r1, r2, r3⟩ := dc_end M2.out (g := w.heap.size + 1) (h := w.heap.size + 1 + 1) (List.mem_cons_of_mem _ (List.mem_cons_self ..)) (List.mem_cons_self ..) rfl rfl (by omega) (.int .i64 0) (.int .u32 0) (.int .i64 0) (.int .i64 0) (.int .i64 0) (.int .u32 0) (.int .i64 0) (.int .i64 0) (.int .u32 0) (.int .i64 0) (.int .i64 0) (.int .i64 0)
  exact bodyPost_ret (results_c2t2 rfl _ _ (w.heap.size + 1) (w.heap.size + 1 + 1) _ _ rfl rfl r1 r2 rfl rfl) rfl ⟨rfl, r3⟩
set_option maxHeartbeats 4000000 in
theorem decide_kind (h : BkAt w p S K) (ho : S.Ok) (room : Int) (q : Rs.Rq) (hq : q.Ok) (hm : q.May) (hc : Rs.chg q.k = false) : Calls Tryz.prog 9 #[.pointer (some ⟨p.b, 0, none⟩), .int .i64 room, Rs.rqV q] w fun e w' => e = .returned (dcV ⟨zRc, Rt.zRy, false, 200⟩) ∧ Mt w w' p S K [] := by
  have HN : Hid (∀ W, BkAt W p S K → Calls Tryz.prog 30 #[.pointer (some ⟨p.b, 0, none⟩)] W fun e w' => e = .returned (.bool false) ∧ Mt W w' p S K []) := fun W hW => isNone_no hW ho
  have HQ := hide (fun W => Rs.check_any q hq W)
  have HM := hide (Mt.three h (Rs.rqC q) [Value.int .i64 0, .int .u32 0, .int .i64 0, .int .i64 0, .int .i64 0] [Value.int .u32 0, .int .i64 0, .int .i64 0, .int .u32 0, .int .i64 0, .int .i64 0, .int .i64 0] 25 28 31)
  have HC := hide (fun W => Rs.changes_any q.k W)
  rw [hc] at HC
  have hk : Rs.chk q = 0 := by unfold Rs.chk; rw [if_pos hm]
  rw [hk] at HQ
  clear hk hm h ho hq hc
  unfold Rs.rqV at *
  unfold Rs.rqC at HM
  unfold dcV Rk.rcV Rt.ryV zRc Rt.zRy
  simp only
  generalize hb : p.b = b at *
  have HB := hide hb
  clear hb
  go_enter Tryz.func9, Tryz.ntmps9
  go_wp2_with fail
  refine (HN.out _ HM.out.bk).mono ?_
  rintro e w1 ⟨rfl, m1⟩
  have M1 := hide (HM.out.mt m1)
  clear m1 HM HN
  obtain ⟨c0, c1, c2, c3, c4⟩ := bx5 M1.out.b2
  go_wp2_with fail
  refine (HQ.out _).mono ?_
  rintro e w2 ⟨rfl, hg⟩
  have M2 := hide (M1.out.then hg)
  clear hg M1 HQ c0 c1 c2 c3 c4
  obtain ⟨c0, c1, c2, c3, c4⟩ := bx5 M2.out.b2
  obtain ⟨⟨d0, d1, d2, d3, d4⟩, d5⟩ := bxf5 M2.out.b1
  obtain ⟨⟨x0, x1, x2, x3, x4, x5, x6⟩, x7⟩ := bxf7 M2.out.b0
  go_wp2_with fail
  refine (HC.out _).mono ?_
  rintro e wx ⟨rfl, hwx⟩
  obtain rfl := hwx.symm
  go_wp2
  obtain ⟨r1, r2, r3⟩ := dc_end M2.out (g := w.heap.size + 1) (h := w.heap.size + 1 + 1) (List.mem_cons_of_mem _ (List.mem_cons_self ..)) (List.mem_cons_self ..) rfl rfl (by omega) (.int .i64 0) (.int .u32 0) (.int .i64 0) (.int .i64 0) (.int .i64 0) (.int .u32 0) (.int .i64 0) (.int .i64 0) (.int .u32 0) (.int .i64 0) (.int .i64 0) (.int .i64 0)
  exact bodyPost_ret (results_c2t2 rfl _ _ (w.heap.size + 1) (w.heap.size + 1 + 1) _ _ rfl rfl r1 r2 rfl rfl) rfl ⟨rfl, r3⟩
end
end Go.Proofs.YtjfhilignbeboaaGreatDoor
namespace Go.Proofs.YtjfhilignbeboaaGreatDoor
/- cases: Decide, the changes. -/
open Go.RowKit
attribute [local go_sem ↓] Go.wp_at_zero Go.wp_at_succ
attribute [local go_sem] Oper.semAt_some
theorem ttE_zero {q : Rs.Rq} (h : ttE q = 0) : 1 ≤ q.u ∧ q.u ≤ mxT := by
  unfold ttE at h
  by_cases hc : 1 ≤ q.u ∧ q.u ≤ mxT
  · exact hc
  · rw [if_neg hc] at h; cases h
theorem bx2 {w : World} {g : Nat} {t : TypeId} {x y : Value} (h : w.heap[g]? = some (.cells [x, y].toArray t (0, 0))) : w.cell? ⟨g, 0, none⟩ = some x ∧ w.cell? ⟨g, 1, none⟩ = some y := ⟨by rw [cell_row h]; rfl, by rw [cell_row h]; rfl⟩
end Go.Proofs.YtjfhilignbeboaaGreatDoor
namespace Go.Proofs.YtjfhilignbeboaaGreatDoor
/- cases: Decide of the kind 1. -/
open Go.RowKit
attribute [local go_sem ↓] Go.wp_at_zero Go.wp_at_succ
attribute [local go_sem] Oper.semAt_some
section
variable {w : World} {p : Bp} {S : Sb} {K : Nat}
set_option maxRecDepth 20000 in
set_option maxHeartbeats 8000000 in
theorem decide_1 (h : BkAt w p S K) (ho : S.Ok) (room t i s u : Int) (hq : Rs.Rq.Ok ⟨1, t, i, s, u⟩) (hm : Rs.Rq.May ⟨1, t, i, s, u⟩) (hT : Rk.Tab w) : Calls Tryz.prog 9 #[.pointer (some ⟨p.b, 0, none⟩), .int .i64 room, .agg #[.int .i64 1, .int .u32 t, .int .u32 i, .int .i64 s, .int .i64 u]] w fun e w' => e = .returned (dcV (dec S room ⟨1, t, i, s, u⟩)) ∧ Mt w w' p S K [] := by
  have hch : isChg ⟨1, t, i, s, u⟩ := ⟨hm, show Rs.chg 1 = true by decide⟩
  obtain ⟨res, hres⟩ : ∃ res, res = dec S room ⟨1, t, i, s, u⟩ := ⟨_, rfl⟩
  rw [← hres]
  have hk : Rs.chk ⟨1, t, i, s, u⟩ = 0 := by unfold Rs.chk; rw [if_pos hm]
  have HN : Hid (∀ W, BkAt W p S K → Calls Tryz.prog 30 #[.pointer (some ⟨p.b, 0, none⟩)] W fun e w' => e = .returned (.bool false) ∧ Mt W w' p S K []) := fun W hW => isNone_no hW ho
  have HQ := hide (fun W => Rs.check_any ⟨1, t, i, s, u⟩ hq W)
  rw [hk] at HQ
  have HC : Hid (∀ W, Calls Tryz.prog 32 #[.int .i64 1] W fun e w' => e = .returned (.bool true) ∧ w' = W) := fun W => Rs.changes_any 1 W
  have HM := hide (Mt.three h (Rs.rqC ⟨1, t, i, s, u⟩) [Value.int .i64 0, .int .u32 0, .int .i64 0, .int .i64 0, .int .i64 0] [Value.int .u32 0, .int .i64 0, .int .i64 0, .int .u32 0, .int .i64 0, .int .i64 0, .int .i64 0] 25 28 31)
  have HT := hide hT
  obtain ⟨v0, e0⟩ : ∃ v, v = stE S ⟨1, t, i, s, u⟩ := ⟨_, rfl⟩
  obtain ⟨v1, e1⟩ : ∃ v, v = ttE ⟨1, t, i, s, u⟩ := ⟨_, rfl⟩
  obtain ⟨v2, e2⟩ : ∃ v, v = clE S ⟨1, t, i, s, u⟩ := ⟨_, rfl⟩
  obtain ⟨v3, e3⟩ : ∃ v, v = frE S ⟨1, t, i, s, u⟩ := ⟨_, rfl⟩
  obtain ⟨v4, e4⟩ : ∃ v, v = rmE S := ⟨_, rfl⟩
  obtain ⟨v5, e5⟩ : ∃ v, v = lgE room 1 := ⟨_, rfl⟩
  have HRf : Hid (refE S room ⟨1, t, i, s, u⟩ = fstE [v0, v1, v2, v3, v4, v5]) := by rw [e0, e1, e2, e3, e4, e5]; rfl
  have HRs : Hid ((∀ v, v ≠ 0 → refE S room ⟨1, t, i, s, u⟩ = v → res = ⟨zRc, rfY ⟨1, t, i, s, u⟩ v, false, 0⟩) ∧ (refE S room ⟨1, t, i, s, u⟩ = 0 → res = ⟨recQ S ⟨1, t, i, s, u⟩, rpY ⟨1, t, i, s, u⟩ (recQ S ⟨1, t, i, s, u⟩), true, 0⟩)) := ⟨fun v hv e => by rw [hres, dec_ref hch (by rw [e]; exact hv), e], fun e => by rw [hres, dec_yes hch e]⟩
  have H0 : Hid (∀ W, BkAt W p S K → Calls Tryz.prog 75 #[maV p.b room ⟨1, t, i, s, u⟩] W fun e w' => e = .returned (.int .i64 v0) ∧ Mt W w' p S K []) := fun W hW => by rw [e0]; exact (seatIs_any hW room ⟨1, t, i, s, u⟩).mono (fun e w' x => ⟨x.1, (Mt.start hW).then x.2⟩)
  have H1 : Hid (∀ W, BkAt W p S K → Calls Tryz.prog 76 #[maV p.b room ⟨1, t, i, s, u⟩] W fun e w' => e = .returned (.int .i64 v1) ∧ Mt W w' p S K []) := fun W hW => by rw [e1]; exact (ttl_any p.b room ⟨1, t, i, s, u⟩ W).mono (fun e w' x => ⟨x.1, (Mt.start hW).then x.2⟩)
  have H2 : Hid (v1 = 0 → ∀ W, BkAt W p S K → Calls Tryz.prog 77 #[maV p.b room ⟨1, t, i, s, u⟩] W fun e w' => e = .returned (.int .i64 v2) ∧ Mt W w' p S K []) := fun hv W hW => by have x := ttE_zero (e1 ▸ hv); rw [e2]; exact (clock_ck hW room ⟨1, t, i, s, u⟩ ho.t0 ho.t1 x.1 x.2).mono (fun e w' x => ⟨x.1, (Mt.start hW).then x.2⟩)
  have H3 : Hid (∀ W, BkAt W p S K → Calls Tryz.prog 78 #[maV p.b room ⟨1, t, i, s, u⟩] W fun e w' => e = .returned (.int .i64 v3) ∧ Mt W w' p S K []) := fun W hW => by rw [e3]; exact (free_ck hW ho.wk room ⟨1, t, i, s, u⟩).mono (fun e w' x => ⟨x.1, (Mt.start hW).then x.2⟩)
  have H4 : Hid (∀ W, BkAt W p S K → Calls Tryz.prog 79 #[maV p.b room ⟨1, t, i, s, u⟩] W fun e w' => e = .returned (.int .i64 v4) ∧ Mt W w' p S K []) := fun W hW => by rw [e4]; exact (room_ck hW room ⟨1, t, i, s, u⟩).mono (fun e w' x => ⟨x.1, (Mt.start hW).then x.2⟩)
  have H5 : Hid (∀ W c, BkAt W p S K → W.heap[c]? = some (.cells [Value.int .i64 1].toArray 26 (0, 0)) → Rk.Tab W → Calls Tryz.prog 139 #[maV p.b room ⟨1, t, i, s, u⟩, .pointer (some ⟨c, 0, none⟩)] W fun e w' => e = .returned (.int .i64 v5) ∧ Mt W w' p S K []) := fun W c hW hc hT => by rw [e5]; exact (log_ck p.b room ⟨1, t, i, s, u⟩ c 1 hc hT).mono (fun e w' x => ⟨x.1, (Mt.start hW).then x.2⟩)
  obtain ⟨R, hR⟩ : ∃ R, R = recQ S ⟨1, t, i, s, u⟩ := ⟨_, rfl⟩
  have HRc : Hid (v1 = 0 → ∀ W, BkAt W p S K → Calls Tryz.prog 81 #[maV p.b room ⟨1, t, i, s, u⟩] W fun e w' => e = .returned (Rk.rcV R) ∧ Mt W w' p S K []) := fun hv W hW => by have x := ttE_zero (e1 ▸ hv); rw [hR]; exact (hold_rec hW room ⟨1, t, i, s, u⟩ ho.t0 ho.t1 x.1 x.2).mono (fun e w' x => ⟨x.1, (Mt.start hW).then x.2⟩)
  have HRp := hide (fun W => reply_any ⟨1, t, i, s, u⟩ R W)
  have HRl := hide (fun W => rule_1 W)
  have HFu := hide (fun v W => refusal_any ⟨1, t, i, s, u⟩ v W)
  rw [← hR] at HRs
  clear h ho hq hm hT hch hk hres hR e0 e1 e2 e3 e4 e5
  obtain ⟨rk, ri, rs, ru, rc⟩ := R
  unfold Rs.rqV at *
  unfold maV at *
  unfold Rs.rqC at HM
  unfold Rk.rcV at HRc HRp
  unfold rlV at HRl
  simp only at *
  have HDc : Hid (∀ v, dcV ⟨zRc, rfY ⟨1, t, i, s, u⟩ v, false, 0⟩ = .tuple #[.agg #[.int .i64 0, .int .u32 0, .int .i64 0, .int .i64 0, .int .i64 0], .agg #[.int .u32 t, .int .i64 1, .int .i64 v, .int .u32 0, .int .i64 0, .int .i64 0, .int .i64 0], .bool false, .int .i64 0]) := fun _ => rfl
  have HFv : Hid (∀ v W, Calls Tryz.prog 34 #[.agg #[.int .i64 1, .int .u32 t, .int .u32 i, .int .i64 s, .int .i64 u], .int .i64 v] W fun r w' => r = .returned (.agg #[.int .u32 t, .int .i64 1, .int .i64 v, .int .u32 0, .int .i64 0, .int .i64 0, .int .i64 0]) ∧ W.grownBy w' none) := HFu.out
  clear HFu
  generalize hb : p.b = b at *
  have HB := hide hb
  clear hb
  go_enter Tryz.func9, Tryz.ntmps9
  go_wp2_with fail
  refine (HN.out _ HM.out.bk).mono ?_
  rintro e w1 ⟨rfl, m1⟩
  have M1 := hide (HM.out.mt m1)
  clear m1 HM HN
  obtain ⟨c0, c1, c2, c3, c4⟩ := bx5 M1.out.b2
  go_wp2_with fail
  refine (HQ.out _).mono ?_
  rintro e w2 ⟨rfl, hg⟩
  have M2 := hide (M1.out.then hg)
  clear hg M1 HQ c0 c1 c2 c3 c4
  obtain ⟨c0, c1, c2, c3, c4⟩ := bx5 M2.out.b2
  go_wp2_with fail
  refine (HC.out _).mono ?_
  rintro e wx ⟨rfl, hwx⟩
  obtain rfl := hwx.symm
  have M3 := hide (M2.out.box [.pointer (some ⟨b, 0, none⟩), .int .i64 room, .int .i64 1, .int .u32 t, .int .u32 i, .int .i64 s, .int .i64 u] 83)
  clear hwx M2 HC
  obtain ⟨k0, k1, k2, k3, k4⟩ := bx5 M3.out.b3
  go_wp2_with fail
  generalize hX : w2.heap.size = X at *
  generalize World.alloc w2 _ = w3 at *
  clear hX
  refine (HRl.out _).mono ?_
  rintro e w4 ⟨g, c, rfl, hR4, hg4⟩
  have M5 := hide ((M3.out.rule hg4 hR4).box [.slice (some ⟨g, 0, none⟩) 6 6, .func (.func 81) #[] #[]] 87)
  clear M3 HRl hR4 hg4 c0 c1 c2 c3 c4 k0 k1 k2 k3 k4
  obtain ⟨y0, y1⟩ := bx2 M5.out.b0
  go_wp2_with fail
  generalize hY : w4.heap.size = Y at *
  generalize World.alloc w4 _ = w5 at *
  clear hY y0 y1
  refine wp_loop_rounds 7 ?_
  rw [rounds_succ]
  obtain ⟨a0, a1, a2, a3, a4, a5, a6⟩ := bx7 M5.out.b3
  have gj : w5.cell? ⟨g, 0, none⟩ = some (.func (.func 75) #[] #[]) := by have := cell_row M5.out.b1 0; simpa [fnV, lgV] using this
  go_wp2_with fail
  refine (H0.out _ M5.out.bk).mono ?_
  rintro e u0 ⟨rfl, mj⟩
  have N0 := hide (M5.out.mt mj)
  clear mj M5 a0 a1 a2 a3 a4 a5 a6 gj
  by_cases hz : v0 = 0
  rotate_left
  · have f1 : (v0 != 0) = true := by simpa using hz
    have f2 : (v0 == 0) = false := by simpa using hz
    have f3 : decide (v0 = 0) = false := by simpa using hz
    have HZ : Hid (res = ⟨zRc, rfY ⟨1, t, i, s, u⟩ v0, false, 0⟩) := HRs.out.1 v0 hz (by rw [HRf.out]; simp [fstE, hz])
    clear hz HRs HRf
    obtain ⟨c0, c1, c2, c3, c4⟩ := bx5 N0.out.b6
    go_wp2_with fail
    refine (HFv.out _ _).mono ?_
    rintro e w7 ⟨rfl, hg7⟩
    have M7 := hide (N0.out.then hg7)
    clear hg7 N0 c0 c1 c2 c3 c4
    obtain ⟨⟨d0, d1, d2, d3, d4⟩, d5⟩ := bxf5 M7.out.b5
    obtain ⟨⟨x0, x1, x2, x3, x4, x5, x6⟩, x7⟩ := bxf7 M7.out.b4
    go_wp2
    obtain ⟨r1, r2, r3⟩ := dc_end M7.out (g := w.heap.size + 1) (h := w.heap.size + 1 + 1) (List.mem_cons_of_mem _ (List.mem_cons_of_mem _ (List.mem_cons_of_mem _ (List.mem_cons_of_mem _ (List.mem_cons_of_mem _ (List.mem_cons_self ..)))))) (List.mem_cons_of_mem _ (List.mem_cons_of_mem _ (List.mem_cons_of_mem _ (List.mem_cons_of_mem _ (List.mem_cons_self ..))))) rfl rfl (by omega) (.int .i64 0) (.int .u32 0) (.int .i64 0) (.int .i64 0) (.int .i64 0) (.int .u32 t) (.int .i64 1) (.int .i64 v0) (.int .u32 0) (.int .i64 0) (.int .i64 0) (.int .i64 0)
    exact bodyPost_ret (results_c2t2 rfl _ _ (w.heap.size + 1) (w.heap.size + 1 + 1) _ _ rfl rfl r1 r2 rfl rfl) rfl ⟨by rw [HZ.out, HDc.out]; rfl, r3⟩
  subst hz
  go_wp2_with fail
  rw [rounds_succ]
  obtain ⟨a0, a1, a2, a3, a4, a5, a6⟩ := bx7 N0.out.b3
  have gj : u0.cell? ⟨g, 1, none⟩ = some (.func (.func 76) #[] #[]) := by have := cell_row N0.out.b1 1; simpa [fnV, lgV] using this
  go_wp2_with fail
  refine (H1.out _ N0.out.bk).mono ?_
  rintro e u1 ⟨rfl, mj⟩
  have N1 := hide (N0.out.mt mj)
  clear mj N0 a0 a1 a2 a3 a4 a5 a6 gj
  by_cases hz : v1 = 0
  rotate_left
  · have f1 : (v1 != 0) = true := by simpa using hz
    have f2 : (v1 == 0) = false := by simpa using hz
    have f3 : decide (v1 = 0) = false := by simpa using hz
    have HZ : Hid (res = ⟨zRc, rfY ⟨1, t, i, s, u⟩ v1, false, 0⟩) := HRs.out.1 v1 hz (by rw [HRf.out]; simp [fstE, hz])
    clear hz HRs HRf
    obtain ⟨c0, c1, c2, c3, c4⟩ := bx5 N1.out.b6
    go_wp2_with fail
    refine (HFv.out _ _).mono ?_
    rintro e w7 ⟨rfl, hg7⟩
    have M7 := hide (N1.out.then hg7)
    clear hg7 N1 c0 c1 c2 c3 c4
    obtain ⟨⟨d0, d1, d2, d3, d4⟩, d5⟩ := bxf5 M7.out.b5
    obtain ⟨⟨x0, x1, x2, x3, x4, x5, x6⟩, x7⟩ := bxf7 M7.out.b4
    go_wp2
    obtain ⟨r1, r2, r3⟩ := dc_end M7.out (g := w.heap.size + 1) (h := w.heap.size + 1 + 1) (List.mem_cons_of_mem _ (List.mem_cons_of_mem _ (List.mem_cons_of_mem _ (List.mem_cons_of_mem _ (List.mem_cons_of_mem _ (List.mem_cons_self ..)))))) (List.mem_cons_of_mem _ (List.mem_cons_of_mem _ (List.mem_cons_of_mem _ (List.mem_cons_of_mem _ (List.mem_cons_self ..))))) rfl rfl (by omega) (.int .i64 0) (.int .u32 0) (.int .i64 0) (.int .i64 0) (.int .i64 0) (.int .u32 t) (.int .i64 1) (.int .i64 v1) (.int .u32 0) (.int .i64 0) (.int .i64 0) (.int .i64 0)
    exact bodyPost_ret (results_c2t2 rfl _ _ (w.heap.size + 1) (w.heap.size + 1 + 1) _ _ rfl rfl r1 r2 rfl rfl) rfl ⟨by rw [HZ.out, HDc.out]; rfl, r3⟩
  subst hz
  go_wp2_with fail
  rw [rounds_succ]
  obtain ⟨a0, a1, a2, a3, a4, a5, a6⟩ := bx7 N1.out.b3
  have gj : u1.cell? ⟨g, 2, none⟩ = some (.func (.func 77) #[] #[]) := by have := cell_row N1.out.b1 2; simpa [fnV, lgV] using this
  go_wp2_with fail
  refine (H2.out (by first | exact True.intro | rfl) _ N1.out.bk).mono ?_
  rintro e u2 ⟨rfl, mj⟩
  have N2 := hide (N1.out.mt mj)
  clear mj N1 a0 a1 a2 a3 a4 a5 a6 gj
  by_cases hz : v2 = 0
  rotate_left
  · have f1 : (v2 != 0) = true := by simpa using hz
    have f2 : (v2 == 0) = false := by simpa using hz
    have f3 : decide (v2 = 0) = false := by simpa using hz
    have HZ : Hid (res = ⟨zRc, rfY ⟨1, t, i, s, u⟩ v2, false, 0⟩) := HRs.out.1 v2 hz (by rw [HRf.out]; simp [fstE, hz])
    clear hz HRs HRf
    obtain ⟨c0, c1, c2, c3, c4⟩ := bx5 N2.out.b6
    go_wp2_with fail
    refine (HFv.out _ _).mono ?_
    rintro e w7 ⟨rfl, hg7⟩
    have M7 := hide (N2.out.then hg7)
    clear hg7 N2 c0 c1 c2 c3 c4
    obtain ⟨⟨d0, d1, d2, d3, d4⟩, d5⟩ := bxf5 M7.out.b5
    obtain ⟨⟨x0, x1, x2, x3, x4, x5, x6⟩, x7⟩ := bxf7 M7.out.b4
    go_wp2
    obtain ⟨r1, r2, r3⟩ := dc_end M7.out (g := w.heap.size + 1) (h := w.heap.size + 1 + 1) (List.mem_cons_of_mem _ (List.mem_cons_of_mem _ (List.mem_cons_of_mem _ (List.mem_cons_of_mem _ (List.mem_cons_of_mem _ (List.mem_cons_self ..)))))) (List.mem_cons_of_mem _ (List.mem_cons_of_mem _ (List.mem_cons_of_mem _ (List.mem_cons_of_mem _ (List.mem_cons_self ..))))) rfl rfl (by omega) (.int .i64 0) (.int .u32 0) (.int .i64 0) (.int .i64 0) (.int .i64 0) (.int .u32 t) (.int .i64 1) (.int .i64 v2) (.int .u32 0) (.int .i64 0) (.int .i64 0) (.int .i64 0)
    exact bodyPost_ret (results_c2t2 rfl _ _ (w.heap.size + 1) (w.heap.size + 1 + 1) _ _ rfl rfl r1 r2 rfl rfl) rfl ⟨by rw [HZ.out, HDc.out]; rfl, r3⟩
  subst hz
  go_wp2_with fail
  rw [rounds_succ]
  obtain ⟨a0, a1, a2, a3, a4, a5, a6⟩ := bx7 N2.out.b3
  have gj : u2.cell? ⟨g, 3, none⟩ = some (.func (.func 78) #[] #[]) := by have := cell_row N2.out.b1 3; simpa [fnV, lgV] using this
  go_wp2_with fail
  refine (H3.out _ N2.out.bk).mono ?_
  rintro e u3 ⟨rfl, mj⟩
  have N3 := hide (N2.out.mt mj)
  clear mj N2 a0 a1 a2 a3 a4 a5 a6 gj
  by_cases hz : v3 = 0
  rotate_left
  · have f1 : (v3 != 0) = true := by simpa using hz
    have f2 : (v3 == 0) = false := by simpa using hz
    have f3 : decide (v3 = 0) = false := by simpa using hz
    have HZ : Hid (res = ⟨zRc, rfY ⟨1, t, i, s, u⟩ v3, false, 0⟩) := HRs.out.1 v3 hz (by rw [HRf.out]; simp [fstE, hz])
    clear hz HRs HRf
    obtain ⟨c0, c1, c2, c3, c4⟩ := bx5 N3.out.b6
    go_wp2_with fail
    refine (HFv.out _ _).mono ?_
    rintro e w7 ⟨rfl, hg7⟩
    have M7 := hide (N3.out.then hg7)
    clear hg7 N3 c0 c1 c2 c3 c4
    obtain ⟨⟨d0, d1, d2, d3, d4⟩, d5⟩ := bxf5 M7.out.b5
    obtain ⟨⟨x0, x1, x2, x3, x4, x5, x6⟩, x7⟩ := bxf7 M7.out.b4
    go_wp2
    obtain ⟨r1, r2, r3⟩ := dc_end M7.out (g := w.heap.size + 1) (h := w.heap.size + 1 + 1) (List.mem_cons_of_mem _ (List.mem_cons_of_mem _ (List.mem_cons_of_mem _ (List.mem_cons_of_mem _ (List.mem_cons_of_mem _ (List.mem_cons_self ..)))))) (List.mem_cons_of_mem _ (List.mem_cons_of_mem _ (List.mem_cons_of_mem _ (List.mem_cons_of_mem _ (List.mem_cons_self ..))))) rfl rfl (by omega) (.int .i64 0) (.int .u32 0) (.int .i64 0) (.int .i64 0) (.int .i64 0) (.int .u32 t) (.int .i64 1) (.int .i64 v3) (.int .u32 0) (.int .i64 0) (.int .i64 0) (.int .i64 0)
    exact bodyPost_ret (results_c2t2 rfl _ _ (w.heap.size + 1) (w.heap.size + 1 + 1) _ _ rfl rfl r1 r2 rfl rfl) rfl ⟨by rw [HZ.out, HDc.out]; rfl, r3⟩
  subst hz
  go_wp2_with fail
  rw [rounds_succ]
  obtain ⟨a0, a1, a2, a3, a4, a5, a6⟩ := bx7 N3.out.b3
  have gj : u3.cell? ⟨g, 4, none⟩ = some (.func (.func 79) #[] #[]) := by have := cell_row N3.out.b1 4; simpa [fnV, lgV] using this
  go_wp2_with fail
  refine (H4.out _ N3.out.bk).mono ?_
  rintro e u4 ⟨rfl, mj⟩
  have N4 := hide (N3.out.mt mj)
  clear mj N3 a0 a1 a2 a3 a4 a5 a6 gj
  by_cases hz : v4 = 0
  rotate_left
  · have f1 : (v4 != 0) = true := by simpa using hz
    have f2 : (v4 == 0) = false := by simpa using hz
    have f3 : decide (v4 = 0) = false := by simpa using hz
    have HZ : Hid (res = ⟨zRc, rfY ⟨1, t, i, s, u⟩ v4, false, 0⟩) := HRs.out.1 v4 hz (by rw [HRf.out]; simp [fstE, hz])
    clear hz HRs HRf
    obtain ⟨c0, c1, c2, c3, c4⟩ := bx5 N4.out.b6
    go_wp2_with fail
    refine (HFv.out _ _).mono ?_
    rintro e w7 ⟨rfl, hg7⟩
    have M7 := hide (N4.out.then hg7)
    clear hg7 N4 c0 c1 c2 c3 c4
    obtain ⟨⟨d0, d1, d2, d3, d4⟩, d5⟩ := bxf5 M7.out.b5
    obtain ⟨⟨x0, x1, x2, x3, x4, x5, x6⟩, x7⟩ := bxf7 M7.out.b4
    go_wp2
    obtain ⟨r1, r2, r3⟩ := dc_end M7.out (g := w.heap.size + 1) (h := w.heap.size + 1 + 1) (List.mem_cons_of_mem _ (List.mem_cons_of_mem _ (List.mem_cons_of_mem _ (List.mem_cons_of_mem _ (List.mem_cons_of_mem _ (List.mem_cons_self ..)))))) (List.mem_cons_of_mem _ (List.mem_cons_of_mem _ (List.mem_cons_of_mem _ (List.mem_cons_of_mem _ (List.mem_cons_self ..))))) rfl rfl (by omega) (.int .i64 0) (.int .u32 0) (.int .i64 0) (.int .i64 0) (.int .i64 0) (.int .u32 t) (.int .i64 1) (.int .i64 v4) (.int .u32 0) (.int .i64 0) (.int .i64 0) (.int .i64 0)
    exact bodyPost_ret (results_c2t2 rfl _ _ (w.heap.size + 1) (w.heap.size + 1 + 1) _ _ rfl rfl r1 r2 rfl rfl) rfl ⟨by rw [HZ.out, HDc.out]; rfl, r3⟩
  subst hz
  go_wp2_with fail
  rw [rounds_succ]
  obtain ⟨a0, a1, a2, a3, a4, a5, a6⟩ := bx7 N4.out.b3
  have gj : u4.cell? ⟨g, 5, none⟩ = some (.func (.func 139) #[] #[.pointer (some ⟨c, 0, none⟩)]) := by have := cell_row N4.out.b1 5; simpa [fnV, lgV] using this
  go_wp2_with fail
  refine (H5.out _ c N4.out.bk N4.out.b2 (N4.out.tab HT.out)).mono ?_
  rintro e u5 ⟨rfl, mj⟩
  have N5 := hide (N4.out.mt mj)
  clear mj N4 a0 a1 a2 a3 a4 a5 a6 gj
  by_cases hz : v5 = 0
  rotate_left
  · have f1 : (v5 != 0) = true := by simpa using hz
    have f2 : (v5 == 0) = false := by simpa using hz
    have f3 : decide (v5 = 0) = false := by simpa using hz
    have HZ : Hid (res = ⟨zRc, rfY ⟨1, t, i, s, u⟩ v5, false, 0⟩) := HRs.out.1 v5 hz (by rw [HRf.out]; simp [fstE, hz])
    clear hz HRs HRf
    obtain ⟨c0, c1, c2, c3, c4⟩ := bx5 N5.out.b6
    go_wp2_with fail
    refine (HFv.out _ _).mono ?_
    rintro e w7 ⟨rfl, hg7⟩
    have M7 := hide (N5.out.then hg7)
    clear hg7 N5 c0 c1 c2 c3 c4
    obtain ⟨⟨d0, d1, d2, d3, d4⟩, d5⟩ := bxf5 M7.out.b5
    obtain ⟨⟨x0, x1, x2, x3, x4, x5, x6⟩, x7⟩ := bxf7 M7.out.b4
    go_wp2
    obtain ⟨r1, r2, r3⟩ := dc_end M7.out (g := w.heap.size + 1) (h := w.heap.size + 1 + 1) (List.mem_cons_of_mem _ (List.mem_cons_of_mem _ (List.mem_cons_of_mem _ (List.mem_cons_of_mem _ (List.mem_cons_of_mem _ (List.mem_cons_self ..)))))) (List.mem_cons_of_mem _ (List.mem_cons_of_mem _ (List.mem_cons_of_mem _ (List.mem_cons_of_mem _ (List.mem_cons_self ..))))) rfl rfl (by omega) (.int .i64 0) (.int .u32 0) (.int .i64 0) (.int .i64 0) (.int .i64 0) (.int .u32 t) (.int .i64 1) (.int .i64 v5) (.int .u32 0) (.int .i64 0) (.int .i64 0) (.int .i64 0)
    exact bodyPost_ret (results_c2t2 rfl _ _ (w.heap.size + 1) (w.heap.size + 1 + 1) _ _ rfl rfl r1 r2 rfl rfl) rfl ⟨by rw [HZ.out, HDc.out]; rfl, r3⟩
  subst hz
  go_wp2_with fail
  rw [rounds_succ]
  obtain ⟨a0, a1, a2, a3, a4, a5, a6⟩ := bx7 N5.out.b3
  obtain ⟨y0, y1⟩ := bx2 N5.out.b0
  go_wp2_with fail
  refine (HRc.out (by first | exact True.intro | rfl) _ N5.out.bk).mono ?_
  rintro e w8 ⟨rfl, m8⟩
  have HZ := hide (HRs.out.2 (by rw [HRf.out]; simp [fstE]))
  have M8 := hide (N5.out.mt m8)
  have HL5 : Hid (w.heap.size + 1 + 1 < w8.heap.size ∧ w.heap.size + 1 < w8.heap.size) := ⟨row_lt M8.out.b4, row_lt M8.out.b5⟩
  have M9 := hide (M8.out.box [.int .i64 rk, .int .u32 ri, .int .i64 rs, .int .i64 ru, .int .i64 rc] 28)
  clear m8 N5 M8 a0 a1 a2 a3 a4 a5 a6 y0 y1 HRs HRf HRc
  go_wp2
  generalize hZ : w8.heap.size = Z at *
  generalize World.alloc w8 _ = w9 at *
  clear hZ
  have HSo : Hid (∀ W, w9.grownBy W none → (W.cell? ⟨Z, 0, none⟩ = some (.int .i64 rk) ∧ W.cell? ⟨Z, 1, none⟩ = some (.int .u32 ri) ∧ W.cell? ⟨Z, 2, none⟩ = some (.int .i64 rs) ∧ W.cell? ⟨Z, 3, none⟩ = some (.int .i64 ru) ∧ W.cell? ⟨Z, 4, none⟩ = some (.int .i64 rc) ∧ W.cell? ⟨w.heap.size, 0, none⟩ = some (.int .i64 1) ∧ W.cell? ⟨w.heap.size, 1, none⟩ = some (.int .u32 t) ∧ W.cell? ⟨w.heap.size, 2, none⟩ = some (.int .u32 i) ∧ W.cell? ⟨w.heap.size, 3, none⟩ = some (.int .i64 s) ∧ W.cell? ⟨w.heap.size, 4, none⟩ = some (.int .i64 u))) := fun W gW => s10_of (box_to M9.out.b0 gW) (box_to M9.out.b7 gW)
  have HRv : Hid (∀ W, Calls Tryz.prog 19 #[.agg #[.int .i64 1, .int .u32 t, .int .u32 i, .int .i64 s, .int .i64 u], .agg #[.int .i64 rk, .int .u32 ri, .int .i64 rs, .int .i64 ru, .int .i64 rc]] W fun e w' => e = .returned (.agg #[.int .u32 t, .int .i64 1, .int .i64 0, .int .u32 ri, .int .i64 0, .int .i64 ru, .int .i64 0]) ∧ W.grownBy w' none) := HRp.out
  have hn1 : Hid (w.heap.size + 1 ≠ Z) := fun e => by have := HL5.out.2; omega
  have hn2 : Hid (w.heap.size + 1 ≠ w.heap.size) := fun e => by omega
  have hn3 : Hid (w.heap.size + 1 + 1 ≠ Z) := fun e => by have := HL5.out.1; omega
  have hn4 : Hid (w.heap.size + 1 + 1 ≠ w.heap.size) := fun e => by omega
  have HDy : Hid (dcV ⟨⟨rk, ri, rs, ru, rc⟩, rpY ⟨1, t, i, s, u⟩ ⟨rk, ri, rs, ru, rc⟩, true, 0⟩ = .tuple #[.agg #[.int .i64 rk, .int .u32 ri, .int .i64 rs, .int .i64 ru, .int .i64 rc], .agg #[.int .u32 t, .int .i64 1, .int .i64 0, .int .u32 ri, .int .i64 0, .int .i64 ru, .int .i64 0], .bool true, .int .i64 0]) := by simp [Hid, dcV, rpY, Rk.rcV, Rt.ryV]
  clear HRp
  refine wp_region_held_drew (S := (fun W => (W.cell? ⟨Z, 0, none⟩ = some (.int .i64 rk) ∧ W.cell? ⟨Z, 1, none⟩ = some (.int .u32 ri) ∧ W.cell? ⟨Z, 2, none⟩ = some (.int .i64 rs) ∧ W.cell? ⟨Z, 3, none⟩ = some (.int .i64 ru) ∧ W.cell? ⟨Z, 4, none⟩ = some (.int .i64 rc) ∧ W.cell? ⟨w.heap.size, 0, none⟩ = some (.int .i64 1) ∧ W.cell? ⟨w.heap.size, 1, none⟩ = some (.int .u32 t) ∧ W.cell? ⟨w.heap.size, 2, none⟩ = some (.int .u32 i) ∧ W.cell? ⟨w.heap.size, 3, none⟩ = some (.int .i64 s) ∧ W.cell? ⟨w.heap.size, 4, none⟩ = some (.int .i64 u)))) (by kernel_rfl) ?_ (fun hHeld => ?_)
  · (exact HSo.out _ (grown_drew _ none))
  refine tkH (i := 0) (v := ?_) rfl ?_ ?_
  rotate_left
  · (intro w hSw; (try dsimp only at hSw); (go_simp <;> with_reducible rfl))
  try simp only [Act.put, List.setIfInBounds_toArray]
  refine tkH (i := 1) (v := ?_) rfl ?_ ?_
  rotate_left
  · (intro w hSw; (try dsimp only at hSw); (go_simp <;> with_reducible rfl))
  try simp only [Act.put]
  refine tkH (i := 2) (v := ?_) rfl ?_ ?_
  rotate_left
  · (intro w hSw; (try dsimp only at hSw); (go_simp <;> with_reducible rfl))
  try simp only [Act.put]
  refine rdH (i := 3) rfl (fun K hK => ?_)
  go_simp
  refine (HRv.out _).mono ?_; rintro e wa ⟨rfl, hga⟩; have Ga := hide (grown_trans (grown_drew w9 none) hga); have hJ := HSo.out _ Ga.out; have Ma := hide (M9.out.then Ga.out); obtain ⟨⟨d0, d1, d2, d3, d4⟩, d5⟩ := bxf5 Ma.out.b6; obtain ⟨⟨x0, x1, x2, x3, x4, x5, x6⟩, x7⟩ := bxf7 Ma.out.b5
  go_wp2_with fail
  refine hK.out _ _ ?_ (fun hHeld => ?_)
  · ((try dsimp only); first | with_reducible assumption | with_reducible exact s10_set5 hJ hn1.out hn2.out _ _ _ _ _ | with_reducible exact s10_set7 (s10_set5 hJ hn1.out hn2.out _ _ _ _ _) hn3.out hn4.out _ _ _ _ _ _ _)
  clear hK K
  try simp only [Act.put, List.setIfInBounds_toArray, List.set_cons_zero, List.set_cons_succ]
  refine rdH (i := 4) rfl (fun K hK => ?_)
  go_simp
  refine hK.out _ _ ?_ (fun hHeld => ?_)
  · ((try dsimp only); first | with_reducible assumption | with_reducible exact s10_set5 hJ hn1.out hn2.out _ _ _ _ _ | with_reducible exact s10_set7 (s10_set5 hJ hn1.out hn2.out _ _ _ _ _) hn3.out hn4.out _ _ _ _ _ _ _)
  clear hK K
  try simp only [Act.put, List.setIfInBounds_toArray, List.set_cons_zero, List.set_cons_succ]
  refine rdH (i := 5) rfl (fun K hK => ?_)
  go_simp
  refine hK.out _ _ ?_ (fun hHeld => ?_)
  · ((try dsimp only); first | with_reducible assumption | with_reducible exact s10_set5 hJ hn1.out hn2.out _ _ _ _ _ | with_reducible exact s10_set7 (s10_set5 hJ hn1.out hn2.out _ _ _ _ _) hn3.out hn4.out _ _ _ _ _ _ _)
  clear hK K
  try simp only [Act.put, List.setIfInBounds_toArray, List.set_cons_zero, List.set_cons_succ]
  refine tkH (i := 6) (oi := { dst := some 8, op := Go.Op.assign (Go.Operand.const (Go.Value.bool true)), type := 4, pos := "cases.go:51", after := #[{ on := 5, ground := Go.Ground.chain }, { on := 0, ground := Go.Ground.phase }, { on := 1, ground := Go.Ground.phase }, { on := 2, ground := Go.Ground.phase }, { on := 3, ground := Go.Ground.phase }, { on := 4, ground := Go.Ground.phase }, { on := 5, ground := Go.Ground.phase }], guard := none }) (v := ?_) rfl ?_ ?_
  rotate_left
  · (intro w hSw; (try dsimp only at hSw); (go_simp <;> with_reducible rfl))
  try simp only [Act.put, List.setIfInBounds_toArray, List.set_cons_zero, List.set_cons_succ]
  refine tkH (i := 7) (oi := { dst := some 9, op := Go.Op.assign (Go.Operand.const (Go.Value.int Go.IntKind.i64 0)), type := 29, pos := "cases.go:51", after := #[{ on := 6, ground := Go.Ground.chain }, { on := 0, ground := Go.Ground.phase }, { on := 1, ground := Go.Ground.phase }, { on := 2, ground := Go.Ground.phase }, { on := 3, ground := Go.Ground.phase }, { on := 4, ground := Go.Ground.phase }, { on := 5, ground := Go.Ground.phase }, { on := 6, ground := Go.Ground.phase }], guard := none }) (v := ?_) rfl ?_ ?_
  rotate_left
  · (intro w hSw; (try dsimp only at hSw); (go_simp <;> with_reducible rfl))
  try simp only [Act.put, List.setIfInBounds_toArray, List.set_cons_zero, List.set_cons_succ]
  refine wpAnyH_done (by kernel_rfl) ?_ _
  go_wp2
  obtain ⟨r1, r2, r3⟩ := dc_end Ma.out (g := w.heap.size + 1) (h := w.heap.size + 1 + 1) (List.mem_cons_of_mem _ (List.mem_cons_of_mem _ (List.mem_cons_of_mem _ (List.mem_cons_of_mem _ (List.mem_cons_of_mem _ (List.mem_cons_of_mem _ (List.mem_cons_self ..))))))) (List.mem_cons_of_mem _ (List.mem_cons_of_mem _ (List.mem_cons_of_mem _ (List.mem_cons_of_mem _ (List.mem_cons_of_mem _ (List.mem_cons_self ..)))))) rfl rfl (by omega) (.int .i64 rk) (.int .u32 ri) (.int .i64 rs) (.int .i64 ru) (.int .i64 rc) (.int .u32 t) (.int .i64 1) (.int .i64 0) (.int .u32 ri) (.int .i64 0) (.int .i64 ru) (.int .i64 0)
  exact bodyPost_ret (results_c2t2 rfl _ _ (w.heap.size + 1) (w.heap.size + 1 + 1) _ _ rfl rfl r1 r2 rfl rfl) rfl ⟨by rw [HZ.out, HDy.out]; rfl, r3⟩
end
end Go.Proofs.YtjfhilignbeboaaGreatDoor
