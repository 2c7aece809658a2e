/- requests: Check. -/
import Derived.Test.YtkocmlfklokngaaQb
namespace Go.Proofs.Ytkocmlfklokngaa
open Go.RowKit
attribute [local go_sem ↓] Go.wp_at_zero Go.wp_at_succ
/-- A request in a box of the call's own. -/
structure CkS (w wr : World) (q : Rq) : Prop where
  box : wr.heap[w.heap.size]? = some (.cells [Value.int .i64 q.k, .int .u32 q.t, .int .u32 q.i, .int .i64 q.s, .int .i64 q.u].toArray 25 (0, 0))
  gr : w.grownBy wr none
theorem CkS.then {w wr wr' : World} {q : Rq} (h : CkS w wr q) (hg : wr.grownBy wr' none) : CkS w wr' q := ⟨(hg.block _ (row_lt h.box) (by simp)).trans h.box, grown_trans h.gr hg⟩
theorem CkS.begin (w : World) (q : Rq) : CkS w (w.alloc (.cells #[.int .i64 q.k, .int .u32 q.t, .int .u32 q.i, .int .i64 q.s, .int .i64 q.u] 25)) q := ⟨heap_alloc_new w _, World.grownBy_alloc w _ none⟩
theorem index0 (w : World) : (Instr.index 54 (.agg #[.int .i64 4294967295, .func (.func 40) #[] #[], .func (.func 41) #[] #[], .func (.func 42) #[] #[], .func (.func 43) #[] #[], .int .i64 65535, .func (.func 45) #[] #[], .func (.func 46) #[] #[], .func (.func 47) #[] #[], .func (.func 49) #[] #[], .int .i64 9223372036854775807, .func (.func 51) #[] #[], .func (.func 52) #[] #[], .func (.func 53) #[] #[], .func (.func 55) #[] #[]]) (.int .i64 0)).run Try.prog w = .ok (.agg #[.int .i64 4294967295, .func (.func 40) #[] #[], .func (.func 41) #[] #[], .func (.func 42) #[] #[], .func (.func 43) #[] #[]]) w := by simp [Instr.index, run_underlying Try.underlying54, asIntOf, go_sem]
theorem index1 (w : World) : (Instr.index 54 (.agg #[.int .i64 4294967295, .func (.func 40) #[] #[], .func (.func 41) #[] #[], .func (.func 42) #[] #[], .func (.func 43) #[] #[], .int .i64 65535, .func (.func 45) #[] #[], .func (.func 46) #[] #[], .func (.func 47) #[] #[], .func (.func 49) #[] #[], .int .i64 9223372036854775807, .func (.func 51) #[] #[], .func (.func 52) #[] #[], .func (.func 53) #[] #[], .func (.func 55) #[] #[]]) (.int .i64 1)).run Try.prog w = .ok (.agg #[.int .i64 65535, .func (.func 45) #[] #[], .func (.func 46) #[] #[], .func (.func 47) #[] #[], .func (.func 49) #[] #[]]) w := by simp [Instr.index, run_underlying Try.underlying54, asIntOf, go_sem]
theorem index2 (w : World) : (Instr.index 54 (.agg #[.int .i64 4294967295, .func (.func 40) #[] #[], .func (.func 41) #[] #[], .func (.func 42) #[] #[], .func (.func 43) #[] #[], .int .i64 65535, .func (.func 45) #[] #[], .func (.func 46) #[] #[], .func (.func 47) #[] #[], .func (.func 49) #[] #[], .int .i64 9223372036854775807, .func (.func 51) #[] #[], .func (.func 52) #[] #[], .func (.func 53) #[] #[], .func (.func 55) #[] #[]]) (.int .i64 2)).run Try.prog w = .ok (.agg #[.int .i64 9223372036854775807, .func (.func 51) #[] #[], .func (.func 52) #[] #[], .func (.func 53) #[] #[], .func (.func 55) #[] #[]]) w := by simp [Instr.index, run_underlying Try.underlying54, asIntOf, go_sem]
theorem chk_of {q : Rq} {b : Bool} (h : q.mayB = b) : chk q = if b = true then 0 else 200 := by
  subst h
  rfl
set_option maxRecDepth 20000 in
set_option maxHeartbeats 4000000 in
theorem check_any (q : Rq) (ho : q.Ok) (w : World) : Calls Try.prog 12 #[rqV q] w fun e w' => e = .returned (.int .i64 (chk q)) ∧ w.grownBy w' none := by
  obtain ⟨res, hres⟩ : ∃ res, res = chk q := ⟨_, rfl⟩
  rw [← hres]
  have HR := hide hres
  clear hres
  have S0 := hide (CkS.begin w q)
  have qk := isKind_any q.k
  have qI := rightI_any q ho
  have qS := rightS_any q ho
  have qL := rightL_any q ho
  have hm : q.mayB = (decide (1 ≤ q.k ∧ q.k ≤ 10) && (inP (hI q.k) q.i 4294967295 && (inP (hS q.k) q.s 65535 && inP (hL q.k) q.u 9223372036854775807))) := rfl
  have HM := hide hm
  clear hm ho
  generalize decide (1 ≤ q.k ∧ q.k ≤ 10) = bk at *
  generalize inP (hI q.k) q.i 4294967295 = bI at *
  generalize inP (hS q.k) q.s 65535 = bS at *
  generalize inP (hL q.k) q.u 9223372036854775807 = bL at *
  unfold rqV partI at qI
  unfold rqV partS at qS
  unfold rqV partL at qL
  unfold rqV
  obtain ⟨c0, c1, c2, c3, c4⟩ := box5 S0.out.box
  go_enter Try.func12, Try.ntmps12
  go_wp2_with fail
  generalize w.alloc (.cells #[.int .i64 q.k, .int .u32 q.t, .int .u32 q.i, .int .i64 q.s, .int .i64 q.u] 25) = w1 at *
  refine (qk w1).mono ?_
  clear qk
  rintro e wx ⟨rfl, hw⟩
  obtain rfl := hw.symm
  clear hw
  cases bk with
  | false =>
    have HZ : Hid (res = 200) := by rw [HR.out, chk_of HM.out]; rfl
    go_wp2
    go_ret
    exact ⟨by rw [HZ.out]; rfl, S0.out.gr⟩
  | true =>
    go_wp2_with fail
    refine (parts_any w1).mono ?_
    rintro e w2 ⟨rfl, hg⟩
    have S1 := hide (S0.out.then hg)
    clear hg S0 c0 c1 c2 c3 c4
    unfold partsV
    go_wp2_with fail
    have x0 := index0
    have x1 := index1
    have x2 := index2
    refine wp_loop_rounds 4 ?_
    rw [rounds_succ]
    have TI := hide (S1.out.then (World.grownBy_alloc w2 (.cells #[.int .i64 4294967295, .func (.func 40) #[] #[], .func (.func 41) #[] #[], .func (.func 42) #[] #[], .func (.func 43) #[] #[]] 53) none))
    obtain ⟨c0, c1, c2, c3, c4⟩ := box5 TI.out.box
    have qIw := qI (w2.alloc (.cells #[.int .i64 4294967295, .func (.func 40) #[] #[], .func (.func 41) #[] #[], .func (.func 42) #[] #[], .func (.func 43) #[] #[]] 53))
    clear qI S1
    go_wp2_with fail
    generalize w2.alloc (.cells #[.int .i64 4294967295, .func (.func 40) #[] #[], .func (.func 41) #[] #[], .func (.func 42) #[] #[], .func (.func 43) #[] #[]] 53) = vI at *
    refine qIw.mono ?_
    clear qIw
    rintro e wI ⟨rfl, hg⟩
    have SI := hide (TI.out.then hg)
    clear hg TI c0 c1 c2 c3 c4
    cases bI with
    | false =>
      have HZ : Hid (res = 200) := by rw [HR.out, chk_of HM.out]; rfl
      go_wp2
      go_ret
      exact ⟨by rw [HZ.out]; rfl, SI.out.gr⟩
    | true =>
      go_wp2_with fail
      rw [rounds_succ]
      have TS := hide (SI.out.then (World.grownBy_alloc wI (.cells #[.int .i64 65535, .func (.func 45) #[] #[], .func (.func 46) #[] #[], .func (.func 47) #[] #[], .func (.func 49) #[] #[]] 53) none))
      obtain ⟨c0, c1, c2, c3, c4⟩ := box5 TS.out.box
      have qSw := qS (wI.alloc (.cells #[.int .i64 65535, .func (.func 45) #[] #[], .func (.func 46) #[] #[], .func (.func 47) #[] #[], .func (.func 49) #[] #[]] 53))
      clear qS SI
      go_wp2_with fail
      generalize wI.alloc (.cells #[.int .i64 65535, .func (.func 45) #[] #[], .func (.func 46) #[] #[], .func (.func 47) #[] #[], .func (.func 49) #[] #[]] 53) = vS at *
      refine qSw.mono ?_
      clear qSw
      rintro e wS ⟨rfl, hg⟩
      have SS := hide (TS.out.then hg)
      clear hg TS c0 c1 c2 c3 c4
      cases bS with
      | false =>
        have HZ : Hid (res = 200) := by rw [HR.out, chk_of HM.out]; rfl
        go_wp2
        go_ret
        exact ⟨by rw [HZ.out]; rfl, SS.out.gr⟩
      | true =>
        go_wp2_with fail
        rw [rounds_succ]
        have TL := hide (SS.out.then (World.grownBy_alloc wS (.cells #[.int .i64 9223372036854775807, .func (.func 51) #[] #[], .func (.func 52) #[] #[], .func (.func 53) #[] #[], .func (.func 55) #[] #[]] 53) none))
        obtain ⟨c0, c1, c2, c3, c4⟩ := box5 TL.out.box
        have qLw := qL (wS.alloc (.cells #[.int .i64 9223372036854775807, .func (.func 51) #[] #[], .func (.func 52) #[] #[], .func (.func 53) #[] #[], .func (.func 55) #[] #[]] 53))
        clear qL SS
        go_wp2_with fail
        generalize wS.alloc (.cells #[.int .i64 9223372036854775807, .func (.func 51) #[] #[], .func (.func 52) #[] #[], .func (.func 53) #[] #[], .func (.func 55) #[] #[]] 53) = vL at *
        refine qLw.mono ?_
        clear qLw
        rintro e wL ⟨rfl, hg⟩
        have SL := hide (TL.out.then hg)
        clear hg TL c0 c1 c2 c3 c4
        cases bL with
        | false =>
          have HZ : Hid (res = 200) := by rw [HR.out, chk_of HM.out]; rfl
          go_wp2
          go_ret
          exact ⟨by rw [HZ.out]; rfl, SL.out.gr⟩
        | true =>
          go_wp2_with fail
          have HZ : Hid (res = 0) := by rw [HR.out, chk_of HM.out]; rfl
          rw [rounds_succ]
          go_wp2
          go_ret
          exact ⟨by rw [HZ.out]; rfl, SL.out.gr⟩
end Go.Proofs.Ytkocmlfklokngaa
