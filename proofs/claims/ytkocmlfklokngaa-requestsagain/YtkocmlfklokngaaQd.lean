/- requests: what writes a part, Put. -/
import Derived.Test.YtkocmlfklokngaaQc
namespace Go.Proofs.Ytkocmlfklokngaa
open Go.RowKit
attribute [local go_sem ↓] Go.wp_at_zero Go.wp_at_succ
theorem writeI_any (g : Nat) (bs : List Int) (q : Rq) (w : World) (hW : WrAt w g bs) (h0 : 0 ≤ q.i) (h1 : q.i < 4294967296) (hL : bs.length ≤ 4611686018427387000) : Calls Try.prog 42 #[.pointer (some ⟨g, 0, none⟩), rqV q] w fun e w' => e = .returned (.tuple #[]) ∧ WrAt w' g (bs ++ leB q.i 4) ∧ w.grownBy w' (some g) := by
  have g1 := World.grownBy_alloc w (.cells #[.int .i64 q.k, .int .u32 q.t, .int .u32 q.i, .int .i64 q.s, .int .i64 q.u] 25) none
  have W0 := hW.kept g1 (by simp) (NoBlock.none _)
  have qn := four_any g bs q.i _ W0 h0 h1 hL
  have G := hide (grown_none g1 (some g))
  obtain ⟨c0, c1, c2, c3, c4⟩ := box5 (heap_alloc_new w (.cells [Value.int .i64 q.k, .int .u32 q.t, .int .u32 q.i, .int .i64 q.s, .int .i64 q.u].toArray 25))
  clear W0 hW g1 h0 h1
  unfold rqV
  go_enter Try.func42, Try.ntmps42
  go_wp2_with fail
  refine qn.mono ?_
  clear qn
  rintro e w2 ⟨rfl, hW, hg⟩
  have H := hide (And.intro hW (grown_trans G.out hg))
  clear hW hg
  go_wp2
  go_end0
  exact ⟨rfl, H.out.1, H.out.2⟩
theorem writeS_any (g : Nat) (bs : List Int) (q : Rq) (w : World) (hW : WrAt w g bs) (h0 : 0 ≤ q.s) (h1 : q.s < 65536) (hL : bs.length ≤ 4611686018427387000) : Calls Try.prog 47 #[.pointer (some ⟨g, 0, none⟩), rqV q] w fun e w' => e = .returned (.tuple #[]) ∧ WrAt w' g (bs ++ leB q.s 2) ∧ w.grownBy w' (some g) := by
  have g1 := World.grownBy_alloc w (.cells #[.int .i64 q.k, .int .u32 q.t, .int .u32 q.i, .int .i64 q.s, .int .i64 q.u] 25) none
  have W0 := hW.kept g1 (by simp) (NoBlock.none _)
  have W1 : IntKind.u16.wrap q.s = q.s := by rw [IntKind.wrap_u16]; omega
  have qn := two_any g bs q.s _ W0 h0 h1 hL
  have G := hide (grown_none g1 (some g))
  obtain ⟨c0, c1, c2, c3, c4⟩ := box5 (heap_alloc_new w (.cells [Value.int .i64 q.k, .int .u32 q.t, .int .u32 q.i, .int .i64 q.s, .int .i64 q.u].toArray 25))
  clear W0 hW g1 h0 h1
  unfold rqV
  go_enter Try.func47, Try.ntmps47
  go_wp2_with fail
  refine qn.mono ?_
  clear qn
  rintro e w2 ⟨rfl, hW, hg⟩
  have H := hide (And.intro hW (grown_trans G.out hg))
  clear hW hg
  go_wp2
  go_end0
  exact ⟨rfl, H.out.1, H.out.2⟩
theorem writeL_any (g : Nat) (bs : List Int) (q : Rq) (w : World) (hW : WrAt w g bs) (h0 : 0 ≤ q.u) (h1 : q.u < 18446744073709551616) (hL : bs.length ≤ 4611686018427387000) : Calls Try.prog 53 #[.pointer (some ⟨g, 0, none⟩), rqV q] w fun e w' => e = .returned (.tuple #[]) ∧ WrAt w' g (bs ++ leB q.u 8) ∧ w.grownBy w' (some g) := by
  have g1 := World.grownBy_alloc w (.cells #[.int .i64 q.k, .int .u32 q.t, .int .u32 q.i, .int .i64 q.s, .int .i64 q.u] 25) none
  have W0 := hW.kept g1 (by simp) (NoBlock.none _)
  have W1 : IntKind.u64.wrap q.u = q.u := by rw [IntKind.wrap_u64]; omega
  have qn := eight_any g bs q.u _ W0 h0 h1 hL
  have G := hide (grown_none g1 (some g))
  obtain ⟨c0, c1, c2, c3, c4⟩ := box5 (heap_alloc_new w (.cells [Value.int .i64 q.k, .int .u32 q.t, .int .u32 q.i, .int .i64 q.s, .int .i64 q.u].toArray 25))
  clear W0 hW g1 h0 h1
  unfold rqV
  go_enter Try.func53, Try.ntmps53
  go_wp2_with fail
  refine qn.mono ?_
  clear qn
  rintro e w2 ⟨rfl, hW, hg⟩
  have H := hide (And.intro hW (grown_trans G.out hg))
  clear hW hg
  go_wp2
  go_end0
  exact ⟨rfl, H.out.1, H.out.2⟩
/-- Inside Put: the request's box, the Writer. -/
structure PtS (w wr : World) (q : Rq) (g : Nat) (bs : List Int) : Prop where
  box : wr.heap[w.heap.size]? = some (.cells [Value.int .i64 q.k, .int .u32 q.t, .int .u32 q.i, .int .i64 q.s, .int .i64 q.u].toArray 25 (0, 0))
  wra : WrAt wr g bs
  lo : w.heap.size < g
  gr : w.grownBy wr none
theorem PtS.new {w wr wr' : World} {q : Rq} {g : Nat} {bs : List Int} (h : PtS w wr q g bs) (hg : wr.grownBy wr' none) : PtS w wr' q g bs :=
  ⟨(hg.block _ (row_lt h.box) (by simp)).trans h.box, h.wra.kept hg (by simp) (NoBlock.none _), h.lo, grown_trans h.gr hg⟩
theorem PtS.next {w wr wr' : World} {q : Rq} {g : Nat} {bs bs' : List Int} (h : PtS w wr q g bs) (hW : WrAt wr' g bs') (hg : wr.grownBy wr' (some g)) : PtS w wr' q g bs' :=
  ⟨(hg.block _ (row_lt h.box) (by have := h.lo; simp; omega)).trans h.box, hW, h.lo, grown_then h.gr hg (fun j e => by cases e; exact Or.inl (by have := h.lo; omega))⟩
theorem PtS.begin {w wr : World} {q : Rq} (h : CkS w wr q) : PtS w (wr.alloc (.cells Try.zeroCells46 46)) q wr.heap.size [] := by
  have hg := World.grownBy_alloc wr (.cells Try.zeroCells46 46) none
  exact ⟨(hg.block _ (row_lt h.box) (by simp)).trans h.box, wr_zero wr, row_lt h.box, grown_trans h.gr hg⟩
/-- What Put answers: nothing, or the request's bytes in a new row. -/
def PutP (q : Rq) (w w' : World) (v : Value) : Prop := (q.May ∧ ∃ g, v = .slice (some ⟨g, 0, none⟩) (sz q.k) (sz q.k) ∧ w.heap.size ≤ g ∧ w'.heap[g]? = some (.cells (q.out.map (Value.int .u8)).toArray 5 (0, 0))) ∨ (¬ q.May ∧ v = .slice none 0 0)
theorem out_parts (q : Rq) (a b c : Bool) (ha : hI q.k = a) (hb : hS q.k = b) (hc : hL q.k = c) : ((([] ++ [q.k]) ++ leB q.t 4) ++ ifB a (leB q.i 4)) ++ ifB b (leB q.s 2) ++ ifB c (leB q.u 8) = q.out := by
  subst ha hb hc
  unfold Rq.out
  simp
set_option maxRecDepth 20000 in
set_option maxHeartbeats 8000000 in
theorem put_req (q : Rq) (ho : q.Ok) (w : World) : Calls Try.prog 9 #[rqV q] w fun e w' => ∃ v, e = .returned (.tuple #[v, .int .i64 (chk q)]) ∧ PutP q w w' v ∧ w.grownBy w' none := by
  have S0 := hide (CkS.begin w q)
  have qc := check_any q ho (w.alloc (.cells #[.int .i64 q.k, .int .u32 q.t, .int .u32 q.i, .int .i64 q.s, .int .i64 q.u] 25))
  obtain ⟨c0, c1, c2, c3, c4⟩ := box5 S0.out.box
  by_cases hm : q.May
  · rw [show chk q = 0 from if_pos hm] at qc ⊢
    unfold rqV at qc ⊢
    have HM := hide (And.intro hm (And.intro ho (may_nums hm)))
    have W0 : IntKind.u8.wrap q.k = q.k := by rw [IntKind.wrap_u8]; have := (may_nums hm).1; omega
    clear hm ho
    go_enter Try.func9, Try.ntmps9
    go_wp2_with fail
    generalize w.alloc (.cells #[.int .i64 q.k, .int .u32 q.t, .int .u32 q.i, .int .i64 q.s, .int .i64 q.u] 25) = w1 at *
    refine qc.mono ?_
    clear qc
    rintro e w2 ⟨rfl, hg⟩
    have S1 := hide (S0.out.then hg)
    clear hg S0 c0 c1 c2 c3 c4
    have P0 := hide (PtS.begin S1.out)
    obtain ⟨c0, c1, c2, c3, c4⟩ := box5 P0.out.box
    go_wp2_with fail
    generalize w2.alloc (.cells Try.zeroCells46 46) = w3 at *
    generalize w2.heap.size = G at *
    refine (byte_any G [] q.k w3 P0.out.wra (by simp)).mono ?_
    rintro e w4 ⟨rfl, hW, hg⟩
    have P1 := hide (P0.out.next hW hg)
    clear hW hg P0 c0 c1 c2 c3 c4
    obtain ⟨c0, c1, c2, c3, c4⟩ := box5 P1.out.box
    go_wp2_with fail
    refine (four_any G _ q.t w4 P1.out.wra HM.out.2.1.t0 HM.out.2.1.t1 (by simp)).mono ?_
    rintro e w5 ⟨rfl, hW, hg⟩
    have P2 := hide (P1.out.next hW hg)
    clear hW hg P1 c0 c1 c2 c3 c4
    go_wp2_with fail
    refine (parts_any w5).mono ?_
    rintro e w6 ⟨rfl, hg⟩
    have PX := hide (P2.out.new hg)
    clear hg P2
    unfold partsV
    have x0 := index0
    have x1 := index1
    have x2 := index2
    have qI := hasId_any q.k
    have qS := hasSeat_any q.k
    have qL := hasTtl_any q.k
    obtain ⟨bI, eI⟩ : ∃ b, hI q.k = b := ⟨_, rfl⟩
    obtain ⟨bS, eS⟩ : ∃ b, hS q.k = b := ⟨_, rfl⟩
    obtain ⟨bL, eL⟩ : ∃ b, hL q.k = b := ⟨_, rfl⟩
    rw [eI] at qI
    rw [eS] at qS
    rw [eL] at qL
    have HE := hide (And.intro eI (And.intro eS eL))
    clear eI eS eL
    have wI := fun g bs w1 h hL => writeI_any g bs q w1 h HM.out.2.2.2.1.1 (by have := HM.out.2.2.2.1.2.1; omega) hL
    have wS := fun g bs w1 h hL => writeS_any g bs q w1 h HM.out.2.2.2.2.1.1 (by have := HM.out.2.2.2.2.1.2.1; omega) hL
    have wL := fun g bs w1 h hL => writeL_any g bs q w1 h HM.out.2.2.2.2.2.1 (by have := HM.out.2.2.2.2.2.2.1; omega) hL
    unfold rqV at wI wS wL
    have wI := hide wI
    have wS := hide wS
    have wL := hide wL
    go_wp2_with fail
    refine wp_loop_rounds 4 ?_
    rw [rounds_succ]
    have TI := hide (PX.out.new (World.grownBy_alloc w6 (.cells #[.int .i64 4294967295, .func (.func 40) #[] #[], .func (.func 41) #[] #[], .func (.func 42) #[] #[], .func (.func 43) #[] #[]] 53) none))
    obtain ⟨c0, c1, c2, c3, c4⟩ := box5 TI.out.box
    obtain ⟨d0, d1, d2, d3, d4⟩ := box5 (heap_alloc_new w6 (.cells [Value.int .i64 4294967295, .func (.func 40) #[] #[], .func (.func 41) #[] #[], .func (.func 42) #[] #[], .func (.func 43) #[] #[]].toArray 53))
    have BI := hide (heap_alloc_new w6 (.cells [Value.int .i64 4294967295, .func (.func 40) #[] #[], .func (.func 41) #[] #[], .func (.func 42) #[] #[], .func (.func 43) #[] #[]].toArray 53))
    go_wp2_with fail
    generalize w6.alloc (.cells #[.int .i64 4294967295, .func (.func 40) #[] #[], .func (.func 41) #[] #[], .func (.func 42) #[] #[], .func (.func 43) #[] #[]] 53) = vI at *
    generalize w6.heap.size = XI at *
    refine (qI vI).mono ?_
    clear qI
    rintro e wx ⟨rfl, hw⟩
    obtain rfl := hw.symm
    clear hw
    cases bI with
    | false =>
      clear c0 c1 c2 c3 c4 d0 d1 d2 d3 d4
      go_wp2_with fail
      rw [rounds_succ]
      have TS := hide (TI.out.new (World.grownBy_alloc vI (.cells #[.int .i64 65535, .func (.func 45) #[] #[], .func (.func 46) #[] #[], .func (.func 47) #[] #[], .func (.func 49) #[] #[]] 53) none))
      obtain ⟨c0, c1, c2, c3, c4⟩ := box5 TS.out.box
      obtain ⟨d0, d1, d2, d3, d4⟩ := box5 (heap_alloc_new vI (.cells [Value.int .i64 65535, .func (.func 45) #[] #[], .func (.func 46) #[] #[], .func (.func 47) #[] #[], .func (.func 49) #[] #[]].toArray 53))
      have BS := hide (heap_alloc_new vI (.cells [Value.int .i64 65535, .func (.func 45) #[] #[], .func (.func 46) #[] #[], .func (.func 47) #[] #[], .func (.func 49) #[] #[]].toArray 53))
      go_wp2_with fail
      generalize vI.alloc (.cells #[.int .i64 65535, .func (.func 45) #[] #[], .func (.func 46) #[] #[], .func (.func 47) #[] #[], .func (.func 49) #[] #[]] 53) = vS at *
      generalize vI.heap.size = XS at *
      refine (qS vS).mono ?_
      clear qS
      rintro e wx ⟨rfl, hw⟩
      obtain rfl := hw.symm
      clear hw
      cases bS with
      | false =>
        clear c0 c1 c2 c3 c4 d0 d1 d2 d3 d4
        go_wp2_with fail
        rw [rounds_succ]
        have TL := hide (TS.out.new (World.grownBy_alloc vS (.cells #[.int .i64 9223372036854775807, .func (.func 51) #[] #[], .func (.func 52) #[] #[], .func (.func 53) #[] #[], .func (.func 55) #[] #[]] 53) none))
        obtain ⟨c0, c1, c2, c3, c4⟩ := box5 TL.out.box
        obtain ⟨d0, d1, d2, d3, d4⟩ := box5 (heap_alloc_new vS (.cells [Value.int .i64 9223372036854775807, .func (.func 51) #[] #[], .func (.func 52) #[] #[], .func (.func 53) #[] #[], .func (.func 55) #[] #[]].toArray 53))
        have BL := hide (heap_alloc_new vS (.cells [Value.int .i64 9223372036854775807, .func (.func 51) #[] #[], .func (.func 52) #[] #[], .func (.func 53) #[] #[], .func (.func 55) #[] #[]].toArray 53))
        go_wp2_with fail
        generalize vS.alloc (.cells #[.int .i64 9223372036854775807, .func (.func 51) #[] #[], .func (.func 52) #[] #[], .func (.func 53) #[] #[], .func (.func 55) #[] #[]] 53) = vL at *
        generalize vS.heap.size = XL at *
        refine (qL vL).mono ?_
        clear qL
        rintro e wx ⟨rfl, hw⟩
        obtain rfl := hw.symm
        clear hw
        cases bL with
        | false =>
          clear c0 c1 c2 c3 c4 d0 d1 d2 d3 d4
          go_wp2_with fail
          rw [rounds_succ]
          go_wp2_with fail
          have ho := out_parts q false false false HE.out.1 HE.out.2.1 HE.out.2.2
          have PZ := TL.out.wra
          have hZ : ([] : List Int) ++ [q.k] ++ leB q.t 4 = q.out := by rw [← ho]; simp [ifB]
          rw [hZ] at PZ
          have qo := out_any G q.out vL PZ (by rw [out_length]; have := sz_le q.k; omega)
          rw [out_length] at qo
          clear PZ ho hZ
          refine qo.mono ?_
          clear qo
          rintro e wz ⟨rfl, hr, hg⟩
          have HZ := hide (And.intro hr (grown_trans TL.out.gr hg))
          have HL := hide TL.out.gr.size
          clear hr hg
          go_wp2
          go_ret2
          exact ⟨_, rfl, Or.inl ⟨HM.out.1, _, rfl, HL.out, HZ.out.1⟩, HZ.out.2⟩
        | true =>
          go_wp2_with fail
          refine (wL.out G _ vL TL.out.wra (by simp [leB_length])).mono ?_
          rintro e wLz ⟨rfl, hW, hg⟩
          have SL := hide (TL.out.next hW hg)
          clear hW hg TL BL c0 c1 c2 c3 c4 d0 d1 d2 d3 d4
          go_wp2_with fail
          rw [rounds_succ]
          go_wp2_with fail
          have ho := out_parts q false false true HE.out.1 HE.out.2.1 HE.out.2.2
          have PZ := SL.out.wra
          have hZ : ([] : List Int) ++ [q.k] ++ leB q.t 4 ++ leB q.u 8 = q.out := by rw [← ho]; simp [ifB]
          rw [hZ] at PZ
          have qo := out_any G q.out wLz PZ (by rw [out_length]; have := sz_le q.k; omega)
          rw [out_length] at qo
          clear PZ ho hZ
          refine qo.mono ?_
          clear qo
          rintro e wz ⟨rfl, hr, hg⟩
          have HZ := hide (And.intro hr (grown_trans SL.out.gr hg))
          have HL := hide SL.out.gr.size
          clear hr hg
          go_wp2
          go_ret2
          exact ⟨_, rfl, Or.inl ⟨HM.out.1, _, rfl, HL.out, HZ.out.1⟩, HZ.out.2⟩
      | true =>
        go_wp2_with fail
        refine (wS.out G _ vS TS.out.wra (by simp [leB_length])).mono ?_
        rintro e wSz ⟨rfl, hW, hg⟩
        have SS := hide (TS.out.next hW hg)
        clear hW hg TS BS c0 c1 c2 c3 c4 d0 d1 d2 d3 d4
        go_wp2_with fail
        rw [rounds_succ]
        have TL := hide (SS.out.new (World.grownBy_alloc wSz (.cells #[.int .i64 9223372036854775807, .func (.func 51) #[] #[], .func (.func 52) #[] #[], .func (.func 53) #[] #[], .func (.func 55) #[] #[]] 53) none))
        obtain ⟨c0, c1, c2, c3, c4⟩ := box5 TL.out.box
        obtain ⟨d0, d1, d2, d3, d4⟩ := box5 (heap_alloc_new wSz (.cells [Value.int .i64 9223372036854775807, .func (.func 51) #[] #[], .func (.func 52) #[] #[], .func (.func 53) #[] #[], .func (.func 55) #[] #[]].toArray 53))
        have BL := hide (heap_alloc_new wSz (.cells [Value.int .i64 9223372036854775807, .func (.func 51) #[] #[], .func (.func 52) #[] #[], .func (.func 53) #[] #[], .func (.func 55) #[] #[]].toArray 53))
        go_wp2_with fail
        generalize wSz.alloc (.cells #[.int .i64 9223372036854775807, .func (.func 51) #[] #[], .func (.func 52) #[] #[], .func (.func 53) #[] #[], .func (.func 55) #[] #[]] 53) = vL at *
        generalize wSz.heap.size = XL at *
        refine (qL vL).mono ?_
        clear qL
        rintro e wx ⟨rfl, hw⟩
        obtain rfl := hw.symm
        clear hw
        cases bL with
        | false =>
          clear c0 c1 c2 c3 c4 d0 d1 d2 d3 d4
          go_wp2_with fail
          rw [rounds_succ]
          go_wp2_with fail
          have ho := out_parts q false true false HE.out.1 HE.out.2.1 HE.out.2.2
          have PZ := TL.out.wra
          have hZ : ([] : List Int) ++ [q.k] ++ leB q.t 4 ++ leB q.s 2 = q.out := by rw [← ho]; simp [ifB]
          rw [hZ] at PZ
          have qo := out_any G q.out vL PZ (by rw [out_length]; have := sz_le q.k; omega)
          rw [out_length] at qo
          clear PZ ho hZ
          refine qo.mono ?_
          clear qo
          rintro e wz ⟨rfl, hr, hg⟩
          have HZ := hide (And.intro hr (grown_trans TL.out.gr hg))
          have HL := hide TL.out.gr.size
          clear hr hg
          go_wp2
          go_ret2
          exact ⟨_, rfl, Or.inl ⟨HM.out.1, _, rfl, HL.out, HZ.out.1⟩, HZ.out.2⟩
        | true =>
          go_wp2_with fail
          refine (wL.out G _ vL TL.out.wra (by simp [leB_length])).mono ?_
          rintro e wLz ⟨rfl, hW, hg⟩
          have SL := hide (TL.out.next hW hg)
          clear hW hg TL BL c0 c1 c2 c3 c4 d0 d1 d2 d3 d4
          go_wp2_with fail
          rw [rounds_succ]
          go_wp2_with fail
          have ho := out_parts q false true true HE.out.1 HE.out.2.1 HE.out.2.2
          have PZ := SL.out.wra
          have hZ : ([] : List Int) ++ [q.k] ++ leB q.t 4 ++ leB q.s 2 ++ leB q.u 8 = q.out := by rw [← ho]; simp [ifB]
          rw [hZ] at PZ
          have qo := out_any G q.out wLz PZ (by rw [out_length]; have := sz_le q.k; omega)
          rw [out_length] at qo
          clear PZ ho hZ
          refine qo.mono ?_
          clear qo
          rintro e wz ⟨rfl, hr, hg⟩
          have HZ := hide (And.intro hr (grown_trans SL.out.gr hg))
          have HL := hide SL.out.gr.size
          clear hr hg
          go_wp2
          go_ret2
          exact ⟨_, rfl, Or.inl ⟨HM.out.1, _, rfl, HL.out, HZ.out.1⟩, HZ.out.2⟩
    | true =>
      go_wp2_with fail
      refine (wI.out G _ vI TI.out.wra (by simp [leB_length])).mono ?_
      rintro e wIz ⟨rfl, hW, hg⟩
      have SI := hide (TI.out.next hW hg)
      clear hW hg TI BI c0 c1 c2 c3 c4 d0 d1 d2 d3 d4
      go_wp2_with fail
      rw [rounds_succ]
      have TS := hide (SI.out.new (World.grownBy_alloc wIz (.cells #[.int .i64 65535, .func (.func 45) #[] #[], .func (.func 46) #[] #[], .func (.func 47) #[] #[], .func (.func 49) #[] #[]] 53) none))
      obtain ⟨c0, c1, c2, c3, c4⟩ := box5 TS.out.box
      obtain ⟨d0, d1, d2, d3, d4⟩ := box5 (heap_alloc_new wIz (.cells [Value.int .i64 65535, .func (.func 45) #[] #[], .func (.func 46) #[] #[], .func (.func 47) #[] #[], .func (.func 49) #[] #[]].toArray 53))
      have BS := hide (heap_alloc_new wIz (.cells [Value.int .i64 65535, .func (.func 45) #[] #[], .func (.func 46) #[] #[], .func (.func 47) #[] #[], .func (.func 49) #[] #[]].toArray 53))
      go_wp2_with fail
      generalize wIz.alloc (.cells #[.int .i64 65535, .func (.func 45) #[] #[], .func (.func 46) #[] #[], .func (.func 47) #[] #[], .func (.func 49) #[] #[]] 53) = vS at *
      generalize wIz.heap.size = XS at *
      refine (qS vS).mono ?_
      clear qS
      rintro e wx ⟨rfl, hw⟩
      obtain rfl := hw.symm
      clear hw
      cases bS with
      | false =>
        clear c0 c1 c2 c3 c4 d0 d1 d2 d3 d4
        go_wp2_with fail
        rw [rounds_succ]
        have TL := hide (TS.out.new (World.grownBy_alloc vS (.cells #[.int .i64 9223372036854775807, .func (.func 51) #[] #[], .func (.func 52) #[] #[], .func (.func 53) #[] #[], .func (.func 55) #[] #[]] 53) none))
        obtain ⟨c0, c1, c2, c3, c4⟩ := box5 TL.out.box
        obtain ⟨d0, d1, d2, d3, d4⟩ := box5 (heap_alloc_new vS (.cells [Value.int .i64 9223372036854775807, .func (.func 51) #[] #[], .func (.func 52) #[] #[], .func (.func 53) #[] #[], .func (.func 55) #[] #[]].toArray 53))
        have BL := hide (heap_alloc_new vS (.cells [Value.int .i64 9223372036854775807, .func (.func 51) #[] #[], .func (.func 52) #[] #[], .func (.func 53) #[] #[], .func (.func 55) #[] #[]].toArray 53))
        go_wp2_with fail
        generalize vS.alloc (.cells #[.int .i64 9223372036854775807, .func (.func 51) #[] #[], .func (.func 52) #[] #[], .func (.func 53) #[] #[], .func (.func 55) #[] #[]] 53) = vL at *
        generalize vS.heap.size = XL at *
        refine (qL vL).mono ?_
        clear qL
        rintro e wx ⟨rfl, hw⟩
        obtain rfl := hw.symm
        clear hw
        cases bL with
        | false =>
          clear c0 c1 c2 c3 c4 d0 d1 d2 d3 d4
          go_wp2_with fail
          rw [rounds_succ]
          go_wp2_with fail
          have ho := out_parts q true false false HE.out.1 HE.out.2.1 HE.out.2.2
          have PZ := TL.out.wra
          have hZ : ([] : List Int) ++ [q.k] ++ leB q.t 4 ++ leB q.i 4 = q.out := by rw [← ho]; simp [ifB]
          rw [hZ] at PZ
          have qo := out_any G q.out vL PZ (by rw [out_length]; have := sz_le q.k; omega)
          rw [out_length] at qo
          clear PZ ho hZ
          refine qo.mono ?_
          clear qo
          rintro e wz ⟨rfl, hr, hg⟩
          have HZ := hide (And.intro hr (grown_trans TL.out.gr hg))
          have HL := hide TL.out.gr.size
          clear hr hg
          go_wp2
          go_ret2
          exact ⟨_, rfl, Or.inl ⟨HM.out.1, _, rfl, HL.out, HZ.out.1⟩, HZ.out.2⟩
        | true =>
          go_wp2_with fail
          refine (wL.out G _ vL TL.out.wra (by simp [leB_length])).mono ?_
          rintro e wLz ⟨rfl, hW, hg⟩
          have SL := hide (TL.out.next hW hg)
          clear hW hg TL BL c0 c1 c2 c3 c4 d0 d1 d2 d3 d4
          go_wp2_with fail
          rw [rounds_succ]
          go_wp2_with fail
          have ho := out_parts q true false true HE.out.1 HE.out.2.1 HE.out.2.2
          have PZ := SL.out.wra
          have hZ : ([] : List Int) ++ [q.k] ++ leB q.t 4 ++ leB q.i 4 ++ leB q.u 8 = q.out := by rw [← ho]; simp [ifB]
          rw [hZ] at PZ
          have qo := out_any G q.out wLz PZ (by rw [out_length]; have := sz_le q.k; omega)
          rw [out_length] at qo
          clear PZ ho hZ
          refine qo.mono ?_
          clear qo
          rintro e wz ⟨rfl, hr, hg⟩
          have HZ := hide (And.intro hr (grown_trans SL.out.gr hg))
          have HL := hide SL.out.gr.size
          clear hr hg
          go_wp2
          go_ret2
          exact ⟨_, rfl, Or.inl ⟨HM.out.1, _, rfl, HL.out, HZ.out.1⟩, HZ.out.2⟩
      | true =>
        go_wp2_with fail
        refine (wS.out G _ vS TS.out.wra (by simp [leB_length])).mono ?_
        rintro e wSz ⟨rfl, hW, hg⟩
        have SS := hide (TS.out.next hW hg)
        clear hW hg TS BS c0 c1 c2 c3 c4 d0 d1 d2 d3 d4
        go_wp2_with fail
        rw [rounds_succ]
        have TL := hide (SS.out.new (World.grownBy_alloc wSz (.cells #[.int .i64 9223372036854775807, .func (.func 51) #[] #[], .func (.func 52) #[] #[], .func (.func 53) #[] #[], .func (.func 55) #[] #[]] 53) none))
        obtain ⟨c0, c1, c2, c3, c4⟩ := box5 TL.out.box
        obtain ⟨d0, d1, d2, d3, d4⟩ := box5 (heap_alloc_new wSz (.cells [Value.int .i64 9223372036854775807, .func (.func 51) #[] #[], .func (.func 52) #[] #[], .func (.func 53) #[] #[], .func (.func 55) #[] #[]].toArray 53))
        have BL := hide (heap_alloc_new wSz (.cells [Value.int .i64 9223372036854775807, .func (.func 51) #[] #[], .func (.func 52) #[] #[], .func (.func 53) #[] #[], .func (.func 55) #[] #[]].toArray 53))
        go_wp2_with fail
        generalize wSz.alloc (.cells #[.int .i64 9223372036854775807, .func (.func 51) #[] #[], .func (.func 52) #[] #[], .func (.func 53) #[] #[], .func (.func 55) #[] #[]] 53) = vL at *
        generalize wSz.heap.size = XL at *
        refine (qL vL).mono ?_
        clear qL
        rintro e wx ⟨rfl, hw⟩
        obtain rfl := hw.symm
        clear hw
        cases bL with
        | false =>
          clear c0 c1 c2 c3 c4 d0 d1 d2 d3 d4
          go_wp2_with fail
          rw [rounds_succ]
          go_wp2_with fail
          have ho := out_parts q true true false HE.out.1 HE.out.2.1 HE.out.2.2
          have PZ := TL.out.wra
          have hZ : ([] : List Int) ++ [q.k] ++ leB q.t 4 ++ leB q.i 4 ++ leB q.s 2 = q.out := by rw [← ho]; simp [ifB]
          rw [hZ] at PZ
          have qo := out_any G q.out vL PZ (by rw [out_length]; have := sz_le q.k; omega)
          rw [out_length] at qo
          clear PZ ho hZ
          refine qo.mono ?_
          clear qo
          rintro e wz ⟨rfl, hr, hg⟩
          have HZ := hide (And.intro hr (grown_trans TL.out.gr hg))
          have HL := hide TL.out.gr.size
          clear hr hg
          go_wp2
          go_ret2
          exact ⟨_, rfl, Or.inl ⟨HM.out.1, _, rfl, HL.out, HZ.out.1⟩, HZ.out.2⟩
        | true =>
          go_wp2_with fail
          refine (wL.out G _ vL TL.out.wra (by simp [leB_length])).mono ?_
          rintro e wLz ⟨rfl, hW, hg⟩
          have SL := hide (TL.out.next hW hg)
          clear hW hg TL BL c0 c1 c2 c3 c4 d0 d1 d2 d3 d4
          go_wp2_with fail
          rw [rounds_succ]
          go_wp2_with fail
          have ho := out_parts q true true true HE.out.1 HE.out.2.1 HE.out.2.2
          have PZ := SL.out.wra
          have hZ : ([] : List Int) ++ [q.k] ++ leB q.t 4 ++ leB q.i 4 ++ leB q.s 2 ++ leB q.u 8 = q.out := by rw [← ho]; simp [ifB]
          rw [hZ] at PZ
          have qo := out_any G q.out wLz PZ (by rw [out_length]; have := sz_le q.k; omega)
          rw [out_length] at qo
          clear PZ ho hZ
          refine qo.mono ?_
          clear qo
          rintro e wz ⟨rfl, hr, hg⟩
          have HZ := hide (And.intro hr (grown_trans SL.out.gr hg))
          have HL := hide SL.out.gr.size
          clear hr hg
          go_wp2
          go_ret2
          exact ⟨_, rfl, Or.inl ⟨HM.out.1, _, rfl, HL.out, HZ.out.1⟩, HZ.out.2⟩
  · rw [show chk q = 200 from if_neg hm] at qc ⊢
    unfold rqV at qc ⊢
    have HM := hide hm
    clear hm ho
    go_enter Try.func9, Try.ntmps9
    go_wp2_with fail
    generalize w.alloc (.cells #[.int .i64 q.k, .int .u32 q.t, .int .u32 q.i, .int .i64 q.s, .int .i64 q.u] 25) = w1 at *
    refine qc.mono ?_
    clear qc
    rintro e w2 ⟨rfl, hg⟩
    have S1 := hide (S0.out.then hg)
    clear hg S0 c0 c1 c2 c3 c4
    go_wp2
    go_ret2
    exact ⟨_, rfl, Or.inr ⟨HM.out, rfl⟩, S1.out.gr⟩
end Go.Proofs.Ytkocmlfklokngaa
