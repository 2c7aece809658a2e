/- The document's requests: Put. -/
import Derived.Test.YtkocmlfklokngaaQm
namespace Go.Proofs.Ytkocmlfklokngaa
open Go.RowKit
attribute [local go_sem ↓] Go.wp_at_zero Go.wp_at_succ
/-- Inside the document's Put: the request's box, the bytes so far. -/
structure RpS (w wr : World) (q : Rq) (v : Value) (bs : List Int) : Prop where
  box : wr.heap[w.heap.size]? = some (.cells [Value.int .i64 q.k, .int .u32 q.t, .int .u32 q.i, .int .i64 q.s, .int .i64 q.u].toArray 25 (0, 0))
  own : wr.ownsRow (w.heap.size + 1) 5 1 v bs.length (bs.map (Value.int .u8))
  gr : w.grownBy wr none
theorem RpS.new {w wr wr' : World} {q : Rq} {v : Value} {bs : List Int} (h : RpS w wr q v bs) (hg : wr.grownBy wr' none) : RpS w wr' q v bs := ⟨(hg.block _ (row_lt h.box) (by simp)).trans h.box, h.own.kept hg (by cases hv : v.ownBlock with | none => exact Or.inl rfl | some k => exact Or.inr (by simp)), grown_trans h.gr hg⟩
theorem RpS.app {w wr wr' : World} {q : Rq} {v v' : Value} {bs ys : List Int} {m : Nat} (h : RpS w wr q v bs) (hm : ys.length = m) (ho : wr'.ownsRow (w.heap.size + 1) 5 1 v' (bs.length + m) (bs.map (Value.int .u8) ++ ys.map (Value.int .u8))) (hg : wr.grownBy wr' v.ownBlock) : RpS w wr' q v' (bs ++ ys) := by
  refine ⟨(hg.block _ (row_lt h.box) (fun e => ?_)).trans h.box, ?_, grown_then h.gr hg (fun k e => Or.inl (by have := (h.own.lt k e).1; omega))⟩
  · have := (h.own.lt _ e.symm).1; omega
  · rw [List.length_append, hm, List.map_append]; exact ho
theorem own_one' (w : World) (b : Nat) (hb : b ≤ w.heap.size) (x : Int) : (w.alloc (.cells #[.int .u8 x] 5)).ownsRow b 5 1 (.slice (some ⟨w.heap.size, 0, none⟩) 1 1) 1 ([x].map (Value.int .u8)) :=
  ⟨rfl, .inr ⟨w.heap.size, 1, #[.int .u8 x], rfl, hb, heap_alloc_new w _, Nat.le_refl _, by unfold maxLen; omega, rfl, rfl⟩⟩
theorem own_lower {w : World} {b b' n : Nat} {v : Value} {xs : List Value} (h : w.ownsRow b 5 1 v n xs) (hb : b' ≤ b) : w.ownsRow b' 5 1 v n xs := ⟨h.1, h.2.elim Or.inl (fun ⟨g, cap, cur, a, b0, c⟩ => Or.inr ⟨g, cap, cur, a, Nat.le_trans hb b0, c⟩)⟩
/-- What the document's Put answers. -/
def RPutP (q : Rq) (w w' : World) (v : Value) : Prop := (q.May ∧ w'.ownsRow w.heap.size 5 1 v (sz q.k) (q.out.map (Value.int .u8))) ∨ (¬ q.May ∧ v = .slice none 0 0)
set_option maxRecDepth 20000 in
set_option maxHeartbeats 16000000 in
theorem rput_req (q : Rq) (ho : q.Ok) (w : World) : Calls Try.prog 10 #[rqV q] w fun e w' => ∃ v, e = .returned (.tuple #[v, .int .i64 (chk q)]) ∧ RPutP q w w' v ∧ w.grownBy w' none := by
  have S0 := hide (CkS.begin w q)
  have qc := rcheck_any q ho (w.alloc (.cells #[.int .i64 q.k, .int .u32 q.t, .int .u32 q.i, .int .i64 q.s, .int .i64 q.u] 25))
  obtain ⟨c0, c1, c2, c3, c4⟩ := box5 S0.out.box
  by_cases hm : q.May
  · rw [show chk q = 0 from if_pos hm] at qc ⊢
    unfold rqV at qc ⊢
    have hN := may_nums hm
    have HM := hide (And.intro hm (And.intro ho hN))
    have W0 : IntKind.u8.wrap q.k = q.k := by rw [IntKind.wrap_u8]; omega
    have W1 : IntKind.u64.wrap q.t = q.t := by rw [IntKind.wrap_u64]; have := ho.t0; have := ho.t1; omega
    have W2 : IntKind.u64.wrap q.i = q.i := by rw [IntKind.wrap_u64]; omega
    have W3 : IntKind.u64.wrap q.s = q.s := by rw [IntKind.wrap_u64]; omega
    have W4 : IntKind.u64.wrap q.u = q.u := by rw [IntKind.wrap_u64]; omega
    clear hm ho hN
    have qh := rhas_any q.k
    obtain ⟨bI, eI⟩ : ∃ b, hI q.k = b := ⟨_, rfl⟩
    obtain ⟨bS, eS⟩ : ∃ b, hS q.k = b := ⟨_, rfl⟩
    obtain ⟨bL, eL⟩ : ∃ b, hL q.k = b := ⟨_, rfl⟩
    rw [eI, eS, eL] at qh
    have HE := hide (And.intro eI (And.intro eS eL))
    clear eI eS eL
    go_enter Try.func10, Try.ntmps10
    go_wp2_with fail
    generalize w.alloc (.cells #[.int .i64 q.k, .int .u32 q.t, .int .u32 q.i, .int .i64 q.s, .int .i64 q.u] 25) = w1 at *
    refine qc.mono ?_
    clear qc
    rintro e w2 ⟨rfl, hg⟩
    have S1 := hide (S0.out.then hg)
    clear hg S0 c0 c1 c2 c3 c4
    obtain ⟨c0, c1, c2, c3, c4⟩ := box5 S1.out.box
    go_wp2_with fail
    refine (qh w2).mono ?_
    clear qh
    rintro e wx ⟨rfl, hw⟩
    obtain rfl := hw.symm
    clear hw
    have g3 := World.grownBy_alloc w2 (.cells #[.int .u8 q.k] 5) none
    have P0 : Hid (RpS w (w2.alloc (.cells #[.int .u8 q.k] 5)) q (.slice (some ⟨w2.heap.size, 0, none⟩) 1 1) [q.k]) := ⟨(g3.block _ (row_lt S1.out.box) (by simp)).trans S1.out.box, own_one' w2 _ (row_lt S1.out.box) q.k, grown_trans S1.out.gr g3⟩
    clear g3 S1
    obtain ⟨d0, d1, d2, d3, d4⟩ := box5 P0.out.box
    have qn := refnum_any q.t 4 4 (w2.alloc (.cells #[.int .u8 q.k] 5)) rfl (by omega) HM.out.2.1.t0 (by have := HM.out.2.1.t1; omega)
    go_wp2_with fail
    generalize w2.alloc (.cells #[.int .u8 q.k] 5) = w3 at *
    generalize Value.slice (some ⟨w2.heap.size, 0, none⟩) 1 1 = vb at *
    refine qn.mono ?_
    clear qn c0 c1 c2 c3 c4 d0 d1 d2 d3 d4
    rintro e w4 ⟨v4, rfl, hown, hg⟩
    have P1 := hide (P0.out.new hg)
    obtain ⟨ao4, cap4, rfl, hl4, hc4, hm4, hat4, hn4, _⟩ := own_at hown
    have HA := hide (And.intro hl4 (And.intro hat4 hn4))
    have HS : Hid (w.heap.size + 1 ≤ w4.heap.size) := row_lt P1.out.box
    clear hown hl4 hc4 hm4 hat4 hn4 hg P0
    go_wp2_with (at_builtin; refine wpList_append_at rfl (.tmp 25) (.tmp 29) rfl (w.heap.size + 1) vb 1 ([q.k].map (Value.int .u8)) rfl P1.out.own ao4 4 cap4 (leB q.t 4) rfl HA.out.1 HA.out.2.1 HA.out.2.2 (by omega) HS.out ?_)
    intro v5 w5 hown hg
    have PX := hide (P1.out.app HA.out.1 hown hg)
    clear hown hg P1 HA HS
    cases bI with
    | false =>
      cases bS with
      | false =>
        cases bL with
        | false =>
          go_wp2
          go_ret2
          have ho := out_parts q false false false HE.out.1 HE.out.2.1 HE.out.2.2
          have hZ : ([q.k] ++ leB q.t 4) = q.out := by rw [← ho]; simp [ifB]
          have PZ := PX.out.own
          rw [hZ, out_length] at PZ
          exact ⟨_, rfl, Or.inl ⟨HM.out.1, own_lower PZ (by omega)⟩, PX.out.gr⟩
        | true =>
          obtain ⟨d0, d1, d2, d3, d4⟩ := box5 PX.out.box
          have qn := refnum_any q.u 8 8 w5 rfl (by omega) HM.out.2.2.2.2.2.1 (by have := HM.out.2.2.2.2.2.2.1; omega)
          go_wp2_with fail
          refine qn.mono ?_
          clear qn d0 d1 d2 d3 d4
          rintro e wL ⟨vLa, rfl, hown, hg⟩
          have PL := hide (PX.out.new hg)
          obtain ⟨aoL, capL, rfl, hl4, hc4, hm4, hat4, hn4, _⟩ := own_at hown
          have HA := hide (And.intro hl4 (And.intro hat4 hn4))
          have HS : Hid (w.heap.size + 1 ≤ wL.heap.size) := row_lt PL.out.box
          clear hown hl4 hc4 hm4 hat4 hn4 hg
          go_wp2_with (at_builtin; refine wpList_append_at rfl (.tmp 46) (.tmp 50) rfl (w.heap.size + 1) v5 _ (([q.k] ++ leB q.t 4).map (Value.int .u8)) rfl PL.out.own aoL 8 capL (leB q.u 8) rfl HA.out.1 HA.out.2.1 HA.out.2.2 (by simp [leB_length]) HS.out ?_)
          intro vLz wLz hown hg
          have SL := hide (PL.out.app HA.out.1 hown hg)
          clear hown hg PL HA HS
          go_wp2
          go_ret2
          have ho := out_parts q false false true HE.out.1 HE.out.2.1 HE.out.2.2
          have hZ : ([q.k] ++ leB q.t 4 ++ leB q.u 8) = q.out := by rw [← ho]; simp [ifB]
          have PZ := SL.out.own
          rw [hZ, out_length] at PZ
          exact ⟨_, rfl, Or.inl ⟨HM.out.1, own_lower PZ (by omega)⟩, SL.out.gr⟩
      | true =>
        obtain ⟨d0, d1, d2, d3, d4⟩ := box5 PX.out.box
        have qn := refnum_any q.s 2 2 w5 rfl (by omega) HM.out.2.2.2.2.1.1 (by have := HM.out.2.2.2.2.1.2.1; omega)
        go_wp2_with fail
        refine qn.mono ?_
        clear qn d0 d1 d2 d3 d4
        rintro e wS ⟨vSa, rfl, hown, hg⟩
        have PS := hide (PX.out.new hg)
        obtain ⟨aoS, capS, rfl, hl4, hc4, hm4, hat4, hn4, _⟩ := own_at hown
        have HA := hide (And.intro hl4 (And.intro hat4 hn4))
        have HS : Hid (w.heap.size + 1 ≤ wS.heap.size) := row_lt PS.out.box
        clear hown hl4 hc4 hm4 hat4 hn4 hg
        go_wp2_with (at_builtin; refine wpList_append_at rfl (.tmp 39) (.tmp 43) rfl (w.heap.size + 1) v5 _ (([q.k] ++ leB q.t 4).map (Value.int .u8)) rfl PS.out.own aoS 2 capS (leB q.s 2) rfl HA.out.1 HA.out.2.1 HA.out.2.2 (by simp [leB_length]) HS.out ?_)
        intro vSz wSz hown hg
        have SS := hide (PS.out.app HA.out.1 hown hg)
        clear hown hg PS HA HS
        cases bL with
        | false =>
          go_wp2
          go_ret2
          have ho := out_parts q false true false HE.out.1 HE.out.2.1 HE.out.2.2
          have hZ : ([q.k] ++ leB q.t 4 ++ leB q.s 2) = q.out := by rw [← ho]; simp [ifB]
          have PZ := SS.out.own
          rw [hZ, out_length] at PZ
          exact ⟨_, rfl, Or.inl ⟨HM.out.1, own_lower PZ (by omega)⟩, SS.out.gr⟩
        | true =>
          obtain ⟨d0, d1, d2, d3, d4⟩ := box5 SS.out.box
          have qn := refnum_any q.u 8 8 wSz rfl (by omega) HM.out.2.2.2.2.2.1 (by have := HM.out.2.2.2.2.2.2.1; omega)
          go_wp2_with fail
          refine qn.mono ?_
          clear qn d0 d1 d2 d3 d4
          rintro e wL ⟨vLa, rfl, hown, hg⟩
          have PL := hide (SS.out.new hg)
          obtain ⟨aoL, capL, rfl, hl4, hc4, hm4, hat4, hn4, _⟩ := own_at hown
          have HA := hide (And.intro hl4 (And.intro hat4 hn4))
          have HS : Hid (w.heap.size + 1 ≤ wL.heap.size) := row_lt PL.out.box
          clear hown hl4 hc4 hm4 hat4 hn4 hg
          go_wp2_with (at_builtin; refine wpList_append_at rfl (.tmp 46) (.tmp 50) rfl (w.heap.size + 1) vSz _ (([q.k] ++ leB q.t 4 ++ leB q.s 2).map (Value.int .u8)) rfl PL.out.own aoL 8 capL (leB q.u 8) rfl HA.out.1 HA.out.2.1 HA.out.2.2 (by simp [leB_length]) HS.out ?_)
          intro vLz wLz hown hg
          have SL := hide (PL.out.app HA.out.1 hown hg)
          clear hown hg PL HA HS
          go_wp2
          go_ret2
          have ho := out_parts q false true true HE.out.1 HE.out.2.1 HE.out.2.2
          have hZ : ([q.k] ++ leB q.t 4 ++ leB q.s 2 ++ leB q.u 8) = q.out := by rw [← ho]; simp [ifB]
          have PZ := SL.out.own
          rw [hZ, out_length] at PZ
          exact ⟨_, rfl, Or.inl ⟨HM.out.1, own_lower PZ (by omega)⟩, SL.out.gr⟩
    | true =>
      obtain ⟨d0, d1, d2, d3, d4⟩ := box5 PX.out.box
      have qn := refnum_any q.i 4 4 w5 rfl (by omega) HM.out.2.2.2.1.1 (by have := HM.out.2.2.2.1.2.1; omega)
      go_wp2_with fail
      refine qn.mono ?_
      clear qn d0 d1 d2 d3 d4
      rintro e wI ⟨vIa, rfl, hown, hg⟩
      have PI := hide (PX.out.new hg)
      obtain ⟨aoI, capI, rfl, hl4, hc4, hm4, hat4, hn4, _⟩ := own_at hown
      have HA := hide (And.intro hl4 (And.intro hat4 hn4))
      have HS : Hid (w.heap.size + 1 ≤ wI.heap.size) := row_lt PI.out.box
      clear hown hl4 hc4 hm4 hat4 hn4 hg
      go_wp2_with (at_builtin; refine wpList_append_at rfl (.tmp 32) (.tmp 36) rfl (w.heap.size + 1) v5 _ (([q.k] ++ leB q.t 4).map (Value.int .u8)) rfl PI.out.own aoI 4 capI (leB q.i 4) rfl HA.out.1 HA.out.2.1 HA.out.2.2 (by simp [leB_length]) HS.out ?_)
      intro vIz wIz hown hg
      have SI := hide (PI.out.app HA.out.1 hown hg)
      clear hown hg PI HA HS
      cases bS with
      | false =>
        cases bL with
        | false =>
          go_wp2
          go_ret2
          have ho := out_parts q true false false HE.out.1 HE.out.2.1 HE.out.2.2
          have hZ : ([q.k] ++ leB q.t 4 ++ leB q.i 4) = q.out := by rw [← ho]; simp [ifB]
          have PZ := SI.out.own
          rw [hZ, out_length] at PZ
          exact ⟨_, rfl, Or.inl ⟨HM.out.1, own_lower PZ (by omega)⟩, SI.out.gr⟩
        | true =>
          obtain ⟨d0, d1, d2, d3, d4⟩ := box5 SI.out.box
          have qn := refnum_any q.u 8 8 wIz rfl (by omega) HM.out.2.2.2.2.2.1 (by have := HM.out.2.2.2.2.2.2.1; omega)
          go_wp2_with fail
          refine qn.mono ?_
          clear qn d0 d1 d2 d3 d4
          rintro e wL ⟨vLa, rfl, hown, hg⟩
          have PL := hide (SI.out.new hg)
          obtain ⟨aoL, capL, rfl, hl4, hc4, hm4, hat4, hn4, _⟩ := own_at hown
          have HA := hide (And.intro hl4 (And.intro hat4 hn4))
          have HS : Hid (w.heap.size + 1 ≤ wL.heap.size) := row_lt PL.out.box
          clear hown hl4 hc4 hm4 hat4 hn4 hg
          go_wp2_with (at_builtin; refine wpList_append_at rfl (.tmp 46) (.tmp 50) rfl (w.heap.size + 1) vIz _ (([q.k] ++ leB q.t 4 ++ leB q.i 4).map (Value.int .u8)) rfl PL.out.own aoL 8 capL (leB q.u 8) rfl HA.out.1 HA.out.2.1 HA.out.2.2 (by simp [leB_length]) HS.out ?_)
          intro vLz wLz hown hg
          have SL := hide (PL.out.app HA.out.1 hown hg)
          clear hown hg PL HA HS
          go_wp2
          go_ret2
          have ho := out_parts q true false true HE.out.1 HE.out.2.1 HE.out.2.2
          have hZ : ([q.k] ++ leB q.t 4 ++ leB q.i 4 ++ leB q.u 8) = q.out := by rw [← ho]; simp [ifB]
          have PZ := SL.out.own
          rw [hZ, out_length] at PZ
          exact ⟨_, rfl, Or.inl ⟨HM.out.1, own_lower PZ (by omega)⟩, SL.out.gr⟩
      | true =>
        obtain ⟨d0, d1, d2, d3, d4⟩ := box5 SI.out.box
        have qn := refnum_any q.s 2 2 wIz rfl (by omega) HM.out.2.2.2.2.1.1 (by have := HM.out.2.2.2.2.1.2.1; omega)
        go_wp2_with fail
        refine qn.mono ?_
        clear qn d0 d1 d2 d3 d4
        rintro e wS ⟨vSa, rfl, hown, hg⟩
        have PS := hide (SI.out.new hg)
        obtain ⟨aoS, capS, rfl, hl4, hc4, hm4, hat4, hn4, _⟩ := own_at hown
        have HA := hide (And.intro hl4 (And.intro hat4 hn4))
        have HS : Hid (w.heap.size + 1 ≤ wS.heap.size) := row_lt PS.out.box
        clear hown hl4 hc4 hm4 hat4 hn4 hg
        go_wp2_with (at_builtin; refine wpList_append_at rfl (.tmp 39) (.tmp 43) rfl (w.heap.size + 1) vIz _ (([q.k] ++ leB q.t 4 ++ leB q.i 4).map (Value.int .u8)) rfl PS.out.own aoS 2 capS (leB q.s 2) rfl HA.out.1 HA.out.2.1 HA.out.2.2 (by simp [leB_length]) HS.out ?_)
        intro vSz wSz hown hg
        have SS := hide (PS.out.app HA.out.1 hown hg)
        clear hown hg PS HA HS
        cases bL with
        | false =>
          go_wp2
          go_ret2
          have ho := out_parts q true true false HE.out.1 HE.out.2.1 HE.out.2.2
          have hZ : ([q.k] ++ leB q.t 4 ++ leB q.i 4 ++ leB q.s 2) = q.out := by rw [← ho]; simp [ifB]
          have PZ := SS.out.own
          rw [hZ, out_length] at PZ
          exact ⟨_, rfl, Or.inl ⟨HM.out.1, own_lower PZ (by omega)⟩, SS.out.gr⟩
        | true =>
          obtain ⟨d0, d1, d2, d3, d4⟩ := box5 SS.out.box
          have qn := refnum_any q.u 8 8 wSz rfl (by omega) HM.out.2.2.2.2.2.1 (by have := HM.out.2.2.2.2.2.2.1; omega)
          go_wp2_with fail
          refine qn.mono ?_
          clear qn d0 d1 d2 d3 d4
          rintro e wL ⟨vLa, rfl, hown, hg⟩
          have PL := hide (SS.out.new hg)
          obtain ⟨aoL, capL, rfl, hl4, hc4, hm4, hat4, hn4, _⟩ := own_at hown
          have HA := hide (And.intro hl4 (And.intro hat4 hn4))
          have HS : Hid (w.heap.size + 1 ≤ wL.heap.size) := row_lt PL.out.box
          clear hown hl4 hc4 hm4 hat4 hn4 hg
          go_wp2_with (at_builtin; refine wpList_append_at rfl (.tmp 46) (.tmp 50) rfl (w.heap.size + 1) vSz _ (([q.k] ++ leB q.t 4 ++ leB q.i 4 ++ leB q.s 2).map (Value.int .u8)) rfl PL.out.own aoL 8 capL (leB q.u 8) rfl HA.out.1 HA.out.2.1 HA.out.2.2 (by simp [leB_length]) HS.out ?_)
          intro vLz wLz hown hg
          have SL := hide (PL.out.app HA.out.1 hown hg)
          clear hown hg PL HA HS
          go_wp2
          go_ret2
          have ho := out_parts q true true true HE.out.1 HE.out.2.1 HE.out.2.2
          have hZ : ([q.k] ++ leB q.t 4 ++ leB q.i 4 ++ leB q.s 2 ++ leB q.u 8) = q.out := by rw [← ho]; simp [ifB]
          have PZ := SL.out.own
          rw [hZ, out_length] at PZ
          exact ⟨_, rfl, Or.inl ⟨HM.out.1, own_lower PZ (by omega)⟩, SL.out.gr⟩
  · rw [show chk q = 200 from if_neg hm] at qc ⊢
    unfold rqV at qc ⊢
    have HM := hide hm
    clear hm ho
    go_enter Try.func10, Try.ntmps10
    go_wp2_with fail
    generalize w.alloc (.cells #[.int .i64 q.k, .int .u32 q.t, .int .u32 q.i, .int .i64 q.s, .int .i64 q.u] 25) = w1 at *
    refine qc.mono ?_
    clear qc
    rintro e w2 ⟨rfl, hg⟩
    have S1 := hide (S0.out.then hg)
    clear hg S0 c0 c1 c2 c3 c4
    go_wp2
    go_ret2
    exact ⟨_, rfl, Or.inr ⟨HM.out, rfl⟩, S1.out.gr⟩
end Go.Proofs.Ytkocmlfklokngaa
