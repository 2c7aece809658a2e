/- The document's records: Bytes, Put. -/
import Derived.Test.YtghojalpdkiooaaDoorRg
import Derived.Test.YtghojalpdkiooaaDoorRefNum
namespace Go.Proofs.YtghojalpdkiooaaDoor
open Go.RowKit
attribute [local go_sem ↓] Go.wp_at_zero Go.wp_at_succ
/-- Inside the document's Bytes: the box, the row so far. -/
structure BhS (w wr : World) (r : Rc) (v : Value) (bs : List Int) : Prop where
  box : wr.heap[w.heap.size]? = some (.cells (rcC r).toArray 25 (0, 0))
  own : wr.ownsRow (w.heap.size + 1) 5 1 v bs.length (bs.map (Value.int .u8))
  gr : w.grownBy wr none
theorem own_from {w : World} {b b' n : Nat} {v : Value} {xs : List Value} (h : w.ownsRow b 5 1 v n xs) (hb : b' ≤ b) : w.ownsRow b' 5 1 v n xs := by
  refine ⟨h.1, ?_⟩
  rcases h.2 with hn | ⟨g, cap, cur, hv, hbg, r⟩
  · exact .inl hn
  · exact .inr ⟨g, cap, cur, hv, by omega, r⟩
theorem own_still {w w' : World} {b n : Nat} {v : Value} {xs : List Value} (h : w.ownsRow b 5 1 v n xs) (hg : w.grownBy w' none) : w'.ownsRow b 5 1 v n xs := by
  refine ⟨h.1, ?_⟩
  rcases h.2 with hn | ⟨g, cap, cur, hv, hbg, hr, r⟩
  · exact .inl hn
  · exact .inr ⟨g, cap, cur, hv, hbg, (hg.block _ (row_lt hr) (by simp)).trans hr, r⟩
theorem BhS.grown {w wr wr' : World} {r : Rc} {v : Value} {bs : List Int} (s : BhS w wr r v bs) (hg : wr.grownBy wr' none) : BhS w wr' r v bs :=
  ⟨(hg.block _ (row_lt s.box) (by simp)).trans s.box, own_still s.own hg, grown_trans s.gr hg⟩
theorem BhS.next {w wr wr' : World} {m : Nat} {r : Rc} {v v' : Value} {bs ys : List Int} (s : BhS w wr r v bs) (hm : ys.length = m) (ho : wr'.ownsRow (w.heap.size + 1) 5 1 v' (bs.length + m) (bs.map (Value.int .u8) ++ ys.map (Value.int .u8))) (hg : wr.grownBy wr' v.ownBlock) : BhS w wr' r v' (bs ++ ys) :=
  ⟨(hg.block _ (row_lt s.box) (fun e => by have := s.own.lt _ e.symm; omega)).trans s.box, by rw [List.length_append, hm, List.map_append]; exact ho,
    grown_then s.gr hg (fun j e => Or.inl (by have := (s.own.lt j e).1; omega))⟩
theorem BhS.begin (w : World) (r : Rc) (k : Int) : BhS w ((w.alloc (.cells (rcC r).toArray 25)).alloc (.cells #[.int .u8 k] 5)) r (.slice (some ⟨w.heap.size + 1, 0, none⟩) 1 1) [k] := by
  obtain ⟨ba, bb, bg⟩ := two_boxes w (rcC r) [Value.int .u8 k] 25 5
  exact ⟨ba, ⟨rfl, .inr ⟨_, _, _, rfl, Nat.le_refl _, bb, Nat.le_refl _, by unfold maxLen; decide, rfl, rfl⟩⟩, bg⟩

set_option maxHeartbeats 4000000 in
theorem bytes_1 (i s u c : Int) (hm : (Rc.mk 1 i s u c).May) (hi : i < 4294967296 ∧ 0 ≤ i) (w : World) : Calls Tryd.prog 28 #[rcV ⟨1, i, s, u, c⟩] w fun e w' => ∃ v, e = .returned v ∧ w'.ownsRow w.heap.size 5 1 v (sz 1) ((Rc.mk 1 i s u c).out.map (Value.int .u8)) ∧ w.grownBy w' none := by
  have hol := out_length hm
  have hx : 0 ≤ i ∧ i < 4294967296 ∧ 0 ≤ s ∧ s < 65536 ∧ 0 ≤ u ∧ u < 18446744073709551616 ∧ 0 ≤ c ∧ c < 18446744073709551616 := by unfold Rc.May mxC at hm; dsimp only at hm; omega
  have H := hide hx
  have W0 : IntKind.u64.wrap i = i := by rw [IntKind.wrap_u64]; omega
  have W1 : IntKind.u64.wrap s = s := by rw [IntKind.wrap_u64]; omega
  have W2 : IntKind.u64.wrap u = u := by rw [IntKind.wrap_u64]; omega
  have W3 : IntKind.u64.wrap c = c := by rw [IntKind.wrap_u64]; omega
  have HM := hide hol
  have P := hide (BhS.begin w ⟨1, i, s, u, c⟩ 1)
  obtain ⟨c0, c1, c2, c3, c4⟩ := box5 (heap_alloc_new w (.cells [Value.int .i64 1, .int .u32 i, .int .i64 s, .int .i64 u, .int .i64 c].toArray 25))
  obtain ⟨d0, d1, d2, d3, d4⟩ := box5 P.out.box
  clear hm hi hx hol
  unfold rcV
  unfold rcC at P d0 d1 d2 d3 d4
  dsimp only at *
  go_enter Tryd.func28, Tryd.ntmps28
  go_wp2_with fail
  clear c0 c1 c2 c3 c4 d0 d1 d2 d3 d4
  generalize (w.alloc (.cells #[.int .i64 1, .int .u32 i, .int .i64 s, .int .i64 u, .int .i64 c] 25)).alloc (.cells #[.int .u8 1] 5) = w0 at *
  refine (refnum_any i 4 4 w0 rfl (by omega) H.out.1 (by have := H.out.2.1; omega)).mono ?_
  rintro e x0 ⟨y0, rfl, hv, hg⟩
  have Q0 := hide (P.out.grown hg)
  obtain ⟨vo, vc, rfl, q1, q2, q3, q4, q5, q6⟩ := own_at hv
  have HV := hide (And.intro q4 q5)
  clear hg P hv q1 q2 q3 q4 q5 q6
  have ow := Q0.out.own
  rw [show ([1] : List Int).length = 1 by simp] at ow
  have OW := hide ow
  clear ow
  go_wp2_with (at_builtin; refine wpList_append_lie rfl (.tmp 17) (.tmp 21) rfl (w.heap.size + 1) (.slice (some ⟨w.heap.size + 1, 0, none⟩) 1 1) 1 _ rfl OW.out vo 4 vc (leB i 4) rfl (leB_length _ _) HV.out.1 (fun e => (by have := (HV.out.2 e).1; exact absurd this (by decide))) (by decide) (row_lt Q0.out.box) ?_)
  intro v1 w1 ho hg _
  have P1 := hide (Q0.out.next (leB_length i 4) (by simpa [leB_length] using ho) hg)
  obtain ⟨bo, bc, rfl, -⟩ := own_at P1.out.own
  clear ho hg HV OW Q0
  rw [show ([1] ++ leB i 4 : List Int).length = 5 by simp [leB_length]]
  obtain ⟨c0, c1, c2, c3, c4⟩ := box5 P1.out.box
  go_wp2_with fail
  refine (refnum_any s 2 2 w1 rfl (by omega) H.out.2.2.1 (by have := H.out.2.2.2.1; omega)).mono ?_
  rintro e x1 ⟨y1, rfl, hv, hg⟩
  have Q1 := hide (P1.out.grown hg)
  obtain ⟨vo, vc, rfl, q1, q2, q3, q4, q5, q6⟩ := own_at hv
  have HV := hide (And.intro q4 q5)
  clear hg P1 hv q1 q2 q3 q4 q5 q6 c0 c1 c2 c3 c4
  have ow := Q1.out.own
  rw [show ([1] ++ leB i 4 : List Int).length = 5 by simp [leB_length]] at ow
  have OW := hide ow
  clear ow
  go_wp2_with (at_builtin; refine wpList_append_lie rfl (.tmp 31) (.tmp 35) rfl (w.heap.size + 1) _ 5 _ rfl OW.out vo 2 vc (leB s 2) rfl (leB_length _ _) HV.out.1 (fun e => (by have := (HV.out.2 e).1; exact absurd this (by decide))) (by decide) (row_lt Q1.out.box) ?_)
  intro v2 w2 ho hg _
  have P2 := hide (Q1.out.next (leB_length s 2) (by simpa [leB_length] using ho) hg)
  obtain ⟨bo, bc, rfl, -⟩ := own_at P2.out.own
  clear ho hg HV OW Q1
  rw [show ([1] ++ leB i 4 ++ leB s 2 : List Int).length = 7 by simp [leB_length]]
  obtain ⟨c0, c1, c2, c3, c4⟩ := box5 P2.out.box
  go_wp2_with fail
  refine (refnum_any u 8 8 w2 rfl (by omega) H.out.2.2.2.2.1 H.out.2.2.2.2.2.1).mono ?_
  rintro e x2 ⟨y2, rfl, hv, hg⟩
  have Q2 := hide (P2.out.grown hg)
  obtain ⟨vo, vc, rfl, q1, q2, q3, q4, q5, q6⟩ := own_at hv
  have HV := hide (And.intro q4 q5)
  clear hg P2 hv q1 q2 q3 q4 q5 q6 c0 c1 c2 c3 c4
  have ow := Q2.out.own
  rw [show ([1] ++ leB i 4 ++ leB s 2 : List Int).length = 7 by simp [leB_length]] at ow
  have OW := hide ow
  clear ow
  go_wp2_with (at_builtin; refine wpList_append_lie rfl (.tmp 40) (.tmp 44) rfl (w.heap.size + 1) _ 7 _ rfl OW.out vo 8 vc (leB u 8) rfl (leB_length _ _) HV.out.1 (fun e => (by have := (HV.out.2 e).1; exact absurd this (by decide))) (by decide) (row_lt Q2.out.box) ?_)
  intro v3 w3 ho hg _
  have P3 := hide (Q2.out.next (leB_length u 8) (by simpa [leB_length] using ho) hg)
  obtain ⟨bo, bc, rfl, -⟩ := own_at P3.out.own
  clear ho hg HV OW Q2
  rw [show ([1] ++ leB i 4 ++ leB s 2 ++ leB u 8 : List Int).length = 15 by simp [leB_length]]
  obtain ⟨c0, c1, c2, c3, c4⟩ := box5 P3.out.box
  have ho : [1] ++ leB i 4 ++ leB s 2 ++ leB u 8 = (Rc.mk 1 i s u c).out := by first | rfl | (rw [out1 rfl]; simp)
  have PZ := P3.out
  rw [ho] at PZ
  have HZ := hide PZ
  clear PZ P3 ho
  go_wp2
  go_ret
  refine ⟨_, rfl, ?_, HZ.out.gr⟩
  have := own_from HZ.out.own (Nat.le_succ w.heap.size)
  rw [HM.out] at this
  exact this
set_option maxHeartbeats 4000000 in
theorem bytes_2 (i s u c : Int) (hm : (Rc.mk 2 i s u c).May) (hi : i < 4294967296 ∧ 0 ≤ i) (w : World) : Calls Tryd.prog 28 #[rcV ⟨2, i, s, u, c⟩] w fun e w' => ∃ v, e = .returned v ∧ w'.ownsRow w.heap.size 5 1 v (sz 2) ((Rc.mk 2 i s u c).out.map (Value.int .u8)) ∧ w.grownBy w' none := by
  have hol := out_length hm
  have hx : 0 ≤ i ∧ i < 4294967296 ∧ 0 ≤ s ∧ s < 65536 ∧ 0 ≤ u ∧ u < 18446744073709551616 ∧ 0 ≤ c ∧ c < 18446744073709551616 := by unfold Rc.May mxC at hm; dsimp only at hm; omega
  have H := hide hx
  have W0 : IntKind.u64.wrap i = i := by rw [IntKind.wrap_u64]; omega
  have W1 : IntKind.u64.wrap s = s := by rw [IntKind.wrap_u64]; omega
  have W2 : IntKind.u64.wrap u = u := by rw [IntKind.wrap_u64]; omega
  have W3 : IntKind.u64.wrap c = c := by rw [IntKind.wrap_u64]; omega
  have HM := hide hol
  have P := hide (BhS.begin w ⟨2, i, s, u, c⟩ 2)
  obtain ⟨c0, c1, c2, c3, c4⟩ := box5 (heap_alloc_new w (.cells [Value.int .i64 2, .int .u32 i, .int .i64 s, .int .i64 u, .int .i64 c].toArray 25))
  obtain ⟨d0, d1, d2, d3, d4⟩ := box5 P.out.box
  clear hm hi hx hol
  unfold rcV
  unfold rcC at P d0 d1 d2 d3 d4
  dsimp only at *
  go_enter Tryd.func28, Tryd.ntmps28
  go_wp2_with fail
  clear c0 c1 c2 c3 c4 d0 d1 d2 d3 d4
  generalize (w.alloc (.cells #[.int .i64 2, .int .u32 i, .int .i64 s, .int .i64 u, .int .i64 c] 25)).alloc (.cells #[.int .u8 2] 5) = w0 at *
  refine (refnum_any i 4 4 w0 rfl (by omega) H.out.1 (by have := H.out.2.1; omega)).mono ?_
  rintro e x0 ⟨y0, rfl, hv, hg⟩
  have Q0 := hide (P.out.grown hg)
  obtain ⟨vo, vc, rfl, q1, q2, q3, q4, q5, q6⟩ := own_at hv
  have HV := hide (And.intro q4 q5)
  clear hg P hv q1 q2 q3 q4 q5 q6
  have ow := Q0.out.own
  rw [show ([2] : List Int).length = 1 by simp] at ow
  have OW := hide ow
  clear ow
  go_wp2_with (at_builtin; refine wpList_append_lie rfl (.tmp 17) (.tmp 21) rfl (w.heap.size + 1) (.slice (some ⟨w.heap.size + 1, 0, none⟩) 1 1) 1 _ rfl OW.out vo 4 vc (leB i 4) rfl (leB_length _ _) HV.out.1 (fun e => (by have := (HV.out.2 e).1; exact absurd this (by decide))) (by decide) (row_lt Q0.out.box) ?_)
  intro v1 w1 ho hg _
  have P1 := hide (Q0.out.next (leB_length i 4) (by simpa [leB_length] using ho) hg)
  obtain ⟨bo, bc, rfl, -⟩ := own_at P1.out.own
  clear ho hg HV OW Q0
  rw [show ([2] ++ leB i 4 : List Int).length = 5 by simp [leB_length]]
  obtain ⟨c0, c1, c2, c3, c4⟩ := box5 P1.out.box
  have ho : [2] ++ leB i 4 = (Rc.mk 2 i s u c).out := by first | rfl | (rw [out2 (Or.inl rfl)]; simp)
  have PZ := P1.out
  rw [ho] at PZ
  have HZ := hide PZ
  clear PZ P1 ho
  go_wp2
  go_ret
  refine ⟨_, rfl, ?_, HZ.out.gr⟩
  have := own_from HZ.out.own (Nat.le_succ w.heap.size)
  rw [HM.out] at this
  exact this
set_option maxHeartbeats 4000000 in
theorem bytes_3 (i s u c : Int) (hm : (Rc.mk 3 i s u c).May) (hi : i < 4294967296 ∧ 0 ≤ i) (w : World) : Calls Tryd.prog 28 #[rcV ⟨3, i, s, u, c⟩] w fun e w' => ∃ v, e = .returned v ∧ w'.ownsRow w.heap.size 5 1 v (sz 3) ((Rc.mk 3 i s u c).out.map (Value.int .u8)) ∧ w.grownBy w' none := by
  have hol := out_length hm
  have hx : 0 ≤ i ∧ i < 4294967296 ∧ 0 ≤ s ∧ s < 65536 ∧ 0 ≤ u ∧ u < 18446744073709551616 ∧ 0 ≤ c ∧ c < 18446744073709551616 := by unfold Rc.May mxC at hm; dsimp only at hm; omega
  have H := hide hx
  have W0 : IntKind.u64.wrap i = i := by rw [IntKind.wrap_u64]; omega
  have W1 : IntKind.u64.wrap s = s := by rw [IntKind.wrap_u64]; omega
  have W2 : IntKind.u64.wrap u = u := by rw [IntKind.wrap_u64]; omega
  have W3 : IntKind.u64.wrap c = c := by rw [IntKind.wrap_u64]; omega
  have HM := hide hol
  have P := hide (BhS.begin w ⟨3, i, s, u, c⟩ 3)
  obtain ⟨c0, c1, c2, c3, c4⟩ := box5 (heap_alloc_new w (.cells [Value.int .i64 3, .int .u32 i, .int .i64 s, .int .i64 u, .int .i64 c].toArray 25))
  obtain ⟨d0, d1, d2, d3, d4⟩ := box5 P.out.box
  clear hm hi hx hol
  unfold rcV
  unfold rcC at P d0 d1 d2 d3 d4
  dsimp only at *
  go_enter Tryd.func28, Tryd.ntmps28
  go_wp2_with fail
  clear c0 c1 c2 c3 c4 d0 d1 d2 d3 d4
  generalize (w.alloc (.cells #[.int .i64 3, .int .u32 i, .int .i64 s, .int .i64 u, .int .i64 c] 25)).alloc (.cells #[.int .u8 3] 5) = w0 at *
  refine (refnum_any i 4 4 w0 rfl (by omega) H.out.1 (by have := H.out.2.1; omega)).mono ?_
  rintro e x0 ⟨y0, rfl, hv, hg⟩
  have Q0 := hide (P.out.grown hg)
  obtain ⟨vo, vc, rfl, q1, q2, q3, q4, q5, q6⟩ := own_at hv
  have HV := hide (And.intro q4 q5)
  clear hg P hv q1 q2 q3 q4 q5 q6
  have ow := Q0.out.own
  rw [show ([3] : List Int).length = 1 by simp] at ow
  have OW := hide ow
  clear ow
  go_wp2_with (at_builtin; refine wpList_append_lie rfl (.tmp 17) (.tmp 21) rfl (w.heap.size + 1) (.slice (some ⟨w.heap.size + 1, 0, none⟩) 1 1) 1 _ rfl OW.out vo 4 vc (leB i 4) rfl (leB_length _ _) HV.out.1 (fun e => (by have := (HV.out.2 e).1; exact absurd this (by decide))) (by decide) (row_lt Q0.out.box) ?_)
  intro v1 w1 ho hg _
  have P1 := hide (Q0.out.next (leB_length i 4) (by simpa [leB_length] using ho) hg)
  obtain ⟨bo, bc, rfl, -⟩ := own_at P1.out.own
  clear ho hg HV OW Q0
  rw [show ([3] ++ leB i 4 : List Int).length = 5 by simp [leB_length]]
  obtain ⟨c0, c1, c2, c3, c4⟩ := box5 P1.out.box
  have ho : [3] ++ leB i 4 = (Rc.mk 3 i s u c).out := by first | rfl | (rw [out2 (Or.inr rfl)]; simp)
  have PZ := P1.out
  rw [ho] at PZ
  have HZ := hide PZ
  clear PZ P1 ho
  go_wp2
  go_ret
  refine ⟨_, rfl, ?_, HZ.out.gr⟩
  have := own_from HZ.out.own (Nat.le_succ w.heap.size)
  rw [HM.out] at this
  exact this
set_option maxHeartbeats 4000000 in
theorem bytes_4 (i s u c : Int) (hm : (Rc.mk 4 i s u c).May) (hi : i < 4294967296 ∧ 0 ≤ i) (w : World) : Calls Tryd.prog 28 #[rcV ⟨4, i, s, u, c⟩] w fun e w' => ∃ v, e = .returned v ∧ w'.ownsRow w.heap.size 5 1 v (sz 4) ((Rc.mk 4 i s u c).out.map (Value.int .u8)) ∧ w.grownBy w' none := by
  have hol := out_length hm
  have hx : 0 ≤ i ∧ i < 4294967296 ∧ 0 ≤ s ∧ s < 65536 ∧ 0 ≤ u ∧ u < 18446744073709551616 ∧ 0 ≤ c ∧ c < 18446744073709551616 := by unfold Rc.May mxC at hm; dsimp only at hm; omega
  have H := hide hx
  have W0 : IntKind.u64.wrap i = i := by rw [IntKind.wrap_u64]; omega
  have W1 : IntKind.u64.wrap s = s := by rw [IntKind.wrap_u64]; omega
  have W2 : IntKind.u64.wrap u = u := by rw [IntKind.wrap_u64]; omega
  have W3 : IntKind.u64.wrap c = c := by rw [IntKind.wrap_u64]; omega
  have HM := hide hol
  have P := hide (BhS.begin w ⟨4, i, s, u, c⟩ 4)
  obtain ⟨c0, c1, c2, c3, c4⟩ := box5 (heap_alloc_new w (.cells [Value.int .i64 4, .int .u32 i, .int .i64 s, .int .i64 u, .int .i64 c].toArray 25))
  obtain ⟨d0, d1, d2, d3, d4⟩ := box5 P.out.box
  clear hm hi hx hol
  unfold rcV
  unfold rcC at P d0 d1 d2 d3 d4
  dsimp only at *
  go_enter Tryd.func28, Tryd.ntmps28
  go_wp2_with fail
  clear c0 c1 c2 c3 c4 d0 d1 d2 d3 d4
  generalize (w.alloc (.cells #[.int .i64 4, .int .u32 i, .int .i64 s, .int .i64 u, .int .i64 c] 25)).alloc (.cells #[.int .u8 4] 5) = w0 at *
  refine (refnum_any i 4 4 w0 rfl (by omega) H.out.1 (by have := H.out.2.1; omega)).mono ?_
  rintro e x0 ⟨y0, rfl, hv, hg⟩
  have Q0 := hide (P.out.grown hg)
  obtain ⟨vo, vc, rfl, q1, q2, q3, q4, q5, q6⟩ := own_at hv
  have HV := hide (And.intro q4 q5)
  clear hg P hv q1 q2 q3 q4 q5 q6
  have ow := Q0.out.own
  rw [show ([4] : List Int).length = 1 by simp] at ow
  have OW := hide ow
  clear ow
  go_wp2_with (at_builtin; refine wpList_append_lie rfl (.tmp 17) (.tmp 21) rfl (w.heap.size + 1) (.slice (some ⟨w.heap.size + 1, 0, none⟩) 1 1) 1 _ rfl OW.out vo 4 vc (leB i 4) rfl (leB_length _ _) HV.out.1 (fun e => (by have := (HV.out.2 e).1; exact absurd this (by decide))) (by decide) (row_lt Q0.out.box) ?_)
  intro v1 w1 ho hg _
  have P1 := hide (Q0.out.next (leB_length i 4) (by simpa [leB_length] using ho) hg)
  obtain ⟨bo, bc, rfl, -⟩ := own_at P1.out.own
  clear ho hg HV OW Q0
  rw [show ([4] ++ leB i 4 : List Int).length = 5 by simp [leB_length]]
  obtain ⟨c0, c1, c2, c3, c4⟩ := box5 P1.out.box
  go_wp2_with fail
  refine (refnum_any s 2 2 w1 rfl (by omega) H.out.2.2.1 (by have := H.out.2.2.2.1; omega)).mono ?_
  rintro e x1 ⟨y1, rfl, hv, hg⟩
  have Q1 := hide (P1.out.grown hg)
  obtain ⟨vo, vc, rfl, q1, q2, q3, q4, q5, q6⟩ := own_at hv
  have HV := hide (And.intro q4 q5)
  clear hg P1 hv q1 q2 q3 q4 q5 q6 c0 c1 c2 c3 c4
  have ow := Q1.out.own
  rw [show ([4] ++ leB i 4 : List Int).length = 5 by simp [leB_length]] at ow
  have OW := hide ow
  clear ow
  go_wp2_with (at_builtin; refine wpList_append_lie rfl (.tmp 31) (.tmp 35) rfl (w.heap.size + 1) _ 5 _ rfl OW.out vo 2 vc (leB s 2) rfl (leB_length _ _) HV.out.1 (fun e => (by have := (HV.out.2 e).1; exact absurd this (by decide))) (by decide) (row_lt Q1.out.box) ?_)
  intro v2 w2 ho hg _
  have P2 := hide (Q1.out.next (leB_length s 2) (by simpa [leB_length] using ho) hg)
  obtain ⟨bo, bc, rfl, -⟩ := own_at P2.out.own
  clear ho hg HV OW Q1
  rw [show ([4] ++ leB i 4 ++ leB s 2 : List Int).length = 7 by simp [leB_length]]
  obtain ⟨c0, c1, c2, c3, c4⟩ := box5 P2.out.box
  have ho : [4] ++ leB i 4 ++ leB s 2 = (Rc.mk 4 i s u c).out := by first | rfl | (rw [out4 rfl]; simp)
  have PZ := P2.out
  rw [ho] at PZ
  have HZ := hide PZ
  clear PZ P2 ho
  go_wp2
  go_ret
  refine ⟨_, rfl, ?_, HZ.out.gr⟩
  have := own_from HZ.out.own (Nat.le_succ w.heap.size)
  rw [HM.out] at this
  exact this
set_option maxHeartbeats 4000000 in
theorem bytes_5 (i s u c : Int) (hm : (Rc.mk 5 i s u c).May) (hi : i < 4294967296 ∧ 0 ≤ i) (w : World) : Calls Tryd.prog 28 #[rcV ⟨5, i, s, u, c⟩] w fun e w' => ∃ v, e = .returned v ∧ w'.ownsRow w.heap.size 5 1 v (sz 5) ((Rc.mk 5 i s u c).out.map (Value.int .u8)) ∧ w.grownBy w' none := by
  have hol := out_length hm
  have hx : 0 ≤ i ∧ i < 4294967296 ∧ 0 ≤ s ∧ s < 65536 ∧ 0 ≤ u ∧ u < 18446744073709551616 ∧ 0 ≤ c ∧ c < 18446744073709551616 := by unfold Rc.May mxC at hm; dsimp only at hm; omega
  have H := hide hx
  have W0 : IntKind.u64.wrap i = i := by rw [IntKind.wrap_u64]; omega
  have W1 : IntKind.u64.wrap s = s := by rw [IntKind.wrap_u64]; omega
  have W2 : IntKind.u64.wrap u = u := by rw [IntKind.wrap_u64]; omega
  have W3 : IntKind.u64.wrap c = c := by rw [IntKind.wrap_u64]; omega
  have HM := hide hol
  have P := hide (BhS.begin w ⟨5, i, s, u, c⟩ 5)
  obtain ⟨c0, c1, c2, c3, c4⟩ := box5 (heap_alloc_new w (.cells [Value.int .i64 5, .int .u32 i, .int .i64 s, .int .i64 u, .int .i64 c].toArray 25))
  obtain ⟨d0, d1, d2, d3, d4⟩ := box5 P.out.box
  clear hm hi hx hol
  unfold rcV
  unfold rcC at P d0 d1 d2 d3 d4
  dsimp only at *
  go_enter Tryd.func28, Tryd.ntmps28
  go_wp2_with fail
  clear c0 c1 c2 c3 c4 d0 d1 d2 d3 d4
  generalize (w.alloc (.cells #[.int .i64 5, .int .u32 i, .int .i64 s, .int .i64 u, .int .i64 c] 25)).alloc (.cells #[.int .u8 5] 5) = w0 at *
  refine (refnum_any c 8 8 w0 rfl (by omega) H.out.2.2.2.2.2.2.1 H.out.2.2.2.2.2.2.2).mono ?_
  rintro e x0 ⟨y0, rfl, hv, hg⟩
  have Q0 := hide (P.out.grown hg)
  obtain ⟨vo, vc, rfl, q1, q2, q3, q4, q5, q6⟩ := own_at hv
  have HV := hide (And.intro q4 q5)
  clear hg P hv q1 q2 q3 q4 q5 q6
  have ow := Q0.out.own
  rw [show ([5] : List Int).length = 1 by simp] at ow
  have OW := hide ow
  clear ow
  go_wp2_with (at_builtin; refine wpList_append_lie rfl (.tmp 11) (.tmp 15) rfl (w.heap.size + 1) (.slice (some ⟨w.heap.size + 1, 0, none⟩) 1 1) 1 _ rfl OW.out vo 8 vc (leB c 8) rfl (leB_length _ _) HV.out.1 (fun e => (by have := (HV.out.2 e).1; exact absurd this (by decide))) (by decide) (row_lt Q0.out.box) ?_)
  intro v1 w1 ho hg _
  have P1 := hide (Q0.out.next (leB_length c 8) (by simpa [leB_length] using ho) hg)
  obtain ⟨bo, bc, rfl, -⟩ := own_at P1.out.own
  clear ho hg HV OW Q0
  rw [show ([5] ++ leB c 8 : List Int).length = 9 by simp [leB_length]]
  obtain ⟨c0, c1, c2, c3, c4⟩ := box5 P1.out.box
  have ho : [5] ++ leB c 8 = (Rc.mk 5 i s u c).out := by first | rfl | (rw [out5 rfl]; simp)
  have PZ := P1.out
  rw [ho] at PZ
  have HZ := hide PZ
  clear PZ P1 ho
  go_wp2
  go_ret
  refine ⟨_, rfl, ?_, HZ.out.gr⟩
  have := own_from HZ.out.own (Nat.le_succ w.heap.size)
  rw [HM.out] at this
  exact this
end Go.Proofs.YtghojalpdkiooaaDoor
