/- records: write, Put. -/
import Derived.Test.YtghojalpdkiooaaDoorRb
namespace Go.Proofs.YtghojalpdkiooaaDoor
open Go.RowKit
attribute [local go_sem ↓] Go.wp_at_zero Go.wp_at_succ
/-- Inside write: the record's box, its kind's fields, the Writer. -/
structure WrS (w wr : World) (r : Rc) (a b c d : Bool) (bs : List Int) : Prop where
  box : wr.heap[w.heap.size]? = some (.cells (rcC r).toArray 25 (0, 0))
  fld : wr.heap[w.heap.size + 1]? = some (.cells [Value.bool a, .bool b, .bool c, .bool d].toArray 48 (0, 0))
  wra : WrAt wr (w.heap.size + 2) bs
  gr : w.grownBy wr none
theorem WrS.next {w wr wr' : World} {r : Rc} {a b c d : Bool} {bs bs' : List Int} (s : WrS w wr r a b c d bs) (hW : WrAt wr' (w.heap.size + 2) bs') (hg : wr.grownBy wr' (some (w.heap.size + 2))) : WrS w wr' r a b c d bs' :=
  ⟨(hg.block _ (row_lt s.box) (by simp)).trans s.box, (hg.block _ (row_lt s.fld) (by simp)).trans s.fld, hW, grown_then s.gr hg (fun j e => by cases e; exact Or.inl (by omega))⟩
theorem WrS.begin (w : World) (r : Rc) (a b c d : Bool) : WrS w (((w.alloc (.cells (rcC r).toArray 25)).alloc (.cells [Value.bool a, .bool b, .bool c, .bool d].toArray 48)).alloc (.cells Tryd.zeroCells79 79)) r a b c d [] := by
  obtain ⟨ba, bb, bg⟩ := two_boxes w (rcC r) [Value.bool a, .bool b, .bool c, .bool d] 25 48
  have hs : ((w.alloc (.cells (rcC r).toArray 25)).alloc (.cells [Value.bool a, .bool b, .bool c, .bool d].toArray 48)).heap.size = w.heap.size + 2 := by rw [World.size_alloc, World.size_alloc]
  have hw := wr_zero ((w.alloc (.cells (rcC r).toArray 25)).alloc (.cells [Value.bool a, .bool b, .bool c, .bool d].toArray 48))
  rw [hs] at hw
  have g3 := World.grownBy_alloc ((w.alloc (.cells (rcC r).toArray 25)).alloc (.cells [Value.bool a, .bool b, .bool c, .bool d].toArray 48)) (.cells Tryd.zeroCells79 79) none
  exact ⟨(g3.block _ (row_lt ba) (by simp)).trans ba, (g3.block _ (row_lt bb) (by simp)).trans bb, hw, grown_trans bg g3⟩

set_option maxHeartbeats 4000000 in
theorem write_1 (i s u c : Int) (hm : (Rc.mk 1 i s u c).May) (hi : i < 4294967296 ∧ 0 ≤ i) (w : World) (hT : Tab w) : Calls Tryd.prog 23 #[rcV ⟨1, i, s, u, c⟩] w fun e w' => ∃ g, e = .returned (.slice (some ⟨g, 0, none⟩) (sz 1) (sz 1)) ∧ w.heap.size ≤ g ∧ w'.heap[g]? = some (.cells ((Rc.mk 1 i s u c).out.map (Value.int .u8)).toArray 5 (0, 0)) ∧ w.grownBy w' none := by
  have hol := out_length hm
  have hx : 0 ≤ i ∧ i < 4294967296 ∧ 0 ≤ s ∧ s < 65536 ∧ 0 ≤ u ∧ u < 18446744073709551616 ∧ 0 ≤ c ∧ c < 18446744073709551616 := by unfold Rc.May mxC at hm; dsimp only at hm; omega
  have H := hide hx
  have W1 : IntKind.u16.wrap s = s := by rw [IntKind.wrap_u16]; omega
  have W2 : IntKind.u64.wrap u = u := by rw [IntKind.wrap_u64]; omega
  have W3 : IntKind.u64.wrap c = c := by rw [IntKind.wrap_u64]; omega
  have HM := hide (And.intro hm hol)
  have P := hide (WrS.begin w ⟨1, i, s, u, c⟩ true true true false)
  obtain ⟨c0, c1, c2, c3, c4⟩ := box5 (heap_alloc_new w (.cells [Value.int .i64 1, .int .u32 i, .int .i64 s, .int .i64 u, .int .i64 c].toArray 25))
  obtain ⟨t0, t1, t2, t3⟩ := tab1 (hT.new (World.grownBy_alloc w (.cells [Value.int .i64 1, .int .u32 i, .int .i64 s, .int .i64 u, .int .i64 c].toArray 25) none))
  obtain ⟨d0, d1, d2, d3, d4⟩ := box5 P.out.box
  clear hm hi hx hT hol
  unfold rcV
  unfold rcC at P d0
  go_enter Tryd.func23, Tryd.ntmps23
  go_wp2_with fail
  clear c0 c1 c2 c3 c4 t0 t1 t2 t3 d0 d1 d2 d3 d4
  generalize ((w.alloc (.cells #[.int .i64 1, .int .u32 i, .int .i64 s, .int .i64 u, .int .i64 c] 25)).alloc (.cells #[.bool true, .bool true, .bool true, .bool false] 48)).alloc (.cells Tryd.zeroCells79 79) = w0 at *
  refine (byte_any (w.heap.size + 2) _ 1 w0 P.out.wra (by simp)).mono ?_
  rintro e w1 ⟨rfl, hW, hg⟩
  have P1 := hide (P.out.next hW hg)
  clear hW hg P
  obtain ⟨c0, c1, c2, c3, c4⟩ := box5 P1.out.box
  obtain ⟨f0, f1, f2, f3⟩ := box4 P1.out.fld
  go_wp2_with fail
  refine (four_any (w.heap.size + 2) _ i w1 P1.out.wra H.out.1 H.out.2.1 (by simp)).mono ?_
  rintro e w2 ⟨rfl, hW, hg⟩
  have P2 := hide (P1.out.next hW hg)
  clear hW hg P1 c0 c1 c2 c3 c4 f0 f1 f2 f3
  obtain ⟨c0, c1, c2, c3, c4⟩ := box5 P2.out.box
  obtain ⟨f0, f1, f2, f3⟩ := box4 P2.out.fld
  go_wp2_with fail
  refine (two_any (w.heap.size + 2) _ s w2 P2.out.wra H.out.2.2.1 H.out.2.2.2.1 (by simp [leB_length])).mono ?_
  rintro e w3 ⟨rfl, hW, hg⟩
  have P3 := hide (P2.out.next hW hg)
  clear hW hg P2 c0 c1 c2 c3 c4 f0 f1 f2 f3
  obtain ⟨c0, c1, c2, c3, c4⟩ := box5 P3.out.box
  obtain ⟨f0, f1, f2, f3⟩ := box4 P3.out.fld
  go_wp2_with fail
  refine (eight_any (w.heap.size + 2) _ u w3 P3.out.wra H.out.2.2.2.2.1 H.out.2.2.2.2.2.1 (by simp [leB_length])).mono ?_
  rintro e w4 ⟨rfl, hW, hg⟩
  have P4 := hide (P3.out.next hW hg)
  clear hW hg P3 c0 c1 c2 c3 c4 f0 f1 f2 f3
  obtain ⟨c0, c1, c2, c3, c4⟩ := box5 P4.out.box
  obtain ⟨f0, f1, f2, f3⟩ := box4 P4.out.fld
  go_wp2_with fail
  have ho : ([] : List Int) ++ [1] ++ leB i 4 ++ leB s 2 ++ leB u 8 = (Rc.mk 1 i s u c).out := by first | rfl | (rw [out1 rfl]; simp)
  have PZ := P4.out
  rw [ho] at PZ
  have q := out_any (w.heap.size + 2) _ w4 PZ.wra (by rw [HM.out.2]; have := sz_le 1; omega)
  rw [HM.out.2] at q
  have HZ := hide PZ
  clear PZ P4 c0 c1 c2 c3 c4 f0 f1 f2 f3
  refine q.mono ?_
  clear q
  rintro e wz ⟨rfl, hr, hg⟩
  have HR := hide (And.intro hr hg)
  clear hr hg
  go_wp2
  go_ret
  exact ⟨_, rfl, HZ.out.gr.size, HR.out.1, grown_trans HZ.out.gr HR.out.2⟩
set_option maxHeartbeats 4000000 in
theorem write_2 (i s u c : Int) (hm : (Rc.mk 2 i s u c).May) (hi : i < 4294967296 ∧ 0 ≤ i) (w : World) (hT : Tab w) : Calls Tryd.prog 23 #[rcV ⟨2, i, s, u, c⟩] w fun e w' => ∃ g, e = .returned (.slice (some ⟨g, 0, none⟩) (sz 2) (sz 2)) ∧ w.heap.size ≤ g ∧ w'.heap[g]? = some (.cells ((Rc.mk 2 i s u c).out.map (Value.int .u8)).toArray 5 (0, 0)) ∧ w.grownBy w' none := by
  have hol := out_length hm
  have hx : 0 ≤ i ∧ i < 4294967296 ∧ 0 ≤ s ∧ s < 65536 ∧ 0 ≤ u ∧ u < 18446744073709551616 ∧ 0 ≤ c ∧ c < 18446744073709551616 := by unfold Rc.May mxC at hm; dsimp only at hm; omega
  have H := hide hx
  have W1 : IntKind.u16.wrap s = s := by rw [IntKind.wrap_u16]; omega
  have W2 : IntKind.u64.wrap u = u := by rw [IntKind.wrap_u64]; omega
  have W3 : IntKind.u64.wrap c = c := by rw [IntKind.wrap_u64]; omega
  have HM := hide (And.intro hm hol)
  have P := hide (WrS.begin w ⟨2, i, s, u, c⟩ true false false false)
  obtain ⟨c0, c1, c2, c3, c4⟩ := box5 (heap_alloc_new w (.cells [Value.int .i64 2, .int .u32 i, .int .i64 s, .int .i64 u, .int .i64 c].toArray 25))
  obtain ⟨t0, t1, t2, t3⟩ := tab2 (hT.new (World.grownBy_alloc w (.cells [Value.int .i64 2, .int .u32 i, .int .i64 s, .int .i64 u, .int .i64 c].toArray 25) none))
  obtain ⟨d0, d1, d2, d3, d4⟩ := box5 P.out.box
  clear hm hi hx hT hol
  unfold rcV
  unfold rcC at P d0
  go_enter Tryd.func23, Tryd.ntmps23
  go_wp2_with fail
  clear c0 c1 c2 c3 c4 t0 t1 t2 t3 d0 d1 d2 d3 d4
  generalize ((w.alloc (.cells #[.int .i64 2, .int .u32 i, .int .i64 s, .int .i64 u, .int .i64 c] 25)).alloc (.cells #[.bool true, .bool false, .bool false, .bool false] 48)).alloc (.cells Tryd.zeroCells79 79) = w0 at *
  refine (byte_any (w.heap.size + 2) _ 2 w0 P.out.wra (by simp)).mono ?_
  rintro e w1 ⟨rfl, hW, hg⟩
  have P1 := hide (P.out.next hW hg)
  clear hW hg P
  obtain ⟨c0, c1, c2, c3, c4⟩ := box5 P1.out.box
  obtain ⟨f0, f1, f2, f3⟩ := box4 P1.out.fld
  go_wp2_with fail
  refine (four_any (w.heap.size + 2) _ i w1 P1.out.wra H.out.1 H.out.2.1 (by simp)).mono ?_
  rintro e w2 ⟨rfl, hW, hg⟩
  have P2 := hide (P1.out.next hW hg)
  clear hW hg P1 c0 c1 c2 c3 c4 f0 f1 f2 f3
  obtain ⟨c0, c1, c2, c3, c4⟩ := box5 P2.out.box
  obtain ⟨f0, f1, f2, f3⟩ := box4 P2.out.fld
  go_wp2_with fail
  have ho : ([] : List Int) ++ [2] ++ leB i 4 = (Rc.mk 2 i s u c).out := by first | rfl | (rw [out2 (Or.inl rfl)]; simp)
  have PZ := P2.out
  rw [ho] at PZ
  have q := out_any (w.heap.size + 2) _ w2 PZ.wra (by rw [HM.out.2]; have := sz_le 2; omega)
  rw [HM.out.2] at q
  have HZ := hide PZ
  clear PZ P2 c0 c1 c2 c3 c4 f0 f1 f2 f3
  refine q.mono ?_
  clear q
  rintro e wz ⟨rfl, hr, hg⟩
  have HR := hide (And.intro hr hg)
  clear hr hg
  go_wp2
  go_ret
  exact ⟨_, rfl, HZ.out.gr.size, HR.out.1, grown_trans HZ.out.gr HR.out.2⟩
set_option maxHeartbeats 4000000 in
theorem write_3 (i s u c : Int) (hm : (Rc.mk 3 i s u c).May) (hi : i < 4294967296 ∧ 0 ≤ i) (w : World) (hT : Tab w) : Calls Tryd.prog 23 #[rcV ⟨3, i, s, u, c⟩] w fun e w' => ∃ g, e = .returned (.slice (some ⟨g, 0, none⟩) (sz 3) (sz 3)) ∧ w.heap.size ≤ g ∧ w'.heap[g]? = some (.cells ((Rc.mk 3 i s u c).out.map (Value.int .u8)).toArray 5 (0, 0)) ∧ w.grownBy w' none := by
  have hol := out_length hm
  have hx : 0 ≤ i ∧ i < 4294967296 ∧ 0 ≤ s ∧ s < 65536 ∧ 0 ≤ u ∧ u < 18446744073709551616 ∧ 0 ≤ c ∧ c < 18446744073709551616 := by unfold Rc.May mxC at hm; dsimp only at hm; omega
  have H := hide hx
  have W1 : IntKind.u16.wrap s = s := by rw [IntKind.wrap_u16]; omega
  have W2 : IntKind.u64.wrap u = u := by rw [IntKind.wrap_u64]; omega
  have W3 : IntKind.u64.wrap c = c := by rw [IntKind.wrap_u64]; omega
  have HM := hide (And.intro hm hol)
  have P := hide (WrS.begin w ⟨3, i, s, u, c⟩ true false false false)
  obtain ⟨c0, c1, c2, c3, c4⟩ := box5 (heap_alloc_new w (.cells [Value.int .i64 3, .int .u32 i, .int .i64 s, .int .i64 u, .int .i64 c].toArray 25))
  obtain ⟨t0, t1, t2, t3⟩ := tab3 (hT.new (World.grownBy_alloc w (.cells [Value.int .i64 3, .int .u32 i, .int .i64 s, .int .i64 u, .int .i64 c].toArray 25) none))
  obtain ⟨d0, d1, d2, d3, d4⟩ := box5 P.out.box
  clear hm hi hx hT hol
  unfold rcV
  unfold rcC at P d0
  go_enter Tryd.func23, Tryd.ntmps23
  go_wp2_with fail
  clear c0 c1 c2 c3 c4 t0 t1 t2 t3 d0 d1 d2 d3 d4
  generalize ((w.alloc (.cells #[.int .i64 3, .int .u32 i, .int .i64 s, .int .i64 u, .int .i64 c] 25)).alloc (.cells #[.bool true, .bool false, .bool false, .bool false] 48)).alloc (.cells Tryd.zeroCells79 79) = w0 at *
  refine (byte_any (w.heap.size + 2) _ 3 w0 P.out.wra (by simp)).mono ?_
  rintro e w1 ⟨rfl, hW, hg⟩
  have P1 := hide (P.out.next hW hg)
  clear hW hg P
  obtain ⟨c0, c1, c2, c3, c4⟩ := box5 P1.out.box
  obtain ⟨f0, f1, f2, f3⟩ := box4 P1.out.fld
  go_wp2_with fail
  refine (four_any (w.heap.size + 2) _ i w1 P1.out.wra H.out.1 H.out.2.1 (by simp)).mono ?_
  rintro e w2 ⟨rfl, hW, hg⟩
  have P2 := hide (P1.out.next hW hg)
  clear hW hg P1 c0 c1 c2 c3 c4 f0 f1 f2 f3
  obtain ⟨c0, c1, c2, c3, c4⟩ := box5 P2.out.box
  obtain ⟨f0, f1, f2, f3⟩ := box4 P2.out.fld
  go_wp2_with fail
  have ho : ([] : List Int) ++ [3] ++ leB i 4 = (Rc.mk 3 i s u c).out := by first | rfl | (rw [out2 (Or.inr rfl)]; simp)
  have PZ := P2.out
  rw [ho] at PZ
  have q := out_any (w.heap.size + 2) _ w2 PZ.wra (by rw [HM.out.2]; have := sz_le 3; omega)
  rw [HM.out.2] at q
  have HZ := hide PZ
  clear PZ P2 c0 c1 c2 c3 c4 f0 f1 f2 f3
  refine q.mono ?_
  clear q
  rintro e wz ⟨rfl, hr, hg⟩
  have HR := hide (And.intro hr hg)
  clear hr hg
  go_wp2
  go_ret
  exact ⟨_, rfl, HZ.out.gr.size, HR.out.1, grown_trans HZ.out.gr HR.out.2⟩
set_option maxHeartbeats 4000000 in
theorem write_4 (i s u c : Int) (hm : (Rc.mk 4 i s u c).May) (hi : i < 4294967296 ∧ 0 ≤ i) (w : World) (hT : Tab w) : Calls Tryd.prog 23 #[rcV ⟨4, i, s, u, c⟩] w fun e w' => ∃ g, e = .returned (.slice (some ⟨g, 0, none⟩) (sz 4) (sz 4)) ∧ w.heap.size ≤ g ∧ w'.heap[g]? = some (.cells ((Rc.mk 4 i s u c).out.map (Value.int .u8)).toArray 5 (0, 0)) ∧ w.grownBy w' none := by
  have hol := out_length hm
  have hx : 0 ≤ i ∧ i < 4294967296 ∧ 0 ≤ s ∧ s < 65536 ∧ 0 ≤ u ∧ u < 18446744073709551616 ∧ 0 ≤ c ∧ c < 18446744073709551616 := by unfold Rc.May mxC at hm; dsimp only at hm; omega
  have H := hide hx
  have W1 : IntKind.u16.wrap s = s := by rw [IntKind.wrap_u16]; omega
  have W2 : IntKind.u64.wrap u = u := by rw [IntKind.wrap_u64]; omega
  have W3 : IntKind.u64.wrap c = c := by rw [IntKind.wrap_u64]; omega
  have HM := hide (And.intro hm hol)
  have P := hide (WrS.begin w ⟨4, i, s, u, c⟩ true true false false)
  obtain ⟨c0, c1, c2, c3, c4⟩ := box5 (heap_alloc_new w (.cells [Value.int .i64 4, .int .u32 i, .int .i64 s, .int .i64 u, .int .i64 c].toArray 25))
  obtain ⟨t0, t1, t2, t3⟩ := tab4 (hT.new (World.grownBy_alloc w (.cells [Value.int .i64 4, .int .u32 i, .int .i64 s, .int .i64 u, .int .i64 c].toArray 25) none))
  obtain ⟨d0, d1, d2, d3, d4⟩ := box5 P.out.box
  clear hm hi hx hT hol
  unfold rcV
  unfold rcC at P d0
  go_enter Tryd.func23, Tryd.ntmps23
  go_wp2_with fail
  clear c0 c1 c2 c3 c4 t0 t1 t2 t3 d0 d1 d2 d3 d4
  generalize ((w.alloc (.cells #[.int .i64 4, .int .u32 i, .int .i64 s, .int .i64 u, .int .i64 c] 25)).alloc (.cells #[.bool true, .bool true, .bool false, .bool false] 48)).alloc (.cells Tryd.zeroCells79 79) = w0 at *
  refine (byte_any (w.heap.size + 2) _ 4 w0 P.out.wra (by simp)).mono ?_
  rintro e w1 ⟨rfl, hW, hg⟩
  have P1 := hide (P.out.next hW hg)
  clear hW hg P
  obtain ⟨c0, c1, c2, c3, c4⟩ := box5 P1.out.box
  obtain ⟨f0, f1, f2, f3⟩ := box4 P1.out.fld
  go_wp2_with fail
  refine (four_any (w.heap.size + 2) _ i w1 P1.out.wra H.out.1 H.out.2.1 (by simp)).mono ?_
  rintro e w2 ⟨rfl, hW, hg⟩
  have P2 := hide (P1.out.next hW hg)
  clear hW hg P1 c0 c1 c2 c3 c4 f0 f1 f2 f3
  obtain ⟨c0, c1, c2, c3, c4⟩ := box5 P2.out.box
  obtain ⟨f0, f1, f2, f3⟩ := box4 P2.out.fld
  go_wp2_with fail
  refine (two_any (w.heap.size + 2) _ s w2 P2.out.wra H.out.2.2.1 H.out.2.2.2.1 (by simp [leB_length])).mono ?_
  rintro e w3 ⟨rfl, hW, hg⟩
  have P3 := hide (P2.out.next hW hg)
  clear hW hg P2 c0 c1 c2 c3 c4 f0 f1 f2 f3
  obtain ⟨c0, c1, c2, c3, c4⟩ := box5 P3.out.box
  obtain ⟨f0, f1, f2, f3⟩ := box4 P3.out.fld
  go_wp2_with fail
  have ho : ([] : List Int) ++ [4] ++ leB i 4 ++ leB s 2 = (Rc.mk 4 i s u c).out := by first | rfl | (rw [out4 rfl]; simp)
  have PZ := P3.out
  rw [ho] at PZ
  have q := out_any (w.heap.size + 2) _ w3 PZ.wra (by rw [HM.out.2]; have := sz_le 4; omega)
  rw [HM.out.2] at q
  have HZ := hide PZ
  clear PZ P3 c0 c1 c2 c3 c4 f0 f1 f2 f3
  refine q.mono ?_
  clear q
  rintro e wz ⟨rfl, hr, hg⟩
  have HR := hide (And.intro hr hg)
  clear hr hg
  go_wp2
  go_ret
  exact ⟨_, rfl, HZ.out.gr.size, HR.out.1, grown_trans HZ.out.gr HR.out.2⟩
set_option maxHeartbeats 4000000 in
theorem write_5 (i s u c : Int) (hm : (Rc.mk 5 i s u c).May) (hi : i < 4294967296 ∧ 0 ≤ i) (w : World) (hT : Tab w) : Calls Tryd.prog 23 #[rcV ⟨5, i, s, u, c⟩] w fun e w' => ∃ g, e = .returned (.slice (some ⟨g, 0, none⟩) (sz 5) (sz 5)) ∧ w.heap.size ≤ g ∧ w'.heap[g]? = some (.cells ((Rc.mk 5 i s u c).out.map (Value.int .u8)).toArray 5 (0, 0)) ∧ w.grownBy w' none := by
  have hol := out_length hm
  have hx : 0 ≤ i ∧ i < 4294967296 ∧ 0 ≤ s ∧ s < 65536 ∧ 0 ≤ u ∧ u < 18446744073709551616 ∧ 0 ≤ c ∧ c < 18446744073709551616 := by unfold Rc.May mxC at hm; dsimp only at hm; omega
  have H := hide hx
  have W1 : IntKind.u16.wrap s = s := by rw [IntKind.wrap_u16]; omega
  have W2 : IntKind.u64.wrap u = u := by rw [IntKind.wrap_u64]; omega
  have W3 : IntKind.u64.wrap c = c := by rw [IntKind.wrap_u64]; omega
  have HM := hide (And.intro hm hol)
  have P := hide (WrS.begin w ⟨5, i, s, u, c⟩ false false false true)
  obtain ⟨c0, c1, c2, c3, c4⟩ := box5 (heap_alloc_new w (.cells [Value.int .i64 5, .int .u32 i, .int .i64 s, .int .i64 u, .int .i64 c].toArray 25))
  obtain ⟨t0, t1, t2, t3⟩ := tab5 (hT.new (World.grownBy_alloc w (.cells [Value.int .i64 5, .int .u32 i, .int .i64 s, .int .i64 u, .int .i64 c].toArray 25) none))
  obtain ⟨d0, d1, d2, d3, d4⟩ := box5 P.out.box
  clear hm hi hx hT hol
  unfold rcV
  unfold rcC at P d0
  go_enter Tryd.func23, Tryd.ntmps23
  go_wp2_with fail
  clear c0 c1 c2 c3 c4 t0 t1 t2 t3 d0 d1 d2 d3 d4
  generalize ((w.alloc (.cells #[.int .i64 5, .int .u32 i, .int .i64 s, .int .i64 u, .int .i64 c] 25)).alloc (.cells #[.bool false, .bool false, .bool false, .bool true] 48)).alloc (.cells Tryd.zeroCells79 79) = w0 at *
  refine (byte_any (w.heap.size + 2) _ 5 w0 P.out.wra (by simp)).mono ?_
  rintro e w1 ⟨rfl, hW, hg⟩
  have P1 := hide (P.out.next hW hg)
  clear hW hg P
  obtain ⟨c0, c1, c2, c3, c4⟩ := box5 P1.out.box
  obtain ⟨f0, f1, f2, f3⟩ := box4 P1.out.fld
  go_wp2_with fail
  refine (eight_any (w.heap.size + 2) _ c w1 P1.out.wra H.out.2.2.2.2.2.2.1 H.out.2.2.2.2.2.2.2 (by simp)).mono ?_
  rintro e w2 ⟨rfl, hW, hg⟩
  have P2 := hide (P1.out.next hW hg)
  clear hW hg P1 c0 c1 c2 c3 c4 f0 f1 f2 f3
  obtain ⟨c0, c1, c2, c3, c4⟩ := box5 P2.out.box
  obtain ⟨f0, f1, f2, f3⟩ := box4 P2.out.fld
  go_wp2_with fail
  have ho : ([] : List Int) ++ [5] ++ leB c 8 = (Rc.mk 5 i s u c).out := by first | rfl | (rw [out5 rfl]; simp)
  have PZ := P2.out
  rw [ho] at PZ
  have q := out_any (w.heap.size + 2) _ w2 PZ.wra (by rw [HM.out.2]; have := sz_le 5; omega)
  rw [HM.out.2] at q
  have HZ := hide PZ
  clear PZ P2 c0 c1 c2 c3 c4 f0 f1 f2 f3
  refine q.mono ?_
  clear q
  rintro e wz ⟨rfl, hr, hg⟩
  have HR := hide (And.intro hr hg)
  clear hr hg
  go_wp2
  go_ret
  exact ⟨_, rfl, HZ.out.gr.size, HR.out.1, grown_trans HZ.out.gr HR.out.2⟩
theorem write_any (r : Rc) (ho : r.Ok) (hm : r.May) (w : World) (hT : Tab w) : Calls Tryd.prog 23 #[rcV r] w fun e w' => ∃ g, e = .returned (.slice (some ⟨g, 0, none⟩) (sz r.k) (sz r.k)) ∧ w.heap.size ≤ g ∧ w'.heap[g]? = some (.cells (r.out.map (Value.int .u8)).toArray 5 (0, 0)) ∧ w.grownBy w' none := by
  have hi := And.intro ho.i1 ho.i0
  have hk5 := may_kind hm
  obtain ⟨k, i, s, u, c⟩ := r
  dsimp only at hk5 hi
  rcases hk5 with rfl | rfl | rfl | rfl | rfl
  · exact write_1 i s u c hm hi w hT
  · exact write_2 i s u c hm hi w hT
  · exact write_3 i s u c hm hi w hT
  · exact write_4 i s u c hm hi w hT
  · exact write_5 i s u c hm hi w hT
/-- What Put answers: nothing, or the record's bytes in a new row. -/
def PutP (r : Rc) (w w' : World) (v : Value) : Prop := (r.May ∧ ∃ g, v = .slice (some ⟨g, 0, none⟩) (sz r.k) (sz r.k) ∧ w.heap.size ≤ g ∧ w'.heap[g]? = some (.cells (r.out.map (Value.int .u8)).toArray 5 (0, 0))) ∨ (¬ r.May ∧ v = .slice none 0 0)
theorem put_rec (r : Rc) (ho : r.Ok) (w : World) (hT : Tab w) : Calls Tryd.prog 9 #[rcV r] w fun e w' => ∃ v, e = .returned (.tuple #[v, .int .i64 (chk r)]) ∧ PutP r w w' v ∧ w.grownBy w' none := by
  have g1 := World.grownBy_alloc w (.cells (rcC r).toArray 25) none
  have b1 := heap_alloc_new w (.cells (rcC r).toArray 25)
  have q := check_any r ho _ (hT.new g1)
  have H := hide (And.intro ho (And.intro (hT.new g1) (And.intro g1 b1)))
  obtain ⟨c0, c1, c2, c3, c4⟩ := box5 b1
  clear hT ho g1 b1
  unfold rcC at *
  by_cases hm : r.May
  · rw [show chk r = 0 from if_pos hm] at q ⊢
    unfold rcV at q ⊢
    have HM := hide hm
    clear hm
    go_enter Tryd.func9, Tryd.ntmps9
    go_wp2_with fail
    refine q.mono ?_
    clear q
    rintro e w1 ⟨rfl, hg⟩
    have hb := (hg.block _ (row_lt H.out.2.2.2) (by simp)).trans H.out.2.2.2
    have q := write_any r H.out.1 HM.out w1 (H.out.2.1.new hg)
    unfold rcV at q
    have HG := hide (grown_trans H.out.2.2.1 hg)
    clear c0 c1 c2 c3 c4 hg
    obtain ⟨c0, c1, c2, c3, c4⟩ := box5 hb
    clear hb
    go_wp2_with fail
    refine q.mono ?_
    clear q
    rintro e w2 ⟨g, rfl, h1, h2, hg⟩
    have HR := hide (And.intro h1 (And.intro h2 hg))
    clear h1 h2 hg c0 c1 c2 c3 c4
    go_wp2
    go_ret2
    exact ⟨_, rfl, Or.inl ⟨HM.out, g, rfl, Nat.le_trans HG.out.size HR.out.1, HR.out.2.1⟩, grown_trans HG.out HR.out.2.2⟩
  · rw [show chk r = 160 from if_neg hm] at q ⊢
    unfold rcV at q ⊢
    have HM := hide hm
    clear hm
    go_enter Tryd.func9, Tryd.ntmps9
    go_wp2_with fail
    refine q.mono ?_
    clear q
    rintro e w1 ⟨rfl, hg⟩
    have HG := hide (grown_trans H.out.2.2.1 hg)
    clear c0 c1 c2 c3 c4 hg
    go_wp2
    go_ret2
    exact ⟨_, rfl, Or.inr ⟨HM.out, rfl⟩, HG.out⟩
end Go.Proofs.YtghojalpdkiooaaDoor
