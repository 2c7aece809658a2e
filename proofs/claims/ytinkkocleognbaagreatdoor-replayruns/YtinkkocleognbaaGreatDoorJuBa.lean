/- Texts joined: P4, P5a, P5b. -/
import Derived.Test.YtinkkocleognbaaGreatDoorJuAw
import Derived.Maps.AppendAt
/- The document's records as bytes. -/
namespace Go.Proofs.YtinkkocleognbaaGreatDoor.Bh
open Go.RowKit Go.Proofs.YtinkkocleognbaaGreatDoor.Oc Go.Proofs.YtinkkocleognbaaGreatDoor.Rk
attribute [local go_sem ↓] Go.wp_at_zero Go.wp_at_succ
/-- append(s, x...), s the call's own, x bytes that lie somewhere (or nil); where the row lies then. -/
theorem wpList_append_lie {w : World} {ops : Array Oper} {rest : List Oper} {o : Oper} {a : Act} {Q : Exit → Act → World → Prop} (hgd : o.guard = none) (s x : Operand)
    (ho : o.op = .call { callee := .builtin .append, args := #[s, x], argTypes := #[39, 39] }) (base : Nat) (v : Value) (n : Nat) (xs : List Value) (hs : a.eval s = v) (hown : w.ownsRow base 5 1 v n xs)
    (ao : Option Addr) (m c : Nat) (ys : List Int) (hx : a.eval x = .slice ao m c) (hm : ys.length = m) (hat : At w ao ys) (hnil : ao = none → m = 0 ∧ c = 0)
    (hbytes : n + m ≤ 140737488355328) (hbase : base ≤ w.heap.size)
    (h : ∀ v' w', w'.ownsRow base 5 1 v' (n + m) (xs ++ ys.map (Value.int .u8)) → w.grownBy w' v.ownBlock → (v'.ownBlock = v.ownBlock ∨ v'.ownBlock = some w.heap.size) → wpList Tryz.prog ops Q rest (a.put o.dst v') w') : wpList Tryz.prog ops Q (o :: rest) a w := by
  obtain ⟨i0, hi, hz0, hz1, hz2⟩ := info_parts Tryz.info5
  cases ao with
  | none =>
    obtain ⟨rfl, rfl⟩ := hnil rfl
    refine wpList_append_own_none hgd s x 39 ho base 5 i0 1 Tryz.underlying39 hi v n xs hs hown hx (h v w ?_ (grown_refl w _) (Or.inl rfl))
    have : ys = [] := List.eq_nil_of_length_eq_zero hm
    subst this
    simpa using hown
  | some ad =>
    refine wpList_append_own_at _ hgd s x 39 ho base 5 i0 (.int .u8 0) 1 1 Tryz.underlying39 hi hz0 hz1 hz2 rfl (by decide) v n xs hs hown ad m c (ys.map (Value.int .u8)) hx (by simp [hm]) ?_ ?_ (by unfold maxLen; omega) (by omega) hbase (fun v' w' h1 h2 _ h4 => h v' w' h1 h2 h4)
    · intro j u hu
      rw [List.getElem?_map] at hu
      cases hj : ys[j]? with
      | none => simp [hj] at hu
      | some y =>
        simp [hj] at hu
        obtain ⟨a', ha', hc'⟩ := hat j y hj
        cases ha'
        rw [← hu]; exact hc'
    · intro u hu; rw [List.mem_map] at hu; obtain ⟨y, _, rfl⟩ := hu; rfl

theorem div_pow (N : Int) (j : Nat) : N / 2 ^ (8 * j) / 256 = N / 2 ^ (8 * (j + 1)) := by
  rw [pow_succ8, Int.mul_comm, Int.ediv_ediv_of_nonneg (Int.le_of_lt (Int.pow_pos (by omega)))]

set_option maxHeartbeats 1000000 in
theorem refnum_any (N S : Int) (size : Nat) (w : World) (hS : S = (size : Int)) (hs : size ≤ 8) (h0 : 0 ≤ N) (h1 : N < 18446744073709551616) :
    Calls Tryz.prog 57 #[.int .u64 N, .int .i64 S] w fun e w' => ∃ v, e = .returned v ∧ w'.ownsRow w.heap.size 5 1 v size ((leB N size).map (Value.int .u8)) ∧ w.grownBy w' none := by
  subst hS
  go_enter Tryz.func57, Tryz.ntmps57
  go_wp2
  go_loopg [0, 5, 6] size (fun k n v i wr => ∃ j : Nat, k + j = size ∧ n = .int .u64 (N / 2 ^ (8 * j)) ∧ i = .int .i64 j ∧ wr.ownsRow w.heap.size 5 1 v j ((leB N j).map (Value.int .u8)) ∧ w.grownBy wr none)
  case atStart => exact ⟨0, by omega, by simp, rfl, by simpa [leB] using World.ownsRow_nil w w.heap.size 5 1, grown_refl _ _⟩
  case round =>
    obtain ⟨j, hkj, rfl, rfl, hown, hg⟩ := hrel
    have HO := hide (And.intro hown hg)
    have hm0 : 0 ≤ N / 2 ^ (8 * j) := Int.ediv_nonneg h0 (Int.le_of_lt (Int.pow_pos (by omega)))
    have hm1 : N / 2 ^ (8 * j) < 18446744073709551616 := by
      have : N / 2 ^ (8 * j) ≤ N := Int.ediv_le_self _ h0
      omega
    have HD := hide (And.intro (leB_succ N j) (div_pow N j))
    by_cases hk : 0 < gk
    · clear hown hg
      generalize N / 2 ^ (8 * j) = M at *
      go_wp2_with (at_builtin; refine wpList_append_at rfl (.tmp 12) (.tmp 16) rfl w.heap.size _ j ((leB N j).map (Value.int .u8)) rfl (HO.out.1.alloc _) (some ⟨_, 0, none⟩) 1 1 [M % 256] rfl rfl ?_ (fun e => by cases e) (by omega) ?_ ?_)
      · exact at_new _ [M % 256] _ rfl
      · have := HO.out.2.size; simp; omega
      · intro v' w' hown' hg'
        go_wp2
        go_roundg (gk - 1)
        case measure => omega
        case rel =>
          refine ⟨j + 1, by omega, by rw [← HD.out.2], by go_num, ?_, grown_then (grown_trans HO.out.2 (World.grownBy_alloc _ _ none)) hg' (fun k e => Or.inl (HO.out.1.lt k e).1)⟩
          rw [HD.out.1]; simpa using hown'
    · have hj : j = size := by omega
      subst hj
      obtain ⟨ao', cap', rfl, hr⟩ := own_at hown
      clear hown hg hr
      go_wp2
      go_ret
      exact ⟨_, rfl, HO.out.1, HO.out.2⟩


/-- Inside the document's Bytes: the box, the row so far. -/
structure BhS (w wr : World) (r : Rc) (v : Value) (bs : List Int) : Prop where
  box : wr.heap[w.heap.size]? = some (.cells (rcC r).toArray 47 (0, 0))
  own : wr.ownsRow (w.heap.size + 1) 5 1 v bs.length (bs.map (Value.int .u8))
  gr : w.grownBy wr none
theorem own_from {w : World} {b b' n : Nat} {v : Value} {xs : List Value} (h : w.ownsRow b 5 1 v n xs) (hb : b' ≤ b) : w.ownsRow b' 5 1 v n xs := by
  refine ⟨h.1, ?_⟩
  rcases h.2 with hn | ⟨g, cap, cur, hv, hbg, r⟩
  · exact .inl hn
  · exact .inr ⟨g, cap, cur, hv, by omega, r⟩
theorem own_still {w w' : World} {b n : Nat} {v : Value} {xs : List Value} (h : w.ownsRow b 5 1 v n xs) (hg : w.grownBy w' none) : w'.ownsRow b 5 1 v n xs := by
  refine ⟨h.1, ?_⟩
  rcases h.2 with hn | ⟨g, cap, cur, hv, hbg, hr, r⟩
  · exact .inl hn
  · exact .inr ⟨g, cap, cur, hv, hbg, (hg.block _ (row_lt hr) (by simp)).trans hr, r⟩
theorem BhS.grown {w wr wr' : World} {r : Rc} {v : Value} {bs : List Int} (s : BhS w wr r v bs) (hg : wr.grownBy wr' none) : BhS w wr' r v bs :=
  ⟨(hg.block _ (row_lt s.box) (by simp)).trans s.box, own_still s.own hg, grown_trans s.gr hg⟩
theorem BhS.next {w wr wr' : World} {m : Nat} {r : Rc} {v v' : Value} {bs ys : List Int} (s : BhS w wr r v bs) (hm : ys.length = m) (ho : wr'.ownsRow (w.heap.size + 1) 5 1 v' (bs.length + m) (bs.map (Value.int .u8) ++ ys.map (Value.int .u8))) (hg : wr.grownBy wr' v.ownBlock) : BhS w wr' r v' (bs ++ ys) :=
  ⟨(hg.block _ (row_lt s.box) (fun e => by have := s.own.lt _ e.symm; omega)).trans s.box, by rw [List.length_append, hm, List.map_append]; exact ho,
    grown_then s.gr hg (fun j e => Or.inl (by have := (s.own.lt j e).1; omega))⟩
theorem BhS.begin (w : World) (r : Rc) (k : Int) : BhS w ((w.alloc (.cells (rcC r).toArray 47)).alloc (.cells #[.int .u8 k] 5)) r (.slice (some ⟨w.heap.size + 1, 0, none⟩) 1 1) [k] := by
  obtain ⟨ba, bb, bg⟩ := two_boxes w (rcC r) [Value.int .u8 k] 47 5
  exact ⟨ba, ⟨rfl, .inr ⟨_, _, _, rfl, Nat.le_refl _, bb, Nat.le_refl _, by unfold maxLen; decide, rfl, rfl⟩⟩, bg⟩

set_option maxHeartbeats 4000000 in
theorem bytes_1 (i s u c : Int) (hm : (Rc.mk 1 i s u c).May) (hi : i < 4294967296 ∧ 0 ≤ i) (w : World) : Calls Tryz.prog 27 #[rcV ⟨1, i, s, u, c⟩] w fun e w' => ∃ v, e = .returned v ∧ w'.ownsRow w.heap.size 5 1 v (sz 1) ((Rc.mk 1 i s u c).out.map (Value.int .u8)) ∧ w.grownBy w' none := by
  have hol := out_length hm
  have hx : 0 ≤ i ∧ i < 4294967296 ∧ 0 ≤ s ∧ s < 65536 ∧ 0 ≤ u ∧ u < 18446744073709551616 ∧ 0 ≤ c ∧ c < 18446744073709551616 := by unfold Rc.May mxC at hm; dsimp only at hm; omega
  have H := hide hx
  have W0 : IntKind.u64.wrap i = i := by rw [IntKind.wrap_u64]; omega
  have W1 : IntKind.u64.wrap s = s := by rw [IntKind.wrap_u64]; omega
  have W2 : IntKind.u64.wrap u = u := by rw [IntKind.wrap_u64]; omega
  have W3 : IntKind.u64.wrap c = c := by rw [IntKind.wrap_u64]; omega
  have HM := hide hol
  have P := hide (BhS.begin w ⟨1, i, s, u, c⟩ 1)
  obtain ⟨c0, c1, c2, c3, c4⟩ := box5 (heap_alloc_new w (.cells [Value.int .i64 1, .int .u32 i, .int .i64 s, .int .i64 u, .int .i64 c].toArray 47))
  obtain ⟨d0, d1, d2, d3, d4⟩ := box5 P.out.box
  clear hm hi hx hol
  unfold rcV
  unfold rcC at P d0 d1 d2 d3 d4
  dsimp only at *
  go_enter Tryz.func27, Tryz.ntmps27
  go_wp2_with fail
  clear c0 c1 c2 c3 c4 d0 d1 d2 d3 d4
  generalize (w.alloc (.cells #[.int .i64 1, .int .u32 i, .int .i64 s, .int .i64 u, .int .i64 c] 47)).alloc (.cells #[.int .u8 1] 5) = w0 at *
  refine (refnum_any i 4 4 w0 rfl (by omega) H.out.1 (by have := H.out.2.1; omega)).mono ?_
  rintro e x0 ⟨y0, rfl, hv, hg⟩
  have Q0 := hide (P.out.grown hg)
  obtain ⟨vo, vc, rfl, q1, q2, q3, q4, q5, q6⟩ := own_at hv
  have HV := hide (And.intro q4 q5)
  clear hg P hv q1 q2 q3 q4 q5 q6
  have ow := Q0.out.own
  rw [show ([1] : List Int).length = 1 by simp] at ow
  have OW := hide ow
  clear ow
  go_wp2_with (at_builtin; refine wpList_append_lie rfl (.tmp 17) (.tmp 21) rfl (w.heap.size + 1) (.slice (some ⟨w.heap.size + 1, 0, none⟩) 1 1) 1 _ rfl OW.out vo 4 vc (leB i 4) rfl (leB_length _ _) HV.out.1 (fun e => (by have := (HV.out.2 e).1; exact absurd this (by decide))) (by decide) (row_lt Q0.out.box) ?_)
  intro v1 w1 ho hg _
  have P1 := hide (Q0.out.next (leB_length i 4) (by simpa [leB_length] using ho) hg)
  obtain ⟨bo, bc, rfl, -⟩ := own_at P1.out.own
  clear ho hg HV OW Q0
  rw [show ([1] ++ leB i 4 : List Int).length = 5 by simp [leB_length]]
  obtain ⟨c0, c1, c2, c3, c4⟩ := box5 P1.out.box
  go_wp2_with fail
  refine (refnum_any s 2 2 w1 rfl (by omega) H.out.2.2.1 (by have := H.out.2.2.2.1; omega)).mono ?_
  rintro e x1 ⟨y1, rfl, hv, hg⟩
  have Q1 := hide (P1.out.grown hg)
  obtain ⟨vo, vc, rfl, q1, q2, q3, q4, q5, q6⟩ := own_at hv
  have HV := hide (And.intro q4 q5)
  clear hg P1 hv q1 q2 q3 q4 q5 q6 c0 c1 c2 c3 c4
  have ow := Q1.out.own
  rw [show ([1] ++ leB i 4 : List Int).length = 5 by simp [leB_length]] at ow
  have OW := hide ow
  clear ow
  go_wp2_with (at_builtin; refine wpList_append_lie rfl (.tmp 31) (.tmp 35) rfl (w.heap.size + 1) _ 5 _ rfl OW.out vo 2 vc (leB s 2) rfl (leB_length _ _) HV.out.1 (fun e => (by have := (HV.out.2 e).1; exact absurd this (by decide))) (by decide) (row_lt Q1.out.box) ?_)
  intro v2 w2 ho hg _
  have P2 := hide (Q1.out.next (leB_length s 2) (by simpa [leB_length] using ho) hg)
  obtain ⟨bo, bc, rfl, -⟩ := own_at P2.out.own
  clear ho hg HV OW Q1
  rw [show ([1] ++ leB i 4 ++ leB s 2 : List Int).length = 7 by simp [leB_length]]
  obtain ⟨c0, c1, c2, c3, c4⟩ := box5 P2.out.box
  go_wp2_with fail
  refine (refnum_any u 8 8 w2 rfl (by omega) H.out.2.2.2.2.1 H.out.2.2.2.2.2.1).mono ?_
  rintro e x2 ⟨y2, rfl, hv, hg⟩
  have Q2 := hide (P2.out.grown hg)
  obtain ⟨vo, vc, rfl, q1, q2, q3, q4, q5, q6⟩ := own_at hv
  have HV := hide (And.intro q4 q5)
  clear hg P2 hv q1 q2 q3 q4 q5 q6 c0 c1 c2 c3 c4
  have ow := Q2.out.own
  rw [show ([1] ++ leB i 4 ++ leB s 2 : List Int).length = 7 by simp [leB_length]] at ow
  have OW := hide ow
  clear ow
  go_wp2_with (at_builtin; refine wpList_append_lie rfl (.tmp 40) (.tmp 44) rfl (w.heap.size + 1) _ 7 _ rfl OW.out vo 8 vc (leB u 8) rfl (leB_length _ _) HV.out.1 (fun e => (by have := (HV.out.2 e).1; exact absurd this (by decide))) (by decide) (row_lt Q2.out.box) ?_)
  intro v3 w3 ho hg _
  have P3 := hide (Q2.out.next (leB_length u 8) (by simpa [leB_length] using ho) hg)
  obtain ⟨bo, bc, rfl, -⟩ := own_at P3.out.own
  clear ho hg HV OW Q2
  rw [show ([1] ++ leB i 4 ++ leB s 2 ++ leB u 8 : List Int).length = 15 by simp [leB_length]]
  obtain ⟨c0, c1, c2, c3, c4⟩ := box5 P3.out.box
  have ho : [1] ++ leB i 4 ++ leB s 2 ++ leB u 8 = (Rc.mk 1 i s u c).out := by first | rfl | (rw [out1 rfl]; simp)
  have PZ := P3.out
  rw [ho] at PZ
  have HZ := hide PZ
  clear PZ P3 ho
  go_wp2
  go_ret
  refine ⟨_, rfl, ?_, HZ.out.gr⟩
  have := own_from HZ.out.own (Nat.le_succ w.heap.size)
  rw [HM.out] at this
  exact this
set_option maxHeartbeats 4000000 in
theorem bytes_2 (i s u c : Int) (hm : (Rc.mk 2 i s u c).May) (hi : i < 4294967296 ∧ 0 ≤ i) (w : World) : Calls Tryz.prog 27 #[rcV ⟨2, i, s, u, c⟩] w fun e w' => ∃ v, e = .returned v ∧ w'.ownsRow w.heap.size 5 1 v (sz 2) ((Rc.mk 2 i s u c).out.map (Value.int .u8)) ∧ w.grownBy w' none := by
  have hol := out_length hm
  have hx : 0 ≤ i ∧ i < 4294967296 ∧ 0 ≤ s ∧ s < 65536 ∧ 0 ≤ u ∧ u < 18446744073709551616 ∧ 0 ≤ c ∧ c < 18446744073709551616 := by unfold Rc.May mxC at hm; dsimp only at hm; omega
  have H := hide hx
  have W0 : IntKind.u64.wrap i = i := by rw [IntKind.wrap_u64]; omega
  have W1 : IntKind.u64.wrap s = s := by rw [IntKind.wrap_u64]; omega
  have W2 : IntKind.u64.wrap u = u := by rw [IntKind.wrap_u64]; omega
  have W3 : IntKind.u64.wrap c = c := by rw [IntKind.wrap_u64]; omega
  have HM := hide hol
  have P := hide (BhS.begin w ⟨2, i, s, u, c⟩ 2)
  obtain ⟨c0, c1, c2, c3, c4⟩ := box5 (heap_alloc_new w (.cells [Value.int .i64 2, .int .u32 i, .int .i64 s, .int .i64 u, .int .i64 c].toArray 47))
  obtain ⟨d0, d1, d2, d3, d4⟩ := box5 P.out.box
  clear hm hi hx hol
  unfold rcV
  unfold rcC at P d0 d1 d2 d3 d4
  dsimp only at *
  go_enter Tryz.func27, Tryz.ntmps27
  go_wp2_with fail
  clear c0 c1 c2 c3 c4 d0 d1 d2 d3 d4
  generalize (w.alloc (.cells #[.int .i64 2, .int .u32 i, .int .i64 s, .int .i64 u, .int .i64 c] 47)).alloc (.cells #[.int .u8 2] 5) = w0 at *
  refine (refnum_any i 4 4 w0 rfl (by omega) H.out.1 (by have := H.out.2.1; omega)).mono ?_
  rintro e x0 ⟨y0, rfl, hv, hg⟩
  have Q0 := hide (P.out.grown hg)
  obtain ⟨vo, vc, rfl, q1, q2, q3, q4, q5, q6⟩ := own_at hv
  have HV := hide (And.intro q4 q5)
  clear hg P hv q1 q2 q3 q4 q5 q6
  have ow := Q0.out.own
  rw [show ([2] : List Int).length = 1 by simp] at ow
  have OW := hide ow
  clear ow
  go_wp2_with (at_builtin; refine wpList_append_lie rfl (.tmp 17) (.tmp 21) rfl (w.heap.size + 1) (.slice (some ⟨w.heap.size + 1, 0, none⟩) 1 1) 1 _ rfl OW.out vo 4 vc (leB i 4) rfl (leB_length _ _) HV.out.1 (fun e => (by have := (HV.out.2 e).1; exact absurd this (by decide))) (by decide) (row_lt Q0.out.box) ?_)
  intro v1 w1 ho hg _
  have P1 := hide (Q0.out.next (leB_length i 4) (by simpa [leB_length] using ho) hg)
  obtain ⟨bo, bc, rfl, -⟩ := own_at P1.out.own
  clear ho hg HV OW Q0
  rw [show ([2] ++ leB i 4 : List Int).length = 5 by simp [leB_length]]
  obtain ⟨c0, c1, c2, c3, c4⟩ := box5 P1.out.box
  have ho : [2] ++ leB i 4 = (Rc.mk 2 i s u c).out := by first | rfl | (rw [out2 (Or.inl rfl)]; simp)
  have PZ := P1.out
  rw [ho] at PZ
  have HZ := hide PZ
  clear PZ P1 ho
  go_wp2
  go_ret
  refine ⟨_, rfl, ?_, HZ.out.gr⟩
  have := own_from HZ.out.own (Nat.le_succ w.heap.size)
  rw [HM.out] at this
  exact this
set_option maxHeartbeats 4000000 in
theorem bytes_3 (i s u c : Int) (hm : (Rc.mk 3 i s u c).May) (hi : i < 4294967296 ∧ 0 ≤ i) (w : World) : Calls Tryz.prog 27 #[rcV ⟨3, i, s, u, c⟩] w fun e w' => ∃ v, e = .returned v ∧ w'.ownsRow w.heap.size 5 1 v (sz 3) ((Rc.mk 3 i s u c).out.map (Value.int .u8)) ∧ w.grownBy w' none := by
  have hol := out_length hm
  have hx : 0 ≤ i ∧ i < 4294967296 ∧ 0 ≤ s ∧ s < 65536 ∧ 0 ≤ u ∧ u < 18446744073709551616 ∧ 0 ≤ c ∧ c < 18446744073709551616 := by unfold Rc.May mxC at hm; dsimp only at hm; omega
  have H := hide hx
  have W0 : IntKind.u64.wrap i = i := by rw [IntKind.wrap_u64]; omega
  have W1 : IntKind.u64.wrap s = s := by rw [IntKind.wrap_u64]; omega
  have W2 : IntKind.u64.wrap u = u := by rw [IntKind.wrap_u64]; omega
  have W3 : IntKind.u64.wrap c = c := by rw [IntKind.wrap_u64]; omega
  have HM := hide hol
  have P := hide (BhS.begin w ⟨3, i, s, u, c⟩ 3)
  obtain ⟨c0, c1, c2, c3, c4⟩ := box5 (heap_alloc_new w (.cells [Value.int .i64 3, .int .u32 i, .int .i64 s, .int .i64 u, .int .i64 c].toArray 47))
  obtain ⟨d0, d1, d2, d3, d4⟩ := box5 P.out.box
  clear hm hi hx hol
  unfold rcV
  unfold rcC at P d0 d1 d2 d3 d4
  dsimp only at *
  go_enter Tryz.func27, Tryz.ntmps27
  go_wp2_with fail
  clear c0 c1 c2 c3 c4 d0 d1 d2 d3 d4
  generalize (w.alloc (.cells #[.int .i64 3, .int .u32 i, .int .i64 s, .int .i64 u, .int .i64 c] 47)).alloc (.cells #[.int .u8 3] 5) = w0 at *
  refine (refnum_any i 4 4 w0 rfl (by omega) H.out.1 (by have := H.out.2.1; omega)).mono ?_
  rintro e x0 ⟨y0, rfl, hv, hg⟩
  have Q0 := hide (P.out.grown hg)
  obtain ⟨vo, vc, rfl, q1, q2, q3, q4, q5, q6⟩ := own_at hv
  have HV := hide (And.intro q4 q5)
  clear hg P hv q1 q2 q3 q4 q5 q6
  have ow := Q0.out.own
  rw [show ([3] : List Int).length = 1 by simp] at ow
  have OW := hide ow
  clear ow
  go_wp2_with (at_builtin; refine wpList_append_lie rfl (.tmp 17) (.tmp 21) rfl (w.heap.size + 1) (.slice (some ⟨w.heap.size + 1, 0, none⟩) 1 1) 1 _ rfl OW.out vo 4 vc (leB i 4) rfl (leB_length _ _) HV.out.1 (fun e => (by have := (HV.out.2 e).1; exact absurd this (by decide))) (by decide) (row_lt Q0.out.box) ?_)
  intro v1 w1 ho hg _
  have P1 := hide (Q0.out.next (leB_length i 4) (by simpa [leB_length] using ho) hg)
  obtain ⟨bo, bc, rfl, -⟩ := own_at P1.out.own
  clear ho hg HV OW Q0
  rw [show ([3] ++ leB i 4 : List Int).length = 5 by simp [leB_length]]
  obtain ⟨c0, c1, c2, c3, c4⟩ := box5 P1.out.box
  have ho : [3] ++ leB i 4 = (Rc.mk 3 i s u c).out := by first | rfl | (rw [out2 (Or.inr rfl)]; simp)
  have PZ := P1.out
  rw [ho] at PZ
  have HZ := hide PZ
  clear PZ P1 ho
  go_wp2
  go_ret
  refine ⟨_, rfl, ?_, HZ.out.gr⟩
  have := own_from HZ.out.own (Nat.le_succ w.heap.size)
  rw [HM.out] at this
  exact this
set_option maxHeartbeats 4000000 in
theorem bytes_4 (i s u c : Int) (hm : (Rc.mk 4 i s u c).May) (hi : i < 4294967296 ∧ 0 ≤ i) (w : World) : Calls Tryz.prog 27 #[rcV ⟨4, i, s, u, c⟩] w fun e w' => ∃ v, e = .returned v ∧ w'.ownsRow w.heap.size 5 1 v (sz 4) ((Rc.mk 4 i s u c).out.map (Value.int .u8)) ∧ w.grownBy w' none := by
  have hol := out_length hm
  have hx : 0 ≤ i ∧ i < 4294967296 ∧ 0 ≤ s ∧ s < 65536 ∧ 0 ≤ u ∧ u < 18446744073709551616 ∧ 0 ≤ c ∧ c < 18446744073709551616 := by unfold Rc.May mxC at hm; dsimp only at hm; omega
  have H := hide hx
  have W0 : IntKind.u64.wrap i = i := by rw [IntKind.wrap_u64]; omega
  have W1 : IntKind.u64.wrap s = s := by rw [IntKind.wrap_u64]; omega
  have W2 : IntKind.u64.wrap u = u := by rw [IntKind.wrap_u64]; omega
  have W3 : IntKind.u64.wrap c = c := by rw [IntKind.wrap_u64]; omega
  have HM := hide hol
  have P := hide (BhS.begin w ⟨4, i, s, u, c⟩ 4)
  obtain ⟨c0, c1, c2, c3, c4⟩ := box5 (heap_alloc_new w (.cells [Value.int .i64 4, .int .u32 i, .int .i64 s, .int .i64 u, .int .i64 c].toArray 47))
  obtain ⟨d0, d1, d2, d3, d4⟩ := box5 P.out.box
  clear hm hi hx hol
  unfold rcV
  unfold rcC at P d0 d1 d2 d3 d4
  dsimp only at *
  go_enter Tryz.func27, Tryz.ntmps27
  go_wp2_with fail
  clear c0 c1 c2 c3 c4 d0 d1 d2 d3 d4
  generalize (w.alloc (.cells #[.int .i64 4, .int .u32 i, .int .i64 s, .int .i64 u, .int .i64 c] 47)).alloc (.cells #[.int .u8 4] 5) = w0 at *
  refine (refnum_any i 4 4 w0 rfl (by omega) H.out.1 (by have := H.out.2.1; omega)).mono ?_
  rintro e x0 ⟨y0, rfl, hv, hg⟩
  have Q0 := hide (P.out.grown hg)
  obtain ⟨vo, vc, rfl, q1, q2, q3, q4, q5, q6⟩ := own_at hv
  have HV := hide (And.intro q4 q5)
  clear hg P hv q1 q2 q3 q4 q5 q6
  have ow := Q0.out.own
  rw [show ([4] : List Int).length = 1 by simp] at ow
  have OW := hide ow
  clear ow
  go_wp2_with (at_builtin; refine wpList_append_lie rfl (.tmp 17) (.tmp 21) rfl (w.heap.size + 1) (.slice (some ⟨w.heap.size + 1, 0, none⟩) 1 1) 1 _ rfl OW.out vo 4 vc (leB i 4) rfl (leB_length _ _) HV.out.1 (fun e => (by have := (HV.out.2 e).1; exact absurd this (by decide))) (by decide) (row_lt Q0.out.box) ?_)
  intro v1 w1 ho hg _
  have P1 := hide (Q0.out.next (leB_length i 4) (by simpa [leB_length] using ho) hg)
  obtain ⟨bo, bc, rfl, -⟩ := own_at P1.out.own
  clear ho hg HV OW Q0
  rw [show ([4] ++ leB i 4 : List Int).length = 5 by simp [leB_length]]
  obtain ⟨c0, c1, c2, c3, c4⟩ := box5 P1.out.box
  go_wp2_with fail
  refine (refnum_any s 2 2 w1 rfl (by omega) H.out.2.2.1 (by have := H.out.2.2.2.1; omega)).mono ?_
  rintro e x1 ⟨y1, rfl, hv, hg⟩
  have Q1 := hide (P1.out.grown hg)
  obtain ⟨vo, vc, rfl, q1, q2, q3, q4, q5, q6⟩ := own_at hv
  have HV := hide (And.intro q4 q5)
  clear hg P1 hv q1 q2 q3 q4 q5 q6 c0 c1 c2 c3 c4
  have ow := Q1.out.own
  rw [show ([4] ++ leB i 4 : List Int).length = 5 by simp [leB_length]] at ow
  have OW := hide ow
  clear ow
  go_wp2_with (at_builtin; refine wpList_append_lie rfl (.tmp 31) (.tmp 35) rfl (w.heap.size + 1) _ 5 _ rfl OW.out vo 2 vc (leB s 2) rfl (leB_length _ _) HV.out.1 (fun e => (by have := (HV.out.2 e).1; exact absurd this (by decide))) (by decide) (row_lt Q1.out.box) ?_)
  intro v2 w2 ho hg _
  have P2 := hide (Q1.out.next (leB_length s 2) (by simpa [leB_length] using ho) hg)
  obtain ⟨bo, bc, rfl, -⟩ := own_at P2.out.own
  clear ho hg HV OW Q1
  rw [show ([4] ++ leB i 4 ++ leB s 2 : List Int).length = 7 by simp [leB_length]]
  obtain ⟨c0, c1, c2, c3, c4⟩ := box5 P2.out.box
  have ho : [4] ++ leB i 4 ++ leB s 2 = (Rc.mk 4 i s u c).out := by first | rfl | (rw [out4 rfl]; simp)
  have PZ := P2.out
  rw [ho] at PZ
  have HZ := hide PZ
  clear PZ P2 ho
  go_wp2
  go_ret
  refine ⟨_, rfl, ?_, HZ.out.gr⟩
  have := own_from HZ.out.own (Nat.le_succ w.heap.size)
  rw [HM.out] at this
  exact this
set_option maxHeartbeats 4000000 in
theorem bytes_5 (i s u c : Int) (hm : (Rc.mk 5 i s u c).May) (hi : i < 4294967296 ∧ 0 ≤ i) (w : World) : Calls Tryz.prog 27 #[rcV ⟨5, i, s, u, c⟩] w fun e w' => ∃ v, e = .returned v ∧ w'.ownsRow w.heap.size 5 1 v (sz 5) ((Rc.mk 5 i s u c).out.map (Value.int .u8)) ∧ w.grownBy w' none := by
  have hol := out_length hm
  have hx : 0 ≤ i ∧ i < 4294967296 ∧ 0 ≤ s ∧ s < 65536 ∧ 0 ≤ u ∧ u < 18446744073709551616 ∧ 0 ≤ c ∧ c < 18446744073709551616 := by unfold Rc.May mxC at hm; dsimp only at hm; omega
  have H := hide hx
  have W0 : IntKind.u64.wrap i = i := by rw [IntKind.wrap_u64]; omega
  have W1 : IntKind.u64.wrap s = s := by rw [IntKind.wrap_u64]; omega
  have W2 : IntKind.u64.wrap u = u := by rw [IntKind.wrap_u64]; omega
  have W3 : IntKind.u64.wrap c = c := by rw [IntKind.wrap_u64]; omega
  have HM := hide hol
  have P := hide (BhS.begin w ⟨5, i, s, u, c⟩ 5)
  obtain ⟨c0, c1, c2, c3, c4⟩ := box5 (heap_alloc_new w (.cells [Value.int .i64 5, .int .u32 i, .int .i64 s, .int .i64 u, .int .i64 c].toArray 47))
  obtain ⟨d0, d1, d2, d3, d4⟩ := box5 P.out.box
  clear hm hi hx hol
  unfold rcV
  unfold rcC at P d0 d1 d2 d3 d4
  dsimp only at *
  go_enter Tryz.func27, Tryz.ntmps27
  go_wp2_with fail
  clear c0 c1 c2 c3 c4 d0 d1 d2 d3 d4
  generalize (w.alloc (.cells #[.int .i64 5, .int .u32 i, .int .i64 s, .int .i64 u, .int .i64 c] 47)).alloc (.cells #[.int .u8 5] 5) = w0 at *
  refine (refnum_any c 8 8 w0 rfl (by omega) H.out.2.2.2.2.2.2.1 H.out.2.2.2.2.2.2.2).mono ?_
  rintro e x0 ⟨y0, rfl, hv, hg⟩
  have Q0 := hide (P.out.grown hg)
  obtain ⟨vo, vc, rfl, q1, q2, q3, q4, q5, q6⟩ := own_at hv
  have HV := hide (And.intro q4 q5)
  clear hg P hv q1 q2 q3 q4 q5 q6
  have ow := Q0.out.own
  rw [show ([5] : List Int).length = 1 by simp] at ow
  have OW := hide ow
  clear ow
  go_wp2_with (at_builtin; refine wpList_append_lie rfl (.tmp 11) (.tmp 15) rfl (w.heap.size + 1) (.slice (some ⟨w.heap.size + 1, 0, none⟩) 1 1) 1 _ rfl OW.out vo 8 vc (leB c 8) rfl (leB_length _ _) HV.out.1 (fun e => (by have := (HV.out.2 e).1; exact absurd this (by decide))) (by decide) (row_lt Q0.out.box) ?_)
  intro v1 w1 ho hg _
  have P1 := hide (Q0.out.next (leB_length c 8) (by simpa [leB_length] using ho) hg)
  obtain ⟨bo, bc, rfl, -⟩ := own_at P1.out.own
  clear ho hg HV OW Q0
  rw [show ([5] ++ leB c 8 : List Int).length = 9 by simp [leB_length]]
  obtain ⟨c0, c1, c2, c3, c4⟩ := box5 P1.out.box
  have ho : [5] ++ leB c 8 = (Rc.mk 5 i s u c).out := by first | rfl | (rw [out5 rfl]; simp)
  have PZ := P1.out
  rw [ho] at PZ
  have HZ := hide PZ
  clear PZ P1 ho
  go_wp2
  go_ret
  refine ⟨_, rfl, ?_, HZ.out.gr⟩
  have := own_from HZ.out.own (Nat.le_succ w.heap.size)
  rw [HM.out] at this
  exact this
end Go.Proofs.YtinkkocleognbaaGreatDoor.Bh
/- The document's records out of bytes: holds. -/
namespace Go.Proofs.YtinkkocleognbaaGreatDoor.Bh
open Go.RowKit Go.Proofs.YtinkkocleognbaaGreatDoor.Oc Go.Proofs.YtinkkocleognbaaGreatDoor.Rk
attribute [local go_sem ↓] Go.wp_at_zero Go.wp_at_succ
/-- Inside the document's Get: the answer's box, the record's box. -/
structure GrS (w wr : World) (Y : Nat) (r : Rc) : Prop where
  g : GtS w wr
  rc : wr.heap[Y]? = some (.cells (rcC r).toArray 47 (0, 0))
  lo : w.heap.size < Y
theorem GrS.set {w wr : World} {Y : Nat} {r r' : Rc} (h : GrS w wr Y r) (j : Nat) (v : Value) (hr : (rcC r).set j v = rcC r') : GrS w (wr.setCell ⟨Y, j, none⟩ v) Y r' := by
  have hg := grown_setCell wr Y j v
  refine ⟨⟨(hg.block _ (row_lt h.g.ans) (by have := h.lo; simp; omega)).trans h.g.ans, grown_then h.g.gr hg (fun j e => by cases e; exact Or.inl (Nat.le_of_lt h.lo))⟩, ?_, h.lo⟩
  have := row_setCell h.rc j v
  rw [hr] at this
  exact this
theorem GrS.grown {w wr wr' : World} {Y : Nat} {r : Rc} (h : GrS w wr Y r) (hg : wr.grownBy wr' none) : GrS w wr' Y r := ⟨h.g.grown hg, (hg.block _ (row_lt h.rc) (by simp)).trans h.rc, h.lo⟩
theorem GrS.begin {w wr : World} (h : GtS w wr) (r : Rc) : GrS w (wr.alloc (.cells (rcC r).toArray 47)) wr.heap.size r :=
  ⟨h.grown (World.grownBy_alloc wr _ none), heap_alloc_new wr _, row_lt h.ans⟩
theorem GrS.world {w wr : World} {Y : Nat} {r : Rc} (h : GrS w wr Y r) : w.grownBy wr none := h.g.gr

set_option maxRecDepth 20000 in
set_option maxHeartbeats 8000000 in
theorem getref_1 (xs : List Int) (hB : Byt xs) (hk : xs.headD 0 = 1) (a : Addr) (n cap : Nat) (w : World) (hn : xs.length = n) (hat : At w (some a) xs) (hc : n ≤ cap) (h0 : n ≠ 0) :
    Calls Tryz.prog 60 #[.slice (some a) n cap] w fun r w' => r = .returned (.tuple #[rcV (getR xs).1, .int .i64 (getR xs).2]) ∧ w.grownBy w' none := by
  have hcell : w.cell? a = some (.int .u8 1) := by
    cases hxs : xs with
    | nil => rw [hxs] at hn; simp at hn; omega
    | cons x r =>
      rw [hxs] at hat hk
      obtain ⟨a', ha, hc⟩ := hat 0 x rfl
      cases ha
      rw [show a.add 0 = a by unfold Addr.add; cases a; simp] at hc
      rw [hc, ← hk]; rfl
  have G0 := hide (GtS.begin w)
  have hcell1 := G0.out.gr.cell hcell (by simp)
  have hz1 : ((n : Int) == 0) = false := by simpa using h0
  have hz2 : decide ((n : Int) = 0) = false := by simpa using h0
  have hpos : (0 : Int) < (n : Int) := by omega
  have qz : ∀ w, Calls Tryz.prog 85 #[.int .i64 1] w fun e w' => e = .returned (.int .i64 15) ∧ w' = w := fun w => size_ref 1 w
  obtain ⟨res, hres⟩ : ∃ res, res = getR xs := ⟨_, rfl⟩
  rw [← hres]
  unfold getR at hres
  rw [hk, if_neg (by omega), if_neg (show ¬ sz 1 = 0 by decide), show sz 1 = 15 from rfl, hn] at hres
  have HX := hide (And.intro hB (And.intro hn (And.intro hat hres)))
  clear hB hat hcell h0
  by_cases hlt : n < 15
  · have hlt' : (n : Int) < 15 := by omega
    have HR : Hid (res = (zRc, 4)) := by have := HX.out.2.2.2; rw [if_pos hlt] at this; exact this
    clear hres hlt hn
    go_enter Tryz.func60, Tryz.ntmps60
    go_wp2_with fail
    generalize (w.alloc (.cells #[.int .i64 0, .int .u32 0, .int .i64 0, .int .i64 0, .int .i64 0] 47)) = w1 at *
    refine (qz w1).mono ?_
    rintro e wx ⟨rfl, hw⟩
    obtain rfl := hw.symm
    clear hw qz
    obtain ⟨u0, u1, u2, u3, u4⟩ := box5 G0.out.ans
    have s0 := free_row G0.out.ans 0
    have s1 := free_row G0.out.ans 1
    have s2 := free_row G0.out.ans 2
    have s3 := free_row G0.out.ans 3
    have s4 := free_row G0.out.ans 4
    go_wp2
    obtain ⟨eb, eg⟩ := set5 G0.out.ans (.int .i64 0) (.int .u32 0) (.int .i64 0) (.int .i64 0) (.int .i64 0)
    clear u0 u1 u2 u3 u4 s0 s1 s2 s3 s4
    obtain ⟨e0, e1, e2, e3, e4⟩ := box5 eb
    have EG := hide (grown_then G0.out.gr eg (fun j e => by cases e; exact Or.inl (Nat.le_refl _)))
    clear eb eg
    generalize ((((w1.setCell ⟨w.heap.size, 0, none⟩ (.int .i64 0)).setCell ⟨w.heap.size, 1, none⟩ (.int .u32 0)).setCell ⟨w.heap.size, 2, none⟩ (.int .i64 0)).setCell ⟨w.heap.size, 3, none⟩ (.int .i64 0)).setCell ⟨w.heap.size, 4, none⟩ (.int .i64 0) = w9 at *
    refine bodyPost_ret (v := .tuple #[.agg #[.int .i64 0, .int .u32 0, .int .i64 0, .int .i64 0, .int .i64 0], .int .i64 4]) ?_ rfl ?_
    · rw [results_cell_tmp rfl]; go_simp
    exact ⟨by rw [HR.out]; rfl, EG.out⟩
  · have hlt' : (15 : Int) ≤ (n : Int) := by omega
    have hrc : rcOf xs = ⟨1, leV ((xs.drop 1).take 4), leV ((xs.drop 5).take 2), i64of (leV ((xs.drop 7).take 8)), 0⟩ := by unfold rcOf; rw [hk]; rfl
    have HO := hide (rcOf_ok HX.out.1)
    rw [if_neg hlt] at hres
    rw [hrc] at hres HO
    have hcp : 15 ≤ cap := by omega
    have vi := val4 HX.out.1 1
    have li : ((xs.drop 1).take 4).length = 4 := by rw [List.length_take, List.length_drop, HX.out.2.1]; omega
    have Si : ∀ w, (Instr.slice 39 (.slice (some a) n cap) (some (.int .i64 1)) (some (.int .i64 5)) none).run Tryz.prog w = .ok (.slice (cutA (some a) 1 cap) 4 (cap - 1)) w := slice_lh (some a) n cap 1 5 (by decide) (by omega)
    have qi := fun w1 (h : w.grownBy w1 none) => value_any (cutA (some a) 1 cap) 4 (cap - 1) ((xs.drop 1).take 4) w1 li (((HX.out.2.2.1.kept h (fun _ _ e => by cases e)).cut 1 cap (by rw [HX.out.2.1]; omega)).take 4) ((HX.out.1.drop 1).take 4) (by decide)
    generalize leV ((xs.drop 1).take 4) = Vi at *
    generalize cutA (some a) 1 cap = Ai at *
    generalize cap - 1 = Ci at *
    have Wi : IntKind.u32.wrap Vi = Vi := by rw [IntKind.wrap_u32]; omega
    clear vi li
    have vs := val2 HX.out.1 5
    have ls : ((xs.drop 5).take 2).length = 2 := by rw [List.length_take, List.length_drop, HX.out.2.1]; omega
    have Ss : ∀ w, (Instr.slice 39 (.slice (some a) n cap) (some (.int .i64 5)) (some (.int .i64 7)) none).run Tryz.prog w = .ok (.slice (cutA (some a) 5 cap) 2 (cap - 5)) w := slice_lh (some a) n cap 5 7 (by decide) (by omega)
    have qs := fun w1 (h : w.grownBy w1 none) => value_any (cutA (some a) 5 cap) 2 (cap - 5) ((xs.drop 5).take 2) w1 ls (((HX.out.2.2.1.kept h (fun _ _ e => by cases e)).cut 5 cap (by rw [HX.out.2.1]; omega)).take 2) ((HX.out.1.drop 5).take 2) (by decide)
    generalize leV ((xs.drop 5).take 2) = Vs at *
    generalize cutA (some a) 5 cap = As at *
    generalize cap - 5 = Cs at *
    have Ws : IntKind.i64.wrap Vs = Vs := by rw [IntKind.wrap_i64]; omega
    clear vs ls
    have vu := val8 HX.out.1 7
    have lu : ((xs.drop 7).take 8).length = 8 := by rw [List.length_take, List.length_drop, HX.out.2.1]; omega
    have Su : ∀ w, (Instr.slice 39 (.slice (some a) n cap) (some (.int .i64 7)) (some (.int .i64 15)) none).run Tryz.prog w = .ok (.slice (cutA (some a) 7 cap) 8 (cap - 7)) w := slice_lh (some a) n cap 7 15 (by decide) (by omega)
    have qu := fun w1 (h : w.grownBy w1 none) => value_any (cutA (some a) 7 cap) 8 (cap - 7) ((xs.drop 7).take 8) w1 lu (((HX.out.2.2.1.kept h (fun _ _ e => by cases e)).cut 7 cap (by rw [HX.out.2.1]; omega)).take 8) ((HX.out.1.drop 7).take 8) (by decide)
    generalize leV ((xs.drop 7).take 8) = Vu at *
    generalize cutA (some a) 7 cap = Au at *
    generalize cap - 7 = Cu at *
    have Wu : IntKind.i64.wrap Vu = i64of Vu := i64_wrap vu.1 vu.2
    generalize i64of Vu = Uu at *
    clear vu lu
    have HLT := hide hlt
    clear hrc hlt hcp
    clear HX
    have qm := rmay_any ⟨1, Vi, Vs, Uu, 0⟩ HO.out
    unfold rcV at qm
    dsimp only at qm
    by_cases hmay : (Rc.mk 1 Vi Vs Uu 0).May
    · rw [decide_eq_true hmay] at qm
      rw [if_pos hmay] at hres
      clear hmay
      by_cases hgt : 15 < n
      · have hgt' : (15 : Int) < (n : Int) := by omega
        have HR : Hid (res = (zRc, 5)) := by rw [if_pos hgt] at hres; exact hres
        clear hres hgt hn
        go_enter Tryz.func60, Tryz.ntmps60
        go_wp2_with fail
        generalize (w.alloc (.cells #[.int .i64 0, .int .u32 0, .int .i64 0, .int .i64 0, .int .i64 0] 47)) = w1 at *
        refine (qz w1).mono ?_
        rintro e wx ⟨rfl, hw⟩
        obtain rfl := hw.symm
        clear hw qz
        have P0 := hide (GrS.begin G0.out ⟨1, 0, 0, 0, 0⟩)
        go_wp2_with fail
        unfold rcC at P0
        dsimp only at P0
        generalize w1.alloc (.cells #[.int .i64 1, .int .u32 0, .int .i64 0, .int .i64 0, .int .i64 0] 47) = m0 at *
        generalize w1.heap.size = Y at *
        refine (qi m0 P0.out.world).mono ?_
        rintro e wx ⟨rfl, hw⟩
        obtain rfl := hw.symm
        clear hw qi
        have P1 := hide (P0.out.set (r' := ⟨1, Vi, 0, 0, 0⟩) 1 (.int .u32 Vi) rfl)
        obtain ⟨x0, x1, x2, x3, x4⟩ := box5 P0.out.rc
        have z1 := free_row P0.out.rc 1
        obtain ⟨y0, y1, y2, y3, y4⟩ := box5 P1.out.rc
        go_wp2_with fail
        clear x0 x1 x2 x3 x4 z1 y0 y1 y2 y3 y4
        generalize m0.setCell ⟨Y, 1, none⟩ (.int .u32 Vi) = m1 at *
        clear P0
        refine (qs m1 P1.out.world).mono ?_
        rintro e wx ⟨rfl, hw⟩
        obtain rfl := hw.symm
        clear hw qs
        have P2 := hide (P1.out.set (r' := ⟨1, Vi, Vs, 0, 0⟩) 2 (.int .i64 Vs) rfl)
        obtain ⟨x0, x1, x2, x3, x4⟩ := box5 P1.out.rc
        have z2 := free_row P1.out.rc 2
        obtain ⟨y0, y1, y2, y3, y4⟩ := box5 P2.out.rc
        go_wp2_with fail
        clear x0 x1 x2 x3 x4 z2 y0 y1 y2 y3 y4
        generalize m1.setCell ⟨Y, 2, none⟩ (.int .i64 Vs) = m2 at *
        clear P1
        refine (qu m2 P2.out.world).mono ?_
        rintro e wx ⟨rfl, hw⟩
        obtain rfl := hw.symm
        clear hw qu
        have P3 := hide (P2.out.set (r' := ⟨1, Vi, Vs, Uu, 0⟩) 3 (.int .i64 Uu) rfl)
        obtain ⟨x0, x1, x2, x3, x4⟩ := box5 P2.out.rc
        have z3 := free_row P2.out.rc 3
        obtain ⟨y0, y1, y2, y3, y4⟩ := box5 P3.out.rc
        go_wp2_with fail
        clear x0 x1 x2 x3 x4 z3 y0 y1 y2 y3 y4
        generalize m2.setCell ⟨Y, 3, none⟩ (.int .i64 Uu) = m3 at *
        clear P2
        refine (qm m3).mono ?_
        rintro e wf ⟨rfl, hg⟩
        have PF := hide (P3.out.grown hg)
        obtain ⟨x0, x1, x2, x3, x4⟩ := box5 PF.out.rc
        clear hg qm P3
        obtain ⟨u0, u1, u2, u3, u4⟩ := box5 PF.out.g.ans
        have s0 := free_row PF.out.g.ans 0
        have s1 := free_row PF.out.g.ans 1
        have s2 := free_row PF.out.g.ans 2
        have s3 := free_row PF.out.g.ans 3
        have s4 := free_row PF.out.g.ans 4
        go_wp2
        obtain ⟨eb, eg⟩ := set5 PF.out.g.ans (.int .i64 0) (.int .u32 0) (.int .i64 0) (.int .i64 0) (.int .i64 0)
        clear u0 u1 u2 u3 u4 s0 s1 s2 s3 s4
        obtain ⟨e0, e1, e2, e3, e4⟩ := box5 eb
        have EG := hide (grown_then PF.out.g.gr eg (fun j e => by cases e; exact Or.inl (Nat.le_refl _)))
        clear eb eg
        generalize ((((wf.setCell ⟨w.heap.size, 0, none⟩ (.int .i64 0)).setCell ⟨w.heap.size, 1, none⟩ (.int .u32 0)).setCell ⟨w.heap.size, 2, none⟩ (.int .i64 0)).setCell ⟨w.heap.size, 3, none⟩ (.int .i64 0)).setCell ⟨w.heap.size, 4, none⟩ (.int .i64 0) = w9 at *
        refine bodyPost_ret (v := .tuple #[.agg #[.int .i64 0, .int .u32 0, .int .i64 0, .int .i64 0, .int .i64 0], .int .i64 5]) ?_ rfl ?_
        · rw [results_cell_tmp rfl]; go_simp
        exact ⟨by rw [HR.out]; rfl, EG.out⟩
      · have hgt' : (n : Int) ≤ 15 := by omega
        have HR : Hid (res = (⟨1, Vi, Vs, Uu, 0⟩, 0)) := by rw [if_neg hgt] at hres; exact hres
        clear hres hgt hn
        go_enter Tryz.func60, Tryz.ntmps60
        go_wp2_with fail
        generalize (w.alloc (.cells #[.int .i64 0, .int .u32 0, .int .i64 0, .int .i64 0, .int .i64 0] 47)) = w1 at *
        refine (qz w1).mono ?_
        rintro e wx ⟨rfl, hw⟩
        obtain rfl := hw.symm
        clear hw qz
        have P0 := hide (GrS.begin G0.out ⟨1, 0, 0, 0, 0⟩)
        go_wp2_with fail
        unfold rcC at P0
        dsimp only at P0
        generalize w1.alloc (.cells #[.int .i64 1, .int .u32 0, .int .i64 0, .int .i64 0, .int .i64 0] 47) = m0 at *
        generalize w1.heap.size = Y at *
        refine (qi m0 P0.out.world).mono ?_
        rintro e wx ⟨rfl, hw⟩
        obtain rfl := hw.symm
        clear hw qi
        have P1 := hide (P0.out.set (r' := ⟨1, Vi, 0, 0, 0⟩) 1 (.int .u32 Vi) rfl)
        obtain ⟨x0, x1, x2, x3, x4⟩ := box5 P0.out.rc
        have z1 := free_row P0.out.rc 1
        obtain ⟨y0, y1, y2, y3, y4⟩ := box5 P1.out.rc
        go_wp2_with fail
        clear x0 x1 x2 x3 x4 z1 y0 y1 y2 y3 y4
        generalize m0.setCell ⟨Y, 1, none⟩ (.int .u32 Vi) = m1 at *
        clear P0
        refine (qs m1 P1.out.world).mono ?_
        rintro e wx ⟨rfl, hw⟩
        obtain rfl := hw.symm
        clear hw qs
        have P2 := hide (P1.out.set (r' := ⟨1, Vi, Vs, 0, 0⟩) 2 (.int .i64 Vs) rfl)
        obtain ⟨x0, x1, x2, x3, x4⟩ := box5 P1.out.rc
        have z2 := free_row P1.out.rc 2
        obtain ⟨y0, y1, y2, y3, y4⟩ := box5 P2.out.rc
        go_wp2_with fail
        clear x0 x1 x2 x3 x4 z2 y0 y1 y2 y3 y4
        generalize m1.setCell ⟨Y, 2, none⟩ (.int .i64 Vs) = m2 at *
        clear P1
        refine (qu m2 P2.out.world).mono ?_
        rintro e wx ⟨rfl, hw⟩
        obtain rfl := hw.symm
        clear hw qu
        have P3 := hide (P2.out.set (r' := ⟨1, Vi, Vs, Uu, 0⟩) 3 (.int .i64 Uu) rfl)
        obtain ⟨x0, x1, x2, x3, x4⟩ := box5 P2.out.rc
        have z3 := free_row P2.out.rc 3
        obtain ⟨y0, y1, y2, y3, y4⟩ := box5 P3.out.rc
        go_wp2_with fail
        clear x0 x1 x2 x3 x4 z3 y0 y1 y2 y3 y4
        generalize m2.setCell ⟨Y, 3, none⟩ (.int .i64 Uu) = m3 at *
        clear P2
        refine (qm m3).mono ?_
        rintro e wf ⟨rfl, hg⟩
        have PF := hide (P3.out.grown hg)
        obtain ⟨x0, x1, x2, x3, x4⟩ := box5 PF.out.rc
        clear hg qm P3
        obtain ⟨u0, u1, u2, u3, u4⟩ := box5 PF.out.g.ans
        have s0 := free_row PF.out.g.ans 0
        have s1 := free_row PF.out.g.ans 1
        have s2 := free_row PF.out.g.ans 2
        have s3 := free_row PF.out.g.ans 3
        have s4 := free_row PF.out.g.ans 4
        go_wp2
        obtain ⟨eb, eg⟩ := set5 PF.out.g.ans (.int .i64 1) (.int .u32 Vi) (.int .i64 Vs) (.int .i64 Uu) (.int .i64 0)
        clear u0 u1 u2 u3 u4 s0 s1 s2 s3 s4
        obtain ⟨e0, e1, e2, e3, e4⟩ := box5 eb
        have EG := hide (grown_then PF.out.g.gr eg (fun j e => by cases e; exact Or.inl (Nat.le_refl _)))
        clear eb eg
        generalize ((((wf.setCell ⟨w.heap.size, 0, none⟩ (.int .i64 1)).setCell ⟨w.heap.size, 1, none⟩ (.int .u32 Vi)).setCell ⟨w.heap.size, 2, none⟩ (.int .i64 Vs)).setCell ⟨w.heap.size, 3, none⟩ (.int .i64 Uu)).setCell ⟨w.heap.size, 4, none⟩ (.int .i64 0) = w9 at *
        refine bodyPost_ret (v := .tuple #[.agg #[.int .i64 1, .int .u32 Vi, .int .i64 Vs, .int .i64 Uu, .int .i64 0], .int .i64 0]) ?_ rfl ?_
        · rw [results_cell_tmp rfl]; go_simp
        exact ⟨by rw [HR.out]; rfl, EG.out⟩
    · rw [decide_eq_false hmay] at qm
      rw [if_neg hmay] at hres
      have HR : Hid (res = (zRc, 160)) := hres
      clear hmay hres hn
      go_enter Tryz.func60, Tryz.ntmps60
      go_wp2_with fail
      generalize (w.alloc (.cells #[.int .i64 0, .int .u32 0, .int .i64 0, .int .i64 0, .int .i64 0] 47)) = w1 at *
      refine (qz w1).mono ?_
      rintro e wx ⟨rfl, hw⟩
      obtain rfl := hw.symm
      clear hw qz
      have P0 := hide (GrS.begin G0.out ⟨1, 0, 0, 0, 0⟩)
      go_wp2_with fail
      unfold rcC at P0
      dsimp only at P0
      generalize w1.alloc (.cells #[.int .i64 1, .int .u32 0, .int .i64 0, .int .i64 0, .int .i64 0] 47) = m0 at *
      generalize w1.heap.size = Y at *
      refine (qi m0 P0.out.world).mono ?_
      rintro e wx ⟨rfl, hw⟩
      obtain rfl := hw.symm
      clear hw qi
      have P1 := hide (P0.out.set (r' := ⟨1, Vi, 0, 0, 0⟩) 1 (.int .u32 Vi) rfl)
      obtain ⟨x0, x1, x2, x3, x4⟩ := box5 P0.out.rc
      have z1 := free_row P0.out.rc 1
      obtain ⟨y0, y1, y2, y3, y4⟩ := box5 P1.out.rc
      go_wp2_with fail
      clear x0 x1 x2 x3 x4 z1 y0 y1 y2 y3 y4
      generalize m0.setCell ⟨Y, 1, none⟩ (.int .u32 Vi) = m1 at *
      clear P0
      refine (qs m1 P1.out.world).mono ?_
      rintro e wx ⟨rfl, hw⟩
      obtain rfl := hw.symm
      clear hw qs
      have P2 := hide (P1.out.set (r' := ⟨1, Vi, Vs, 0, 0⟩) 2 (.int .i64 Vs) rfl)
      obtain ⟨x0, x1, x2, x3, x4⟩ := box5 P1.out.rc
      have z2 := free_row P1.out.rc 2
      obtain ⟨y0, y1, y2, y3, y4⟩ := box5 P2.out.rc
      go_wp2_with fail
      clear x0 x1 x2 x3 x4 z2 y0 y1 y2 y3 y4
      generalize m1.setCell ⟨Y, 2, none⟩ (.int .i64 Vs) = m2 at *
      clear P1
      refine (qu m2 P2.out.world).mono ?_
      rintro e wx ⟨rfl, hw⟩
      obtain rfl := hw.symm
      clear hw qu
      have P3 := hide (P2.out.set (r' := ⟨1, Vi, Vs, Uu, 0⟩) 3 (.int .i64 Uu) rfl)
      obtain ⟨x0, x1, x2, x3, x4⟩ := box5 P2.out.rc
      have z3 := free_row P2.out.rc 3
      obtain ⟨y0, y1, y2, y3, y4⟩ := box5 P3.out.rc
      go_wp2_with fail
      clear x0 x1 x2 x3 x4 z3 y0 y1 y2 y3 y4
      generalize m2.setCell ⟨Y, 3, none⟩ (.int .i64 Uu) = m3 at *
      clear P2
      refine (qm m3).mono ?_
      rintro e wf ⟨rfl, hg⟩
      have PF := hide (P3.out.grown hg)
      obtain ⟨x0, x1, x2, x3, x4⟩ := box5 PF.out.rc
      clear hg qm P3
      obtain ⟨u0, u1, u2, u3, u4⟩ := box5 PF.out.g.ans
      have s0 := free_row PF.out.g.ans 0
      have s1 := free_row PF.out.g.ans 1
      have s2 := free_row PF.out.g.ans 2
      have s3 := free_row PF.out.g.ans 3
      have s4 := free_row PF.out.g.ans 4
      go_wp2
      obtain ⟨eb, eg⟩ := set5 PF.out.g.ans (.int .i64 0) (.int .u32 0) (.int .i64 0) (.int .i64 0) (.int .i64 0)
      clear u0 u1 u2 u3 u4 s0 s1 s2 s3 s4
      obtain ⟨e0, e1, e2, e3, e4⟩ := box5 eb
      have EG := hide (grown_then PF.out.g.gr eg (fun j e => by cases e; exact Or.inl (Nat.le_refl _)))
      clear eb eg
      generalize ((((wf.setCell ⟨w.heap.size, 0, none⟩ (.int .i64 0)).setCell ⟨w.heap.size, 1, none⟩ (.int .u32 0)).setCell ⟨w.heap.size, 2, none⟩ (.int .i64 0)).setCell ⟨w.heap.size, 3, none⟩ (.int .i64 0)).setCell ⟨w.heap.size, 4, none⟩ (.int .i64 0) = w9 at *
      refine bodyPost_ret (v := .tuple #[.agg #[.int .i64 0, .int .u32 0, .int .i64 0, .int .i64 0, .int .i64 0], .int .i64 160]) ?_ rfl ?_
      · rw [results_cell_tmp rfl]; go_simp
      exact ⟨by rw [HR.out]; rfl, EG.out⟩

end Go.Proofs.YtinkkocleognbaaGreatDoor.Bh
/- The document's records out of bytes: another kind. -/
namespace Go.Proofs.YtinkkocleognbaaGreatDoor.Bh
open Go.RowKit Go.Proofs.YtinkkocleognbaaGreatDoor.Oc Go.Proofs.YtinkkocleognbaaGreatDoor.Rk
attribute [local go_sem ↓] Go.wp_at_zero Go.wp_at_succ
set_option maxRecDepth 20000 in
set_option maxHeartbeats 8000000 in
theorem getref_2 (xs : List Int) (hB : Byt xs) (hk : xs.headD 0 = 2) (a : Addr) (n cap : Nat) (w : World) (hn : xs.length = n) (hat : At w (some a) xs) (hc : n ≤ cap) (h0 : n ≠ 0) :
    Calls Tryz.prog 60 #[.slice (some a) n cap] w fun r w' => r = .returned (.tuple #[rcV (getR xs).1, .int .i64 (getR xs).2]) ∧ w.grownBy w' none := by
  have hcell : w.cell? a = some (.int .u8 2) := by
    cases hxs : xs with
    | nil => rw [hxs] at hn; simp at hn; omega
    | cons x r =>
      rw [hxs] at hat hk
      obtain ⟨a', ha, hc⟩ := hat 0 x rfl
      cases ha
      rw [show a.add 0 = a by unfold Addr.add; cases a; simp] at hc
      rw [hc, ← hk]; rfl
  have G0 := hide (GtS.begin w)
  have hcell1 := G0.out.gr.cell hcell (by simp)
  have hz1 : ((n : Int) == 0) = false := by simpa using h0
  have hz2 : decide ((n : Int) = 0) = false := by simpa using h0
  have hpos : (0 : Int) < (n : Int) := by omega
  have qz : ∀ w, Calls Tryz.prog 85 #[.int .i64 2] w fun e w' => e = .returned (.int .i64 5) ∧ w' = w := fun w => size_ref 2 w
  obtain ⟨res, hres⟩ : ∃ res, res = getR xs := ⟨_, rfl⟩
  rw [← hres]
  unfold getR at hres
  rw [hk, if_neg (by omega), if_neg (show ¬ sz 2 = 0 by decide), show sz 2 = 5 from rfl, hn] at hres
  have HX := hide (And.intro hB (And.intro hn (And.intro hat hres)))
  clear hB hat hcell h0
  by_cases hlt : n < 5
  · have hlt' : (n : Int) < 5 := by omega
    have HR : Hid (res = (zRc, 4)) := by have := HX.out.2.2.2; rw [if_pos hlt] at this; exact this
    clear hres hlt hn
    go_enter Tryz.func60, Tryz.ntmps60
    go_wp2_with fail
    generalize (w.alloc (.cells #[.int .i64 0, .int .u32 0, .int .i64 0, .int .i64 0, .int .i64 0] 47)) = w1 at *
    refine (qz w1).mono ?_
    rintro e wx ⟨rfl, hw⟩
    obtain rfl := hw.symm
    clear hw qz
    obtain ⟨u0, u1, u2, u3, u4⟩ := box5 G0.out.ans
    have s0 := free_row G0.out.ans 0
    have s1 := free_row G0.out.ans 1
    have s2 := free_row G0.out.ans 2
    have s3 := free_row G0.out.ans 3
    have s4 := free_row G0.out.ans 4
    go_wp2
    obtain ⟨eb, eg⟩ := set5 G0.out.ans (.int .i64 0) (.int .u32 0) (.int .i64 0) (.int .i64 0) (.int .i64 0)
    clear u0 u1 u2 u3 u4 s0 s1 s2 s3 s4
    obtain ⟨e0, e1, e2, e3, e4⟩ := box5 eb
    have EG := hide (grown_then G0.out.gr eg (fun j e => by cases e; exact Or.inl (Nat.le_refl _)))
    clear eb eg
    generalize ((((w1.setCell ⟨w.heap.size, 0, none⟩ (.int .i64 0)).setCell ⟨w.heap.size, 1, none⟩ (.int .u32 0)).setCell ⟨w.heap.size, 2, none⟩ (.int .i64 0)).setCell ⟨w.heap.size, 3, none⟩ (.int .i64 0)).setCell ⟨w.heap.size, 4, none⟩ (.int .i64 0) = w9 at *
    refine bodyPost_ret (v := .tuple #[.agg #[.int .i64 0, .int .u32 0, .int .i64 0, .int .i64 0, .int .i64 0], .int .i64 4]) ?_ rfl ?_
    · rw [results_cell_tmp rfl]; go_simp
    exact ⟨by rw [HR.out]; rfl, EG.out⟩
  · have hlt' : (5 : Int) ≤ (n : Int) := by omega
    have hrc : rcOf xs = ⟨2, leV ((xs.drop 1).take 4), 0, 0, 0⟩ := by unfold rcOf; rw [hk]; rfl
    have HO := hide (rcOf_ok HX.out.1)
    rw [if_neg hlt] at hres
    rw [hrc] at hres HO
    have hcp : 5 ≤ cap := by omega
    have vi := val4 HX.out.1 1
    have li : ((xs.drop 1).take 4).length = 4 := by rw [List.length_take, List.length_drop, HX.out.2.1]; omega
    have Si : ∀ w, (Instr.slice 39 (.slice (some a) n cap) (some (.int .i64 1)) (some (.int .i64 5)) none).run Tryz.prog w = .ok (.slice (cutA (some a) 1 cap) 4 (cap - 1)) w := slice_lh (some a) n cap 1 5 (by decide) (by omega)
    have qi := fun w1 (h : w.grownBy w1 none) => value_any (cutA (some a) 1 cap) 4 (cap - 1) ((xs.drop 1).take 4) w1 li (((HX.out.2.2.1.kept h (fun _ _ e => by cases e)).cut 1 cap (by rw [HX.out.2.1]; omega)).take 4) ((HX.out.1.drop 1).take 4) (by decide)
    generalize leV ((xs.drop 1).take 4) = Vi at *
    generalize cutA (some a) 1 cap = Ai at *
    generalize cap - 1 = Ci at *
    have Wi : IntKind.u32.wrap Vi = Vi := by rw [IntKind.wrap_u32]; omega
    clear vi li
    have HLT := hide hlt
    clear hrc hlt hcp
    clear HX
    have qm := rmay_any ⟨2, Vi, 0, 0, 0⟩ HO.out
    unfold rcV at qm
    dsimp only at qm
    by_cases hmay : (Rc.mk 2 Vi 0 0 0).May
    · rw [decide_eq_true hmay] at qm
      rw [if_pos hmay] at hres
      clear hmay
      by_cases hgt : 5 < n
      · have hgt' : (5 : Int) < (n : Int) := by omega
        have HR : Hid (res = (zRc, 5)) := by rw [if_pos hgt] at hres; exact hres
        clear hres hgt hn
        go_enter Tryz.func60, Tryz.ntmps60
        go_wp2_with fail
        generalize (w.alloc (.cells #[.int .i64 0, .int .u32 0, .int .i64 0, .int .i64 0, .int .i64 0] 47)) = w1 at *
        refine (qz w1).mono ?_
        rintro e wx ⟨rfl, hw⟩
        obtain rfl := hw.symm
        clear hw qz
        have P0 := hide (GrS.begin G0.out ⟨2, 0, 0, 0, 0⟩)
        go_wp2_with fail
        unfold rcC at P0
        dsimp only at P0
        generalize w1.alloc (.cells #[.int .i64 2, .int .u32 0, .int .i64 0, .int .i64 0, .int .i64 0] 47) = m0 at *
        generalize w1.heap.size = Y at *
        refine (qi m0 P0.out.world).mono ?_
        rintro e wx ⟨rfl, hw⟩
        obtain rfl := hw.symm
        clear hw qi
        have P1 := hide (P0.out.set (r' := ⟨2, Vi, 0, 0, 0⟩) 1 (.int .u32 Vi) rfl)
        obtain ⟨x0, x1, x2, x3, x4⟩ := box5 P0.out.rc
        have z1 := free_row P0.out.rc 1
        obtain ⟨y0, y1, y2, y3, y4⟩ := box5 P1.out.rc
        go_wp2_with fail
        clear x0 x1 x2 x3 x4 z1 y0 y1 y2 y3 y4
        generalize m0.setCell ⟨Y, 1, none⟩ (.int .u32 Vi) = m1 at *
        clear P0
        refine (qm m1).mono ?_
        rintro e wf ⟨rfl, hg⟩
        have PF := hide (P1.out.grown hg)
        obtain ⟨x0, x1, x2, x3, x4⟩ := box5 PF.out.rc
        clear hg qm P1
        obtain ⟨u0, u1, u2, u3, u4⟩ := box5 PF.out.g.ans
        have s0 := free_row PF.out.g.ans 0
        have s1 := free_row PF.out.g.ans 1
        have s2 := free_row PF.out.g.ans 2
        have s3 := free_row PF.out.g.ans 3
        have s4 := free_row PF.out.g.ans 4
        go_wp2
        obtain ⟨eb, eg⟩ := set5 PF.out.g.ans (.int .i64 0) (.int .u32 0) (.int .i64 0) (.int .i64 0) (.int .i64 0)
        clear u0 u1 u2 u3 u4 s0 s1 s2 s3 s4
        obtain ⟨e0, e1, e2, e3, e4⟩ := box5 eb
        have EG := hide (grown_then PF.out.g.gr eg (fun j e => by cases e; exact Or.inl (Nat.le_refl _)))
        clear eb eg
        generalize ((((wf.setCell ⟨w.heap.size, 0, none⟩ (.int .i64 0)).setCell ⟨w.heap.size, 1, none⟩ (.int .u32 0)).setCell ⟨w.heap.size, 2, none⟩ (.int .i64 0)).setCell ⟨w.heap.size, 3, none⟩ (.int .i64 0)).setCell ⟨w.heap.size, 4, none⟩ (.int .i64 0) = w9 at *
        refine bodyPost_ret (v := .tuple #[.agg #[.int .i64 0, .int .u32 0, .int .i64 0, .int .i64 0, .int .i64 0], .int .i64 5]) ?_ rfl ?_
        · rw [results_cell_tmp rfl]; go_simp
        exact ⟨by rw [HR.out]; rfl, EG.out⟩
      · have hgt' : (n : Int) ≤ 5 := by omega
        have HR : Hid (res = (⟨2, Vi, 0, 0, 0⟩, 0)) := by rw [if_neg hgt] at hres; exact hres
        clear hres hgt hn
        go_enter Tryz.func60, Tryz.ntmps60
        go_wp2_with fail
        generalize (w.alloc (.cells #[.int .i64 0, .int .u32 0, .int .i64 0, .int .i64 0, .int .i64 0] 47)) = w1 at *
        refine (qz w1).mono ?_
        rintro e wx ⟨rfl, hw⟩
        obtain rfl := hw.symm
        clear hw qz
        have P0 := hide (GrS.begin G0.out ⟨2, 0, 0, 0, 0⟩)
        go_wp2_with fail
        unfold rcC at P0
        dsimp only at P0
        generalize w1.alloc (.cells #[.int .i64 2, .int .u32 0, .int .i64 0, .int .i64 0, .int .i64 0] 47) = m0 at *
        generalize w1.heap.size = Y at *
        refine (qi m0 P0.out.world).mono ?_
        rintro e wx ⟨rfl, hw⟩
        obtain rfl := hw.symm
        clear hw qi
        have P1 := hide (P0.out.set (r' := ⟨2, Vi, 0, 0, 0⟩) 1 (.int .u32 Vi) rfl)
        obtain ⟨x0, x1, x2, x3, x4⟩ := box5 P0.out.rc
        have z1 := free_row P0.out.rc 1
        obtain ⟨y0, y1, y2, y3, y4⟩ := box5 P1.out.rc
        go_wp2_with fail
        clear x0 x1 x2 x3 x4 z1 y0 y1 y2 y3 y4
        generalize m0.setCell ⟨Y, 1, none⟩ (.int .u32 Vi) = m1 at *
        clear P0
        refine (qm m1).mono ?_
        rintro e wf ⟨rfl, hg⟩
        have PF := hide (P1.out.grown hg)
        obtain ⟨x0, x1, x2, x3, x4⟩ := box5 PF.out.rc
        clear hg qm P1
        obtain ⟨u0, u1, u2, u3, u4⟩ := box5 PF.out.g.ans
        have s0 := free_row PF.out.g.ans 0
        have s1 := free_row PF.out.g.ans 1
        have s2 := free_row PF.out.g.ans 2
        have s3 := free_row PF.out.g.ans 3
        have s4 := free_row PF.out.g.ans 4
        go_wp2
        obtain ⟨eb, eg⟩ := set5 PF.out.g.ans (.int .i64 2) (.int .u32 Vi) (.int .i64 0) (.int .i64 0) (.int .i64 0)
        clear u0 u1 u2 u3 u4 s0 s1 s2 s3 s4
        obtain ⟨e0, e1, e2, e3, e4⟩ := box5 eb
        have EG := hide (grown_then PF.out.g.gr eg (fun j e => by cases e; exact Or.inl (Nat.le_refl _)))
        clear eb eg
        generalize ((((wf.setCell ⟨w.heap.size, 0, none⟩ (.int .i64 2)).setCell ⟨w.heap.size, 1, none⟩ (.int .u32 Vi)).setCell ⟨w.heap.size, 2, none⟩ (.int .i64 0)).setCell ⟨w.heap.size, 3, none⟩ (.int .i64 0)).setCell ⟨w.heap.size, 4, none⟩ (.int .i64 0) = w9 at *
        refine bodyPost_ret (v := .tuple #[.agg #[.int .i64 2, .int .u32 Vi, .int .i64 0, .int .i64 0, .int .i64 0], .int .i64 0]) ?_ rfl ?_
        · rw [results_cell_tmp rfl]; go_simp
        exact ⟨by rw [HR.out]; rfl, EG.out⟩
    · rw [decide_eq_false hmay] at qm
      rw [if_neg hmay] at hres
      have HR : Hid (res = (zRc, 160)) := hres
      clear hmay hres hn
      go_enter Tryz.func60, Tryz.ntmps60
      go_wp2_with fail
      generalize (w.alloc (.cells #[.int .i64 0, .int .u32 0, .int .i64 0, .int .i64 0, .int .i64 0] 47)) = w1 at *
      refine (qz w1).mono ?_
      rintro e wx ⟨rfl, hw⟩
      obtain rfl := hw.symm
      clear hw qz
      have P0 := hide (GrS.begin G0.out ⟨2, 0, 0, 0, 0⟩)
      go_wp2_with fail
      unfold rcC at P0
      dsimp only at P0
      generalize w1.alloc (.cells #[.int .i64 2, .int .u32 0, .int .i64 0, .int .i64 0, .int .i64 0] 47) = m0 at *
      generalize w1.heap.size = Y at *
      refine (qi m0 P0.out.world).mono ?_
      rintro e wx ⟨rfl, hw⟩
      obtain rfl := hw.symm
      clear hw qi
      have P1 := hide (P0.out.set (r' := ⟨2, Vi, 0, 0, 0⟩) 1 (.int .u32 Vi) rfl)
      obtain ⟨x0, x1, x2, x3, x4⟩ := box5 P0.out.rc
      have z1 := free_row P0.out.rc 1
      obtain ⟨y0, y1, y2, y3, y4⟩ := box5 P1.out.rc
      go_wp2_with fail
      clear x0 x1 x2 x3 x4 z1 y0 y1 y2 y3 y4
      generalize m0.setCell ⟨Y, 1, none⟩ (.int .u32 Vi) = m1 at *
      clear P0
      refine (qm m1).mono ?_
      rintro e wf ⟨rfl, hg⟩
      have PF := hide (P1.out.grown hg)
      obtain ⟨x0, x1, x2, x3, x4⟩ := box5 PF.out.rc
      clear hg qm P1
      obtain ⟨u0, u1, u2, u3, u4⟩ := box5 PF.out.g.ans
      have s0 := free_row PF.out.g.ans 0
      have s1 := free_row PF.out.g.ans 1
      have s2 := free_row PF.out.g.ans 2
      have s3 := free_row PF.out.g.ans 3
      have s4 := free_row PF.out.g.ans 4
      go_wp2
      obtain ⟨eb, eg⟩ := set5 PF.out.g.ans (.int .i64 0) (.int .u32 0) (.int .i64 0) (.int .i64 0) (.int .i64 0)
      clear u0 u1 u2 u3 u4 s0 s1 s2 s3 s4
      obtain ⟨e0, e1, e2, e3, e4⟩ := box5 eb
      have EG := hide (grown_then PF.out.g.gr eg (fun j e => by cases e; exact Or.inl (Nat.le_refl _)))
      clear eb eg
      generalize ((((wf.setCell ⟨w.heap.size, 0, none⟩ (.int .i64 0)).setCell ⟨w.heap.size, 1, none⟩ (.int .u32 0)).setCell ⟨w.heap.size, 2, none⟩ (.int .i64 0)).setCell ⟨w.heap.size, 3, none⟩ (.int .i64 0)).setCell ⟨w.heap.size, 4, none⟩ (.int .i64 0) = w9 at *
      refine bodyPost_ret (v := .tuple #[.agg #[.int .i64 0, .int .u32 0, .int .i64 0, .int .i64 0, .int .i64 0], .int .i64 160]) ?_ rfl ?_
      · rw [results_cell_tmp rfl]; go_simp
      exact ⟨by rw [HR.out]; rfl, EG.out⟩

end Go.Proofs.YtinkkocleognbaaGreatDoor.Bh
