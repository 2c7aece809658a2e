/- The document's replies: Put, number. -/
import Derived.Test.YtoflohjlmagjpaaDoorYq
namespace Go.Proofs.YtoflohjlmagjpaaDoor
open Go.RowKit
attribute [local go_sem ↓] Go.wp_at_zero Go.wp_at_succ
/-- Inside the document's Put: the reply's box, which fields, the bytes so far. -/
structure RpS (w wr : World) (q : Ry) (F : Nat) (bI bS bU bC : Bool) (v : Value) (bs : List Int) : Prop where
  box : wr.heap[w.heap.size]? = some (.cells [Value.int .u32 q.t, .int .i64 q.k, .int .i64 q.e, .int .u32 q.i, .int .i64 q.s, .int .i64 q.u, .int .i64 q.c].toArray 26 (0, 0))
  fbox : wr.heap[F]? = some (.cells [.bool bI, .bool bS, .bool bU, .bool bC].toArray 54 (0, 0))
  f1 : w.heap.size < F
  own : wr.ownsRow (F + 1) 5 1 v bs.length (bs.map (Value.int .u8))
  gr : w.grownBy wr none
theorem RpS.next {w wr wr' : World} {q : Ry} {F : Nat} {bI bS bU bC : Bool} {v v' : Value} {bs bs' : List Int} (h : RpS w wr q F bI bS bU bC v bs) (ho : wr'.ownsRow (F + 1) 5 1 v' bs'.length (bs'.map (Value.int .u8))) (hk : ∀ {k : Nat} {ob : Obj}, k < F + 1 → wr.heap[k]? = some ob → wr'.heap[k]? = some ob) (hg : ∀ {b : World}, b.heap.size ≤ F + 1 → b.grownBy wr none → b.grownBy wr' none) : RpS w wr' q F bI bS bU bC v' bs' :=
  ⟨hk (by have := h.f1; omega) h.box, hk (by omega) h.fbox, h.f1, ho, hg (by have := h.f1; omega) h.gr⟩
theorem own_lower {w : World} {b b' n : Nat} {v : Value} {xs : List Value} (h : w.ownsRow b 5 1 v n xs) (hb : b' ≤ b) : w.ownsRow b' 5 1 v n xs := ⟨h.1, h.2.elim Or.inl (fun ⟨g, cap, cur, a, b0, c⟩ => Or.inr ⟨g, cap, cur, a, Nat.le_trans hb b0, c⟩)⟩
/-- What the document's Put answers. -/
def RPutP (q : Ry) (w w' : World) (v : Value) : Prop := (q.May ∧ w'.ownsRow w.heap.size 5 1 v (sz q.k q.e) (q.out.map (Value.int .u8))) ∨ (¬ q.May ∧ v = .slice none 0 0)
theorem put_steps (q : Ry) : ((([] ++ leB q.t 4) ++ leB q.k 1) ++ leB q.e 2) ++ q.tail = q.out ↔ leB q.k 1 = [q.k] := by
  unfold Ry.tail Ry.out
  constructor
  · intro h
    simp only [List.nil_append, List.append_assoc, List.append_cancel_left_eq] at h
    have h2 : leB q.k 1 = [q.k % 256] := by simp [leB]
    rw [h2] at h
    simp at h
    rw [h2, h]
  · intro h
    rw [h]
    simp
theorem leB_one {n : Int} (h0 : 0 ≤ n) (h1 : n < 256) : leB n 1 = [n] := by simp [leB]; omega
set_option maxRecDepth 20000 in
set_option maxHeartbeats 16000000 in
theorem rput_ry (q : Ry) (ho : q.Ok) (w : World) : Calls Tryd.prog 9 #[ryV q] w fun e w' => ∃ v, e = .returned (.tuple #[v, .int .i64 (chk q)]) ∧ RPutP q w w' v ∧ w.grownBy w' none := by
  have S0 := hide (CkS.begin w q)
  have qc := rcheck_any q ho (w.alloc (.cells #[.int .u32 q.t, .int .i64 q.k, .int .i64 q.e, .int .u32 q.i, .int .i64 q.s, .int .i64 q.u, .int .i64 q.c] 26))
  obtain ⟨c0, c1, c2, c3, c4, c5, c6⟩ := box7 S0.out.box
  by_cases hm : q.May
  case neg =>
    rw [show chk q = 210 from if_neg hm] at qc ⊢
    unfold ryV at qc ⊢
    have HM := hide hm
    clear hm ho
    go_enter Tryd.func9, Tryd.ntmps9
    go_wp2_with fail
    generalize w.alloc (.cells #[.int .u32 q.t, .int .i64 q.k, .int .i64 q.e, .int .u32 q.i, .int .i64 q.s, .int .i64 q.u, .int .i64 q.c] 26) = w1 at *
    refine qc.mono ?_
    clear qc
    rintro e w2 ⟨rfl, hg⟩
    have S1 := hide (S0.out.then hg)
    clear hg S0 c0 c1 c2 c3 c4 c5 c6
    go_wp2
    go_ret2
    exact ⟨_, rfl, Or.inr ⟨HM.out, rfl⟩, S1.out.gr⟩
  rw [show chk q = 0 from if_pos hm] at qc ⊢
  unfold ryV at qc ⊢
  have hN := may_nums ho hm
  have HM := hide (And.intro hm (And.intro ho hN))
  have Wt : IntKind.u64.wrap q.t = q.t := by rw [IntKind.wrap_u64]; have := ho.t0; have := ho.t1; omega
  have Wk : IntKind.u64.wrap q.k = q.k := by rw [IntKind.wrap_u64]; omega
  have We : IntKind.u64.wrap q.e = q.e := by rw [IntKind.wrap_u64]; omega
  have Wi : IntKind.u64.wrap q.i = q.i := by rw [IntKind.wrap_u64]; have := ho.i0; have := ho.i1; omega
  have Ws : IntKind.u64.wrap q.s = q.s := by rw [IntKind.wrap_u64]; omega
  have Wu : IntKind.u64.wrap q.u = q.u := by rw [IntKind.wrap_u64]; omega
  have Wc : IntKind.u64.wrap q.c = q.c := by rw [IntKind.wrap_u64]; omega
  have HN : Hid ((0 ≤ q.t ∧ q.t < 18446744073709551616) ∧ (0 ≤ q.k ∧ q.k < 18446744073709551616) ∧ (0 ≤ q.e ∧ q.e < 18446744073709551616) ∧ (0 ≤ q.i ∧ q.i < 18446744073709551616) ∧ (0 ≤ q.s ∧ q.s < 18446744073709551616) ∧ (0 ≤ q.u ∧ q.u < 18446744073709551616) ∧ (0 ≤ q.c ∧ q.c < 18446744073709551616)) := by
    have := ho.t0; have := ho.t1; have := ho.i0; have := ho.i1
    exact ⟨by omega, by omega, by omega, by omega, by omega, by omega, by omega⟩
  have HOut : Hid (((([] ++ leB q.t 4) ++ leB q.k 1) ++ leB q.e 2) ++ q.tail = q.out) := (put_steps q).2 (leB_one hN.1.1 (by omega))
  clear hm ho hN
  have qf := rfields_any q.k
  have HF := hide (fv_cases q.k 0)
  have HT : Hid (q.e = 0 → q.tail = ifB (hI q.k 0) (leB q.i 4) ++ (ifB (hS q.k 0) (leB q.s 2) ++ (ifB (hU q.k 0) (leB q.u 8) ++ ifB (hC q.k 0) (leB q.c 2)))) := fun h => by unfold Ry.tail; rw [h]
  have HT2 : Hid (q.e ≠ 0 → q.tail = []) := fun h => by
    obtain ⟨a, b, c, d⟩ := has_e (k := q.k) h
    unfold Ry.tail
    rw [a, b, c, d]
    rfl
  generalize hI q.k 0 = bI at *
  generalize hS q.k 0 = bS at *
  generalize hU q.k 0 = bU at *
  generalize hC q.k 0 = bC at *
  generalize decide (1 ≤ q.k ∧ q.k ≤ 10) = ok at *
  go_enter Tryd.func9, Tryd.ntmps9
  go_wp2_with fail
  generalize w.alloc (.cells #[.int .u32 q.t, .int .i64 q.k, .int .i64 q.e, .int .u32 q.i, .int .i64 q.s, .int .i64 q.u, .int .i64 q.c] 26) = w1 at *
  refine qc.mono ?_
  clear qc
  rintro e w2 ⟨rfl, hg⟩
  have S1 := hide (S0.out.then hg)
  clear hg S0 c0 c1 c2 c3 c4 c5 c6
  obtain ⟨c0, c1, c2, c3, c4, c5, c6⟩ := box7 S1.out.box
  go_wp2_with fail
  refine (qf w2).mono ?_
  clear qf
  rintro e w3 ⟨rfl, hg⟩
  have S2 := hide (S1.out.then hg)
  clear hg S1 c0 c1 c2 c3 c4 c5 c6
  have g3 := World.grownBy_alloc w3 (.cells #[.bool bI, .bool bS, .bool bU, .bool bC] 54) none
  have P0 : Hid (RpS w (w3.alloc (.cells #[.bool bI, .bool bS, .bool bU, .bool bC] 54)) q w3.heap.size bI bS bU bC (.slice none 0 0) []) := ⟨box_new S2.out.box g3, heap_alloc_new w3 _, row_lt S2.out.box, World.ownsRow_nil _ _ 5 1, grown_trans S2.out.gr g3⟩
  have z0 : Hid (w3.heap.size + 1 ≤ (w3.alloc (.cells #[.bool bI, .bool bS, .bool bU, .bool bC] 54)).heap.size) := by rw [World.size_alloc]; exact Nat.le_refl _
  clear g3 S2
  obtain ⟨c0, c1, c2, c3, c4, c5, c6⟩ := box7 P0.out.box
  have qp := rput1_any (w3.heap.size + 1) (.slice none 0 0) [] q.t 4 4 _ rfl (by omega) HN.out.1.1 HN.out.1.2 P0.out.own z0.out (by simp)
  go_wp2_with fail
  generalize w3.alloc (.cells #[.bool bI, .bool bS, .bool bU, .bool bC] 54) = w4 at *
  generalize w3.heap.size = F at *
  refine qp.mono ?_
  clear qp c0 c1 c2 c3 c4 c5 c6
  rintro e w5 ⟨v5, rfl, hown, hk1, hz, hk3⟩
  have P1 := hide (P0.out.next hown @hk1 @hk3)
  have Z1 := hide hz
  clear hown hk1 hk3 hz P0 z0
  obtain ⟨c0, c1, c2, c3, c4, c5, c6⟩ := box7 P1.out.box
  have qp := rput1_any (F + 1) v5 ([] ++ leB q.t 4) q.k 1 1 w5 rfl (by omega) HN.out.2.1.1 HN.out.2.1.2 P1.out.own Z1.out (by simp [leB_length])
  go_wp2_with fail
  refine qp.mono ?_
  clear qp c0 c1 c2 c3 c4 c5 c6
  rintro e w6 ⟨v6, rfl, hown, hk1, hz, hk3⟩
  have P2 := hide (P1.out.next hown @hk1 @hk3)
  have Z2 := hide hz
  clear hown hk1 hk3 hz P1 Z1
  obtain ⟨c0, c1, c2, c3, c4, c5, c6⟩ := box7 P2.out.box
  have qp := rput1_any (F + 1) v6 (([] ++ leB q.t 4) ++ leB q.k 1) q.e 2 2 w6 rfl (by omega) HN.out.2.2.1.1 HN.out.2.2.1.2 P2.out.own Z2.out (by simp [leB_length])
  go_wp2_with fail
  refine qp.mono ?_
  clear qp c0 c1 c2 c3 c4 c5 c6
  rintro e w7 ⟨v7, rfl, hown, hk1, hz, hk3⟩
  have P3 := hide (P2.out.next hown @hk1 @hk3)
  have Z3 := hide hz
  clear hown hk1 hk3 hz P2 Z2
  obtain ⟨c0, c1, c2, c3, c4, c5, c6⟩ := box7 P3.out.box
  by_cases e0 : q.e = 0
  case neg =>
    have u4 : (q.e == 0) = false := by simpa using e0
    have u5 : (q.e != 0) = true := by simpa using e0
    have u6 : decide (q.e = 0) = false := by simpa using e0
    have hte := HT2.out e0
    clear e0 c0 c1 c2 c3 c4 c5 c6
    have hz : ((([] ++ leB q.t 4) ++ leB q.k 1) ++ leB q.e 2) = q.out := by have := HOut.out; rw [hte, List.append_nil] at this; exact this
    have PO := P3.out.own
    rw [hz, out_length q] at PO
    obtain ⟨az, cz, rfl, _⟩ := own_at PO
    have HZ : Hid (_ ∧ w.grownBy _ none) := And.intro (own_lower PO (show w.heap.size ≤ F + 1 by have := P3.out.f1; omega)) P3.out.gr
    clear PO hz
    obtain ⟨c0, c1, c2, c3, c4, c5, c6⟩ := box7 P3.out.box
    go_wp2
    go_ret2
    exact ⟨_, rfl, Or.inl ⟨HM.out.1, HZ.out.1⟩, HZ.out.2⟩
  have u4 : (q.e == 0) = true := by simpa using e0
  have u5 : (q.e != 0) = false := by simpa using e0
  have u6 : decide (q.e = 0) = true := by simpa using e0
  have HTE := hide (HT.out e0)
  clear e0 HT HT2 c0 c1 c2 c3 c4 c5 c6
  rcases HF.out with ⟨_, rfl, rfl, rfl, rfl⟩ | ⟨_, rfl, rfl, rfl, rfl⟩ | ⟨_, rfl, rfl, rfl, rfl⟩ | ⟨_, rfl, rfl, rfl, rfl⟩ | ⟨_, rfl, rfl, rfl, rfl⟩ | ⟨_, rfl, rfl, rfl, rfl⟩
  · obtain ⟨f0, f1, f2, f3⟩ : _ ∧ _ ∧ _ ∧ _ := ⟨cell_row P3.out.fbox 0, cell_row P3.out.fbox 1, cell_row P3.out.fbox 2, cell_row P3.out.fbox 3⟩
    have hz : ((([] ++ leB q.t 4) ++ leB q.k 1) ++ leB q.e 2) = q.out := by have := HOut.out; rw [HTE.out] at this; rw [← this]; simp [ifB]
    have PO := P3.out.own
    rw [hz, out_length q] at PO
    obtain ⟨az, cz, rfl, _⟩ := own_at PO
    have HZ : Hid (_ ∧ w.grownBy _ none) := And.intro (own_lower PO (show w.heap.size ≤ F + 1 by have := P3.out.f1; omega)) P3.out.gr
    clear PO hz
    obtain ⟨c0, c1, c2, c3, c4, c5, c6⟩ := box7 P3.out.box
    go_wp2
    go_ret2
    exact ⟨_, rfl, Or.inl ⟨HM.out.1, HZ.out.1⟩, HZ.out.2⟩
  · obtain ⟨f0, f1, f2, f3⟩ : _ ∧ _ ∧ _ ∧ _ := ⟨cell_row P3.out.fbox 0, cell_row P3.out.fbox 1, cell_row P3.out.fbox 2, cell_row P3.out.fbox 3⟩
    obtain ⟨x0, x1, x2, x3, x4, x5, x6⟩ := box7 P3.out.box
    obtain ⟨c0, c1, c2, c3, c4, c5, c6⟩ := box7 P3.out.box
    have qp := rput1_any (F + 1) v7 ((([] ++ leB q.t 4) ++ leB q.k 1) ++ leB q.e 2) q.i 4 4 w7 rfl (by omega) HN.out.2.2.2.1.1 HN.out.2.2.2.1.2 P3.out.own Z3.out (by simp [leB_length])
    go_wp2_with fail
    refine qp.mono ?_
    clear qp c0 c1 c2 c3 c4 c5 c6 f0 f1 f2 f3 x0 x1 x2 x3 x4 x5 x6
    rintro e wI ⟨vI, rfl, hown, hk1, hz, hk3⟩
    have PI := hide (P3.out.next hown @hk1 @hk3)
    have ZI := hide hz
    clear hown hk1 hk3 hz P3 Z3
    obtain ⟨f0, f1, f2, f3⟩ : _ ∧ _ ∧ _ ∧ _ := ⟨cell_row PI.out.fbox 0, cell_row PI.out.fbox 1, cell_row PI.out.fbox 2, cell_row PI.out.fbox 3⟩
    obtain ⟨x0, x1, x2, x3, x4, x5, x6⟩ := box7 PI.out.box
    obtain ⟨c0, c1, c2, c3, c4, c5, c6⟩ := box7 PI.out.box
    have qp := rput1_any (F + 1) vI (((([] ++ leB q.t 4) ++ leB q.k 1) ++ leB q.e 2) ++ leB q.i 4) q.u 8 8 wI rfl (by omega) HN.out.2.2.2.2.2.1.1 HN.out.2.2.2.2.2.1.2 PI.out.own ZI.out (by simp [leB_length])
    go_wp2_with fail
    refine qp.mono ?_
    clear qp c0 c1 c2 c3 c4 c5 c6 f0 f1 f2 f3 x0 x1 x2 x3 x4 x5 x6
    rintro e wU ⟨vU, rfl, hown, hk1, hz, hk3⟩
    have PU := hide (PI.out.next hown @hk1 @hk3)
    have ZU := hide hz
    clear hown hk1 hk3 hz PI ZI
    obtain ⟨f0, f1, f2, f3⟩ : _ ∧ _ ∧ _ ∧ _ := ⟨cell_row PU.out.fbox 0, cell_row PU.out.fbox 1, cell_row PU.out.fbox 2, cell_row PU.out.fbox 3⟩
    have hz : ((((([] ++ leB q.t 4) ++ leB q.k 1) ++ leB q.e 2) ++ leB q.i 4) ++ leB q.u 8) = q.out := by have := HOut.out; rw [HTE.out] at this; rw [← this]; simp [ifB]
    have PO := PU.out.own
    rw [hz, out_length q] at PO
    obtain ⟨az, cz, rfl, _⟩ := own_at PO
    have HZ : Hid (_ ∧ w.grownBy _ none) := And.intro (own_lower PO (show w.heap.size ≤ F + 1 by have := PU.out.f1; omega)) PU.out.gr
    clear PO hz
    obtain ⟨c0, c1, c2, c3, c4, c5, c6⟩ := box7 PU.out.box
    go_wp2
    go_ret2
    exact ⟨_, rfl, Or.inl ⟨HM.out.1, HZ.out.1⟩, HZ.out.2⟩
  · obtain ⟨f0, f1, f2, f3⟩ : _ ∧ _ ∧ _ ∧ _ := ⟨cell_row P3.out.fbox 0, cell_row P3.out.fbox 1, cell_row P3.out.fbox 2, cell_row P3.out.fbox 3⟩
    obtain ⟨x0, x1, x2, x3, x4, x5, x6⟩ := box7 P3.out.box
    obtain ⟨c0, c1, c2, c3, c4, c5, c6⟩ := box7 P3.out.box
    have qp := rput1_any (F + 1) v7 ((([] ++ leB q.t 4) ++ leB q.k 1) ++ leB q.e 2) q.s 2 2 w7 rfl (by omega) HN.out.2.2.2.2.1.1 HN.out.2.2.2.2.1.2 P3.out.own Z3.out (by simp [leB_length])
    go_wp2_with fail
    refine qp.mono ?_
    clear qp c0 c1 c2 c3 c4 c5 c6 f0 f1 f2 f3 x0 x1 x2 x3 x4 x5 x6
    rintro e wS ⟨vS, rfl, hown, hk1, hz, hk3⟩
    have PS := hide (P3.out.next hown @hk1 @hk3)
    have ZS := hide hz
    clear hown hk1 hk3 hz P3 Z3
    obtain ⟨f0, f1, f2, f3⟩ : _ ∧ _ ∧ _ ∧ _ := ⟨cell_row PS.out.fbox 0, cell_row PS.out.fbox 1, cell_row PS.out.fbox 2, cell_row PS.out.fbox 3⟩
    have hz : (((([] ++ leB q.t 4) ++ leB q.k 1) ++ leB q.e 2) ++ leB q.s 2) = q.out := by have := HOut.out; rw [HTE.out] at this; rw [← this]; simp [ifB]
    have PO := PS.out.own
    rw [hz, out_length q] at PO
    obtain ⟨az, cz, rfl, _⟩ := own_at PO
    have HZ : Hid (_ ∧ w.grownBy _ none) := And.intro (own_lower PO (show w.heap.size ≤ F + 1 by have := PS.out.f1; omega)) PS.out.gr
    clear PO hz
    obtain ⟨c0, c1, c2, c3, c4, c5, c6⟩ := box7 PS.out.box
    go_wp2
    go_ret2
    exact ⟨_, rfl, Or.inl ⟨HM.out.1, HZ.out.1⟩, HZ.out.2⟩
  · obtain ⟨f0, f1, f2, f3⟩ : _ ∧ _ ∧ _ ∧ _ := ⟨cell_row P3.out.fbox 0, cell_row P3.out.fbox 1, cell_row P3.out.fbox 2, cell_row P3.out.fbox 3⟩
    obtain ⟨x0, x1, x2, x3, x4, x5, x6⟩ := box7 P3.out.box
    obtain ⟨c0, c1, c2, c3, c4, c5, c6⟩ := box7 P3.out.box
    have qp := rput1_any (F + 1) v7 ((([] ++ leB q.t 4) ++ leB q.k 1) ++ leB q.e 2) q.s 2 2 w7 rfl (by omega) HN.out.2.2.2.2.1.1 HN.out.2.2.2.2.1.2 P3.out.own Z3.out (by simp [leB_length])
    go_wp2_with fail
    refine qp.mono ?_
    clear qp c0 c1 c2 c3 c4 c5 c6 f0 f1 f2 f3 x0 x1 x2 x3 x4 x5 x6
    rintro e wS ⟨vS, rfl, hown, hk1, hz, hk3⟩
    have PS := hide (P3.out.next hown @hk1 @hk3)
    have ZS := hide hz
    clear hown hk1 hk3 hz P3 Z3
    obtain ⟨f0, f1, f2, f3⟩ : _ ∧ _ ∧ _ ∧ _ := ⟨cell_row PS.out.fbox 0, cell_row PS.out.fbox 1, cell_row PS.out.fbox 2, cell_row PS.out.fbox 3⟩
    obtain ⟨x0, x1, x2, x3, x4, x5, x6⟩ := box7 PS.out.box
    obtain ⟨c0, c1, c2, c3, c4, c5, c6⟩ := box7 PS.out.box
    have qp := rput1_any (F + 1) vS (((([] ++ leB q.t 4) ++ leB q.k 1) ++ leB q.e 2) ++ leB q.s 2) q.u 8 8 wS rfl (by omega) HN.out.2.2.2.2.2.1.1 HN.out.2.2.2.2.2.1.2 PS.out.own ZS.out (by simp [leB_length])
    go_wp2_with fail
    refine qp.mono ?_
    clear qp c0 c1 c2 c3 c4 c5 c6 f0 f1 f2 f3 x0 x1 x2 x3 x4 x5 x6
    rintro e wU ⟨vU, rfl, hown, hk1, hz, hk3⟩
    have PU := hide (PS.out.next hown @hk1 @hk3)
    have ZU := hide hz
    clear hown hk1 hk3 hz PS ZS
    obtain ⟨f0, f1, f2, f3⟩ : _ ∧ _ ∧ _ ∧ _ := ⟨cell_row PU.out.fbox 0, cell_row PU.out.fbox 1, cell_row PU.out.fbox 2, cell_row PU.out.fbox 3⟩
    have hz : ((((([] ++ leB q.t 4) ++ leB q.k 1) ++ leB q.e 2) ++ leB q.s 2) ++ leB q.u 8) = q.out := by have := HOut.out; rw [HTE.out] at this; rw [← this]; simp [ifB]
    have PO := PU.out.own
    rw [hz, out_length q] at PO
    obtain ⟨az, cz, rfl, _⟩ := own_at PO
    have HZ : Hid (_ ∧ w.grownBy _ none) := And.intro (own_lower PO (show w.heap.size ≤ F + 1 by have := PU.out.f1; omega)) PU.out.gr
    clear PO hz
    obtain ⟨c0, c1, c2, c3, c4, c5, c6⟩ := box7 PU.out.box
    go_wp2
    go_ret2
    exact ⟨_, rfl, Or.inl ⟨HM.out.1, HZ.out.1⟩, HZ.out.2⟩
  · obtain ⟨f0, f1, f2, f3⟩ : _ ∧ _ ∧ _ ∧ _ := ⟨cell_row P3.out.fbox 0, cell_row P3.out.fbox 1, cell_row P3.out.fbox 2, cell_row P3.out.fbox 3⟩
    obtain ⟨x0, x1, x2, x3, x4, x5, x6⟩ := box7 P3.out.box
    obtain ⟨c0, c1, c2, c3, c4, c5, c6⟩ := box7 P3.out.box
    have qp := rput1_any (F + 1) v7 ((([] ++ leB q.t 4) ++ leB q.k 1) ++ leB q.e 2) q.u 8 8 w7 rfl (by omega) HN.out.2.2.2.2.2.1.1 HN.out.2.2.2.2.2.1.2 P3.out.own Z3.out (by simp [leB_length])
    go_wp2_with fail
    refine qp.mono ?_
    clear qp c0 c1 c2 c3 c4 c5 c6 f0 f1 f2 f3 x0 x1 x2 x3 x4 x5 x6
    rintro e wU ⟨vU, rfl, hown, hk1, hz, hk3⟩
    have PU := hide (P3.out.next hown @hk1 @hk3)
    have ZU := hide hz
    clear hown hk1 hk3 hz P3 Z3
    obtain ⟨f0, f1, f2, f3⟩ : _ ∧ _ ∧ _ ∧ _ := ⟨cell_row PU.out.fbox 0, cell_row PU.out.fbox 1, cell_row PU.out.fbox 2, cell_row PU.out.fbox 3⟩
    have hz : (((([] ++ leB q.t 4) ++ leB q.k 1) ++ leB q.e 2) ++ leB q.u 8) = q.out := by have := HOut.out; rw [HTE.out] at this; rw [← this]; simp [ifB]
    have PO := PU.out.own
    rw [hz, out_length q] at PO
    obtain ⟨az, cz, rfl, _⟩ := own_at PO
    have HZ : Hid (_ ∧ w.grownBy _ none) := And.intro (own_lower PO (show w.heap.size ≤ F + 1 by have := PU.out.f1; omega)) PU.out.gr
    clear PO hz
    obtain ⟨c0, c1, c2, c3, c4, c5, c6⟩ := box7 PU.out.box
    go_wp2
    go_ret2
    exact ⟨_, rfl, Or.inl ⟨HM.out.1, HZ.out.1⟩, HZ.out.2⟩
  · obtain ⟨f0, f1, f2, f3⟩ : _ ∧ _ ∧ _ ∧ _ := ⟨cell_row P3.out.fbox 0, cell_row P3.out.fbox 1, cell_row P3.out.fbox 2, cell_row P3.out.fbox 3⟩
    obtain ⟨x0, x1, x2, x3, x4, x5, x6⟩ := box7 P3.out.box
    obtain ⟨c0, c1, c2, c3, c4, c5, c6⟩ := box7 P3.out.box
    have qp := rput1_any (F + 1) v7 ((([] ++ leB q.t 4) ++ leB q.k 1) ++ leB q.e 2) q.c 2 2 w7 rfl (by omega) HN.out.2.2.2.2.2.2.1 HN.out.2.2.2.2.2.2.2 P3.out.own Z3.out (by simp [leB_length])
    go_wp2_with fail
    refine qp.mono ?_
    clear qp c0 c1 c2 c3 c4 c5 c6 f0 f1 f2 f3 x0 x1 x2 x3 x4 x5 x6
    rintro e wC ⟨vC, rfl, hown, hk1, hz, hk3⟩
    have PC := hide (P3.out.next hown @hk1 @hk3)
    have ZC := hide hz
    clear hown hk1 hk3 hz P3 Z3
    obtain ⟨f0, f1, f2, f3⟩ : _ ∧ _ ∧ _ ∧ _ := ⟨cell_row PC.out.fbox 0, cell_row PC.out.fbox 1, cell_row PC.out.fbox 2, cell_row PC.out.fbox 3⟩
    have hz : (((([] ++ leB q.t 4) ++ leB q.k 1) ++ leB q.e 2) ++ leB q.c 2) = q.out := by have := HOut.out; rw [HTE.out] at this; rw [← this]; simp [ifB]
    have PO := PC.out.own
    rw [hz, out_length q] at PO
    obtain ⟨az, cz, rfl, _⟩ := own_at PO
    have HZ : Hid (_ ∧ w.grownBy _ none) := And.intro (own_lower PO (show w.heap.size ≤ F + 1 by have := PC.out.f1; omega)) PC.out.gr
    clear PO hz
    obtain ⟨c0, c1, c2, c3, c4, c5, c6⟩ := box7 PC.out.box
    go_wp2
    go_ret2
    exact ⟨_, rfl, Or.inl ⟨HM.out.1, HZ.out.1⟩, HZ.out.2⟩
/-- The number of a row's bytes from a place on, the highest first. -/
def nb (xs : List Int) (a : Nat) : Nat → Int
  | 0 => 0
  | 1 => xs.getD a 0
  | m => leV ((xs.drop a).take m)
theorem take_drop_succ (xs : List Int) (a m : Nat) : leV ((xs.drop a).take (m + 1)) = xs.getD a 0 + 256 * leV ((xs.drop (a + 1)).take m) := by
  by_cases h : a < xs.length
  · have e : xs.drop a = xs.getD a 0 :: xs.drop (a + 1) := by
      rw [List.getD_eq_getElem?_getD, List.getElem?_eq_getElem h, Option.getD_some]
      exact List.drop_eq_getElem_cons h
    rw [e, List.take_succ_cons]
    rfl
  · rw [List.drop_eq_nil_of_le (by omega), List.drop_eq_nil_of_le (by omega), List.take_nil, List.take_nil, List.getD_eq_getElem?_getD, List.getElem?_eq_none (by omega)]
    rfl
theorem byt_getD {xs : List Int} (h : Byt xs) (a : Nat) : 0 ≤ xs.getD a 0 ∧ xs.getD a 0 < 256 := by
  by_cases hl : a < xs.length
  · rw [List.getD_eq_getElem?_getD, List.getElem?_eq_getElem hl, Option.getD_some]
    exact h _ (List.getElem_mem hl)
  · rw [List.getD_eq_getElem?_getD, List.getElem?_eq_none (by omega)]
    exact ⟨by decide, by decide⟩
theorem val_le {xs : List Int} (h : Byt xs) (a m : Nat) (hm : m ≤ 8) : 0 ≤ leV ((xs.drop a).take m) ∧ leV ((xs.drop a).take m) < 18446744073709551616 := by
  obtain ⟨p, q⟩ := leV_bound _ ((h.drop a).take m)
  refine ⟨p, Int.lt_of_lt_of_le q ?_⟩
  have : ((xs.drop a).take m).length ≤ 8 := by rw [List.length_take]; omega
  generalize ((xs.drop a).take m).length = l at *
  have h5 : l = 0 ∨ l = 1 ∨ l = 2 ∨ l = 3 ∨ l = 4 ∨ l = 5 ∨ l = 6 ∨ l = 7 ∨ l = 8 := by omega
  rcases h5 with rfl | rfl | rfl | rfl | rfl | rfl | rfl | rfl | rfl <;> decide
set_option maxHeartbeats 2000000 in
theorem rnumber_any (ao : Option Addr) (n cap : Nat) (xs : List Int) (a m : Nat) (A M : Int) (w : World) (hA : A = (a : Int)) (hM : M = (m : Int)) (hn : xs.length = n) (hat : At w ao xs) (hB : Byt xs) (ha : a ≤ 100) (hm : m ≤ 8) (hm1 : 1 ≤ m) (_hb : n ≤ 140737488355328) :
    Calls Tryd.prog 36 #[.slice ao n cap, .int .i64 A, .int .i64 M] w fun e w' => e = .returned (.int .u64 (leV ((xs.drop a).take m))) ∧ w' = w := by
  subst hA hM
  have HX := hide (And.intro hn (And.intro hat hB))
  have Wm : IntKind.i64.wrap ((m : Int) - 1) = (m : Int) - 1 := by rw [IntKind.wrap_i64]; omega
  obtain ⟨res, hres⟩ : ∃ r, r = leV ((xs.drop a).take m) := ⟨_, rfl⟩
  rw [← hres]
  have HR := hide hres
  clear hn hat hB hres
  go_enter Tryd.func36, Tryd.ntmps36
  go_wp2
  go_loopg [7, 8] m (fun k v i wr => ∃ j : Nat, k = j ∧ j ≤ m ∧ v = .int .u64 (leV ((xs.drop (a + j)).take (m - j))) ∧ i = .int .i64 ((j : Int) - 1) ∧ wr = w)
  case atStart => exact ⟨m, rfl, Nat.le_refl _, by rw [Nat.sub_self, List.take_zero]; rfl, rfl, rfl⟩
  case round =>
    obtain ⟨j, hgj, hjm, rfl, rfl, rfl⟩ := hrel
    have HGJ := hide hgj
    clear hgj
    by_cases hk : 0 < j
    · obtain ⟨i, rfl⟩ : ∃ i, j = i + 1 := ⟨j - 1, by omega⟩
      have hval := val_le HX.out.2.2 (a + (i + 1)) (m - (i + 1)) (by omega)
      have hval2 := val_le HX.out.2.2 (a + i) (m - i) (by omega)
      have hstep := take_drop_succ xs (a + i) (m - (i + 1))
      rw [show m - (i + 1) + 1 = m - i by omega, show a + i + 1 = a + (i + 1) by omega] at hstep
      have hg := byt_getD HX.out.2.2 (a + i)
      obtain ⟨V, hV⟩ : ∃ V, leV ((xs.drop (a + (i + 1))).take (m - (i + 1))) = V := ⟨_, rfl⟩
      obtain ⟨V2, hV2⟩ : ∃ V, leV ((xs.drop (a + i)).take (m - i)) = V := ⟨_, rfl⟩
      rw [hV] at hval hstep ⊢
      rw [hV2] at hval2 hstep
      obtain ⟨Y, hY⟩ : ∃ Y, V * 256 = Y := ⟨_, rfl⟩
      have W1 : IntKind.u64.wrap (V * 256) = Y := by rw [IntKind.wrap_u64]; omega
      have W2 : IntKind.i64.wrap ((a : Int) + (i : Int)) = (((a + i : Nat)) : Int) := by rw [IntKind.wrap_i64]; omega
      have e1 : ((i + 1 : Nat) : Int) - 1 = (i : Int) := by omega
      rw [e1]
      have W3 : IntKind.i64.wrap ((i : Int) - 1) = (i : Int) - 1 := by rw [IntKind.wrap_i64]; omega
      have hi0 : (0 : Int) ≤ (i : Int) := by omega
      obtain ⟨p, hp⟩ : ∃ p, p = a + i := ⟨_, rfl⟩
      rw [← hp] at W2 hstep hg
      by_cases hl : p < n
      · obtain ⟨ad, had, hc⟩ := HX.out.2.1 p (xs.getD p 0) (by rw [List.getD_eq_getElem?_getD, List.getElem?_eq_getElem (by rw [HX.out.1]; exact hl)]; rfl)
        subst had
        generalize xs.getD p 0 = x at *
        have W4 : IntKind.u64.wrap x = x := by rw [IntKind.wrap_u64]; omega
        have W5 : IntKind.u64.wrap (Y + x) = V2 := by rw [IntKind.wrap_u64]; omega
        have hl1 : (p : Int) < (n : Int) := by omega
        have hl0 : (0 : Int) ≤ (p : Int) := by omega
        have HV := hide (And.intro hV2 hjm)
        clear hV hV2 hval hval2 hstep hg hY hp e1 hjm hl
        go_wp2
        go_roundg i
        case measure => have := HGJ.out; omega
        case rel => exact ⟨i, rfl, by have := HV.out.2; omega, by rw [HV.out.1], rfl, rfl⟩
      · have hx0 : xs.getD p 0 = 0 := by rw [List.getD_eq_getElem?_getD, List.getElem?_eq_none (by rw [HX.out.1]; omega)]; rfl
        rw [hx0] at hstep
        have hY2 : Y = V2 := by omega
        have hl1 : decide ((p : Int) < (n : Int)) = false := decide_eq_false (by omega)
        have hl2 : (n : Int) ≤ (p : Int) := by omega
        have HV := hide (And.intro hV2 (And.intro hjm hY2))
        clear hV hV2 hval hval2 hstep hg hY hp e1 hjm hl hx0 hY2
        go_wp2
        go_roundg i
        case measure => have := HGJ.out; omega
        case rel => exact ⟨i, rfl, by have := HV.out.2.1; omega, by rw [HV.out.1, HV.out.2.2], rfl, rfl⟩
    · obtain rfl : j = 0 := by omega
      have hz : leV ((xs.drop (a + 0)).take (m - 0)) = res := by rw [HR.out]; rfl
      rw [hz]
      clear hz
      go_wp2
      go_ret
      exact ⟨rfl, rfl⟩
end Go.Proofs.YtoflohjlmagjpaaDoor
