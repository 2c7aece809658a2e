/- The walk of RecordsSpares. -/
import Derived.Test.YtghojalpdkiooaaDoorRw3
import Derived.Test.YtghojalpdkiooaaDoorKApart2
namespace Go.Proofs.YtghojalpdkiooaaDoor
open Go.RowKit
attribute [local go_sem ↓] Go.wp_at_zero Go.wp_at_succ
theorem PutP.own {r : Rc} {w w' : World} {v : Value} (h : PutP r w w' v) : w'.ownsRow w.heap.size 5 1 v (outM r).length ((outM r).map (Value.int .u8)) := by
  rcases h with ⟨hm, g, rfl, hg, hr⟩ | ⟨hm, rfl⟩
  · unfold outM
    rw [if_pos hm]
    have hl := out_length hm
    rw [hl]
    have := sz_le r.k
    exact ⟨by simp [hl], .inr ⟨g, _, _, rfl, hg, hr, Nat.le_refl _, by unfold maxLen; omega, by simp [hl], List.take_of_length_le (by simp [hl])⟩⟩
  · unfold outM
    rw [if_neg hm]
    exact ⟨rfl, .inl ⟨rfl, rfl⟩⟩
theorem Tab.of_block {w w' : World} (h : Tab w) (he : w'.heap[0]? = w.heap[0]?) : Tab w' := by
  intro j hj
  have := h j hj
  unfold World.cell? at this ⊢
  simp only [he]
  exact this
/-- The two records' boxes. -/
structure SpB (w wr : World) (p q : Rc) : Prop where
  a : wr.heap[w.heap.size]? = some (.cells (rcC p).toArray 25 (0, 0))
  b : wr.heap[w.heap.size + 1]? = some (.cells (rcC q).toArray 25 (0, 0))
  gr : w.grownBy wr none
  tab : Tab wr
theorem SpB.grown {w wr wr' : World} {p q : Rc} (h : SpB w wr p q) (hg : wr.grownBy wr' none) : SpB w wr' p q :=
  ⟨(hg.block _ (row_lt h.a) (by simp)).trans h.a, (hg.block _ (row_lt h.b) (by simp)).trans h.b, grown_trans h.gr hg, h.tab.new hg⟩
set_option maxRecDepth 100000 in
set_option maxHeartbeats 8000000 in
theorem recordsSpares_any (p q : Rc) (hp : p.Ok) (hq : q.Ok) (w : World) (hT : Tab w) : Calls Tryd.prog 8 #[rcV p, rcV q] w fun e w' => e = .returned (.bool true) ∧ w.grownBy w' none := by
  obtain ⟨ba, bb, bg⟩ := two_boxes w (rcC p) (rcC q) 25 25
  have B1 : Hid (SpB w ((w.alloc (.cells (rcC p).toArray 25)).alloc (.cells (rcC q).toArray 25)) p q) := ⟨ba, bb, bg, hT.new bg⟩
  have hs0 : w.heap.size < ((w.alloc (.cells (rcC p).toArray 25)).alloc (.cells (rcC q).toArray 25)).heap.size := by rw [World.size_alloc, World.size_alloc]; omega
  have hs00 : w.heap.size + 1 < ((w.alloc (.cells (rcC p).toArray 25)).alloc (.cells (rcC q).toArray 25)).heap.size := by rw [World.size_alloc, World.size_alloc]; omega
  have HS := hide (And.intro hs0 hs00)
  have HT0 := hide hT.lt
  have QP := hide (fun w1 (h : Tab w1) => put_rec p hp w1 h)
  have QQ := hide (fun w1 (h : Tab w1) => put_rec q hq w1 h)
  clear ba bb bg hs0 hs00 hT hp hq
  obtain ⟨C, hC⟩ : ∃ C, C = chk p := ⟨_, rfl⟩
  rw [← hC] at QP
  clear hC
  obtain ⟨D, hD⟩ : ∃ D, D = chk q := ⟨_, rfl⟩
  rw [← hD] at QQ
  clear hD
  obtain ⟨c0, c1, c2, c3, c4⟩ := box5 B1.out.a
  obtain ⟨d0, d1, d2, d3, d4⟩ := box5 B1.out.b
  have HLp := hide (outM_len p)
  have HLq := hide (outM_len q)
  obtain ⟨P, hP⟩ : ∃ P, outM p = P := ⟨_, rfl⟩
  obtain ⟨Q, hQ⟩ : ∃ Q, outM q = Q := ⟨_, rfl⟩
  have HPQ := hide (And.intro hP hQ)
  rw [hP] at HLp
  rw [hQ] at HLq
  clear hP hQ
  obtain ⟨LP, hLP⟩ : ∃ LP, P.length = LP := ⟨_, rfl⟩
  obtain ⟨LQ, hLQ⟩ : ∃ LQ, Q.length = LQ := ⟨_, rfl⟩
  have HLL := hide (And.intro hLP hLQ)
  rw [hLP] at HLp
  rw [hLQ] at HLq
  clear hLP hLQ
  obtain ⟨pk, pi, ps, pu, pc⟩ := p
  obtain ⟨qk, qi, qs, qu, qc⟩ := q
  unfold rcV at *
  dsimp only at *
  go_enter Tryd.func8, Tryd.ntmps8
  unfold rcC at B1 HS
  dsimp only at B1 HS
  unfold rcC at c0 c1 c2 c3 c4 d0 d1 d2 d3 d4
  go_wp2_with fail
  generalize (w.alloc (.cells #[.int .i64 pk, .int .u32 pi, .int .i64 ps, .int .i64 pu, .int .i64 pc] 25)).alloc (.cells #[.int .i64 qk, .int .u32 qi, .int .i64 qs, .int .i64 qu, .int .i64 qc] 25) = w1 at *
  clear c0 c1 c2 c3 c4 d0 d1 d2 d3 d4
  refine (QP.out w1 B1.out.tab).mono ?_
  rintro e w2 ⟨va, rfl, hp, hg⟩
  have oa := hp.own
  rw [HPQ.out.1, HLL.out.1] at oa
  have B2 := hide (And.intro (B1.out.grown hg) (And.intro oa hg.size))
  clear hp hg oa
  obtain ⟨c0, c1, c2, c3, c4⟩ := box5 B2.out.1.b
  go_wp2_with fail
  clear c0 c1 c2 c3 c4
  refine (QQ.out w2 B2.out.1.tab).mono ?_
  rintro e w3 ⟨vb, rfl, hp, hg⟩
  have ob := hp.own
  rw [HPQ.out.2, HLL.out.2] at ob
  have B3 := hide (And.intro (B2.out.1.grown hg) (And.intro (own_still B2.out.2.1 hg) (And.intro ob hg.size)))
  clear hp hg ob
  obtain ⟨c0, c1, c2, c3, c4⟩ := box5 B3.out.1.a
  go_wp2_with fail
  clear c0 c1 c2 c3 c4
  refine (QP.out w3 B3.out.1.tab).mono ?_
  rintro e w4 ⟨vc, rfl, hp, hg⟩
  have oc := hp.own
  rw [HPQ.out.1, HLL.out.1] at oc
  have B4 := hide (And.intro (B3.out.1.grown hg) (And.intro (own_still B3.out.2.1 hg) (And.intro (own_still B3.out.2.2.1 hg) (And.intro oc hg.size))))
  clear hp hg oc
  have HZ := hide (And.intro HS.out (And.intro B2.out.2.2 (And.intro B3.out.2.2.2 B4.out.2.2.2.2)))
  have ABH : Hid ((∀ j, va.ownBlock = some j → w1.heap.size ≤ j ∧ j < w2.heap.size) ∧ (∀ j, vb.ownBlock = some j → w2.heap.size ≤ j ∧ j < w3.heap.size) ∧ (∀ j, vc.ownBlock = some j → w3.heap.size ≤ j ∧ j < w4.heap.size)) := ⟨fun j e => ⟨(B2.out.2.1.lt j e).1, (B2.out.2.1.lt j e).2⟩, fun j e => ⟨(B3.out.2.2.1.lt j e).1, (B3.out.2.2.1.lt j e).2⟩, fun j e => ⟨(B4.out.2.2.2.1.lt j e).1, (B4.out.2.2.2.1.lt j e).2⟩⟩
  obtain ⟨aa, ca, rfl, x1, x2, x3, x4, x5, x6⟩ := own_at B4.out.2.1
  obtain ⟨ab, cb, rfl, y1, y2, y3, y4, y5, y6⟩ := own_at B4.out.2.2.1
  obtain ⟨ac, cc, rfl, z1, z2, z3, z4, z5, z6⟩ := own_at B4.out.2.2.2.1
  have X4 := hide (And.intro x4 (And.intro x5 (And.intro y4 (And.intro y5 z4))))
  clear x1 x2 x3 x4 x5 x6 y1 y2 y3 y4 y5 y6 z1 z2 z3 z4 z5 z6 B2 B3
  go_wp2_with fail
  refine (same_eq aa ac LP ca cc P w4 HLL.out.1 X4.out.1 X4.out.2.2.2.2 (by have := HLp.out; omega)).mono ?_
  rintro e w5 ⟨rfl, hg⟩
  have B5 := hide (And.intro (B4.out.1.grown hg) (And.intro (own_still B4.out.2.1 hg) (And.intro (own_still B4.out.2.2.1 hg) (And.intro (own_still B4.out.2.2.2.1 hg) (And.intro hg.size (And.intro (X4.out.1.kept hg (fun _ _ e => by cases e)) (X4.out.2.2.1.kept hg (fun _ _ e => by cases e))))))))
  clear hg
  go_wp2_with fail
  refine (copy_any aa LP ca P w5 HLL.out.1 B5.out.2.2.2.2.2.1 X4.out.2.1 (by have := HLp.out; omega)).mono ?_
  rintro e w6 ⟨vw, rfl, ow, hg⟩
  have B6 := hide (And.intro ow hg)
  clear ow hg
  go_wp2_with fail
  refine (copy_any ab LQ cb Q w6 HLL.out.2 (B5.out.2.2.2.2.2.2.kept B6.out.2 (fun _ _ e => by cases e)) X4.out.2.2.2.1 (by have := HLq.out; omega)).mono ?_
  rintro e w7 ⟨vh, rfl, oh, hg⟩
  have g7 := grown_trans B6.out.2 hg
  have B7 := hide (And.intro (B5.out.1.grown g7) (And.intro (own_still B5.out.2.1 g7) (And.intro (own_still B5.out.2.2.1 g7) (And.intro (own_still B5.out.2.2.2.1 g7) (And.intro (own_still B6.out.1 hg) (And.intro oh (And.intro g7.size B6.out.2.size)))))))
  have HY := hide (And.intro HZ.out.1.1 (And.intro HZ.out.1.2 (And.intro HZ.out.2.1 (And.intro HZ.out.2.2.1 (And.intro HZ.out.2.2.2 B5.out.2.2.2.2.1)))))
  clear oh hg g7 B5 B6 X4 B4
  have AB : Hid ((∀ j, (Value.slice aa LP ca).ownBlock = some j → w1.heap.size ≤ j ∧ j < w2.heap.size) ∧ (∀ j, (Value.slice ab LQ cb).ownBlock = some j → w2.heap.size ≤ j ∧ j < w3.heap.size) ∧ (∀ j, (Value.slice ac LP cc).ownBlock = some j → w3.heap.size ≤ j ∧ j < w4.heap.size)) := ABH.out
  clear ABH
  have hR : Ap.Rw w7 0 [.slice aa LP ca, .slice ab LQ cb, .slice ac LP cc] :=
    Ap.Rw.cons (own_from B7.out.2.1 (Nat.zero_le _)) (by have := HLp.out; omega) (fun u hu => by
        cases hx : (Value.slice aa LP ca).ownBlock with
        | none => exact Or.inl rfl
        | some j =>
          right
          intro e
          have h1 := AB.out.1 j hx
          simp only [List.mem_cons, List.not_mem_nil, or_false] at hu
          rcases hu with rfl | rfl
          · have h2 := AB.out.2.1 j e.symm
            omega
          · have h2 := AB.out.2.2 j e.symm
            have := HY.out
            omega)
      (Ap.Rw.cons (own_from B7.out.2.2.1 (Nat.zero_le _)) (by have := HLq.out; omega) (fun u hu => by
        cases hx : (Value.slice ab LQ cb).ownBlock with
        | none => exact Or.inl rfl
        | some j =>
          right
          intro e
          have h1 := AB.out.2.1 j hx
          simp only [List.mem_cons, List.not_mem_nil, or_false] at hu
          subst hu
          have h2 := AB.out.2.2 j e.symm
          omega)
        (Ap.Rw.cons (own_from B7.out.2.2.2.1 (Nat.zero_le _)) (by have := HLp.out; omega) (fun u hu => by cases hu) (Ap.Rw.nil _ _)))
  have hap := Ap.apartBytes_rows 0 _ w7 hR (Nat.zero_le _) (by simp) (by simp)
  clear hR
  go_wp2_with fail
  refine hap.mono ?_
  clear hap
  rintro e w8 ⟨rfl, hg⟩
  have hTT : ∀ k, (∃ i, i < 3 ∧ (([.slice aa LP ca, .slice ab LQ cb, .slice ac LP cc] : List Value).getD i undef).ownBlock = some k) → w1.heap.size ≤ k ∧ k < w5.heap.size := by
    rintro k ⟨i, hi, e⟩
    have h3 : i = 0 ∨ i = 1 ∨ i = 2 := by omega
    have hY := HY.out
    rcases h3 with rfl | rfl | rfl
    · have h1 := AB.out.1 k e
      omega
    · have h1 := AB.out.2.1 k e
      omega
    · have h1 := AB.out.2.2 k e
      omega
  have hG8 : w.grownBy w8 none := Ap.grownT_after B7.out.1.gr hg (fun k t => by have := hTT k t; have := HY.out; omega)
  have B8 : Hid (SpB w w8 ⟨pk, pi, ps, pu, pc⟩ ⟨qk, qi, qs, qu, qc⟩ ∧ w8.ownsRow w5.heap.size 5 1 vw LP (P.map (Value.int .u8)) ∧ w8.ownsRow w6.heap.size 5 1 vh LQ (Q.map (Value.int .u8))) := by
    refine ⟨⟨(hg.block _ (row_lt B7.out.1.a) (fun t => by have := hTT _ t; have := HY.out; omega)).trans B7.out.1.a, (hg.block _ (row_lt B7.out.1.b) (fun t => by have := hTT _ t; have := HY.out; omega)).trans B7.out.1.b, hG8, ?_⟩, ?_, ?_⟩
    · exact B7.out.1.tab.of_block (hg.block 0 B7.out.1.tab.lt (fun t => by have := hTT _ t; have := HY.out; have := HT0.out; omega))
    · exact Ap.own_keptT B7.out.2.2.2.2.1 hg (fun k e t => by have := (B7.out.2.2.2.2.1.lt k e).1; have := hTT k t; omega)
    · exact Ap.own_keptT B7.out.2.2.2.2.2.1 hg (fun k e t => by have := (B7.out.2.2.2.2.2.1.lt k e).1; have := hTT k t; have := B7.out.2.2.2.2.2.2.2; omega)
  clear hTT hG8 hg B7 HY HZ AB
  obtain ⟨c0, c1, c2, c3, c4⟩ := box5 B8.out.1.a
  go_wp2_with fail
  clear c0 c1 c2 c3 c4
  refine (QP.out w8 B8.out.1.tab).mono ?_
  rintro e w9 ⟨vd, rfl, hp, hg⟩
  have od := hp.own
  rw [HPQ.out.1, HLL.out.1] at od
  have B9 := hide (And.intro (B8.out.1.grown hg) (And.intro (own_still B8.out.2.1 hg) (And.intro (own_still B8.out.2.2 hg) od)))
  clear hp hg od B8
  obtain ⟨c0, c1, c2, c3, c4⟩ := box5 B9.out.1.b
  go_wp2_with fail
  clear c0 c1 c2 c3 c4
  refine (QQ.out w9 B9.out.1.tab).mono ?_
  rintro e w10 ⟨ve, rfl, hp, hg⟩
  have oe := hp.own
  rw [HPQ.out.2, HLL.out.2] at oe
  have B10 := hide (And.intro (B9.out.1.grown hg) (And.intro (own_still B9.out.2.1 hg) (And.intro (own_still B9.out.2.2.1 hg) (And.intro (own_still B9.out.2.2.2 hg) oe))))
  clear hp hg oe B9
  obtain ⟨o1, k1, rfl, -, -, -, h1, -, -⟩ := own_at B10.out.2.1
  obtain ⟨o2, k2, rfl, -, -, -, h2, -, -⟩ := own_at B10.out.2.2.1
  obtain ⟨o3, k3, rfl, -, -, -, h3, -, -⟩ := own_at B10.out.2.2.2.1
  obtain ⟨o4, k4, rfl, -, -, -, h4, -, -⟩ := own_at B10.out.2.2.2.2
  have HH := hide (And.intro h1 (And.intro h2 (And.intro h3 h4)))
  clear h1 h2 h3 h4
  go_wp2_with fail
  refine (same_eq o3 o1 LP k3 k1 P w10 HLL.out.1 HH.out.2.2.1 HH.out.1 (by have := HLp.out; omega)).mono ?_
  rintro e w11 ⟨rfl, hg⟩
  have B11 := hide (And.intro (B10.out.1.grown hg) (And.intro (HH.out.2.1.kept hg (fun _ _ e => by cases e)) (HH.out.2.2.2.kept hg (fun _ _ e => by cases e))))
  clear hg B10
  go_wp2_with fail
  refine (same_eq o4 o2 LQ k4 k2 Q w11 HLL.out.2 B11.out.2.2 B11.out.2.1 (by have := HLq.out; omega)).mono ?_
  rintro e w12 ⟨rfl, hg⟩
  have B12 := hide (B11.out.1.grown hg)
  clear hg B11
  go_wp2_with fail
  refine (awake_any w12 B12.out.tab).mono ?_
  rintro e w13 ⟨rfl, hg⟩
  have B13 := hide (grown_trans B12.out.gr hg)
  clear hg
  go_wp2
  go_ret
  exact ⟨rfl, B13.out⟩
end Go.Proofs.YtghojalpdkiooaaDoor
