/- RepliesPuts: the walk. -/
import Derived.Test.YtoflohjlmagjpaaDoorYo
import Derived.Test.YtoflohjlmagjpaaDoorKApart2
import Derived.Deep.RegionHeld3
namespace Go.Proofs.YtoflohjlmagjpaaDoor
open Go.RowKit
attribute [local go_sem ↓] Go.wp_at_zero Go.wp_at_succ
/-- What is written of a reply. -/
def outM (q : Ry) : List Int := if q.May then q.out else []
theorem outM_le (q : Ry) : (outM q).length ≤ 19 := by
  unfold outM
  split
  · rw [out_length]; exact (sz_le _ _).2
  · simp
theorem PutP.own {q : Ry} {w w' : World} {v : Value} (h : PutP q w w' v) : w'.ownsRow w.heap.size 5 1 v (outM q).length ((outM q).map (Value.int .u8)) := by
  rcases h with ⟨hm, g, rfl, hg, hr⟩ | ⟨hm, rfl⟩
  · rw [show outM q = q.out from if_pos hm, out_length]
    exact Ap.own_of_row hr (by rw [List.length_map, out_length]) hg (by unfold maxLen; have := sz_le q.k q.e; omega)
  · rw [show outM q = [] from if_neg hm]
    exact World.ownsRow_nil _ _ 5 1
theorem RPutP.at {q : Ry} {w w' : World} {v : Value} (h : RPutP q w w' v) : ∃ ao c, v = .slice ao (outM q).length c ∧ At w' ao (outM q) := by
  rcases h with ⟨hm, hr⟩ | ⟨hm, rfl⟩
  · rw [show outM q = q.out from if_pos hm, out_length]
    obtain ⟨ao, c, rfl, _, _, _, ha, _⟩ := own_at hr
    exact ⟨_, _, rfl, ha⟩
  · rw [show outM q = [] from if_neg hm]
    exact ⟨none, 0, rfl, At.nil _ _⟩
theorem own_keep {w w' : World} {b n : Nat} {v : Value} {xs : List Value} (h : w.ownsRow b 5 1 v n xs) (hg : w.grownBy w' none) : w'.ownsRow b 5 1 v n xs := h.kept hg (by cases hv : v.ownBlock with | none => exact Or.inl rfl | some k => exact Or.inr (by simp))
/-- Inside the law: the reply's box, the rows. -/
structure PuA (w : World) (q : Ry) (L : Nat) (ao : Option Addr) (ca : Nat) (bo : Option Addr) (cb : Nat) (co : Option Addr) (wr : World) : Prop where
  box : wr.heap[w.heap.size]? = some (.cells [Value.int .u32 q.t, .int .i64 q.k, .int .i64 q.e, .int .u32 q.i, .int .i64 q.s, .int .i64 q.u, .int .i64 q.c].toArray 26 (0, 0))
  len : (outM q).length = L
  a : At wr ao (outM q)
  b : At wr bo (outM q)
  o1 : wr.ownsRow w.heap.size 5 1 (.slice ao L ca) L ((outM q).map (Value.int .u8))
  o2 : wr.ownsRow w.heap.size 5 1 (.slice bo L cb) L ((outM q).map (Value.int .u8))
  far : (Value.slice ao L ca).ownBlock = none ∨ (Value.slice ao L ca).ownBlock ≠ (Value.slice bo L cb).ownBlock
  c : At wr co (outM q)
  gr : w.grownBy wr none
theorem PuA.new {w wr wr' : World} {q : Ry} {L : Nat} {ao : Option Addr} {ca : Nat} {bo : Option Addr} {cb : Nat} {co : Option Addr} (h : PuA w q L ao ca bo cb co wr) (hg : wr.grownBy wr' none) : PuA w q L ao ca bo cb co wr' :=
  ⟨box_new h.box hg, h.len, h.a.kept hg (fun _ _ e => by cases e), h.b.kept hg (fun _ _ e => by cases e), own_keep h.o1 hg, own_keep h.o2 hg, h.far, h.c.kept hg (fun _ _ e => by cases e), grown_trans h.gr hg⟩
theorem own_lo {w : World} {b b' n : Nat} {v : Value} {xs : List Value} (h : w.ownsRow b 5 1 v n xs) (hb : b' ≤ b) : w.ownsRow b' 5 1 v n xs := own_lower h hb
set_option maxRecDepth 20000 in
set_option maxHeartbeats 16000000 in
theorem puts_any (q : Ry) (ho : q.Ok) (w : World) (hT : Tab w) : Calls Tryd.prog 3 #[ryV q] w fun e w' => e = .returned (.bool true) ∧ w.grownBy w' none := by
  have S0 := hide (CkS.begin w q)
  have HO := hide ho
  have HT := hide hT
  clear ho hT
  have qp := put_ry q HO.out _ (HT.out.new S0.out.gr)
  unfold ryV at *
  obtain ⟨c0, c1, c2, c3, c4, c5, c6⟩ := box7 S0.out.box
  go_enter Tryd.func3, Tryd.ntmps3
  go_wp2_with fail
  generalize w.alloc (.cells #[.int .u32 q.t, .int .i64 q.k, .int .i64 q.e, .int .u32 q.i, .int .i64 q.s, .int .i64 q.u, .int .i64 q.c] 26) = w1 at *
  refine qp.mono ?_
  clear qp c0 c1 c2 c3 c4 c5 c6
  rintro e w2 ⟨v1, rfl, hp, hg⟩
  have O1 := hide (And.intro hp.own S0.out.gr.size)
  have S2 := hide (S0.out.then hg)
  clear hg S0 hp
  obtain ⟨c0, c1, c2, c3, c4, c5, c6⟩ := box7 S2.out.box
  have qp := put_ry q HO.out w2 (HT.out.new S2.out.gr)
  unfold ryV at qp
  go_wp2_with fail
  refine qp.mono ?_
  clear qp c0 c1 c2 c3 c4 c5 c6
  rintro e w3 ⟨v2, rfl, hp, hg⟩
  have O2 : Hid (w3.ownsRow w1.heap.size 5 1 v1 (outM q).length ((outM q).map (Value.int .u8)) ∧ w3.ownsRow w2.heap.size 5 1 v2 (outM q).length ((outM q).map (Value.int .u8)) ∧ (v1.ownBlock = none ∨ v1.ownBlock ≠ v2.ownBlock)) := ⟨own_keep O1.out.1 hg, hp.own, Ap.own_newer O1.out.1 hp.own⟩
  have Z2 := hide S2.out.gr.size
  have S3 := hide (S2.out.then hg)
  clear hg S2 hp
  obtain ⟨c0, c1, c2, c3, c4, c5, c6⟩ := box7 S3.out.box
  have qp := rput_ry q HO.out w3
  unfold ryV at qp
  go_wp2_with fail
  refine qp.mono ?_
  clear qp c0 c1 c2 c3 c4 c5 c6
  rintro e w4 ⟨v4, rfl, hp, hg⟩
  obtain ⟨co, cc, rfl, hc⟩ := hp.at
  obtain ⟨L, hL⟩ : ∃ L, (outM q).length = L := ⟨_, rfl⟩
  rw [hL] at O2 ⊢
  obtain ⟨ao, ca, rfl, _, _, _, ha, _⟩ := own_at O2.out.1
  obtain ⟨bo, cb, rfl, _, _, _, hb, _⟩ := own_at O2.out.2.1
  have HD : PuA w q L ao ca bo cb co w4.drew := PuA.new ⟨(S3.out.then hg).box, hL, ha.kept hg (fun _ _ e => by cases e), hb.kept hg (fun _ _ e => by cases e), own_lo (own_keep O2.out.1 hg) O1.out.2, own_lo (own_keep O2.out.2.1 hg) Z2.out, O2.out.2.2, hc, (S3.out.then hg).gr⟩ (grown_drew _ _)
  have HL : Hid (L ≤ 19) := by have := outM_le q; rw [hL] at this; exact this
  clear hg hp hc S3 O1 O2 Z2 hL ha hb
  have QC := hide (fun w1 h => check_any q HO.out w1 h)
  have QR := hide (fun w1 => rcheck_any q HO.out w1)
  unfold ryV at QC QR
  generalize chk q = C at *
  go_wp2_with fail
  go_region_held3 (fun w' => w'.cell? ⟨w.heap.size, 0, none⟩ = some (.int .u32 q.t) ∧ w'.cell? ⟨w.heap.size, 1, none⟩ = some (.int .i64 q.k) ∧ w'.cell? ⟨w.heap.size, 2, none⟩ = some (.int .i64 q.e) ∧ w'.cell? ⟨w.heap.size, 3, none⟩ = some (.int .u32 q.i) ∧ w'.cell? ⟨w.heap.size, 4, none⟩ = some (.int .i64 q.s) ∧ w'.cell? ⟨w.heap.size, 5, none⟩ = some (.int .i64 q.u) ∧ w'.cell? ⟨w.heap.size, 6, none⟩ = some (.int .i64 q.c) ∧ PuA w q L ao ca bo cb co w')
    (first | assumption | (obtain ⟨c0, c1, c2, c3, c4, c5, c6⟩ := box7 (PuA.box HD); exact ⟨c0, c1, c2, c3, c4, c5, c6, HD⟩))
    ((first
      | (go_at_call_of 12 (Value.slice ao L ca); obtain ⟨_, _, _, _, _, _, _, hI⟩ := ‹_ ∧ _ ∧ _ ∧ _ ∧ _ ∧ _ ∧ _ ∧ PuA w q L ao ca bo cb co _›; refine (same_eq ao co L ca cc _ _ (PuA.len hI) (PuA.a hI) (PuA.c hI) (by have := HL.out; omega)).mono ?_; rintro e w5 ⟨rfl, hg5⟩; have hJ : PuA w q L ao ca bo cb co w5 := PuA.new hI hg5; obtain ⟨d0, d1, d2, d3, d4, d5, d6⟩ := box7 (PuA.box hJ); have hK := And.intro d0 (And.intro d1 (And.intro d2 (And.intro d3 (And.intro d4 (And.intro d5 (And.intro d6 hJ)))))))
      | (go_at_call_of 12 (Value.slice bo L cb); obtain ⟨_, _, _, _, _, _, _, hI⟩ := ‹_ ∧ _ ∧ _ ∧ _ ∧ _ ∧ _ ∧ _ ∧ PuA w q L ao ca bo cb co _›; refine (same_eq bo co L cb cc _ _ (PuA.len hI) (PuA.b hI) (PuA.c hI) (by have := HL.out; omega)).mono ?_; rintro e w5 ⟨rfl, hg5⟩; have hJ : PuA w q L ao ca bo cb co w5 := PuA.new hI hg5; obtain ⟨d0, d1, d2, d3, d4, d5, d6⟩ := box7 (PuA.box hJ); have hK := And.intro d0 (And.intro d1 (And.intro d2 (And.intro d3 (And.intro d4 (And.intro d5 (And.intro d6 hJ)))))))
      | (go_at_call 10; obtain ⟨_, _, _, _, _, _, _, hI⟩ := ‹_ ∧ _ ∧ _ ∧ _ ∧ _ ∧ _ ∧ _ ∧ PuA w q L ao ca bo cb co _›; refine (QC.out _ (HT.out.new (PuA.gr hI))).mono ?_; rintro e w5 ⟨rfl, hg5⟩; have hJ : PuA w q L ao ca bo cb co w5 := PuA.new hI hg5; obtain ⟨d0, d1, d2, d3, d4, d5, d6⟩ := box7 (PuA.box hJ); have hK := And.intro d0 (And.intro d1 (And.intro d2 (And.intro d3 (And.intro d4 (And.intro d5 (And.intro d6 hJ)))))))
      | (go_at_call 11; obtain ⟨_, _, _, _, _, _, _, hI⟩ := ‹_ ∧ _ ∧ _ ∧ _ ∧ _ ∧ _ ∧ _ ∧ PuA w q L ao ca bo cb co _›; refine (QR.out _).mono ?_; rintro e w5 ⟨rfl, hg5⟩; have hJ : PuA w q L ao ca bo cb co w5 := PuA.new hI hg5; obtain ⟨d0, d1, d2, d3, d4, d5, d6⟩ := box7 (PuA.box hJ); have hK := And.intro d0 (And.intro d1 (And.intro d2 (And.intro d3 (And.intro d4 (And.intro d5 (And.intro d6 hJ)))))))))
  all_goals
    obtain ⟨_, _, _, _, _, _, _, hI⟩ := ‹_ ∧ _ ∧ _ ∧ _ ∧ _ ∧ _ ∧ _ ∧ PuA w q L ao ca bo cb co _›
    have hR : Ap.Rw _ w.heap.size [.slice ao L ca, .slice bo L cb] :=
      Ap.Rw.cons (PuA.o1 hI) (by have := HL.out; omega) (fun u hu => by
        simp only [List.mem_cons, List.not_mem_nil, or_false] at hu
        subst hu
        exact PuA.far hI)
      (Ap.Rw.cons (PuA.o2 hI) (by have := HL.out; omega) (fun u hu => by cases hu) (Ap.Rw.nil _ _))
    have hap := Ap.apartBytes_rows w.heap.size _ _ hR (PuA.gr hI).size (by simp) (by simp)
    have HI := hide hI
    clear hR hI
    go_wp2_with fail
    refine hap.mono ?_
    clear hap
    rintro e w9 ⟨rfl, hg⟩
    have G9 : Hid (w.grownBy w9 none) := Ap.grownT_after HI.out.gr hg (fun k t => by
      obtain ⟨i, hi, e⟩ := t
      have h3 : i = 0 ∨ i = 1 := by simp at hi; omega
      rcases h3 with rfl | rfl
      · exact (HI.out.o1.lt k e).1
      · exact (HI.out.o2.lt k e).1)
    clear hg HI
    go_wp2_with fail
    refine (awake_any w9 (HT.out.new G9.out)).mono ?_
    rintro e wa ⟨rfl, hg⟩
    have GA := hide (grown_trans G9.out hg)
    clear hg
    go_wp2
    go_ret
    exact ⟨rfl, GA.out⟩
end Go.Proofs.YtoflohjlmagjpaaDoor
