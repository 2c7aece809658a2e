/- RequestsPuts: the walk. -/
import Derived.Test.YtkocmlfklokngaaQn
namespace Go.Proofs.Ytkocmlfklokngaa
open Go.RowKit
attribute [local go_sem ↓] Go.wp_at_zero Go.wp_at_succ
/-- What is written of a request. -/
def outM (q : Rq) : List Int := if q.May then q.out else []
theorem outM_le (q : Rq) : (outM q).length ≤ 15 := by
  unfold outM
  split
  · rw [out_length]; exact (sz_le _).2
  · simp
theorem PutP.at {q : Rq} {w w' : World} {v : Value} (h : PutP q w w' v) : ∃ ao c, v = .slice ao (outM q).length c ∧ At w' ao (outM q) := by
  rcases h with ⟨hm, g, rfl, _, hr⟩ | ⟨hm, rfl⟩
  · rw [show outM q = q.out from if_pos hm, out_length]
    exact ⟨_, _, rfl, at_row hr⟩
  · rw [show outM q = [] from if_neg hm]
    exact ⟨none, 0, rfl, At.nil _ _⟩
theorem RPutP.at {q : Rq} {w w' : World} {v : Value} (h : RPutP q w w' v) : ∃ ao c, v = .slice ao (outM q).length c ∧ At w' ao (outM q) := by
  rcases h with ⟨hm, hr⟩ | ⟨hm, rfl⟩
  · rw [show outM q = q.out from if_pos hm, out_length]
    obtain ⟨ao, c, rfl, _, _, _, ha, _⟩ := own_at hr
    exact ⟨_, _, rfl, ha⟩
  · rw [show outM q = [] from if_neg hm]
    exact ⟨none, 0, rfl, At.nil _ _⟩
/-- Inside the law: the request's box, the two rows. -/
structure PuA (w : World) (q : Rq) (L : Nat) (ao bo : Option Addr) (wr : World) : Prop where
  box : wr.heap[w.heap.size]? = some (.cells [Value.int .i64 q.k, .int .u32 q.t, .int .u32 q.i, .int .i64 q.s, .int .i64 q.u].toArray 25 (0, 0))
  len : (outM q).length = L
  a : At wr ao (outM q)
  b : At wr bo (outM q)
  gr : w.grownBy wr none
theorem PuA.new {w wr wr' : World} {q : Rq} {L : Nat} {ao bo : Option Addr} (h : PuA w q L ao bo wr) (hg : wr.grownBy wr' none) : PuA w q L ao bo wr' :=
  ⟨(hg.block _ (row_lt h.box) (by simp)).trans h.box, h.len, h.a.kept hg (fun _ _ e => by cases e), h.b.kept hg (fun _ _ e => by cases e), grown_trans h.gr hg⟩
set_option maxRecDepth 20000 in
set_option maxHeartbeats 16000000 in
theorem puts_any (q : Rq) (ho : q.Ok) (w : World) : Calls Try.prog 3 #[rqV q] w fun e w' => e = .returned (.bool true) ∧ w.grownBy w' none := by
  have S0 := hide (CkS.begin w q)
  have HO := hide ho
  clear ho
  have qa := awake_any (w.alloc (.cells #[.int .i64 q.k, .int .u32 q.t, .int .u32 q.i, .int .i64 q.s, .int .i64 q.u] 25))
  unfold rqV
  go_enter Try.func3, Try.ntmps3
  go_wp2_with fail
  generalize w.alloc (.cells #[.int .i64 q.k, .int .u32 q.t, .int .u32 q.i, .int .i64 q.s, .int .i64 q.u] 25) = w1 at *
  refine qa.mono ?_
  clear qa
  rintro e w2 ⟨rfl, hg⟩
  have S1 := hide (S0.out.then hg)
  clear hg S0
  obtain ⟨c0, c1, c2, c3, c4⟩ := box5 S1.out.box
  have qp := put_req q HO.out w2
  unfold rqV at qp
  go_wp2_with fail
  refine qp.mono ?_
  clear qp c0 c1 c2 c3 c4
  rintro e w3 ⟨v, rfl, hp, hg⟩
  obtain ⟨ao, ca, rfl, ha⟩ := hp.at
  have S2 := hide (S1.out.then hg)
  have A2 := hide ha
  clear hg S1 hp ha
  obtain ⟨c0, c1, c2, c3, c4⟩ := box5 S2.out.box
  have qp := rput_req q HO.out w3
  unfold rqV at qp
  go_wp2_with fail
  refine qp.mono ?_
  clear qp c0 c1 c2 c3 c4
  rintro e w4 ⟨v4, rfl, hp, hg⟩
  obtain ⟨bo, cb, rfl, hb⟩ := hp.at
  obtain ⟨L, hL⟩ : ∃ L, (outM q).length = L := ⟨_, rfl⟩
  rw [hL]
  have HD : PuA w q L ao bo w4.drew := PuA.new ⟨(S2.out.then hg).box, hL, A2.out.kept hg (fun _ _ e => by cases e), hb, (S2.out.then hg).gr⟩ (grown_drew _ _)
  have HL : Hid (L ≤ 15) := by have := outM_le q; rw [hL] at this; exact this
  clear hg hp hb S2 A2 hL
  have QC := hide (fun w1 => check_any q HO.out w1)
  have QR := hide (fun w1 => rcheck_any q HO.out w1)
  have QG := hide (changes_any q.k)
  have QH := hide (rchanges_any q.k)
  unfold rqV at QC QR
  generalize chk q = C at *
  generalize chg q.k = G at *
  go_wp2_with fail
  go_region_held3 (fun w' => w'.cell? ⟨w.heap.size, 0, none⟩ = some (.int .i64 q.k) ∧ w'.cell? ⟨w.heap.size, 1, none⟩ = some (.int .u32 q.t) ∧ w'.cell? ⟨w.heap.size, 2, none⟩ = some (.int .u32 q.i) ∧ w'.cell? ⟨w.heap.size, 3, none⟩ = some (.int .i64 q.s) ∧ w'.cell? ⟨w.heap.size, 4, none⟩ = some (.int .i64 q.u) ∧ PuA w q L ao bo w')
    (first | assumption | (obtain ⟨c0, c1, c2, c3, c4⟩ := box5 (PuA.box HD); exact ⟨c0, c1, c2, c3, c4, HD⟩))
    ((first
      | (go_at_call 11; obtain ⟨_, _, _, _, _, hI⟩ := ‹_ ∧ _ ∧ _ ∧ _ ∧ _ ∧ PuA w q L ao bo _›; refine (same_eq ao bo L ca cb _ _ (PuA.len hI) (PuA.a hI) (PuA.b hI) (by have := HL.out; omega)).mono ?_; rintro e w5 ⟨rfl, hg5⟩; have hJ : PuA w q L ao bo w5 := PuA.new hI hg5; obtain ⟨d0, d1, d2, d3, d4⟩ := box5 (PuA.box hJ); have hK := And.intro d0 (And.intro d1 (And.intro d2 (And.intro d3 (And.intro d4 hJ)))))
      | (go_at_call 12; obtain ⟨_, _, _, _, _, hI⟩ := ‹_ ∧ _ ∧ _ ∧ _ ∧ _ ∧ PuA w q L ao bo _›; refine (QC.out _).mono ?_; rintro e w5 ⟨rfl, hg5⟩; have hJ : PuA w q L ao bo w5 := PuA.new hI hg5; obtain ⟨d0, d1, d2, d3, d4⟩ := box5 (PuA.box hJ); have hK := And.intro d0 (And.intro d1 (And.intro d2 (And.intro d3 (And.intro d4 hJ)))))
      | (go_at_call 13; obtain ⟨_, _, _, _, _, hI⟩ := ‹_ ∧ _ ∧ _ ∧ _ ∧ _ ∧ PuA w q L ao bo _›; refine (QR.out _).mono ?_; rintro e w5 ⟨rfl, hg5⟩; have hJ : PuA w q L ao bo w5 := PuA.new hI hg5; obtain ⟨d0, d1, d2, d3, d4⟩ := box5 (PuA.box hJ); have hK := And.intro d0 (And.intro d1 (And.intro d2 (And.intro d3 (And.intro d4 hJ)))))
      | (go_at_call 14; refine (QG.out _).mono ?_; rintro e w5 ⟨rfl, rfl⟩)
      | (go_at_call 15; refine (QH.out _).mono ?_; rintro e w5 ⟨rfl, rfl⟩)))
  all_goals
    obtain ⟨_, _, _, _, _, hI⟩ := ‹_ ∧ _ ∧ _ ∧ _ ∧ _ ∧ PuA w q L ao bo _›
    go_wp2
    go_ret
    exact ⟨rfl, PuA.gr hI⟩
end Go.Proofs.Ytkocmlfklokngaa
