/- The walk of RecordsChecks. -/
import Derived.Test.YtghojalpdkiooaaDoorRf
import Derived.Test.YtghojalpdkiooaaDoorRi
namespace Go.Proofs.YtghojalpdkiooaaDoor
open Go.RowKit
attribute [local go_sem ↓] Go.wp_at_zero Go.wp_at_succ
/-- A record's bytes, or none. -/
def outM (r : Rc) : List Int := if r.May then r.out else []
theorem outM_len (r : Rc) : (outM r).length ≤ 15 := by
  unfold outM
  split
  · rename_i h; rw [out_length h]; exact sz_le _
  · decide
theorem PutP.at {r : Rc} {w w' : World} {v : Value} (h : PutP r w w' v) : ∃ ao c, v = .slice ao (outM r).length c ∧ At w' ao (outM r) ∧ (ao = none → (outM r).length = 0 ∧ c = 0) ∧ (outM r).length ≤ c := by
  rcases h with ⟨hm, g, rfl, _, hr⟩ | ⟨hm, rfl⟩
  · refine ⟨some ⟨g, 0, none⟩, sz r.k, ?_, ?_, (fun e => by cases e), ?_⟩
    · unfold outM; rw [if_pos hm, out_length hm]
    · unfold outM; rw [if_pos hm]; exact at_row hr
    · unfold outM; rw [if_pos hm, out_length hm]; exact Nat.le_refl _
  · refine ⟨none, 0, ?_, ?_, fun _ => ⟨?_, rfl⟩, ?_⟩
    · unfold outM; rw [if_neg hm]; rfl
    · unfold outM; rw [if_neg hm]; exact At.nil _ _
    · unfold outM; rw [if_neg hm]; rfl
    · unfold outM; rw [if_neg hm]; exact Nat.le_refl _
theorem RPutP.at {r : Rc} {w w' : World} {v : Value} (h : RPutP r w w' v) : ∃ ao c, v = .slice ao (outM r).length c ∧ At w' ao (outM r) := by
  rcases h with ⟨hm, ho⟩ | ⟨hm, rfl⟩
  · obtain ⟨ao, c, rfl, h1, _, _, h4, _⟩ := own_at ho
    refine ⟨ao, c, ?_, ?_⟩
    · unfold outM; rw [if_pos hm, h1]
    · unfold outM; rw [if_pos hm]; exact h4
  · refine ⟨none, 0, ?_, ?_⟩
    · unfold outM; rw [if_neg hm]; rfl
    · unfold outM; rw [if_neg hm]; exact At.nil _ _
/-- Inside RecordsChecks: the record's box, the two rows of bytes. -/
structure CkS (w wr : World) (X : Nat) (r : Rc) (ao bo : Option Addr) : Prop where
  box : wr.heap[X]? = some (.cells (rcC r).toArray 25 (0, 0))
  a : At wr ao (outM r)
  b : At wr bo (outM r)
  gr : w.grownBy wr none
  tab : Tab wr
theorem CkS.grown {w wr wr' : World} {X : Nat} {r : Rc} {ao bo : Option Addr} (h : CkS w wr X r ao bo) (hg : wr.grownBy wr' none) : CkS w wr' X r ao bo :=
  ⟨(hg.block _ (row_lt h.box) (by simp)).trans h.box, h.a.kept hg (fun _ _ e => by cases e), h.b.kept hg (fun _ _ e => by cases e), grown_trans h.gr hg, h.tab.new hg⟩
def CkA (w : World) (X : Nat) (r : Rc) (ao bo : Option Addr) (wr : World) : Prop := CkS w wr X r ao bo
set_option maxRecDepth 20000 in
set_option maxHeartbeats 8000000 in
theorem recordsChecks_any (r : Rc) (ho : r.Ok) (w : World) (hT : Tab w) : Calls Tryd.prog 4 #[rcV r] w fun e w' => e = .returned (.bool true) ∧ w.grownBy w' none := by
  have b1 := heap_alloc_new w (.cells (rcC r).toArray 25)
  have g1 := World.grownBy_alloc w (.cells (rcC r).toArray 25) none
  have q := put_rec r ho _ (hT.new g1)
  have H := hide (And.intro ho (And.intro hT (And.intro b1 g1)))
  obtain ⟨c0, c1, c2, c3, c4⟩ := box5 b1
  have QC := hide (fun w1 (h : Tab w1) => check_any r ho w1 h)
  have QR := hide (fun w1 => check_ref r ho w1)
  have QS := hide (fun w1 (h : Tab w1) => size_any r.k w1 h)
  have QZ := hide (fun w1 => size_ref r.k w1)
  have QP := hide (fun w1 => put_ref r ho w1)
  clear b1 g1 hT ho
  obtain ⟨C, hC⟩ : ∃ C, C = chk r := ⟨_, rfl⟩
  rw [← hC] at q QC QR QP
  clear hC
  obtain ⟨S, hS⟩ : ∃ S : Int, S = ((sz r.k : Nat) : Int) := ⟨_, rfl⟩
  rw [← hS] at QS QZ
  clear hS
  have HL := hide (outM_len r)
  obtain ⟨rk, ri, rs, ru, rc⟩ := r
  unfold rcC rcV at *
  dsimp only at *
  go_enter Tryd.func4, Tryd.ntmps4
  go_wp2_with fail
  generalize w.alloc (.cells #[.int .i64 rk, .int .u32 ri, .int .i64 rs, .int .i64 ru, .int .i64 rc] 25) = w1 at *
  generalize w.heap.size = X at *
  refine q.mono ?_
  clear q c0 c1 c2 c3 c4
  rintro e w2 ⟨v, rfl, hp, hg⟩
  obtain ⟨ao, ac, rfl, ha, -⟩ := hp.at
  have H2 := hide (And.intro ha (And.intro ((hg.block _ (row_lt H.out.2.2.1) (by simp)).trans H.out.2.2.1) (grown_trans H.out.2.2.2 hg)))
  clear hp ha hg
  obtain ⟨c0, c1, c2, c3, c4⟩ := box5 H2.out.2.1
  go_wp2_with fail
  refine (QP.out w2).mono ?_
  clear c0 c1 c2 c3 c4
  rintro e w3 ⟨v, rfl, hp, hg⟩
  obtain ⟨bo, bc, rfl, hb⟩ := hp.at
  have H3 : Hid (CkA w X ⟨rk, ri, rs, ru, rc⟩ ao bo w3) := ⟨(hg.block _ (row_lt H2.out.2.1) (by simp)).trans H2.out.2.1, H2.out.1.kept hg (fun _ _ e => by cases e), hb, grown_trans H2.out.2.2 hg, H.out.2.1.new (grown_trans H2.out.2.2 hg)⟩
  clear hp hb hg H2 QP
  generalize hL : (outM ⟨rk, ri, rs, ru, rc⟩).length = L at *
  have HLL := hide hL
  clear hL
  go_wp2_with fail
  have HD : CkA w X ⟨rk, ri, rs, ru, rc⟩ ao bo w3.drew := CkS.grown H3.out (grown_drew _ _)
  clear H3
  go_region_held3 (fun w' => w'.cell? ⟨X, 0, none⟩ = some (.int .i64 rk) ∧ w'.cell? ⟨X, 1, none⟩ = some (.int .u32 ri) ∧ w'.cell? ⟨X, 2, none⟩ = some (.int .i64 rs) ∧ w'.cell? ⟨X, 3, none⟩ = some (.int .i64 ru) ∧ w'.cell? ⟨X, 4, none⟩ = some (.int .i64 rc) ∧ CkA w X ⟨rk, ri, rs, ru, rc⟩ ao bo w')
    (first | assumption | (obtain ⟨c0, c1, c2, c3, c4⟩ := box5 (CkS.box HD); exact ⟨c0, c1, c2, c3, c4, HD⟩))
    ((first
      | (go_at_call 10; obtain ⟨_, _, _, _, _, hI⟩ := ‹_ ∧ _ ∧ _ ∧ _ ∧ _ ∧ CkA w X ⟨rk, ri, rs, ru, rc⟩ ao bo _›; refine (QC.out _ (CkS.tab hI)).mono ?_; rintro e w5 ⟨rfl, hg5⟩; have hJ : CkA w X ⟨rk, ri, rs, ru, rc⟩ ao bo w5 := CkS.grown hI hg5; obtain ⟨d0, d1, d2, d3, d4⟩ := box5 (CkS.box hJ); have hK := And.intro d0 (And.intro d1 (And.intro d2 (And.intro d3 (And.intro d4 hJ)))))
      | (go_at_call 14; obtain ⟨_, _, _, _, _, hI⟩ := ‹_ ∧ _ ∧ _ ∧ _ ∧ _ ∧ CkA w X ⟨rk, ri, rs, ru, rc⟩ ao bo _›; refine (QR.out _).mono ?_; rintro e w5 ⟨rfl, hg5⟩; have hJ : CkA w X ⟨rk, ri, rs, ru, rc⟩ ao bo w5 := CkS.grown hI hg5; obtain ⟨d0, d1, d2, d3, d4⟩ := box5 (CkS.box hJ); have hK := And.intro d0 (And.intro d1 (And.intro d2 (And.intro d3 (And.intro d4 hJ)))))
      | (go_at_call 15; obtain ⟨_, _, _, _, _, hI⟩ := ‹_ ∧ _ ∧ _ ∧ _ ∧ _ ∧ CkA w X ⟨rk, ri, rs, ru, rc⟩ ao bo _›; refine (QS.out _ (CkS.tab hI)).mono ?_; rintro e w5 ⟨rfl, hg5⟩; have hJ : CkA w X ⟨rk, ri, rs, ru, rc⟩ ao bo w5 := CkS.grown hI hg5; obtain ⟨d0, d1, d2, d3, d4⟩ := box5 (CkS.box hJ); have hK := And.intro d0 (And.intro d1 (And.intro d2 (And.intro d3 (And.intro d4 hJ)))))
      | (go_at_call 16; refine (QZ.out _).mono ?_; rintro e w5 ⟨rfl, rfl⟩)
      | (go_at_call 17; obtain ⟨_, _, _, _, _, hI⟩ := ‹_ ∧ _ ∧ _ ∧ _ ∧ _ ∧ CkA w X ⟨rk, ri, rs, ru, rc⟩ ao bo _›; refine (same_eq ao bo L ac bc _ _ HLL.out (CkS.a hI) (CkS.b hI) (by have := HL.out; omega)).mono ?_; rintro e w5 ⟨rfl, hg5⟩; have hJ : CkA w X ⟨rk, ri, rs, ru, rc⟩ ao bo w5 := CkS.grown hI hg5; obtain ⟨d0, d1, d2, d3, d4⟩ := box5 (CkS.box hJ); have hK := And.intro d0 (And.intro d1 (And.intro d2 (And.intro d3 (And.intro d4 hJ)))))
      | (go_at_call 12; obtain ⟨_, _, _, _, _, hI⟩ := ‹_ ∧ _ ∧ _ ∧ _ ∧ _ ∧ CkA w X ⟨rk, ri, rs, ru, rc⟩ ao bo _›; refine (awake_any _ (CkS.tab hI)).mono ?_; rintro e w5 ⟨rfl, hg5⟩; have hJ : CkA w X ⟨rk, ri, rs, ru, rc⟩ ao bo w5 := CkS.grown hI hg5; obtain ⟨d0, d1, d2, d3, d4⟩ := box5 (CkS.box hJ); have hK := And.intro d0 (And.intro d1 (And.intro d2 (And.intro d3 (And.intro d4 hJ)))))))
  all_goals
    obtain ⟨_, _, _, _, _, hI⟩ := ‹_ ∧ _ ∧ _ ∧ _ ∧ _ ∧ CkA w X ⟨rk, ri, rs, ru, rc⟩ ao bo _›
    go_wp2
    go_ret
    exact ⟨rfl, CkS.gr hI⟩
end Go.Proofs.YtghojalpdkiooaaDoor
