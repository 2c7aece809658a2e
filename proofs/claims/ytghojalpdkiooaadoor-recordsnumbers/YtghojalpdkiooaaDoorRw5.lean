/- The walk of RecordsNumbers. -/
import Derived.Test.YtghojalpdkiooaaDoorRf
namespace Go.Proofs.YtghojalpdkiooaaDoor
open Go.RowKit
attribute [local go_sem ↓] Go.wp_at_zero Go.wp_at_succ
def farR : Rc := ⟨1, 4294967295, 1023, 1099511627776, 0⟩
def lateR : Rc := ⟨5, 0, 0, 0, 1099511627776⟩
/-- The records that may not be. -/
def moreR : List Rc := [⟨1, 4294967295, 1024, 1099511627776, 0⟩, ⟨1, 4294967295, 1023, 1099511627777, 0⟩, ⟨5, 0, 0, 0, 1099511627777⟩, ⟨0, 0, 0, 0, 0⟩, ⟨6, 1, 0, 0, 0⟩, ⟨-1, 1, 0, 0, 0⟩, ⟨1, 1, 0, 0, 0⟩, ⟨5, 0, 0, 0, 0⟩, ⟨1, 0, 0, 1, 0⟩, ⟨2, 0, 0, 0, 0⟩]
theorem more_ok : ∀ r ∈ moreR, r.Ok ∧ ¬ r.May := by
  intro r hr
  unfold moreR at hr
  simp only [List.mem_cons, List.not_mem_nil, or_false] at hr
  rcases hr with rfl | rfl | rfl | rfl | rfl | rfl | rfl | rfl | rfl | rfl <;> exact ⟨⟨by decide, by decide, by decide, by decide, by decide, by decide, by decide, by decide, by decide, by decide⟩, by decide⟩
def moreC : List Value := moreR.flatMap rcC
theorem far_ok : farR.Ok ∧ farR.May := ⟨⟨by decide, by decide, by decide, by decide, by decide, by decide, by decide, by decide, by decide, by decide⟩, by decide⟩
theorem late_ok : lateR.Ok ∧ lateR.May := ⟨⟨by decide, by decide, by decide, by decide, by decide, by decide, by decide, by decide, by decide, by decide⟩, by decide⟩
theorem more_cells {w : World} {B j : Nat} (hb : w.heap[B]? = some (.cells moreC.toArray 25 (0, 0))) (hj : j < 10) : ∃ r : Rc, (r.Ok ∧ ¬ r.May) ∧ w.cell? ⟨B, j * 5, none⟩ = some (.int .i64 r.k) ∧ w.cell? ⟨B, j * 5 + 1, none⟩ = some (.int .u32 r.i) ∧ w.cell? ⟨B, j * 5 + 2, none⟩ = some (.int .i64 r.s) ∧ w.cell? ⟨B, j * 5 + 3, none⟩ = some (.int .i64 r.u) ∧ w.cell? ⟨B, j * 5 + 4, none⟩ = some (.int .i64 r.c) := by
  have hj5 : j = 0 ∨ j = 1 ∨ j = 2 ∨ j = 3 ∨ j = 4 ∨ j = 5 ∨ j = 6 ∨ j = 7 ∨ j = 8 ∨ j = 9 := by omega
  have hl : j < moreR.length := hj
  refine ⟨moreR[j], more_ok _ (List.getElem_mem hl), ?_⟩
  rcases hj5 with rfl | rfl | rfl | rfl | rfl | rfl | rfl | rfl | rfl | rfl <;> exact ⟨cell_row hb _, cell_row hb _, cell_row hb _, cell_row hb _, cell_row hb _⟩
set_option maxRecDepth 20000 in
set_option maxHeartbeats 8000000 in
theorem recordsNumbers_any (w : World) (hT : Tab w) : Calls Tryd.prog 3 #[] w fun e w' => e = .returned (.bool true) ∧ w.grownBy w' none := by
  obtain ⟨ba, bb, bg⟩ := two_boxes w [Value.int .i64 1, .int .u32 4294967295, .int .i64 1023, .int .i64 1099511627776, .int .i64 0] [Value.int .i64 5, .int .u32 0, .int .i64 0, .int .i64 0, .int .i64 1099511627776] 25 25
  have q := put_rec farR far_ok.1 _ (hT.new bg)
  rw [show chk farR = 0 from if_pos far_ok.2] at q
  unfold farR rcV at q
  dsimp only at q
  obtain ⟨c0, c1, c2, c3, c4⟩ := box5 ba
  obtain ⟨d0, d1, d2, d3, d4⟩ := box5 bb
  have H := hide (And.intro hT (And.intro ba (And.intro bb bg)))
  clear hT ba bb bg
  go_enter Tryd.func3, Tryd.ntmps3
  go_wp2_with fail
  clear c0 c1 c2 c3 c4 d0 d1 d2 d3 d4
  generalize (w.alloc (.cells #[.int .i64 1, .int .u32 4294967295, .int .i64 1023, .int .i64 1099511627776, .int .i64 0] 25)).alloc (.cells #[.int .i64 5, .int .u32 0, .int .i64 0, .int .i64 0, .int .i64 1099511627776] 25) = w1 at *
  generalize w.heap.size = X at *
  refine q.mono ?_
  clear q
  rintro e w2 ⟨v, rfl, hp, hg⟩
  rcases hp with ⟨_, g, rfl, _, _⟩ | ⟨hno, _⟩
  case inr => exact absurd far_ok.2 hno
  have H2 := hide (And.intro ((hg.block _ (row_lt H.out.2.1) (by simp)).trans H.out.2.1) (And.intro ((hg.block _ (row_lt H.out.2.2.1) (by simp)).trans H.out.2.2.1) (grown_trans H.out.2.2.2 hg)))
  clear hg
  obtain ⟨d0, d1, d2, d3, d4⟩ := box5 H2.out.2.1
  have q := put_rec lateR late_ok.1 w2 (H.out.1.new H2.out.2.2)
  rw [show chk lateR = 0 from if_pos late_ok.2] at q
  unfold lateR rcV at q
  dsimp only at q
  rw [show sz 1 = 15 from rfl]
  go_wp2_with fail
  refine q.mono ?_
  clear q d0 d1 d2 d3 d4
  rintro e w3 ⟨v, rfl, hp, hg⟩
  rcases hp with ⟨_, g2, rfl, _, _⟩ | ⟨hno, _⟩
  case inr => exact absurd late_ok.2 hno
  rw [show sz (Rc.mk 5 0 0 0 1099511627776).k = 9 from rfl]
  have H3 := hide (And.intro ((hg.block _ (row_lt H2.out.1) (by simp)).trans H2.out.1) (And.intro ((hg.block _ (row_lt H2.out.2.1) (by simp)).trans H2.out.2.1) (grown_trans H2.out.2.2 hg)))
  clear hg H2
  obtain ⟨c0, c1, c2, c3, c4⟩ := box5 H3.out.1
  obtain ⟨d0, d1, d2, d3, d4⟩ := box5 H3.out.2.1
  have b4 := heap_alloc_new w3 (.cells moreC.toArray 25)
  have g4 := World.grownBy_alloc w3 (.cells moreC.toArray 25) none
  have H4 := hide (And.intro b4 (grown_trans H3.out.2.2 g4))
  clear b4 g4 H3
  go_wp2
  clear c0 c1 c2 c3 c4 d0 d1 d2 d3 d4
  rw [show w3.alloc (.cells #[.int .i64 1, .int .u32 4294967295, .int .i64 1024, .int .i64 1099511627776, .int .i64 0, .int .i64 1, .int .u32 4294967295, .int .i64 1023, .int .i64 1099511627777, .int .i64 0, .int .i64 5, .int .u32 0, .int .i64 0, .int .i64 0, .int .i64 1099511627777, .int .i64 0, .int .u32 0, .int .i64 0, .int .i64 0, .int .i64 0, .int .i64 6, .int .u32 1, .int .i64 0, .int .i64 0, .int .i64 0, .int .i64 (-1), .int .u32 1, .int .i64 0, .int .i64 0, .int .i64 0, .int .i64 1, .int .u32 1, .int .i64 0, .int .i64 0, .int .i64 0, .int .i64 5, .int .u32 0, .int .i64 0, .int .i64 0, .int .i64 0, .int .i64 1, .int .u32 0, .int .i64 0, .int .i64 1, .int .i64 0, .int .i64 2, .int .u32 0, .int .i64 0, .int .i64 0, .int .i64 0] 25) = w3.alloc (.cells moreC.toArray 25) from rfl]
  generalize w3.alloc (.cells moreC.toArray 25) = w4 at *
  generalize w3.heap.size = B at *
  go_loopg [8] 10 (fun k i wr => ∃ j : Nat, k + j = 10 ∧ i = .int .i64 (j : Int) ∧ wr.heap[B]? = some (.cells moreC.toArray 25 (0, 0)) ∧ w.grownBy wr none)
  case atStart => exact ⟨0, by omega, rfl, H4.out.1, H4.out.2⟩
  case round =>
    obtain ⟨j, hkj, rfl, hb, hg⟩ := hrel
    by_cases hk : 0 < gk
    · obtain ⟨r, hr, c0, c1, c2, c3, c4⟩ := more_cells (j := j) hb (by omega)
      have hj0 : (0 : Int) ≤ (j : Int) := by omega
      have hj1 : (j : Int) < 10 := by omega
      have HB := hide (And.intro hb (And.intro hg hr))
      have q := put_rec r hr.1 wr (H.out.1.new hg)
      rw [show chk r = 160 from if_neg hr.2] at q
      unfold rcV at q
      clear hb hg hr
      go_wp2_with fail
      refine q.mono ?_
      clear q c0 c1 c2 c3 c4
      rintro e w5 ⟨v, rfl, hp, hg⟩
      rcases hp with ⟨hno, _⟩ | ⟨_, rfl⟩
      case inl => exact absurd hno HB.out.2.2.2
      have H5 := hide (And.intro ((hg.block _ (row_lt HB.out.1) (by simp)).trans HB.out.1) (grown_trans HB.out.2.1 hg))
      clear hg HB
      obtain ⟨r, hr, c0, c1, c2, c3, c4⟩ := more_cells (j := j) H5.out.1 (by omega)
      have q := check_any r hr.1 w5 (H.out.1.new H5.out.2)
      rw [show chk r = 160 from if_neg hr.2] at q
      unfold rcV at q
      clear hr
      go_wp2_with fail
      refine q.mono ?_
      clear q c0 c1 c2 c3 c4
      rintro e w6 ⟨rfl, hg⟩
      have H6 := hide (And.intro ((hg.block _ (row_lt H5.out.1) (by simp)).trans H5.out.1) (grown_trans H5.out.2 hg))
      clear hg H5
      go_wp2
      go_roundg (gk - 1)
      case measure => omega
      case rel => exact ⟨j + 1, by omega, by go_num, H6.out.1, H6.out.2⟩
    · have hj : j = 10 := by omega
      subst hj
      have H5 := hide hg
      clear hb hg hkj hk H4
      have q := get_any [] (by intro x hx; cases hx) none 0 0 wr rfl (At.nil _ _) (Nat.le_refl _) (by decide) (H.out.1.new H5.out)
      rw [show getR [] = (zRc, 4) from rfl] at q
      unfold rcV zRc at q
      dsimp only at q
      go_wp2_with fail
      refine q.mono ?_
      clear q
      rintro e w6 ⟨rfl, hg⟩
      have b8 := heap_alloc_new (w6.alloc (.cells #[.int .i64 0, .int .u32 0, .int .i64 0, .int .i64 0, .int .i64 0] 25)) (.cells ([2, 1, 0, 0, 0, 7].map (Value.int .u8)).toArray 5)
      have g8 := World.grownBy_alloc (w6.alloc (.cells #[.int .i64 0, .int .u32 0, .int .i64 0, .int .i64 0, .int .i64 0] 25)) (.cells ([2, 1, 0, 0, 0, 7].map (Value.int .u8)).toArray 5) none
      have H8 := hide (And.intro (at_row b8) (grown_trans H5.out (grown_trans hg (grown_trans (World.grownBy_alloc w6 (.cells #[.int .i64 0, .int .u32 0, .int .i64 0, .int .i64 0, .int .i64 0] 25) none) g8))))
      rw [World.size_alloc] at H8
      clear b8 g8 hg H5
      go_wp2_with fail
      rw [show (w6.alloc (.cells #[.int .i64 0, .int .u32 0, .int .i64 0, .int .i64 0, .int .i64 0] 25)).alloc (.cells #[.int .u8 2, .int .u8 1, .int .u8 0, .int .u8 0, .int .u8 0, .int .u8 7] 5) = (w6.alloc (.cells #[.int .i64 0, .int .u32 0, .int .i64 0, .int .i64 0, .int .i64 0] 25)).alloc (.cells ([2, 1, 0, 0, 0, 7].map (Value.int .u8)).toArray 5) from rfl]
      generalize (w6.alloc (.cells #[.int .i64 0, .int .u32 0, .int .i64 0, .int .i64 0, .int .i64 0] 25)).alloc (.cells ([2, 1, 0, 0, 0, 7].map (Value.int .u8)).toArray 5) = w8 at *
      have q := get_any [2, 1, 0, 0, 0, 7] (by intro x hx; simp at hx; omega) (some ⟨w6.heap.size + 1, 0, none⟩) 6 6 w8 rfl H8.out.1 (Nat.le_refl _) (by decide) (H.out.1.new H8.out.2)
      rw [show getR [2, 1, 0, 0, 0, 7] = (zRc, 5) from rfl] at q
      unfold rcV zRc at q
      dsimp only at q
      refine q.mono ?_
      clear q
      rintro e w9 ⟨rfl, hg⟩
      have b8 := heap_alloc_new (w9.alloc (.cells #[.int .i64 0, .int .u32 0, .int .i64 0, .int .i64 0, .int .i64 0] 25)) (.cells ([5, 1, 0, 0, 0, 0, 1, 0, 0].map (Value.int .u8)).toArray 5)
      have g8 := World.grownBy_alloc (w9.alloc (.cells #[.int .i64 0, .int .u32 0, .int .i64 0, .int .i64 0, .int .i64 0] 25)) (.cells ([5, 1, 0, 0, 0, 0, 1, 0, 0].map (Value.int .u8)).toArray 5) none
      have H9 := hide (And.intro (at_row b8) (grown_trans H8.out.2 (grown_trans hg (grown_trans (World.grownBy_alloc w9 (.cells #[.int .i64 0, .int .u32 0, .int .i64 0, .int .i64 0, .int .i64 0] 25) none) g8))))
      rw [World.size_alloc] at H9
      clear b8 g8 hg H8
      go_wp2_with fail
      rw [show (w9.alloc (.cells #[.int .i64 0, .int .u32 0, .int .i64 0, .int .i64 0, .int .i64 0] 25)).alloc (.cells #[.int .u8 5, .int .u8 1, .int .u8 0, .int .u8 0, .int .u8 0, .int .u8 0, .int .u8 1, .int .u8 0, .int .u8 0] 5) = (w9.alloc (.cells #[.int .i64 0, .int .u32 0, .int .i64 0, .int .i64 0, .int .i64 0] 25)).alloc (.cells ([5, 1, 0, 0, 0, 0, 1, 0, 0].map (Value.int .u8)).toArray 5) from rfl]
      generalize (w9.alloc (.cells #[.int .i64 0, .int .u32 0, .int .i64 0, .int .i64 0, .int .i64 0] 25)).alloc (.cells ([5, 1, 0, 0, 0, 0, 1, 0, 0].map (Value.int .u8)).toArray 5) = w10 at *
      have q := get_any [5, 1, 0, 0, 0, 0, 1, 0, 0] (by intro x hx; simp at hx; omega) (some ⟨w9.heap.size + 1, 0, none⟩) 9 9 w10 rfl H9.out.1 (Nat.le_refl _) (by decide) (H.out.1.new H9.out.2)
      rw [show getR [5, 1, 0, 0, 0, 0, 1, 0, 0] = (zRc, 160) from rfl] at q
      unfold rcV zRc at q
      dsimp only at q
      refine q.mono ?_
      clear q
      rintro e w11 ⟨rfl, hg⟩
      have H11 := hide (grown_trans H9.out.2 (grown_trans hg (World.grownBy_alloc w11 (.cells #[.int .i64 0, .int .u32 0, .int .i64 0, .int .i64 0, .int .i64 0] 25) none)))
      clear hg H9
      go_wp2_with fail
      generalize w11.alloc (.cells #[.int .i64 0, .int .u32 0, .int .i64 0, .int .i64 0, .int .i64 0] 25) = w12 at *
      refine (awake_any w12 (H.out.1.new H11.out)).mono ?_
      rintro e w13 ⟨rfl, hg⟩
      have H13 := hide (grown_trans H11.out hg)
      clear hg H11
      go_wp2
      go_ret
      exact ⟨rfl, H13.out⟩
end Go.Proofs.YtghojalpdkiooaaDoor
