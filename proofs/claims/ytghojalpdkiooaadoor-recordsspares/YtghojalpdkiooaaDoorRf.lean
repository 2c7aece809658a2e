/- awake. -/
import Derived.Test.YtghojalpdkiooaaDoorRe
namespace Go.Proofs.YtghojalpdkiooaaDoor
open Go.RowKit
attribute [local go_sem ↓] Go.wp_at_zero Go.wp_at_succ
def aw1 : Rc := ⟨2, 1, 0, 0, 0⟩
def aw2 : Rc := ⟨4, 1, 1023, 0, 0⟩
theorem aw1_ok : aw1.Ok := ⟨by decide, by decide, by decide, by decide, by decide, by decide, by decide, by decide, by decide, by decide⟩
theorem aw1_may : aw1.May := by decide
theorem aw1_out : aw1.out = [2, 1, 0, 0, 0] := by decide
theorem aw2_get : getR [4, 1, 0, 0, 0, 255, 3] = (aw2, 0) := by rfl
theorem aw2_byt : Byt [4, 1, 0, 0, 0, 255, 3] := by intro x hx; simp at hx; omega
set_option maxRecDepth 20000 in
set_option maxHeartbeats 4000000 in
theorem awake_any (w : World) (hT : Tab w) : Calls Tryd.prog 12 #[] w fun e w' => e = .returned (.bool true) ∧ w.grownBy w' none := by
  have HT := hide hT
  have q := put_rec aw1 aw1_ok w hT
  rw [show chk aw1 = 0 from if_pos aw1_may] at q
  unfold aw1 rcV at q
  dsimp only at q
  clear hT
  go_enter Tryd.func12, Tryd.ntmps12
  go_wp2_with fail
  refine q.mono ?_
  clear q
  rintro e w1 ⟨v, rfl, hp, hg⟩
  rcases hp with ⟨_, g, rfl, hgl, hrow⟩ | ⟨hn, _⟩
  · have hrow' : w1.heap[g]? = some (.cells ([2, 1, 0, 0, 0].map (Value.int .u8)).toArray 5 (0, 0)) := by rw [← aw1_out]; exact hrow
    have H1 := hide (And.intro hrow' hg)
    clear hrow hrow' hgl hg
    have hb2 := heap_alloc_new w1 (.cells ([4, 1, 0, 0, 0, 255, 3].map (Value.int .u8)).toArray 5)
    have q := get_any _ aw2_byt (some ⟨w1.heap.size, 0, none⟩) 7 7 (w1.alloc (.cells #[.int .u8 4, .int .u8 1, .int .u8 0, .int .u8 0, .int .u8 0, .int .u8 255, .int .u8 3] 5)) rfl (at_row hb2) (by decide) (by decide) (HT.out.new (grown_trans H1.out.2 (World.grownBy_alloc w1 _ none)))
    rw [aw2_get] at q
    unfold aw2 rcV at q
    dsimp only at q
    have G1 := hide (World.grownBy_alloc w1 (.cells #[.int .u8 4, .int .u8 1, .int .u8 0, .int .u8 0, .int .u8 0, .int .u8 255, .int .u8 3] 5) none)
    clear hb2
    go_wp2_with fail
    generalize w1.alloc (.cells #[.int .u8 4, .int .u8 1, .int .u8 0, .int .u8 0, .int .u8 0, .int .u8 255, .int .u8 3] 5) = w2 at *
    refine q.mono ?_
    clear q
    rintro e w3 ⟨rfl, hg⟩
    have H3 := hide (And.intro ((grown_trans G1.out hg).block _ (row_lt H1.out.1) (by simp) |>.trans H1.out.1) (grown_trans H1.out.2 (grown_trans G1.out hg)))
    clear hg G1 H1
    have g4 := World.grownBy_alloc w3 (.cells #[.int .i64 4, .int .u32 1, .int .i64 1023, .int .i64 0, .int .i64 0] 25) none
    have b4 := heap_alloc_new w3 (.cells [Value.int .i64 4, .int .u32 1, .int .i64 1023, .int .i64 0, .int .i64 0].toArray 25)
    obtain ⟨x0, x1, x2, x3, x4⟩ := box5 b4
    have g5 := World.grownBy_alloc (w3.alloc (.cells #[.int .i64 4, .int .u32 1, .int .i64 1023, .int .i64 0, .int .i64 0] 25)) (.cells #[.int .u8 2, .int .u8 1, .int .u8 0, .int .u8 0, .int .u8 0] 5) none
    have b5 := heap_alloc_new (w3.alloc (.cells #[.int .i64 4, .int .u32 1, .int .i64 1023, .int .i64 0, .int .i64 0] 25)) (.cells ([2, 1, 0, 0, 0].map (Value.int .u8)).toArray 5)
    have B5 := hide ((g5.block _ (row_lt b4) (by simp)).trans b4)
    have bg := ((grown_trans g4 g5).block _ (row_lt H3.out.1) (by simp)).trans H3.out.1
    have q := same_eq (some ⟨g, 0, none⟩) (some ⟨_, 0, none⟩) 5 5 5 _ _ rfl (at_row bg) (at_row b5) (by decide)
    rw [World.size_alloc] at q
    have HG := hide (grown_trans H3.out.2 (grown_trans g4 g5))
    clear g4 b4 g5 b5 bg H3
    go_wp2_with fail
    refine q.mono ?_
    clear q
    rintro e w6 ⟨rfl, hg⟩
    have H6 := hide (grown_trans HG.out hg)
    obtain ⟨y0, y1, y2, y3, y4⟩ := box5 ((hg.block _ (row_lt B5.out) (by simp)).trans B5.out)
    clear hg x0 x1 x2 x3 x4 B5 HG
    go_wp2
    go_ret
    exact ⟨rfl, H6.out⟩
  · exact absurd aw1_may hn
end Go.Proofs.YtghojalpdkiooaaDoor
