/- awake. -/
import Derived.Test.YtkocmlfklokngaaQf
namespace Go.Proofs.Ytkocmlfklokngaa
open Go.RowKit
attribute [local go_sem ↓] Go.wp_at_zero Go.wp_at_succ
def aw1 : Rq := ⟨1, 1, 0, 2, 300⟩
theorem aw1_ok : aw1.Ok := ⟨by decide, by decide, by decide, by decide, by decide, by decide, by decide, by decide, by decide, by decide⟩
theorem aw1_may : aw1.May := by decide
theorem aw1_out : aw1.out = [1, 1, 0, 0, 0, 2, 0, 44, 1, 0, 0, 0, 0, 0, 0] := by decide
theorem aw1_get : getQ [1, 1, 0, 0, 0, 2, 0, 44, 1, 0, 0, 0, 0, 0, 0] = (aw1, 0) := by rw [← aw1_out]; exact getQ_out aw1_ok aw1_may
theorem aw1_byt : Byt [1, 1, 0, 0, 0, 2, 0, 44, 1, 0, 0, 0, 0, 0, 0] := by rw [← aw1_out]; exact out_byt aw1_may
theorem aw2_get : getQ [10, 0, 0, 0] = (zRq, 200) := by unfold getQ; rw [if_neg (fun h => by have := h.1; revert this; decide)]
theorem aw2_byt : Byt [10, 0, 0, 0] := by intro x hx; simp at hx; omega
/-- Inside awake: the request's box, its bytes. -/
structure AwS (w wr : World) (g : Nat) : Prop where
  box : wr.heap[w.heap.size]? = some (.cells [Value.int .i64 1, .int .u32 1, .int .u32 0, .int .i64 2, .int .i64 300].toArray 25 (0, 0))
  row : wr.heap[g]? = some (.cells ([1, 1, 0, 0, 0, 2, 0, 44, 1, 0, 0, 0, 0, 0, 0].map (Value.int .u8)).toArray 5 (0, 0))
  gr : w.grownBy wr none
theorem AwS.new {w wr wr' : World} {g : Nat} (h : AwS w wr g) (hg : wr.grownBy wr' none) : AwS w wr' g :=
  ⟨(hg.block _ (row_lt h.box) (by simp)).trans h.box, (hg.block _ (row_lt h.row) (by simp)).trans h.row, grown_trans h.gr hg⟩
set_option maxRecDepth 20000 in
set_option maxHeartbeats 4000000 in
theorem awake_any (w : World) : Calls Try.prog 8 #[] w fun e w' => e = .returned (.bool true) ∧ w.grownBy w' none := by
  have b1 := heap_alloc_new w (.cells [Value.int .i64 1, .int .u32 1, .int .u32 0, .int .i64 2, .int .i64 300].toArray 25)
  have g1 := World.grownBy_alloc w (.cells [Value.int .i64 1, .int .u32 1, .int .u32 0, .int .i64 2, .int .i64 300].toArray 25) none
  have q := put_req aw1 aw1_ok (w.alloc (.cells #[.int .i64 1, .int .u32 1, .int .u32 0, .int .i64 2, .int .i64 300] 25))
  rw [show chk aw1 = 0 from if_pos aw1_may] at q
  unfold aw1 rqV at q
  dsimp only at q
  have H1 := hide (And.intro b1 g1)
  obtain ⟨c0, c1, c2, c3, c4⟩ := box5 b1
  clear b1 g1
  go_enter Try.func8, Try.ntmps8
  go_wp2_with fail
  generalize w.alloc (.cells #[.int .i64 1, .int .u32 1, .int .u32 0, .int .i64 2, .int .i64 300] 25) = w1 at *
  refine q.mono ?_
  clear q
  rintro e w2 ⟨v, rfl, hp, hg⟩
  rcases hp with ⟨_, g, rfl, hgl, hrow⟩ | ⟨hn, _⟩
  · have hrow' : w2.heap[g]? = some (.cells ([1, 1, 0, 0, 0, 2, 0, 44, 1, 0, 0, 0, 0, 0, 0].map (Value.int .u8)).toArray 5 (0, 0)) := by rw [← aw1_out]; exact hrow
    have S2 : Hid (AwS w w2 g) := ⟨(hg.block _ (row_lt H1.out.1) (by simp)).trans H1.out.1, hrow', grown_trans H1.out.2 hg⟩
    clear hrow hrow' hgl hg H1 c0 c1 c2 c3 c4
    have q := get_any _ aw1_byt (some ⟨g, 0, none⟩) 15 15 w2 rfl (at_row S2.out.row) (fun e => by cases e)
    rw [aw1_get] at q
    unfold aw1 rqV at q
    dsimp only at q
    have hz : (sz 1 : Int) = 15 := by decide
    have hz' : sz 1 = 15 := by decide
    simp only [hz']
    clear hz hz'
    go_wp2_with fail
    refine q.mono ?_
    clear q
    rintro e w3 ⟨rfl, hg⟩
    have S3 := hide (S2.out.new hg)
    clear hg S2
    have g4 := World.grownBy_alloc w3 (.cells #[.int .i64 1, .int .u32 1, .int .u32 0, .int .i64 2, .int .i64 300] 25) none
    have b4 := heap_alloc_new w3 (.cells [Value.int .i64 1, .int .u32 1, .int .u32 0, .int .i64 2, .int .i64 300].toArray 25)
    have g5 := World.grownBy_alloc (w3.alloc (.cells #[.int .i64 1, .int .u32 1, .int .u32 0, .int .i64 2, .int .i64 300] 25)) (.cells #[.int .u8 10, .int .u8 0, .int .u8 0, .int .u8 0] 5) none
    have b5 := heap_alloc_new (w3.alloc (.cells #[.int .i64 1, .int .u32 1, .int .u32 0, .int .i64 2, .int .i64 300] 25)) (.cells ([10, 0, 0, 0].map (Value.int .u8)).toArray 5)
    rw [World.size_alloc] at b5
    have S5 := hide ((S3.out.new g4).new g5)
    have B5 := hide ((g5.block _ (row_lt b4) (by simp)).trans b4)
    have q := get_any _ aw2_byt (some ⟨w3.heap.size + 1, 0, none⟩) 4 4 ((w3.alloc (.cells #[.int .i64 1, .int .u32 1, .int .u32 0, .int .i64 2, .int .i64 300] 25)).alloc (.cells #[.int .u8 10, .int .u8 0, .int .u8 0, .int .u8 0] 5)) rfl (at_row b5) (fun e => by cases e)
    rw [aw2_get] at q
    unfold zRq rqV at q
    dsimp only at q
    clear g4 b4 g5 b5 S3
    go_wp2_with fail
    generalize (w3.alloc (.cells #[.int .i64 1, .int .u32 1, .int .u32 0, .int .i64 2, .int .i64 300] 25)).alloc (.cells #[.int .u8 10, .int .u8 0, .int .u8 0, .int .u8 0] 5) = w5 at *
    generalize w3.heap.size = Y at *
    refine q.mono ?_
    clear q
    rintro e w6 ⟨rfl, hg⟩
    have B6 := (hg.block _ (row_lt B5.out) (by simp)).trans B5.out
    have S6 := S5.out.new hg
    have g7 := World.grownBy_alloc w6 (.cells #[.int .i64 0, .int .u32 0, .int .u32 0, .int .i64 0, .int .i64 0] 25) none
    have B7 := hide ((g7.block _ (row_lt B6) (by simp)).trans B6)
    have S7 := hide (S6.new g7)
    clear hg B6 S6 g7 B5 S5
    have g8 := World.grownBy_alloc (w6.alloc (.cells #[.int .i64 0, .int .u32 0, .int .u32 0, .int .i64 0, .int .i64 0] 25)) (.cells #[.int .u8 1, .int .u8 1, .int .u8 0, .int .u8 0, .int .u8 0, .int .u8 2, .int .u8 0, .int .u8 44, .int .u8 1, .int .u8 0, .int .u8 0, .int .u8 0, .int .u8 0, .int .u8 0, .int .u8 0] 5) none
    have b8 := heap_alloc_new (w6.alloc (.cells #[.int .i64 0, .int .u32 0, .int .u32 0, .int .i64 0, .int .i64 0] 25)) (.cells ([1, 1, 0, 0, 0, 2, 0, 44, 1, 0, 0, 0, 0, 0, 0].map (Value.int .u8)).toArray 5)
    rw [World.size_alloc] at b8
    have S8 := hide (S7.out.new g8)
    have q := same_eq (some ⟨g, 0, none⟩) (some ⟨w6.heap.size + 1, 0, none⟩) 15 15 15 _ _ rfl (at_row S8.out.row) (at_row b8) (by decide)
    obtain ⟨c0, c1, c2, c3, c4⟩ := box5 S7.out.box
    obtain ⟨d0, d1, d2, d3, d4⟩ := box5 B7.out
    clear g8 b8
    go_wp2_with fail
    refine q.mono ?_
    clear q
    rintro e w9 ⟨rfl, hg⟩
    have S9 := hide (S8.out.new hg)
    clear hg S8 S7 B7 c0 c1 c2 c3 c4 d0 d1 d2 d3 d4
    go_wp2_with fail
    refine (changes_any 7 w9).mono ?_
    rintro e wx ⟨rfl, hw⟩
    obtain rfl := hw.symm
    clear hw
    rw [show chg 7 = true from rfl]
    go_wp2_with fail
    refine (changes_any 6 w9).mono ?_
    rintro e wx ⟨rfl, hw⟩
    obtain rfl := hw.symm
    clear hw
    rw [show chg 6 = false from rfl]
    go_wp2
    go_ret
    exact ⟨rfl, S9.out.gr⟩
  · exact absurd aw1_may hn
end Go.Proofs.Ytkocmlfklokngaa
