/- RepliesNumbers: the walk. -/
import Derived.Test.YtoflohjlmagjpaaDoorYg
namespace Go.Proofs.YtoflohjlmagjpaaDoor
open Go.RowKit
attribute [local go_sem ↓] Go.wp_at_zero Go.wp_at_succ
def badR : List Ry := [⟨1, 0, 200, 0, 0, 0, 0⟩, ⟨0, 11, 0, 0, 0, 0, 0⟩, ⟨0, 1, 0, 0, 1, 0, 0⟩, ⟨0, 1, 170, 1, 0, 0, 0⟩, ⟨0, 10, 0, 0, 0, 0, 65536⟩, ⟨0, 7, 0, 0, 0, (-1), 0⟩, ⟨0, 7, (-1), 0, 0, 0, 0⟩, ⟨0, 7, 65536, 0, 0, 0, 0⟩, ⟨0, 0, 2, 0, 0, 0, 0⟩, ⟨0, 4, 0, 0, 65536, 0, 0⟩, ⟨0, (-1), 0, 0, 0, 0, 0⟩]
theorem bad_ok : ∀ r ∈ badR, r.Ok ∧ ¬ r.May := by
  intro r hr
  unfold badR at hr
  simp only [List.mem_cons, List.not_mem_nil, or_false] at hr
  rcases hr with rfl | rfl | rfl | rfl | rfl | rfl | rfl | rfl | rfl | rfl | rfl <;> exact ⟨⟨by decide, by decide, by decide, by decide, by decide, by decide, by decide, by decide, by decide, by decide, by decide, by decide, by decide, by decide⟩, by decide⟩
def badC : List Value := badR.flatMap ryC
theorem bad_cells {w : World} {B j : Nat} (hb : w.heap[B]? = some (.cells badC.toArray 26 (0, 0))) (hj : j < 11) : ∃ r : Ry, (r.Ok ∧ ¬ r.May) ∧ w.cell? ⟨B, j * 7, none⟩ = some (.int .u32 r.t) ∧ w.cell? ⟨B, j * 7 + 1, none⟩ = some (.int .i64 r.k) ∧ w.cell? ⟨B, j * 7 + 2, none⟩ = some (.int .i64 r.e) ∧ w.cell? ⟨B, j * 7 + 3, none⟩ = some (.int .u32 r.i) ∧ w.cell? ⟨B, j * 7 + 4, none⟩ = some (.int .i64 r.s) ∧ w.cell? ⟨B, j * 7 + 5, none⟩ = some (.int .i64 r.u) ∧ w.cell? ⟨B, j * 7 + 6, none⟩ = some (.int .i64 r.c) := by
  have hj5 : j = 0 ∨ j = 1 ∨ j = 2 ∨ j = 3 ∨ j = 4 ∨ j = 5 ∨ j = 6 ∨ j = 7 ∨ j = 8 ∨ j = 9 ∨ j = 10 := by omega
  have hl : j < badR.length := hj
  refine ⟨badR[j], bad_ok _ (List.getElem_mem hl), ?_⟩
  rcases hj5 with rfl | rfl | rfl | rfl | rfl | rfl | rfl | rfl | rfl | rfl | rfl <;> exact ⟨cell_row hb _, cell_row hb _, cell_row hb _, cell_row hb _, cell_row hb _, cell_row hb _, cell_row hb _⟩
def goodR : List Ry := [⟨0, 0, 200, 0, 0, 0, 0⟩, ⟨0, 1, 0, 0, 0, 0, 0⟩, ⟨0, 8, 65535, 0, 0, 0, 0⟩, ⟨0, 2, 200, 0, 0, 0, 0⟩, ⟨4294967295, 6, 0, 4294967295, 0, 9223372036854775807, 0⟩, ⟨0, 10, 0, 0, 0, 0, 65535⟩, ⟨0, 4, 0, 0, 65535, 0, 0⟩]
theorem good_ok : ∀ r ∈ goodR, r.Ok ∧ r.May := by
  intro r hr
  unfold goodR at hr
  simp only [List.mem_cons, List.not_mem_nil, or_false] at hr
  rcases hr with rfl | rfl | rfl | rfl | rfl | rfl | rfl <;> exact ⟨⟨by decide, by decide, by decide, by decide, by decide, by decide, by decide, by decide, by decide, by decide, by decide, by decide, by decide, by decide⟩, by decide⟩
def goodC : List Value := goodR.flatMap ryC
theorem good_cells {w : World} {B j : Nat} (hb : w.heap[B]? = some (.cells goodC.toArray 26 (0, 0))) (hj : j < 7) : ∃ r : Ry, (r.Ok ∧ r.May) ∧ w.cell? ⟨B, j * 7, none⟩ = some (.int .u32 r.t) ∧ w.cell? ⟨B, j * 7 + 1, none⟩ = some (.int .i64 r.k) ∧ w.cell? ⟨B, j * 7 + 2, none⟩ = some (.int .i64 r.e) ∧ w.cell? ⟨B, j * 7 + 3, none⟩ = some (.int .u32 r.i) ∧ w.cell? ⟨B, j * 7 + 4, none⟩ = some (.int .i64 r.s) ∧ w.cell? ⟨B, j * 7 + 5, none⟩ = some (.int .i64 r.u) ∧ w.cell? ⟨B, j * 7 + 6, none⟩ = some (.int .i64 r.c) := by
  have hj5 : j = 0 ∨ j = 1 ∨ j = 2 ∨ j = 3 ∨ j = 4 ∨ j = 5 ∨ j = 6 := by omega
  have hl : j < goodR.length := hj
  refine ⟨goodR[j], good_ok _ (List.getElem_mem hl), ?_⟩
  rcases hj5 with rfl | rfl | rfl | rfl | rfl | rfl | rfl <;> exact ⟨cell_row hb _, cell_row hb _, cell_row hb _, cell_row hb _, cell_row hb _, cell_row hb _, cell_row hb _⟩
set_option maxRecDepth 20000 in
set_option maxHeartbeats 8000000 in
theorem numbers_any (w : World) (hT : Tab w) : Calls Tryd.prog 5 #[] w fun e w' => e = .returned (.bool true) ∧ w.grownBy w' none := by
  have HT := hide hT
  clear hT
  go_enter Tryd.func5, Tryd.ntmps5
  have b4 := heap_alloc_new w (.cells badC.toArray 26)
  have g4 := World.grownBy_alloc w (.cells badC.toArray 26) none
  have HP := hide (And.intro b4 (grown_trans (grown_refl w none) g4))
  clear b4 g4
  go_wp2
  rw [show w.alloc (.cells #[.int .u32 1, .int .i64 0, .int .i64 200, .int .u32 0, .int .i64 0, .int .i64 0, .int .i64 0, .int .u32 0, .int .i64 11, .int .i64 0, .int .u32 0, .int .i64 0, .int .i64 0, .int .i64 0, .int .u32 0, .int .i64 1, .int .i64 0, .int .u32 0, .int .i64 1, .int .i64 0, .int .i64 0, .int .u32 0, .int .i64 1, .int .i64 170, .int .u32 1, .int .i64 0, .int .i64 0, .int .i64 0, .int .u32 0, .int .i64 10, .int .i64 0, .int .u32 0, .int .i64 0, .int .i64 0, .int .i64 65536, .int .u32 0, .int .i64 7, .int .i64 0, .int .u32 0, .int .i64 0, .int .i64 (-1), .int .i64 0, .int .u32 0, .int .i64 7, .int .i64 (-1), .int .u32 0, .int .i64 0, .int .i64 0, .int .i64 0, .int .u32 0, .int .i64 7, .int .i64 65536, .int .u32 0, .int .i64 0, .int .i64 0, .int .i64 0, .int .u32 0, .int .i64 0, .int .i64 2, .int .u32 0, .int .i64 0, .int .i64 0, .int .i64 0, .int .u32 0, .int .i64 4, .int .i64 0, .int .u32 0, .int .i64 65536, .int .i64 0, .int .i64 0, .int .u32 0, .int .i64 (-1), .int .i64 0, .int .u32 0, .int .i64 0, .int .i64 0, .int .i64 0] 26) = w.alloc (.cells badC.toArray 26) from rfl]
  generalize w.alloc (.cells badC.toArray 26) = wbad at *
  generalize w.heap.size = Bbad at *
  go_loopg [2] 11 (fun k i wr => ∃ j : Nat, k + j = 11 ∧ i = .int .i64 (j : Int) ∧ wr.heap[Bbad]? = some (.cells badC.toArray 26 (0, 0)) ∧ w.grownBy wr none)
  case atStart => exact ⟨0, by omega, rfl, HP.out.1, HP.out.2⟩
  case round =>
    obtain ⟨j, hkj, rfl, hb, hg⟩ := hrel
    by_cases hk : 0 < gk
    · obtain ⟨r, hr, c0, c1, c2, c3, c4, c5, c6⟩ := bad_cells (j := j) hb (by omega)
      have hj0 : (0 : Int) ≤ (j : Int) := by omega
      have hj1 : (j : Int) < 11 := by omega
      have HB := hide (And.intro hb hg)
      have q := check_any r hr.1 wr (HT.out.new hg)
      rw [show chk r = 210 from if_neg hr.2] at q
      unfold ryV at q
      clear hb hg hr
      go_wp2_with fail
      refine q.mono ?_
      clear q c0 c1 c2 c3 c4 c5 c6
      rintro e w6 ⟨rfl, hg⟩
      have H6 := hide (And.intro (box_new HB.out.1 hg) (grown_trans HB.out.2 hg))
      clear hg HB
      go_wp2
      go_roundg (gk - 1)
      case measure => omega
      case rel => exact ⟨j + 1, by omega, by go_num, H6.out.1, H6.out.2⟩
    · have hj : j = 11 := by omega
      subst hj
      have HG := hide hg
      clear hb hg hkj
      have b4 := heap_alloc_new wr (.cells goodC.toArray 26)
      have g4 := World.grownBy_alloc wr (.cells goodC.toArray 26) none
      have HQ := hide (And.intro b4 (grown_trans HG.out g4))
      clear b4 g4
      go_wp2
      rw [show wr.alloc (.cells #[.int .u32 0, .int .i64 0, .int .i64 200, .int .u32 0, .int .i64 0, .int .i64 0, .int .i64 0, .int .u32 0, .int .i64 1, .int .i64 0, .int .u32 0, .int .i64 0, .int .i64 0, .int .i64 0, .int .u32 0, .int .i64 8, .int .i64 65535, .int .u32 0, .int .i64 0, .int .i64 0, .int .i64 0, .int .u32 0, .int .i64 2, .int .i64 200, .int .u32 0, .int .i64 0, .int .i64 0, .int .i64 0, .int .u32 4294967295, .int .i64 6, .int .i64 0, .int .u32 4294967295, .int .i64 0, .int .i64 9223372036854775807, .int .i64 0, .int .u32 0, .int .i64 10, .int .i64 0, .int .u32 0, .int .i64 0, .int .i64 0, .int .i64 65535, .int .u32 0, .int .i64 4, .int .i64 0, .int .u32 0, .int .i64 65535, .int .i64 0, .int .i64 0] 26) = wr.alloc (.cells goodC.toArray 26) from rfl]
      generalize wr.alloc (.cells goodC.toArray 26) = wgood at *
      generalize wr.heap.size = Bgood at *
      go_loopg [4] 7 (fun k i wr => ∃ j : Nat, k + j = 7 ∧ i = .int .i64 (j : Int) ∧ wr.heap[Bgood]? = some (.cells goodC.toArray 26 (0, 0)) ∧ w.grownBy wr none)
      case atStart => exact ⟨0, by omega, rfl, HQ.out.1, HQ.out.2⟩
      case round =>
        obtain ⟨j, hkj, rfl, hb, hg⟩ := hrel
        by_cases hk : 0 < gk
        · obtain ⟨r, hr, c0, c1, c2, c3, c4, c5, c6⟩ := good_cells (j := j) hb (by omega)
          have hj0 : (0 : Int) ≤ (j : Int) := by omega
          have hj1 : (j : Int) < 7 := by omega
          have HB := hide (And.intro hb hg)
          have q := check_any r hr.1 wr (HT.out.new hg)
          rw [show chk r = 0 from if_pos hr.2] at q
          unfold ryV at q
          clear hb hg hr
          go_wp2_with fail
          refine q.mono ?_
          clear q c0 c1 c2 c3 c4 c5 c6
          rintro e w6 ⟨rfl, hg⟩
          have H6 := hide (And.intro (box_new HB.out.1 hg) (grown_trans HB.out.2 hg))
          clear hg HB
          go_wp2
          go_roundg (gk - 1)
          case measure => omega
          case rel => exact ⟨j + 1, by omega, by go_num, H6.out.1, H6.out.2⟩
        · have hj : j = 7 := by omega
          subst hj
          have HG := hide hg
          clear hb hg hkj
          go_wp2_with fail
          refine (awake_any _ (HT.out.new HG.out)).mono ?_
          rintro e w9 ⟨rfl, hg⟩
          have H9 := hide (grown_trans HG.out hg)
          clear hg
          go_wp2
          go_ret
          exact ⟨rfl, H9.out⟩
end Go.Proofs.YtoflohjlmagjpaaDoor
