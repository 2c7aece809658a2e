/- A fresh pair. -/
import Derived.Test.YtkbhjdjdjfdikaaRe
namespace Go.Proofs.Ytkbhjdjdjfdikaa
open Go.RowKit Ap Go.Shelf
attribute [local go_sem ↓] Go.wp_at_zero Go.wp_at_succ
set_option maxRecDepth 20000 in
theorem fresh_any (k : Int) (w0 w : World) (g0 : w0.grownBy w none) : Calls Try.prog 9 #[.int .i64 k] w fun e w' => ∃ b p r, e = .returned (.agg #[.pointer (some ⟨p.h, 0, none⟩), .pointer (some ⟨r, 0, none⟩), .bool (decide (k % 7 < 4))]) ∧ Tw w0 w' (k % 7) b p r (.slice none 0 0) [] [] 0 0 0 ∧ (∀ j, TwO p r (.slice none 0 0) j ∨ j = b → w.heap.size ≤ j) := by
  obtain ⟨w1, hw1⟩ : ∃ w1, w1 = w.alloc (.cells #[.pointer none, .pointer none, .bool false] 26) := ⟨_, rfl⟩
  have g1 : w.grownBy w1 none := by rw [hw1]; exact World.grownBy_alloc w _ none
  have hor := orders_any k w1
  have HW := hide (And.intro hw1 (And.intro g1 g0))
  obtain ⟨B, hB⟩ : ∃ B, B = w.heap.size := ⟨_, rfl⟩
  have HBB := hide hB
  obtain ⟨b, hb⟩ : ∃ b, b = w1.heap.size := ⟨_, rfl⟩
  have HB1 := hide hb
  rw [← hb] at hor
  clear hb hB
  have HOR := hide hor
  clear g1 hw1 hor
  go_enter Try.func9, Try.ntmps9
  go_wp2_with fail
  rw [← HW.out.1, ← HBB.out]
  refine HOR.out.mono ?_
  rintro e w2 ⟨rfl, hI, g2⟩
  have hbx : w2.heap[B]? = some (.cells [Value.pointer none, .pointer none, .bool false].toArray 26 (0, 0)) := by
    have h1 : w1.heap[B]? = some (.cells [Value.pointer none, .pointer none, .bool false].toArray 26 (0, 0)) := by rw [HW.out.1, HBB.out]; exact heap_alloc_new w _
    exact (g2.block _ (row_lt h1) (by simp)).trans h1
  have hnew := new_any (w := w2) (lsK_ok (k % 7) b) hI
  have H2 := hide (And.intro hI (And.intro g2 hbx))
  clear hI g2 hbx
  obtain ⟨dd, hdd⟩ : ∃ dd, dd = decide (k % 7 < 4) := ⟨_, rfl⟩
  have HDD := hide hdd
  rw [← hdd]
  clear hdd
  have hpk := fun W => pick_any k 7 7 W rfl (by omega) (by omega)
  rw [show (((7 : Nat)) : Int) = 7 from rfl] at hpk
  go_wp2_with fail
  refine hnew.mono ?_
  clear hnew
  rintro e w3 ⟨p, rfl, hs3, g3, ho3⟩
  have hbx3 := (g3.block _ (row_lt H2.out.2.2) (by simp)).trans H2.out.2.2
  have H3 := hide (And.intro hs3 (And.intro g3 (And.intro ho3 hbx3)))
  clear hs3 g3 ho3 hbx3
  obtain ⟨kk, hkk⟩ : ∃ kk, kk = k % 7 := ⟨_, rfl⟩
  rw [← hkk] at hpk
  have HKK := hide hkk
  clear hkk
  go_wp2_with fail
  refine (hpk _).mono ?_
  clear hpk
  rintro e wz ⟨rfl, hwz⟩
  obtain rfl := hwz.symm
  obtain ⟨w4, hw4⟩ : ∃ w4, w4 = w3.alloc (.cells #[.int .i64 kk, .slice none 0 0, .int .i64 0] 37) := ⟨_, rfl⟩
  have g4 : w3.grownBy w4 none := by rw [hw4]; exact World.grownBy_alloc w3 _ none
  have hr4 : w4.heap[w3.heap.size]? = some (.cells [Value.int .i64 kk, .slice none 0 0, .int .i64 0].toArray 37 (0, 0)) := by rw [hw4]; exact heap_alloc_new w3 _
  have hbx4 := (g4.block _ (row_lt H3.out.2.2.2) (by simp)).trans H3.out.2.2.2
  have x0 := cell_row hbx4 0
  have x1 := cell_row hbx4 1
  have x2 := cell_row hbx4 2
  simp at x0 x1 x2
  have f0 : w4.frozen? ⟨B, 0, none⟩ = false := free_row hbx4 0
  have f1 : w4.frozen? ⟨B, 1, none⟩ = false := free_row hbx4 1
  have f2 : w4.frozen? ⟨B, 2, none⟩ = false := free_row hbx4 2
  have H4 := hide (And.intro hw4 (And.intro g4 (And.intro hr4 hbx4)))
  clear g4 hr4 hbx4
  rw [hw4] at x0 x1 x2 f0 f1 f2
  clear hw4
  go_wp2
  have hbw : w.heap.size ≤ B := by rw [HBB.out]; exact Nat.le_refl _
  rw [← H4.out.1]
  have r1 := row_setCell (row_setCell (row_setCell H4.out.2.2.2 0 (.pointer (some ⟨p.h, 0, none⟩))) 1 (.pointer (some ⟨w3.heap.size, 0, none⟩))) 2 (.bool dd)
  have k5 : Kept w4 (((w4.setCell ⟨B, 0, none⟩ (.pointer (some ⟨p.h, 0, none⟩))).setCell ⟨B, 1, none⟩ (.pointer (some ⟨w3.heap.size, 0, none⟩))).setCell ⟨B, 2, none⟩ (.bool dd)) (fun j => j = B) := ((kept_setCell _ _ _ _).trans (kept_setCell _ _ _ _) (fun _ _ e => e)).trans (kept_setCell _ _ _ _) (fun _ _ e => e)
  generalize (((w4.setCell ⟨B, 0, none⟩ (.pointer (some ⟨p.h, 0, none⟩))).setCell ⟨B, 1, none⟩ (.pointer (some ⟨w3.heap.size, 0, none⟩))).setCell ⟨B, 2, none⟩ (.bool dd)) = w5 at *
  refine bodyPost_ret (results_cell_row rfl _ _ B 26 #[.pointer (some ⟨p.h, 0, none⟩), .pointer (some ⟨w3.heap.size, 0, none⟩), .bool dd] (0, 0) _ rfl (by simpa using r1) Try.underlying26 rfl (by kernel_rfl)) rfl ?_
  have hB1 : B < w1.heap.size := by rw [HW.out.1, HBB.out, World.size_alloc]; omega
  have z01 := HW.out.2.2.size
  have z12 := H2.out.2.1.size
  have z23 := H3.out.2.1.size
  have hbb := HB1.out
  have h4 := H4.out.2.1
  have g04 : w0.grownBy w4 none := grown_trans (grown_trans (grown_trans (grown_trans HW.out.2.2 HW.out.2.1) H2.out.2.1) H3.out.2.1) h4
  have hO : ∀ j, TwO p w3.heap.size (.slice none 0 0) j ∨ j = b → w1.heap.size ≤ j := by
    rintro j ((e | e | e) | e)
    · have := H3.out.2.2.1 j e; omega
    · omega
    · cases e
    · omega
  have z1 := HW.out.2.1.size
  have t4 : Tw w0 w4 (k % 7) b p w3.heap.size (.slice none 0 0) [] [] 0 0 0 := ⟨⟨[], H3.out.1.then (lsK_ok _ _) h4⟩, fun j e => by have := hO j (.inl (.inl e)); omega, ⟨by rw [← HKK.out]; exact H4.out.2.2.1, World.ownsRow_nil _ _ _ _, by omega⟩, by omega, g04⟩
  refine ⟨b, p, w3.heap.size, by rw [HDD.out], t4.far k5 (fun j e x => ?_) ?_, fun j e => by have := hO j e; omega⟩
  · have := hO j e
    omega
  · exact ((Kept.new g04 (fun _ => False)).trans k5 (fun j hj e => by omega)).grown (fun _ _ e => e)
end Go.Proofs.Ytkbhjdjdjfdikaa
