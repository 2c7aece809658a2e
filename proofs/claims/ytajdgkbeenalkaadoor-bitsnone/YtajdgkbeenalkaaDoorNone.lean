/- BitsNone, walked. -/
import Derived.Test.YtajdgkbeenalkaaDoorOne
namespace Go.Proofs.YtajdgkbeenalkaaDoor
open Go.RowKit Go.Shelf
attribute [local go_sem ↓] Go.wp_at_zero Go.wp_at_succ

set_option maxRecDepth 100000 in
set_option maxHeartbeats 2000000 in
theorem none_any (Do On I : Int) (w : World) (hT : Tab w) :
    Calls Tryd.prog 5 #[.agg #[.int .i64 Do, .int .i64 On, .int .i64 I]] w fun e w' => e = .returned (.bool true) ∧ w.grownBy w' none := by
  have HT := hide hT
  clear hT
  go_enter Tryd.func5, Tryd.ntmps5
  go_wp2_with fail
  have hG0 : w.grownBy (w.alloc (Obj.cells #[Value.int IntKind.i64 Do, Value.int IntKind.i64 On, Value.int IntKind.i64 I] 37)) none := World.grownBy_alloc w _ none
  have hrow := heap_alloc_new w (Obj.cells [Value.int IntKind.i64 Do, Value.int IntKind.i64 On, Value.int IntKind.i64 I].toArray 37)
  have hc0 := cell_row hrow 0
  have hc1 := cell_row hrow 1
  have hc2 := cell_row hrow 2
  refine (awake_any _ (HT.out.kept hG0 (by simp))).mono ?_
  rintro e w1 ⟨rfl, hg1⟩
  have d0 := hg1.cell hc0 (by simp)
  have d1 := hg1.cell hc1 (by simp)
  have d2 := hg1.cell hc2 (by simp)
  have H1 := hide (grown_trans hG0 hg1)
  clear hG0 hrow hc0 hc1 hc2 hg1
  generalize w.heap.size = B at *
  have HD := hide (And.intro d0 (And.intro d1 d2))
  clear d0 d1 d2
  go_wp2_with fail
  have hR := ref_zero w1
  have hG2 : w1.grownBy (w1.alloc (.cells #[.bool false, .slice none 0 0] 33)) none := World.grownBy_alloc w1 _ none
  generalize hw2 : w1.alloc (.cells #[.bool false, .slice none 0 0] 33) = w2 at *
  clear hw2
  have H2 := hide (And.intro hR (grown_trans H1.out hG2))
  have HD2 := hide (And.intro (hG2.cell HD.out.1 (by simp)) (And.intro (hG2.cell HD.out.2.1 (by simp)) (hG2.cell HD.out.2.2 (by simp))))
  clear hR hG2 HD
  generalize w1.heap.size = D at *
  refine (new_any 3 w2 (by decide) (HT.out.kept H2.out.2 (by simp)).lt).mono ?_
  rintro e w3 ⟨b, g, rfl, hS, hb, hg, hg3⟩
  have c0 := hg3.cell HD2.out.1 (by simp)
  have c1 := hg3.cell HD2.out.2.1 (by simp)
  have c2 := hg3.cell HD2.out.2.2 (by simp)
  have H3 := hide (And.intro (H2.out.1.grown hg3) (And.intro hS (And.intro (HT.out.kept (grown_trans H2.out.2 hg3) (by simp)) (grown_trans H2.out.2 hg3))))
  clear hS hg3 H2 HD2
  go_wp2_with fail
  refine (one_none none D 0 Do On I w3 (fun _ _ => Or.inl rfl) H3.out.1 H3.out.2.2.1).mono ?_
  rintro e w4 ⟨rfl, hg4⟩
  have e0 := hg4.cell c0 (by simp)
  have e1 := hg4.cell c1 (by simp)
  have e2 := hg4.cell c2 (by simp)
  have H4 := hide (And.intro (H3.out.1.grown hg4) (And.intro (H3.out.2.1.kept hg4 (by simp) (by simp)) (And.intro (H3.out.2.2.1.kept hg4 (by simp)) (grown_trans H3.out.2.2.2 hg4))))
  clear hg4 H3 c0 c1 c2
  have hG5 : w4.grownBy (w4.alloc (Obj.cells #[Value.bool false, Value.int IntKind.i64 0, Value.slice none 0 0] 55)) none := World.grownBy_alloc w4 _ none
  have f0 := hG5.cell e0 (by simp)
  have f1 := hG5.cell e1 (by simp)
  have f2 := hG5.cell e2 (by simp)
  have hN5 : (w4.alloc (Obj.cells #[Value.bool false, Value.int IntKind.i64 0, Value.slice none 0 0] 55)).cell? ⟨w4.heap.size, 0, none⟩ = some (.bool false) := by
    rw [cell_row (heap_alloc_new w4 (Obj.cells [Value.bool false, Value.int IntKind.i64 0, Value.slice none 0 0].toArray 55))]; rfl
  have HN5 : Hid (∀ w', (w4.alloc (Obj.cells #[Value.bool false, Value.int IntKind.i64 0, Value.slice none 0 0] 55)).grownBy w' none → NoSet w' (some ⟨w4.heap.size, 0, none⟩)) := fun w' h => Or.inr ⟨_, rfl, h.cell hN5 (by simp)⟩
  have H5 := hide (And.intro (H4.out.1.grown hG5) (And.intro (H4.out.2.1.kept hG5 (by simp) (by simp)) (And.intro (H4.out.2.2.1.kept hG5 (by simp)) (grown_trans H4.out.2.2.2 hG5))))
  clear hG5 hN5 H4 e0 e1 e2
  go_wp2_with fail
  refine (one_none _ D 0 Do On I _ HN5.out H5.out.1 H5.out.2.2.1).mono ?_
  rintro e w6 ⟨rfl, hg6⟩
  have H6 := hide (And.intro (H5.out.2.1.kept hg6 (by simp) (by simp)) (And.intro (H5.out.2.2.1.kept hg6 (by simp)) (grown_trans H5.out.2.2.2 hg6)))
  clear hg6 H5 HN5 f0 f1 f2
  go_wp2_with fail
  refine (same_none none _ w6 (Or.inl rfl)).mono ?_
  rintro e w7 ⟨rfl, rfl⟩
  have hG7 : w7.grownBy (w7.alloc (Obj.cells #[Value.bool false, Value.int IntKind.i64 0, Value.slice none 0 0] 55)) none := World.grownBy_alloc w7 _ none
  have hN7 : NoSet (w7.alloc (Obj.cells #[Value.bool false, Value.int IntKind.i64 0, Value.slice none 0 0] 55)) (some ⟨w7.heap.size, 0, none⟩) := by
    refine Or.inr ⟨_, rfl, ?_⟩
    rw [cell_row (heap_alloc_new w7 (Obj.cells [Value.bool false, Value.int IntKind.i64 0, Value.slice none 0 0].toArray 55))]; rfl
  have H7 := hide (And.intro (H6.out.1.kept hG7 (by simp) (by simp)) (And.intro hN7 (grown_trans H6.out.2.2 hG7)))
  clear hG7 hN7 H6
  go_wp2_with fail
  refine (same_no2 b g _ _ _ H7.out.1 H7.out.2.1).mono ?_
  rintro e w8 ⟨rfl, hg8⟩
  have H8 := hide (And.intro (H7.out.1.kept hg8 (by simp) (by simp)) (grown_trans H7.out.2.2 hg8))
  clear hg8 H7
  go_wp2_with fail
  refine (same_none none _ w8 (Or.inl rfl)).mono ?_
  rintro e w9 ⟨rfl, rfl⟩
  go_wp2_with fail
  have hsm := same_any b g b g _ _ _ H8.out.1 H8.out.1
  rw [decide_eq_true rfl] at hsm
  refine hsm.mono ?_
  clear hsm
  rintro e w10 ⟨rfl, hg10⟩
  have H10 := hide (grown_trans H8.out.2 hg10)
  clear hg10
  go_wp2
  go_ret
  exact ⟨rfl, H10.out⟩

end Go.Proofs.YtajdgkbeenalkaaDoor
