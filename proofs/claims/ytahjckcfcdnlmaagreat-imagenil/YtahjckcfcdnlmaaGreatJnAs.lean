/- Texts joined: ImN. -/
import Derived.Test.YtahjckcfcdnlmaaGreatJnAr
/- ImageNil: no book, and one that nobody made. -/
namespace Go.Proofs.YtahjckcfcdnlmaaGreat
open Go.RowKit
attribute [local go_sem ↓] Go.wp_at_zero Go.wp_at_succ
attribute [local go_sem] Oper.semAt_some
/-- No book, whatever is made behind. -/
def NoB (w : World) (v : Value) : Prop := ∀ W, w.grownBy W none → Calls Tryz.prog 39 #[v] W fun e w' => e = .returned (.bool true) ∧ w' = W
theorem NoB.then {w w' : World} {v : Value} (h : NoB w v) (g : w.grownBy w' none) : NoB w' v := fun W k => h W (grown_trans g k)
theorem noB_nil (w : World) : NoB w (.pointer none) := by
  intro W _
  go_enter Tryz.func39, Tryz.ntmps39
  go_wp2
  go_ret
  exact ⟨rfl, rfl⟩
theorem neqNil31 (w : World) (X : Nat) : (binOp .neq 31 (.pointer none) (.pointer (some ⟨X, 0, none⟩))).run Tryz.prog w = .ok (.bool true) w := by kernel_rfl
set_option maxRecDepth 20000 in
theorem noB_zero {w : World} {X : Nat} (h : w.cell? ⟨X, 3, none⟩ = some (.pointer none)) : NoB w (.pointer (some ⟨X, 0, none⟩)) := by
  intro W g
  have c3 := g.cell h (by simp)
  have hq := fun w => neqNil31 w X
  clear h g
  go_enter Tryz.func39, Tryz.ntmps39
  go_wp2
  go_ret
  exact ⟨rfl, rfl⟩
theorem noB_book (w : World) : NoB (w.alloc (.cells [.int .i64 0, .int .i64 0, .int .i64 0, .pointer none, .int .u32 0, .int .i64 0, .pointer none, .slice none 0 0, .pointer none, .pointer none, .map none].toArray 52)) (.pointer (some ⟨w.heap.size, 0, none⟩)) :=
  noB_zero (by rw [cell_row (heap_alloc_new w (.cells [.int .i64 0, .int .i64 0, .int .i64 0, .pointer none, .int .u32 0, .int .i64 0, .pointer none, .slice none 0 0, .pointer none, .pointer none, .map none].toArray 52))]; rfl)
set_option maxHeartbeats 4000000 in
theorem no_shape {w : World} {v : Value} (h : NoB w v) : Calls Tryz.prog 18 #[v] w fun e w' => e = .returned (.agg #[.int .i64 0, .int .i64 0, .int .i64 0]) ∧ w.grownBy w' none := by
  have HC := hide (h _ (grown_alloc w (.cells [.int .i64 0, .int .i64 0, .int .i64 0].toArray 23)))
  have HB := hide (heap_alloc_new w (.cells [.int .i64 0, .int .i64 0, .int .i64 0].toArray 23))
  obtain ⟨d0, d1, d2, d3⟩ := box3 HB.out
  clear h
  go_enter Tryz.func18, Tryz.ntmps18
  go_wp2_with fail
  refine HC.out.mono ?_
  rintro e w1 ⟨rfl, rfl⟩
  go_wp2
  obtain ⟨r1, r2⟩ := row3 _ HB.out (.int .i64 0) (.int .i64 0) (.int .i64 0)
  first
    | exact bodyPost_ret (results_cell_row rfl _ _ w.heap.size 23 #[.int .i64 0, .int .i64 0, .int .i64 0] (0, 0) _ rfl r1 Tryz.underlying23 rfl (by kernel_rfl)) rfl ⟨rfl, gn_set (gn_set (gn_set (grown_alloc w _) (Nat.le_refl _)) (Nat.le_refl _)) (Nat.le_refl _)⟩
    | exact bodyPost_ret (results_cell_row rfl _ _ w.heap.size 23 #[.int .i64 0, .int .i64 0, .int .i64 0] (0, 0) _ rfl (heap_alloc_new w _) Tryz.underlying23 rfl (by kernel_rfl)) rfl ⟨rfl, grown_alloc _ _⟩
set_option maxHeartbeats 4000000 in
theorem imNone_yes {w : World} {v : Value} (h : NoB w v) : Calls Tryz.prog 25 #[v] w fun e w' => e = .returned (.bool true) ∧ w.grownBy w' none := by
  have HS := hide (no_shape h)
  have HC : Hid (∀ W, Calls Tryz.prog 17 #[.agg #[.int .i64 0, .int .i64 0, .int .i64 0]] W fun e w' => e = .returned (.int .i64 90) ∧ W.grownBy w' none) := fun W => Ge.check_no _ _ _ (by unfold Gx.OkS; omega) W
  clear h
  go_enter Tryz.func25, Tryz.ntmps25
  go_wp2_with fail
  refine HS.out.mono ?_
  rintro e w1 ⟨rfl, hg1⟩
  have HG1 := hide hg1
  clear hg1
  go_wp2_with fail
  refine (HC.out _).mono ?_
  rintro e w2 ⟨rfl, hg2⟩
  have HG2 := hide (grown_trans HG1.out hg2)
  clear hg2 HG1
  go_wp2
  go_ret
  exact ⟨rfl, HG2.out⟩
set_option maxHeartbeats 4000000 in
theorem put_none {w : World} {v : Value} (h : NoB w v) : Calls Tryz.prog 9 #[v] w fun e w' => e = .returned (.tuple #[.slice none 0 0, .int .i64 1]) ∧ w.grownBy w' none := by
  have HS := hide (imNone_yes h)
  clear h
  go_enter Tryz.func9, Tryz.ntmps9
  go_wp2_with fail
  refine HS.out.mono ?_
  rintro e w1 ⟨rfl, hg1⟩
  have HG1 := hide hg1
  clear hg1
  go_wp2
  go_ret2
  exact ⟨rfl, HG1.out⟩
set_option maxRecDepth 20000 in
set_option maxHeartbeats 8000000 in
theorem nil_any (w : World) : Calls Tryz.prog 4 #[] w fun e w' => e = .returned (.bool true) ∧ w.grownBy w' none := by
  have HP : Hid (∀ W v, NoB W v → Calls Tryz.prog 9 #[v] W fun e w' => e = .returned (.tuple #[.slice none 0 0, .int .i64 1]) ∧ W.grownBy w' none) := fun W v h => put_none h
  have HG : Hid (∀ W, Calls Tryz.prog 14 #[.agg #[.int .i64 12, .int .i64 8, .int .i64 4], .slice none 0 0] W fun e w' => e = .returned (.tuple #[.pointer none, .int .i64 4]) ∧ W.grownBy w' none) := fun W => get_short (xs := []) rfl (Oc.At.nil _ _) (fun x hx => by cases hx) (fun _ => ⟨rfl, rfl⟩) (Nat.le_refl _) (by unfold maxLen; omega) (by unfold Gx.OkS; omega) (by omega)
  have HG0 : Hid (∀ W, Calls Tryz.prog 14 #[.agg #[.int .i64 0, .int .i64 0, .int .i64 0], .slice none 0 0] W fun e w' => e = .returned (.tuple #[.pointer none, .int .i64 90]) ∧ W.grownBy w' none) := fun W => get_shape (xs := []) rfl (Oc.At.nil _ _) (fun x hx => by cases hx) (fun _ => ⟨rfl, rfl⟩) (Nat.le_refl _) (by unfold maxLen; omega) (by unfold Gx.OkS; omega)
  have HA : Hid (∀ W, Calls Tryz.prog 8 #[] W fun e w' => e = .returned (.bool true) ∧ W.grownBy w' none) := fun W => awake_any W
  go_enter Tryz.func4, Tryz.ntmps4
  go_wp2_with fail
  refine (HP.out _ _ (noB_nil _)).mono ?_
  rintro e w1 ⟨rfl, hg1⟩
  have H1 := hide hg1
  clear hg1
  go_wp2_with fail
  refine (HP.out _ _ (noB_book w1)).mono ?_
  rintro e w2 ⟨rfl, hg2⟩
  have H2 := hide (grown_trans H1.out (grown_trans (grown_alloc w1 _) hg2))
  clear hg2
  go_wp2_with fail
  refine (HG.out _).mono ?_
  rintro e w3 ⟨rfl, hg3⟩
  have H3 := hide (grown_trans H2.out (grown_trans (grown_alloc w2 _) hg3))
  clear hg3
  go_wp2_with fail
  refine (HG0.out _).mono ?_
  rintro e w4 ⟨rfl, hg4⟩
  have H4 := hide (grown_trans H3.out hg4)
  clear hg4
  go_wp2_with fail
  refine (HA.out _).mono ?_
  rintro e w5 ⟨rfl, hg5⟩
  have H5 := hide (grown_trans H4.out hg5)
  clear hg5
  go_wp2
  go_ret
  exact ⟨rfl, H5.out⟩
end Go.Proofs.YtahjckcfcdnlmaaGreat
