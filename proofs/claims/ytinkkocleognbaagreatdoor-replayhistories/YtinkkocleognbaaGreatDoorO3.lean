/- The document's book: Copy. -/
import Derived.Test.YtinkkocleognbaaGreatDoorO2
import Derived.Deep.CutRange
import Derived.Deep.DeepCutAuto
namespace Go.Proofs.YtinkkocleognbaaGreatDoor
open Go.RowKit Go.Shelf
attribute [local go_sem ↓] Go.wp_at_zero Go.wp_at_succ
attribute [local go_sem] Oper.semAt_some
theorem own_src {w : World} {lo : Nat} {v : Value} {X : List Bg} (h : w.ownsRow lo 108 3 v X.length (bgs X)) : v = .slice none 0 0 ∧ X = [] ∨ ∃ ad cap, v = .slice (some ad) X.length cap ∧ ∀ j u, (bgs X)[j]? = some u → w.cell? (Addr.add ad j) = some u := by
  by_cases hn : 0 < X.length
  · obtain ⟨g, cap, cur, rfl, -, hg, -, -, -, ht⟩ := Ix.own_row h hn
    refine Or.inr ⟨⟨g, 0, none⟩, cap, rfl, fun j u hj => ?_⟩
    rw [Addr.add_lit, Nat.zero_add]
    exact Ix.own_cell hg ht hj
  · have hX : X = [] := List.eq_nil_of_length_eq_zero (by omega)
    subst hX
    rcases h.2 with ⟨hv, -⟩ | ⟨g, cap, cur, hv, -⟩
    · exact Or.inl ⟨hv, rfl⟩
    · exact Or.inr ⟨_, cap, hv, fun j u hj => by simp [bgs] at hj⟩
set_option maxRecDepth 20000 in
set_option maxHeartbeats 8000000 in
theorem dcopy_any {w : World} {lo d : Nat} {v : Value} {S : Sb} (h : Db w lo d v S) (hX : S.L.length ≤ 65536) : Calls Tryz.prog 24 #[.pointer (some ⟨d, 0, none⟩)] w fun e w' => ∃ d' v', e = .returned (.pointer (some ⟨d', 0, none⟩)) ∧ Db w' w.heap.size d' v' S ∧ w.grownBy w' none := by
  have hsrc := own_src h.row
  obtain ⟨w1, hw1⟩ : ∃ w1, w1 = w.alloc (.cells (dbc S v).toArray 76) := ⟨_, rfl⟩
  have g1 : w.grownBy w1 none := by rw [hw1]; exact grown_alloc _ _
  have b1 : w1.heap[w.heap.size]? = some (.cells (dbc S v).toArray 76 (0, 0)) := by rw [hw1]; exact heap_alloc_new w _
  have s1 : w1.heap.size = w.heap.size + 1 := by rw [hw1]; simp
  obtain ⟨w2, hw2⟩ : ∃ w2, w2 = w1.alloc (.cells #[] 108) := ⟨_, rfl⟩
  have g2 : w1.grownBy w2 none := by rw [hw2]; exact grown_alloc _ _
  have b2 : w2.heap[w.heap.size + 1]? = some (.cells #[] 108 (0, 0)) := by rw [hw2, ← s1]; exact heap_alloc_new w1 _
  have hr2 : w2.ownsRow (w.heap.size + 1) 108 3 (.slice (some ⟨w.heap.size + 1, 0, none⟩) 0 0) 0 [] := ⟨rfl, Or.inr ⟨w.heap.size + 1, 0, #[], rfl, Nat.le_refl _, b2, Nat.le_refl _, by unfold maxLen; omega, rfl, rfl⟩⟩
  have c0 := h.cell (j := 0) rfl
  have c1 := h.cell (j := 1) rfl
  have c2 := h.cell (j := 2) rfl
  have c3 := h.cell (j := 3) rfl
  have c4 := h.cell (j := 4) rfl
  have c5 := h.cell (j := 5) rfl
  have c6 := h.cell (j := 6) rfl
  have d4 : w2.cell? ⟨d, 4, none⟩ = some v := (h.then (grown_trans g1 g2)).cell rfl
  have HE := hide hw1
  have HD := hide (And.intro g1 (And.intro g2 (And.intro b1 (And.intro hr2 s1))))
  obtain ⟨i0, hi0, hz0, hz1, hz2⟩ := info_parts Tryz.info108
  have HI0 := hide (And.intro hi0 (And.intro hz0 (And.intro hz1 hz2)))
  have hsz2 : Hid (w.heap.size + 1 ≤ w2.heap.size) := by rw [← s1]; exact g2.size
  have hsrc2 : v = .slice none 0 0 ∧ S.L = [] ∨ ∃ ad cap, v = .slice (some ad) S.L.length cap ∧ ∀ j u, (bgs S.L)[j]? = some u → w2.cell? (Addr.add ad j) = some u := by
    rcases hsrc with h1 | ⟨ad, cap, h1, h2⟩
    · exact Or.inl h1
    · exact Or.inr ⟨ad, cap, h1, fun j u hj => (grown_trans g1 g2).cell (h2 j u hj) (by simp)⟩
  have HX := hide hX
  have KEY : Hid (∀ (w3 : World) (v' : Value), w3.ownsRow (w.heap.size + 1) 108 3 v' S.L.length (bgs S.L) → w2.grownBy w3 (some (w.heap.size + 1)) → w3.heap[w.heap.size]? = some (.cells (dbc S v).toArray 76 (0, 0)) ∧ Db (w3.setCell ⟨w.heap.size, 4, none⟩ v') w.heap.size w.heap.size v' S ∧ w.grownBy (w3.setCell ⟨w.heap.size, 4, none⟩ v') none) := fun w3 v' ho hg => by
    have hb : w3.heap[w.heap.size]? = some (.cells (dbc S v).toArray 76 (0, 0)) := (hg.block _ (row_lt (by rw [g2.block _ (row_lt b1) (by simp)]; exact b1)) (by simp)).trans ((g2.block _ (row_lt b1) (by simp)).trans b1)
    have hs := row_setCell hb 4 v'
    have hgs := grown_setCell w3 w.heap.size 4 v'
    refine ⟨hb, ⟨hs, ?_, Nat.le_refl _⟩, ?_⟩
    · refine Ix.row_keep (own_base ho (Nat.le_succ _)) (fun k hk => ?_)
      have := (Ix.own_block ho hk)
      obtain ⟨h1, cur, h2⟩ := this
      exact hgs.block k (row_lt h2) (fun e => by simp at e; omega)
    · exact grown_then (grown_then (grown_trans g1 g2) hg (fun j e => by cases e; exact Or.inl (Nat.le_succ _))) hgs (fun j e => by cases e; exact Or.inl (Nat.le_refl _))
  subst hw2
  clear h hsrc hw1 g1 b1 s1 g2 b2 hr2 hX hi0 hz0 hz1 hz2
  unfold dbc at c0 c1 c2 c3 c4 c5 c6
  have hs1 : w1.heap.size = w.heap.size + 1 := HD.out.2.2.2.2
  rcases hsrc2 with ⟨rfl, hL⟩ | ⟨ad, cap, rfl, hn⟩
  · have hkey := KEY.out _ (.slice (some ⟨w.heap.size + 1, 0, none⟩) 0 0) (by rw [hL]; exact HD.out.2.2.2.1) (grown_refl _ _)
    rw [World.setCell_alloc_past _ _ _ _ (by rw [HD.out.2.2.2.2]; exact Nat.lt_succ_self _)] at hkey
    have HKY := hide hkey
    have z4 := free_row HKY.out.1 4
    have y4 : (w1.alloc (.cells #[] 108)).cell? ⟨w.heap.size, 4, none⟩ = some (.slice none 0 0) := by rw [cell_row HKY.out.1]; rfl
    clear hkey
    go_enter Tryz.func24, Tryz.ntmps24
    go_upto_region 2 with fail
    rw [show World.alloc w (.cells #[.bool true, .int .i64 (S.a : Int), .int .i64 (S.b : Int), .int .i64 (S.c : Int), .slice none 0 0, .int .u32 (S.n : Int), .int .i64 S.t] 76) = w1 from HE.out.symm]
    go_wp2
    go_ret
    exact ⟨_, _, rfl, HKY.out.2.1, HKY.out.2.2⟩
  · have HN := hide hn
    clear hn
    go_enter Tryz.func24, Tryz.ntmps24
    go_upto_region 2 with fail
    rw [show World.alloc w (.cells #[.bool true, .int .i64 (S.a : Int), .int .i64 (S.b : Int), .int .i64 (S.c : Int), .slice (some ad) S.L.length cap, .int .u32 (S.n : Int), .int .i64 S.t] 76) = w1 from HE.out.symm]
    go_wp2_with (at_builtin; refine wpList_append_own _ rfl (.tmp 7) (.tmp 11) 32 rfl (w.heap.size + 1) 108 i0 (.agg #[.int .u32 0, .int .i64 0, .int .i64 0]) 3 24 Tryz.underlying32 HI0.out.1 HI0.out.2.1 HI0.out.2.2.1 HI0.out.2.2.2 rfl (by decide) (.slice (some ⟨w.heap.size + 1, 0, none⟩) 0 0) 0 [] rfl HD.out.2.2.2.1 ad S.L.length cap (bgs S.L) rfl (bgs_length _) HN.out (bgs_one _) (by have := HX.out; unfold maxLen; omega) (by have := HX.out; omega) hsz2.out ?_)
    intro v' w3 ho hg hv
    clear hv
    have hkey := KEY.out w3 v' ho hg
    obtain ⟨so, c2, rfl, -⟩ := Ix.own_form ho
    have HKY := hide hkey
    have z4 := free_row HKY.out.1 4
    have y4 : w3.cell? ⟨w.heap.size, 4, none⟩ = some (.slice (some ad) S.L.length cap) := by rw [cell_row HKY.out.1]; rfl
    clear hkey ho hg
    go_wp2
    go_ret
    exact ⟨_, _, rfl, HKY.out.2.1, HKY.out.2.2⟩
end Go.Proofs.YtinkkocleognbaaGreatDoor
