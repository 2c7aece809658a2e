/- SameSpans; the document's Blocks. -/
import Derived.Test.YtomoclicbjkpoaaDoorEb
namespace Go.Proofs.YtomoclicbjkpoaaDoor
open Go.RowKit Cx
attribute [local go_sem ↓] Go.wp_at_zero Go.wp_at_succ

/-- What a row of spans that is not empty leads to. -/
theorem span_row {w : World} {base n : Nat} {v : Value} {xs : List Value} (h : w.ownsRow base 53 2 v n xs) (hn : 0 < n) : ∃ g cap cur, v = .slice (some ⟨g, 0, none⟩) n cap ∧ base ≤ g ∧ w.heap[g]? = some (.cells cur 53 (0, 0)) ∧ n ≤ cap ∧ cur.toList.take (n * 2) = xs := by
  rcases h.2 with ⟨rfl, rfl⟩ | ⟨g, cap, cur, rfl, hb, hg, h1, h2, h3, h4⟩
  · omega
  · exact ⟨g, cap, cur, rfl, hb, hg, h1, h4⟩
theorem span_cell {w : World} {g n : Nat} {cur : Array Value} {xs : List Value} (hg : w.heap[g]? = some (.cells cur 53 (0, 0))) (ht : cur.toList.take (n * 2) = xs) {i : Nat} {v : Value} (hi : xs[i]? = some v) : w.cell? ⟨g, i, none⟩ = some v := by
  rw [cell_of_row w g i cur 53 (0, 0) hg, ← Array.getElem?_toList]
  rw [← ht, List.getElem?_take] at hi
  split at hi
  · exact hi
  · cases hi
set_option maxHeartbeats 1000000 in
theorem sameSpans_eq {w : World} {v u : Value} {b1 b2 : Nat} {l : List (Nat × Nat)} (hv : w.ownsRow b1 53 2 v l.length (spC l)) (hu : w.ownsRow b2 53 2 u l.length (spC l)) (hM : l.length ≤ 65536) :
    Calls Tryd.prog 18 #[v, u] w fun e w' => e = .returned (.bool true) ∧ w.grownBy w' none := by
  obtain ⟨ao, c, rfl⟩ := span_form hv
  obtain ⟨bo, d, rfl⟩ := span_form hu
  have HA := hide (And.intro hv hu)
  clear hv hu
  generalize hn : l.length = n at *
  have HN := hide hn
  clear hn
  go_enter Tryd.func18, Tryd.ntmps18
  go_wp2
  go_loopg [5] n (fun k i wr => ∃ j : Nat, k + j = n ∧ i = .int .i64 j ∧ w.grownBy wr none)
  case atStart => exact ⟨0, by omega, rfl, grown_refl _ _⟩
  case round =>
    obtain ⟨j, hkj, rfl, hg⟩ := hrel
    by_cases hk : 0 < gk
    · obtain ⟨hv, hu⟩ := HA.out
      have hj : j < l.length := by rw [HN.out]; omega
      obtain ⟨g1, c1, cur1, e1, -, hg1, -, ht1⟩ := span_row hv (by omega)
      obtain ⟨g2, c2, cur2, e2, -, hg2, -, ht2⟩ := span_row hu (by omega)
      cases e1
      cases e2
      obtain ⟨hx, hy⟩ := spC_get (List.getElem?_eq_getElem hj)
      have x1 := span_cell (heap_kept hg1 hg (by simp)) ht1 hx
      have y1 := span_cell (heap_kept hg1 hg (by simp)) ht1 hy
      have x2 := span_cell (heap_kept hg2 hg (by simp)) ht2 hx
      have y2 := span_cell (heap_kept hg2 hg (by simp)) ht2 hy
      have h1 : (0 : Int) ≤ (j : Int) := by omega
      have h2 : (j : Int) < (n : Int) := by omega
      generalize (l[j].1 : Int) = p at *
      generalize (l[j].2 : Int) = q at *
      clear hv hu hg1 hg2 ht1 ht2 hx hy hj
      go_wp2
      go_quiet (fail)
      go_wp2
      go_roundg (gk - 1)
      case measure => omega
      case rel => exact ⟨j + 1, by omega, by go_num, grown_trans hg (grown_drewN _ _ _)⟩
    · have hj : j = n := by omega
      subst hj
      go_wp2
      go_ret
      exact ⟨rfl, hg⟩

theorem spC_bump {l : List (Nat × Nat)} (h : l ≠ []) : ∃ p : Nat × Nat, l[l.length - 1]? = some p ∧ spC (bump l) = (spC l).set ((l.length - 1) * 2 + 1) (.int .i64 ((p.2 : Int) + 1)) := by
  obtain ⟨xs, a, rfl⟩ : ∃ xs a, l = xs ++ [a] := by
    rcases List.eq_nil_or_concat l with e | ⟨xs, a, e⟩
    · exact absurd e h
    · exact ⟨xs, a, by rw [e, List.concat_eq_append]⟩
  refine ⟨a, by simp, ?_⟩
  rw [bump_snoc, spC_app, spC_app, show (xs ++ [a]).length - 1 = xs.length by simp, List.set_append_right _ _ (by rw [spC_len]; omega), spC_len, show xs.length * 2 + 1 - 2 * xs.length = 1 by omega]
  simp [spC]
theorem bump_len (l : List (Nat × Nat)) : (bump l).length = l.length := by unfold bump; rw [List.length_modify]
/-- One cell of a row of spans is written. -/
theorem span_set {w : World} {base n g i : Nat} {cap : Nat} {xs : List Value} {u : Value} (h : w.ownsRow base 53 2 (.slice (some ⟨g, 0, none⟩) n cap) n xs) (_hi : i < xs.length) : (w.setCell ⟨g, i, none⟩ u).ownsRow base 53 2 (.slice (some ⟨g, 0, none⟩) n cap) n (xs.set i u) := by
  obtain ⟨hl, h⟩ := h
  refine ⟨by rw [List.length_set]; exact hl, ?_⟩
  rcases h with ⟨h, _⟩ | ⟨g', cap', cur, hv, hb, hgc, h1, h2, h3, h4⟩
  · cases h
  · cases hv
    refine Or.inr ⟨g, cap, cur.setIfInBounds i u, rfl, hb, ?_, h1, h2, by simpa using h3, ?_⟩
    · have h5 : w.heap[g]? = some (.cells cur.toList.toArray 53 (0, 0)) := by simpa using hgc
      have := row_setCell h5 i u
      rw [this]
      simp only [Option.some.injEq, Obj.cells.injEq, and_true]
      exact Array.ext' (by simp)
    · rw [Array.toList_setIfInBounds, List.take_set, h4]
end Go.Proofs.YtomoclicbjkpoaaDoor
