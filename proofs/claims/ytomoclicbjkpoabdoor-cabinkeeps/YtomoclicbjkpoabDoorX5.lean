/- SameSpans, CopySpans. -/
import Derived.Test.YtomoclicbjkpoabDoorCi
namespace Go.Proofs.YtomoclicbjkpoabDoor
open Go.RowKit Cx
attribute [local go_sem ↓] Go.wp_at_zero Go.wp_at_succ

theorem prg_pos {W : Nat} {L : List Int} {N : Nat} (hN : 0 < N) : 0 < (prg W L N).length := by
  unfold prg
  rw [List.length_map]
  exact List.length_pos_of_mem (a := 0) (by rw [List.mem_filter]; exact ⟨by simpa using hN, by simp [bg]⟩)
/-- What a row of spans that is not empty leads to. -/
theorem span_row {w : World} {base n : Nat} {v : Value} {xs : List Value} (h : w.ownsRow base 52 2 v n xs) (hn : 0 < n) : ∃ g cap cur, v = .slice (some ⟨g, 0, none⟩) n cap ∧ base ≤ g ∧ w.heap[g]? = some (.cells cur 52 (0, 0)) ∧ n ≤ cap ∧ cur.toList.take (n * 2) = xs := by
  rcases h.2 with ⟨rfl, rfl⟩ | ⟨g, cap, cur, rfl, hb, hg, h1, h2, h3, h4⟩
  · omega
  · exact ⟨g, cap, cur, rfl, hb, hg, h1, h4⟩
theorem span_cell {w : World} {g n : Nat} {cur : Array Value} {xs : List Value} (hg : w.heap[g]? = some (.cells cur 52 (0, 0))) (ht : cur.toList.take (n * 2) = xs) {i : Nat} {v : Value} (hi : xs[i]? = some v) : w.cell? ⟨g, i, none⟩ = some v := by
  rw [cell_of_row w g i cur 52 (0, 0) hg, ← Array.getElem?_toList]
  rw [← ht, List.getElem?_take] at hi
  split at hi
  · exact hi
  · cases hi
set_option maxHeartbeats 1000000 in
theorem sameSpans_eq {w : World} {v u : Value} {b1 b2 : Nat} {l : List (Nat × Nat)} (hv : w.ownsRow b1 52 2 v l.length (spC l)) (hu : w.ownsRow b2 52 2 u l.length (spC l)) (hM : l.length ≤ 65536) :
    Calls Tryd.prog 8 #[v, u] w fun e w' => e = .returned (.bool true) ∧ w.grownBy w' none := by
  obtain ⟨ao, c, rfl⟩ := span_form hv
  obtain ⟨bo, d, rfl⟩ := span_form hu
  have HA := hide (And.intro hv hu)
  clear hv hu
  generalize hn : l.length = n at *
  have HN := hide hn
  clear hn
  go_enter Tryd.func8, Tryd.ntmps8
  go_wp2
  go_loopg [5] n (fun k i wr => ∃ j : Nat, k + j = n ∧ i = .int .i64 j ∧ w.grownBy wr none)
  case atStart => exact ⟨0, by omega, rfl, grown_refl _ _⟩
  case round =>
    obtain ⟨j, hkj, rfl, hg⟩ := hrel
    by_cases hk : 0 < gk
    · obtain ⟨hv, hu⟩ := HA.out
      have hj : j < l.length := by rw [HN.out]; omega
      obtain ⟨g1, c1, cur1, e1, -, hg1, -, ht1⟩ := span_row hv (by omega)
      obtain ⟨g2, c2, cur2, e2, -, hg2, -, ht2⟩ := span_row hu (by omega)
      cases e1
      cases e2
      obtain ⟨hx, hy⟩ := spC_get (List.getElem?_eq_getElem hj)
      have x1 := span_cell (heap_kept hg1 hg (by simp)) ht1 hx
      have y1 := span_cell (heap_kept hg1 hg (by simp)) ht1 hy
      have x2 := span_cell (heap_kept hg2 hg (by simp)) ht2 hx
      have y2 := span_cell (heap_kept hg2 hg (by simp)) ht2 hy
      have h1 : (0 : Int) ≤ (j : Int) := by omega
      have h2 : (j : Int) < (n : Int) := by omega
      generalize (l[j].1 : Int) = p at *
      generalize (l[j].2 : Int) = q at *
      clear hv hu hg1 hg2 ht1 ht2 hx hy hj
      go_wp2
      go_quiet (fail)
      go_wp2
      go_roundg (gk - 1)
      case measure => omega
      case rel => exact ⟨j + 1, by omega, by go_num, grown_trans hg (grown_drewN _ _ _)⟩
    · have hj : j = n := by omega
      subst hj
      go_wp2
      go_ret
      exact ⟨rfl, hg⟩


theorem spC_one (l : List (Nat × Nat)) : ∀ u ∈ spC l, u.oneCell' = true := by
  intro u hu
  simp only [spC, List.mem_flatMap] at hu
  obtain ⟨p, _, h⟩ := hu
  simp at h
  rcases h with rfl | rfl <;> rfl
set_option maxHeartbeats 1000000 in
theorem copySpans_any {base : Nat} (v : Value) (l : List (Nat × Nat)) (w : World) (h : w.ownsRow base 52 2 v l.length (spC l)) (h0 : 0 < l.length) (hl : l.length ≤ 65536) :
    Calls Tryd.prog 7 #[v] w fun e w' => ∃ v', e = .returned v' ∧ w'.ownsRow w.heap.size 52 2 v' l.length (spC l) ∧ w.grownBy w' none := by
  obtain ⟨g, cap, cur, rfl, -, hg, hnc, ht⟩ := span_row h h0
  have HC : Hid (∀ j u, (spC l)[j]? = some u → w.cell? ((⟨g, 0, none⟩ : Addr).add j) = some u) := h.cells (g := g) rfl
  obtain ⟨n, hn⟩ : ∃ n, n = l.length := ⟨_, rfl⟩
  have HN := hide (And.intro hn (spC_len l))
  rw [← hn] at h0 hl hnc ⊢
  clear h hg ht hn
  obtain ⟨i0, hi, hz0, hz1, hz2⟩ := info_parts Tryd.info52
  have HI := hide (And.intro hi (And.intro hz0 (And.intro hz1 hz2)))
  clear hi hz0 hz1 hz2
  go_enter Tryd.func7, Tryd.ntmps7
  go_wp2_with (at_builtin; refine wpList_append_own _ rfl (.tmp 4) (.tmp 5) 27 rfl w.heap.size 52 i0 (.agg #[.int .i64 0, .int .i64 0]) 2 16 Tryd.underlying27 HI.out.1 HI.out.2.1 HI.out.2.2.1 HI.out.2.2.2 rfl (by decide) (.slice none 0 0) 0 [] rfl (World.ownsRow_nil _ _ _ _) ⟨g, 0, none⟩ n cap (spC l) rfl (by rw [HN.out.2, HN.out.1]; omega) HC.out (spC_one l) (by unfold maxLen; omega) (by omega) (Nat.le_refl _) ?_)
  intro v' w' hown hgr _
  obtain ⟨ao', cap', rfl⟩ := span_form hown
  have H := hide (And.intro hown hgr)
  clear hown hgr
  go_wp2
  go_ret
  exact ⟨_, rfl, by simpa using H.out.1, grown_then (grown_refl w none) H.out.2 (fun k e => by cases e)⟩
end Go.Proofs.YtomoclicbjkpoabDoor
