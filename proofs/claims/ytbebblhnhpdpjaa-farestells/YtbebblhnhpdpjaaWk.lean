/- Fares that are lent: one fare. -/
import Derived.Test.YtbebblhnhpdpjaaWj
namespace Go.Proofs.Ytbebblhnhpdpjaa
open Go.RowKit
attribute [local go_sem ↓] Go.wp_at_zero Go.wp_at_succ
attribute [local go_sem] run_store_float

/-- A fare that was lent: its chances lie in a row of their own, twelve marks behind them. -/
def LeR (w : World) (B : Nat) (v : Value) (xs : List Nat) : Prop := ∃ g cap, v = .slice (some ⟨g, 0, none⟩) xs.length cap ∧ w.ownsRow B 33 1 (.slice (some ⟨g, 0, none⟩) (xs.length + 12) cap) (xs.length + 12) (fv (xs ++ Al.marks 1 12))
set_option maxHeartbeats 1000000 in
theorem lentFare_any (p : Nat) (ao : Option Addr) (n c : Nat) (xs : List Nat) (w : World) (hn : xs.length = n) (hat : At w ao xs) (hnil : ao = none → n = 0 ∧ c = 0) (hb : n ≤ 17592186043904) :
    Calls Try.prog 34 #[.agg #[.float .f64 p, .slice ao n c]] w fun r w' => ∃ g cap, r = .returned (.agg #[.float .f64 p, .slice (some ⟨g, 0, none⟩) n cap]) ∧ w'.ownsRow w.heap.size 33 1 (.slice (some ⟨g, 0, none⟩) (n + 12) cap) (n + 12) (fv (xs ++ Al.marks 1 12)) ∧ w.grownBy w' none := by
  have ga := grown_trans (World.grownBy_alloc w (.cells #[.float .f64 p, .slice ao n c] 48) none) (World.grownBy_alloc _ (.cells #[.float .f64 0, .slice none 0 0] 48) none)
  have HC := hide (Al.lentR_any ao n c xs _ hn (hat.kept ga (fun _ _ e => by cases e)) hnil hb)
  have h0 : ((w.alloc (.cells #[.float .f64 p, .slice ao n c] 48)).alloc (.cells #[.float .f64 0, .slice none 0 0] 48)).heap[w.heap.size]? = some (.cells [Value.float .f64 p, .slice ao n c].toArray 48 (0, 0)) := ((World.grownBy_alloc (w.alloc (.cells #[.float .f64 p, .slice ao n c] 48)) (.cells #[.float .f64 0, .slice none 0 0] 48) none).block w.heap.size (by simp) (by simp)).trans (heap_alloc_new w _)
  have h1 : ((w.alloc (.cells #[.float .f64 p, .slice ao n c] 48)).alloc (.cells #[.float .f64 0, .slice none 0 0] 48)).heap[w.heap.size + 1]? = some (.cells [Value.float .f64 0, .slice none 0 0].toArray 48 (0, 0)) := by
    have h := heap_alloc_new (w.alloc (.cells #[.float .f64 p, .slice ao n c] 48)) (.cells #[.float .f64 0, .slice none 0 0] 48)
    rw [World.size_alloc] at h
    exact h
  have HR := hide (And.intro ga (And.intro h0 h1))
  clear ga h0 h1 hn hat hnil
  go_enter Try.func34, Try.ntmps34
  go_wp2_with fail
  refine HC.out.mono ?_
  rintro r w2 ⟨g, cap, rfl, ho, hg⟩
  obtain ⟨ga, h0, h1⟩ := HR.out
  have k0 := (hg.block _ (row_lt h0) (by simp)).trans h0
  have k1 := (hg.block _ (row_lt h1) (by simp)).trans h1
  have gw := grown_trans ga hg
  have ho2 : w2.ownsRow w.heap.size 33 1 (.slice (some ⟨g, 0, none⟩) (n + 12) cap) (n + 12) (fv (xs ++ Al.marks 1 12)) := own_low ho (by simp; omega)
  have g1 := grown_setCell w2 w.heap.size 1 (.slice (some ⟨g, 0, none⟩) n cap)
  have r1 := (g1.block (w.heap.size + 1) (row_lt k1) (by simp)).trans k1
  have o1 := own_kept ho2 g1 (fun b e => by cases e; exact ⟨_, _, k0⟩) (by decide)
  have g2 := grown_setCell (w2.setCell ⟨w.heap.size, 1, none⟩ (.slice (some ⟨g, 0, none⟩) n cap)) (w.heap.size + 1) 0 (.float .f64 p)
  have r2 := row_setCell r1 0 (.float .f64 p)
  have o2 := own_kept o1 g2 (fun b e => by cases e; exact ⟨_, _, r1⟩) (by decide)
  have g3 := grown_setCell ((w2.setCell ⟨w.heap.size, 1, none⟩ (.slice (some ⟨g, 0, none⟩) n cap)).setCell ⟨w.heap.size + 1, 0, none⟩ (.float .f64 p)) (w.heap.size + 1) 1 (.slice (some ⟨g, 0, none⟩) n cap)
  have r3 := row_setCell r2 1 (.slice (some ⟨g, 0, none⟩) n cap)
  have o3 := own_kept o2 g3 (fun b e => by cases e; exact ⟨_, _, r2⟩) (by decide)
  have gall := grown_then (grown_then (grown_then gw g1 (fun j e => by cases e; exact Or.inl (by omega))) g2 (fun j e => by cases e; exact Or.inl (by omega))) g3 (fun j e => by cases e; exact Or.inl (by omega))
  have HX := hide (And.intro r3 (And.intro o3 gall))
  have c0 : w2.cell? ⟨w.heap.size, 0, none⟩ = some (.float .f64 p) := cell_row k0 0
  have c1 : w2.cell? ⟨w.heap.size, 1, none⟩ = some (.slice ao n c) := cell_row k0 1
  have d0 : w2.cell? ⟨w.heap.size + 1, 0, none⟩ = some (.float .f64 0) := cell_row k1 0
  have d1 : w2.cell? ⟨w.heap.size + 1, 1, none⟩ = some (.slice none 0 0) := cell_row k1 1
  have f1 : w2.frozen? ⟨w.heap.size, 1, none⟩ = false := free_row k0 1
  have e0 : w2.frozen? ⟨w.heap.size + 1, 0, none⟩ = false := free_row k1 0
  have e1 : w2.frozen? ⟨w.heap.size + 1, 1, none⟩ = false := free_row k1 1
  clear ga h0 h1 k0 k1 gw ho2 ho hg HR HC g1 r1 o1 g2 r2 o2 g3 r3 o3 gall
  go_wp2
  refine bodyPost_ret (results_cell_row rfl _ _ (w.heap.size + 1) 48 #[.float .f64 p, .slice (some ⟨g, 0, none⟩) n cap] (0, 0) _ rfl HX.out.1 Try.underlying48 rfl (by kernel_rfl)) rfl ⟨_, _, rfl, HX.out.2.1, HX.out.2.2⟩
set_option maxHeartbeats 1000000 in
theorem markFare_any (i : Nat) (w : World) (hi : i ≤ 1000) : Calls Try.prog 35 #[.int .i64 1, .int .i64 (i : Int)] w fun r w' => r = .returned (.agg #[.float .f64 (Al.mkN 1 i), .slice none 0 0]) ∧ w.grownBy w' none := by
  have hw := Al.mkN_word 1 i
  go_enter Try.func35, Try.ntmps35
  go_wp2_with fail
  refine (Al.markN_any 1 i _ (by omega) (by omega) (by omega)).mono ?_
  rintro e w' ⟨rfl, hw'⟩
  obtain rfl := hw'
  go_wp2
  refine bodyPost_ret (results_cell_row rfl _ _ w.heap.size 48 #[.float .f64 (Al.mkN 1 i), .slice none 0 0] (0, 0) _ rfl (heap_alloc_new w _) Try.underlying48 rfl (by kernel_rfl)) rfl ⟨rfl, grown_alloc w _⟩
set_option maxHeartbeats 1000000 in
theorem sameFare_any (p : Nat) (ao bo : Option Addr) (n c d : Nat) (xs : List Nat) (w : World) (hn : n = xs.length) (ha : At w ao xs) (hb : At w bo xs) (hm : n ≤ 4611686018427387904) :
    Calls Try.prog 44 #[.agg #[.float .f64 p, .slice ao n c], .agg #[.float .f64 p, .slice bo n d]] w fun r w' => r = .returned (.bool true) ∧ w.grownBy w' none := by
  obtain ⟨x0, x1, x2⟩ := box_fa w (.float .f64 p) (.slice ao n c)
  obtain ⟨y0, y1, y2⟩ := box_fa (w.alloc (.cells #[.float .f64 p, .slice ao n c] 48)) (.float .f64 p) (.slice bo n d)
  have HA := hide (And.intro ((ha.grown x2).grown y2) (And.intro ((hb.grown x2).grown y2) (grown_trans x2 y2)))
  have HN := hide hn
  clear ha hb hn x0 x1 x2 y0 y1 y2
  go_enter Try.func44, Try.ntmps44
  go_wp2_with fail
  refine (Al.sameFloat_any p _).mono ?_
  rintro e w' ⟨rfl, hw'⟩
  obtain rfl := hw'
  go_wp2_with fail
  refine (Al.sameR_eq ao bo n c d xs _ HN.out HA.out.1 HA.out.2.1 hm).mono ?_
  rintro e w' ⟨rfl, hg⟩
  have HG := hide (grown_trans HA.out.2.2 hg)
  go_wp2
  go_ret
  exact ⟨rfl, HG.out⟩
set_option maxHeartbeats 1000000 in
theorem keptFare_any (p g cap : Nat) (bo : Option Addr) (n d : Nat) (xs : List Nat) (w : World) (hn : xs.length = n) (hc1 : n + 12 ≤ cap) (hc2 : cap ≤ maxLen) (ha : At w (some ⟨g, 0, none⟩) (xs ++ Al.marks 1 12)) (hb : At w bo xs) (hm : n ≤ 140737488355328) :
    Calls Try.prog 43 #[.agg #[.float .f64 p, .slice (some ⟨g, 0, none⟩) n cap], .agg #[.float .f64 p, .slice bo n d]] w fun r w' => r = .returned (.bool true) ∧ w.grownBy w' none := by
  obtain ⟨x0, x1, x2⟩ := box_fa w (.float .f64 p) (.slice (some ⟨g, 0, none⟩) n cap)
  obtain ⟨y0, y1, y2⟩ := box_fa (w.alloc (.cells #[.float .f64 p, .slice (some ⟨g, 0, none⟩) n cap] 48)) (.float .f64 p) (.slice bo n d)
  have ha1 : At w (some ⟨g, 0, none⟩) xs := fun j u hu => ha j u (by rw [List.getElem?_append_left (List.getElem?_eq_some_iff.1 hu).1]; exact hu)
  have HA := hide (And.intro ((ha.grown x2).grown y2) (And.intro ((hb.grown x2).grown y2) (And.intro ((ha1.grown x2).grown y2) (grown_trans x2 y2))))
  have z0 := y2.cell x0 (by simp)
  have z1 := y2.cell x1 (by simp)
  have HX := hide (And.intro z0 (And.intro z1 (And.intro y0 y1)))
  clear ha hb ha1 x0 x1 x2 y0 y1 y2 z0 z1
  go_enter Try.func43, Try.ntmps43
  go_wp2_with fail
  refine (sameFare_any p (some ⟨g, 0, none⟩) bo n cap d xs _ hn.symm HA.out.2.2.1 HA.out.2.1 (by omega)).mono ?_
  rintro e w' ⟨rfl, hg⟩
  have z0 := hg.cell HX.out.1 (by simp)
  have z1 := hg.cell HX.out.2.1 (by simp)
  have y0 := hg.cell HX.out.2.2.1 (by simp)
  have y1 := hg.cell HX.out.2.2.2 (by simp)
  have HG := hide (And.intro (HA.out.1.grown hg) (And.intro (HA.out.2.1.grown hg) (grown_trans HA.out.2.2.2 hg)))
  have hsz : (w.alloc (.cells #[.float .f64 p, .slice (some ⟨g, 0, none⟩) n cap] 48)).heap.size = w.heap.size + 1 := Array.size_push ..
  rw [hsz] at y0 y1
  clear hg HA HX hsz
  go_wp2_with fail
  refine (Al.keptR_any g cap bo n d xs _ hn hc1 hc2 HG.out.1 HG.out.2.1 hm).mono ?_
  rintro e w3 ⟨rfl, hg3⟩
  have HG3 := hide (grown_trans HG.out.2.2 hg3)
  go_wp2
  go_ret
  exact ⟨rfl, HG3.out⟩
end Go.Proofs.Ytbebblhnhpdpjaa
