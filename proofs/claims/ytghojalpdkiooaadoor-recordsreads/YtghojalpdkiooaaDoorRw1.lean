/- The walk of RecordsReads. -/
import Derived.Test.YtghojalpdkiooaaDoorRf
import Derived.Test.YtghojalpdkiooaaDoorRi
namespace Go.Proofs.YtghojalpdkiooaaDoor
open Go.RowKit
attribute [local go_sem ↓] Go.wp_at_zero Go.wp_at_succ
set_option maxRecDepth 20000 in
set_option maxHeartbeats 4000000 in
theorem recordsReads_any (ao : Option Addr) (n cap : Nat) (xs : List Int) (hn : xs.length = n) (hnil : ao = none → n = 0 ∧ cap = 0) (hS : n ≤ 140737488351232) (hB : Byt xs) (hc : n ≤ cap) (w : World) (hat : At w ao xs) (hT : Tab w) :
    Calls Tryd.prog 5 #[.slice ao n cap] w fun e w' => e = .returned (.bool true) ∧ w.grownBy w' none := by
  have HX := hide (And.intro hB (And.intro hn (And.intro hat hT)))
  have q := lent_any ao n cap xs w hn hat hnil (by omega)
  clear hB hat hT
  go_enter Tryd.func5, Tryd.ntmps5
  go_wp2_with fail
  refine q.mono ?_
  clear q
  rintro e w1 ⟨v, rfl, hl, hg⟩
  obtain ⟨g, lc, rfl, l1, l2, l3, l4, l5, cur, l6, l7⟩ := hl.all
  obtain ⟨_, _, hv, _, _, _, _, a5, _⟩ := hl.at
  cases hv
  have HL := hide (And.intro l1 (And.intro l2 (And.intro l5 (And.intro l6 hg))))
  have q := get_any xs HX.out.1 (some ⟨g, 0, none⟩) n lc w1 hn a5 (by omega) (by omega) (HX.out.2.2.2.new hg)
  clear l1 l2 l3 l4 l5 l6 l7 hl a5 hg
  rw [hn]
  obtain ⟨r, hr⟩ : ∃ r, r = getR xs := ⟨_, rfl⟩
  rw [← hr] at q
  obtain ⟨⟨rk, ri, rs, ru, rc⟩, code⟩ := r
  unfold rcV at q
  dsimp only at q
  have HR := hide hr
  clear hr
  go_wp2_with fail
  refine q.mono ?_
  clear q
  rintro e w2 ⟨rfl, hg⟩
  have b3 := heap_alloc_new w2 (.cells [Value.int .i64 rk, .int .u32 ri, .int .i64 rs, .int .i64 ru, .int .i64 rc].toArray 25)
  have g3 := World.grownBy_alloc w2 (.cells #[.int .i64 rk, .int .u32 ri, .int .i64 rs, .int .i64 ru, .int .i64 rc] 25) none
  have G3 := hide (And.intro b3 (grown_trans hg g3))
  clear b3 g3 hg
  go_wp2_with fail
  generalize w2.alloc (.cells #[.int .i64 rk, .int .u32 ri, .int .i64 rs, .int .i64 ru, .int .i64 rc] 25) = w3 at *
  generalize w2.heap.size = X at *
  have q := get_ref xs HX.out.1 ao n cap w3 hn (HX.out.2.2.1.kept (grown_trans HL.out.2.2.2.2 G3.out.2) (fun _ _ e => by cases e)) hc
  rw [← HR.out] at q
  unfold rcV at q
  dsimp only at q
  refine q.mono ?_
  clear q
  rintro e w4 ⟨rfl, hg⟩
  have b5 := heap_alloc_new w4 (.cells [Value.int .i64 rk, .int .u32 ri, .int .i64 rs, .int .i64 ru, .int .i64 rc].toArray 25)
  have g5 := World.grownBy_alloc w4 (.cells #[.int .i64 rk, .int .u32 ri, .int .i64 rs, .int .i64 ru, .int .i64 rc] 25) none
  have G5 := hide (And.intro b5 (And.intro (((grown_trans hg g5).block _ (row_lt G3.out.1) (by simp)).trans G3.out.1) (grown_trans G3.out.2 (grown_trans hg g5))))
  clear b5 g5 hg G3
  obtain ⟨x0, x1, x2, x3, x4⟩ := box5 G5.out.1
  obtain ⟨y0, y1, y2, y3, y4⟩ := box5 G5.out.2.1
  go_wp2_with fail
  generalize w4.alloc (.cells #[.int .i64 rk, .int .u32 ri, .int .i64 rs, .int .i64 ru, .int .i64 rc] 25) = w5 at *
  clear x0 x1 x2 x3 x4 y0 y1 y2 y3 y4
  have q := kept_any g lc ao n cap xs w5 hn (by have := HL.out.1; omega) HL.out.2.1 (HL.out.2.2.1.kept G5.out.2.2 (fun _ _ e => by cases e)) (HX.out.2.2.1.kept (grown_trans HL.out.2.2.2.2 G5.out.2.2) (fun _ _ e => by cases e)) (by omega)
  refine q.mono ?_
  clear q
  rintro e w6 ⟨rfl, hg⟩
  have G6 := hide (grown_trans HL.out.2.2.2.2 (grown_trans G5.out.2.2 hg))
  clear hg
  go_wp2_with fail
  refine (awake_any w6 (HX.out.2.2.2.new G6.out)).mono ?_
  rintro e w7 ⟨rfl, hg⟩
  have G7 := hide (grown_trans G6.out hg)
  clear hg
  go_wp2
  go_ret
  exact ⟨rfl, G7.out⟩
end Go.Proofs.YtghojalpdkiooaaDoor
