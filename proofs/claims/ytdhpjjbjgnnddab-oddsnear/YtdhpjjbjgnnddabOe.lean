/- Contracts of nobody, withMore, Shows, Above. -/
import Derived.Test.YtdhpjjbjgnnddabOd
import Derived.Laws.MakeOwn
namespace Go.Proofs.Ytdhpjjbjgnnddab
open Go.RowKit
attribute [local go_sem ↓] Go.wp_at_zero Go.wp_at_succ
attribute [local go_sem] run_store_float

set_option maxHeartbeats 1000000 in
theorem nobody_any (W0 : World) (n : Nat) (w : World) (hn : n ≤ 4096) (hg : W0.grownBy w none) : Calls Try.prog 15 #[.int .i64 (n : Int)] w (More W0 [4607182418800017408]) := by
  obtain ⟨i0, hi, hz0, hz1, hz2⟩ := info_parts Try.info27
  obtain ⟨w1, hmk, hown, hg1⟩ := run_make_own (P := Try.prog) w W0.heap.size 23 27 i0 (.float .f64 0) 1 Try.underlying23 hi hz0 hz1 .i64 .i64 (n + 1) (by rw [hz2]; omega) (by unfold maxLen; omega) hg.size
  have e : ((n + 1 : Nat) : Int) = (n : Int) + 1 := by omega
  rw [e] at hmk
  clear e
  have hw1 : IntKind.i64.wrap ((n : Int) + 1) = (n : Int) + 1 := by rw [IntKind.wrap_i64]; omega
  have HI := hide (And.intro hi (And.intro hz0 (And.intro hz1 hz2)))
  have HR := hide (And.intro hown (And.intro (grown_trans hg hg1) hg.size))
  clear hi hz0 hz1 hz2 hown hg hg1
  go_enter Try.func15, Try.ntmps15
  go_wp2_with (at_builtin; refine wpList_append_own _ rfl (.tmp 5) (.tmp 6) 23 rfl W0.heap.size 27 i0 (.float .f64 0) 1 8 Try.underlying23 HI.out.1 HI.out.2.1 HI.out.2.2.1 HI.out.2.2.2 rfl (by decide) _ _ _ rfl (HR.out.1.alloc _) ⟨w1.heap.size, 0, none⟩ 1 1 [.float .f64 4607182418800017408] rfl rfl (cell_one_new _ _ _) (by simp [Value.oneCell']) (by unfold maxLen; omega) (by omega) (by have := HR.out.2.1.size; simp; omega) ?_)
  intro v' w2 hown' hgrow _
  have HN : Hid ((∃ g' c', Row w2 W0.heap.size v' g' c' [4607182418800017408]) ∧ W0.grownBy w2 none) := by
    refine ⟨row_of (n := 0 + 1) (by simpa [fv] using hown') (by simp), grown_then (grown_trans HR.out.2.1 (World.grownBy_alloc w1 _ none)) hgrow (fun k e => ?_)⟩
    simp [Value.ownBlock] at e
    exact Or.inl (by rw [← e]; exact HR.out.2.2)
  clear hown' hgrow
  obtain ⟨⟨g', c', hrow⟩, hg2⟩ := HN.out
  have HM := hide (And.intro hrow hg2)
  obtain rfl := hrow.val
  clear hrow hg2 HN
  go_wp2
  go_ret
  exact ⟨_, _, _, rfl, HM.out.1, HM.out.2⟩

set_option maxHeartbeats 1000000 in
theorem withMore_any (W0 : World) (v : Value) (g cap n p : Nat) (w : World) (hrow : Row w W0.heap.size v g cap (rw' (p % 2 ^ 63) 0)) (hg : W0.grownBy w none) (hn : n ≤ 4096) (hp : lik p = true) :
    Calls Try.prog 14 #[v, .int .i64 (n : Int), .float .f64 p] w (More W0 (rw' (p % 2 ^ 63) n)) := by
  have HP := hide (And.intro hp (lik_rung hp).1)
  have HR := hide (And.intro hrow hg)
  clear hp hrow hg
  go_enter Try.func14, Try.ntmps14
  go_wp2
  go_loopg [0, 8] n (fun k v i wr => ∃ (j g c : Nat), k + j = n ∧ i = .int .i64 (j : Int) ∧ Hid (Row wr W0.heap.size v g c (rw' (p % 2 ^ 63) j) ∧ W0.grownBy wr none))
  case atStart => exact ⟨0, _, _, by omega, rfl, HR⟩
  case round =>
    obtain ⟨j, g1, c1, hkj, rfl, HL⟩ := hrel
    by_cases hk : 0 < gk
    · have h1 : (j : Int) < (n : Int) := by omega
      have hw : IntKind.i64.wrap ((j : Int) + 1) = ((j + 1 : Nat) : Int) := by rw [IntKind.wrap_i64]; omega
      have hlen := row_length (p % 2 ^ 63) j
      have HC := hide (more_any W0 _ g1 c1 p (rw' (p % 2 ^ 63) j) wr HL.out.1 HL.out.2 (row_low HP.out.2 j) (by omega) (by omega) HP.out.1)
      clear hlen
      go_wp2_with fail
      refine HC.out.mono ?_
      rintro e w2 ⟨v2, g2, c2, rfl, hrow2, hg2⟩
      have HM := hide (And.intro hrow2 hg2)
      obtain rfl := hrow2.val
      clear hrow2 hg2 HC
      go_wp2
      go_roundg (gk - 1)
      case measure => omega
      case rel => exact ⟨j + 1, g2, c2, by omega, by go_num, HM⟩
    · obtain rfl : j = n := by omega
      go_wp2
      obtain rfl := HL.out.1.val
      go_ret
      exact ⟨_, _, _, rfl, HL.out.1, HL.out.2⟩
end Go.Proofs.Ytdhpjjbjgnnddab
