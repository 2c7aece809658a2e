/- The contracts of the statements' own helpers: Pick, thirty, awake, some. -/
import Derived.Test.YtomoclicbjkpoabDoorCf
namespace Go.Proofs.YtomoclicbjkpoabDoor
open Go.RowKit Cx
attribute [local go_sem ↓] Go.wp_at_zero Go.wp_at_succ

theorem tmod_neg (x : Int) (n : Nat) (hn : 1 ≤ n) (h : x.tmod (n : Int) < 0) : x.tmod (n : Int) + (n : Int) = x % (n : Int) := by
  have h1 := Int.tmod_eq_emod (a := x) (b := (n : Int))
  have h2 := Int.emod_nonneg x (show (n : Int) ≠ 0 by omega)
  have h3 := Int.emod_lt_of_pos x (show (0 : Int) < (n : Int) by omega)
  rw [h1] at h ⊢
  split at h
  · omega
  · rename_i h4
    rw [if_neg h4]
    simp
theorem tmod_nonneg (x : Int) (n : Nat) (hn : 1 ≤ n) (h : 0 ≤ x.tmod (n : Int)) : x.tmod (n : Int) = x % (n : Int) := by
  have h1 := Int.tmod_eq_emod (a := x) (b := (n : Int))
  have h2 := Int.emod_nonneg x (show (n : Int) ≠ 0 by omega)
  have h3 := Int.emod_lt_of_pos x (show (0 : Int) < (n : Int) by omega)
  rw [h1] at h ⊢
  split
  · omega
  · rename_i h4
    rw [if_neg h4] at h
    simp at h
    omega
set_option maxHeartbeats 400000 in
theorem pick_any (x N : Int) (n : Nat) (w : World) (hN : N = (n : Int)) (hn : 1 ≤ n) (hn2 : n ≤ 4611686018427387904) :
    Calls Tryd.prog 14 #[.int .i64 x, .int .i64 N] w fun e w' => e = .returned (.int .i64 (x % (n : Int))) ∧ w' = w := by
  subst hN
  have h1 : (1 : Int) ≤ (n : Int) := by omega
  have h2 : ((n : Int) == 0) = false := by simp; omega
  have hb := Int.tmod_lt_of_pos x (show (0 : Int) < (n : Int) by omega)
  have hb2 := Int.lt_tmod_of_pos x (show (0 : Int) < (n : Int) by omega)
  have hr1 := tmod_neg x n hn
  have hr2 := tmod_nonneg x n hn
  by_cases hs : x.tmod (n : Int) < 0
  · have hr := hr1 hs
    have HR := hide hr
    clear hr hr1 hr2
    go_enter Tryd.func14, Tryd.ntmps14
    go_wp2
    go_ret
    exact ⟨by rw [← HR.out]; rfl, rfl⟩
  · have hs2 : 0 ≤ x.tmod (n : Int) := by omega
    have hr := hr2 hs2
    have HR := hide hr
    clear hr hr1 hr2
    go_enter Tryd.func14, Tryd.ntmps14
    go_wp2
    go_ret
    exact ⟨by rw [← HR.out]; rfl, rfl⟩
/-- Pick, told as a number of its own. -/
theorem pick_nat (x : Int) (n : Nat) (hn : 1 ≤ n) (hn2 : n ≤ 4611686018427387904) (w : World) :
    Calls Tryd.prog 14 #[.int .i64 x, .int .i64 (n : Int)] w fun e w' => e = .returned (.int .i64 ((x % (n : Int)).toNat : Int)) ∧ w' = w := by
  have h := pick_any x n n w rfl hn hn2
  have h2 := Int.emod_nonneg x (show (n : Int) ≠ 0 by omega)
  rw [Int.toNat_of_nonneg h2]
  exact h

theorem ok_thirty : Ok 30 6 [3] := by decide
set_option maxHeartbeats 1000000 in
theorem thirty_any (w : World) : Calls Tryd.prog 11 #[] w fun e w' => ∃ g, e = .returned (cbV 30 6 (.slice (some ⟨g, 0, none⟩) 1 1)) ∧ CbIn w' (some ⟨g, 0, none⟩) 1 1 [3] ∧ w.grownBy w' none := by
  unfold cbV
  have hat := at_one w (.cells #[.int .i64 30, .int .i64 6, .slice (some ⟨w.heap.size + 1, 0, none⟩) 1 1] 25) 3
  have hg : Hid (_ ∧ _) := And.intro (grown2 w (.cells #[.int .i64 30, .int .i64 6, .slice (some ⟨w.heap.size + 1, 0, none⟩) 1 1] 25) (.cells #[.int .i64 3] 3)) hat
  clear hat
  go_enter Tryd.func11, Tryd.ntmps11
  go_wp2
  refine bodyPost_ret (results_cell_row rfl _ _ w.heap.size 25 #[.int .i64 30, .int .i64 6, .slice (some ⟨w.heap.size + 1, 0, none⟩) 1 1] (0, 0) _ rfl ?_ Tryd.underlying25 rfl (by kernel_rfl)) rfl ⟨_, rfl, ⟨hg.out.2, rfl, (fun e => by cases e), by omega, by unfold maxLen; omega, by omega⟩, hg.out.1⟩
  exact heap_kept (heap_alloc_new w _) (grown_alloc _ _) (by simp)

theorem txt8 : txt 6 8 = [50, 67] := by decide
theorem prs179 : prs 30 6 ([51, 48] ++ [70]) = some 179 := by decide +kernel
theorem prsno : prs 30 6 ([51, 49] ++ [65]) = none := by decide +kernel
theorem bes78 : bes 6 [3] 7 8 = true := by decide
theorem bes89 : bes 6 [3] 8 9 = false := by decide
set_option maxHeartbeats 1000000 in
theorem awake_any (w : World) (hE : Er w) : Calls Tryd.prog 4 #[] w fun e w' => e = .returned (.bool true) ∧ w.grownBy w' none := by
  have T := hide thirty_any
  have hE := hide hE
  go_enter Tryd.func4, Tryd.ntmps4
  go_wp2_with fail
  refine (T.out _).mono ?_
  rintro e w1 ⟨g1, rfl, hc1, hg1⟩
  have G1 := hide hg1
  have H1 := hide hc1
  clear hg1 hc1
  unfold cbV
  go_wp2_with fail
  have X1 := text_ok 30 6 _ 1 1 [3] 8 w1 H1.out ok_thirty (by decide)
  rw [txt8] at X1
  refine X1.mono ?_
  clear X1
  rintro e w2 ⟨rfl, hg2⟩
  have G2 := hide (grown_trans G1.out hg2)
  clear hg2 G1 H1
  unfold str
  go_wp2_with fail
  refine (T.out _).mono ?_
  rintro e w3 ⟨g3, rfl, hc3, hg3⟩
  have G3 := hide (grown_trans G2.out hg3)
  have H3 := hide hc3
  clear hg3 hc3 G2
  unfold cbV
  go_wp2_with fail
  have X3 := parse_ok 30 6 _ 1 1 [3] [51, 48] 70 (by decide) w3 (hE.out.grown G3.out) H3.out ok_thirty
  rw [prs179] at X3
  refine X3.mono ?_
  clear X3
  rintro e w4 ⟨rfl, hg4⟩
  have G4 := hide (grown_trans G3.out hg4)
  clear hg4 G3 H3
  unfold prsV
  simp only
  go_wp2_with fail
  refine (T.out _).mono ?_
  rintro e w5 ⟨g5, rfl, hc5, hg5⟩
  have G5 := hide (grown_trans G4.out hg5)
  have H5 := hide hc5
  clear hg5 hc5 G4
  unfold cbV
  go_wp2_with fail
  have X5 := beside_ok 30 6 _ 1 1 [3] 7 8 w5 H5.out ok_thirty (by decide) (by decide)
  rw [bes78] at X5
  refine X5.mono ?_
  clear X5
  rintro e w6 ⟨rfl, hg6⟩
  have G6 := hide (grown_trans G5.out hg6)
  clear hg6 G5 H5
  go_wp2_with fail
  refine (T.out _).mono ?_
  rintro e w7 ⟨g7, rfl, hc7, hg7⟩
  have G7 := hide (grown_trans G6.out hg7)
  have H7 := hide hc7
  clear hg7 hc7 G6
  unfold cbV
  go_wp2_with fail
  have X7 := beside_ok 30 6 _ 1 1 [3] 8 9 w7 H7.out ok_thirty (by decide) (by decide)
  rw [bes89] at X7
  refine X7.mono ?_
  clear X7
  rintro e w8 ⟨rfl, hg8⟩
  have G8 := hide (grown_trans G7.out hg8)
  clear hg8 G7 H7
  go_wp2_with fail
  refine (T.out _).mono ?_
  rintro e w9 ⟨g9, rfl, hc9, hg9⟩
  have G9 := hide (grown_trans G8.out hg9)
  have H9 := hide hc9
  clear hg9 hc9 G8
  unfold cbV
  go_wp2_with fail
  have X9 := parse_ok 30 6 _ 1 1 [3] [51, 49] 65 (by decide) w9 (hE.out.grown G9.out) H9.out ok_thirty
  rw [prsno] at X9
  refine X9.mono ?_
  clear X9
  rintro e w10 ⟨rfl, hg10⟩
  have G10 := hide (grown_trans G9.out hg10)
  clear hg10 G9 H9
  unfold prsV
  simp only
  go_wp2
  go_ret
  exact ⟨rfl, G10.out⟩
end Go.Proofs.YtomoclicbjkpoabDoor
