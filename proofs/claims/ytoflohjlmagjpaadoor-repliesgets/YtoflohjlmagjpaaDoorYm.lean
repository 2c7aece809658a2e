/- The document's replies: Fields, put, Check. -/
import Derived.Test.YtoflohjlmagjpaaDoorYh
namespace Go.Proofs.YtoflohjlmagjpaaDoor
open Go.RowKit
attribute [local go_sem ↓] Go.wp_at_zero Go.wp_at_succ
theorem rf1 (w : World) : Calls Tryd.prog 26 #[.int .i64 1] w fun e w' => e = .returned (.tuple #[.agg #[.bool true, .bool false, .bool true, .bool false], .bool true]) ∧ w.grownBy w' none := by
  have HB := hide (And.intro (heap_alloc_new w (.cells [Value.bool true, .bool false, .bool true, .bool false].toArray 54)) (World.grownBy_alloc w (.cells [Value.bool true, .bool false, .bool true, .bool false].toArray 54) none))
  go_enter Tryd.func26, Tryd.ntmps26
  go_wp2
  have e0 := cell_row HB.out.1 0
  have e1 := cell_row HB.out.1 1
  have e2 := cell_row HB.out.1 2
  have e3 := cell_row HB.out.1 3
  have HG := hide HB.out.2
  clear HB
  generalize w.alloc (.cells [Value.bool true, .bool false, .bool true, .bool false].toArray 54) = w9 at *
  refine bodyPost_ret (v := .tuple #[.agg #[.bool true, .bool false, .bool true, .bool false], .bool true]) ?_ rfl ?_
  · rw [results_cell_tmp rfl]; go_simp
  exact ⟨rfl, HG.out⟩
theorem rf2 (w : World) : Calls Tryd.prog 26 #[.int .i64 2] w fun e w' => e = .returned (.tuple #[.agg #[.bool false, .bool false, .bool false, .bool false], .bool true]) ∧ w.grownBy w' none := by
  have HB := hide (And.intro (heap_alloc_new w (.cells [Value.bool false, .bool false, .bool false, .bool false].toArray 54)) (World.grownBy_alloc w (.cells [Value.bool false, .bool false, .bool false, .bool false].toArray 54) none))
  go_enter Tryd.func26, Tryd.ntmps26
  go_wp2
  have e0 := cell_row HB.out.1 0
  have e1 := cell_row HB.out.1 1
  have e2 := cell_row HB.out.1 2
  have e3 := cell_row HB.out.1 3
  have HG := hide HB.out.2
  clear HB
  generalize w.alloc (.cells [Value.bool false, .bool false, .bool false, .bool false].toArray 54) = w9 at *
  refine bodyPost_ret (v := .tuple #[.agg #[.bool false, .bool false, .bool false, .bool false], .bool true]) ?_ rfl ?_
  · rw [results_cell_tmp rfl]; go_simp
  exact ⟨rfl, HG.out⟩
theorem rf3 (w : World) : Calls Tryd.prog 26 #[.int .i64 3] w fun e w' => e = .returned (.tuple #[.agg #[.bool false, .bool false, .bool false, .bool false], .bool true]) ∧ w.grownBy w' none := by
  have HB := hide (And.intro (heap_alloc_new w (.cells [Value.bool false, .bool false, .bool false, .bool false].toArray 54)) (World.grownBy_alloc w (.cells [Value.bool false, .bool false, .bool false, .bool false].toArray 54) none))
  go_enter Tryd.func26, Tryd.ntmps26
  go_wp2
  have e0 := cell_row HB.out.1 0
  have e1 := cell_row HB.out.1 1
  have e2 := cell_row HB.out.1 2
  have e3 := cell_row HB.out.1 3
  have HG := hide HB.out.2
  clear HB
  generalize w.alloc (.cells [Value.bool false, .bool false, .bool false, .bool false].toArray 54) = w9 at *
  refine bodyPost_ret (v := .tuple #[.agg #[.bool false, .bool false, .bool false, .bool false], .bool true]) ?_ rfl ?_
  · rw [results_cell_tmp rfl]; go_simp
  exact ⟨rfl, HG.out⟩
theorem rf4 (w : World) : Calls Tryd.prog 26 #[.int .i64 4] w fun e w' => e = .returned (.tuple #[.agg #[.bool false, .bool true, .bool false, .bool false], .bool true]) ∧ w.grownBy w' none := by
  have HB := hide (And.intro (heap_alloc_new w (.cells [Value.bool false, .bool true, .bool false, .bool false].toArray 54)) (World.grownBy_alloc w (.cells [Value.bool false, .bool true, .bool false, .bool false].toArray 54) none))
  go_enter Tryd.func26, Tryd.ntmps26
  go_wp2
  have e0 := cell_row HB.out.1 0
  have e1 := cell_row HB.out.1 1
  have e2 := cell_row HB.out.1 2
  have e3 := cell_row HB.out.1 3
  have HG := hide HB.out.2
  clear HB
  generalize w.alloc (.cells [Value.bool false, .bool true, .bool false, .bool false].toArray 54) = w9 at *
  refine bodyPost_ret (v := .tuple #[.agg #[.bool false, .bool true, .bool false, .bool false], .bool true]) ?_ rfl ?_
  · rw [results_cell_tmp rfl]; go_simp
  exact ⟨rfl, HG.out⟩
theorem rf5 (w : World) : Calls Tryd.prog 26 #[.int .i64 5] w fun e w' => e = .returned (.tuple #[.agg #[.bool false, .bool true, .bool true, .bool false], .bool true]) ∧ w.grownBy w' none := by
  have HB := hide (And.intro (heap_alloc_new w (.cells [Value.bool false, .bool true, .bool true, .bool false].toArray 54)) (World.grownBy_alloc w (.cells [Value.bool false, .bool true, .bool true, .bool false].toArray 54) none))
  go_enter Tryd.func26, Tryd.ntmps26
  go_wp2
  have e0 := cell_row HB.out.1 0
  have e1 := cell_row HB.out.1 1
  have e2 := cell_row HB.out.1 2
  have e3 := cell_row HB.out.1 3
  have HG := hide HB.out.2
  clear HB
  generalize w.alloc (.cells [Value.bool false, .bool true, .bool true, .bool false].toArray 54) = w9 at *
  refine bodyPost_ret (v := .tuple #[.agg #[.bool false, .bool true, .bool true, .bool false], .bool true]) ?_ rfl ?_
  · rw [results_cell_tmp rfl]; go_simp
  exact ⟨rfl, HG.out⟩
theorem rf6 (w : World) : Calls Tryd.prog 26 #[.int .i64 6] w fun e w' => e = .returned (.tuple #[.agg #[.bool true, .bool false, .bool true, .bool false], .bool true]) ∧ w.grownBy w' none := by
  have HB := hide (And.intro (heap_alloc_new w (.cells [Value.bool true, .bool false, .bool true, .bool false].toArray 54)) (World.grownBy_alloc w (.cells [Value.bool true, .bool false, .bool true, .bool false].toArray 54) none))
  go_enter Tryd.func26, Tryd.ntmps26
  go_wp2
  have e0 := cell_row HB.out.1 0
  have e1 := cell_row HB.out.1 1
  have e2 := cell_row HB.out.1 2
  have e3 := cell_row HB.out.1 3
  have HG := hide HB.out.2
  clear HB
  generalize w.alloc (.cells [Value.bool true, .bool false, .bool true, .bool false].toArray 54) = w9 at *
  refine bodyPost_ret (v := .tuple #[.agg #[.bool true, .bool false, .bool true, .bool false], .bool true]) ?_ rfl ?_
  · rw [results_cell_tmp rfl]; go_simp
  exact ⟨rfl, HG.out⟩
theorem rf7 (w : World) : Calls Tryd.prog 26 #[.int .i64 7] w fun e w' => e = .returned (.tuple #[.agg #[.bool false, .bool false, .bool true, .bool false], .bool true]) ∧ w.grownBy w' none := by
  have HB := hide (And.intro (heap_alloc_new w (.cells [Value.bool false, .bool false, .bool true, .bool false].toArray 54)) (World.grownBy_alloc w (.cells [Value.bool false, .bool false, .bool true, .bool false].toArray 54) none))
  go_enter Tryd.func26, Tryd.ntmps26
  go_wp2
  have e0 := cell_row HB.out.1 0
  have e1 := cell_row HB.out.1 1
  have e2 := cell_row HB.out.1 2
  have e3 := cell_row HB.out.1 3
  have HG := hide HB.out.2
  clear HB
  generalize w.alloc (.cells [Value.bool false, .bool false, .bool true, .bool false].toArray 54) = w9 at *
  refine bodyPost_ret (v := .tuple #[.agg #[.bool false, .bool false, .bool true, .bool false], .bool true]) ?_ rfl ?_
  · rw [results_cell_tmp rfl]; go_simp
  exact ⟨rfl, HG.out⟩
theorem rf8 (w : World) : Calls Tryd.prog 26 #[.int .i64 8] w fun e w' => e = .returned (.tuple #[.agg #[.bool false, .bool false, .bool false, .bool true], .bool true]) ∧ w.grownBy w' none := by
  have HB := hide (And.intro (heap_alloc_new w (.cells [Value.bool false, .bool false, .bool false, .bool true].toArray 54)) (World.grownBy_alloc w (.cells [Value.bool false, .bool false, .bool false, .bool true].toArray 54) none))
  go_enter Tryd.func26, Tryd.ntmps26
  go_wp2
  have e0 := cell_row HB.out.1 0
  have e1 := cell_row HB.out.1 1
  have e2 := cell_row HB.out.1 2
  have e3 := cell_row HB.out.1 3
  have HG := hide HB.out.2
  clear HB
  generalize w.alloc (.cells [Value.bool false, .bool false, .bool false, .bool true].toArray 54) = w9 at *
  refine bodyPost_ret (v := .tuple #[.agg #[.bool false, .bool false, .bool false, .bool true], .bool true]) ?_ rfl ?_
  · rw [results_cell_tmp rfl]; go_simp
  exact ⟨rfl, HG.out⟩
theorem rf9 (w : World) : Calls Tryd.prog 26 #[.int .i64 9] w fun e w' => e = .returned (.tuple #[.agg #[.bool false, .bool false, .bool false, .bool true], .bool true]) ∧ w.grownBy w' none := by
  have HB := hide (And.intro (heap_alloc_new w (.cells [Value.bool false, .bool false, .bool false, .bool true].toArray 54)) (World.grownBy_alloc w (.cells [Value.bool false, .bool false, .bool false, .bool true].toArray 54) none))
  go_enter Tryd.func26, Tryd.ntmps26
  go_wp2
  have e0 := cell_row HB.out.1 0
  have e1 := cell_row HB.out.1 1
  have e2 := cell_row HB.out.1 2
  have e3 := cell_row HB.out.1 3
  have HG := hide HB.out.2
  clear HB
  generalize w.alloc (.cells [Value.bool false, .bool false, .bool false, .bool true].toArray 54) = w9 at *
  refine bodyPost_ret (v := .tuple #[.agg #[.bool false, .bool false, .bool false, .bool true], .bool true]) ?_ rfl ?_
  · rw [results_cell_tmp rfl]; go_simp
  exact ⟨rfl, HG.out⟩
theorem rf10 (w : World) : Calls Tryd.prog 26 #[.int .i64 10] w fun e w' => e = .returned (.tuple #[.agg #[.bool false, .bool false, .bool false, .bool true], .bool true]) ∧ w.grownBy w' none := by
  have HB := hide (And.intro (heap_alloc_new w (.cells [Value.bool false, .bool false, .bool false, .bool true].toArray 54)) (World.grownBy_alloc w (.cells [Value.bool false, .bool false, .bool false, .bool true].toArray 54) none))
  go_enter Tryd.func26, Tryd.ntmps26
  go_wp2
  have e0 := cell_row HB.out.1 0
  have e1 := cell_row HB.out.1 1
  have e2 := cell_row HB.out.1 2
  have e3 := cell_row HB.out.1 3
  have HG := hide HB.out.2
  clear HB
  generalize w.alloc (.cells [Value.bool false, .bool false, .bool false, .bool true].toArray 54) = w9 at *
  refine bodyPost_ret (v := .tuple #[.agg #[.bool false, .bool false, .bool false, .bool true], .bool true]) ?_ rfl ?_
  · rw [results_cell_tmp rfl]; go_simp
  exact ⟨rfl, HG.out⟩
theorem rfN (k : Int) (hk : ¬ (1 ≤ k ∧ k ≤ 10)) (w : World) : Calls Tryd.prog 26 #[.int .i64 k] w fun e w' => e = .returned (.tuple #[.agg #[.bool false, .bool false, .bool false, .bool false], .bool false]) ∧ w.grownBy w' none := by
  have HB := hide (And.intro (heap_alloc_new w (.cells [Value.bool false, .bool false, .bool false, .bool false].toArray 54)) (World.grownBy_alloc w (.cells [Value.bool false, .bool false, .bool false, .bool false].toArray 54) none))
  have a1 : (k == 1) = false := by simp; omega
  have b1 : decide (k = 1) = false := decide_eq_false (by omega)
  have a2 : (k == 2) = false := by simp; omega
  have b2 : decide (k = 2) = false := decide_eq_false (by omega)
  have a3 : (k == 3) = false := by simp; omega
  have b3 : decide (k = 3) = false := decide_eq_false (by omega)
  have a4 : (k == 4) = false := by simp; omega
  have b4 : decide (k = 4) = false := decide_eq_false (by omega)
  have a5 : (k == 5) = false := by simp; omega
  have b5 : decide (k = 5) = false := decide_eq_false (by omega)
  have a6 : (k == 6) = false := by simp; omega
  have b6 : decide (k = 6) = false := decide_eq_false (by omega)
  have a7 : (k == 7) = false := by simp; omega
  have b7 : decide (k = 7) = false := decide_eq_false (by omega)
  have a8 : (k == 8) = false := by simp; omega
  have b8 : decide (k = 8) = false := decide_eq_false (by omega)
  have a9 : (k == 9) = false := by simp; omega
  have b9 : decide (k = 9) = false := decide_eq_false (by omega)
  have a10 : (k == 10) = false := by simp; omega
  have b10 : decide (k = 10) = false := decide_eq_false (by omega)
  clear hk
  go_enter Tryd.func26, Tryd.ntmps26
  go_wp2
  have e0 := cell_row HB.out.1 0
  have e1 := cell_row HB.out.1 1
  have e2 := cell_row HB.out.1 2
  have e3 := cell_row HB.out.1 3
  have HG := hide HB.out.2
  clear HB
  generalize w.alloc (.cells [Value.bool false, .bool false, .bool false, .bool false].toArray 54) = w9 at *
  refine bodyPost_ret (v := .tuple #[.agg #[.bool false, .bool false, .bool false, .bool false], .bool false]) ?_ rfl ?_
  · rw [results_cell_tmp rfl]; go_simp
  exact ⟨rfl, HG.out⟩
theorem rfields_any (k : Int) (w : World) : Calls Tryd.prog 26 #[.int .i64 k] w fun e w' => e = .returned (.tuple #[.agg #[.bool (hI k 0), .bool (hS k 0), .bool (hU k 0), .bool (hC k 0)], .bool (decide (1 ≤ k ∧ k ≤ 10))]) ∧ w.grownBy w' none := by
  by_cases hk : 1 ≤ k ∧ k ≤ 10
  · have hkk : k = 1 ∨ k = 2 ∨ k = 3 ∨ k = 4 ∨ k = 5 ∨ k = 6 ∨ k = 7 ∨ k = 8 ∨ k = 9 ∨ k = 10 := by omega
    rcases hkk with rfl | rfl | rfl | rfl | rfl | rfl | rfl | rfl | rfl | rfl
    · exact rf1 w
    · exact rf2 w
    · exact rf3 w
    · exact rf4 w
    · exact rf5 w
    · exact rf6 w
    · exact rf7 w
    · exact rf8 w
    · exact rf9 w
    · exact rf10 w
  · rw [decide_eq_false hk, show hI k 0 = false from decide_eq_false (by omega), show hS k 0 = false from decide_eq_false (by omega), show hU k 0 = false from decide_eq_false (by omega), show hC k 0 = false from decide_eq_false (by omega)]
    exact rfN k hk w
theorem dv_pow (N : Int) (j : Nat) : N / 2 ^ (8 * j) / 256 = N / 2 ^ (8 * (j + 1)) := by
  rw [pow_succ8, Int.mul_comm, Int.ediv_ediv_of_nonneg (Int.le_of_lt (Int.pow_pos (by omega)))]
set_option maxHeartbeats 2000000 in
theorem rput1_any (lo : Nat) (v0 : Value) (bs : List Int) (N S : Int) (size : Nat) (w : World) (hS : S = (size : Int)) (hs : size ≤ 8) (h0 : 0 ≤ N) (h1 : N < 18446744073709551616) (hown : w.ownsRow lo 5 1 v0 bs.length (bs.map (Value.int .u8))) (hlo : lo ≤ w.heap.size) (hb : bs.length ≤ 100) :
    Calls Tryd.prog 27 #[v0, .int .u64 N, .int .i64 S] w fun e w' => ∃ v, e = .returned v ∧ w'.ownsRow lo 5 1 v (bs ++ leB N size).length ((bs ++ leB N size).map (Value.int .u8)) ∧ (∀ {k : Nat} {ob : Obj}, k < lo → w.heap[k]? = some ob → w'.heap[k]? = some ob) ∧ lo ≤ w'.heap.size ∧ (∀ {b : World}, b.heap.size ≤ lo → b.grownBy w none → b.grownBy w' none) := by
  subst hS
  obtain ⟨a0, c0, rfl, _⟩ := own_at hown
  have HB := hide hb
  have HOO := hide hown
  have HLO := hide hlo
  clear hown hlo
  go_enter Tryd.func27, Tryd.ntmps27
  go_wp2
  go_loopg [0, 1, 7] size (fun k v n i wr => ∃ j : Nat, k + j = size ∧ n = .int .u64 (N / 2 ^ (8 * j)) ∧ i = .int .i64 j ∧ wr.ownsRow lo 5 1 v (bs ++ leB N j).length ((bs ++ leB N j).map (Value.int .u8)) ∧ (∀ {k : Nat} {ob : Obj}, k < lo → w.heap[k]? = some ob → wr.heap[k]? = some ob) ∧ lo ≤ wr.heap.size ∧ (∀ {b : World}, b.heap.size ≤ lo → b.grownBy w none → b.grownBy wr none))
  case atStart => exact ⟨0, by omega, by simp, rfl, by simpa [leB] using HOO.out, fun _ h => h, HLO.out, fun _ h => h⟩
  case round =>
    obtain ⟨j, hkj, rfl, rfl, hown, hk1, hk2, hk3⟩ := hrel
    have HO := hide (And.intro hown (And.intro @hk1 (And.intro hk2 @hk3)))
    have hm0 : 0 ≤ N / 2 ^ (8 * j) := Int.ediv_nonneg h0 (Int.le_of_lt (Int.pow_pos (by omega)))
    have hm1 : N / 2 ^ (8 * j) < 18446744073709551616 := by
      have : N / 2 ^ (8 * j) ≤ N := Int.ediv_le_self _ h0
      omega
    have HD := hide (And.intro (leB_succ N j) (dv_pow N j))
    by_cases hk : 0 < gk
    · clear hown hk1 hk2 hk3
      generalize N / 2 ^ (8 * j) = M at *
      go_wp2_with (at_builtin; refine wpList_append_at rfl (.tmp 13) (.tmp 17) rfl lo _ (bs ++ leB N j).length ((bs ++ leB N j).map (Value.int .u8)) rfl (HO.out.1.alloc _) (some ⟨_, 0, none⟩) 1 1 [M % 256] rfl rfl ?_ (fun e => by cases e) (by rw [List.length_append, leB_length]; have := HB.out; omega) ?_ ?_)
      · exact at_new _ [M % 256] _ rfl
      · have := HO.out.2.2.1; simp; omega
      · intro v' w' hown' hg'
        go_wp2
        go_roundg (gk - 1)
        case measure => omega
        case rel =>
          refine ⟨j + 1, by omega, by rw [← HD.out.2], by go_num, ?_, ?_, ?_, ?_⟩
          · rw [HD.out.1]; simpa [Nat.add_assoc] using hown'
          · intro k ob hkl h
            have h2 := HO.out.2.1 hkl h
            have g1 := World.grownBy_alloc wr (.cells #[Value.int .u8 (M % 256)] 5) none
            exact (hg'.block k (row_lt (box_new h2 g1)) (fun e => by have := (HO.out.1.lt k e.symm).1; omega)).trans (box_new h2 g1)
          · have := hg'.size; have := HO.out.2.2.1; rw [World.size_alloc] at *; omega
          · intro b hbl hbg
            exact grown_then (grown_trans (HO.out.2.2.2 hbl hbg) (World.grownBy_alloc _ _ none)) hg' (fun k e => Or.inl (Nat.le_trans hbl (HO.out.1.lt k e).1))
    · have hj : j = size := by omega
      subst hj
      obtain ⟨ao', cap', rfl, hr⟩ := own_at hown
      clear hown hk1 hk2 hk3 hr
      go_wp2
      go_ret
      exact ⟨_, rfl, HO.out.1, fun hk h => HO.out.2.1 hk h, HO.out.2.2.1, fun h g => HO.out.2.2.2 h g⟩
end Go.Proofs.YtoflohjlmagjpaaDoor
