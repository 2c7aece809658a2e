/- No index. -/
import Derived.Test.YtoocaioilpgmeaaAw
namespace Go.Proofs.Ytoocaioilpgmeaa
open Go.RowKit Ix Go.Shelf
attribute [local go_sem ↓] Go.wp_at_zero Go.wp_at_succ
section
variable {w : World} {v : Value}
theorem find_no (h : NoIx w v) (k : Int) : Calls Try.prog 29 #[v, .int .u32 k] w fun e w' => e = .returned (.tuple #[.int .i64 0, .bool false]) ∧ w' = w := by
  have hn := none_no h
  clear h
  go_enter Try.func29, Try.ntmps29
  go_wp2
  go_step3
  go_wp2_with fail
  refine hn.mono ?_
  clear hn
  rintro e w1 ⟨rfl, hw1⟩
  obtain rfl := hw1.symm
  go_wp2
  try rw [Exit.noGoto_ret]
  go_ret2
  exact ⟨rfl, rfl⟩
theorem get_no (h : NoIx w v) (k : Int) : Calls Try.prog 8 #[v, .int .u32 k] w fun e w' => e = .returned (.tuple #[.int .i64 0, .bool false]) ∧ w' = w := by
  have hn := find_no h k
  clear h
  go_enter Try.func8, Try.ntmps8
  go_wp2_with fail
  refine hn.mono ?_
  clear hn
  rintro e w1 ⟨rfl, hw1⟩
  obtain rfl := hw1.symm
  go_wp2
  go_ret2
  exact ⟨rfl, rfl⟩
theorem drop_no (h : NoIx w v) (k : Int) : Calls Try.prog 12 #[v, .int .u32 k] w fun e w' => e = .returned (.bool false) ∧ w' = w := by
  have hn := find_no h k
  clear h
  go_enter Try.func12, Try.ntmps12
  go_wp2_with fail
  refine hn.mono ?_
  clear hn
  rintro e w1 ⟨rfl, hw1⟩
  obtain rfl := hw1.symm
  go_wp2
  go_ret
  exact ⟨rfl, rfl⟩
theorem set_no (h : NoIx w v) (k x : Int) : Calls Try.prog 11 #[v, .int .u32 k, .int .i64 x] w fun e w' => e = .returned (.bool false) ∧ w' = w := by
  have hn := find_no h k
  clear h
  go_enter Try.func11, Try.ntmps11
  go_wp2_with fail
  refine hn.mono ?_
  clear hn
  rintro e w1 ⟨rfl, hw1⟩
  obtain rfl := hw1.symm
  go_wp2
  go_ret
  exact ⟨rfl, rfl⟩
theorem put_no (h : NoIx w v) (k x : Int) : Calls Try.prog 10 #[v, .int .u32 k, .int .i64 x] w fun e w' => e = .returned (.int .i64 1) ∧ w' = w := by
  have hn := none_no h
  clear h
  go_enter Try.func10, Try.ntmps10
  go_wp2_with fail
  refine hn.mono ?_
  clear hn
  rintro e w1 ⟨rfl, hw1⟩
  obtain rfl := hw1.symm
  go_wp2
  go_ret
  exact ⟨rfl, rfl⟩
theorem most_no (h : NoIx w v) : Calls Try.prog 13 #[v] w fun e w' => e = .returned (.int .i64 0) ∧ w' = w := by
  have hn := none_no h
  clear h
  go_enter Try.func13, Try.ntmps13
  go_wp2_with fail
  refine hn.mono ?_
  clear hn
  rintro e w1 ⟨rfl, hw1⟩
  obtain rfl := hw1.symm
  go_wp2
  go_ret
  exact ⟨rfl, rfl⟩
theorem len_no (h : NoIx w v) : Calls Try.prog 14 #[v] w fun e w' => e = .returned (.int .i64 0) ∧ w' = w := by
  have hn := none_no h
  clear h
  go_enter Try.func14, Try.ntmps14
  go_wp2_with fail
  refine hn.mono ?_
  clear hn
  rintro e w1 ⟨rfl, hw1⟩
  obtain rfl := hw1.symm
  go_wp2
  go_ret
  exact ⟨rfl, rfl⟩
theorem steps_no (h : NoIx w v) : Calls Try.prog 15 #[v] w fun e w' => e = .returned (.int .i64 0) ∧ w' = w := by
  have hn := none_no h
  clear h
  go_enter Try.func15, Try.ntmps15
  go_wp2_with fail
  refine hn.mono ?_
  clear hn
  rintro e w1 ⟨rfl, hw1⟩
  obtain rfl := hw1.symm
  go_wp2
  go_ret
  exact ⟨rfl, rfl⟩
theorem slots_no (h : NoIx w v) : Calls Try.prog 16 #[v] w fun e w' => e = .returned (.int .i64 0) ∧ w' = w := by
  have hn := none_no h
  clear h
  go_enter Try.func16, Try.ntmps16
  go_wp2_with fail
  refine hn.mono ?_
  clear hn
  rintro e w1 ⟨rfl, hw1⟩
  obtain rfl := hw1.symm
  go_wp2
  go_ret
  exact ⟨rfl, rfl⟩
end
/-- What the first i puts leave. -/
structure Fil (M : List (Nat × Int)) (i : Nat) : Prop where
  len : M.length = i
  at_ : ∀ j, lk M (j * 65537) = if j < i then some (j : Int) else none
  one : lk M 1 = none
theorem Fil.nil : Fil [] 0 := ⟨rfl, fun j => by simp [lk], rfl⟩
theorem Fil.next {M : List (Nat × Int)} {i : Nat} (h : Fil M i) (hA : Asc M) (hi : i < 4096) : putE M (i * 65537) 4096 = 0 ∧ Fil (putM M (i * 65537) 4096 (i : Int)) (i + 1) := by
  have hk : lk M (i * 65537) = none := by rw [h.at_, if_neg (by omega)]
  have hl : ¬ M.length = 4096 := by rw [h.len]; omega
  refine ⟨by simp [putE, hk, hl], ?_⟩
  have e : putM M (i * 65537) 4096 (i : Int) = ins M (i * 65537, (i : Int)) := by simp [putM, hk, hl]
  rw [e]
  refine ⟨by rw [ins_length, h.len], fun j => ?_, ?_⟩
  · rw [lk_ins hA hk, h.at_]
    by_cases hj : j = i
    · subst hj; simp
    · rw [if_neg (by omega)]
      by_cases h2 : j < i
      · rw [if_pos h2, if_pos (by omega)]
      · rw [if_neg h2, if_neg (by omega)]
  · rw [lk_ins hA hk, if_neg (by omega)]; exact h.one
/-- What is left when each second one below i was dropped. -/
structure Dro (M : List (Nat × Int)) (i : Nat) : Prop where
  len : M.length + i = 4096
  at_ : ∀ j, j < 4096 → lk M (j * 65537) = if j % 2 = 0 ∧ j < 2 * i then none else some (j : Int)
  one : lk M 1 = none
theorem Fil.dro {M : List (Nat × Int)} (h : Fil M 4096) : Dro M 0 := ⟨h.len, fun j hj => by rw [h.at_, if_pos hj, if_neg (by omega)], h.one⟩
theorem Dro.next {M : List (Nat × Int)} {i : Nat} (h : Dro M i) (hA : Asc M) (hi : i < 2048) : (lk M (2 * i * 65537)).isSome = true ∧ Dro (dr M (2 * i * 65537)) (i + 1) := by
  have hk : lk M (2 * i * 65537) = some ((2 * i : Nat) : Int) := by rw [h.at_ _ (by omega), if_neg (by omega)]
  refine ⟨by rw [hk]; rfl, ?_, fun j hj => ?_, ?_⟩
  · have := dr_length hA ((lk_some hA).1 hk); have := h.len; omega
  · rw [lk_dr hA, h.at_ j hj]
    by_cases e : j = 2 * i
    · subst e; rw [if_pos rfl, if_pos (by omega)]
    · rw [if_neg (by omega)]
      by_cases h2 : j % 2 = 0 ∧ j < 2 * i
      · rw [if_pos h2, if_pos (by omega)]
      · rw [if_neg h2, if_neg (by omega)]
  · rw [lk_dr hA, if_neg (by omega)]; exact h.one
end Go.Proofs.Ytoocaioilpgmeaa
