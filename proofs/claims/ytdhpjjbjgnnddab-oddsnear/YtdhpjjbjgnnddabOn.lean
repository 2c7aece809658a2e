/- Contracts of Pick, NaN, Inf, awake. -/
import Derived.Test.YtdhpjjbjgnnddabOm
namespace Go.Proofs.Ytdhpjjbjgnnddab
open Go.RowKit
attribute [local go_sem ↓] Go.wp_at_zero Go.wp_at_succ
attribute [local go_sem] run_store_float

theorem tmod_neg (x : Int) (n : Nat) (hn : 1 ≤ n) (h : x.tmod (n : Int) < 0) : x.tmod (n : Int) + (n : Int) = x % (n : Int) := by
  have h1 := Int.tmod_eq_emod (a := x) (b := (n : Int))
  have h2 := Int.emod_nonneg x (show (n : Int) ≠ 0 by omega)
  have h3 := Int.emod_lt_of_pos x (show (0 : Int) < (n : Int) by omega)
  rw [h1] at h ⊢
  split at h
  · omega
  · rename_i h4
    rw [if_neg h4]
    simp
theorem tmod_nonneg (x : Int) (n : Nat) (hn : 1 ≤ n) (h : 0 ≤ x.tmod (n : Int)) : x.tmod (n : Int) = x % (n : Int) := by
  have h1 := Int.tmod_eq_emod (a := x) (b := (n : Int))
  have h2 := Int.emod_nonneg x (show (n : Int) ≠ 0 by omega)
  have h3 := Int.emod_lt_of_pos x (show (0 : Int) < (n : Int) by omega)
  rw [h1] at h ⊢
  split
  · omega
  · rename_i h4
    rw [if_neg h4] at h
    simp at h
    omega

set_option maxHeartbeats 400000 in
theorem pick_any (x N : Int) (n : Nat) (w : World) (hN : N = (n : Int)) (hn : 1 ≤ n) (hn2 : n ≤ 65536) :
    Calls Try.prog 6 #[.int .i64 x, .int .i64 N] w fun e w' => e = .returned (.int .i64 (x % (n : Int))) ∧ w' = w := by
  subst hN
  have h1 : (1 : Int) ≤ (n : Int) := by omega
  have h2 : ((n : Int) == 0) = false := by simp; omega
  have hb := Int.tmod_lt_of_pos x (show (0 : Int) < (n : Int) by omega)
  have hb2 := Int.lt_tmod_of_pos x (show (0 : Int) < (n : Int) by omega)
  have hr1 := tmod_neg x n hn
  have hr2 := tmod_nonneg x n hn
  by_cases hs : x.tmod (n : Int) < 0
  · have hr := hr1 hs
    have HR := hide hr
    clear hr hr1 hr2
    go_enter Try.func6, Try.ntmps6
    go_wp2
    go_ret
    exact ⟨by rw [← HR.out]; rfl, rfl⟩
  · have hs2 : 0 ≤ x.tmod (n : Int) := by omega
    have hr := hr2 hs2
    have HR := hide hr
    clear hr hr1 hr2
    go_enter Try.func6, Try.ntmps6
    go_wp2
    go_ret
    exact ⟨by rw [← HR.out]; rfl, rfl⟩

theorem wake_row : rw' (4602678819172646912 % 2 ^ 63) 2 = [4598175219545276416, 4602678819172646912, 4598175219545276416] := by decide +kernel
theorem wake_lik : lik 4602678819172646912 = true ∧ lik 4596373779694328218 = true := by decide +kernel
theorem wake_near : nV 4609434218613702656 = 2 ∧ nE 4609434218613702656 = 0 := by decide +kernel
theorem wake_lm : Lm 2 (4602678819172646912 % 2 ^ 63) (4596373779694328218 % 2 ^ 63) 3 := by
  refine ⟨by omega, by decide, fun m h1 h2 => ?_, Or.inr ?_⟩
  · have : m = 3 := by omega
    subst this
    decide +kernel
  · decide +kernel

theorem fresh_at (w : World) (xs : List Nat) : At (w.alloc (.cells (fv xs).toArray 27)) (some ⟨w.heap.size, 0, none⟩) xs := by
  intro j u hu
  refine ⟨_, rfl, ?_⟩
  rw [Addr.add_lit, Nat.zero_add, cell_row (heap_alloc_new w _)]
  exact fv_get xs j u hu
theorem wake_limit (w : World) : Calls Try.prog 16 #[.int .i64 2, .float .f64 4602678819172646912, .float .f64 4596373779694328218] w fun e w' => e = .returned (.tuple #[.int .i64 3, .int .i64 0]) ∧ w.grownBy w' none := by
  refine (limit_any 2 4602678819172646912 4596373779694328218 w (by omega) wake_lik.1 wake_lik.2).mono ?_
  rintro e w' ⟨⟨N, rfl, hN⟩, hg⟩
  obtain rfl := lm_one wake_lm hN
  exact ⟨rfl, hg⟩

set_option maxHeartbeats 1000000 in
theorem awake_any (w : World) : Calls Try.prog 8 #[] w fun e w' => e = .returned (.bool true) ∧ w.grownBy w' none := by
  have C1 : Calls Try.prog 7 #[.int .i64 2, .float .f64 4602678819172646912] w (Sh w 4602678819172646912 2) := shows_any w 2 4602678819172646912 w (grown_refl _ _) (by omega) wake_lik.1
  unfold Sh at C1
  rw [wake_row] at C1
  have H1 := hide C1
  clear C1
  go_enter Try.func8, Try.ntmps8
  go_wp2_with fail
  refine H1.out.mono ?_
  rintro e w1 ⟨v, g, c, rfl, hrow, hg⟩
  obtain ⟨ao, cap, e1, h1, h2, h3, hat, -⟩ := own_at hrow.own
  have HM := hide (And.intro hat hg)
  obtain rfl := e1
  have C2 := near_any 4609434218613702656 w1
  rw [wake_near.1, wake_near.2] at C2
  have H2 := hide C2
  clear C2 hrow hg h1 h2 h3 hat H1
  go_wp2_with fail
  refine H2.out.mono ?_
  rintro e w2 ⟨rfl, hg2⟩
  have H3 := hide (wake_limit w2)
  have HG2 := hide hg2
  clear hg2 H2
  go_wp2_with fail
  refine H3.out.mono ?_
  rintro e w3 ⟨rfl, hg3⟩
  have HG3 := hide (grown_trans HM.out.2 (grown_trans HG2.out hg3))
  have HA := hide (HM.out.1.grown (grown_trans HG2.out hg3))
  clear hg3 H3 HM HG2
  go_wp2_with fail
  refine (bits_eq ao (some ⟨w3.heap.size, 0, none⟩) 3 cap 3 [4598175219545276416, 4602678819172646912, 4598175219545276416] _ rfl (HA.out.grown (grown_alloc w3 _)) (fresh_at w3 [4598175219545276416, 4602678819172646912, 4598175219545276416]) (by omega)).mono ?_
  rintro e w4 ⟨rfl, hg4⟩
  have HG4 := hide (grown_trans HG3.out (grown_trans (grown_alloc w3 _) hg4))
  clear hg4 HA HG3
  go_wp2
  go_ret
  exact ⟨rfl, HG4.out⟩
end Go.Proofs.Ytdhpjjbjgnnddab
