/- Fares: Pick; one class that surely asks, as numbers. -/
import Derived.Test.YtbebblhnhpdpjaaVm
namespace Go.Proofs.Ytbebblhnhpdpjaa
open Go.RowKit Ieee
attribute [local go_sem ↓] Go.wp_at_zero Go.wp_at_succ
attribute [local go_sem] run_store_float

theorem tmod_neg (x : Int) (n : Nat) (hn : 1 ≤ n) (h : x.tmod (n : Int) < 0) : x.tmod (n : Int) + (n : Int) = x % (n : Int) := by
  have h1 := Int.tmod_eq_emod (a := x) (b := (n : Int))
  have h2 := Int.emod_nonneg x (show (n : Int) ≠ 0 by omega)
  have h3 := Int.emod_lt_of_pos x (show (0 : Int) < (n : Int) by omega)
  rw [h1] at h ⊢
  split at h
  · omega
  · rename_i h4
    rw [if_neg h4]
    simp
theorem tmod_nonneg (x : Int) (n : Nat) (hn : 1 ≤ n) (h : 0 ≤ x.tmod (n : Int)) : x.tmod (n : Int) = x % (n : Int) := by
  have h1 := Int.tmod_eq_emod (a := x) (b := (n : Int))
  have h2 := Int.emod_nonneg x (show (n : Int) ≠ 0 by omega)
  have h3 := Int.emod_lt_of_pos x (show (0 : Int) < (n : Int) by omega)
  rw [h1] at h ⊢
  split
  · omega
  · rename_i h4
    rw [if_neg h4] at h
    simp at h
    omega

set_option maxHeartbeats 400000 in
theorem pick_any (x N : Int) (n : Nat) (w : World) (hN : N = (n : Int)) (hn : 1 ≤ n) (hn2 : n ≤ 65536) :
    Calls Try.prog 26 #[.int .i64 x, .int .i64 N] w fun e w' => e = .returned (.int .i64 (x % (n : Int))) ∧ w' = w := by
  subst hN
  have h1 : (1 : Int) ≤ (n : Int) := by omega
  have h2 : ((n : Int) == 0) = false := by simp; omega
  have hb := Int.tmod_lt_of_pos x (show (0 : Int) < (n : Int) by omega)
  have hb2 := Int.lt_tmod_of_pos x (show (0 : Int) < (n : Int) by omega)
  have hr1 := tmod_neg x n hn
  have hr2 := tmod_nonneg x n hn
  by_cases hs : x.tmod (n : Int) < 0
  · have hr := hr1 hs
    have HR := hide hr
    clear hr hr1 hr2
    go_enter Try.func26, Try.ntmps26
    go_wp2
    go_ret
    exact ⟨by rw [← HR.out]; rfl, rfl⟩
  · have hs2 : 0 ≤ x.tmod (n : Int) := by omega
    have hr := hr2 hs2
    have HR := hide hr
    clear hr hr1 hr2
    go_enter Try.func26, Try.ntmps26
    go_wp2
    go_ret
    exact ⟨by rw [← HR.out]; rfl, rfl⟩


/-- How a price is told not to be. -/
theorem price_split (p hi : Nat) (hh : Fin64 hi) : within p 0 hi = !((FloatKind.f64.format.order p p != some .eq) || (FloatKind.f64.format.order p 0 == some .lt) || (FloatKind.f64.format.order p hi == some .gt)) := by
  have h0 : Fin64 0 := fin_of (by omega)
  unfold within
  by_cases hp : Fin64 p
  · obtain ⟨a1, a2, -, -, -⟩ := order_sv hp h0
    obtain ⟨-, -, b3, b4, -⟩ := order_sv hp hh
    have hs : (FloatKind.f64.format.order p p != some .eq) = false := by have := order_self hp; simp only [bne, this]; rfl
    rw [a1, a2, b3, b4, hs]
    generalize sv p = x
    generalize sv 0 = y
    generalize sv hi = z
    by_cases c1 : y ≤ x
    · rw [decide_eq_true c1, decide_eq_false (show ¬ x < y by omega)]
      by_cases c2 : x ≤ z
      · rw [decide_eq_true c2, decide_eq_false (show ¬ z < x by omega)]; rfl
      · rw [decide_eq_false c2, decide_eq_true (show z < x by omega)]; rfl
    · rw [decide_eq_false c1, decide_eq_true (show x < y by omega)]; simp
  · rcases read_big hp with hr | ⟨t, hr⟩
    · rw [order_inf_self hr, order_inf hr h0, order_inf hr hh]
      cases sg p <;> rfl
    · rw [order_nan _ hr, order_nan _ hr, order_nan _ hr]; rfl

/-- Chances of which the k-th is 1. -/
def un (k : Nat) : List Nat := (List.replicate (k + 1) 0).set k 4607182418800017408
theorem un_length (k : Nat) : (un k).length = k + 1 := by simp [un]
theorem un_get (k j : Nat) (_h : j ≤ k) : (un k).getD j 0 = if j = k then 4607182418800017408 else 0 := by
  unfold un
  rw [getD_set _ _ _ _ (by simp)]
  split
  · rfl
  · rw [List.getD_eq_getElem?_getD, List.getElem?_replicate]; split <;> rfl
theorem one_words : lik 4607182418800017408 = true ∧ lik 0 = true ∧ within 4607182418800017408 4607182409792818153 4607182423303617035 = true ∧ ru 4607182418800017408 = 4607182418800017408 ∧ ru 0 = 0 := by decide +kernel
theorem ad_zero_right (s : Nat) : ad s 0 = s := by unfold ad; rw [val_zero, Nat.add_zero, rnd_val]
theorem cu_un (k : Nat) : ∀ j, j ≤ k → cu (un k) j = 0 := by
  intro j
  induction j with
  | zero => intro _; rfl
  | succ j ih =>
    intro h
    show ad (cu (un k) j) (ru ((un k).getD j 0)) = 0
    rw [ih (by omega), un_get k j (by omega), if_neg (by omega), one_words.2.2.2.2, ad_zero_left]
theorem ch_un (k : Nat) (hk : k ≤ 255) : chOk (un k) = true := by
  have hl : ∀ j, j < (un k).length → lik ((un k).getD j 0) = true := by
    intro j hj
    rw [un_length] at hj
    rw [un_get k j (by omega)]
    split
    · exact one_words.1
    · exact one_words.2.1
  rw [chOk_end (by rw [un_length]; omega) (by rw [un_length]; omega) hl, un_length]
  have : cu (un k) (k + 1) = 4607182418800017408 := by
    show ad (cu (un k) k) (ru ((un k).getD k 0)) = _
    rw [cu_un k k (Nat.le_refl _), un_get k k (Nat.le_refl _), if_pos rfl, one_words.2.2.2.1, ad_zero_left]
  rw [this]; exact one_words.2.2.1
theorem mayB_un (p k : Nat) (hk : k ≤ 255) : mayB [(p, un k)] = within p 0 4787326403894837248 := by
  rw [mayB_mid (by simp)]
  unfold okF
  rw [ch_un k hk]
  simp [okF]
theorem tm_mono {a b : Nat} (q : Nat) (h : a ≤ b) : tm a q ≤ tm b q := rnd_mono (Nat.mul_le_mul_right _ h)
theorem tn_zero (b : Nat) : tn 0 b = 0 := by unfold tn; rw [one_words.2.2.2.2, val_zero, Nat.zero_mul, rnd_zero]
theorem tn_one (b : Nat) : tn 4607182418800017408 b = b := by
  unfold tn
  rw [one_words.2.2.2.1, val_one, Nat.mul_comm]
  exact rnd_eq_pw rfl
theorem zeros_get (n x : Nat) : (List.replicate n 0).getD x 0 = 0 := by
  rw [List.getD_eq_getElem?_getD, List.getElem?_replicate]; split <;> rfl
theorem bt_zeros (q n x : Nat) : ∀ k, bt q (List.replicate n 0) x k = tm (min k x) q := by
  intro k
  induction k with
  | zero => show (List.replicate n 0).getD x 0 = _; rw [zeros_get, Nat.zero_min, tm_zero]
  | succ k ih =>
    unfold bt
    by_cases h : k + 1 ≤ x
    · rw [if_pos h, ih, zeros_get]
      have : cd q (k + 1) 0 = tm (k + 1) q := by unfold cd; exact ad_zero_right _
      rw [this, Nat.min_eq_left h, Nat.max_eq_right (tm_mono q (by omega))]
    · rw [if_neg h, ih, Nat.min_eq_right (by omega), Nat.min_eq_right (by omega)]
theorem su_un (q n k x : Nat) : ∀ j, j ≤ k → su q (List.replicate n 0) (un k) x j = 0 := by
  intro j
  induction j with
  | zero => intro _; rfl
  | succ j ih =>
    intro h
    show ad (su q (List.replicate n 0) (un k) x j) (tn ((un k).getD j 0) _) = 0
    rw [ih (by omega), un_get k j (by omega), if_neg (by omega), tn_zero, ad_zero_left]
theorem vs_un (p s k x : Nat) (hx : x ≤ s) : (vs s [(p, un k)]).getD x 0 = tm (min k x) (ru p) := by
  show (nv (ru p) (un k) (List.replicate (s + 1) 0)).getD x 0 = _
  rw [nv_get _ _ _ _ (by simp; omega), un_length]
  show ad (su (ru p) (List.replicate (s + 1) 0) (un k) x k) (tn ((un k).getD k 0) (bt (ru p) (List.replicate (s + 1) 0) x k)) = _
  rw [su_un _ _ _ _ k (Nat.le_refl _), un_get k k (Nat.le_refl _), if_pos rfl, tn_one, ad_zero_left, bt_zeros]
theorem lf_zeros (q n s : Nat) : ∀ f u, lf q (List.replicate n 0) s f u = u + f := by
  intro f
  induction f with
  | zero => intro u; rfl
  | succ f ih =>
    intro u
    unfold lf
    rw [zeros_get, zeros_get, if_neg (by omega), ih]; omega
theorem lm_first (l : List Fa) (s : Nat) : lm s l 0 = s := by
  unfold lm
  show lf _ (List.replicate (s + 1) 0) s s 0 = s
  rw [lf_zeros, Nat.zero_add]
/-- A number of people times a price, as a word, beside its rung. -/
theorem mul_tm {k p : Nat} (hk : k ≤ 256) (hp : Pr p) : ∃ u, floatBits .mul .f64 (FloatKind.f64.nearest (k : Int)) p = some u ∧ FloatKind.f64.format.order (tm k (ru p)) u = some .eq := by
  obtain ⟨f1, f2, f3⟩ := of_int (n := (k : Int)) (by omega)
  have hsg : sg (FloatKind.f64.nearest (k : Int)) = false := by rw [f2]; simp
  have hnn : Nn (FloatKind.f64.nearest (k : Int)) := ⟨f1, fun e => by rw [hsg] at e; cases e⟩
  have hv : val (ru (FloatKind.f64.nearest (k : Int))) = k * pw 1074 := f3
  have e : rnd (val (ru (FloatKind.f64.nearest (k : Int))) * val (ru p)) 1074 = tm k (ru p) := by
    rw [hv]
    have h := rnd_scale_pw (k * val (ru p)) 0 1074
    rw [Nat.zero_add] at h
    unfold tm
    rw [← h, Nat.mul_right_comm]
  have hb := bd_fin (n := 48) (tm_bd hk hp.le) (by omega)
  obtain ⟨u, h1, h2, h3⟩ := mul_nn hnn hp.nn e hb
  obtain ⟨n1, n2⟩ := nn_low hb
  refine ⟨u, h1, ?_⟩
  rw [order_nn n1 h2, n2, h3]
  exact congrArg some (eq_iff.2 rfl)
theorem run_min (a b : Nat) (ats : Array TypeId) (ty : TypeId) (w : World) : (Builtin.min_ ats ty #[.int .i64 (a : Int), .int .i64 (b : Int)]).run Try.prog w = .ok (.int .i64 ((min a b : Nat) : Int)) w := by
  have h : Builtin.min_ ats ty #[.int .i64 (a : Int), .int .i64 (b : Int)] = Bind.bind (Builtin.min2 (.int .i64 (a : Int)) (.int .i64 (b : Int))) (fun x => pure x) := rfl
  have h2 : Builtin.min2 (.int .i64 (a : Int)) (.int .i64 (b : Int)) = pure (.int .i64 ((min a b : Nat) : Int)) := by
    show (pure (.int .i64 (if (b : Int) < (a : Int) then (b : Int) else (a : Int))) : Sem Value) = _
    congr 2
    split <;> omega
  rw [h, h2]; rfl
end Go.Proofs.Ytbebblhnhpdpjaa
