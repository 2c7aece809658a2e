/- OddsNumbers walked. -/
import Derived.Test.YtdhpjjbjgnnddaaOu
namespace Go.Proofs.Ytdhpjjbjgnnddaa
open Go.RowKit Ieee
attribute [local go_sem ↓] Go.wp_at_zero Go.wp_at_succ
attribute [local go_sem] run_store_float

theorem rr_one : rr 4607182418800017408 = 0 := by unfold rr; rw [val_one, Nat.sub_self, rnd_zero]
theorem rr_zero : rr 0 = 4607182418800017408 := by unfold rr; rw [val_zero, Nat.sub_zero, ← val_one, rnd_val]
theorem prod_one (b : Nat) : rnd (val b * val 4607182418800017408) 1074 = b := rnd_eq_pw (by rw [val_one])
theorem st_all (a b : Nat) : st 4607182418800017408 a b = b := by
  unfold st
  rw [rr_one, prod_one, val_zero, Nat.mul_zero, rnd_zero, val_zero, Nat.zero_add, rnd_val]
theorem st_none (a b : Nat) : st 0 a b = a := by
  unfold st
  rw [rr_zero, prod_one, val_zero, Nat.mul_zero, rnd_zero, val_zero, Nat.add_zero, rnd_val]
theorem nx_all (q : List Nat) : nx 4607182418800017408 q = 0 :: q := by
  apply List.ext_getElem?
  intro k
  by_cases hk : k ≤ q.length
  · rw [nx_get _ _ _ hk, st_all]
    cases k with
    | zero => rfl
    | succ k =>
      rw [if_neg (by omega), Nat.add_sub_cancel, List.getElem?_cons_succ, List.getD_eq_getElem?_getD, List.getElem?_eq_getElem (by omega), Option.getD_some]
  · rw [List.getElem?_eq_none (by rw [nx_length]; omega), List.getElem?_eq_none (by rw [List.length_cons]; omega)]
theorem nx_none (q : List Nat) : nx 0 q = q ++ [0] := by
  apply List.ext_getElem?
  intro k
  by_cases hk : k ≤ q.length
  · rw [nx_get _ _ _ hk, st_none, List.getD_eq_getElem?_getD, List.getElem?_append]
    by_cases h : k < q.length
    · rw [if_pos h, List.getElem?_eq_getElem h, Option.getD_some]
    · have : k = q.length := by omega
      subst this
      rw [if_neg h, List.getElem?_eq_none (by omega), Nat.sub_self]; rfl
  · rw [List.getElem?_eq_none (by rw [nx_length]; omega), List.getElem?_eq_none (by rw [List.length_append]; simp; omega)]
theorem row_all (n : Nat) : rw' 4607182418800017408 n = List.replicate n 0 ++ [4607182418800017408] := by
  induction n with
  | zero => rfl
  | succ n ih => rw [rw', nx_all, ih]; rfl
theorem row_none (n : Nat) : rw' 0 n = 4607182418800017408 :: List.replicate n 0 := by
  induction n with
  | zero => rfl
  | succ n ih => rw [rw', nx_none, ih, List.cons_append, List.replicate_succ']
theorem sm_none (n j : Nat) : sm (rw' 0 n) (j + 1) = 0 := by
  have h : ∀ m, (List.replicate m 0).foldr (fun x s => ad s x) 0 = 0 := by
    intro m
    induction m with
    | zero => rfl
    | succ m ih => rw [List.replicate_succ, List.foldr_cons, ih, ad_zero]
  unfold sm
  rw [row_none, List.drop_succ_cons, List.drop_replicate, h]

theorem lm_none : Lm 1024 0 0 4096 := by
  have e : lst 1024 = 4096 := by decide
  refine ⟨by omega, by rw [e]; omega, fun m _ _ => ?_, Or.inl e.symm⟩
  rw [sm_none]; omega
theorem lik_words : lik 9221120237041090561 = false ∧ lik 13826050856027422720 = false ∧ lik 4608308318706860032 = false ∧ lik 0 = true ∧ lik 4607182418800017408 = true := by decide +kernel
theorem near_words : (nV 9218868437227405312 = 0 ∧ nE 9218868437227405312 = 250) ∧ (nV 14114281232179134464 = -9223372036854775808 ∧ nE 14114281232179134464 = 0) ∧ (nV 4890909195324358656 = 0 ∧ nE 4890909195324358656 = 250) := by decide +kernel
theorem limit_none (w : World) : Calls Try.prog 12 #[.int .i64 1024, .float .f64 0, .float .f64 0] w fun e w' => e = .returned (.tuple #[.int .i64 4096, .int .i64 0]) ∧ w.grownBy w' none := by
  refine (limit_any 1024 0 0 w (by omega) lik_words.2.2.2.1 lik_words.2.2.2.1).mono ?_
  rintro e w' ⟨⟨N, rfl, hN⟩, hg⟩
  obtain rfl := lm_one lm_none hN
  exact ⟨rfl, hg⟩
theorem shows_full (w : World) : Calls Try.prog 9 #[.int .i64 4096, .float .f64 4607182418800017408] w fun e w' => ∃ g cap, e = .returned (.tuple #[.slice (some ⟨g, 0, none⟩) 4097 cap, .int .i64 0]) ∧
    w'.cell? ⟨g, 4096, none⟩ = some (.float .f64 4607182418800017408) ∧ w'.cell? ⟨g, 0, none⟩ = some (.float .f64 0) ∧ w.grownBy w' none := by
  refine (shows_any w 4096 4607182418800017408 w (grown_refl _ _) (by omega) lik_words.2.2.2.2).mono ?_
  rintro e w' ⟨v, g, c, rfl, hrow, hg⟩
  have e1 : rw' (4607182418800017408 % 2 ^ 63) 4096 = List.replicate 4096 0 ++ [4607182418800017408] := row_all 4096
  rw [e1] at hrow
  have hlen : (List.replicate 4096 0 ++ [4607182418800017408]).length = 4097 := by rw [List.length_append, List.length_replicate]; rfl
  have ha := hrow.cell 4096 (by omega)
  have hb := hrow.cell 0 (by omega)
  have g1 : (List.replicate 4096 0 ++ [4607182418800017408]).getD 4096 0 = 4607182418800017408 := by
    rw [List.getD_eq_getElem?_getD, List.getElem?_append_right (by rw [List.length_replicate]; omega), List.length_replicate]; rfl
  have g2 : (List.replicate 4096 0 ++ [4607182418800017408]).getD 0 0 = 0 := by
    rw [List.getD_eq_getElem?_getD, List.getElem?_append_left (by rw [List.length_replicate]; omega), List.getElem?_replicate, if_pos (by omega)]; rfl
  rw [g1] at ha
  rw [g2] at hb
  have hv := hrow.val
  rw [hlen] at hv
  exact ⟨g, c, by rw [hv], ha, hb, hg⟩
theorem above_words (w : World) : (Calls Try.prog 11 #[.int .i64 4097, .int .i64 1, .float .f64 0] w fun e w' => e = .returned (.tuple #[.float .f64 0, .int .i64 2]) ∧ w.grownBy w' none) ∧
    (Calls Try.prog 11 #[.int .i64 1, .int .i64 0, .float .f64 13826050856027422720] w fun e w' => e = .returned (.tuple #[.float .f64 0, .int .i64 250]) ∧ w.grownBy w' none) := by
  constructor
  · have e1 : aB 4097 1 0 = 0 := by unfold aB; rw [if_pos (by omega)]
    have e2 : aE 4097 0 = 2 := by unfold aE; rw [if_pos (by omega)]
    have := above_any 4097 1 0 w (by omega) (by omega)
    rwa [e1, e2] at this
  · have e1 : aB 1 0 13826050856027422720 = 0 := by unfold aB; rw [if_neg (by omega), lik_words.2.1, if_neg (by simp)]
    have e2 : aE 1 13826050856027422720 = 250 := by unfold aE; rw [if_neg (by omega), lik_words.2.1, if_neg (by simp)]
    have := above_any 1 0 13826050856027422720 w (by omega) (by omega)
    rwa [e1, e2] at this
theorem near_as (x : Nat) (v er : Int) (w : World) (h : nV x = v ∧ nE x = er) : Calls Try.prog 13 #[.float .f64 x] w fun e w' => e = .returned (.tuple #[.int .i64 v, .int .i64 er]) ∧ w.grownBy w' none := by
  have := near_any x w
  rwa [h.1, h.2] at this

set_option maxRecDepth 100000 in
set_option maxHeartbeats 2000000 in
theorem oddsNumbers_any (w : World) : Calls Try.prog 3 #[] w fun e w' => e = .returned (.bool true) ∧ w.grownBy w' none := by
  go_enter Try.func3, Try.ntmps3
  have S1 := hide (fun w => shows_full w)
  have S2 := hide (fun w => shows_arg 4097 4611686018427387904 w (by omega))
  have S3 := hide (fun w => shows_arg (-1) 0 w (by omega))
  have S4 := hide (fun w => nan_any w)
  have S5 := hide (fun w => shows_real 1 9221120237041090561 w (by omega) lik_words.1)
  have A1 := hide (fun w => (above_words w).1)
  have A2 := hide (fun w => (above_words w).2)
  have L1 := hide (fun w => limit_none w)
  have L2 := hide (fun w => limit_arg 1025 0 0 w (by omega))
  have L3 := hide (fun w => limit_real 1 0 4608308318706860032 w (by omega) (Or.inr lik_words.2.2.1))
  have N0 := hide (fun w => inf_any w)
  have N1 := hide (fun w => near_as _ _ _ w near_words.1)
  have N2 := hide (fun w => near_as _ _ _ w near_words.2.1)
  have N3 := hide (fun w => near_as _ _ _ w near_words.2.2)
  go_wp2_with fail
  refine (S1.out _).mono ?_
  rintro e w1 ⟨a, cap, rfl, hc1, hc2, hg1⟩
  have HC := hide (And.intro hc1 (And.intro hc2 hg1))
  clear hc1 hc2 hg1
  go_wp2_with fail
  refine (S2.out _).mono ?_
  rintro e w' ⟨rfl, hw⟩
  obtain rfl := hw.symm
  clear hw
  go_wp2_with fail
  refine (S3.out _).mono ?_
  rintro e w' ⟨rfl, hw⟩
  obtain rfl := hw.symm
  clear hw
  go_wp2_with fail
  refine (S4.out _).mono ?_
  rintro e w' ⟨rfl, hw⟩
  obtain rfl := hw.symm
  clear hw
  go_wp2_with fail
  refine (S5.out _).mono ?_
  rintro e w' ⟨rfl, hw⟩
  obtain rfl := hw.symm
  clear hw
  clear S1 S2 S3 S4 S5
  go_wp2_with fail
  refine (A1.out _).mono ?_
  rintro e w2 ⟨rfl, hg2⟩
  have G2 := hide hg2
  clear hg2
  go_wp2_with fail
  refine (A2.out _).mono ?_
  rintro e w3 ⟨rfl, hg3⟩
  have G3 := hide (grown_trans G2.out hg3)
  clear hg3 G2
  go_wp2_with fail
  refine (L1.out _).mono ?_
  rintro e w4 ⟨rfl, hg4⟩
  have G4 := hide (grown_trans G3.out hg4)
  clear hg4 G3
  go_wp2_with fail
  refine (L2.out _).mono ?_
  rintro e w' ⟨rfl, hw⟩
  obtain rfl := hw.symm
  clear hw
  go_wp2_with fail
  refine (L3.out _).mono ?_
  rintro e w' ⟨rfl, hw⟩
  obtain rfl := hw.symm
  clear hw
  clear A1 A2 L1 L2 L3
  go_wp2_with fail
  refine (N0.out _).mono ?_
  rintro e w' ⟨rfl, hw⟩
  obtain rfl := hw.symm
  clear hw
  go_wp2_with fail
  refine (N1.out _).mono ?_
  rintro e w5 ⟨rfl, hg5⟩
  have G5 := hide (grown_trans G4.out hg5)
  clear hg5 G4
  go_wp2_with fail
  refine (N2.out _).mono ?_
  rintro e w6 ⟨rfl, hg6⟩
  have G6 := hide (grown_trans G5.out hg6)
  clear hg6 G5
  go_wp2_with fail
  refine (N3.out _).mono ?_
  rintro e w7 ⟨rfl, hg7⟩
  have G7 := hide (grown_trans G6.out hg7)
  clear hg7 G6 N0 N1 N2 N3
  have hc1 := G7.out.cell HC.out.1 (by simp)
  have hc2 := G7.out.cell HC.out.2.1 (by simp)
  have GG := hide (grown_trans HC.out.2.2 G7.out)
  have o1 : (FloatKind.f64.format.order 4607182418800017408 4607182418800017408 == some .eq) = true := by decide +kernel
  have o2 : (FloatKind.f64.format.order 0 0 == some .eq) = true := by decide +kernel
  clear HC G7
  go_wp2_with fail
  refine (awake_any _).mono ?_
  rintro e w8 ⟨rfl, hg8⟩
  have G8 := hide (grown_trans GG.out hg8)
  clear hg8 GG
  go_wp2
  go_ret
  exact ⟨rfl, G8.out⟩
end Go.Proofs.Ytdhpjjbjgnnddaa
