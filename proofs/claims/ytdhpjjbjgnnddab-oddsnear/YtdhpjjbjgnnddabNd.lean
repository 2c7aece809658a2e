/- OddsNear, put together. -/
import Derived.Test.YtdhpjjbjgnnddabNc
namespace Go.Proofs.Ytdhpjjbjgnnddab
open Go.RowKit Ieee

theorem half_sv : Fin64 4602678819172646912 ∧ sv 4602678819172646912 = (pw 1073 : Nat) := by
  refine ⟨by unfold Fin64; decide, ?_⟩
  rw [sv_of (by decide), val_half]
theorem mhalf_sv : Fin64 13826050856027422720 ∧ sv 13826050856027422720 = -((pw 1073 : Nat) : Int) := by
  refine ⟨by unfold Fin64; decide, ?_⟩
  rw [sv_eq]
  unfold mg
  rw [show sg 13826050856027422720 = true from rfl, show 13826050856027422720 % 2 ^ 63 = 4602678819172646912 from rfl, val_half]
  rfl
theorem tmod_even {n : Int} (h : n % 2 = 0) : n.tmod 2 = 0 := by
  have := Int.tmod_eq_emod (a := n) (b := 2)
  rw [this, h]
  split
  · rfl
  · rename_i hn
    exfalso
    apply hn
    exact Or.inr (Int.dvd_of_emod_eq_zero h)

theorem oddsNear_any (x : Nat) (w : World) : Calls Try.prog 4 #[.float .f64 x] w fun e w' => e = .returned (.bool true) ∧ w.grownBy w' none := by
  have hor : nE x = 0 ∨ (nE x = 250 ∧ nV x = 0) := by
    unfold nE nV
    split
    · exact Or.inl rfl
    · exact Or.inr ⟨rfl, rfl⟩
  by_cases hx : x % 2 ^ 63 < 2047 * 2 ^ 52
  · have hfx : Fin64 x := hx
    obtain ⟨-, -, -, hm, -⟩ := order_sv hfx m52.1
    obtain ⟨-, hc, -⟩ := order_sv hfx c52.1
    rw [m52.2] at hm
    rw [c52.2] at hc
    by_cases hr : (decide (-4503599627370496 * (pw 1074 : Int) < sv x) && decide (sv x < 4503599627370496 * (pw 1074 : Int))) = true
    · rw [Bool.and_eq_true] at hr
      rw [hr.1] at hm
      rw [hr.2] at hc
      have hr1 := of_decide_eq_true hr.1
      have hr2 := of_decide_eq_true hr.2
      have hsm : mg x < 4503599627370496 * pw 1074 := by
        have hneg : -4503599627370496 * (pw 1074 : Int) = -(4503599627370496 * (pw 1074 : Int)) := Int.neg_mul ..
        rw [hneg] at hr1
        have hmg : ((mg x : Nat) : Int) = sv x ∨ ((mg x : Nat) : Int) = -sv x := by rw [sv_eq]; cases sg x <;> simp
        have : ((4503599627370496 * pw 1074 : Nat) : Int) = 4503599627370496 * (pw 1074 : Int) := by rw [Int.natCast_mul]; rfl
        omega
      obtain ⟨z1, z2, z3⟩ := mid_sizes hsm
      have v1 : nV x = NN x := by unfold nV; rw [if_pos ⟨hx, by omega⟩]
      have v2 : nE x = 0 := by unfold nE; rw [if_pos ⟨hx, by omega⟩]
      obtain ⟨D, d1, d2, d3, d4⟩ := near_facts x
      have hp := pw_half
      have hNs := of_int_sv (n := NN x) (by omega)
      obtain ⟨r, r1, r2, r3⟩ := sub_word (D := sv x - NN x * (pw 1074 : Int)) hfx (of_int (n := NN x) (by omega)).1 (by rw [hNs]) (by omega)
      rw [d1, d3] at r3
      have hsv : sv r = ((D : Nat) : Int) ∨ sv r = -((D : Nat) : Int) := by rw [r3]; split <;> simp
      obtain ⟨-, -, o1, -, o2⟩ := order_sv r2 half_sv.1
      obtain ⟨o3, -, -, -, o4⟩ := order_sv r2 mhalf_sv.1
      rw [half_sv.2] at o1 o2
      rw [mhalf_sv.2] at o3 o4
      have n1 := ng_near hfx z3
      have n2 := whole_near z3
      refine near_yes x r (NN x) _ _ w v1 v2 hm hc z3 n1.1 n1.2 n2.1 n2.2 r1 (by rw [o1, decide_eq_true_eq]; omega) (by rw [o3, decide_eq_true_eq]; omega) rfl rfl (fun h => ?_)
      apply tmod_even
      apply d4
      rw [bne, bne, o2, o4] at h
      by_cases e1 : sv r = ((pw 1073 : Nat) : Int)
      · omega
      · by_cases e2 : sv r = -((pw 1073 : Nat) : Int)
        · omega
        · rw [decide_eq_false e1, decide_eq_false e2] at h
          exact absurd h (by decide)
    · exact near_not x _ _ _ _ w rfl rfl hm hc (by simpa using hr) hor
  · refine near_not x _ _ _ _ w rfl rfl rfl rfl ?_ hor
    rcases read_big hx with hr | ⟨t, hr⟩
    · rw [order_inf hr m52.1, order_inf hr c52.1]
      cases sg x <;> rfl
    · rw [order_nan _ hr, order_nan _ hr]; rfl
end Go.Proofs.Ytdhpjjbjgnnddab
