/- The contract of the statements' own Pick; sets at any number. -/
import Derived.Test.YtajdgkbeenalkaaDoorKit
namespace Go.Proofs.YtajdgkbeenalkaaDoor
open Go.RowKit Go.Shelf
attribute [local go_sem ↓] Go.wp_at_zero Go.wp_at_succ

theorem tmod_neg (x : Int) (n : Nat) (hn : 1 ≤ n) (h : x.tmod (n : Int) < 0) : x.tmod (n : Int) + (n : Int) = x % (n : Int) := by
  have h1 := Int.tmod_eq_emod (a := x) (b := (n : Int))
  have h2 := Int.emod_nonneg x (show (n : Int) ≠ 0 by omega)
  have h3 := Int.emod_lt_of_pos x (show (0 : Int) < (n : Int) by omega)
  rw [h1] at h ⊢
  split at h
  · omega
  · rename_i h4
    rw [if_neg h4]
    simp
theorem tmod_nonneg (x : Int) (n : Nat) (hn : 1 ≤ n) (h : 0 ≤ x.tmod (n : Int)) : x.tmod (n : Int) = x % (n : Int) := by
  have h1 := Int.tmod_eq_emod (a := x) (b := (n : Int))
  have h2 := Int.emod_nonneg x (show (n : Int) ≠ 0 by omega)
  have h3 := Int.emod_lt_of_pos x (show (0 : Int) < (n : Int) by omega)
  rw [h1] at h ⊢
  split
  · omega
  · rename_i h4
    rw [if_neg h4] at h
    simp at h
    omega

set_option maxHeartbeats 400000 in
theorem pick_any (x N : Int) (n : Nat) (w : World) (hN : N = (n : Int)) (hn : 1 ≤ n) (hn2 : n ≤ 65536) :
    Calls Tryd.prog 12 #[.int .i64 x, .int .i64 N] w fun e w' => e = .returned (.int .i64 (x % (n : Int))) ∧ w' = w := by
  subst hN
  have h1 : (1 : Int) ≤ (n : Int) := by omega
  have h2 : ((n : Int) == 0) = false := by simp; omega
  have hb := Int.tmod_lt_of_pos x (show (0 : Int) < (n : Int) by omega)
  have hb2 := Int.lt_tmod_of_pos x (show (0 : Int) < (n : Int) by omega)
  have hr1 := tmod_neg x n hn
  have hr2 := tmod_nonneg x n hn
  by_cases hs : x.tmod (n : Int) < 0
  · have hr := hr1 hs
    have HR := hide hr
    clear hr hr1 hr2
    go_enter Tryd.func12, Tryd.ntmps12
    go_wp2
    go_ret
    exact ⟨by rw [← HR.out]; rfl, rfl⟩
  · have hs2 : 0 ≤ x.tmod (n : Int) := by omega
    have hr := hr2 hs2
    have HR := hide hr
    clear hr hr1 hr2
    go_enter Tryd.func12, Tryd.ntmps12
    go_wp2
    go_ret
    exact ⟨by rw [← HR.out]; rfl, rfl⟩

/-- What Put leaves. -/
def putF (L : List Bool) (i : Int) : List Bool := if 0 ≤ i ∧ i < (L.length : Int) then L.set i.toNat true else L
theorem putF_length (L : List Bool) (i : Int) : (putF L i).length = L.length := by unfold putF; split <;> simp
theorem put_int (b g : Nat) (L : List Bool) (i : Int) (w : World) (h : SetAt w b g L) :
    Calls Tryd.prog 24 #[.pointer (some ⟨b, 0, none⟩), .int .i64 i] w fun e w' => e = .returned (.int .i64 (mayF L.length i)) ∧ SetAt w' b g (putF L i) ∧ w.grownBy w' (some g) := by
  by_cases hi : 0 ≤ i ∧ i < (L.length : Int)
  · obtain ⟨k, rfl⟩ := Int.eq_ofNat_of_zero_le hi.1
    refine (put_any b g L k w h (by omega)).mono ?_
    rintro e w' ⟨rfl, h1, h2⟩
    refine ⟨by simp only [mayF]; rw [if_pos hi], ?_, h2⟩
    unfold putF
    rw [if_pos hi]
    exact h1
  · have hm := may_any b g L i w h
    have e2 : mayF L.length i = 2 := by simp only [mayF]; rw [if_neg hi]
    rw [e2] at hm ⊢
    refine (put_bad _ i 2 w (by decide) hm).mono ?_
    rintro e w' ⟨rfl, rfl⟩
    refine ⟨rfl, ?_, grown_refl _ _⟩
    unfold putF
    rw [if_neg hi]
    exact h
theorem has_int (b g : Nat) (L : List Bool) (i : Int) (w : World) (h : SetAt w b g L) :
    Calls Tryd.prog 25 #[.pointer (some ⟨b, 0, none⟩), .int .i64 i] w fun e w' => e = .returned (.bool (decide (0 ≤ i) && L.getD i.toNat false)) ∧ w.grownBy w' none := by
  by_cases hi : 0 ≤ i ∧ i < (L.length : Int)
  · obtain ⟨k, rfl⟩ := Int.eq_ofNat_of_zero_le hi.1
    refine (has_any b g L k w h (by omega)).mono ?_
    rintro e w' ⟨rfl, h1⟩
    refine ⟨?_, h1⟩
    simp
  · have hm := fun n => may_any b g L i (w.drewN n) (h.drewN n)
    have e2 : mayF L.length i = 2 := by simp only [mayF]; rw [if_neg hi]
    rw [e2] at hm
    refine (has_bad _ i 2 w (by decide) hm).mono ?_
    rintro e w' ⟨rfl, h1⟩
    refine ⟨?_, h1⟩
    by_cases h0 : 0 ≤ i
    · rw [getD_out L i.toNat (by omega)]; simp
    · simp [h0]

end Go.Proofs.YtajdgkbeenalkaaDoor
