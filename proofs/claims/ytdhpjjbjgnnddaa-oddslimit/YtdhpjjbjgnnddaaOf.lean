/- Contracts of Shows, Above, Limit. -/
import Derived.Test.YtdhpjjbjgnnddaaOe
namespace Go.Proofs.Ytdhpjjbjgnnddaa
open Go.RowKit
attribute [local go_sem ↓] Go.wp_at_zero Go.wp_at_succ
attribute [local go_sem] run_store_float

/-- A row that is told. -/
def Sh (W0 : World) (p n : Nat) (e : Ending) (w' : World) : Prop :=
  ∃ v g c, e = .returned (.tuple #[v, .int .i64 0]) ∧ Row w' W0.heap.size v g c (rw' (p % 2 ^ 63) n) ∧ W0.grownBy w' none

set_option maxHeartbeats 1000000 in
theorem shows_any (W0 : World) (n p : Nat) (w : World) (hg : W0.grownBy w none) (hn : n ≤ 4096) (hp : lik p = true) : Calls Try.prog 9 #[.int .i64 (n : Int), .float .f64 p] w (Sh W0 p n) := by
  have hl : ¬ 4096 < (n : Int) := by omega
  have h0 : ¬ (n : Int) < 0 := by omega
  have HP := hide hp
  have C := hide (fun w => isL_any p w)
  rw [hp] at C
  have HG := hide hg
  clear hp hg
  go_enter Try.func9, Try.ntmps9
  go_wp2_with fail
  refine (C.out _).mono ?_
  rintro e w1 ⟨rfl, rfl⟩
  go_wp2_with fail
  refine (nobody_any W0 n w1 hn HG.out).mono ?_
  rintro e w2 ⟨v, g, c, rfl, hrow, hg2⟩
  go_wp2_with fail
  refine (withMore_any W0 v g c n p w2 hrow hg2 hn HP.out).mono ?_
  rintro e w3 ⟨v3, g3, c3, rfl, hrow3, hg3⟩
  have HM := hide (And.intro hrow3 hg3)
  obtain rfl := hrow3.val
  obtain rfl := hrow.val
  clear hrow hg2 hrow3 hg3
  go_wp2
  go_ret2
  exact ⟨_, _, _, rfl, HM.out.1, HM.out.2⟩

theorem shows_arg (n : Int) (p : Nat) (w : World) (hn : n < 0 ∨ 4096 < n) : Calls Try.prog 9 #[.int .i64 n, .float .f64 p] w fun e w' => e = .returned (.tuple #[.slice none 0 0, .int .i64 2]) ∧ w' = w := by
  rcases hn with h | h
  · go_enter Try.func9, Try.ntmps9
    go_wp2
    go_ret2
    exact ⟨rfl, rfl⟩
  · have h0 : ¬ n < 0 := by omega
    go_enter Try.func9, Try.ntmps9
    go_wp2
    go_ret2
    exact ⟨rfl, rfl⟩
theorem shows_real (n : Int) (p : Nat) (w : World) (hn : ¬ (n < 0 ∨ 4096 < n)) (hp : lik p = false) : Calls Try.prog 9 #[.int .i64 n, .float .f64 p] w fun e w' => e = .returned (.tuple #[.slice none 0 0, .int .i64 250]) ∧ w' = w := by
  have h0 : ¬ n < 0 := by omega
  have h1 : ¬ 4096 < n := by omega
  have C := hide (fun w => isL_any p w)
  rw [hp] at C
  clear hp hn
  go_enter Try.func9, Try.ntmps9
  go_wp2_with fail
  refine (C.out _).mono ?_
  rintro e w1 ⟨rfl, rfl⟩
  go_wp2
  go_ret2
  exact ⟨rfl, rfl⟩

/-- What Above answers. -/
def aB (n seats : Int) (p : Nat) : Nat := if n < 0 ∨ 4096 < n then 0 else if lik p = true then sm (rw' (p % 2 ^ 63) n.toNat) (pl seats) else 0
def aE (n : Int) (p : Nat) : Int := if n < 0 ∨ 4096 < n then 2 else if lik p = true then 0 else 250

set_option maxHeartbeats 1000000 in
theorem above_any (n seats : Int) (p : Nat) (w : World) (hs1 : -9223372036854775808 ≤ seats) (hs2 : seats ≤ 9223372036854775807) :
    Calls Try.prog 11 #[.int .i64 n, .int .i64 seats, .float .f64 p] w fun e w' => e = .returned (.tuple #[.float .f64 (aB n seats p), .int .i64 (aE n p)]) ∧ w.grownBy w' none := by
  by_cases hn : n < 0 ∨ 4096 < n
  · have e1 : aB n seats p = 0 := by unfold aB; rw [if_pos hn]
    have e2 : aE n p = 2 := by unfold aE; rw [if_pos hn]
    rw [e1, e2]
    have C := hide (shows_arg n p w hn)
    clear e1 e2 hn
    go_enter Try.func11, Try.ntmps11
    go_wp2_with fail
    refine C.out.mono ?_
    rintro e w1 ⟨rfl, rfl⟩
    go_wp2
    go_ret2
    exact ⟨rfl, grown_refl _ _⟩
  · by_cases hp : lik p = true
    · have e1 : aB n seats p = sm (rw' (p % 2 ^ 63) n.toNat) (pl seats) := by unfold aB; rw [if_neg hn, if_pos hp]
      have e2 : aE n p = 0 := by unfold aE; rw [if_neg hn, if_pos hp]
      rw [e1, e2]
      obtain ⟨m, rfl⟩ : ∃ m : Nat, n = (m : Int) := ⟨n.toNat, by omega⟩
      have C := hide (shows_any w m p w (grown_refl _ _) (by omega) hp)
      have HL := hide (And.intro (row_low (lik_rung hp).1 m) (show (rw' (p % 2 ^ 63) m).length ≤ 8192 by rw [row_length]; omega))
      rw [show ((m : Int)).toNat = m by omega]
      clear e1 e2 hn hp
      unfold Sh at C
      generalize rw' (p % 2 ^ 63) m = q at *
      go_enter Try.func11, Try.ntmps11
      go_wp2_with fail
      refine C.out.mono ?_
      rintro e w1 ⟨v, g, c, rfl, hrow, hg⟩
      obtain ⟨ao, cap, e1, h1, h2, h3, hat, -⟩ := own_at hrow.own
      obtain rfl := e1
      have HA := hide (And.intro hat hg)
      clear hrow hg hat h1 h2 h3
      go_wp2_with fail
      refine (sum_any ao cap q seats w1 HA.out.1 HL.out.1 HL.out.2 hs1 hs2).mono ?_
      rintro e w2 ⟨rfl, hw2⟩
      obtain rfl := hw2.symm
      go_wp2
      go_ret2
      exact ⟨rfl, HA.out.2⟩
    · have e1 : aB n seats p = 0 := by unfold aB; rw [if_neg hn, if_neg hp]
      have e2 : aE n p = 250 := by unfold aE; rw [if_neg hn, if_neg hp]
      rw [e1, e2]
      have C := hide (shows_real n p w hn (by simpa using hp))
      clear e1 e2 hn hp
      go_enter Try.func11, Try.ntmps11
      go_wp2_with fail
      refine C.out.mono ?_
      rintro e w1 ⟨rfl, rfl⟩
      go_wp2
      go_ret2
      exact ⟨rfl, grown_refl _ _⟩
end Go.Proofs.Ytdhpjjbjgnnddaa
