/- Contracts of Shows, Above, Limit. -/
import Derived.Test.YtdhpjjbjgnnddabOe
namespace Go.Proofs.Ytdhpjjbjgnnddab
open Go.RowKit
attribute [local go_sem ↓] Go.wp_at_zero Go.wp_at_succ
attribute [local go_sem] run_store_float

/-- A row that is told. -/
def Sh (W0 : World) (p n : Nat) (e : Ending) (w' : World) : Prop :=
  ∃ v g c, e = .returned (.tuple #[v, .int .i64 0]) ∧ Row w' W0.heap.size v g c (rw' (p % 2 ^ 63) n) ∧ W0.grownBy w' none

set_option maxHeartbeats 1000000 in
theorem shows_any (W0 : World) (n p : Nat) (w : World) (hg : W0.grownBy w none) (hn : n ≤ 4096) (hp : lik p = true) : Calls Try.prog 7 #[.int .i64 (n : Int), .float .f64 p] w (Sh W0 p n) := by
  have hl : ¬ 4096 < (n : Int) := by omega
  have h0 : ¬ (n : Int) < 0 := by omega
  have HP := hide hp
  have C := hide (fun w => isL_any p w)
  rw [hp] at C
  have HG := hide hg
  clear hp hg
  go_enter Try.func7, Try.ntmps7
  go_wp2_with fail
  refine (C.out _).mono ?_
  rintro e w1 ⟨rfl, rfl⟩
  go_wp2_with fail
  refine (nobody_any W0 n w1 hn HG.out).mono ?_
  rintro e w2 ⟨v, g, c, rfl, hrow, hg2⟩
  go_wp2_with fail
  refine (withMore_any W0 v g c n p w2 hrow hg2 hn HP.out).mono ?_
  rintro e w3 ⟨v3, g3, c3, rfl, hrow3, hg3⟩
  have HM := hide (And.intro hrow3 hg3)
  obtain rfl := hrow3.val
  obtain rfl := hrow.val
  clear hrow hg2 hrow3 hg3
  go_wp2
  go_ret2
  exact ⟨_, _, _, rfl, HM.out.1, HM.out.2⟩

theorem shows_arg (n : Int) (p : Nat) (w : World) (hn : n < 0 ∨ 4096 < n) : Calls Try.prog 7 #[.int .i64 n, .float .f64 p] w fun e w' => e = .returned (.tuple #[.slice none 0 0, .int .i64 2]) ∧ w' = w := by
  rcases hn with h | h
  · go_enter Try.func7, Try.ntmps7
    go_wp2
    go_ret2
    exact ⟨rfl, rfl⟩
  · have h0 : ¬ n < 0 := by omega
    go_enter Try.func7, Try.ntmps7
    go_wp2
    go_ret2
    exact ⟨rfl, rfl⟩
theorem shows_real (n : Int) (p : Nat) (w : World) (hn : ¬ (n < 0 ∨ 4096 < n)) (hp : lik p = false) : Calls Try.prog 7 #[.int .i64 n, .float .f64 p] w fun e w' => e = .returned (.tuple #[.slice none 0 0, .int .i64 250]) ∧ w' = w := by
  have h0 : ¬ n < 0 := by omega
  have h1 : ¬ 4096 < n := by omega
  have C := hide (fun w => isL_any p w)
  rw [hp] at C
  clear hp hn
  go_enter Try.func7, Try.ntmps7
  go_wp2_with fail
  refine (C.out _).mono ?_
  rintro e w1 ⟨rfl, rfl⟩
  go_wp2
  go_ret2
  exact ⟨rfl, rfl⟩

/-- What Above answers. -/
def aB (n seats : Int) (p : Nat) : Nat := if n < 0 ∨ 4096 < n then 0 else if lik p = true then sm (rw' (p % 2 ^ 63) n.toNat) (pl seats) else 0
def aE (n : Int) (p : Nat) : Int := if n < 0 ∨ 4096 < n then 2 else if lik p = true then 0 else 250

end Go.Proofs.Ytdhpjjbjgnnddab
