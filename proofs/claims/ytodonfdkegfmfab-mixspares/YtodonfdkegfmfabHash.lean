/- The contracts of mix's fold, unfold, Hash, Back. -/
import Derived.Test.YtodonfdkegfmfabBase
import Derived.Test.YtodonfdkegfmfabChecked
import Derived.Deep.LoopGhost
import Derived.Deep.RegionHeld3
import Derived.Deep.DrawnRows
import Derived.Deep.QuietTactic
import Derived.Deep.RegionWith
import Derived.BigQuiet
import Derived.Deep.OwnRows
namespace Go.Proofs.Ytodonfdkegfmfab
open Go.RowKit
attribute [local go_sem ↓] Go.wp_at_zero Go.wp_at_succ

set_option maxHeartbeats 400000 in
theorem fold_any (x k : Nat) (hx : x < 18446744073709551616) (hk : k < 64) (w : World) : Calls Try.prog 37 #[.int .u64 (x : Int), .int .u64 (k : Int)] w fun e w' => e = .returned (.int .u64 ((Mx.fold k x : Nat) : Int)) ∧ w' = w := by
  have h1 := bits_xor_u64 x (x / 2 ^ k) hx (Mx.div_lt k hx)
  rw [← shr_nat] at h1
  have h2 : Mx.fold k x = x ^^^ x / 2 ^ k := rfl
  rw [← h2] at h1
  clear h2
  generalize Mx.fold k x = y at *
  go_enter Try.func37, Try.ntmps37
  go_wp2
  go_ret
  exact ⟨rfl, rfl⟩

set_option maxHeartbeats 400000 in
theorem unf_any (x k : Nat) (hx : x < 18446744073709551616) (hk : k < 32) (w : World) : Calls Try.prog 38 #[.int .u64 (x : Int), .int .u64 (k : Int)] w fun e w' => e = .returned (.int .u64 ((Mx.unf k x : Nat) : Int)) ∧ w' = w := by
  have h1 := bits_xor_u64 x (x / 2 ^ k) hx (Mx.div_lt k hx)
  have hl := Mx.xor_lt hx (Mx.div_lt k hx)
  rw [← shr_nat] at h1
  have h2 : Mx.unf k x = x ^^^ x / 2 ^ k ^^^ x / 2 ^ (2 * k) := rfl
  rw [h2]
  clear h2
  generalize x ^^^ x / 2 ^ k = y at *
  have h3 := bits_xor_u64 y (x / 2 ^ (2 * k)) hl (Mx.div_lt _ hx)
  rw [← shr_nat] at h3
  generalize y ^^^ x / 2 ^ (2 * k) = z at *
  have h4 : IntKind.u64.wrap (2 * (k : Int)) = ((2 * k : Nat) : Int) := by rw [wrap_u64]; omega
  go_enter Try.func38, Try.ntmps38
  go_wp2
  go_ret
  exact ⟨rfl, rfl⟩

theorem mul_wrap (a b : Nat) : IntKind.u64.wrap ((a : Int) * (b : Int)) = ((Mx.mul a b : Nat) : Int) := by
  rw [← Int.natCast_mul, wrap_nat]; rfl

set_option maxHeartbeats 400000 in
theorem hash_any (x : Nat) (hx : x < 18446744073709551616) (w : World) : Calls Try.prog 14 #[.int .u64 (x : Int)] w fun e w' => e = .returned (.int .u64 ((Mx.hash x : Nat) : Int)) ∧ w' = w := by
  rw [Mx.hash_eq]
  have C1 := hide (fold_any x 30 hx (by decide) w)
  generalize Mx.fold 30 x = a at *
  have m1 : IntKind.u64.wrap ((a : Int) * 13787848793156543929) = ((Mx.mul a 13787848793156543929 : Nat) : Int) := mul_wrap a 13787848793156543929
  have l1 := Mx.mul_lt a 13787848793156543929
  generalize Mx.mul a 13787848793156543929 = b at *
  have C2 := hide (fold_any b 27 l1 (by decide) w)
  generalize Mx.fold 27 b = c at *
  have m2 : IntKind.u64.wrap ((c : Int) * 10723151780598845931) = ((Mx.mul c 10723151780598845931 : Nat) : Int) := mul_wrap c 10723151780598845931
  have l2 := Mx.mul_lt c 10723151780598845931
  generalize Mx.mul c 10723151780598845931 = d at *
  have C3 := hide (fold_any d 31 l2 (by decide) w)
  generalize Mx.fold 31 d = f at *
  go_enter Try.func14, Try.ntmps14
  go_wp2_with fail
  refine C1.out.mono ?_
  rintro e w' ⟨rfl, rfl⟩
  go_wp2_with fail
  refine C2.out.mono ?_
  rintro e w' ⟨rfl, rfl⟩
  go_wp2_with fail
  refine C3.out.mono ?_
  rintro e w' ⟨rfl, rfl⟩
  go_wp2
  go_ret
  exact ⟨rfl, rfl⟩

set_option maxHeartbeats 400000 in
theorem back_any (x : Nat) (hx : x < 18446744073709551616) (w : World) : Calls Try.prog 15 #[.int .u64 (x : Int)] w fun e w' => e = .returned (.int .u64 ((Mx.back x : Nat) : Int)) ∧ w' = w := by
  rw [Mx.back_eq]
  have C1 := hide (unf_any x 31 hx (by decide) w)
  generalize Mx.unf 31 x = a at *
  have m1 : IntKind.u64.wrap ((a : Int) * 3573116690164977347) = ((Mx.mul a 3573116690164977347 : Nat) : Int) := mul_wrap a 3573116690164977347
  have l1 := Mx.mul_lt a 3573116690164977347
  generalize Mx.mul a 3573116690164977347 = b at *
  have C2 := hide (unf_any b 27 l1 (by decide) w)
  generalize Mx.unf 27 b = c at *
  have m2 : IntKind.u64.wrap ((c : Int) * 10871156337175269513) = ((Mx.mul c 10871156337175269513 : Nat) : Int) := mul_wrap c 10871156337175269513
  have l2 := Mx.mul_lt c 10871156337175269513
  generalize Mx.mul c 10871156337175269513 = d at *
  have C3 := hide (unf_any d 30 l2 (by decide) w)
  generalize Mx.unf 30 d = f at *
  go_enter Try.func15, Try.ntmps15
  go_wp2_with fail
  refine C1.out.mono ?_
  rintro e w' ⟨rfl, rfl⟩
  go_wp2_with fail
  refine C2.out.mono ?_
  rintro e w' ⟨rfl, rfl⟩
  go_wp2_with fail
  refine C3.out.mono ?_
  rintro e w' ⟨rfl, rfl⟩
  go_wp2
  go_ret
  exact ⟨rfl, rfl⟩

end Go.Proofs.Ytodonfdkegfmfab
