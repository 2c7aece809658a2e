/- The contracts of crc's step, times, moved, Join. -/
import Derived.Test.YtoeehajdmdmemabDoorCBase
import Derived.Test.YtoeehajdmdmemabDoorChecked
import Derived.Deep.LoopGhost
import Derived.Deep.RegionHeld3
import Derived.Deep.DrawnRows
import Derived.Deep.QuietTactic
import Derived.Deep.RegionWith
import Derived.BigQuiet
import Derived.Deep.OwnRows
namespace Go.Proofs.YtoeehajdmdmemabDoor.Cr
open Go.RowKit
attribute [local go_sem ↓] Go.wp_at_zero Go.wp_at_succ

/-- Twice a number of 32 bits, its highest bit lost. -/
theorem shl_u32 (a : Nat) : IntKind.u32.wrap ((a : Int) * 2) = ((a * 2 % 4294967296 : Nat) : Int) := by rw [wrap_u32]; omega

set_option maxHeartbeats 400000 in
theorem step_any (r : Nat) (hr : r < 4294967296) (w : World) : Calls Tryd.prog 105 #[.int .u32 (r : Int)] w fun e w' => e = .returned (.int .u32 ((Poly.step r : Nat) : Int)) ∧ w' = w := by
  have hand := bits_and_u32 r 1 hr (by decide)
  rw [and_one] at hand
  have hxor : bits .xor .u32 ((r : Int) / 2) 3988292384 = ((r / 2 ^^^ 3988292384 : Nat) : Int) := bits_xor_u32 (r / 2) 3988292384 (by omega) (by decide)
  by_cases h : r % 2 = 1
  · rw [show Poly.step r = r / 2 ^^^ 3988292384 by simp [Poly.step, h]]
    generalize r / 2 ^^^ 3988292384 = y at *
    have hand : bits .and .u32 (r : Int) 1 = 1 := by rw [h] at hand; exact hand
    clear h
    go_enter Tryd.func105, Tryd.ntmps105
    go_wp2
    go_ret
    exact ⟨rfl, rfl⟩
  · rw [show Poly.step r = r / 2 by simp [Poly.step, h]]
    have hand : bits .and .u32 (r : Int) 1 = 0 := by rw [show r % 2 = 0 by omega] at hand; exact hand
    clear h hxor
    go_enter Tryd.func105, Tryd.ntmps105
    go_wp2
    go_ret
    exact ⟨rfl, rfl⟩

theorem bits_and_i64 (a b : Nat) (ha : a < 9223372036854775808) (hb : b < 9223372036854775808) : bits .and .i64 (a : Int) (b : Int) = ((a &&& b : Nat) : Int) := by
  have hx : a &&& b < 2 ^ 63 := Nat.and_lt_two_pow _ (by omega)
  have h1 : (BitVec.ofInt 64 (a : Int)).toNat = a := by
    rw [BitVec.ofInt_natCast, BitVec.toNat_ofNat]; exact Nat.mod_eq_of_lt (by omega)
  have h2 : (BitVec.ofInt 64 (b : Int)).toNat = b := by
    rw [BitVec.ofInt_natCast, BitVec.toNat_ofNat]; exact Nat.mod_eq_of_lt (by omega)
  show IntKind.i64.wrap ((BitVec.ofInt 64 (a : Int) &&& BitVec.ofInt 64 (b : Int)).toNat : Int) = _
  rw [BitVec.toNat_and, h1, h2, IntKind.wrap_i64]
  omega

/-- Many steps at once, ahead or back: what a product with a number does. -/
structure Goes (F : Nat → Nat → Nat) : Prop where
  zero : ∀ r, F 0 r = r
  add : ∀ j k r, F (j + k) r = F j (F k r)
  lt : ∀ k r, r < 4294967296 → F k r < 4294967296
  mul : ∀ k r, r < 4294967296 → Poly.mul r (F k 2147483648) = F k r
theorem goes_ahead : Goes Poly.steps := ⟨fun _ => rfl, Poly.steps_add, fun k _ h => Poly.steps_lt k h, Poly.mul_steps⟩
theorem goes_back : Goes Poly.unsteps := ⟨fun _ => rfl, Poly.unsteps_add, fun k _ h => Poly.unsteps_lt k h, Poly.mul_unsteps⟩

/-- What Join answers. -/
def joinN (a b : Nat) (n : Int) : Nat := Poly.steps (8 * n.toNat) a ^^^ b
theorem joinN_lt {a b : Nat} (n : Int) (ha : a < 4294967296) (hb : b < 4294967296) : joinN a b n < 4294967296 := Poly.xor_lt32 (Poly.steps_lt _ ha) hb
end Go.Proofs.YtoeehajdmdmemabDoor.Cr
