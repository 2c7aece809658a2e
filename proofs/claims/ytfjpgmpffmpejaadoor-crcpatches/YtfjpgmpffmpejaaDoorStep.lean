/- The contracts of crc's step, times, moved, Join. -/
import Derived.Test.YtfjpgmpffmpejaaDoorBase
import Derived.Test.YtfjpgmpffmpejaaDoorChecked
import Derived.Deep.LoopGhost
import Derived.Deep.RegionHeld3
import Derived.Deep.DrawnRows
import Derived.Deep.QuietTactic
import Derived.Deep.RegionWith
import Derived.BigQuiet
import Derived.Deep.OwnRows
namespace Go.Proofs.YtfjpgmpffmpejaaDoor
open Go.RowKit
attribute [local go_sem ↓] Go.wp_at_zero Go.wp_at_succ

/-- Twice a number of 32 bits, its highest bit lost. -/
theorem shl_u32 (a : Nat) : IntKind.u32.wrap ((a : Int) * 2) = ((a * 2 % 4294967296 : Nat) : Int) := by rw [wrap_u32]; omega

set_option maxHeartbeats 400000 in
theorem step_any (r : Nat) (hr : r < 4294967296) (w : World) : Calls Tryd.prog 56 #[.int .u32 (r : Int)] w fun e w' => e = .returned (.int .u32 ((Poly.step r : Nat) : Int)) ∧ w' = w := by
  have hand := bits_and_u32 r 1 hr (by decide)
  rw [and_one] at hand
  have hxor : bits .xor .u32 ((r : Int) / 2) 3988292384 = ((r / 2 ^^^ 3988292384 : Nat) : Int) := bits_xor_u32 (r / 2) 3988292384 (by omega) (by decide)
  by_cases h : r % 2 = 1
  · rw [show Poly.step r = r / 2 ^^^ 3988292384 by simp [Poly.step, h]]
    generalize r / 2 ^^^ 3988292384 = y at *
    have hand : bits .and .u32 (r : Int) 1 = 1 := by rw [h] at hand; exact hand
    clear h
    go_enter Tryd.func56, Tryd.ntmps56
    go_wp2
    go_ret
    exact ⟨rfl, rfl⟩
  · rw [show Poly.step r = r / 2 by simp [Poly.step, h]]
    have hand : bits .and .u32 (r : Int) 1 = 0 := by rw [show r % 2 = 0 by omega] at hand; exact hand
    clear h hxor
    go_enter Tryd.func56, Tryd.ntmps56
    go_wp2
    go_ret
    exact ⟨rfl, rfl⟩

set_option maxHeartbeats 1000000 in
theorem times_any (a b : Nat) (ha : a < 4294967296) (hb : b < 4294967296) (w : World) : Calls Tryd.prog 36 #[.int .u32 (a : Int), .int .u32 (b : Int)] w fun e w' => e = .returned (.int .u32 ((Poly.mul a b : Nat) : Int)) ∧ w' = w := by
  obtain ⟨M, hM⟩ : ∃ M, M = Poly.mul a b := ⟨_, rfl⟩
  rw [← hM]
  have HM : Hid (Poly.mulAcc 32 a b 0 = M) := hM.symm
  clear hM
  go_enter Tryd.func36, Tryd.ntmps36
  go_wp2
  go_loopg [0, 1, 5] 32 (fun k x y p wr => ∃ x' y' p' : Nat, x = .int .u32 (x' : Int) ∧ y = .int .u32 (y' : Int) ∧ p = .int .u32 (p' : Int) ∧ x' < 4294967296 ∧ y' < 4294967296 ∧ p' < 4294967296 ∧ Hid (Poly.mulAcc k x' y' p' = M ∧ k ≤ 32 ∧ x' % 2 ^ (32 - k) = 0) ∧ wr = w)
  case atStart => exact ⟨a, b, 0, rfl, rfl, rfl, ha, hb, by decide, ⟨HM.out, by omega, by simp [Nat.mod_one]⟩, rfl⟩
  case round =>
    obtain ⟨x, y, p, rfl, rfl, rfl, hx, hy, hp, HI, rfl⟩ := hrel
    obtain ⟨hM, hk, hd⟩ := HI.out
    by_cases h0 : x = 0
    · subst h0
      rw [Poly.mulAcc_nil] at hM
      subst hM
      clear HI HM hd
      go_wp2
      go_ret
      exact ⟨rfl, rfl⟩
    · have hk0 : gk ≠ 0 := by
        rintro rfl
        simp at hd; omega
      obtain ⟨k, rfl⟩ : ∃ k, gk = k + 1 := ⟨gk - 1, by omega⟩
      have hx0 : ((x : Int) == 0) = false := by simp; omega
      have hx1 : ((x : Int) != 0) = true := by simp; omega
      have hxor := bits_xor_u32 p y hp hy
      have hpy := Poly.xor_lt32 hp hy
      have hdouble : x * 2 % 4294967296 % 2 ^ (32 - k) = 0 := by
        have e : 32 - k = (32 - (k + 1)) + 1 := by omega
        rw [Nat.mod_mod_of_dvd _ (show 2 ^ (32 - k) ∣ 4294967296 from ⟨2 ^ k, by rw [← Nat.pow_add, show 32 - k + k = 32 by omega]⟩), e, Nat.pow_succ, Nat.mul_mod_mul_right, hd]
      rw [Poly.mulAcc] at hM
      have HD := hide (And.intro hM hdouble)
      have hs := shl_u32 x
      have hxl : x * 2 % 4294967296 < 4294967296 := by omega
      generalize x * 2 % 4294967296 = x2 at *
      have hyl := Poly.step_lt hy
      have HS := hide (fun w => step_any y hy w)
      have HK := hide hk
      generalize Poly.step y = y2 at *
      by_cases ht : x < 2147483648
      · have hand : bits .and .u32 (x : Int) 2147483648 = 0 := by
          have := bits_and_u32 x 2147483648 hx (by decide)
          rw [(and_top x hx).2 ht] at this; exact this
        have HT := hide (show ¬ 2147483648 ≤ x by omega)
        clear hM hdouble hd HI HM h0 hk0 hk ht hx
        go_wp2_with fail
        refine (HS.out _).mono ?_
        rintro e w' ⟨rfl, rfl⟩
        go_wp2
        go_roundg k
        case measure => omega
        case rel =>
          obtain ⟨h1, h2⟩ := HD.out
          rw [if_neg HT.out] at h1
          exact ⟨x2, y2, p, rfl, rfl, rfl, hxl, hyl, hp, ⟨h1, by have := HK.out; omega, h2⟩, rfl⟩
      · have hand : ∃ z : Nat, bits .and .u32 (x : Int) 2147483648 = (z : Int) ∧ ((z : Int) != 0) = true := by
          have := bits_and_u32 x 2147483648 hx (by decide)
          refine ⟨_, this, ?_⟩
          have h3 : x &&& 2147483648 ≠ 0 := fun e => ht ((and_top x hx).1 e)
          simp; omega
        obtain ⟨z, hand, hz⟩ := hand
        have HT := hide (show 2147483648 ≤ x by omega)
        generalize p ^^^ y = p2 at *
        clear hM hdouble hd HI HM h0 hk0 hk ht hx
        go_wp2_with fail
        refine (HS.out _).mono ?_
        rintro e w' ⟨rfl, rfl⟩
        go_wp2
        go_roundg k
        case measure => omega
        case rel =>
          obtain ⟨h1, h2⟩ := HD.out
          rw [if_pos HT.out] at h1
          exact ⟨x2, y2, p2, rfl, rfl, rfl, hxl, hyl, hpy, ⟨h1, by have := HK.out; omega, h2⟩, rfl⟩

theorem bits_and_i64 (a b : Nat) (ha : a < 9223372036854775808) (hb : b < 9223372036854775808) : bits .and .i64 (a : Int) (b : Int) = ((a &&& b : Nat) : Int) := by
  have hx : a &&& b < 2 ^ 63 := Nat.and_lt_two_pow _ (by omega)
  have h1 : (BitVec.ofInt 64 (a : Int)).toNat = a := by
    rw [BitVec.ofInt_natCast, BitVec.toNat_ofNat]; exact Nat.mod_eq_of_lt (by omega)
  have h2 : (BitVec.ofInt 64 (b : Int)).toNat = b := by
    rw [BitVec.ofInt_natCast, BitVec.toNat_ofNat]; exact Nat.mod_eq_of_lt (by omega)
  show IntKind.i64.wrap ((BitVec.ofInt 64 (a : Int) &&& BitVec.ofInt 64 (b : Int)).toNat : Int) = _
  rw [BitVec.toNat_and, h1, h2, IntKind.wrap_i64]
  omega

/-- Many steps at once, ahead or back: what a product with a number does. -/
structure Goes (F : Nat → Nat → Nat) : Prop where
  zero : ∀ r, F 0 r = r
  add : ∀ j k r, F (j + k) r = F j (F k r)
  lt : ∀ k r, r < 4294967296 → F k r < 4294967296
  mul : ∀ k r, r < 4294967296 → Poly.mul r (F k 2147483648) = F k r
theorem goes_ahead : Goes Poly.steps := ⟨fun _ => rfl, Poly.steps_add, fun k _ h => Poly.steps_lt k h, Poly.mul_steps⟩
theorem goes_back : Goes Poly.unsteps := ⟨fun _ => rfl, Poly.unsteps_add, fun k _ h => Poly.unsteps_lt k h, Poly.mul_unsteps⟩

set_option maxHeartbeats 400000 in
theorem moved_low (r b : Nat) (n : Int) (hn : n ≤ 0) (w : World) : Calls Tryd.prog 27 #[.int .u32 (r : Int), .int .u32 (b : Int), .int .i64 n] w fun e w' => e = .returned (.int .u32 (r : Int)) ∧ w' = w := by
  have hn2 : ¬ 0 < n := by omega
  go_enter Tryd.func27, Tryd.ntmps27
  go_wp2
  go_loopg [0, 1, 2] 0 (fun k x y p wr => x = .int .u32 (r : Int) ∧ y = .int .u32 (b : Int) ∧ p = .int .i64 n ∧ wr = w)
  case atStart => exact ⟨rfl, rfl, rfl, rfl⟩
  case round =>
    obtain ⟨rfl, rfl, rfl, rfl⟩ := hrel
    go_wp2
    go_ret
    exact ⟨rfl, rfl⟩

set_option maxHeartbeats 1000000 in
theorem moved_any {F : Nat → Nat → Nat} (hF : Goes F) (r k n : Nat) (hr : r < 4294967296) (hn : n < 9223372036854775808) (w : World) :
    Calls Tryd.prog 27 #[.int .u32 (r : Int), .int .u32 ((F k 2147483648 : Nat) : Int), .int .i64 (n : Int)] w fun e w' => e = .returned (.int .u32 ((F (k * n) r : Nat) : Int)) ∧ w' = w := by
  obtain ⟨M, hM⟩ : ∃ M, M = F (k * n) r := ⟨_, rfl⟩
  rw [← hM]
  have HM : Hid (F (k * n) r = M) := hM.symm
  have hb : F k 2147483648 < 4294967296 := hF.lt k _ (by decide)
  obtain ⟨B, hB⟩ : ∃ B, B = F k 2147483648 := ⟨_, rfl⟩
  rw [← hB] at hb ⊢
  have HB : Hid (B = F k 2147483648) := hB
  clear hM hB
  go_enter Tryd.func27, Tryd.ntmps27
  go_wp2
  go_loopg [0, 1, 2] n (fun g x y p wr => ∃ x' y' k' : Nat, x = .int .u32 (x' : Int) ∧ y = .int .u32 (y' : Int) ∧ p = .int .i64 (g : Int) ∧ x' < 4294967296 ∧ y' < 4294967296 ∧ g < 9223372036854775808 ∧ Hid (F (k' * g) x' = M ∧ y' = F k' 2147483648) ∧ wr = w)
  case atStart => exact ⟨r, B, k, rfl, rfl, rfl, hr, hb, hn, ⟨HM.out, HB.out⟩, rfl⟩
  case round =>
    obtain ⟨x, y, k', rfl, rfl, rfl, hx, hy, hg, HI, rfl⟩ := hrel
    clear HM HB hn hr hb
    by_cases h0 : gk = 0
    · subst h0
      obtain ⟨h1, _⟩ := HI.out
      rw [Nat.mul_zero, hF.zero] at h1
      subst h1
      clear HI
      go_wp2
      go_ret
      exact ⟨rfl, rfl⟩
    · have hpos : (0 : Int) < (gk : Int) := by omega
      have hand := bits_and_i64 gk 1 hg (by decide)
      rw [and_one] at hand
      have hyy : Poly.mul y y = F (k' + k') 2147483648 := by
        have := hF.mul k' y hy
        rw [← HI.out.2] at this
        rw [this, HI.out.2, hF.add]
      have hxy : Poly.mul x y = F k' x := by
        have := hF.mul k' x hx
        rw [← HI.out.2] at this
        exact this
      have hxyl := Poly.mul_lt x hy
      have hyyl := Poly.mul_lt y hy
      have HT1 := hide (fun w => times_any x y hx hy w)
      have HT2 := hide (fun w => times_any y y hy hy w)
      generalize Poly.mul x y = xy at *
      generalize Poly.mul y y = yy at *
      have HXY := hide (And.intro hxy hyy)
      have HSH : Hid (((gk : Int) / 2) = ((gk / 2 : Nat) : Int)) := by show ((gk : Int) / 2) = ((gk / 2 : Nat) : Int); omega
      clear hxy hyy
      by_cases hodd : gk % 2 = 1
      · have hand : bits .and .i64 (gk : Int) 1 = 1 := by rw [hodd] at hand; exact hand
        have HO := hide hodd
        clear hodd
        go_wp2_with fail
        refine (HT1.out _).mono ?_
        rintro e w' ⟨rfl, rfl⟩
        go_wp2_with fail
        refine (HT2.out _).mono ?_
        rintro e w' ⟨rfl, rfl⟩
        go_wp2
        go_roundg (gk / 2)
        case measure => omega
        case rel =>
          refine ⟨xy, yy, k' + k', rfl, rfl, by first | rfl | rw [HSH.out], hxyl, hyyl, by omega, ⟨?_, HXY.out.2⟩, rfl⟩
          rw [HXY.out.1, ← hF.add, ← HI.out.1]
          congr 1
          have := HO.out
          have e : gk = 2 * (gk / 2) + 1 := by omega
          conv => rhs; rw [e]
          rw [Nat.mul_add, Nat.mul_one, Nat.add_mul, ← Nat.mul_assoc, Nat.mul_comm k' 2, Nat.two_mul, Nat.add_mul]
      · have hand : bits .and .i64 (gk : Int) 1 = 0 := by rw [show gk % 2 = 0 by omega] at hand; exact hand
        have HO := hide hodd
        clear hodd
        go_wp2_with fail
        refine (HT2.out _).mono ?_
        rintro e w' ⟨rfl, rfl⟩
        go_wp2
        go_roundg (gk / 2)
        case measure => omega
        case rel =>
          refine ⟨x, yy, k' + k', rfl, rfl, by first | rfl | rw [HSH.out], hx, hyyl, by omega, ⟨?_, HXY.out.2⟩, rfl⟩
          rw [← HI.out.1]
          congr 1
          have := HO.out
          have e : gk = 2 * (gk / 2) := by omega
          conv => rhs; rw [e]
          rw [Nat.add_mul, ← Nat.mul_assoc, Nat.mul_comm k' 2, Nat.two_mul, Nat.add_mul]

/-- What Join answers. -/
def joinN (a b : Nat) (n : Int) : Nat := Poly.steps (8 * n.toNat) a ^^^ b
theorem joinN_lt {a b : Nat} (n : Int) (ha : a < 4294967296) (hb : b < 4294967296) : joinN a b n < 4294967296 := Poly.xor_lt32 (Poly.steps_lt _ ha) hb
set_option maxHeartbeats 400000 in
theorem join_any (a b : Nat) (n : Int) (ha : a < 4294967296) (hb : b < 4294967296) (hn : n < 9223372036854775808) (w : World) :
    Calls Tryd.prog 16 #[.int .u32 (a : Int), .int .u32 (b : Int), .int .i64 n] w fun e w' => e = .returned (.int .u32 ((joinN a b n : Nat) : Int)) ∧ w' = w := by
  have hm : Calls Tryd.prog 27 #[.int .u32 (a : Int), .int .u32 8388608, .int .i64 n] w fun e w' => e = .returned (.int .u32 ((Poly.steps (8 * n.toNat) a : Nat) : Int)) ∧ w' = w := by
    by_cases h : n ≤ 0
    · have := moved_low a 8388608 n h w
      rw [show n.toNat = 0 by omega]; exact this
    · have := moved_any goes_ahead a 8 n.toNat ha (by omega) w
      rw [Poly.ahead, show ((n.toNat : Nat) : Int) = n by omega] at this
      exact this
  have hx := bits_xor_u32 _ b (Poly.steps_lt (8 * n.toNat) ha) hb
  have hj : joinN a b n = Poly.steps (8 * n.toNat) a ^^^ b := rfl
  rw [← hj] at hx
  clear hj
  generalize joinN a b n = J at *
  generalize Poly.steps (8 * n.toNat) a = s at *
  have HM := hide hm
  clear hm
  go_enter Tryd.func16, Tryd.ntmps16
  go_wp2_with fail
  refine HM.out.mono ?_
  rintro e w' ⟨rfl, rfl⟩
  go_wp2
  go_ret
  exact ⟨rfl, rfl⟩
end Go.Proofs.YtfjpgmpffmpejaaDoor
