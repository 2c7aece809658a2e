/- The contracts of the document's own under, over, Back. -/
import Derived.Test.YtodonfdkegfmfaaHash
namespace Go.Proofs.Ytodonfdkegfmfaa
open Go.RowKit
attribute [local go_sem ↓] Go.wp_at_zero Go.wp_at_succ

set_option maxHeartbeats 1000000 in
theorem under_any (y k u : Nat) (hy : y = Mx.fold k u) (hu : u < 18446744073709551616) (hk1 : 1 ≤ k) (hk : k < 64) (w : World) :
    Calls Try.prog 25 #[.int .u64 (y : Int), .int .u64 (k : Int)] w fun e w' => e = .returned (.int .u64 (u : Int)) ∧ w' = w := by
  have hyl : y < 18446744073709551616 := by rw [hy]; exact Mx.fold_lt k hu
  have HY := hide (And.intro hy hu)
  clear hy hu
  go_enter Try.func25, Try.ntmps25
  go_wp2
  go_loopg [5, 6, 7] 64 (fun g x i b wr => g ≤ 64 ∧ x = .int .u64 ((Mx.top u g : Nat) : Int) ∧ i = .int .i64 ((g : Int) - 1) ∧ wr = w)
  case atStart => exact ⟨by omega, by rw [Mx.top_all HY.out.2]; rfl, rfl, rfl⟩
  case round =>
    obtain ⟨hg, rfl, rfl, rfl⟩ := hrel
    by_cases hk0 : gk = 0
    · subst hk0
      rw [Mx.top_zero]
      go_wp2
      go_ret
      exact ⟨rfl, rfl⟩
    · obtain ⟨g, rfl⟩ : ∃ g, gk = g + 1 := ⟨gk - 1, by omega⟩
      rw [show ((g + 1 : Nat) : Int) - 1 = (g : Int) by omega]
      obtain ⟨hy, hu⟩ := HY.out
      have hx := Mx.top_lt (g + 1) hu
      have hb1 := and_one (y / 2 ^ g) (Mx.div_lt g hyl)
      rw [← shr_nat] at hb1
      have hb2 := and_one (Mx.top u (g + 1) / 2 ^ (g + k)) (Mx.div_lt _ hx)
      rw [← shr_nat] at hb2
      have hor := Mx.top_or u g
      have hlt := Mx.top_lt g hu
      by_cases hgk : g + k < 64
      · have hbit := @Mx.under_bit u k g hk1
        rw [← hy] at hbit
        have hc : Mx.top u (g + 1) / 2 ^ (g + k) % 2 < 2 := Nat.mod_lt _ (by decide)
        have hb : y / 2 ^ g % 2 < 2 := Nat.mod_lt _ (by decide)
        have hd : u / 2 ^ g % 2 < 2 := Nat.mod_lt _ (by decide)
        generalize Mx.top u (g + 1) / 2 ^ (g + k) % 2 = c at *
        generalize y / 2 ^ g % 2 = b at *
        have hxor := bits_xor_u64 b c (by omega) (by omega)
        rw [hbit] at hxor
        have hdl : u / 2 ^ g % 2 * 2 ^ g < 18446744073709551616 := by
          rw [Mx.lt64]
          have h63 : 2 ^ g ≤ 2 ^ 63 := Nat.pow_le_pow_right (by decide) (by omega)
          have h64 : (2 : Nat) ^ 64 = 2 * 2 ^ 63 := by decide
          rw [h64]
          have := Nat.mul_le_mul (show u / 2 ^ g % 2 ≤ 1 by omega) h63
          omega
        generalize u / 2 ^ g % 2 = d at *
        have hshl : IntKind.u64.wrap ((d : Int) * 2 ^ g) = ((d * 2 ^ g : Nat) : Int) := by
          rw [show (d : Int) * 2 ^ g = ((d * 2 ^ g : Nat) : Int) by simp, wrap_nat, Nat.mod_eq_of_lt hdl]
        have hor2 := bits_or_u64 (Mx.top u (g + 1)) (d * 2 ^ g) hx hdl
        rw [hor] at hor2
        generalize d * 2 ^ g = D at *
        generalize Mx.top u (g + 1) = X at *
        have hgki : (g : Int) + (k : Int) < 64 := by omega
        clear hor hbit hlt hy hu hb hc hd
        go_wp2
        go_roundg g
        case measure => omega
        case rel => exact ⟨by omega, rfl, rfl, rfl⟩
      · have hbit := @Mx.under_bit0 u k g hu (by omega)
        rw [← hy] at hbit
        rw [hbit] at hb1
        have hd : u / 2 ^ g % 2 < 2 := Nat.mod_lt _ (by decide)
        have hdl : u / 2 ^ g % 2 * 2 ^ g < 18446744073709551616 := by
          rw [Mx.lt64]
          have h63 : 2 ^ g ≤ 2 ^ 63 := Nat.pow_le_pow_right (by decide) (by omega)
          have h64 : (2 : Nat) ^ 64 = 2 * 2 ^ 63 := by decide
          rw [h64]
          have := Nat.mul_le_mul (show u / 2 ^ g % 2 ≤ 1 by omega) h63
          omega
        generalize u / 2 ^ g % 2 = d at *
        have hshl : IntKind.u64.wrap ((d : Int) * 2 ^ g) = ((d * 2 ^ g : Nat) : Int) := by
          rw [show (d : Int) * 2 ^ g = ((d * 2 ^ g : Nat) : Int) by simp, wrap_nat, Nat.mod_eq_of_lt hdl]
        have hor2 := bits_or_u64 (Mx.top u (g + 1)) (d * 2 ^ g) hx hdl
        rw [hor] at hor2
        generalize d * 2 ^ g = D at *
        generalize Mx.top u (g + 1) = X at *
        have hgki : ¬ (g : Int) + (k : Int) < 64 := by omega
        clear hor hbit hlt hy hu hd hb2
        go_wp2
        go_roundg g
        case measure => omega
        case rel => exact ⟨by omega, rfl, rfl, rfl⟩

set_option maxHeartbeats 1000000 in
theorem over_any (y o v : Nat) (hy : y = Mx.mul v o) (hv : v < 18446744073709551616) (ho : o % 2 = 1) (w : World) :
    Calls Try.prog 26 #[.int .u64 (y : Int), .int .u64 (o : Int)] w fun e w' => e = .returned (.int .u64 (v : Int)) ∧ w' = w := by
  have hyl : y < 18446744073709551616 := by rw [hy]; exact Mx.mul_lt v o
  have HY := hide (And.intro hy (And.intro hv ho))
  clear hy hv ho
  go_enter Try.func26, Try.ntmps26
  go_wp2
  go_loopg [5, 6] 64 (fun k x i wr => ∃ g : Nat, k + g = 64 ∧ x = .int .u64 ((v % 2 ^ g : Nat) : Int) ∧ i = .int .i64 (g : Int) ∧ wr = w)
  case atStart => exact ⟨0, by omega, by rw [Nat.pow_zero, Nat.mod_one]; rfl, rfl, rfl⟩
  case round =>
    obtain ⟨g, hkg, rfl, rfl, rfl⟩ := hrel
    by_cases hk : 0 < gk
    · obtain ⟨hy, hv, ho⟩ := HY.out
      have hgl : (g : Int) < 64 := by omega
      have hxl : v % 2 ^ g < 18446744073709551616 := Nat.lt_of_le_of_lt (Nat.mod_le _ _) hv
      have hmul := mul_wrap (v % 2 ^ g) o
      have hsub : IntKind.u64.wrap ((y : Int) - ((Mx.mul (v % 2 ^ g) o : Nat) : Int)) = ((Mx.mul (2 ^ g * (v / 2 ^ g)) o : Nat) : Int) := by
        rw [wrap_u64]; exact Mx.over_rest hy.symm
      have hr := and_one (Mx.mul (2 ^ g * (v / 2 ^ g)) o / 2 ^ g) (Mx.div_lt _ (Mx.mul_lt _ _))
      have hrb : Mx.mul (2 ^ g * (v / 2 ^ g)) o / 2 ^ g % 2 = v / 2 ^ g % 2 := Mx.over_bit ho (by omega)
      rw [hrb, ← shr_nat] at hr
      have hp : 2 ^ g < 18446744073709551616 := by rw [Mx.lt64]; exact Nat.pow_lt_pow_right (by decide) (by omega)
      have hor := bits_or_u64 (v % 2 ^ g) (2 ^ g) hxl hp
      have hshl : IntKind.u64.wrap ((2 : Int) ^ g) = ((2 ^ g : Nat) : Int) := by
        rw [show (2 : Int) ^ g = ((2 ^ g : Nat) : Int) by simp, wrap_nat, Nat.mod_eq_of_lt hp]
      rw [show ((2 ^ g : Nat) : Int) = 2 ^ g by simp] at hor hshl
      generalize Mx.mul (2 ^ g * (v / 2 ^ g)) o = R at *
      generalize Mx.mul (v % 2 ^ g) o = m at *
      by_cases hb : v / 2 ^ g % 2 = 1
      · rw [hb] at hr
        have hr : bits .and .u64 ((R : Int) / 2 ^ g) 1 = 1 := hr
        rw [Mx.low_or v g hb] at hor
        obtain ⟨z, hz⟩ : ∃ z, z = v % 2 ^ (g + 1) := ⟨_, rfl⟩
        have HN := hide hz
        rw [← hz] at hor
        clear hz
        generalize v % 2 ^ g = x at *
        clear hy hv ho hrb hb
        go_wp2
        go_roundg (gk - 1)
        case measure => omega
        case rel => exact ⟨g + 1, by omega, by rw [HN.out], by go_num, rfl⟩
      · have hb0 : v / 2 ^ g % 2 = 0 := by omega
        rw [hb0] at hr
        have hr : bits .and .u64 ((R : Int) / 2 ^ g) 1 = 0 := hr
        have HN := hide (Mx.low_no v g hb0)
        generalize v % 2 ^ g = x at *
        clear hy hv ho hrb hb hb0 hor
        go_wp2
        go_roundg (gk - 1)
        case measure => omega
        case rel => exact ⟨g + 1, by omega, by rw [HN.out], by go_num, rfl⟩
    · obtain rfl : g = 64 := by omega
      rw [Nat.mod_eq_of_lt (Mx.lt64.1 HY.out.2.1)]
      go_wp2
      go_ret
      exact ⟨rfl, rfl⟩

set_option maxHeartbeats 400000 in
theorem refBack_any (x : Nat) (hx : x < 18446744073709551616) (w : World) : Calls Try.prog 17 #[.int .u64 (x : Int)] w fun e w' => e = .returned (.int .u64 ((Mx.back x : Nat) : Int)) ∧ w' = w := by
  rw [Mx.back_eq]
  have l0 := Mx.unf_lt 31 hx
  have C1 := hide (under_any x 31 _ (Mx.fold_unf (by decide) hx).symm l0 (by decide) (by decide) w)
  generalize Mx.unf 31 x = a at *
  have l1 := Mx.mul_lt a 3573116690164977347
  have C2 := hide (over_any a 10723151780598845931 _ (Mx.mul_mul2 l0).symm l1 (by decide) w)
  generalize Mx.mul a 3573116690164977347 = b at *
  have l2 := Mx.unf_lt 27 l1
  have C3 := hide (under_any b 27 _ (Mx.fold_unf (by decide) l1).symm l2 (by decide) (by decide) w)
  generalize Mx.unf 27 b = c at *
  have l3 := Mx.mul_lt c 10871156337175269513
  have C4 := hide (over_any c 13787848793156543929 _ (Mx.mul_mul1 l2).symm l3 (by decide) w)
  generalize Mx.mul c 10871156337175269513 = d at *
  have l4 := Mx.unf_lt 30 l3
  have C5 := hide (under_any d 30 _ (Mx.fold_unf (by decide) l3).symm l4 (by decide) (by decide) w)
  generalize Mx.unf 30 d = f at *
  go_enter Try.func17, Try.ntmps17
  go_wp2_with fail
  refine C1.out.mono ?_
  rintro e w' ⟨rfl, rfl⟩
  go_wp2_with fail
  refine C2.out.mono ?_
  rintro e w' ⟨rfl, rfl⟩
  go_wp2_with fail
  refine C3.out.mono ?_
  rintro e w' ⟨rfl, rfl⟩
  go_wp2_with fail
  refine C4.out.mono ?_
  rintro e w' ⟨rfl, rfl⟩
  go_wp2_with fail
  refine C5.out.mono ?_
  rintro e w' ⟨rfl, rfl⟩
  go_wp2
  go_ret
  exact ⟨rfl, rfl⟩
end Go.Proofs.Ytodonfdkegfmfaa
