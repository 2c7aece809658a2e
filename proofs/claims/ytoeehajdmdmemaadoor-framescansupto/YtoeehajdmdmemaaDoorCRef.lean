/- The contracts of the document's step, Byte, More, Sum, back. -/
import Derived.Test.YtoeehajdmdmemaaDoorCMore
namespace Go.Proofs.YtoeehajdmdmemaaDoor.Cr
open Go.RowKit
attribute [local go_sem ↓] Go.wp_at_zero Go.wp_at_succ

set_option maxHeartbeats 400000 in
theorem rstep_any (r : Nat) (hr : r < 4294967296) (w : World) : Calls Tryd.prog 62 #[.int .u32 (r : Int)] w fun e w' => e = .returned (.int .u32 ((Poly.step r : Nat) : Int)) ∧ w' = w := by
  have hxor : bits .xor .u32 ((r : Int) / 2) 3988292384 = ((r / 2 ^^^ 3988292384 : Nat) : Int) := bits_xor_u32 (r / 2) 3988292384 (by omega) (by decide)
  by_cases h : r % 2 = 1
  · rw [show Poly.step r = r / 2 ^^^ 3988292384 by simp [Poly.step, h]]
    generalize r / 2 ^^^ 3988292384 = y at *
    have hm : (r : Int) % 2 = 1 := by omega
    clear h
    go_enter Tryd.func62, Tryd.ntmps62
    go_wp2
    go_ret
    exact ⟨rfl, rfl⟩
  · rw [show Poly.step r = r / 2 by simp [Poly.step, h]]
    have hm : (r : Int) % 2 = 0 := by omega
    clear h hxor
    go_enter Tryd.func62, Tryd.ntmps62
    go_wp2
    go_ret
    exact ⟨rfl, rfl⟩

set_option maxHeartbeats 1000000 in
theorem rbyte_any (r b : Nat) (hr : r < 4294967296) (hb : b < 256) (w : World) : Calls Tryd.prog 60 #[.int .u32 (r : Int), .int .u8 (b : Int)] w fun e w' => e = .returned (.int .u32 ((Poly.byteStep r b : Nat) : Int)) ∧ w' = w := by
  have hxor := bits_xor_u32 r b hr (by omega)
  have hl := Poly.xor_lt32 hr (show b < 4294967296 by omega)
  obtain ⟨M, hM⟩ : ∃ M, M = Poly.byteStep r b := ⟨_, rfl⟩
  rw [← hM]
  have HM : Hid (M = Poly.steps 8 (r ^^^ b)) := hM
  generalize r ^^^ b = x at *
  clear hM
  go_enter Tryd.func60, Tryd.ntmps60
  go_wp2
  go_loopg [0, 5] 8 (fun k y i wr => ∃ y' j : Nat, k + j = 8 ∧ i = .int .i64 j ∧ y = .int .u32 (y' : Int) ∧ y' < 4294967296 ∧ Hid (Poly.steps k y' = M) ∧ wr = w)
  case atStart => exact ⟨x, 0, rfl, rfl, rfl, hl, HM.out.symm, rfl⟩
  case round =>
    obtain ⟨y, j, hkj, rfl, rfl, hy, HI, rfl⟩ := hrel
    by_cases hk : 0 < gk
    · obtain ⟨k, rfl⟩ : ∃ k, gk = k + 1 := ⟨gk - 1, by omega⟩
      have hl2 := Poly.step_lt hy
      have HS := hide (fun w => rstep_any y hy w)
      have HI2 : Hid (Poly.steps k (Poly.step y) = M) := HI.out
      generalize Poly.step y = y2 at *
      have hj : (j : Int) < 8 := by omega
      clear HM HI
      go_wp2_with fail
      refine (HS.out _).mono ?_
      rintro e w' ⟨rfl, rfl⟩
      go_wp2
      go_roundg k
      case measure => omega
      case rel => exact ⟨y2, j + 1, by omega, by go_num, rfl, hl2, HI2, rfl⟩
    · have hj : j = 8 := by omega
      have h0 : gk = 0 := by omega
      subst hj h0
      have h1 : y = M := HI.out
      subst h1
      clear HM HI
      go_wp2
      go_ret
      exact ⟨rfl, rfl⟩

set_option maxHeartbeats 1000000 in
theorem rmore_any (s : Nat) (ao : Option Addr) (n c : Nat) (xs : List Nat) (w : World) (hs : s < 4294967296) (hn : xs.length = n) (hx : Bytes xs) (hat : At w ao xs) (hm : n ≤ 4611686018427387904) :
    Calls Tryd.prog 53 #[.int .u32 (s : Int), .slice ao n c] w fun e w' => e = .returned (.int .u32 ((Poly.more s xs : Nat) : Int)) ∧ w' = w := by
  have hinv : bits .xor .u32 (s : Int) 4294967295 = ((4294967295 ^^^ s : Nat) : Int) := by rw [Nat.xor_comm]; exact bits_xor_u32 s 4294967295 hs (by decide)
  have hrl : 4294967295 ^^^ s < 4294967296 := Poly.xor_lt32 (by decide) hs
  have hM : Poly.more s xs = Poly.run (4294967295 ^^^ s) xs ^^^ 4294967295 := rfl
  obtain ⟨M, hM2⟩ : ∃ M, M = Poly.more s xs := ⟨_, rfl⟩
  rw [← hM2]
  rw [← hM2] at hM
  generalize 4294967295 ^^^ s = r0 at *
  have HM := hide hM
  clear hM hM2
  have HA := hide (And.intro hn (And.intro hx hat))
  clear hn hx hat
  go_enter Tryd.func53, Tryd.ntmps53
  go_wp2
  go_loopg [5, 6] n (fun k r i wr => ∃ j : Nat, k + j = n ∧ i = .int .i64 j ∧ r = .int .u32 ((Poly.run r0 (xs.take j) : Nat) : Int) ∧ wr = w)
  case atStart => exact ⟨0, by omega, rfl, rfl, rfl⟩
  case round =>
    obtain ⟨j, hkj, rfl, rfl, rfl⟩ := hrel
    obtain ⟨hn, hx, hat⟩ := HA.out
    have hR := Poly.run_lt (xs.take j) hrl (hx.take j)
    by_cases hk : 0 < gk
    · have hj : j < xs.length := by omega
      obtain ⟨a, rfl, hca⟩ := hat j xs[j] (by simp [hj])
      have hb := hx xs[j] (List.getElem_mem hj)
      have HR := hide (run_take hj r0)
      generalize xs[j] = x at *
      generalize Poly.run r0 (xs.take j) = R at *
      have HB := hide (fun w => rbyte_any R x hR hb w)
      generalize Poly.byteStep R x = R1 at *
      have hj1 : (j : Int) < (n : Int) := by omega
      clear hn hx hat HA hj HM
      go_wp2_with fail
      refine (HB.out _).mono ?_
      rintro e w' ⟨rfl, rfl⟩
      go_wp2
      go_roundg (gk - 1)
      case measure => omega
      case rel => exact ⟨j + 1, by omega, by go_num, by rw [HR.out], rfl⟩
    · have hj : j = n := by omega
      subst hj
      rw [List.take_of_length_le (by omega)] at hR ⊢
      have h1 : bits .xor .u32 ((Poly.run r0 xs : Nat) : Int) 4294967295 = (M : Int) := by rw [HM.out]; exact bits_xor_u32 _ 4294967295 hR (by decide)
      clear HM
      generalize Poly.run r0 xs = z at *
      clear hn hx hat HA
      go_wp2
      go_ret
      exact ⟨rfl, rfl⟩

set_option maxHeartbeats 400000 in
theorem rsum_any (ao : Option Addr) (n c : Nat) (xs : List Nat) (w : World) (hn : xs.length = n) (hx : Bytes xs) (hat : At w ao xs) (hm : n ≤ 4611686018427387904) :
    Calls Tryd.prog 39 #[.slice ao n c] w fun e w' => e = .returned (.int .u32 ((Poly.more 0 xs : Nat) : Int)) ∧ w' = w := by
  have HM := hide (rmore_any 0 ao n c xs w (by decide) hn hx hat hm)
  generalize Poly.more 0 xs = M at *
  clear hn hx hat hm
  go_enter Tryd.func39, Tryd.ntmps39
  go_wp2_with fail
  refine HM.out.mono ?_
  rintro e w' ⟨rfl, rfl⟩
  go_wp2
  go_ret
  exact ⟨rfl, rfl⟩
end Go.Proofs.YtoeehajdmdmemaaDoor.Cr
