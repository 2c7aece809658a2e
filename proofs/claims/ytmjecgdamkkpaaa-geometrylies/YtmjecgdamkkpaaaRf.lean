/- The contracts of the document's functions: Check, Size, Image, hold. -/
import Derived.Test.YtmjecgdamkkpaaaPt
namespace Go.Proofs.Ytmjecgdamkkpaaa
open Go.RowKit
attribute [local go_sem ↓] Go.wp_at_zero Go.wp_at_succ

set_option maxHeartbeats 1000000 in
theorem rcheck_ok (a b c : Int) (h : Gx.OkS a b c) (w : World) : Calls Try.prog 12 #[shV a b c] w fun e w' => e = .returned (.int .i64 0) ∧ w.grownBy w' none := by
  have hG : ∀ o, w.grownBy (w.alloc o) none := fun o => grown_alloc w o
  obtain ⟨h1, h2, h3, h4, h5, h6⟩ := h
  unfold shV
  go_enter Try.func12, Try.ntmps12
  go_wp2
  go_ret
  exact ⟨rfl, hG _⟩

set_option maxHeartbeats 2000000 in
theorem rcheck_no (a b c : Int) (h : ¬ Gx.OkS a b c) (w : World) : Calls Try.prog 12 #[shV a b c] w fun e w' => e = .returned (.int .i64 90) ∧ w.grownBy w' none := by
  have hG : ∀ o, w.grownBy (w.alloc o) none := fun o => grown_alloc w o
  have hh : a < 1 ∨ (1 ≤ a ∧ 1024 < a) ∨ (1 ≤ a ∧ a ≤ 1024 ∧ b < 1) ∨ (1 ≤ a ∧ a ≤ 1024 ∧ 1 ≤ b ∧ 4096 < b) ∨ (1 ≤ a ∧ a ≤ 1024 ∧ 1 ≤ b ∧ b ≤ 4096 ∧ c < 1) ∨ (1 ≤ a ∧ a ≤ 1024 ∧ 1 ≤ b ∧ b ≤ 4096 ∧ 1 ≤ c ∧ 64 < c) := by
    unfold Gx.OkS at h; omega
  clear h
  unfold shV
  rcases hh with h1 | ⟨h1, h2⟩ | ⟨h1, h2, h3⟩ | ⟨h1, h2, h3, h4⟩ | ⟨h1, h2, h3, h4, h5⟩ | ⟨h1, h2, h3, h4, h5, h6⟩
  all_goals
    go_enter Try.func12, Try.ntmps12
    go_wp2
    go_ret
    exact ⟨rfl, hG _⟩

set_option maxHeartbeats 1000000 in
theorem rhold_any (b s : Int) (hb : 1 ≤ b) (hB : b ≤ 100000) (hs : 1 ≤ s) (hS : s ≤ 100000) (w : World) : Calls Try.prog 25 #[.int .i64 b, .int .i64 s] w fun e w' => e = .returned (.int .i64 (Gx.hold b s)) ∧ w' = w := by
  obtain ⟨g1, g2, g3⟩ := Gx.hold_spec (s := s) (b := b) (by omega) (by omega)
  have hK : Gx.hold b s ≤ b := by
    have h1 : Gx.hold b s - 1 ≤ (Gx.hold b s - 1) * s := by
      have h2 : (Gx.hold b s - 1) * 1 ≤ (Gx.hold b s - 1) * s := Int.mul_le_mul_of_nonneg_left hs (by omega)
      omega
    omega
  have hlow : Hid (∀ j : Nat, (j : Int) < Gx.hold b s → (j : Int) * s < b) := fun j hj => by
    have h1 : (j : Int) * s ≤ (Gx.hold b s - 1) * s := Int.mul_le_mul_of_nonneg_right (by omega) (by omega)
    omega
  have hup : Hid (b ≤ Gx.hold b s * s) := g1
  have hbig : Hid (Gx.hold b s * s ≤ 20000000000) := Int.le_trans (Int.mul_le_mul_of_nonneg_left hS (by omega)) (by omega)
  clear g1 g2
  generalize Gx.hold b s = K at *
  obtain ⟨k, rfl⟩ : ∃ k : Nat, K = (k : Int) := ⟨K.toNat, by omega⟩
  go_enter Try.func25, Try.ntmps25
  go_wp2_with fail
  go_loopg [5] k (fun q i wr => ∃ j : Nat, q + j = k ∧ i = .int .i64 j ∧ wr = w)
  case atStart => exact ⟨0, by omega, rfl, rfl⟩
  case round =>
    obtain ⟨j, hkj, rfl, rfl⟩ := hrel
    by_cases hk : 0 < gk
    · have hj : (j : Int) < (k : Int) := by omega
      have h1 := hlow.out j hj
      have h0 : 0 ≤ (j : Int) * s := Int.mul_nonneg (by omega) (by omega)
      have hw : IntKind.i64.wrap ((j : Int) * s) = (j : Int) * s := IntWalk.i64_in _ (by omega)
      have hw' : wrap64 ((j : Int) * s) = (j : Int) * s := by rw [← IntWalk.i64_left]; exact hw
      go_wp2
      go_roundg (gk - 1)
      case measure => omega
      case rel => exact ⟨j + 1, by omega, by go_num, rfl⟩
    · obtain rfl : j = k := by omega
      have h1 := hup.out
      have h2 := hbig.out
      have hw : IntKind.i64.wrap ((j : Int) * s) = (j : Int) * s := IntWalk.i64_in _ (by omega)
      have hw' : wrap64 ((j : Int) * s) = (j : Int) * s := by rw [← IntWalk.i64_left]; exact hw
      go_wp2
      go_ret
      exact ⟨rfl, rfl⟩

/-- The sizes one behind the other. -/
def pw (j : Nat) : Int := 64 * 2 ^ j
theorem pw_list (s : Int) : Gx.OkZ s ↔ ∃ j : Nat, j < 7 ∧ s = pw j := by
  unfold Gx.OkZ pw
  constructor
  · rintro (h | h | h | h | h | h | h)
    · exact ⟨0, by omega, by omega⟩
    · exact ⟨1, by omega, by omega⟩
    · exact ⟨2, by omega, by omega⟩
    · exact ⟨3, by omega, by omega⟩
    · exact ⟨4, by omega, by omega⟩
    · exact ⟨5, by omega, by omega⟩
    · exact ⟨6, by omega, by omega⟩
  · rintro ⟨j, hj, rfl⟩
    have : j = 0 ∨ j = 1 ∨ j = 2 ∨ j = 3 ∨ j = 4 ∨ j = 5 ∨ j = 6 := by omega
    rcases this with rfl | rfl | rfl | rfl | rfl | rfl | rfl <;> decide
theorem pw_small (j : Nat) (hj : j < 7) : pw j ≤ 4096 ∧ 64 ≤ pw j := by
  have : j = 0 ∨ j = 1 ∨ j = 2 ∨ j = 3 ∨ j = 4 ∨ j = 5 ∨ j = 6 := by omega
  rcases this with rfl | rfl | rfl | rfl | rfl | rfl | rfl <;> decide
theorem pw_lt : ∀ m j : Fin 7, j.1 < m.1 → pw j.1 < pw m.1 := by decide
theorem pw_next (j : Nat) : pw (j + 1) = 2 * pw j := by unfold pw; rw [Int.pow_succ]; omega

set_option maxHeartbeats 1000000 in
theorem rsize_no (s : Int) (h : ¬ Gx.OkZ s) (w : World) : Calls Try.prog 23 #[.int .i64 s] w fun e w' => e = .returned (.bool false) ∧ w' = w := by
  have HN : Hid (∀ j : Nat, j < 7 → ¬ s = pw j) := fun j hj e => h ((pw_list s).2 ⟨j, hj, e⟩)
  clear h
  go_enter Try.func23, Try.ntmps23
  go_wp2_with fail
  go_loopg [3] 7 (fun q i wr => ∃ j : Nat, q + j = 7 ∧ i = .int .i64 (pw j) ∧ wr = w)
  case atStart => exact ⟨0, by omega, rfl, rfl⟩
  case round =>
    obtain ⟨j, hkj, rfl, rfl⟩ := hrel
    by_cases hk : 0 < gk
    · have hn := HN.out j (by omega)
      obtain ⟨h1, h2⟩ := pw_small j (by omega)
      have hx := hide (pw_next j)
      obtain ⟨x, hxx⟩ : ∃ x, x = pw j := ⟨_, rfl⟩
      rw [← hxx] at hn h1 h2 hx ⊢
      clear hxx
      go_wp2
      go_roundg (gk - 1)
      case measure => omega
      case rel => exact ⟨j + 1, by omega, by rw [hx.out], rfl⟩
    · obtain rfl : j = 7 := by omega
      have e : pw 7 = 8192 := by decide
      rw [e]
      go_wp2
      go_ret
      exact ⟨rfl, rfl⟩

set_option maxHeartbeats 1000000 in
theorem rsize_ok (s : Int) (h : Gx.OkZ s) (w : World) : Calls Try.prog 23 #[.int .i64 s] w fun e w' => e = .returned (.bool true) ∧ w' = w := by
  obtain ⟨m, hm, hs⟩ := (pw_list s).1 h
  have HN : Hid (∀ j : Nat, j < m → pw j < s) := fun j hj => by
    subst hs
    exact pw_lt ⟨m, hm⟩ ⟨j, by omega⟩ hj
  have HS := hide hs
  clear h hs
  go_enter Try.func23, Try.ntmps23
  go_wp2_with fail
  go_loopg [3] m (fun q i wr => ∃ j : Nat, q + j = m ∧ i = .int .i64 (pw j) ∧ wr = w)
  case atStart => exact ⟨0, by omega, rfl, rfl⟩
  case round =>
    obtain ⟨j, hkj, rfl, rfl⟩ := hrel
    by_cases hk : 0 < gk
    · have hn := HN.out j (by omega)
      have hn' : ¬ s = pw j := by omega
      obtain ⟨h1, h2⟩ := pw_small j (by omega)
      have hx := hide (pw_next j)
      obtain ⟨x, hxx⟩ : ∃ x, x = pw j := ⟨_, rfl⟩
      rw [← hxx] at hn hn' h1 h2 hx ⊢
      clear hxx
      go_wp2
      go_roundg (gk - 1)
      case measure => omega
      case rel => exact ⟨j + 1, by omega, by rw [hx.out], rfl⟩
    · obtain rfl : j = m := by omega
      obtain ⟨h1, h2⟩ := pw_small j (by omega)
      rw [← HS.out] at h1 h2 ⊢
      go_wp2
      go_ret
      exact ⟨rfl, rfl⟩

set_option maxHeartbeats 1000000 in
theorem rimage_no (a b c : Int) (h : ¬ Gx.OkS a b c) (w : World) : Calls Try.prog 10 #[shV a b c] w fun e w' => e = .returned (.tuple #[.int .i64 0, .int .i64 90]) ∧ w.grownBy w' none := by
  have C := hide (rcheck_no a b c h)
  unfold shV at *
  go_enter Try.func10, Try.ntmps10
  go_wp2_with fail
  refine (C.out _).mono ?_
  rintro e w2 ⟨rfl, hg⟩
  have G := hide (grown_box hg)
  clear hg
  go_wp2
  go_ret2
  exact ⟨rfl, G.out⟩

set_option maxHeartbeats 2000000 in
theorem rimage_ok (a b c : Int) (h : Gx.OkS a b c) (w : World) : Calls Try.prog 10 #[shV a b c] w fun e w' => e = .returned (.tuple #[.int .i64 (Gx.img a b), .int .i64 0]) ∧ w.grownBy w' none := by
  have C := hide (rcheck_ok a b c h)
  have hl := Gx.lo_bounds h
  have hc : Hid (Gx.lo a b = a ∧ a ≤ b ∨ Gx.lo a b = b ∧ b < a) := hide (by unfold Gx.lo; split <;> omega)
  unfold Gx.img
  generalize Gx.lo a b = K at *
  obtain ⟨k, rfl⟩ : ∃ k : Nat, K = (k : Int) := ⟨K.toNat, by omega⟩
  unfold shV at *
  go_enter Try.func10, Try.ntmps10
  go_wp2_with fail
  refine (C.out _).mono ?_
  rintro e w2 ⟨rfl, hg⟩
  obtain ⟨hG, c0, c1, c2⟩ := box_cells hg
  have G := hide hG
  clear hg hG
  go_wp2_with fail
  go_loopg [4] k (fun q i wr => ∃ j : Nat, q + j = k ∧ i = .int .i64 j ∧ wr = w2)
  case atStart => exact ⟨0, by omega, rfl, rfl⟩
  case round =>
    obtain ⟨j, hkj, rfl, rfl⟩ := hrel
    by_cases hk : 0 < gk
    · have h1 : (j : Int) < a := by have := hc.out; omega
      have h2 : (j : Int) < b := by have := hc.out; omega
      go_wp2
      go_roundg (gk - 1)
      case measure => omega
      case rel => exact ⟨j + 1, by omega, by go_num, rfl⟩
    · obtain rfl : j = k := by omega
      rcases hc.out with ⟨h1, h2⟩ | ⟨h1, h2⟩
      · have h3 : ¬ (j : Int) < a := by omega
        have H1 := hide h1
        clear h1
        go_wp2
        go_ret2
        exact ⟨rfl, G.out⟩
      · have h3 : (j : Int) < a := by omega
        have h4 : ¬ (j : Int) < b := by omega
        have H1 := hide h1
        clear h1
        go_wp2
        go_ret2
        exact ⟨rfl, G.out⟩
end Go.Proofs.Ytmjecgdamkkpaaa
