/- Contracts of the document's Shows, Above. -/
import Derived.Test.YtdhpjjbjgnnddaaOh
namespace Go.Proofs.Ytdhpjjbjgnnddaa
open Go.RowKit
attribute [local go_sem ↓] Go.wp_at_zero Go.wp_at_succ
attribute [local go_sem] run_store_float

theorem row_one (W0 w : World) (hg : W0.grownBy w none) : Row (w.alloc (.cells #[.float .f64 4607182418800017408] 26)) W0.heap.size (.slice (some ⟨w.heap.size, 0, none⟩) 1 1) w.heap.size 1 [4607182418800017408] :=
  ⟨rfl, hg.size, by simp [fv], Or.inr ⟨w.heap.size, 1, #[.float .f64 4607182418800017408], rfl, hg.size, heap_alloc_new w _, Nat.le_refl _, by unfold maxLen; omega, rfl, rfl⟩⟩

set_option maxHeartbeats 1000000 in
theorem rshows_any (W0 : World) (n p : Nat) (w : World) (hg : W0.grownBy w none) (hn : n ≤ 4096) (hp : lik p = true) : Calls Try.prog 16 #[.int .i64 (n : Int), .float .f64 p] w (Sh W0 p n) := by
  have hl : ¬ 4096 < (n : Int) := by omega
  have h0 : ¬ (n : Int) < 0 := by omega
  have HP := hide (And.intro hp (lik_rung hp).1)
  have C := hide (fun w => likR_any p w)
  rw [hp] at C
  have HG := hide hg
  clear hp hg
  go_enter Try.func16, Try.ntmps16
  go_wp2_with fail
  refine (C.out _).mono ?_
  rintro e w1 ⟨rfl, rfl⟩
  have HR := hide (row_one W0 w1 HG.out)
  go_wp2
  go_loopg [6, 7] n (fun k v i wr => ∃ (j g c : Nat), k + j = n ∧ i = .int .i64 (j : Int) ∧ Hid (Row wr W0.heap.size v g c (rw' (p % 2 ^ 63) j) ∧ W0.grownBy wr none))
  case atStart => exact ⟨0, w1.heap.size, 1, by omega, rfl, HR.out, grown_trans HG.out (World.grownBy_alloc w1 _ none)⟩
  case round =>
    obtain ⟨j, g, c, hkj, rfl, HL⟩ := hrel
    by_cases hk : 0 < gk
    · have h1 : (j : Int) < (n : Int) := by omega
      have hw : IntKind.i64.wrap ((j : Int) + 1) = ((j + 1 : Nat) : Int) := by rw [IntKind.wrap_i64]; omega
      have hlen := row_length (p % 2 ^ 63) j
      obtain ⟨ao, cap, e1, h1', h2, h3, hat, -⟩ := own_at HL.out.1.own
      obtain rfl := e1
      have HC := hide (next_any W0 ao cap p _ (rw' (p % 2 ^ 63) j) wr hat HL.out.2 rfl (row_low HP.out.2 j) (by omega) HP.out.1)
      clear hlen h1' h2 h3 hat
      go_wp2_with fail
      refine HC.out.mono ?_
      rintro e w2 ⟨v2, g2, c2, rfl, hrow2, hg2⟩
      have HM := hide (And.intro hrow2 hg2)
      obtain rfl := hrow2.val
      clear hrow2 hg2 HC
      go_wp2
      go_roundg (gk - 1)
      case measure => omega
      case rel => exact ⟨j + 1, g2, c2, by omega, by go_num, HM⟩
    · obtain rfl : j = n := by omega
      obtain rfl := HL.out.1.val
      go_wp2
      go_ret2
      exact ⟨_, _, _, rfl, HL.out.1, HL.out.2⟩
theorem rshows_arg (n : Int) (p : Nat) (w : World) (hn : n < 0 ∨ 4096 < n) : Calls Try.prog 16 #[.int .i64 n, .float .f64 p] w fun e w' => e = .returned (.tuple #[.slice none 0 0, .int .i64 2]) ∧ w' = w := by
  rcases hn with h | h
  · go_enter Try.func16, Try.ntmps16
    go_wp2
    go_ret2
    exact ⟨rfl, rfl⟩
  · have h0 : ¬ n < 0 := by omega
    go_enter Try.func16, Try.ntmps16
    go_wp2
    go_ret2
    exact ⟨rfl, rfl⟩
theorem rshows_real (n : Int) (p : Nat) (w : World) (hn : ¬ (n < 0 ∨ 4096 < n)) (hp : lik p = false) : Calls Try.prog 16 #[.int .i64 n, .float .f64 p] w fun e w' => e = .returned (.tuple #[.slice none 0 0, .int .i64 250]) ∧ w' = w := by
  have h0 : ¬ n < 0 := by omega
  have h1 : ¬ 4096 < n := by omega
  have C := hide (fun w => likR_any p w)
  rw [hp] at C
  clear hp hn
  go_enter Try.func16, Try.ntmps16
  go_wp2_with fail
  refine (C.out _).mono ?_
  rintro e w1 ⟨rfl, rfl⟩
  go_wp2
  go_ret2
  exact ⟨rfl, rfl⟩

set_option maxHeartbeats 1000000 in
theorem rabove_any (n seats : Int) (p : Nat) (w : World) (hs1 : -9223372036854775808 ≤ seats) (hs2 : seats ≤ 9223372036854775807) :
    Calls Try.prog 17 #[.int .i64 n, .int .i64 seats, .float .f64 p] w fun e w' => e = .returned (.tuple #[.float .f64 (aB n seats p), .int .i64 (aE n p)]) ∧ w.grownBy w' none := by
  by_cases hn : n < 0 ∨ 4096 < n
  · have e1 : aB n seats p = 0 := by unfold aB; rw [if_pos hn]
    have e2 : aE n p = 2 := by unfold aE; rw [if_pos hn]
    rw [e1, e2]
    have C := hide (rshows_arg n p w hn)
    clear e1 e2 hn
    go_enter Try.func17, Try.ntmps17
    go_wp2_with fail
    refine C.out.mono ?_
    rintro e w1 ⟨rfl, rfl⟩
    go_wp2
    go_ret2
    exact ⟨rfl, grown_refl _ _⟩
  · by_cases hp : lik p = true
    · have e1 : aB n seats p = sm (rw' (p % 2 ^ 63) n.toNat) (pl seats) := by unfold aB; rw [if_neg hn, if_pos hp]
      have e2 : aE n p = 0 := by unfold aE; rw [if_neg hn, if_pos hp]
      rw [e1, e2]
      obtain ⟨m, rfl⟩ : ∃ m : Nat, n = (m : Int) := ⟨n.toNat, by omega⟩
      have C := hide (rshows_any w m p w (grown_refl _ _) (by omega) hp)
      have HL := hide (And.intro (row_low (lik_rung hp).1 m) (show (rw' (p % 2 ^ 63) m).length ≤ 8192 by rw [row_length]; omega))
      rw [show ((m : Int)).toNat = m by omega]
      clear e1 e2 hn hp
      unfold Sh at C
      generalize rw' (p % 2 ^ 63) m = q at *
      go_enter Try.func17, Try.ntmps17
      go_wp2_with fail
      refine C.out.mono ?_
      rintro e w1 ⟨v, g, c, rfl, hrow, hg⟩
      obtain ⟨ao, cap, e1, h1, h2, h3, hat, -⟩ := own_at hrow.own
      obtain rfl := e1
      have HA := hide (And.intro hat hg)
      clear hrow hg hat h1 h2 h3
      go_wp2_with fail
      refine (sumR_any ao cap q seats w1 HA.out.1 HL.out.1 HL.out.2 hs1 hs2).mono ?_
      rintro e w2 ⟨rfl, hw2⟩
      obtain rfl := hw2.symm
      go_wp2
      go_ret2
      exact ⟨rfl, HA.out.2⟩
    · have e1 : aB n seats p = 0 := by unfold aB; rw [if_neg hn, if_neg hp]
      have e2 : aE n p = 250 := by unfold aE; rw [if_neg hn, if_neg hp]
      rw [e1, e2]
      have C := hide (rshows_real n p w hn (by simpa using hp))
      clear e1 e2 hn hp
      go_enter Try.func17, Try.ntmps17
      go_wp2_with fail
      refine C.out.mono ?_
      rintro e w1 ⟨rfl, rfl⟩
      go_wp2
      go_ret2
      exact ⟨rfl, grown_refl _ _⟩
end Go.Proofs.Ytdhpjjbjgnnddaa
