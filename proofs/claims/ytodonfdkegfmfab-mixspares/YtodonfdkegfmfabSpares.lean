/- The walk of MixSpares. -/
import Derived.Test.YtodonfdkegfmfabSame
import Derived.Test.YtodonfdkegfmfabText
import Derived.Test.YtodonfdkegfmfabLApart2
import Derived.Test.YtodonfdkegfmfabLCopy
namespace Go.Proofs.Ytodonfdkegfmfab
open Go.RowKit
attribute [local go_sem ↓] Go.wp_at_zero Go.wp_at_succ

set_option maxRecDepth 100000 in
set_option maxHeartbeats 2000000 in
theorem spares_any (s : Nat) (p : Int) (hs : s < 18446744073709551616) (w : World) : Calls Try.prog 3 #[.int .u64 (s : Int), .int .i64 p] w fun e w' => e = .returned (.bool true) ∧ w.grownBy w' none := by
  obtain ⟨n, hn⟩ : ∃ n : Nat, p % ((300 : Nat) : Int) = (n : Int) := ⟨(p % 300).toNat, by have := Int.emod_nonneg p (show (300 : Int) ≠ 0 by decide); simp; omega⟩
  have hn3 : n < 300 := by have := Int.emod_lt_of_pos p (show (0 : Int) < 300 by decide); simp at hn; omega
  have P1 := fun w => pick_any p 300 300 w rfl (by decide) (by decide)
  rw [hn] at P1
  have HP := hide P1
  have HL := hide (Mx.words_length s n)
  have HS := hide hs
  have HC := hide (fun w => words_any s n w hs (by omega))
  clear P1 hn hs
  generalize Mx.words s n = X at *
  go_enter Try.func3, Try.ntmps3
  go_wp2_with fail
  refine (HP.out _).mono ?_
  rintro e w2 ⟨rfl, rfl⟩
  clear HP
  go_wp2_with fail
  refine (HC.out w2).mono ?_
  rintro e w3 ⟨A, rfl, hr3, hb3, hg3⟩
  have H3 := hide (And.intro hr3 (And.intro hb3 hg3))
  clear hr3 hb3 hg3
  go_wp2_with fail
  refine (HC.out w3).mono ?_
  rintro e w4 ⟨B, rfl, hr4, hb4, hg4⟩
  have HA4 : Hid (w4.heap[A]? = some (.cells (bv X).toArray 22 (0, 0))) := (hg4.block A (row_lt H3.out.1) (by simp)).trans H3.out.1
  have H4 := hide (And.intro hr4 (And.intro hb4 hg4))
  clear hr4 hb4 hg4
  go_wp2_with fail
  refine (Al.copy_any (some ⟨A, 0, none⟩) n n X w4 HL.out (at_row HA4.out) (fun e => by cases e) (by omega)).mono ?_
  rintro e w5 ⟨v, rfl, hown, hg5⟩
  obtain ⟨av, cv, rfl, -⟩ := Al.own_at hown
  have HA5 : Hid (w5.heap[A]? = some (.cells (bv X).toArray 22 (0, 0))) := (hg5.block A (row_lt HA4.out) (by simp)).trans HA4.out
  have HB5 : Hid (w5.heap[B]? = some (.cells (bv X).toArray 22 (0, 0))) := (hg5.block B (row_lt H4.out.1) (by simp)).trans H4.out.1
  have H5 := hide (And.intro hown hg5)
  clear hown hg5
  go_wp2_with fail
  have hA6 : w5.ownsRow 0 22 1 (.slice (some ⟨A, 0, none⟩) n n) n (bv X) := Al.own_of_row HA5.out (by rw [bv_length, HL.out]) (Nat.zero_le _) (by unfold maxLen; omega)
  have hB6 : w5.ownsRow 0 22 1 (.slice (some ⟨B, 0, none⟩) n n) n (bv X) := Al.own_of_row HB5.out (by rw [bv_length, HL.out]) (Nat.zero_le _) (by unfold maxLen; omega)
  have hAB : A < B := by have := row_lt H3.out.1; have := H4.out.2.1; omega
  have hne : A ≠ B := by omega
  have hR : Al.Rw w5 0 [.slice (some ⟨A, 0, none⟩) n n, .slice (some ⟨B, 0, none⟩) n n] :=
    Al.Rw.cons hA6 (by omega) (fun u hu => by simp at hu; subst hu; right; simp [Value.ownBlock, hne]) (Al.Rw.cons hB6 (by omega) (fun u hu => by cases hu) (Al.Rw.nil _ _))
  have hap := Al.apartL_rows 0 _ w5 hR (Nat.zero_le _) (by simp) (by simp)
  clear hR hA6 hB6
  refine hap.mono ?_
  clear hap
  rintro e w7 ⟨rfl, hg7⟩
  have hT7 : ∀ k, (∃ i, i < 2 ∧ (([.slice (some ⟨A, 0, none⟩) n n, .slice (some ⟨B, 0, none⟩) n n] : List Value).getD i undef).ownBlock = some k) → k = A ∨ k = B := by
    rintro k ⟨i, hi, e⟩
    have : i = 0 ∨ i = 1 := by omega
    rcases this with rfl | rfl
    · left; simpa [Value.ownBlock] using e.symm
    · right; simpa [Value.ownBlock] using e.symm
  have hsz : A < B ∧ B < w4.heap.size ∧ w2.heap.size ≤ A := by
    have h5 := row_lt H4.out.1
    have h6 := H3.out.2.1
    omega
  have hv7 := Al.own_keptT H5.out.1 hg7 (fun k e t => by
    have := (H5.out.1.lt k e).1
    rcases hT7 k t with h | h <;> omega)
  have hG7 : w2.grownBy w7 none := Al.grownT_after (grown_trans H3.out.2.2 (grown_trans H4.out.2.2 H5.out.2)) hg7 (fun k t => by rcases hT7 k t with h | h <;> omega)
  have H7 := hide (And.intro hv7 hG7)
  clear hv7 hG7 hT7 hg7 hsz H3 H4 H5 HA4 HA5 HB5 hAB hne
  go_wp2_with fail
  refine (HC.out w7).mono ?_
  rintro e w8 ⟨C, rfl, hr8, hb8, hg8⟩
  have H8 := hide (And.intro hr8 hg8)
  clear hr8 hb8 hg8
  go_wp2_with fail
  obtain ⟨av2, cv2, e2, -, -, -, hatv, -, -⟩ := Al.own_at (H7.out.1.kept H8.out.2 (by cases (Value.slice av n cv).ownBlock <;> simp))
  cases e2
  refine (same_eq (some ⟨C, 0, none⟩) av n n cv X w8 HL.out (at_row H8.out.1) hatv (by omega)).mono ?_
  rintro e w9 ⟨rfl, hg9⟩
  have H9 := hide (grown_trans H7.out.2 (grown_trans H8.out.2 hg9))
  clear hg9 hatv
  go_wp2_with fail
  refine (awake_any _).mono ?_
  rintro e w10 ⟨rfl, rfl⟩
  go_wp2
  go_ret
  exact ⟨rfl, H9.out⟩
end Go.Proofs.Ytodonfdkegfmfab
