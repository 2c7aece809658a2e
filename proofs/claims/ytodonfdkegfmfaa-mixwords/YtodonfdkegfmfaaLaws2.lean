/- The walks of MixWords and MixNumbers. -/
import Derived.Test.YtodonfdkegfmfaaSame
import Derived.Test.YtodonfdkegfmfaaText
namespace Go.Proofs.Ytodonfdkegfmfaa
open Go.RowKit
attribute [local go_sem ↓] Go.wp_at_zero Go.wp_at_succ

set_option maxHeartbeats 400000 in
theorem lawWords_any (s : Nat) (n : Int) (hs : s < 18446744073709551616) (w : World) : Calls Try.prog 6 #[.int .u64 (s : Int), .int .i64 n] w fun e w' => e = .returned (.bool true) ∧ w.grownBy w' none := by
  by_cases hn : 0 ≤ n ∧ n ≤ 65536
  · obtain ⟨m, rfl⟩ := Int.eq_ofNat_of_zero_le hn.1
    have hm : m ≤ 65536 := by omega
    have HM := hide (And.intro hs hm)
    clear hn hs hm
    go_enter Try.func6, Try.ntmps6
    go_wp2_with fail
    refine (words_any s m w HM.out.1 HM.out.2).mono ?_
    rintro e w1 ⟨g, rfl, hr1, hb1, hg1⟩
    have H1 := hide (And.intro (at_row hr1) hg1)
    clear hr1 hb1 hg1
    go_wp2_with fail
    refine (refWords_any s m w1 HM.out.1 HM.out.2).mono ?_
    rintro e w2 ⟨ao, cap, rfl, ha2, hg2⟩
    have H2 := hide (And.intro (H1.out.1.grown hg2) (And.intro ha2 (grown_trans H1.out.2 hg2)))
    clear H1 ha2 hg2
    go_wp2_with fail
    refine (same_eq _ _ m _ _ (Mx.words s m) w2 (Mx.words_length s m) H2.out.1 H2.out.2.1 (by have := HM.out.2; omega)).mono ?_
    rintro e w3 ⟨rfl, hg3⟩
    have H3 := hide (grown_trans H2.out.2.2 hg3)
    clear hg3 H2
    go_wp2_with fail
    refine (awake_any _).mono ?_
    rintro e w4 ⟨rfl, rfl⟩
    go_wp2
    go_ret
    exact ⟨rfl, H3.out⟩
  · have hb : n < 0 ∨ 65536 < n := by omega
    have HB := hide hb
    clear hb hn
    go_enter Try.func6, Try.ntmps6
    go_wp2_with fail
    refine (words_bad s n w HB.out).mono ?_
    rintro e w1 ⟨rfl, rfl⟩
    go_wp2_with fail
    refine (refWords_bad s n w1 HB.out).mono ?_
    rintro e w2 ⟨rfl, rfl⟩
    go_wp2_with fail
    refine (same_eq none none 0 0 0 [] w2 rfl (At.nil _ _) (At.nil _ _) (by omega)).mono ?_
    rintro e w3 ⟨rfl, hg3⟩
    have H3 := hide hg3
    clear hg3
    go_wp2_with fail
    refine (awake_any _).mono ?_
    rintro e w4 ⟨rfl, rfl⟩
    go_wp2
    go_ret
    exact ⟨rfl, H3.out⟩

theorem nu_hash : Mx.hash 0 = 0 := by decide
theorem nu_text : Mx.text 14695981039346656037 (bytesOf ⟨#[]⟩) = 14695981039346656037 := by decide

set_option maxHeartbeats 1000000 in
theorem numbers_any (w : World) : Calls Try.prog 3 #[] w fun e w' => e = .returned (.bool true) ∧ w.grownBy w' none := by
  go_enter Try.func3, Try.ntmps3
  go_wp2_with fail
  refine (words_any 5 65536 w (by decide) (by decide)).mono ?_
  rintro e w1 ⟨g1, rfl, hr1, hb1, hg1⟩
  have H1 := hide (And.intro (at_row hr1) hg1)
  clear hr1 hb1 hg1
  go_wp2_with fail
  refine (words_bad 5 65537 w1 (Or.inr (by decide))).mono ?_
  rintro e w2 ⟨rfl, rfl⟩
  go_wp2_with fail
  refine (words_bad 5 (-1) w2 (Or.inl (by decide))).mono ?_
  rintro e w3 ⟨rfl, rfl⟩
  go_wp2_with fail
  refine (words_any 5 0 w3 (by decide) (by decide)).mono ?_
  rintro e w4 ⟨g4, rfl, hr4, hb4, hg4⟩
  have H4 := hide (And.intro (H1.out.1.grown hg4) (grown_trans H1.out.2 hg4))
  clear hr4 hb4 hg4 H1
  go_wp2_with fail
  refine (refWords_any 5 65536 w4 (by decide) (by decide)).mono ?_
  rintro e w5 ⟨ao, cap, rfl, ha5, hg5⟩
  have H5 := hide (And.intro (H4.out.1.grown hg5) (And.intro ha5 (grown_trans H4.out.2 hg5)))
  clear H4 ha5 hg5
  go_wp2_with fail
  refine (same_eq _ _ 65536 _ _ (Mx.words 5 65536) w5 (Mx.words_length 5 65536) H5.out.1 H5.out.2.1 (by decide)).mono ?_
  rintro e w6 ⟨rfl, hg6⟩
  have H6 := hide (grown_trans H5.out.2.2 hg6)
  clear hg6 H5
  go_wp2_with fail
  have C := hash_any 0 (by decide) w6
  rw [nu_hash] at C
  refine C.mono ?_
  rintro e w7 ⟨rfl, rfl⟩
  clear C
  go_wp2_with fail
  have C := text_any ⟨#[]⟩ w7 (by decide)
  rw [nu_text] at C
  refine C.mono ?_
  rintro e w8 ⟨rfl, rfl⟩
  clear C
  go_wp2_with fail
  refine (awake_any _).mono ?_
  rintro e w9 ⟨rfl, rfl⟩
  go_wp2
  go_ret
  exact ⟨rfl, H6.out⟩
end Go.Proofs.Ytodonfdkegfmfaa
