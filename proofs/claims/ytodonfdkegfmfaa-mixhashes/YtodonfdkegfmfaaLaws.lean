/- The walks of MixHashes, MixTexts, MixBack. -/
import Derived.Test.YtodonfdkegfmfaaText
namespace Go.Proofs.Ytodonfdkegfmfaa
open Go.RowKit
attribute [local go_sem ↓] Go.wp_at_zero Go.wp_at_succ

set_option maxHeartbeats 400000 in
theorem hashes_any (x : Nat) (hx : x < 18446744073709551616) (w : World) : Calls Try.prog 4 #[.int .u64 (x : Int)] w fun e w' => e = .returned (.bool true) ∧ w' = w := by
  have H := hide (And.intro (hash_any x hx w) (And.intro (refHash_any x hx w) (And.intro (back_any x hx w) (refBack_any x hx w))))
  generalize Mx.hash x = a at *
  generalize Mx.back x = b at *
  go_enter Try.func4, Try.ntmps4
  go_wp2_with fail
  refine H.out.1.mono ?_
  rintro e w' ⟨rfl, rfl⟩
  go_wp2_with fail
  refine H.out.2.1.mono ?_
  rintro e w' ⟨rfl, rfl⟩
  go_wp2_with fail
  refine H.out.2.2.1.mono ?_
  rintro e w' ⟨rfl, rfl⟩
  go_wp2_with fail
  refine H.out.2.2.2.mono ?_
  rintro e w' ⟨rfl, rfl⟩
  go_wp2_with fail
  refine (awake_any _).mono ?_
  rintro e w' ⟨rfl, rfl⟩
  go_wp2
  go_ret
  exact ⟨rfl, rfl⟩

set_option maxHeartbeats 400000 in
theorem texts_any (s : ByteArray) (w : World) (hm : s.size ≤ 4611686018427387904) : Calls Try.prog 5 #[.string s] w fun e w' => e = .returned (.bool true) ∧ w' = w := by
  have H := hide (And.intro (text_any s w hm) (refText_any s w hm))
  generalize Mx.text 14695981039346656037 (bytesOf s) = R at *
  go_enter Try.func5, Try.ntmps5
  go_wp2_with fail
  refine H.out.1.mono ?_
  rintro e w' ⟨rfl, rfl⟩
  go_wp2_with fail
  refine H.out.2.mono ?_
  rintro e w' ⟨rfl, rfl⟩
  go_wp2_with fail
  refine (awake_any _).mono ?_
  rintro e w' ⟨rfl, rfl⟩
  go_wp2
  go_ret
  exact ⟨rfl, rfl⟩

set_option maxHeartbeats 400000 in
theorem backs_any (x y : Nat) (hx : x < 18446744073709551616) (hy : y < 18446744073709551616) (w : World) : Calls Try.prog 7 #[.int .u64 (x : Int), .int .u64 (y : Int)] w fun e w' => e = .returned (.bool true) ∧ w' = w := by
  have C1 := hash_any x hx w
  have C2 := hash_any y hy w
  have C3 := back_any (Mx.hash x) (Mx.hash_lt x) w
  rw [Mx.back_hash hx] at C3
  have C4 := back_any x hx w
  have C5 := hash_any (Mx.back x) (Mx.back_lt x) w
  rw [Mx.hash_back hx] at C5
  have C6 := back_any y hy w
  by_cases hxy : x = y
  · subst hxy
    have H := hide (And.intro C1 (And.intro C3 (And.intro C4 C5)))
    clear C1 C2 C3 C4 C5 C6
    generalize Mx.hash x = a at *
    generalize Mx.back x = b at *
    go_enter Try.func7, Try.ntmps7
    go_wp2_with fail
    refine H.out.1.mono ?_
    rintro e w' ⟨rfl, rfl⟩
    go_wp2_with fail
    refine H.out.1.mono ?_
    rintro e w' ⟨rfl, rfl⟩
    go_wp2_with fail
    refine H.out.2.1.mono ?_
    rintro e w' ⟨rfl, rfl⟩
    go_wp2_with fail
    refine H.out.2.2.1.mono ?_
    rintro e w' ⟨rfl, rfl⟩
    go_wp2_with fail
    refine H.out.2.2.2.mono ?_
    rintro e w' ⟨rfl, rfl⟩
    go_wp2_with fail
    refine H.out.2.2.1.mono ?_
    rintro e w' ⟨rfl, rfl⟩
    go_wp2_with fail
    refine H.out.2.2.1.mono ?_
    rintro e w' ⟨rfl, rfl⟩
    go_wp2_with fail
    refine (awake_any _).mono ?_
    rintro e w' ⟨rfl, rfl⟩
    go_wp2
    go_ret
    exact ⟨rfl, rfl⟩
  · have hn1 : Mx.hash x ≠ Mx.hash y := fun e => hxy (Mx.hash_inj hx hy e)
    have hn2 : Mx.back x ≠ Mx.back y := fun e => hxy (Mx.back_inj hx hy e)
    have H := hide (And.intro C1 (And.intro C2 (And.intro C3 (And.intro C4 (And.intro C5 C6)))))
    clear C1 C2 C3 C4 C5 C6
    generalize Mx.hash x = a at *
    generalize Mx.back x = b at *
    generalize Mx.hash y = c at *
    generalize Mx.back y = d at *
    have e1 : ((a : Int) == (c : Int)) = false := by simp; omega
    have e2 : ((b : Int) == (d : Int)) = false := by simp; omega
    have e3 : ((x : Int) == (y : Int)) = false := by simp; omega
    clear hn1 hn2 hxy
    go_enter Try.func7, Try.ntmps7
    go_wp2_with fail
    refine H.out.1.mono ?_
    rintro e w' ⟨rfl, rfl⟩
    go_wp2_with fail
    refine H.out.2.1.mono ?_
    rintro e w' ⟨rfl, rfl⟩
    go_wp2_with fail
    refine H.out.2.2.1.mono ?_
    rintro e w' ⟨rfl, rfl⟩
    go_wp2_with fail
    refine H.out.2.2.2.1.mono ?_
    rintro e w' ⟨rfl, rfl⟩
    go_wp2_with fail
    refine H.out.2.2.2.2.1.mono ?_
    rintro e w' ⟨rfl, rfl⟩
    go_wp2_with fail
    refine H.out.2.2.2.1.mono ?_
    rintro e w' ⟨rfl, rfl⟩
    go_wp2_with fail
    refine H.out.2.2.2.2.2.mono ?_
    rintro e w' ⟨rfl, rfl⟩
    go_wp2_with fail
    refine (awake_any _).mono ?_
    rintro e w' ⟨rfl, rfl⟩
    go_wp2
    go_ret
    exact ⟨rfl, rfl⟩
end Go.Proofs.Ytodonfdkegfmfaa
