/- The contracts of Text, the document's Text, and awake. -/
import Derived.Test.YtodonfdkegfmfabHash
namespace Go.Proofs.Ytodonfdkegfmfab
open Go.RowKit
attribute [local go_sem ↓] Go.wp_at_zero Go.wp_at_succ

/-- A text's bytes. -/
def bytesOf (s : ByteArray) : List Nat := s.data.toList.map UInt8.toNat
theorem bytesOf_length (s : ByteArray) : (bytesOf s).length = s.size := by unfold bytesOf; rw [List.length_map, Array.length_toList]; rfl
theorem bytesOf_get (s : ByteArray) (j : Nat) (h : j < s.size) (h2 : j < (bytesOf s).length) : (bytesOf s)[j] = s[j].toNat := (List.getElem_map ..).trans (by rw [Array.getElem_toList]; rfl)
theorem text_step (s : ByteArray) (t j : Nat) (h : j < s.size) (ht : t < 18446744073709551616) :
    IntKind.u64.wrap (bits BinOp.xor IntKind.u64 ((Mx.text t ((bytesOf s).take j) : Nat) : Int) (IntKind.u64.wrap ((s[j].toNat : Nat) : Int)) * 1099511628211) = ((Mx.text t ((bytesOf s).take (j + 1)) : Nat) : Int) := by
  have hb : s[j].toNat < 256 := UInt8.toNat_lt _
  rw [Mx.text_take (by rw [bytesOf_length]; exact h), bytesOf_get s j h, wrap_nat, Nat.mod_eq_of_lt (by omega), bits_xor_u64 _ _ (Mx.text_lt _ ht) (by omega)]
  exact mul_wrap _ 1099511628211

set_option maxHeartbeats 1000000 in
theorem text_any (s : ByteArray) (w : World) (hm : s.size ≤ 4611686018427387904) : Calls Try.prog 16 #[.string s] w fun e w' => e = .returned (.int .u64 ((Mx.text 14695981039346656037 (bytesOf s) : Nat) : Int)) ∧ w' = w := by
  go_enter Try.func16, Try.ntmps16
  go_wp2
  go_loopg [3, 7] s.size (fun k t i wr => ∃ j : Nat, k + j = s.size ∧ i = .int .i64 j ∧ t = .int .u64 ((Mx.text 14695981039346656037 ((bytesOf s).take j) : Nat) : Int) ∧ wr = w)
  case atStart => exact ⟨0, by omega, rfl, rfl, rfl⟩
  case round =>
    obtain ⟨j, hkj, rfl, rfl, rfl⟩ := hrel
    by_cases hk : 0 < gk
    · have hj : (j : Int) < (s.size : Int) := by omega
      have HS := hide (text_step s 14695981039346656037 j (by omega) (by decide))
      go_wp2
      go_roundg (gk - 1)
      case measure => omega
      case rel => exact ⟨j + 1, by omega, by go_num, by rw [HS.out], rfl⟩
    · have hj : j = s.size := by omega
      rw [List.take_of_length_le (by rw [bytesOf_length]; omega)]
      subst hj
      go_wp2
      go_ret
      exact ⟨rfl, rfl⟩

theorem aw_hash : Mx.hash 1 = 6238072747940578789 := by decide
theorem aw_back : Mx.back 6238072747940578789 = 1 := by decide
theorem aw_text : Mx.text 14695981039346656037 (bytesOf ⟨#[97]⟩) = 12638187200555641996 := by decide

set_option maxHeartbeats 400000 in
theorem awake_any (w : World) : Calls Try.prog 9 #[] w fun e w' => e = .returned (.bool true) ∧ w' = w := by
  have C1 := hash_any 1 (by decide) w
  have C2 := back_any 6238072747940578789 (by decide) w
  have C3 := text_any ⟨#[97]⟩ w (by decide)
  rw [aw_hash] at C1
  rw [aw_back] at C2
  rw [aw_text] at C3
  have H := hide (And.intro C1 (And.intro C2 C3))
  clear C1 C2 C3
  go_enter Try.func9, Try.ntmps9
  go_wp2_with fail
  refine H.out.1.mono ?_
  rintro e w' ⟨rfl, rfl⟩
  go_wp2_with fail
  refine H.out.2.1.mono ?_
  rintro e w' ⟨rfl, rfl⟩
  go_wp2_with fail
  refine H.out.2.2.mono ?_
  rintro e w' ⟨rfl, rfl⟩
  go_wp2
  go_ret
  exact ⟨rfl, rfl⟩
end Go.Proofs.Ytodonfdkegfmfab
