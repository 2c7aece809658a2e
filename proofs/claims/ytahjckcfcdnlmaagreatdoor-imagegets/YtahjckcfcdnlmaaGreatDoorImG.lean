/- The document's Get of image: its number. -/
import Derived.Test.YtahjckcfcdnlmaaGreatDoorJbAw
namespace Go.Proofs.YtahjckcfcdnlmaaGreatDoor
open Go.RowKit
theorem gV_cons {xs : List Int} {o k : Nat} {x : Int} (h : xs[o]? = some x) : gV xs o (k + 1) = x + 256 * gV xs (o + 1) k := by
  have hl : o < xs.length := (List.getElem?_eq_some_iff.1 h).1
  have he : xs[o] = x := (List.getElem?_eq_some_iff.1 h).2
  unfold gV
  rw [List.drop_eq_getElem_cons hl, he, List.take_succ_cons]
  rfl
set_option maxRecDepth 20000 in
set_option maxHeartbeats 8000000 in
theorem number_any {w : World} {bo : Option Addr} {bl bc : Nat} {xs : List Int} (hl : xs.length = bl) (hat : Oc.At w bo xs) (hB : Oc.Byt xs) (o k : Nat) (hok : o + k ≤ bl) (hk : k ≤ 8) (ho : o ≤ 9000000000000000) : Calls Tryz.prog 26 #[.slice bo bl bc, .int .i64 (o : Int), .int .i64 (k : Int)] w fun e w' => e = .returned (.int .u64 (gV xs o k)) ∧ w' = w := by
  have HA := hide hat
  have HB := hide hB
  have HL := hide hl
  clear hat hB hl
  have hk1 : IntKind.i64.wrap ((k : Int) - 1) = (k : Int) - 1 := by rw [IntKind.wrap_i64]; omega
  go_enter Tryz.func26, Tryz.ntmps26
  go_wp2
  go_loopg [7, 8] k (fun m n0 i wr => ∃ j : Nat, m + j = k ∧ i = .int .i64 ((m : Int) - 1) ∧ n0 = .int .u64 (gV xs (o + m) j) ∧ wr = w)
  case atStart => exact ⟨0, by omega, rfl, by simp [gV, Oc.leV], rfl⟩
  case round =>
    obtain ⟨j, hkj, rfl, rfl, rfl⟩ := hrel
    by_cases hg : 0 < gk
    · obtain ⟨m, rfl⟩ : ∃ m, gk = m + 1 := ⟨gk - 1, by omega⟩
      have e0 : ((m + 1 : Nat) : Int) - 1 = (m : Int) := by omega
      rw [e0]
      have hlt : o + m < xs.length := by rw [HL.out]; omega
      have HC := hide (gV_cons (k := j) (List.getElem?_eq_getElem hlt))
      have hby := HB.out _ (List.getElem_mem hlt)
      obtain ⟨ad, had, hc⟩ := HA.out (o + m) _ (List.getElem?_eq_getElem hlt)
      have hgb := gV_bound HB.out (o + (m + 1)) j
      have hgl : gV xs (o + (m + 1)) j < 2 ^ 56 := Int.lt_of_lt_of_le hgb.2 (by exact_mod_cast Nat.pow_le_pow_right (by omega) (by omega : 8 * j ≤ 56))
      have hg0 := hgb.1
      clear hgb
      have HE : Hid (gV xs (o + m) (j + 1) = xs[o + m] + 256 * gV xs (o + (m + 1)) j) := HC.out
      subst had
      generalize gV xs (o + (m + 1)) j = G at *
      generalize hX : xs[o + m] = X at *
      have hge : (m : Int) ≥ 0 := by omega
      have ew : IntKind.i64.wrap ((o : Int) + (m : Int)) = ((o + m : Nat) : Int) := by rw [IntKind.wrap_i64]; omega
      have eg : IntKind.u64.wrap (G * 256) = G * 256 := by rw [IntKind.wrap_u64]; omega
      have ex : IntKind.u64.wrap X = X := by rw [IntKind.wrap_u64]; omega
      have es : IntKind.u64.wrap (G * 256 + X) = G * 256 + X := by rw [IntKind.wrap_u64]; omega
      have hin : o + m < bl := by omega
      clear hX HC
      go_wp2
      go_roundg m
      case measure => omega
      case rel =>
        refine ⟨j + 1, by omega, rfl, ?_, rfl⟩
        have e9 : G * 256 + X = X + 256 * G := by omega
        rw [HE.out, e9]
    · have hz : gk = 0 := by omega
      subst hz
      have hjk : j = k := by omega
      subst hjk
      go_wp2
      go_ret
      exact ⟨by simp, rfl⟩
end Go.Proofs.YtahjckcfcdnlmaaGreatDoor
