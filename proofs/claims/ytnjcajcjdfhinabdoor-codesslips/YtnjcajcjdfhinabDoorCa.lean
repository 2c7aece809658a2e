/- The contracts of check and number. -/
import Derived.Test.YtnjcajcjdfhinabDoorBa
import Derived.Test.YtnjcajcjdfhinabDoorChecked
import Derived.Deep.LoopGhost
import Derived.Deep.RegionHeld3
import Derived.Deep.DrawnRows
import Derived.Deep.QuietTactic
import Derived.Deep.RegionWith
import Derived.BigQuiet
import Derived.Deep.OwnRows
import Derived.Laws.ResultCell
namespace Go.Proofs.YtnjcajcjdfhinabDoor
open Go.RowKit Cn
attribute [local go_sem ↓] Go.wp_at_zero Go.wp_at_succ

set_option maxHeartbeats 1000000 in
theorem check_any (l : List Nat) (hlen : l.length = 8) (hl : Low l) (w : World) (hT : Tab w) :
    Calls Tryd.prog 12 #[arr l] w fun e w' => e = .returned (.int .u8 ((chk 0 (l.take 7) : Nat) : Int)) ∧ w.grownBy w' none := by
  obtain ⟨M, hM⟩ : ∃ M, M = chk 0 (l.take 7) := ⟨_, rfl⟩
  rw [← hM]
  have HM := hide (And.intro hM.symm (And.intro hlen (And.intro hl (hT.grown (grown_alloc w (.cells (cs l).toArray 33))))))
  have hrow := hide (heap_alloc_new w (.cells (cs l).toArray 33))
  have hG := hide (grown_alloc w (.cells (cs l).toArray 33))
  clear hM hT hl hlen
  unfold arr
  go_enter Tryd.func12, Tryd.ntmps12
  go_wp2
  go_loopg [3, 5] 7 (fun k c i wr => ∃ j C : Nat, k + j = 7 ∧ i = .int .i64 (j : Int) ∧ c = .int .u8 (C : Int) ∧ C = chk 0 (l.take j) ∧ wr = w.alloc (.cells (cs l).toArray 33))
  case atStart => exact ⟨0, 0, by omega, rfl, rfl, rfl, rfl⟩
  case round =>
    obtain ⟨j, C, hkj, rfl, rfl, hC, rfl⟩ := hrel
    obtain ⟨hM, hlen, hl, hT⟩ := HM.out
    by_cases hk : 0 < gk
    · have hj : j < l.length := by omega
      have hx := hl _ (List.getElem_mem hj)
      have hcell := (cell_row hrow.out j).trans (cs_get l hj)
      have hCl : C < 32 := by rw [hC]; exact chk_lt (by decide) (fun y hy => hl y (List.mem_of_mem_take hy))
      have hstep : chk 0 (l.take (j + 1)) = dbl (C ^^^ l[j]) := by
        rw [List.take_add_one, List.getElem?_eq_getElem hj, hC]; exact chk_snoc _ _ _
      have hxor := bits_xor_u8 C l[j] (by omega) (by omega)
      have hxl := xor_lt hCl hx
      have htab := hT _ hxl
      have hx7 : (C ^^^ l[j] : Nat) < 32 := hxl
      generalize l[j] = x at *
      generalize (C ^^^ x : Nat) = y at *
      have HS := hide hstep
      have hj1 : (j : Int) < 7 := by omega
      have hj0 : (0 : Int) ≤ (j : Int) := by omega
      have hy0 : (0 : Int) ≤ (y : Int) := by omega
      have hy1 : (y : Int) < 32 := by omega
      clear hM hlen hl hT hC hstep hj hx hCl
      generalize dbl y = z at *
      go_wp2
      go_roundg (gk - 1)
      case measure => omega
      case rel => exact ⟨j + 1, z, by omega, by go_num, rfl, HS.out.symm, rfl⟩
    · have hj : j = 7 := by omega
      subst hj
      rw [hM] at hC
      subst hC
      clear hM hlen hl hT HM
      go_wp2
      go_ret
      exact ⟨rfl, hG.out⟩
set_option maxHeartbeats 1000000 in
theorem number_any (l : List Nat) (hlen : l.length = 8) (hl : Low l) (w : World) :
    Calls Tryd.prog 11 #[arr l] w fun e w' => e = .returned (.int .u64 ((num 0 (l.take 7) : Nat) : Int)) ∧ w.grownBy w' none := by
  obtain ⟨M, hM⟩ : ∃ M, M = num 0 (l.take 7) := ⟨_, rfl⟩
  rw [← hM]
  have HM := hide (And.intro hM.symm (And.intro hlen hl))
  have hrow := hide (heap_alloc_new w (.cells (cs l).toArray 33))
  have hG := hide (grown_alloc w (.cells (cs l).toArray 33))
  clear hM hl hlen
  unfold arr
  go_enter Tryd.func11, Tryd.ntmps11
  go_wp2
  go_loopg [3, 5] 7 (fun k c i wr => ∃ j C : Nat, k + j = 7 ∧ i = .int .i64 (j : Int) ∧ c = .int .u64 (C : Int) ∧ C < 32 ^ j ∧ C = num 0 (l.take j) ∧ wr = w.alloc (.cells (cs l).toArray 33))
  case atStart => exact ⟨0, 0, by omega, rfl, rfl, by decide, rfl, rfl⟩
  case round =>
    obtain ⟨j, C, hkj, rfl, rfl, hb, hC, rfl⟩ := hrel
    obtain ⟨hM, hlen, hl⟩ := HM.out
    by_cases hk : 0 < gk
    · have hj : j < l.length := by omega
      have hx := hl _ (List.getElem_mem hj)
      have hcell := (cell_row hrow.out j).trans (cs_get l hj)
      have hstep : num 0 (l.take (j + 1)) = C * 32 + l[j] := by
        rw [List.take_add_one, List.getElem?_eq_getElem hj, hC]; exact num_snoc _ _ _
      have hb2 : C < 1073741824 := Nat.lt_of_lt_of_le hb (Nat.pow_le_pow_right (n := 32) (by decide) (show j ≤ 6 by omega))
      have hb3 : C * 32 + l[j] < 32 ^ (j + 1) := by rw [Nat.pow_succ]; omega
      generalize l[j] = x at *
      have HS := hide (And.intro hb3 hstep)
      have hj1 : (j : Int) < 7 := by omega
      have hj0 : (0 : Int) ≤ (j : Int) := by omega
      have hw1 : IntKind.u64.wrap ((C : Int) * 32) = ((C * 32 : Nat) : Int) := by rw [IntKind.wrap_u64]; omega
      have hw2 : IntKind.u64.wrap (((C * 32 : Nat) : Int) + (x : Int)) = ((C * 32 + x : Nat) : Int) := by rw [IntKind.wrap_u64]; omega
      have hw3 : IntKind.u64.wrap (x : Int) = (x : Int) := by rw [IntKind.wrap_u64]; omega
      clear hM hlen hl hC hstep hj hx hb hb2 hb3
      generalize C * 32 + x = z at *
      generalize C * 32 = y at *
      go_wp2
      go_roundg (gk - 1)
      case measure => omega
      case rel => exact ⟨j + 1, z, by omega, by go_num, rfl, HS.out.1, HS.out.2.symm, rfl⟩
    · have hj : j = 7 := by omega
      subst hj
      rw [hM] at hC
      subst hC
      clear hM hlen hl HM
      go_wp2
      go_ret
      exact ⟨rfl, hG.out⟩
end Go.Proofs.YtnjcajcjdfhinabDoor
