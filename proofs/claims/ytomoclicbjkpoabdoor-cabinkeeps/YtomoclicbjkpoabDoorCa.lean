/- The contracts of Check, Seats and the like: cabins that may be. -/
import Derived.Test.YtomoclicbjkpoabDoorBase
import Derived.Test.YtomoclicbjkpoabDoorProg
import Derived.Deep.LoopGhost
import Derived.Deep.RegionHeld3
import Derived.Deep.DrawnRows
import Derived.Deep.QuietTactic
import Derived.Deep.RegionWith
import Derived.BigQuiet
import Derived.Deep.OwnRows
import Derived.Laws.Rows
import Derived.Laws.ResultCell
namespace Go.Proofs.YtomoclicbjkpoabDoor
open Go.RowKit Cx
attribute [local go_sem ↓] Go.wp_at_zero Go.wp_at_succ

theorem code_ok {R W : Int} {L : List Int} (h : Ok R W L) : code R W L = 0 := if_pos h
theorem code_no {R W : Int} {L : List Int} (h : ¬ Ok R W L) : code R W L = 2 := if_neg h

set_option maxHeartbeats 1000000 in
/-- Check of numbers that may not be. -/
theorem check_no (R W : Int) (v : Value) (h : R < 1 ∨ 64 < R ∨ W < 1 ∨ 16 < W) (w : World) :
    Calls Tryd.prog 15 #[cbV R W v] w fun e w' => e = .returned (.int .i64 2) ∧ w.grownBy w' none := by
  have hG : ∀ o, w.grownBy (w.alloc o) none := fun o => grown_alloc w o
  unfold cbV
  by_cases h1 : R < 1
  · go_enter Tryd.func15, Tryd.ntmps15
    go_wp2
    go_ret
    exact ⟨rfl, hG _⟩
  · by_cases h2 : 64 < R
    · go_enter Tryd.func15, Tryd.ntmps15
      go_wp2
      go_ret
      exact ⟨rfl, hG _⟩
    · by_cases h3 : W < 1
      · go_enter Tryd.func15, Tryd.ntmps15
        go_wp2
        go_ret
        exact ⟨rfl, hG _⟩
      · have h4 : 16 < W := by omega
        go_enter Tryd.func15, Tryd.ntmps15
        go_wp2
        go_ret
        exact ⟨rfl, hG _⟩

set_option maxHeartbeats 1000000 in
theorem check_any (R W : Int) (ao : Option Addr) (n cap : Nat) (L : List Int) (w : World) (hc : CbIn w ao n cap L) :
    Calls Tryd.prog 15 #[cbV R W (.slice ao n cap)] w fun e w' => e = .returned (.int .i64 (code R W L)) ∧ w.grownBy w' none := by
  by_cases hb : 1 ≤ R ∧ R ≤ 64 ∧ 1 ≤ W ∧ W ≤ 16
  · obtain ⟨h1, h2, h3, h4⟩ := hb
    have hlen := hc.len
    have hsm := hc.sm
    obtain ⟨z, hz⟩ : ∃ z, z = code R W L := ⟨_, rfl⟩
    rw [← hz]
    have HC := hide (And.intro hc hz)
    clear hc hz
    have HL := hide hlen
    clear hlen
    unfold cbV
    have hG : w.grownBy (w.alloc (.cells #[.int .i64 R, .int .i64 W, .slice ao n cap] 25)) none := grown_alloc w _
    have HG := hide hG
    clear hG
    go_enter Tryd.func15, Tryd.ntmps15
    go_wp2
    go_loopg [3, 27] n (fun k la i wr => ∃ j : Nat, k + j = n ∧ i = .int .i64 j ∧ la = .int .i64 ((L.take j).getLastD 0) ∧ rise W 0 (L.take j) ∧ wr = w.alloc (.cells #[.int .i64 R, .int .i64 W, .slice ao n cap] 25))
    case atStart => exact ⟨0, by omega, rfl, rfl, by simp [rise], rfl⟩
    case round =>
      obtain ⟨j, hkj, rfl, rfl, hr, rfl⟩ := hrel
      by_cases hk : 0 < gk
      · have hj : j < L.length := by rw [HL.out]; omega
        obtain ⟨a, rfl, hcell⟩ := (HC.out.1.grown HG.out).cell hj
        have hs := rise_snoc W (L.take j) L[j] 0
        have htk : L.take j ++ [L[j]] = L.take (j + 1) := by rw [List.take_add_one, List.getElem?_eq_getElem hj]; rfl
        have hla := getLastD_take hj 0
        rw [htk] at hs
        have HS := hide (And.intro hs (And.intro hla hr))
        have hout : ¬ (L.take j).getLastD 0 < L[j] ∨ ¬ L[j] < W → z = 2 := by
          intro h
          have h5 := HC.out.2
          rw [code_no] at h5
          · exact h5
          · intro ho
            have := (hs.1 (rise_take ho.2.2.2.2 _)).2
            omega
        have HO := hide hout
        clear hs hla hr htk hout
        have h5 : (0 : Int) ≤ (j : Int) := by omega
        have h6 : (j : Int) < (n : Int) := by omega
        generalize hx : L[j] = x at *
        generalize hy : (L.take j).getLastD 0 = y at *
        have HX := hide (And.intro hx hy)
        clear hx hy
        by_cases h7 : y < x
        · by_cases h8 : x < W
          · go_wp2
            go_roundg (gk - 1)
            case measure => omega
            case rel =>
              obtain ⟨hs, hla, hr⟩ := HS.out
              exact ⟨j + 1, by omega, by go_num, by rw [hla], hs.2 ⟨hr, h7, h8⟩, rfl⟩
          · have hz2 := HO.out (Or.inr h8)
            subst hz2
            go_wp2
            go_ret
            exact ⟨rfl, HG.out⟩
        · have hz2 := HO.out (Or.inl h7)
          subst hz2
          go_wp2
          go_ret
          exact ⟨rfl, HG.out⟩
      · have hj : j = n := by omega
        subst hj
        have h5 := HC.out.2
        rw [code_ok ⟨h1, h2, h3, h4, by rw [← HL.out, List.take_length] at hr; exact hr⟩] at h5
        subst h5
        clear hr
        go_wp2
        go_ret
        exact ⟨rfl, HG.out⟩
  · rw [code_no (fun h => hb ⟨h.1, h.2.1, h.2.2.1, h.2.2.2.1⟩)]
    exact check_no R W _ (by omega) w

set_option maxHeartbeats 400000 in
theorem seatsOf_any (R W : Int) (v : Value) (h0 : 1 ≤ R) (h1 : R ≤ 64) (h2 : 1 ≤ W) (h3 : W ≤ 16) (w : World) :
    Calls Tryd.prog 17 #[cbV R W v] w fun e w' => e = .returned (.int .i64 (R * W)) ∧ w.grownBy w' none := by
  have hG : ∀ o, w.grownBy (w.alloc o) none := fun o => grown_alloc w o
  have hm : IntKind.i64.wrap (R * W) = R * W := by
    have h4 : 0 ≤ R * W := Int.mul_nonneg (by omega) (by omega)
    have h5 : R * W ≤ 64 * 16 := Int.mul_le_mul h1 h3 (by omega) (by omega)
    exact IntWalk.i64_in _ (by omega)
  unfold cbV
  go_enter Tryd.func17, Tryd.ntmps17
  go_wp2
  go_ret
  exact ⟨rfl, hG _⟩
end Go.Proofs.YtomoclicbjkpoabDoor
