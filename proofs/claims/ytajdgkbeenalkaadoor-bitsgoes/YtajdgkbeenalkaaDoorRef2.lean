/- The contracts of the document's own set, continued: Next, Free, Count, All, Bytes. -/
import Derived.Test.YtajdgkbeenalkaaDoorRef
namespace Go.Proofs.YtajdgkbeenalkaaDoor
open Go.RowKit Go.Shelf
attribute [local go_sem ↓] Go.wp_at_zero Go.wp_at_succ

set_option maxHeartbeats 400000 in
theorem rnext_any (d r : Nat) (t : Bool) (L : List Bool) (i : Int) (w : World) (h : RefAt w d r t L) :
    Calls Tryd.prog 40 #[.pointer (some ⟨d, 0, none⟩), .int .i64 i] w fun e w' => ∃ q, e = .returned (.int .i64 q) ∧ Seek L true i.toNat q ∧ w' = w := by
  have H := hide (rseek_any d r t L i true w h)
  clear h
  go_enter Tryd.func40, Tryd.ntmps40
  go_wp2_with fail
  refine H.out.mono ?_
  rintro e w' ⟨q, rfl, h1, rfl⟩
  have HR := hide h1
  clear h1
  go_wp2
  go_ret
  exact ⟨_, rfl, HR.out, rfl⟩
set_option maxHeartbeats 400000 in
theorem rfree_any (d r : Nat) (t : Bool) (L : List Bool) (i : Int) (w : World) (h : RefAt w d r t L) :
    Calls Tryd.prog 41 #[.pointer (some ⟨d, 0, none⟩), .int .i64 i] w fun e w' => ∃ q, e = .returned (.int .i64 q) ∧ Seek L false i.toNat q ∧ w' = w := by
  have H := hide (rseek_any d r t L i false w h)
  clear h
  go_enter Tryd.func41, Tryd.ntmps41
  go_wp2_with fail
  refine H.out.mono ?_
  rintro e w' ⟨q, rfl, h1, rfl⟩
  have HR := hide h1
  clear h1
  go_wp2
  go_ret
  exact ⟨_, rfl, HR.out, rfl⟩

set_option maxHeartbeats 1000000 in
theorem rcount_any (d r : Nat) (t : Bool) (L : List Bool) (w : World) (h : RefAt w d r t L) :
    Calls Tryd.prog 42 #[.pointer (some ⟨d, 0, none⟩)] w fun e w' => e = .returned (.int .i64 (cntL L : Int)) ∧ w' = w := by
  obtain ⟨ao, cap, hc, _, hat⟩ := h.bools
  have hsm := h.small
  have HA := hide hat
  clear h hat
  go_enter Tryd.func42, Tryd.ntmps42
  go_wp2
  go_loopg [3, 4] L.length (fun k C I wr => ∃ j : Nat, k + j = L.length ∧ I = .int .i64 (j : Int) ∧ C = .int .i64 (cnt (fun i => L.getD i false) j : Int) ∧ wr = w)
  case atStart => exact ⟨0, by omega, rfl, rfl, rfl⟩
  case round =>
    obtain ⟨j, hkj, rfl, rfl, rfl⟩ := hrel
    by_cases hk : 0 < gk
    · have hj : j < L.length := by omega
      obtain ⟨a, rfl, hcell⟩ := RefAt.bool HA.out hj
      have hs : cnt (fun i => L.getD i false) (j + 1) = cnt (fun i => L.getD i false) j + (L.getD j false).toNat := rfl
      have hle := cnt_le (fun i => L.getD i false) j
      have HS := hide hs
      clear hs
      generalize cnt (fun i => L.getD i false) j = c at *
      have h1 : (0 : Int) ≤ (j : Int) := by omega
      have h2 : (j : Int) < (L.length : Int) := by omega
      cases hv : L.getD j false with
      | true =>
        rw [hv] at hcell HS
        clear hv
        go_wp2
        go_roundg (gk - 1)
        case measure => omega
        case rel => exact ⟨j + 1, by omega, by go_num, by rw [HS.out]; go_num, rfl⟩
      | false =>
        rw [hv] at hcell HS
        clear hv
        go_wp2
        go_roundg (gk - 1)
        case measure => omega
        case rel => exact ⟨j + 1, by omega, by go_num, by rw [HS.out]; rfl, rfl⟩
    · have hj : j = L.length := by omega
      subst hj
      go_wp2
      go_ret
      exact ⟨rfl, rfl⟩

theorem own_keeps {w w' : World} {base n : Nat} {e : TypeId} {v : Value} {xs : List Value} (h : w.ownsRow base e 1 v n xs) (hg : w.grownBy w' none) : w'.ownsRow base e 1 v n xs := by
  obtain ⟨h1, h2⟩ := h
  refine ⟨h1, ?_⟩
  rcases h2 with h2 | ⟨g, cap, cur, hv, hb, hc, h3⟩
  · exact Or.inl h2
  · exact Or.inr ⟨g, cap, cur, hv, hb, (hg.block g (row_lt hc) (by simp)).trans hc, h3⟩

set_option maxHeartbeats 1000000 in
theorem rall_any (d r : Nat) (t : Bool) (L : List Bool) (w : World) (h : RefAt w d r t L) :
    Calls Tryd.prog 44 #[.pointer (some ⟨d, 0, none⟩)] w fun e w' => ∃ v, e = .returned v ∧ w'.ownsRow w.heap.size 3 1 v (allL L).length (intsV (allL L)) ∧ w.grownBy w' none := by
  obtain ⟨ao, cap, hc, _, hat⟩ := h.bools
  have hsm := h.small
  obtain ⟨i0, hi, hz0, hz1, hz2⟩ := info_parts Tryd.info3
  have HA := hide (And.intro hat hc)
  clear h hat hc
  go_enter Tryd.func44, Tryd.ntmps44
  go_wp2
  go_loopg [3, 4] L.length (fun k V I wr => ∃ j : Nat, k + j = L.length ∧ I = .int .i64 (j : Int) ∧ Hid (wr.ownsRow w.heap.size 3 1 V (allTo L j).length (intsV (allTo L j)) ∧ w.grownBy wr none))
  case atStart => exact ⟨0, by omega, rfl, hide ⟨World.ownsRow_nil _ _ _ _, grown_refl _ _⟩⟩
  case round =>
    obtain ⟨j, hkj, rfl, hO⟩ := hrel
    obtain ⟨hat0, hc0⟩ := HA.out
    have hc := hO.out.2.cell hc0 (by simp)
    have hat := hat0.grown hO.out.2
    clear hat0 hc0
    by_cases hk : 0 < gk
    · have hj : j < L.length := by omega
      obtain ⟨a, rfl, hcell⟩ := RefAt.bool hat hj
      have hs := allTo_succ L j
      have hle : (allTo L j).length ≤ j := by unfold allTo; exact Nat.le_trans (List.length_filter_le _ _) (by simp)
      have HS := hide hs
      clear hs hat
      have h1 : (0 : Int) ≤ (j : Int) := by omega
      have h2 : (j : Int) < (L.length : Int) := by omega
      cases hv : L.getD j false with
      | true =>
        rw [hv] at hcell HS
        clear hv
        go_wp2_with (at_builtin; refine wpList_append_own _ rfl (.tmp 21) (.tmp 23) 57 rfl w.heap.size 3 i0 (.int .i64 0) 1 8 Tryd.underlying57 hi hz0 hz1 hz2 rfl (by decide) _ _ _ rfl (hO.out.1.alloc _) ⟨wr.heap.size, 0, none⟩ 1 1 [.int .i64 (j : Int)] rfl rfl (cell_one_new _ _ _) (by simp [Value.oneCell']) (by unfold maxLen; omega) (by omega) (by have := hO.out.2.size; simp; omega) ?_)
        intro v' w1 hown' hgrow _
        have hG1 : w.grownBy w1 none := by
          have hbase := own_at hO.out.1
          obtain ⟨ao', cap', rfl, _, _, _, _, _, hb⟩ := hbase
          refine grown_then (grown_trans hO.out.2 (World.grownBy_alloc wr _ none)) hgrow (fun k e => ?_)
          cases ao' with
          | none => cases e
          | some a' => cases e; exact Or.inl (hb a' rfl).1
        have HN : Hid (w1.ownsRow w.heap.size 3 1 v' (allTo L (j + 1)).length (intsV (allTo L (j + 1))) ∧ w.grownBy w1 none) := by
          refine ⟨?_, hG1⟩
          rw [HS.out]
          simpa [intsV] using hown'
        clear hown' hgrow hG1
        obtain ⟨ao2, cap2, rfl, _⟩ := own_at HN.out.1
        go_wp2
        go_roundg (gk - 1)
        case measure => omega
        case rel => exact ⟨j + 1, by omega, by go_num, HN⟩
      | false =>
        rw [hv] at hcell HS
        clear hv
        have HN : Hid (wr.ownsRow w.heap.size 3 1 u3 (allTo L (j + 1)).length (intsV (allTo L (j + 1))) ∧ w.grownBy wr none) := by
          refine ⟨?_, hO.out.2⟩
          rw [HS.out]
          simpa using hO.out.1
        go_wp2
        go_roundg (gk - 1)
        case measure => omega
        case rel => exact ⟨j + 1, by omega, by go_num, HN⟩
    · have hj : j = L.length := by omega
      subst hj
      clear hat
      go_wp2
      go_ret
      exact ⟨_, rfl, hO.out.1, hO.out.2⟩

end Go.Proofs.YtajdgkbeenalkaaDoor
