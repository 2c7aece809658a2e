/- The contracts of the document's own set, continued: Same. -/
import Derived.Test.YtajdgkbeenalkaaDoorRef4
namespace Go.Proofs.YtajdgkbeenalkaaDoor
open Go.RowKit Go.Shelf
attribute [local go_sem ↓] Go.wp_at_zero Go.wp_at_succ

set_option maxHeartbeats 1000000 in
theorem rsame_any (d r d' r' : Nat) (L L' : List Bool) (w : World) (h : RefAt w d r true L) (h' : RefAt w d' r' true L') (hl : L.length = L'.length) :
    Calls Tryd.prog 15 #[.pointer (some ⟨d, 0, none⟩), .pointer (some ⟨d', 0, none⟩)] w fun e w' => e = .returned (.bool (decide (L = L'))) ∧ w.grownBy w' none := by
  obtain ⟨ao, cap, hc, _, hat⟩ := h.bools
  obtain ⟨ao', cap', hc', _, hat'⟩ := h'.bools
  have ht := h.there
  have ht' := h'.there
  have hsm := h.small
  rw [← hl] at hc'
  have H := hide (And.intro hat (And.intro hat' hl))
  clear h h' hat hat' hl
  generalize hn : L.length = n at *
  have Hn := hide hn
  clear hn
  go_enter Tryd.func15, Tryd.ntmps15
  go_wp2_with fail
  go_quiet (fail)
  go_wp2
  go_loopg [5] n (fun k i wr => ∃ j : Nat, k + j = n ∧ i = .int .i64 j ∧ Hid (L.take j = L'.take j) ∧ ∃ q, wr = w.drewN q)
  case atStart => exact ⟨0, by omega, rfl, hide rfl, _, rfl⟩
  case round =>
    obtain ⟨j, hkj, rfl, hp, q, rfl⟩ := hrel
    obtain ⟨hat, hat', hl⟩ := H.out
    have hln := Hn.out
    by_cases hk : 0 < gk
    · have hj : j < L.length := by omega
      have hj' : j < L'.length := by omega
      obtain ⟨a, rfl, hca⟩ := RefAt.bool hat hj
      obtain ⟨a', rfl, hca'⟩ := RefAt.bool hat' hj'
      have c1 : (w.drewN q).cell? (a.add j) = some (.bool (L.getD j false)) := hca
      have c2 : (w.drewN q).cell? (a'.add j) = some (.bool (L'.getD j false)) := hca'
      have c3 : (w.drewN q).cell? ⟨d, 1, none⟩ = some (.slice (some a) n cap) := hc
      have c4 : (w.drewN q).cell? ⟨d', 1, none⟩ = some (.slice (some a') n cap') := hc'
      have h1 : (0 : Int) ≤ (j : Int) := by omega
      have h2 : (j : Int) < (n : Int) := by omega
      have hne : L.getD j false ≠ L'.getD j false → L ≠ L' := by rintro h rfl; exact h rfl
      have HX : Hid (L.getD j false = L'.getD j false → L.take (j + 1) = L'.take (j + 1)) := by
        intro e
        rw [take_snoc L j hj, take_snoc L' j hj', hp.out, e]
      have HNE := hide hne
      generalize L.getD j false = x at *
      generalize L'.getD j false = x' at *
      clear hat hat' hl hln hca hca' hne hc hc' ht ht'
      generalize hwm : w.drewN q = wm at *
      have HW := hide hwm
      clear hwm
      by_cases he : x = x'
      · subst he
        go_wp2
        go_region_held3 (fun w' => w'.cell? (a.add j) = some (.bool x) ∧ w'.cell? (a'.add j) = some (.bool x) ∧ w'.cell? ⟨d, 1, none⟩ = some (.slice (some a) n cap) ∧ w'.cell? ⟨d', 1, none⟩ = some (.slice (some a') n cap')) (go_keep) (fail)
        go_wp2
        go_roundg (gk - 1)
        case measure => omega
        case rel => exact ⟨j + 1, by omega, by go_num, hide (HX.out trivial), q + 1, by rw [← HW.out]; rfl⟩
      · have he2 : (x == x') = false := by simpa using he
        have hd : Hid (decide (L = L') = false) := by show _ = _; simpa using HNE.out he
        go_wp2
        go_region_held3 (fun w' => w'.cell? (a.add j) = some (.bool x) ∧ w'.cell? (a'.add j) = some (.bool x') ∧ w'.cell? ⟨d, 1, none⟩ = some (.slice (some a) n cap) ∧ w'.cell? ⟨d', 1, none⟩ = some (.slice (some a') n cap')) (go_keep) (fail)
        go_wp2
        go_ret
        exact ⟨by rw [hd.out]; rfl, by rw [← HW.out]; exact grown_drewN w (q + 1) none⟩
    · have hj : j = n := by omega
      subst hj
      have hEq : L = L' := by
        have := hp.out
        rwa [List.take_of_length_le (by omega), List.take_of_length_le (by omega)] at this
      have hd : Hid (decide (L = L') = true) := by show _ = _; simpa using hEq
      clear hEq hl hln hat hat'
      go_wp2
      go_ret
      exact ⟨by rw [hd.out]; rfl, grown_drewN _ _ _⟩

end Go.Proofs.YtajdgkbeenalkaaDoor
