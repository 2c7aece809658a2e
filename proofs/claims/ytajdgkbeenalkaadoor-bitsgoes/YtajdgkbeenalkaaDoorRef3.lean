/- The contracts of the document's own set, continued: Gaps, Bytes. -/
import Derived.Test.YtajdgkbeenalkaaDoorRef2
import Derived.Test.YtajdgkbeenalkaaDoorGap
namespace Go.Proofs.YtajdgkbeenalkaaDoor
open Go.RowKit Go.Shelf
attribute [local go_sem ↓] Go.wp_at_zero Go.wp_at_succ

/-- A store into a row of one's own. -/
theorem own_store {w : World} {base n : Nat} {e : TypeId} {v : Value} {xs : List Value} (h : w.ownsRow base e 1 v n xs) {i : Nat} (hi : i < n) (u x : Value) (hx : xs[i]? = some x) :
    ∃ g cap, v = .slice (some ⟨g, 0, none⟩) n cap ∧ w.cell? ⟨g, i, none⟩ = some x ∧ w.frozen? ⟨g, i, none⟩ = false ∧ base ≤ g ∧ (w.setCell ⟨g, i, none⟩ u).ownsRow base e 1 v n (xs.set i u) := by
  obtain ⟨hl, h⟩ := h
  rcases h with ⟨_, rfl⟩ | ⟨g, cap, cur, rfl, hb, hg, hn, hm, hs, ht⟩
  · omega
  · obtain ⟨cl⟩ := cur
    simp only [Nat.mul_one] at ht hs
    refine ⟨g, cap, rfl, ?_, free_row hg _, hb, ?_⟩
    · rw [cell_row hg, ← List.getElem?_take_of_lt hi, ht]; exact hx
    · refine ⟨by simpa using hl, Or.inr ⟨g, cap, (cl.set i u).toArray, rfl, hb, row_setCell hg _ _, hn, hm, by simpa using hs, ?_⟩⟩
      simp only [Nat.mul_one]
      rw [List.take_set, ht]

theorem GapsR.bound {L : List Bool} {i : Nat} {xs : List (Nat × Nat)} (h : GapsR L i xs) : ∀ x ∈ xs, x.1 + x.2 ≤ L.length := by
  induction h with
  | nil _ => intro x hx; cases hx
  | cons h he hx ih =>
    intro x hx
    rcases List.mem_cons.1 hx with rfl | hx
    · have := he.lt h; simp; omega
    · exact ih x hx
theorem flat_bump (xs : List (Nat × Nat)) (h : xs ≠ []) : ∃ m, (flat xs)[(flat xs).length - 1]? = some m ∧ flat (bump xs) = (flat xs).set ((flat xs).length - 1) (m + 1) ∧ ∃ x ∈ xs, x.2 = m := by
  induction xs with
  | nil => exact absurd rfl h
  | cons x xs ih =>
    cases xs with
    | nil => exact ⟨x.2, rfl, rfl, x, by simp, rfl⟩
    | cons y ys =>
      obtain ⟨m, h1, h2, h3⟩ := ih (by simp)
      have e : flat (x :: y :: ys) = x.1 :: x.2 :: flat (y :: ys) := rfl
      have hl : 0 < (flat (y :: ys)).length := by rw [flat_length]; simp
      have e2 : (flat (x :: y :: ys)).length - 1 = ((flat (y :: ys)).length - 1) + 1 + 1 := by rw [e]; simp; omega
      refine ⟨m, ?_, ?_, ?_⟩
      · rw [e2, e, List.getElem?_cons_succ, List.getElem?_cons_succ]; exact h1
      · rw [e2, e, List.set_cons_succ, List.set_cons_succ, ← h2]; rfl
      · obtain ⟨z, hz, hz2⟩ := h3
        exact ⟨z, List.mem_cons_of_mem _ hz, hz2⟩
theorem flat_len_pos (xs : List (Nat × Nat)) (h : xs ≠ []) : 0 < (flat xs).length := by
  cases xs with
  | nil => exact absurd rfl h
  | cons x xs => rw [flat_length]; simp
theorem gapTo_length (L : List Bool) (i : Nat) : (gapTo L i).length ≤ L.length := Nat.le_trans (gapsL_length _) (by simp; omega)
theorem gapTo_bound (L : List Bool) (i : Nat) : ∀ x ∈ gapTo L i, x.1 + x.2 ≤ L.length := fun x hx => Nat.le_trans ((gapsL_is _).bound x hx) (by simp; omega)

set_option maxHeartbeats 2000000 in
theorem rgaps_any (d r : Nat) (t : Bool) (L : List Bool) (w : World) (h : RefAt w d r t L) :
    Calls Tryd.prog 45 #[.pointer (some ⟨d, 0, none⟩)] w fun e w' => ∃ v, e = .returned v ∧ w'.ownsRow w.heap.size 3 1 v (flat (gapsL L)).length (intsV (flat (gapsL L))) ∧ w.grownBy w' none := by
  obtain ⟨ao, cap, hc, _, hat⟩ := h.bools
  have hsm := h.small
  obtain ⟨i0, hi, hz0, hz1, hz2⟩ := info_parts Tryd.info3
  have HA := hide (And.intro hat hc)
  clear h hat hc
  go_enter Tryd.func45, Tryd.ntmps45
  go_wp2
  go_loopg [3, 4] L.length (fun k V I wr => ∃ j : Nat, k + j = L.length ∧ I = .int .i64 (j : Int) ∧ Hid (wr.ownsRow w.heap.size 3 1 V (flat (gapTo L j)).length (intsV (flat (gapTo L j))) ∧ w.grownBy wr none))
  case atStart => exact ⟨0, by omega, rfl, hide ⟨by rw [gapTo_zero]; exact World.ownsRow_nil _ _ _ _, grown_refl _ _⟩⟩
  case round =>
    obtain ⟨j, hkj, rfl, hO⟩ := hrel
    obtain ⟨hat0, hc0⟩ := HA.out
    have hc := hO.out.2.cell hc0 (by simp)
    have hat := hat0.grown hO.out.2
    clear hat0 hc0
    by_cases hk : 0 < gk
    · have hj : j < L.length := by omega
      obtain ⟨a, rfl, hcell⟩ := RefAt.bool hat hj
      have h1 : (0 : Int) ≤ (j : Int) := by omega
      have h2 : (j : Int) < (L.length : Int) := by omega
      have hgl : (flat (gapTo L j)).length ≤ 131072 := by rw [flat_length]; have := gapTo_length L j; omega
      cases hv : L.getD j false with
      | true =>
        rw [hv] at hcell
        have HN : Hid (wr.ownsRow w.heap.size 3 1 u3 (flat (gapTo L (j + 1))).length (intsV (flat (gapTo L (j + 1)))) ∧ w.grownBy wr none) := by
          rw [gapTo_true L j hj hv]; exact hO
        clear hv hat
        go_wp2
        go_roundg (gk - 1)
        case measure => omega
        case rel => exact ⟨j + 1, by omega, by go_num, HN⟩
      | false =>
        rw [hv] at hcell
        by_cases hp : j = 0 ∨ L.getD (j - 1) false = true
        · have HE := hide (gapTo_new L j hj hv hp)
          have hG0 := hO.out.2.size
          have hguard : (j = 0) ∨ (j ≠ 0 ∧ wr.cell? (a.add (j - 1)) = some (.bool true)) := by
            rcases Nat.eq_zero_or_pos j with h0 | h0
            · exact Or.inl h0
            · right
              refine ⟨by omega, ?_⟩
              obtain ⟨a', ha', hc'⟩ := RefAt.bool hat (show j - 1 < L.length by omega)
              cases ha'
              rw [hc']
              rcases hp with h3 | h3
              · omega
              · rw [h3]
          have fin : ∀ v' w1, w1.ownsRow w.heap.size 3 1 v' ((flat (gapTo L j)).length + 2) (intsV (flat (gapTo L j)) ++ [.int .i64 (j : Int), .int .i64 0]) → (wr.alloc (.cells #[.int .i64 (j : Int), .int .i64 0] 3)).grownBy w1 u3.ownBlock →
              ∃ g' cap', v' = .slice (some ⟨g', 0, none⟩) ((flat (gapTo L j)).length + 2) cap' ∧ w1.cell? ⟨g', (flat (gapTo L j)).length + 1, none⟩ = some (.int .i64 0) ∧ w1.frozen? ⟨g', (flat (gapTo L j)).length + 1, none⟩ = false ∧
                Hid ((w1.setCell ⟨g', (flat (gapTo L j)).length + 1, none⟩ (.int .i64 1)).ownsRow w.heap.size 3 1 v' (flat (gapTo L (j + 1))).length (intsV (flat (gapTo L (j + 1)))) ∧ w.grownBy (w1.setCell ⟨g', (flat (gapTo L j)).length + 1, none⟩ (.int .i64 1)) none) := by
            intro v' w1 hown' hgrow
            have hG1 : w.grownBy w1 none := by
              obtain ⟨ao', cap', e1, _, _, _, _, _, hb⟩ := own_at hO.out.1
              rw [e1] at hgrow
              refine grown_then (grown_trans hO.out.2 (World.grownBy_alloc wr _ none)) hgrow (fun k e => ?_)
              cases ao' with
              | none => cases e
              | some a' => cases e; exact Or.inl (hb a' rfl).1
            obtain ⟨g', cap', e2, c2, f2, b2, o2⟩ := own_store hown' (i := (flat (gapTo L j)).length + 1) (by omega) (.int .i64 1) (.int .i64 0) (by rw [List.getElem?_append_right (by simp [intsV])]; simp [intsV])
            refine ⟨g', cap', e2, c2, f2, ?_, grown_then hG1 (grown_setCell _ _ _ _) (fun k e => by cases e; exact Or.inl b2)⟩
            rw [HE.out, flat_snoc]
            have : (intsV (flat (gapTo L j)) ++ [Value.int .i64 (j : Int), .int .i64 0]).set ((flat (gapTo L j)).length + 1) (.int .i64 1) = intsV (flat (gapTo L j) ++ [j, 1]) := by
              rw [List.set_append_right _ _ (by simp [intsV])]
              simp [intsV]
            rw [this] at o2
            simpa using o2
          clear hv hp HE hat
          rcases hguard with h0 | ⟨hj0, hc1⟩
          · have hz : ((j : Int) == 0) = true := by simp [h0]
            clear h0
            go_wp2_with (at_builtin; refine wpList_append_own _ rfl (.tmp 33) (.tmp 35) 57 rfl w.heap.size 3 i0 (.int .i64 0) 1 8 Tryd.underlying57 hi hz0 hz1 hz2 rfl (by decide) _ _ _ rfl (hO.out.1.alloc _) ⟨wr.heap.size, 0, none⟩ 2 2 [.int .i64 (j : Int), .int .i64 0] rfl rfl (cell_two_new _ _ _ _) (by simp [Value.oneCell']) (by unfold maxLen; omega) (by omega) (by simp; omega) ?_)
            intro v' w1 hown' hgrow _
            obtain ⟨g', cap', rfl, c2, f2, HN⟩ := fin v' w1 hown' hgrow
            clear fin hown' hgrow
            go_wp2
            go_roundg (gk - 1)
            case measure => omega
            case rel => exact ⟨j + 1, by omega, by go_num, HN⟩
          · have hz : ((j : Int) == 0) = false := by simp; omega
            have hj1 : (0 : Int) ≤ (j : Int) - 1 := by omega
            have hj2 : (j : Int) - 1 < (L.length : Int) := by omega
            have hj3 : ((j : Int) - 1) = ((j - 1 : Nat) : Int) := by omega
            generalize j - 1 = j' at *
            go_wp2_with (at_builtin; refine wpList_append_own _ rfl (.tmp 33) (.tmp 35) 57 rfl w.heap.size 3 i0 (.int .i64 0) 1 8 Tryd.underlying57 hi hz0 hz1 hz2 rfl (by decide) _ _ _ rfl (hO.out.1.alloc _) ⟨wr.heap.size, 0, none⟩ 2 2 [.int .i64 (j : Int), .int .i64 0] rfl rfl (cell_two_new _ _ _ _) (by simp [Value.oneCell']) (by unfold maxLen; omega) (by omega) (by simp; omega) ?_)
            intro v' w1 hown' hgrow _
            obtain ⟨g', cap', rfl, c2, f2, HN⟩ := fin v' w1 hown' hgrow
            clear fin hown' hgrow
            go_wp2
            go_roundg (gk - 1)
            case measure => omega
            case rel => exact ⟨j + 1, by omega, by go_num, HN⟩
        · have hj0 : 0 < j := by
            rcases Nat.eq_zero_or_pos j with h0 | h0
            · exact absurd (Or.inl h0) hp
            · exact h0
          have hv1 : L.getD (j - 1) false = false := by
            cases hq : L.getD (j - 1) false with
            | false => rfl
            | true => exact absurd (Or.inr hq) hp
          obtain ⟨hne, hE⟩ := gapTo_more L j hj hv hj0 hv1
          obtain ⟨mm, hm1, hm2, x, hxm, hx2⟩ := flat_bump _ hne
          have hmb : mm ≤ 65536 := by have := gapTo_bound L j x hxm; omega
          have hpos := flat_len_pos _ hne
          obtain ⟨a', ha', hc1⟩ := RefAt.bool hat (show j - 1 < L.length by omega)
          cases ha'
          rw [hv1] at hc1
          obtain ⟨g', cap', e2, c2, f2, b2, o2⟩ := own_store hO.out.1 (i := (flat (gapTo L j)).length - 1) (by omega) (.int .i64 ((mm + 1 : Nat) : Int)) (.int .i64 (mm : Int)) (by simp only [intsV, List.getElem?_map, hm1]; rfl)
          have HN : Hid ((wr.setCell ⟨g', (flat (gapTo L j)).length - 1, none⟩ (.int .i64 ((mm + 1 : Nat) : Int))).ownsRow w.heap.size 3 1 u3 (flat (gapTo L (j + 1))).length (intsV (flat (gapTo L (j + 1)))) ∧ w.grownBy (wr.setCell ⟨g', (flat (gapTo L j)).length - 1, none⟩ (.int .i64 ((mm + 1 : Nat) : Int))) none) := by
            refine ⟨?_, grown_then hO.out.2 (grown_setCell _ _ _ _) (fun k e => by cases e; exact Or.inl b2)⟩
            rw [hE, hm2]
            have e5 : intsV ((flat (gapTo L j)).set ((flat (gapTo L j)).length - 1) (mm + 1)) = (intsV (flat (gapTo L j))).set ((flat (gapTo L j)).length - 1) (.int .i64 ((mm + 1 : Nat) : Int)) := by
              unfold intsV
              rw [List.map_set]
            rw [e5, List.length_set]
            exact o2
          have hz : ((j : Int) == 0) = false := by simp; omega
          have hj1 : (0 : Int) ≤ (j : Int) - 1 := by omega
          have hj2 : (j : Int) - 1 < (L.length : Int) := by omega
          have hj3 : ((j : Int) - 1) = ((j - 1 : Nat) : Int) := by omega
          have hl1 : (((flat (gapTo L j)).length : Nat) : Int) - 1 = (((flat (gapTo L j)).length - 1 : Nat) : Int) := by omega
          have hl2 : (((flat (gapTo L j)).length - 1 : Nat) : Int) < (((flat (gapTo L j)).length : Nat) : Int) := by omega
          have hl3 : (1 : Int) ≤ (((flat (gapTo L j)).length : Nat) : Int) := by omega
          have hl4 : (((flat (gapTo L j)).length : Nat) : Int) ≤ 131072 := by omega
          have hmi : (mm : Int) + 1 = ((mm + 1 : Nat) : Int) := by omega
          have hmk : (mm : Int) ≤ 65536 := by omega
          subst e2
          clear hv hp hat hne hE hm1 hm2 hxm hx2 o2 hO hv1
          generalize (flat (gapTo L j)).length - 1 = l1 at *
          generalize (flat (gapTo L j)).length = l0 at *
          generalize mm + 1 = m2 at *
          generalize j - 1 = j' at *
          go_wp2
          go_roundg (gk - 1)
          case measure => omega
          case rel => exact ⟨j + 1, by omega, by go_num, HN⟩
    · have hj : j = L.length := by omega
      subst hj
      clear hat
      go_wp2
      go_ret
      refine ⟨_, rfl, ?_, hO.out.2⟩
      have := hO.out.1
      rw [gapTo_full] at this
      exact this

end Go.Proofs.YtajdgkbeenalkaaDoor
