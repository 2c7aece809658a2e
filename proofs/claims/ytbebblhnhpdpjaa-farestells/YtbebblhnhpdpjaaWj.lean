/- Fares: floats that are lent, kept. -/
import Derived.Test.YtbebblhnhpdpjaaWi
namespace Go.Proofs.Ytbebblhnhpdpjaa.Al
open Go.RowKit
attribute [local go_sem ↓] Go.wp_at_zero Go.wp_at_succ
attribute [local go_sem] run_store_float

theorem slice_to27 (ao : Option Addr) (len cap n : Nat) (h : n ≤ cap) (w : World) : (Instr.slice 27 (.slice ao len cap) none (some (.int .i64 (n : Int))) none).run Try.prog w = .ok (.slice ao n cap) w := by
  simp [Instr.slice, run_underlying Try.underlying27, Instr.sliceBounds, Instr.sliceBound, asIntOf, h]
  intro _; cases ao <;> simp [Addr.add]

set_option maxHeartbeats 1000000 in
theorem lentR_any (ao : Option Addr) (n cap : Nat) (xs : List Nat) (w : World) (hn : xs.length = n) (hat : At w ao xs) (hnil : ao = none → n = 0 ∧ cap = 0) (hb : n ≤ 17592186043904) :
    Calls Try.prog 55 #[.slice ao n cap] w fun e w' => ∃ g cap, e = .returned (.slice (some ⟨g, 0, none⟩) n cap) ∧ w'.ownsRow w.heap.size 33 1 (.slice (some ⟨g, 0, none⟩) (n + 12) cap) (n + 12) (bv (xs ++ marks 1 12)) ∧ w.grownBy w' none := by
  have Hn := hide hn
  obtain ⟨i0, hi, hz0, hz1, hz2⟩ := info_parts Try.info33
  obtain ⟨w0, hmk, hown0, hg0⟩ := run_make_own (P := Try.prog) w w.heap.size 27 33 i0 (.float .f64 0) 1 Try.underlying27 hi hz0 hz1 .i64 .i64 (n + 12) (by rw [hz2]; omega) (by unfold maxLen; omega) (Nat.le_refl _)
  have e12 : ((n + 12 : Nat) : Int) = (n : Int) + 12 := by omega
  rw [e12] at hmk
  have hw1 : IntKind.i64.wrap ((n : Int) + 12) = (n : Int) + 12 := by rw [IntKind.wrap_i64]; omega
  have HO0 := hide hown0
  have HG0 := hide hg0
  have hat0 := hat.kept hg0 (by simp)
  have hsz0 := hg0.size
  clear hn hi hz0 hz1 hz2 hown0 hg0 e12 hat
  go_enter Try.func55, Try.ntmps55
  go_wp2_with (at_builtin; refine wpList_append_at rfl (.tmp 9) (.tmp 10) rfl w.heap.size (.slice (some ⟨w.heap.size, 0, none⟩) 0 (n + 12)) 0 [] rfl HO0.out ao n cap xs rfl Hn.out hat0 hnil (by omega) hsz0 ?_)
  intro v1 w1 hown hg
  have G1 : Hid (w.grownBy w1 none) := grown_then HG0.out hg (fun k e => Or.inl (HO0.out.lt k e).1)
  have HO := hide hown
  obtain ⟨ao1, cap1, rfl, -⟩ := own_at hown
  clear hown hg hmk hat0
  go_wp2
  go_loopg [3, 4] 12 (fun k v i wr => ∃ j : Nat, k + j = 12 ∧ i = .int .i64 j ∧ Hid (wr.ownsRow w.heap.size 33 1 v (n + j) (bv (xs ++ marks 1 j)) ∧ w.grownBy wr none))
  case atStart => exact ⟨0, rfl, rfl, hide ⟨by simpa [marks] using HO.out, G1.out⟩⟩
  case round =>
    obtain ⟨j, hkj, rfl, HR⟩ := hrel
    obtain ⟨po, pc, hpv⟩ := own_form HR.out.1
    subst hpv
    by_cases hk : 0 < gk
    · have hj2 : (j : Int) < 12 := by omega
      have hmkw := mkN_word 1 j
      have hss : w.heap.size ≤ wr.heap.size := HR.out.2.size
      go_wp2_with fail
      refine (markN_any 1 j _ (by omega) (by omega) (by omega)).mono ?_
      rintro e w' ⟨rfl, hw'⟩
      obtain rfl := hw'
      go_wp2_with (at_builtin; refine wpList_append_at rfl (.tmp 16) (.tmp 20) rfl w.heap.size _ (n + j) (xs ++ marks 1 j) rfl (HR.out.1.alloc _) (some ⟨_, 0, none⟩) 1 1 [mkN 1 j] rfl rfl ?_ (fun e => by cases e) (by omega) ?_ ?_)
      · exact at_new _ [mkN 1 j] _ rfl 33
      · simp; omega
      · intro v' w6 hown' hg'
        have HR2 : Hid (w6.ownsRow w.heap.size 33 1 v' (n + (j + 1)) (bv (xs ++ marks 1 (j + 1))) ∧ w.grownBy w6 none) := hide ⟨by rw [marks_succ]; exact hown', grown_then (grown_trans HR.out.2 (World.grownBy_alloc _ _ none)) hg' (fun k e => Or.inl (HR.out.1.lt k e).1)⟩
        clear hown' hg' HR
        go_wp2
        go_roundg (gk - 1)
        case measure => omega
        case rel => exact ⟨j + 1, by omega, by go_num, HR2⟩
    · have hj : j = 12 := by omega
      subst hj
      obtain ⟨ao', cap', hve, hl, hnc, hcm, hat', hnil', h5⟩ := own_at HR.out.1
      cases hve
      obtain ⟨a', rfl⟩ : ∃ a', po = some a' := by
        cases po with
        | none => have := (hnil' rfl).1; omega
        | some a' => exact ⟨a', rfl⟩
      obtain ⟨ha', -, -⟩ := h5 a' rfl
      obtain ⟨g, rfl⟩ : ∃ g, a' = ⟨g, 0, none⟩ := ⟨_, ha'⟩
      have hst := slice_to27 (some ⟨g, 0, none⟩) (n + 12) pc n (by omega)
      clear hl hcm hat' hnil' h5 ha'
      go_wp2
      go_ret
      exact ⟨g, pc, rfl, HR.out.1, HR.out.2⟩
theorem sameFloat_any (x : Nat) (w : World) : Calls Try.prog 58 #[.float .f64 x, .float .f64 x] w fun e w' => e = .returned (.bool true) ∧ w' = w := by
  rcases order_selves x with e1 | e1
  all_goals
    go_enter Try.func58, Try.ntmps58
    go_wp2
    go_ret
    exact ⟨rfl, rfl⟩
set_option maxHeartbeats 1000000 in
theorem sameR_eq (ao bo : Option Addr) (n c d : Nat) (xs : List Nat) (w : World) (hn : n = xs.length) (ha : At w ao xs) (hb : At w bo xs) (hm : n ≤ 4611686018427387904) :
    Calls Try.prog 59 #[.slice ao n c, .slice bo n d] w fun e w' => e = .returned (.bool true) ∧ w.grownBy w' none := by
  have HA := hide (And.intro hn (And.intro ha hb))
  clear hn ha hb
  go_enter Try.func59, Try.ntmps59
  go_wp2
  go_loopg [5] n (fun k i wr => ∃ j : Nat, k + j = n ∧ i = .int .i64 j ∧ w.grownBy wr none)
  case atStart => exact ⟨0, by omega, rfl, grown_refl _ _⟩
  case round =>
    obtain ⟨j, hkj, rfl, hg⟩ := hrel
    by_cases hk : 0 < gk
    · obtain ⟨hn, ha, hb⟩ := HA.out
      have hj : j < xs.length := by omega
      obtain ⟨a, rfl, hca⟩ := ha j xs[j] (by simp [hj])
      obtain ⟨b, rfl, hcb⟩ := hb j xs[j] (by simp [hj])
      have hca' := hg.cell hca (by simp)
      have hcb' := hg.cell hcb (by simp)
      have h2 : (j : Int) < (n : Int) := by omega
      generalize xs[j] = x at *
      clear hn ha hb hca hcb hj
      go_wp2
      go_quiet (exact Calls.quiet_of_same (sameFloat_any x _))
      go_wp2
      go_roundg (gk - 1)
      case measure => omega
      case rel => exact ⟨j + 1, by omega, by go_num, grown_trans hg (grown_drewN _ _ _)⟩
    · have hj : j = n := by omega
      subst hj
      go_wp2
      go_ret
      exact ⟨rfl, hg⟩
set_option maxHeartbeats 1000000 in
theorem keptR_any (g cap : Nat) (bo : Option Addr) (n d : Nat) (xs : List Nat) (w : World) (hn : xs.length = n) (hc1 : n + 12 ≤ cap) (_hc2 : cap ≤ maxLen) (ha : At w (some ⟨g, 0, none⟩) (xs ++ marks 1 12)) (hb : At w bo xs) (hm : n ≤ 140737488355328) :
    Calls Try.prog 57 #[.slice (some ⟨g, 0, none⟩) n cap, .slice bo n d] w fun e w' => e = .returned (.bool true) ∧ w.grownBy w' none := by
  have HA := hide (And.intro hn (And.intro ha hb))
  unfold maxLen at _hc2
  have hst := slice_to27 (some ⟨g, 0, none⟩) n cap (n + 12) hc1
  have hst2 : ∀ w', (Instr.slice 27 (.slice (some ⟨g, 0, none⟩) n cap) none (some (.int .i64 ((n : Int) + 12))) none).run Try.prog w' = .ok (.slice (some ⟨g, 0, none⟩) (n + 12) cap) w' := hst
  have hw1 : IntKind.i64.wrap ((n : Int) + 12) = (n : Int) + 12 := by rw [IntKind.wrap_i64]; omega
  clear hn ha hb hst
  go_enter Try.func57, Try.ntmps57
  go_wp2
  go_loopg [6] (n + 12) (fun k i wr => ∃ j : Nat, k + j = n + 12 ∧ i = .int .i64 j ∧ w.grownBy wr none)
  case atStart => exact ⟨0, by omega, rfl, grown_refl _ _⟩
  case round =>
    obtain ⟨j, hkj, rfl, hg⟩ := hrel
    by_cases hk : 0 < gk
    · obtain ⟨hn, ha, hb⟩ := HA.out
      have hj0 : (0 : Int) ≤ (j : Int) := by omega
      have hj1 : (j : Int) < ((n + 12 : Nat) : Int) := by omega
      have hj1' : (j : Int) < (n : Int) + 12 := by omega
      by_cases hj : j < n
      · have hjx : j < xs.length := by omega
        obtain ⟨a, e1, hca⟩ := ha j xs[j] (by rw [List.getElem?_append_left hjx]; simp [hjx])
        cases e1
        obtain ⟨b, rfl, hcb⟩ := hb j xs[j] (by simp [hjx])
        have hca' := hg.cell hca (by simp)
        have hcb' := hg.cell hcb (by simp)
        rw [Addr.add_lit, Nat.zero_add] at hca'
        generalize xs[j] = x at *
        have hjn : (j : Int) < (n : Int) := by omega
        have hd1 : decide (n ≤ j) = false := by simp; omega
        clear hn ha hb hca hcb hst2 hjx
        go_wp2
        go_quiet (exact Calls.quiet_of_same (sameFloat_any x _))
        go_wp2
        go_roundg (gk - 1)
        case measure => omega
        case rel => exact ⟨j + 1, by omega, by go_num, grown_trans hg (grown_drewN _ _ _)⟩
      · obtain ⟨i, hji⟩ : ∃ i, j = n + i := ⟨j - n, by omega⟩
        have hi : i < 12 := by omega
        obtain ⟨a, e1, hca⟩ := ha j (mkN 1 i) (by rw [hji, List.getElem?_append_right (by omega), hn, Nat.add_sub_cancel_left, marks_get 1 12 i hi])
        cases e1
        have hca' := hg.cell hca (by simp)
        rw [Addr.add_lit, Nat.zero_add] at hca'
        have hd1 : decide (j < n) = false := by simp; omega
        have hd3 : decide (n ≤ j) = true := by simp; omega
        have Hmk := hide (fun w => markN_any 1 i w (by omega) (by omega) (by omega))
        have hsub : (j : Int) - (n : Int) = (i : Int) := by omega
        have HJ := hide hji
        have hwi : IntKind.i64.wrap (i : Int) = (i : Int) := by rw [IntKind.wrap_i64]; omega
        have hmkw := mkN_word 1 i
        have hsame := mkN_same 1 i (by omega) (by omega) (by omega)
        generalize mkN 1 i = x at *
        clear hn ha hb hca hst2 hji
        go_wp2
        go_quiet ((go_at_call 56; exact Calls.quiet_of_same (Hmk.out _)))
        go_wp2
        go_roundg (gk - 1)
        case measure => omega
        case rel => exact ⟨j + 1, by omega, by go_num, grown_trans hg (grown_drewN _ _ _)⟩
    · have hj : j = n + 12 := by omega
      subst hj
      go_wp2
      go_ret
      exact ⟨rfl, hg⟩
end Go.Proofs.Ytbebblhnhpdpjaa.Al
