/- The contract of the statements' own 'one', of no set. -/
import Derived.Test.YtajdgkbeenalkaaDoorRef4
namespace Go.Proofs.YtajdgkbeenalkaaDoor
open Go.RowKit Go.Shelf
attribute [local go_sem ↓] Go.wp_at_zero Go.wp_at_succ

theorem Seek.none_nil {v : Bool} {i : Nat} {r : Int} (h : Seek [] v i r) : r = -1 := h.uniq (Seek.out (Nat.zero_le _))
theorem gapsL_nil : gapsL [] = [] := gapsL_eq (.nil (Seek.out (Nat.zero_le _)))
theorem allL_nil : allL [] = [] := rfl
theorem rsetF_false (n : Nat) (i : Int) : rsetF false n i = 1 := rfl

set_option maxHeartbeats 400000 in
theorem rput_none (d r : Nat) (i : Int) (w : World) (h : RefAt w d r false []) : Calls Tryd.prog 37 #[.pointer (some ⟨d, 0, none⟩), .int .i64 i] w fun e w' => e = .returned (.int .i64 1) ∧ w' = w := by
  have H := hide (rset_bad d r false [] i true w h (Or.inl rfl))
  clear h
  go_enter Tryd.func37, Tryd.ntmps37
  go_wp2_with fail
  refine H.out.mono ?_
  rintro e w' ⟨rfl, rfl⟩
  rw [rsetF_false]
  go_wp2
  go_ret
  exact ⟨rfl, rfl⟩
set_option maxHeartbeats 400000 in
theorem rdrop_none (d r : Nat) (i : Int) (w : World) (h : RefAt w d r false []) : Calls Tryd.prog 38 #[.pointer (some ⟨d, 0, none⟩), .int .i64 i] w fun e w' => e = .returned (.int .i64 1) ∧ w' = w := by
  have H := hide (rset_bad d r false [] i false w h (Or.inl rfl))
  clear h
  go_enter Tryd.func38, Tryd.ntmps38
  go_wp2_with fail
  refine H.out.mono ?_
  rintro e w' ⟨rfl, rfl⟩
  rw [rsetF_false]
  go_wp2
  go_ret
  exact ⟨rfl, rfl⟩

set_option maxHeartbeats 400000 in
theorem has_none (p : Option Addr) (i : Int) (w : World) (hm : ∀ n, NoSet (w.drewN n) p) :
    Calls Tryd.prog 25 #[.pointer p, .int .i64 i] w fun e w' => e = .returned (.bool false) ∧ ∃ k, w' = w.drewN k := by
  have HM := hide (fun n => may_none p i (w.drewN n) (hm n))
  clear hm
  have hd : decide ((1 : Int) = 0) = false := by decide
  go_enter Tryd.func25, Tryd.ntmps25
  go_wp2_with fail
  go_quiet ((go_at_call 53; exact Calls.quiet_of_same (HM.out _)))
  go_wp2
  go_ret
  exact ⟨rfl, _, rfl⟩
set_option maxHeartbeats 400000 in
theorem same_none (p q : Option Addr) (w : World) (h : NoSet w p) : Calls Tryd.prog 14 #[.pointer p, .pointer q] w fun e w' => e = .returned (.bool false) ∧ w' = w := by
  have H := hide h.is
  clear h
  go_enter Tryd.func14, Tryd.ntmps14
  go_wp2_with fail
  refine H.out.mono ?_
  rintro e w' ⟨rfl, rfl⟩
  go_wp2
  go_ret
  exact ⟨rfl, rfl⟩
theorem rhas_nil (d r : Nat) (i : Int) (w : World) (h : RefAt w d r false []) : Calls Tryd.prog 39 #[.pointer (some ⟨d, 0, none⟩), .int .i64 i] w fun e w' => e = .returned (.bool false) ∧ w' = w := by
  refine (rhas_any d r false [] i w h).mono ?_
  rintro e w' ⟨rfl, rfl⟩
  exact ⟨by simp, rfl⟩
theorem rnext_nil (d r : Nat) (i : Int) (w : World) (h : RefAt w d r false []) : Calls Tryd.prog 40 #[.pointer (some ⟨d, 0, none⟩), .int .i64 i] w fun e w' => e = .returned (.int .i64 (-1)) ∧ w' = w := by
  refine (rnext_any d r false [] i w h).mono ?_
  rintro e w' ⟨q, rfl, hs, rfl⟩
  obtain rfl := hs.none_nil
  exact ⟨rfl, rfl⟩
theorem rfree_nil (d r : Nat) (i : Int) (w : World) (h : RefAt w d r false []) : Calls Tryd.prog 41 #[.pointer (some ⟨d, 0, none⟩), .int .i64 i] w fun e w' => e = .returned (.int .i64 (-1)) ∧ w' = w := by
  refine (rfree_any d r false [] i w h).mono ?_
  rintro e w' ⟨q, rfl, hs, rfl⟩
  obtain rfl := hs.none_nil
  exact ⟨rfl, rfl⟩
theorem rcount_nil (d r : Nat) (w : World) (h : RefAt w d r false []) : Calls Tryd.prog 42 #[.pointer (some ⟨d, 0, none⟩)] w fun e w' => e = .returned (.int .i64 0) ∧ w' = w := rcount_any d r false [] w h

/-- A call's number. -/
theorem pick11 (x : Int) : x % 11 = 0 ∨ x % 11 = 1 ∨ x % 11 = 2 ∨ x % 11 = 3 ∨ x % 11 = 4 ∨ x % 11 = 5 ∨ x % 11 = 6 ∨ x % 11 = 7 ∨ x % 11 = 8 ∨ x % 11 = 9 ∨ x % 11 = 10 := by omega

set_option maxRecDepth 100000 in
set_option maxHeartbeats 2000000 in
theorem one_none (p : Option Addr) (d r : Nat) (Do On I : Int) (w : World) (hP : ∀ w', w.grownBy w' none → NoSet w' p) (hR : RefAt w d r false []) (hT : Tab w) :
    Calls Tryd.prog 13 #[.pointer p, .pointer (some ⟨d, 0, none⟩), .agg #[.int .i64 Do, .int .i64 On, .int .i64 I]] w fun e w' => e = .returned (.bool true) ∧ w.grownBy w' none := by
  have H := hide (And.intro hP (And.intro hR hT))
  clear hP hR hT
  go_enter Tryd.func13, Tryd.ntmps13
  go_wp2_with fail
  refine (pick_any Do 11 11 _ rfl (by decide) (by decide)).mono ?_
  rintro e w1 ⟨rfl, rfl⟩
  rw [show ((11 : Nat) : Int) = 11 from rfl]
  have hG0 : w.grownBy (w.alloc (Obj.cells #[Value.int IntKind.i64 Do, Value.int IntKind.i64 On, Value.int IntKind.i64 I] 37)) none := World.grownBy_alloc w _ none
  have hC2 : (w.alloc (Obj.cells #[Value.int IntKind.i64 Do, Value.int IntKind.i64 On, Value.int IntKind.i64 I] 37)).cell? ⟨w.heap.size, 2, none⟩ = some (.int .i64 I) := by
    rw [cell_row (heap_alloc_new w (Obj.cells [Value.int IntKind.i64 Do, Value.int IntKind.i64 On, Value.int IntKind.i64 I].toArray 37))]; rfl
  generalize w.alloc (Obj.cells #[Value.int IntKind.i64 Do, Value.int IntKind.i64 On, Value.int IntKind.i64 I] 37) = w0 at *
  have hR0 := H.out.2.1.grown hG0
  have hth := hR0.there
  obtain ⟨dao, dcap, hlen, hdn, hdat⟩ := hR0.bools
  have HG := hide (And.intro hG0 (And.intro hR0 (H.out.2.2.kept hG0 (by simp))))
  have HP : Hid (∀ w', w0.grownBy w' none → NoSet w' p) := fun w' h => H.out.1 w' (grown_trans hG0 h)
  clear hG0 hR0 H hdn hdat
  generalize w.heap.size = B at *
  simp only [List.length_nil] at hlen
  have hput := fun n => put_bad p I 1 (w0.drewN n) (by decide) (may_none p I _ (HP.out _ (grown_drewN _ _ _)))
  have hdrop := fun n => drop_bad p I 1 (w0.drewN n) (by decide) (may_none p I _ (HP.out _ (grown_drewN _ _ _)))
  have hrput := fun (n : Nat) (v : Bool) => rset_bad d r false [] I v (w0.drewN n) (HG.out.2.1.grown (grown_drewN _ _ _)) (Or.inl rfl)
  have HC := hide (And.intro hput (And.intro hdrop hrput))
  clear hput hdrop hrput
  rcases pick11 Do with hk | hk | hk | hk | hk | hk | hk | hk | hk | hk | hk <;> rw [hk] <;> clear hk
  · -- Put
    go_wp2_with fail
    go_quiet (first | (go_at_call 24; exact Calls.quiet_of_same (HC.out.1 _)) | (go_at_call 37; exact Calls.quiet_of_same (rput_none d r I _ (HG.out.2.1.grown (grown_drewN _ _ _)))))
    go_wp2
    go_ret
    exact ⟨rfl, grown_trans HG.out.1 (grown_drewN _ _ _)⟩
  · -- Drop
    go_wp2_with fail
    go_quiet (first | (go_at_call 34; exact Calls.quiet_of_same (HC.out.2.1 _)) | (go_at_call 38; exact Calls.quiet_of_same (rdrop_none d r I _ (HG.out.2.1.grown (grown_drewN _ _ _)))))
    go_wp2
    go_ret
    exact ⟨rfl, grown_trans HG.out.1 (grown_drewN _ _ _)⟩
  · -- Has
    go_wp2_with fail
    go_quiet (first | (go_at_call 25; exact Calls.quiet_of (has_none p I _ (fun n => HP.out _ (grown_trans (grown_drewN _ _ none) (grown_drewN _ n none))))) | (go_at_call 39; exact Calls.quiet_of_same (rhas_nil d r I _ (HG.out.2.1.grown (grown_drewN _ _ _)))))
    go_wp2
    go_ret
    exact ⟨rfl, grown_trans HG.out.1 (grown_drewN _ _ _)⟩
  · -- Next
    go_wp2_with fail
    go_quiet (first | (go_at_call 32; exact Calls.quiet_of_same (next_none p I _ (HP.out _ (grown_drewN _ _ _)))) | (go_at_call 40; exact Calls.quiet_of_same (rnext_nil d r I _ (HG.out.2.1.grown (grown_drewN _ _ _)))))
    go_wp2
    go_ret
    exact ⟨rfl, grown_trans HG.out.1 (grown_drewN _ _ _)⟩
  · -- Free
    go_wp2_with fail
    go_quiet (first | (go_at_call 33; exact Calls.quiet_of_same (free_none p I _ (HP.out _ (grown_drewN _ _ _)))) | (go_at_call 41; exact Calls.quiet_of_same (rfree_nil d r I _ (HG.out.2.1.grown (grown_drewN _ _ _)))))
    go_wp2
    go_ret
    exact ⟨rfl, grown_trans HG.out.1 (grown_drewN _ _ _)⟩
  · -- Count and Bound
    go_wp2_with fail
    go_quiet (first | (go_at_call 28; exact Calls.quiet_of_same (count_none p _ (HP.out _ (grown_drewN _ _ _)))) | (go_at_call 42; exact Calls.quiet_of_same (rcount_nil d r _ (HG.out.2.1.grown (grown_drewN _ _ _)))) | (go_at_call 43; exact Calls.quiet_of_same (bound_none p _ (HP.out _ (grown_drewN _ _ _)))))
    go_wp2
    go_ret
    exact ⟨rfl, grown_trans HG.out.1 (grown_drewN _ _ _)⟩
  · -- All
    go_wp2_with fail
    refine (all_any p [] w0 (Or.inr ⟨HP.out _ (grown_refl _ _), rfl⟩) HG.out.2.2 (by simp)).mono ?_
    rintro e w1 ⟨v, rfl, hV, hg1⟩
    have H1 := hide (And.intro hV hg1)
    clear hV hg1
    go_wp2_with fail
    refine (told_any v [] w1 H1.out.1).mono ?_
    rintro e w2 ⟨sl, rfl, hown, hg2⟩
    obtain ⟨a1, c1, rfl, _, _, _, hat, _, _⟩ := own_at hown
    have H2 := hide (grown_trans H1.out.2 hg2)
    clear hat hown hg2 H1
    go_wp2_with fail
    refine (rall_any d r false [] w2 (HG.out.2.1.grown H2.out)).mono ?_
    rintro e w3 ⟨sl, rfl, hown, hg3⟩
    obtain ⟨a2, c2, rfl, _, _, _, hat, _, _⟩ := own_at hown
    have H3 := hide (grown_trans H2.out hg3)
    clear hat hown hg3
    go_wp2_with fail
    refine (sameInts_eq a1 a2 0 c1 c2 [] w3 rfl (AtV.nil _ _) (AtV.nil _ _) (by decide)).mono ?_
    rintro e w4 ⟨rfl, hg4⟩
    have H4 := hide (grown_trans HG.out.1 (grown_trans H3.out hg4))
    clear hg4
    go_wp2
    go_ret
    exact ⟨rfl, H4.out⟩
  · -- Gaps
    go_wp2_with fail
    refine (gaps_any p [] w0 (Or.inr ⟨HP.out _ (grown_refl _ _), rfl⟩) HG.out.2.2 (by simp)).mono ?_
    rintro e w1 ⟨v, rfl, hV, hg1⟩
    have H1 := hide (And.intro hV hg1)
    clear hV hg1
    go_wp2_with fail
    refine (pairs_any v [] w1 H1.out.1).mono ?_
    rintro e w2 ⟨sl, rfl, hown, hg2⟩
    rw [gapsL_nil] at hown
    obtain ⟨a1, c1, rfl, _, _, _, hat, _, _⟩ := own_at hown
    have H2 := hide (grown_trans H1.out.2 hg2)
    clear hat hown hg2 H1
    go_wp2_with fail
    refine (rgaps_any d r false [] w2 (HG.out.2.1.grown H2.out)).mono ?_
    rintro e w3 ⟨sl, rfl, hown, hg3⟩
    rw [gapsL_nil] at hown
    obtain ⟨a2, c2, rfl, _, _, _, hat, _, _⟩ := own_at hown
    have H3 := hide (grown_trans H2.out hg3)
    clear hat hown hg3
    go_wp2_with fail
    refine (sameInts_eq a1 a2 0 c1 c2 [] w3 rfl (AtV.nil _ _) (AtV.nil _ _) (by decide)).mono ?_
    rintro e w4 ⟨rfl, hg4⟩
    have H4 := hide (grown_trans HG.out.1 (grown_trans H3.out hg4))
    clear hg4
    go_wp2
    go_ret
    exact ⟨rfl, H4.out⟩
  · -- Bytes
    go_wp2_with fail
    refine (bytes_none p w0 (HP.out _ (grown_refl _ _))).mono ?_
    rintro e w1 ⟨rfl, rfl⟩
    go_wp2_with fail
    refine (rbytes_any d r false [] _ HG.out.2.1).mono ?_
    rintro e w2 ⟨rfl, _, hg2⟩
    have H2 := hide hg2
    clear hg2
    go_wp2_with fail
    refine (sameBytes_eq none _ 0 0 _ [] w2 rfl (AtV.nil _ _) (AtV.nil _ _) (by decide)).mono ?_
    rintro e w4 ⟨rfl, hg4⟩
    have H4 := hide (grown_trans HG.out.1 (grown_trans H2.out hg4))
    clear hg4
    go_wp2
    go_ret
    exact ⟨rfl, H4.out⟩
  · -- Same
    go_wp2_with fail
    go_quiet (first | (go_at_call 14; exact Calls.quiet_of_same (same_none p p _ (HP.out _ (grown_drewN _ _ _)))))
    go_wp2
    go_ret
    exact ⟨rfl, grown_trans HG.out.1 (grown_drewN _ _ _)⟩
  · -- Copy
    go_wp2_with fail
    go_quiet (first | (go_at_call 16; exact Calls.quiet_of_same (copy_none p _ (HP.out _ (grown_drewN _ _ _)))))
    go_wp2
    go_ret
    exact ⟨rfl, grown_trans HG.out.1 (grown_drewN _ _ _)⟩

end Go.Proofs.YtajdgkbeenalkaaDoor
