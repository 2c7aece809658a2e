/- The contracts of a set's Copy and of Same. -/
import Derived.Test.YtajdgkbeenalkaaDoorBytes
import Derived.Lib.SliceRun
namespace Go.Proofs.YtajdgkbeenalkaaDoor
open Go.RowKit
attribute [local go_sem ↓] Go.wp_at_zero Go.wp_at_succ

set_option maxHeartbeats 400000 in
theorem clone_any (g cap : Nat) (W : List Nat) (w : World) (_hcap : W.length ≤ cap) (hlen : W.length ≤ 1024) (hcells : ∀ (j x : Nat), W[j]? = some x → w.cell? ⟨g, j, none⟩ = some (.int .u64 (x : Int))) :
    Calls Tryd.prog 49 #[.slice (some ⟨g, 0, none⟩) W.length cap] w fun e w' => ∃ g' cap' cur, e = .returned (.slice (some ⟨g', 0, none⟩) W.length cap') ∧ w.heap.size ≤ g' ∧ w'.heap[g']? = some (.cells cur 78 (0, 0)) ∧
      W.length ≤ cap' ∧ cap' ≤ maxLen ∧ cur.size = cap' ∧ cur.toList.take W.length = wvals W ∧ w.grownBy w' none := by
  have H := hide hcells
  clear hcells
  have hq := fun w' => Lib.run_eql_slice_nil (P := Tryd.prog) w' 53 78 (some ⟨g, 0, none⟩) W.length cap 0 0 Tryd.underlying53
  obtain ⟨i0, hi, hz0, hz1, hz2⟩ := info_parts Tryd.info78
  go_enter Tryd.func49, Tryd.ntmps49
  go_wp2_with (at_builtin; refine wpList_append_own _ rfl (.tmp 5) (.tmp 6) 53 rfl w.heap.size 78 i0 (.int .u64 0) 1 8 Tryd.underlying53 hi hz0 hz1 hz2 rfl (by decide) (.slice (some ⟨w.heap.size, 0, none⟩) 0 0) 0 [] rfl ?_ ⟨g, 0, none⟩ W.length cap (wvals W) rfl (by simp [wvals]) ?_ ?_ (by unfold maxLen; omega) (by omega) (by simp) ?_)
  · exact World.ownsRow_made w #[] 0 (Nat.le_refl _) (Nat.zero_le _) rfl
  · intro j u hu
    rw [wvals, List.getElem?_map] at hu
    cases hj : W[j]? with
    | none => simp [hj] at hu
    | some x =>
      simp [hj] at hu
      rw [Addr.add_lit, Nat.zero_add, ← hu]
      exact (World.grownBy_alloc w _ none).cell (H.out j x hj) (by simp)
  · intro u hu; rw [wvals, List.mem_map] at hu; obtain ⟨y, _, rfl⟩ := hu; rfl
  · intro v' w' hown hg hnil
    have hgr : w.grownBy w' none := grown_then (World.grownBy_alloc w _ none) hg (fun k e => by cases e; exact Or.inl (Nat.le_refl _))
    obtain ⟨hl, hown⟩ := hown
    rcases hown with ⟨rfl, h0⟩ | ⟨g', cap', cur, rfl, h1, h2, h3, h4, h5, h6⟩
    · exact (hnil rfl).elim
    · have HG := hide (And.intro hgr (And.intro h2 h6))
      clear hgr h2 h6 hg hnil hl H hq
      simp only [Nat.mul_one] at *
      go_wp2
      go_ret
      exact ⟨g', cap', cur, rfl, h1, HG.out.2.1, h3, h4, h5, HG.out.2.2, HG.out.1⟩

theorem Rep.copy {W : List Nat} {L : List Bool} (h : Rep W L) : W.length ≤ 1024 := by have := h.len; have := h.small; omega

set_option maxHeartbeats 400000 in
theorem copy_none (p : Option Addr) (w : World) (h : NoSet w p) : Calls Tryd.prog 16 #[.pointer p] w fun e w' => e = .returned (.pointer none) ∧ w' = w := by
  have H := hide h.is
  clear h
  go_enter Tryd.func16, Tryd.ntmps16
  go_wp2_with fail
  refine H.out.mono ?_
  rintro e w' ⟨rfl, rfl⟩
  go_wp2
  go_ret
  exact ⟨rfl, rfl⟩

set_option maxHeartbeats 1000000 in
theorem copy_any (b g : Nat) (L : List Bool) (w : World) (h : SetAt w b g L) (hw : 0 < w.heap.size) :
    Calls Tryd.prog 16 #[.pointer (some ⟨b, 0, none⟩)] w fun e w' => ∃ b' g', e = .returned (.pointer (some ⟨b', 0, none⟩)) ∧ SetAt w' b' g' L ∧ w.heap.size ≤ b' ∧ w.heap.size ≤ g' ∧ w.grownBy w' none := by
  obtain ⟨W, cap, hc, hcap, hcap2, hR, hcells⟩ := h.words
  have hn := isNone_at b true w h.made
  have hbd := h.bound
  have hW := hR.copy
  have hcl := clone_any g cap W w.drew hcap hW hcells
  have H := hide hR
  have HN := hide hn
  have HC := hide hcl
  clear hcells hn hR h hcl
  go_enter Tryd.func16, Tryd.ntmps16
  go_wp2_with fail
  refine HN.out.mono ?_
  rintro e w' ⟨rfl, rfl⟩
  go_wp2_with fail
  go_region_held3 (fun w' => w'.cell? ⟨b, 1, none⟩ = some (.int .i64 (L.length : Int)) ∧ w'.cell? ⟨b, 2, none⟩ = some (.slice (some ⟨g, 0, none⟩) W.length cap)) (first | exact And.intro hbd hc | assumption | go_keep) ((go_at_call 49; refine HC.out.mono ?_; rintro e w2 ⟨g', cap', cur, rfl, h1, h2, h3, h4, h5, h6, h7⟩; have hk1 := And.intro (h7.cell hbd (by simp)) (h7.cell hc (by simp)); have HH := hide (And.intro h2 (And.intro h6 h7)); clear h2 h6 h7))
  go_wp2
  go_ret
  obtain ⟨h2, h6, h7⟩ := HH.out
  have hg7 : w'.grownBy w2 none := grown_trans (grown_drew w' none) h7
  refine ⟨w2.heap.size, g', rfl, ?_, hg7.size, h1, grown_trans hg7 (World.grownBy_alloc w2 _ none)⟩
  refine SetAt.fresh (W := W) (cap := cap') (cur := cur.toList) (heap_alloc_new w2 _) ?_ h3 h4 (by simpa using h5) h6 H.out (Nat.lt_of_lt_of_le hw h1)
  rw [Below.heap_alloc _ _ _ (row_lt h2), h2]

theorem words_eq {W W' : List Nat} {L L' : List Bool} (h : Rep W L) (h' : Rep W' L') (hl : L.length = L'.length) : W = W' ↔ L = L' := by
  constructor
  · rintro rfl
    apply List.ext_getElem hl
    intro i h1 h2
    have := (h.is i).symm.trans (h'.is i)
    simpa [List.getD_eq_getElem?_getD, h1, h2] using this
  · rintro rfl
    apply List.ext_getElem (h.len.trans h'.len.symm)
    intro j h1 h2
    apply Nat.eq_of_testBit_eq
    intro c
    by_cases hc : c < 64
    · have := (h.is (64 * j + c)).trans (h'.is (64 * j + c)).symm
      have e1 : (64 * j + c) / 64 = j := by omega
      have e2 : (64 * j + c) % 64 = c := by omega
      simpa [mem, e1, e2, List.getD_eq_getElem?_getD, h1, h2] using this
    · have hb := Nat.pow_le_pow_right (n := 2) (by decide) (show 64 ≤ c by omega)
      rw [Nat.testBit_lt_two_pow (Nat.lt_of_lt_of_le (h.word _ (List.getElem_mem h1)) hb), Nat.testBit_lt_two_pow (Nat.lt_of_lt_of_le (h'.word _ (List.getElem_mem h2)) hb)]

set_option maxHeartbeats 1000000 in
theorem equal_any (g g' cap cap' n : Nat) (W W' : List Nat) (w : World) (hn : W.length = n) (hn' : W'.length = n) (hW : n ≤ 1024) (hcells : ∀ (j x : Nat), W[j]? = some x → w.cell? ⟨g, j, none⟩ = some (.int .u64 (x : Int)))
    (hcells' : ∀ (j x : Nat), W'[j]? = some x → w.cell? ⟨g', j, none⟩ = some (.int .u64 (x : Int))) :
    Calls Tryd.prog 48 #[.slice (some ⟨g, 0, none⟩) n cap, .slice (some ⟨g', 0, none⟩) n cap'] w fun e w' => e = .returned (.bool (decide (W = W'))) ∧ ∃ k, w' = w.drewN k := by
  have H := hide (And.intro hcells (And.intro hcells' (And.intro hn hn')))
  clear hcells hcells' hn hn'
  go_enter Tryd.func48, Tryd.ntmps48
  go_wp2
  go_loopg [13] n (fun k i wr => ∃ j : Nat, k + j = n ∧ i = .int .i64 j ∧ Hid (W.take j = W'.take j) ∧ ∃ m, wr = w.drewN m)
  case atStart => exact ⟨0, by omega, rfl, hide rfl, 0, rfl⟩
  case round =>
    obtain ⟨j, hkj, rfl, hp, m, rfl⟩ := hrel
    obtain ⟨hcells, hcells', hn, hn'⟩ := H.out
    by_cases hk : 0 < gk
    · have hj : j < W.length := by omega
      have hj' : j < W'.length := by omega
      have hx := List.getElem?_eq_getElem hj
      have hx' := List.getElem?_eq_getElem hj'
      have c1 : (w.drewN m).cell? ⟨g, j, none⟩ = some (.int .u64 (W[j] : Int)) := hcells j _ hx
      have c2 : (w.drewN m).cell? ⟨g', j, none⟩ = some (.int .u64 (W'[j] : Int)) := hcells' j _ hx'
      have h1 : (0 : Int) ≤ (j : Int) := by omega
      have h2 : (j : Int) < (n : Int) := by omega
      have HX := hide (And.intro hx hx')
      have hne : W[j] ≠ W'[j] → W ≠ W' := by rintro h rfl; exact h rfl
      have HNE := hide hne
      generalize W[j] = x at *
      generalize W'[j] = x' at *
      clear hcells hcells' hn hn' hx hx' hne
      generalize hwm : w.drewN m = wm at *
      have HW := hide hwm
      clear hwm
      by_cases he : x = x'
      · subst he
        go_wp2
        go_region_held3 (fun w' => w'.cell? ⟨g, j, none⟩ = some (.int .u64 (x : Int)) ∧ w'.cell? ⟨g', j, none⟩ = some (.int .u64 (x : Int))) (go_keep) (fail)
        go_wp2
        go_roundg (gk - 1)
        case measure => omega
        case rel =>
          refine ⟨j + 1, by omega, by go_num, hide ?_, m + 1, by rw [← HW.out]; rfl⟩
          rw [List.take_add_one, List.take_add_one, hp.out, HX.out.1, HX.out.2]
      · have he1 : ¬ (x : Int) = (x' : Int) := by omega
        have he2 : ((x : Int) == (x' : Int)) = false := by simpa using he1
        have hd : Hid (decide (W = W') = false) := by show _ = _; simpa using HNE.out he
        go_wp2
        go_region_held3 (fun w' => w'.cell? ⟨g, j, none⟩ = some (.int .u64 (x : Int)) ∧ w'.cell? ⟨g', j, none⟩ = some (.int .u64 (x' : Int))) (go_keep) (fail)
        go_wp2
        go_ret
        exact ⟨by rw [hd.out]; rfl, m + 1, by rw [← HW.out]; rfl⟩
    · have hj : j = n := by omega
      subst hj
      have hEq : W = W' := by
        have := hp.out
        rwa [List.take_of_length_le (by omega), List.take_of_length_le (by omega)] at this
      have hd : Hid (decide (W = W') = true) := by show _ = _; simpa using hEq
      clear hEq
      go_wp2
      go_ret
      exact ⟨by rw [hd.out]; rfl, m, rfl⟩


set_option maxHeartbeats 400000 in
theorem same_no1 (p q : Option Addr) (w : World) (h : NoSet w p) : Calls Tryd.prog 14 #[.pointer p, .pointer q] w fun e w' => e = .returned (.bool false) ∧ w.grownBy w' none := by
  have H := hide h.is
  clear h
  go_enter Tryd.func14, Tryd.ntmps14
  go_wp2_with fail
  refine H.out.mono ?_
  rintro e w' ⟨rfl, rfl⟩
  go_wp2
  go_ret
  exact ⟨rfl, grown_refl _ _⟩
set_option maxHeartbeats 400000 in
theorem same_no2 (b g : Nat) (L : List Bool) (q : Option Addr) (w : World) (h0 : SetAt w b g L) (h : NoSet w q) : Calls Tryd.prog 14 #[.pointer (some ⟨b, 0, none⟩), .pointer q] w fun e w' => e = .returned (.bool false) ∧ w.grownBy w' none := by
  have H := hide h.is
  have H0 := hide (isNone_at b true w h0.made)
  clear h h0
  go_enter Tryd.func14, Tryd.ntmps14
  go_wp2_with fail
  refine H0.out.mono ?_
  rintro e w' ⟨rfl, rfl⟩
  go_wp2_with fail
  refine H.out.mono ?_
  rintro e w' ⟨rfl, rfl⟩
  go_wp2
  go_ret
  exact ⟨rfl, grown_refl _ _⟩

set_option maxHeartbeats 1000000 in
theorem same_any (b g b' g' : Nat) (L L' : List Bool) (w : World) (h : SetAt w b g L) (h' : SetAt w b' g' L') :
    Calls Tryd.prog 14 #[.pointer (some ⟨b, 0, none⟩), .pointer (some ⟨b', 0, none⟩)] w fun e w' => e = .returned (.bool (decide (L = L'))) ∧ w.grownBy w' none := by
  have H0 := hide (isNone_at b true w h.made)
  have H0' := hide (isNone_at b' true w h'.made)
  obtain ⟨W, cap, hc, hcap, hcap2, hR, hcells⟩ := h.words
  obtain ⟨W', cap', hc', hcap', hcap2', hR', hcells'⟩ := h'.words
  have hb := h.bound
  have hb' := h'.bound
  by_cases hl : L.length = L'.length
  · have hWW : W'.length = W.length := by rw [hR.len, hR'.len, hl]
    rw [hWW] at hc'
    have heq := fun n => equal_any g g' cap cap' W.length W W' (w.drewN n) rfl hWW hR.copy hcells hcells'
    have hd : decide (W = W') = decide (L = L') := by rw [decide_eq_decide]; exact words_eq hR hR' hl
    rw [hd] at heq
    rw [← hl] at hb'
    generalize decide (L = L') = d at *
    have HE := hide heq
    clear heq hd hcells hcells' hR hR' hcap hcap' hcap2 hcap2' hWW h h'
    go_enter Tryd.func14, Tryd.ntmps14
    go_wp2_with fail
    refine H0.out.mono ?_
    rintro e w' ⟨rfl, rfl⟩
    go_wp2_with fail
    refine H0'.out.mono ?_
    rintro e w' ⟨rfl, rfl⟩
    go_wp2_with fail
    go_quiet ((go_at_call 48; exact Calls.quiet_of (HE.out _)))
    go_wp2
    go_ret
    exact ⟨rfl, grown_drewN _ _ _⟩
  · have hd : decide (L = L') = false := by simp; rintro rfl; exact hl rfl
    rw [hd]
    have hl4 : ¬ (L.length : Int) = (L'.length : Int) := by omega
    have hl2 : decide ((L.length : Int) = (L'.length : Int)) = false := decide_eq_false hl4
    have hl3 : ((L.length : Int) == (L'.length : Int)) = false := by simpa using hl4
    generalize (L.length : Int) = n at *
    generalize (L'.length : Int) = n' at *
    clear hd hcells hcells' hR hR' hcap hcap' hcap2 hcap2' h h' hl
    go_enter Tryd.func14, Tryd.ntmps14
    go_wp2_with fail
    refine H0.out.mono ?_
    rintro e w' ⟨rfl, rfl⟩
    go_wp2_with fail
    refine H0'.out.mono ?_
    rintro e w' ⟨rfl, rfl⟩
    go_wp2_with fail
    go_quiet (fail)
    go_wp2
    go_ret
    exact ⟨rfl, grown_drewN _ _ _⟩

end Go.Proofs.YtajdgkbeenalkaaDoor
