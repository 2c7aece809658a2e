/- The contracts of a set's Copy and of Same. -/
import Derived.Test.YtajdgkbeenalkabDoorBytes
import Derived.Lib.SliceRun
namespace Go.Proofs.YtajdgkbeenalkabDoor
open Go.RowKit
attribute [local go_sem ↓] Go.wp_at_zero Go.wp_at_succ

set_option maxHeartbeats 400000 in
theorem clone_any (g cap : Nat) (W : List Nat) (w : World) (_hcap : W.length ≤ cap) (hlen : W.length ≤ 1024) (hcells : ∀ (j x : Nat), W[j]? = some x → w.cell? ⟨g, j, none⟩ = some (.int .u64 (x : Int))) :
    Calls Tryd.prog 47 #[.slice (some ⟨g, 0, none⟩) W.length cap] w fun e w' => ∃ g' cap' cur, e = .returned (.slice (some ⟨g', 0, none⟩) W.length cap') ∧ w.heap.size ≤ g' ∧ w'.heap[g']? = some (.cells cur 48 (0, 0)) ∧
      W.length ≤ cap' ∧ cap' ≤ maxLen ∧ cur.size = cap' ∧ cur.toList.take W.length = wvals W ∧ w.grownBy w' none := by
  have H := hide hcells
  clear hcells
  have hq := fun w' => Lib.run_eql_slice_nil (P := Tryd.prog) w' 45 48 (some ⟨g, 0, none⟩) W.length cap 0 0 Tryd.underlying45
  obtain ⟨i0, hi, hz0, hz1, hz2⟩ := info_parts Tryd.info48
  go_enter Tryd.func47, Tryd.ntmps47
  go_wp2_with (at_builtin; refine wpList_append_own _ rfl (.tmp 5) (.tmp 6) 45 rfl w.heap.size 48 i0 (.int .u64 0) 1 8 Tryd.underlying45 hi hz0 hz1 hz2 rfl (by decide) (.slice (some ⟨w.heap.size, 0, none⟩) 0 0) 0 [] rfl ?_ ⟨g, 0, none⟩ W.length cap (wvals W) rfl (by simp [wvals]) ?_ ?_ (by unfold maxLen; omega) (by omega) (by simp) ?_)
  · exact World.ownsRow_made w #[] 0 (Nat.le_refl _) (Nat.zero_le _) rfl
  · intro j u hu
    rw [wvals, List.getElem?_map] at hu
    cases hj : W[j]? with
    | none => simp [hj] at hu
    | some x =>
      simp [hj] at hu
      rw [Addr.add_lit, Nat.zero_add, ← hu]
      exact (World.grownBy_alloc w _ none).cell (H.out j x hj) (by simp)
  · intro u hu; rw [wvals, List.mem_map] at hu; obtain ⟨y, _, rfl⟩ := hu; rfl
  · intro v' w' hown hg hnil
    have hgr : w.grownBy w' none := grown_then (World.grownBy_alloc w _ none) hg (fun k e => by cases e; exact Or.inl (Nat.le_refl _))
    obtain ⟨hl, hown⟩ := hown
    rcases hown with ⟨rfl, h0⟩ | ⟨g', cap', cur, rfl, h1, h2, h3, h4, h5, h6⟩
    · exact (hnil rfl).elim
    · have HG := hide (And.intro hgr (And.intro h2 h6))
      clear hgr h2 h6 hg hnil hl H hq
      simp only [Nat.mul_one] at *
      go_wp2
      go_ret
      exact ⟨g', cap', cur, rfl, h1, HG.out.2.1, h3, h4, h5, HG.out.2.2, HG.out.1⟩

theorem Rep.copy {W : List Nat} {L : List Bool} (h : Rep W L) : W.length ≤ 1024 := by have := h.len; have := h.small; omega

set_option maxHeartbeats 400000 in
theorem copy_none (p : Option Addr) (w : World) (h : NoSet w p) : Calls Tryd.prog 24 #[.pointer p] w fun e w' => e = .returned (.pointer none) ∧ w' = w := by
  have H := hide h.is
  clear h
  go_enter Tryd.func24, Tryd.ntmps24
  go_wp2_with fail
  refine H.out.mono ?_
  rintro e w' ⟨rfl, rfl⟩
  go_wp2
  go_ret
  exact ⟨rfl, rfl⟩

set_option maxHeartbeats 1000000 in
theorem copy_any (b g : Nat) (L : List Bool) (w : World) (h : SetAt w b g L) (hw : 0 < w.heap.size) :
    Calls Tryd.prog 24 #[.pointer (some ⟨b, 0, none⟩)] w fun e w' => ∃ b' g', e = .returned (.pointer (some ⟨b', 0, none⟩)) ∧ SetAt w' b' g' L ∧ w.heap.size ≤ b' ∧ w.heap.size ≤ g' ∧ w.grownBy w' none := by
  obtain ⟨W, cap, hc, hcap, hcap2, hR, hcells⟩ := h.words
  have hn := isNone_at b true w h.made
  have hbd := h.bound
  have hW := hR.copy
  have hcl := clone_any g cap W w.drew hcap hW hcells
  have H := hide hR
  have HN := hide hn
  have HC := hide hcl
  clear hcells hn hR h hcl
  go_enter Tryd.func24, Tryd.ntmps24
  go_wp2_with fail
  refine HN.out.mono ?_
  rintro e w' ⟨rfl, rfl⟩
  go_wp2_with fail
  go_region_held3 (fun w' => w'.cell? ⟨b, 1, none⟩ = some (.int .i64 (L.length : Int)) ∧ w'.cell? ⟨b, 2, none⟩ = some (.slice (some ⟨g, 0, none⟩) W.length cap)) (first | exact And.intro hbd hc | assumption | go_keep) ((go_at_call 47; refine HC.out.mono ?_; rintro e w2 ⟨g', cap', cur, rfl, h1, h2, h3, h4, h5, h6, h7⟩; have hk1 := And.intro (h7.cell hbd (by simp)) (h7.cell hc (by simp)); have HH := hide (And.intro h2 (And.intro h6 h7)); clear h2 h6 h7))
  go_wp2
  go_ret
  obtain ⟨h2, h6, h7⟩ := HH.out
  have hg7 : w'.grownBy w2 none := grown_trans (grown_drew w' none) h7
  refine ⟨w2.heap.size, g', rfl, ?_, hg7.size, h1, grown_trans hg7 (World.grownBy_alloc w2 _ none)⟩
  refine SetAt.fresh (W := W) (cap := cap') (cur := cur.toList) (heap_alloc_new w2 _) ?_ h3 h4 (by simpa using h5) h6 H.out (Nat.lt_of_lt_of_le hw h1)
  rw [Below.heap_alloc _ _ _ (row_lt h2), h2]

theorem words_eq {W W' : List Nat} {L L' : List Bool} (h : Rep W L) (h' : Rep W' L') (hl : L.length = L'.length) : W = W' ↔ L = L' := by
  constructor
  · rintro rfl
    apply List.ext_getElem hl
    intro i h1 h2
    have := (h.is i).symm.trans (h'.is i)
    simpa [List.getD_eq_getElem?_getD, h1, h2] using this
  · rintro rfl
    apply List.ext_getElem (h.len.trans h'.len.symm)
    intro j h1 h2
    apply Nat.eq_of_testBit_eq
    intro c
    by_cases hc : c < 64
    · have := (h.is (64 * j + c)).trans (h'.is (64 * j + c)).symm
      have e1 : (64 * j + c) / 64 = j := by omega
      have e2 : (64 * j + c) % 64 = c := by omega
      simpa [mem, e1, e2, List.getD_eq_getElem?_getD, h1, h2] using this
    · have hb := Nat.pow_le_pow_right (n := 2) (by decide) (show 64 ≤ c by omega)
      rw [Nat.testBit_lt_two_pow (Nat.lt_of_lt_of_le (h.word _ (List.getElem_mem h1)) hb), Nat.testBit_lt_two_pow (Nat.lt_of_lt_of_le (h'.word _ (List.getElem_mem h2)) hb)]

end Go.Proofs.YtajdgkbeenalkabDoor
