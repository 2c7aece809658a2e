/- The contract of Copy. -/
import Derived.Test.YtaopcidkgcekdaaOwn
import Derived.Shelf.SlMaps.Clone
namespace Go.Proofs.Ytaopcidkgcekdaa
open Go.RowKit Ap
attribute [local go_sem ↓] Go.wp_at_zero Go.wp_at_succ

theorem row_zero {w : World} {base : Nat} {e : TypeId} {size : Nat} {v : Value} {n : Nat} {xs : List Value} (h : w.ownsRow base e size v n xs) : w.ownsRow 0 e size v n xs :=
  ⟨h.1, h.2.imp id (fun ⟨g, cap, cur, e1, _, e3⟩ => ⟨g, cap, cur, e1, Nat.zero_le _, e3⟩)⟩
set_option maxRecDepth 20000 in
set_option maxHeartbeats 1000000 in
theorem mapsClone_any (b : Nat) (es : Array MapEntry) (clock : Nat) (w : World) (hb : w.heap[b]? = some (.map es clock)) :
    Calls Try.prog 52 #[.map (some b)] w fun e w' => e = .returned (.map (some w.heap.size)) ∧ w' = w.alloc (.map es clock) := by
  have hq := fun w => run_eql_map_nil_sl (P := Try.prog) w 30 3 22 (some b) Try.underlying30
  go_enter Try.func52, Try.ntmps52
  go_wp2
  rw [run_callFunc_extern Try.func53 (by kernel_rfl) (by kernel_rfl) (by kernel_rfl) (e := Extern.MapsClone.clone) (by kernel_rfl), run_maps_clone_sl w 30 hb]
  simp only [Result.andThen]
  rw [Oper.upon_value]
  go_wp2
  rw [run_typeAssert_map_sl _ 30 20 3 22 _ Try.underlying30]
  simp only [Result.andThen]
  rw [Oper.upon_value]
  go_wp2
  go_ret
  exact ⟨rfl, rfl⟩

set_option maxHeartbeats 1000000 in
theorem slicesClone_any (size : Nat) (W : List Wt) (v : Value) (w : World) (hW : W.length ≤ 1000000) (hrow : w.ownsRow 0 71 2 v W.length (wcells size W)) :
    Calls Try.prog 51 #[v] w fun e w' => ∃ ao cap', e = .returned (.slice ao W.length cap') ∧ w'.ownsRow 0 71 2 (.slice ao W.length cap') W.length (wcells size W) ∧ w.grownBy w' none ∧ ∀ i, (Value.slice ao W.length cap').ownBlock = some i → w.heap.size ≤ i := by
  rcases hrow.2 with ⟨rfl, h0⟩ | ⟨g, cap, cur, rfl, h2, h3, h4, h5, h6, h7⟩
  · have hq := fun w' => Lib.run_eql_slice_nil (P := Try.prog) w' 29 71 none 0 0 0 0 Try.underlying29
    have HR := hide (And.intro hrow h0)
    clear hrow h0
    go_enter Try.func51, Try.ntmps51
    go_wp2
    go_ret
    refine ⟨none, 0, ?_, ?_, grown_refl _ _, fun i e => ?_⟩
    · rw [HR.out.2]; rfl
    · have h1 := HR.out.1; rw [HR.out.2] at h1 ⊢; exact h1
    · rw [HR.out.2] at e; cases e
  · have hq := fun w' => Lib.run_eql_slice_nil (P := Try.prog) w' 29 71 (some ⟨g, 0, none⟩) W.length cap 0 0 Try.underlying29
    obtain ⟨i0, hi, hz0, hz1, hz2⟩ := info_parts Try.info71
    have hone : ∀ u ∈ wcells size W, u.oneCell' = true := by
      intro u hu
      simp [wcells] at hu
      obtain ⟨x, _, rfl | rfl⟩ := hu <;> rfl
    have hcell : ∀ j u, (wcells size W)[j]? = some u → (w.alloc (.cells #[] 71)).cell? ((⟨g, 0, none⟩ : Addr).add j) = some u := fun j u hu => (World.grownBy_alloc w _ none).cell (hrow.cells rfl j u hu) (by simp)
    have HH := hide (And.intro hi (And.intro hz0 (And.intro hz1 (And.intro hz2 (And.intro hone hcell)))))
    clear hi hz0 hz1 hz2 hone hcell hrow h2 h3 h4 h5 h6 h7
    go_enter Try.func51, Try.ntmps51
    go_wp2_with (at_builtin; refine wpList_append_own_at _ rfl (.tmp 5) (.tmp 6) 29 rfl w.heap.size 71 i0 (.agg #[.int .i64 0, .slice none 0 0]) 2 32 Try.underlying29 HH.out.1 HH.out.2.1 HH.out.2.2.1 HH.out.2.2.2.1 rfl (by decide) (.slice (some ⟨w.heap.size, 0, none⟩) 0 0) 0 [] rfl (World.ownsRow_made w #[] 0 (Nat.le_refl _) (Nat.zero_le _) rfl) ⟨g, 0, none⟩ W.length cap (wcells size W) rfl (wcells_length _ _) HH.out.2.2.2.2.2 HH.out.2.2.2.2.1 (by unfold maxLen; omega) (by omega) (World.grownBy_alloc w _ none).size ?_)
    intro v' w' hown hg hnil hloc
    have hgr : w.grownBy w' none := grown_then (World.grownBy_alloc w _ none) hg (fun k e => by cases e; exact Or.inl (Nat.le_refl _))
    have hlo : ∀ i, v'.ownBlock = some i → w.heap.size ≤ i := fun i e => (hown.lt i e).1
    rcases hown.2 with ⟨rfl, h0⟩ | ⟨g', cap', cur', rfl, k1, k2, k3, k4, k5, k6⟩
    · exact (hnil rfl).elim
    · have HX := hide (And.intro hown (And.intro hgr hlo))
      clear hown hgr hlo k1 k2 k3 k4 k5 k6 hg hnil hloc hq
      go_wp2
      go_ret
      refine ⟨_, _, rfl, ?_, HX.out.2.1, HX.out.2.2⟩
      exact row_zero HX.out.1

set_option maxHeartbeats 400000 in
theorem copy_none (p : Option Addr) (w : World) (h : NoDisk w p) : Calls Try.prog 46 #[.pointer p] w fun e w' => e = .returned (.pointer none) ∧ w' = w := by
  have H := hide h.is
  clear h
  go_enter Try.func46, Try.ntmps46
  go_wp2_with fail
  refine H.out.mono ?_
  rintro e w' ⟨rfl, rfl⟩
  go_wp2
  go_ret
  exact ⟨rfl, rfl⟩
section
variable {w : World} {k : Dk} {n size : Nat} {D : List Nat} {W : List Wt}
set_option maxRecDepth 20000 in
set_option maxHeartbeats 4000000 in
theorem copy_any (h : DiskAt w k n size D W) : Calls Try.prog 46 #[.pointer (some ⟨k.d, 0, none⟩)] w fun e w' => ∃ k' : Dk, e = .returned (.pointer (some ⟨k'.d, 0, none⟩)) ∧ DiskAt w' k' n size D W ∧ (∀ i, k'.own i → w.heap.size ≤ i) ∧ w.grownBy w' none := by
  have H := hide h.is
  have HD := hide h
  have hS := And.intro h.c1 (And.intro h.c2 (And.intro h.c3 h.c4))
  have HF : Hid (∀ w2, w.grownBy w2 none → (w2.cell? ⟨k.d, 1, none⟩ = some (.int .i64 (size : Int)) ∧ w2.cell? ⟨k.d, 2, none⟩ = some (.slice (some ⟨k.db, 0, none⟩) (n * size) (n * size)) ∧ w2.cell? ⟨k.d, 3, none⟩ = some k.vw ∧ w2.cell? ⟨k.d, 4, none⟩ = some (.map (some k.mb)))) := fun w2 hg => by
    have h := HD.out.grown hg; exact ⟨h.c1, h.c2, h.c3, h.c4⟩
  have HC : Hid (∀ w2, w.grownBy w2 none → Calls Try.prog 43 #[.slice (some ⟨k.db, 0, none⟩) (n * size) (n * size)] w2 fun e w' => e = .returned (.slice (some ⟨w2.heap.size, 0, none⟩) (n * size) (n * size)) ∧ w'.heap[w2.heap.size]? = some (.cells (bv D).toArray 5 (0, 0)) ∧ w2.grownBy w' none) := fun w2 hg =>
    copied_any (some ⟨k.db, 0, none⟩) (n * size) (n * size) D w2 (at_row (HD.out.grown hg).dur) HD.out.len (by have := HD.out.shape.all; omega)
  have HS : Hid (∀ w2, w.grownBy w2 none → Calls Try.prog 51 #[k.vw] w2 fun e w' => ∃ ao cap', e = .returned (.slice ao W.length cap') ∧ w'.ownsRow 0 71 2 (.slice ao W.length cap') W.length (wcells size W) ∧ w2.grownBy w' none ∧ ∀ i, (Value.slice ao W.length cap').ownBlock = some i → w2.heap.size ≤ i) := fun w2 hg =>
    slicesClone_any size W k.vw w2 HD.out.few (HD.out.grown hg).row
  obtain ⟨es, clock, hm⟩ := h.map.block
  have HM : Hid (∀ w2, w.grownBy w2 none → Calls Try.prog 52 #[.map (some k.mb)] w2 fun e w' => e = .returned (.map (some w2.heap.size)) ∧ w' = w2.alloc (.map es clock)) := fun w2 hg =>
    mapsClone_any k.mb es clock w2 ((hg.block _ (row_lt hm) (by simp)).trans hm)
  have HB := hide hm
  clear h hm
  obtain ⟨m, hm⟩ : ∃ m, m = n * size := ⟨_, rfl⟩
  rw [← hm] at hS HF HC
  have HMm := hide hm.symm
  clear hm
  go_enter Try.func46, Try.ntmps46
  go_wp2_with fail
  refine H.out.mono ?_
  rintro e w' ⟨rfl, rfl⟩
  go_wp2_with fail
  go_region_held3 (fun w2 => w2.cell? ⟨k.d, 1, none⟩ = some (.int .i64 (size : Int)) ∧ w2.cell? ⟨k.d, 2, none⟩ = some (.slice (some ⟨k.db, 0, none⟩) m m) ∧ w2.cell? ⟨k.d, 3, none⟩ = some k.vw ∧ w2.cell? ⟨k.d, 4, none⟩ = some (.map (some k.mb))) (first | assumption | go_keep) (first
    | (go_at_call 43; refine (HC.out _ (grown_drew _ _)).mono ?_; rintro e w2 ⟨rfl, a2, g2'⟩; have g2 := grown_trans (grown_drew w' none) g2'; clear g2'; have hS2 := HF.out w2 g2; have A2 := hide a2; clear a2)
    | (go_at_call 51; refine (HS.out _ g2).mono ?_; rintro e w3 ⟨ao, cap', rfl, a3, g3', l3⟩; have g3 := grown_trans g2 g3'; have hS3 := HF.out w3 g3; have A3 := hide (And.intro a3 (And.intro g3' l3)); clear a3 g3' l3)
    | (go_at_call 52; refine (HM.out _ g3).mono ?_; rintro e w4 ⟨rfl, e4⟩; have g4 : w'.grownBy w4 none := e4 ▸ grown_trans g3 (World.grownBy_alloc _ _ none); have hS4 := HF.out w4 g4; have A4 := hide e4; clear e4))
  go_wp2
  go_ret
  have e4 := A4.out
  have g34 : w3.grownBy w4 none := e4 ▸ World.grownBy_alloc w3 _ none
  have g45 := World.grownBy_alloc w4 (.cells #[.bool true, .int .i64 (size : Int), .slice (some ⟨w'.heap.size, 0, none⟩) m m, .slice ao W.length cap', .map (some w3.heap.size)] 32) none
  have hm4 : w4.heap[w3.heap.size]? = some (.map es clock) := by rw [e4]; exact heap_alloc_new w3 _
  have hd2 := A2.out
  have g23 := A3.out.2.1
  have hlt2 : w'.heap.size < w2.heap.size := row_lt hd2
  have s23 := g23.size
  have s34 := g34.size
  have hD2 := HD.out
  refine ⟨⟨w4.heap.size, w'.heap.size, .slice ao W.length cap', w3.heap.size⟩, rfl, ⟨HD.out.shape, ?_, ?_, HD.out.len, ?_, ?_, ?_, HD.out.few⟩, ?_, grown_trans g4 g45⟩
  · rw [HMm.out]; exact heap_alloc_new w4 _
  · show _ = _
    exact (g45.block w'.heap.size (by omega) (by simp)).trans ((g34.block w'.heap.size (by omega) (by simp)).trans ((g23.block _ hlt2 (by simp)).trans hd2))
  · exact row_same A3.out.1 (fun g hg => ((grown_trans g34 g45).block g (A3.out.1.lt g hg).2 (by simp)))
  · exact HD.out.map.moved ((g45.block _ (row_lt hm4) (by simp)).trans (hm4.trans HB.out.symm))
  · intro x hx
    obtain ⟨a1, a2, a3, a4⟩ := HD.out.waits x hx
    exact ⟨a1, a2, Nat.ne_of_lt (row_lt a4), ((grown_trans g4 g45).block _ (row_lt a4) (by simp)).trans a4⟩
  · rintro i (e | e | e | e)
    · have e : i = w4.heap.size := e
      omega
    · have e : i = w'.heap.size := e
      omega
    · have := A3.out.2.2 i e
      omega
    · have e : i = w3.heap.size := e
      omega
end
end Go.Proofs.Ytaopcidkgcekdaa
