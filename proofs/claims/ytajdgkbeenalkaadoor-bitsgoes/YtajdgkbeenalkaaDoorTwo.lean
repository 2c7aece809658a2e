/- The contract of the statements' own 'one', of a set that is there. -/
import Derived.Test.YtajdgkbeenalkaaDoorOne
namespace Go.Proofs.YtajdgkbeenalkaaDoor
open Go.RowKit Go.Shelf
attribute [local go_sem ↓] Go.wp_at_zero Go.wp_at_succ

theorem intsV_cast' (xs : List Nat) : intsV xs = (xs.map fun (x : Nat) => (x : Int)).map (Value.int .i64) := by simp [intsV]

/-- Nothing that lay has turned but blocks g and r. -/
structure Grown2 (w w' : World) (g r : Nat) : Prop where
  os : w'.os = w.os
  tape : w'.tape = w.tape
  output : w'.output = w.output
  size : w.heap.size ≤ w'.heap.size
  block : ∀ k, k < w.heap.size → k ≠ g → k ≠ r → w'.heap[k]? = w.heap[k]?
theorem Grown2.of {w w' : World} {g r : Nat} {row : Option Nat} (h : w.grownBy w' row) (hr : ∀ k, row = some k → k = g ∨ k = r ∨ w.heap.size ≤ k) : Grown2 w w' g r :=
  ⟨h.os, h.tape, h.output, h.size, fun k hk h1 h2 => h.block k hk (fun e => by rcases hr k e.symm with h3 | h3 | h3 <;> omega)⟩
theorem Grown2.trans {a b c : World} {g r : Nat} (h : Grown2 a b g r) (k : Grown2 b c g r) : Grown2 a c g r :=
  ⟨k.os.trans h.os, k.tape.trans h.tape, k.output.trans h.output, Nat.le_trans h.size k.size, fun i hi h1 h2 => (k.block i (Nat.lt_of_lt_of_le hi h.size) h1 h2).trans (h.block i hi h1 h2)⟩
theorem Grown2.none {w w' : World} (h : w.grownBy w' none) (g r : Nat) : Grown2 w w' g r := Grown2.of h (fun k e => by cases e)

/-- The set and the document's set are both L. -/
structure Both (w : World) (b g d r : Nat) (L : List Bool) : Prop where
  set : SetAt w b g L
  ref : RefAt w d r true L
  tab : Tab w
theorem Both.kept {w w' : World} {b g d r : Nat} {L : List Bool} (h : Both w b g d r L) (hg : w.grownBy w' none) : Both w' b g d r L :=
  ⟨h.set.kept hg (by simp) (by simp), h.ref.grown hg, h.tab.kept hg (by simp)⟩
theorem setF_putF (L : List Bool) (i : Int) : setF true L i true = putF L i := by
  unfold setF putF
  by_cases h : 0 ≤ i ∧ i < (L.length : Int)
  · rw [if_pos ⟨rfl, h⟩, if_pos h]
  · rw [if_neg (fun c => h c.2), if_neg h]

set_option maxRecDepth 100000 in
set_option maxHeartbeats 2000000 in
theorem one_put (b g d r : Nat) (L : List Bool) (Do On I : Int) (w : World) (h : Both w b g d r L) (hgr : g ≠ r) (hbr : b ≠ r) (hgd : g ≠ d) (hr0 : r ≠ 0) (hrl : r < w.heap.size) (hk : Do % 11 = 0) :
    Calls Tryd.prog 13 #[.pointer (some ⟨b, 0, none⟩), .pointer (some ⟨d, 0, none⟩), .agg #[.int .i64 Do, .int .i64 On, .int .i64 I]] w fun e w' => e = .returned (.bool true) ∧ Both w' b g d r (putF L I) ∧ Grown2 w w' g r := by
  have H := hide h
  have hgl := h.set.lt
  have hg0 : g ≠ 0 := by obtain ⟨_, _, _, _, _, _, _, _, _, _, h0⟩ := h.set; omega
  clear h
  go_enter Tryd.func13, Tryd.ntmps13
  go_wp2_with fail
  refine (pick_any Do 11 11 _ rfl (by decide) (by decide)).mono ?_
  rintro e w1 ⟨rfl, rfl⟩
  rw [show ((11 : Nat) : Int) = 11 from rfl, hk]
  have hG0 : w.grownBy (w.alloc (Obj.cells #[Value.int IntKind.i64 Do, Value.int IntKind.i64 On, Value.int IntKind.i64 I] 37)) none := World.grownBy_alloc w _ none
  have hC2 : (w.alloc (Obj.cells #[Value.int IntKind.i64 Do, Value.int IntKind.i64 On, Value.int IntKind.i64 I] 37)).cell? ⟨w.heap.size, 2, none⟩ = some (.int .i64 I) := by
    rw [cell_row (heap_alloc_new w (Obj.cells [Value.int IntKind.i64 Do, Value.int IntKind.i64 On, Value.int IntKind.i64 I].toArray 37))]; rfl
  have hsz : w.heap.size < (w.alloc (Obj.cells #[Value.int IntKind.i64 Do, Value.int IntKind.i64 On, Value.int IntKind.i64 I] 37)).heap.size := by simp
  generalize w.alloc (Obj.cells #[Value.int IntKind.i64 Do, Value.int IntKind.i64 On, Value.int IntKind.i64 I] 37) = w0 at *
  have hB0 : Both w0.drew b g d r L := H.out.kept (grown_trans hG0 (grown_drew _ _))
  have hG : Grown2 w w0.drew g r := Grown2.none (grown_trans hG0 (grown_drew _ _)) g r
  have hpg : w.heap.size ≠ g := by omega
  have hpr : w.heap.size ≠ r := by omega
  have HB := hide (And.intro hB0 hG)
  clear hB0 hG hG0 hk
  generalize w.heap.size = B at *
  have ef : rsetF true L.length I = mayF L.length I := rfl
  go_wp2_with fail
  go_region_held3 (fun w' => w'.cell? ⟨B, 2, none⟩ = some (.int .i64 I)) (first | assumption | go_keep)
    ((first
      | (go_at_call 24; refine (put_int b g L I _ HB.out.1.set).mono ?_; rintro e wA ⟨rfl, hSA, hgA⟩; have hcA := hgA.cell (a := ⟨B, 2, none⟩) (v := .int .i64 I) ‹_› (by simp; omega))
      | (go_at_call 37; refine (rput_any d r true L I _ (HB.out.1.ref.kept hgA (by simp; omega) (by simp; omega))).mono ?_; rintro e wB ⟨rfl, hRB, hgB⟩; have hcB := hgB.cell (a := ⟨B, 2, none⟩) (v := .int .i64 I) ‹_› (by simp; omega))))
  have HF : Hid (Both wB b g d r (putF L I) ∧ Grown2 w wB g r) := by
    refine ⟨⟨hSA.kept hgB (by simp; omega) (by simp; omega), by rw [← setF_putF]; exact hRB, (HB.out.1.tab.kept hgA (by simp; omega)).kept hgB (by simp; omega)⟩, ?_⟩
    exact HB.out.2.trans ((Grown2.of hgA (fun k e => by cases e; exact Or.inl rfl)).trans (Grown2.of hgB (fun k e => by cases e; exact Or.inr (Or.inl rfl))))
  go_wp2
  go_ret
  exact ⟨rfl, HF.out.1, HF.out.2⟩

theorem drop_int (b g : Nat) (L : List Bool) (i : Int) (w : World) (h : SetAt w b g L) :
    Calls Tryd.prog 34 #[.pointer (some ⟨b, 0, none⟩), .int .i64 i] w fun e w' => e = .returned (.int .i64 (mayF L.length i)) ∧ SetAt w' b g (setF true L i false) ∧ w.grownBy w' (some g) := by
  by_cases hi : 0 ≤ i ∧ i < (L.length : Int)
  · obtain ⟨k, rfl⟩ := Int.eq_ofNat_of_zero_le hi.1
    refine (drop_any b g L k w h (by omega)).mono ?_
    rintro e w' ⟨rfl, h1, h2⟩
    refine ⟨by simp only [mayF]; rw [if_pos hi], ?_, h2⟩
    unfold setF
    rw [if_pos ⟨rfl, hi⟩]
    exact h1
  · have hm := may_any b g L i w h
    have e2 : mayF L.length i = 2 := by simp only [mayF]; rw [if_neg hi]
    rw [e2] at hm ⊢
    refine (drop_bad _ i 2 w (by decide) hm).mono ?_
    rintro e w' ⟨rfl, rfl⟩
    refine ⟨rfl, ?_, grown_refl _ _⟩
    unfold setF
    rw [if_neg (fun c => hi c.2)]
    exact h

set_option maxRecDepth 100000 in
set_option maxHeartbeats 2000000 in
theorem one_drop (b g d r : Nat) (L : List Bool) (Do On I : Int) (w : World) (h : Both w b g d r L) (hgr : g ≠ r) (hbr : b ≠ r) (hgd : g ≠ d) (hr0 : r ≠ 0) (hrl : r < w.heap.size) (hk : Do % 11 = 1) :
    Calls Tryd.prog 13 #[.pointer (some ⟨b, 0, none⟩), .pointer (some ⟨d, 0, none⟩), .agg #[.int .i64 Do, .int .i64 On, .int .i64 I]] w fun e w' => e = .returned (.bool true) ∧ Both w' b g d r (setF true L I false) ∧ Grown2 w w' g r := by
  have H := hide h
  have hgl := h.set.lt
  have hg0 : g ≠ 0 := by obtain ⟨_, _, _, _, _, _, _, _, _, _, h0⟩ := h.set; omega
  clear h
  go_enter Tryd.func13, Tryd.ntmps13
  go_wp2_with fail
  refine (pick_any Do 11 11 _ rfl (by decide) (by decide)).mono ?_
  rintro e w1 ⟨rfl, rfl⟩
  rw [show ((11 : Nat) : Int) = 11 from rfl, hk]
  have hG0 : w.grownBy (w.alloc (Obj.cells #[Value.int IntKind.i64 Do, Value.int IntKind.i64 On, Value.int IntKind.i64 I] 37)) none := World.grownBy_alloc w _ none
  have hC2 : (w.alloc (Obj.cells #[Value.int IntKind.i64 Do, Value.int IntKind.i64 On, Value.int IntKind.i64 I] 37)).cell? ⟨w.heap.size, 2, none⟩ = some (.int .i64 I) := by
    rw [cell_row (heap_alloc_new w (Obj.cells [Value.int IntKind.i64 Do, Value.int IntKind.i64 On, Value.int IntKind.i64 I].toArray 37))]; rfl
  have hsz : w.heap.size < (w.alloc (Obj.cells #[Value.int IntKind.i64 Do, Value.int IntKind.i64 On, Value.int IntKind.i64 I] 37)).heap.size := by simp
  generalize w.alloc (Obj.cells #[Value.int IntKind.i64 Do, Value.int IntKind.i64 On, Value.int IntKind.i64 I] 37) = w0 at *
  have hB0 : Both w0.drew b g d r L := H.out.kept (grown_trans hG0 (grown_drew _ _))
  have hG : Grown2 w w0.drew g r := Grown2.none (grown_trans hG0 (grown_drew _ _)) g r
  have hpg : w.heap.size ≠ g := by omega
  have hpr : w.heap.size ≠ r := by omega
  have HB := hide (And.intro hB0 hG)
  clear hB0 hG hG0 hk
  generalize w.heap.size = B at *
  have ef : rsetF true L.length I = mayF L.length I := rfl
  go_wp2_with fail
  go_region_held3 (fun w' => w'.cell? ⟨B, 2, none⟩ = some (.int .i64 I)) (first | assumption | go_keep)
    ((first
      | (go_at_call 34; refine (drop_int b g L I _ HB.out.1.set).mono ?_; rintro e wA ⟨rfl, hSA, hgA⟩; have hcA := hgA.cell (a := ⟨B, 2, none⟩) (v := .int .i64 I) ‹_› (by simp; omega))
      | (go_at_call 38; refine (rdrop_any d r true L I _ (HB.out.1.ref.kept hgA (by simp; omega) (by simp; omega))).mono ?_; rintro e wB ⟨rfl, hRB, hgB⟩; have hcB := hgB.cell (a := ⟨B, 2, none⟩) (v := .int .i64 I) ‹_› (by simp; omega))))
  have HF : Hid (Both wB b g d r (setF true L I false) ∧ Grown2 w wB g r) := by
    refine ⟨⟨hSA.kept hgB (by simp; omega) (by simp; omega), hRB, (HB.out.1.tab.kept hgA (by simp; omega)).kept hgB (by simp; omega)⟩, ?_⟩
    exact HB.out.2.trans ((Grown2.of hgA (fun k e => by cases e; exact Or.inl rfl)).trans (Grown2.of hgB (fun k e => by cases e; exact Or.inr (Or.inl rfl))))
  go_wp2
  go_ret
  exact ⟨rfl, HF.out.1, HF.out.2⟩

set_option maxHeartbeats 1000000 in
theorem has_in (b g : Nat) (L : List Bool) (i : Nat) (w : World) (h : SetAt w b g L) (hi : i < L.length) :
    Calls Tryd.prog 25 #[.pointer (some ⟨b, 0, none⟩), .int .i64 (i : Int)] w fun e w' => e = .returned (.bool (L.getD i false)) ∧ ∃ k, w' = w.drewN k := by
  obtain ⟨W, cap, hc, hcap, hcap2, hR, hcells⟩ := h.words
  have hsm := h.small
  have hw := hR.word_lt hi
  have hmay := fun n => may_any b g L (i : Int) (w.drewN n) (h.drewN n)
  rw [show mayF L.length (i : Int) = 0 by simp [mayF]; omega] at hmay
  have hq : IntKind.i64.wrap ((i : Int) / 64) = ((i / 64 : Nat) : Int) := by rw [wrap_i64_small _ (by omega) (by omega)]; omega
  have hbt := fun n => bit_any i (w.drewN n) (by omega)
  have hcell := hcells (i / 64) (W.getD (i / 64) 0) (by rw [List.getD_eq_getElem?_getD, List.getElem?_eq_getElem hw]; rfl)
  have hlt := hR.getD_lt (i / 64)
  have hres : L.getD i false = (W.getD (i / 64) 0).testBit (i % 64) := (hR.is i).symm
  rw [hres, ← bit_ne]
  generalize W.getD (i / 64) 0 = x at *
  generalize i / 64 = q at *
  have hand := bits_and_u64_nat x (2 ^ (i % 64)) hlt (Nat.pow_lt_pow_right (a := 2) (by decide) (m := i % 64) (n := 64) (by omega))
  have HM := hide hmay
  have HB := hide hbt
  clear hmay hbt hcells hres hR h
  generalize x &&& 2 ^ (i % 64) = y at *
  generalize 2 ^ (i % 64) = m at *
  have hw1 : (0 : Int) ≤ (q : Int) := by omega
  have hw2 : (q : Int) < (W.length : Int) := by omega
  go_enter Tryd.func25, Tryd.ntmps25
  go_wp2_with fail
  go_quiet (first | (go_at_call 53; exact Calls.quiet_of_same (HM.out _)) | (go_at_call 54; exact Calls.quiet_of_same (HB.out _)))
  go_wp2
  go_ret
  exact ⟨by rw [ne_int]; rfl, _, rfl⟩

set_option maxHeartbeats 400000 in
theorem has_out (p : Option Addr) (i c : Int) (w : World) (hc : c ≠ 0) (hm : ∀ n, Calls Tryd.prog 53 #[.pointer p, .int .i64 i] (w.drewN n) fun e w' => e = .returned (.int .i64 c) ∧ w' = w.drewN n) :
    Calls Tryd.prog 25 #[.pointer p, .int .i64 i] w fun e w' => e = .returned (.bool false) ∧ ∃ k, w' = w.drewN k := by
  have HM := hide hm
  clear hm
  have hd : decide (c = 0) = false := by simpa using hc
  go_enter Tryd.func25, Tryd.ntmps25
  go_wp2_with fail
  go_quiet ((go_at_call 53; exact Calls.quiet_of_same (HM.out _)))
  go_wp2
  go_ret
  exact ⟨rfl, _, rfl⟩

/-- Has, quiet. -/
theorem has_quiet (b g : Nat) (L : List Bool) (i : Int) (w : World) (h : SetAt w b g L) :
    Calls Tryd.prog 25 #[.pointer (some ⟨b, 0, none⟩), .int .i64 i] w fun e w' => e = .returned (.bool (decide (0 ≤ i) && L.getD i.toNat false)) ∧ ∃ k, w' = w.drewN k := by
  by_cases hi : 0 ≤ i ∧ i < (L.length : Int)
  · obtain ⟨k, rfl⟩ := Int.eq_ofNat_of_zero_le hi.1
    refine (has_in b g L k w h (by omega)).mono ?_
    rintro e w' ⟨rfl, h1⟩
    refine ⟨?_, h1⟩
    simp
  · have hm := fun n => may_any b g L i (w.drewN n) (h.drewN n)
    have e2 : mayF L.length i = 2 := by simp only [mayF]; rw [if_neg hi]
    rw [e2] at hm
    refine (has_out _ i 2 w (by decide) hm).mono ?_
    rintro e w' ⟨rfl, h1⟩
    refine ⟨?_, h1⟩
    by_cases h0 : 0 ≤ i
    · rw [getD_out L i.toNat (by omega)]; simp
    · simp [h0]

set_option maxRecDepth 100000 in
set_option maxHeartbeats 2000000 in
theorem one_asks (b g d r : Nat) (L : List Bool) (Do On I : Int) (w : World) (h : Both w b g d r L) (hk0 : Do % 11 ≠ 0) (hk1 : Do % 11 ≠ 1) :
    Calls Tryd.prog 13 #[.pointer (some ⟨b, 0, none⟩), .pointer (some ⟨d, 0, none⟩), .agg #[.int .i64 Do, .int .i64 On, .int .i64 I]] w fun e w' => e = .returned (.bool true) ∧ w.grownBy w' none := by
  have H := hide h
  have hsm := h.set.small
  have hal := allL_length L
  have hfl : (flat (gapsL L)).length ≤ 131072 := by rw [flat_length]; have := gapsL_length L; omega
  clear h
  go_enter Tryd.func13, Tryd.ntmps13
  go_wp2_with fail
  refine (pick_any Do 11 11 _ rfl (by decide) (by decide)).mono ?_
  rintro e w1 ⟨rfl, rfl⟩
  rw [show ((11 : Nat) : Int) = 11 from rfl]
  have hG0 : w.grownBy (w.alloc (Obj.cells #[Value.int IntKind.i64 Do, Value.int IntKind.i64 On, Value.int IntKind.i64 I] 37)) none := World.grownBy_alloc w _ none
  have hC2 : (w.alloc (Obj.cells #[Value.int IntKind.i64 Do, Value.int IntKind.i64 On, Value.int IntKind.i64 I] 37)).cell? ⟨w.heap.size, 2, none⟩ = some (.int .i64 I) := by
    rw [cell_row (heap_alloc_new w (Obj.cells [Value.int IntKind.i64 Do, Value.int IntKind.i64 On, Value.int IntKind.i64 I].toArray 37))]; rfl
  generalize w.alloc (Obj.cells #[Value.int IntKind.i64 Do, Value.int IntKind.i64 On, Value.int IntKind.i64 I] 37) = w0 at *
  have HG := hide (And.intro hG0 (H.out.kept hG0))
  have hth := HG.out.2.ref.there
  obtain ⟨dao, dcap, hlen, hdn, hdat⟩ := HG.out.2.ref.bools
  clear hG0 H hdn hdat
  generalize w.heap.size = B at *
  obtain ⟨rn, hrn⟩ := Seek.exists L true I.toNat
  obtain ⟨rf, hrf⟩ := Seek.exists L false I.toNat
  have HSK := hide (And.intro hrn hrf)
  clear hrn hrf
  have hnx : Hid (∀ n, Calls Tryd.prog 32 #[.pointer (some ⟨b, 0, none⟩), .int .i64 I] (w0.drewN n) fun e w' => e = .returned (.int .i64 rn) ∧ w' = w0.drewN n) := fun n => (next_any b g L I _ (HG.out.2.set.kept (grown_drewN _ _ none) (by simp) (by simp)) (HG.out.2.tab.kept (grown_drewN _ _ none) (by simp))).mono (by rintro e w' ⟨q, rfl, hs, rfl⟩; rw [hs.uniq HSK.out.1]; exact ⟨rfl, rfl⟩)
  have hrx : Hid (∀ n, Calls Tryd.prog 40 #[.pointer (some ⟨d, 0, none⟩), .int .i64 I] (w0.drewN n) fun e w' => e = .returned (.int .i64 rn) ∧ w' = w0.drewN n) := fun n => (rnext_any d r true L I _ (HG.out.2.ref.grown (grown_drewN _ _ _))).mono (by rintro e w' ⟨q, rfl, hs, rfl⟩; rw [hs.uniq HSK.out.1]; exact ⟨rfl, rfl⟩)
  have hfx : Hid (∀ n, Calls Tryd.prog 33 #[.pointer (some ⟨b, 0, none⟩), .int .i64 I] (w0.drewN n) fun e w' => e = .returned (.int .i64 rf) ∧ w' = w0.drewN n) := fun n => (free_any b g L I _ (HG.out.2.set.kept (grown_drewN _ _ none) (by simp) (by simp)) (HG.out.2.tab.kept (grown_drewN _ _ none) (by simp))).mono (by rintro e w' ⟨q, rfl, hs, rfl⟩; rw [hs.uniq HSK.out.2]; exact ⟨rfl, rfl⟩)
  have hrfx : Hid (∀ n, Calls Tryd.prog 41 #[.pointer (some ⟨d, 0, none⟩), .int .i64 I] (w0.drewN n) fun e w' => e = .returned (.int .i64 rf) ∧ w' = w0.drewN n) := fun n => (rfree_any d r true L I _ (HG.out.2.ref.grown (grown_drewN _ _ _))).mono (by rintro e w' ⟨q, rfl, hs, rfl⟩; rw [hs.uniq HSK.out.2]; exact ⟨rfl, rfl⟩)
  rcases pick11 Do with hk | hk | hk | hk | hk | hk | hk | hk | hk | hk | hk
  · exact absurd hk hk0
  · exact absurd hk hk1
  all_goals rw [hk]; clear hk hk0 hk1
  · -- Has
    go_wp2_with fail
    go_quiet (first | (go_at_call 25; exact Calls.quiet_of (has_quiet b g L I _ (HG.out.2.set.kept (grown_drewN _ _ none) (by simp) (by simp)))) | (go_at_call 39; exact Calls.quiet_of_same (rhas_any d r true L I _ (HG.out.2.ref.grown (grown_drewN _ _ _)))))
    go_wp2
    go_ret
    exact ⟨rfl, grown_trans HG.out.1 (grown_drewN _ _ _)⟩
  · -- Next
    go_wp2_with fail
    go_quiet (first | (go_at_call 32; exact Calls.quiet_of_same (hnx.out _)) | (go_at_call 40; exact Calls.quiet_of_same (hrx.out _)))
    go_wp2
    go_ret
    exact ⟨rfl, grown_trans HG.out.1 (grown_drewN _ _ _)⟩
  · -- Free
    go_wp2_with fail
    go_quiet (first | (go_at_call 33; exact Calls.quiet_of_same (hfx.out _)) | (go_at_call 41; exact Calls.quiet_of_same (hrfx.out _)))
    go_wp2
    go_ret
    exact ⟨rfl, grown_trans HG.out.1 (grown_drewN _ _ _)⟩
  · -- Count and Bound
    go_wp2_with fail
    go_quiet (first | (go_at_call 28; exact Calls.quiet_of_same (count_any b g L _ (HG.out.2.set.kept (grown_drewN _ _ none) (by simp) (by simp)))) | (go_at_call 42; exact Calls.quiet_of_same (rcount_any d r true L _ (HG.out.2.ref.grown (grown_drewN _ _ _)))) | (go_at_call 43; exact Calls.quiet_of_same (bound_any b g L _ (HG.out.2.set.kept (grown_drewN _ _ none) (by simp) (by simp)))))
    go_wp2
    go_ret
    exact ⟨rfl, grown_trans HG.out.1 (grown_drewN _ _ _)⟩
  · -- All
    go_wp2_with fail
    refine (all_any _ L w0 (Or.inl ⟨b, g, rfl, HG.out.2.set⟩) HG.out.2.tab hsm).mono ?_
    rintro e w1 ⟨v, rfl, hV, hg1⟩
    have H1 := hide (And.intro hV hg1)
    clear hV hg1
    go_wp2_with fail
    refine (told_any v L w1 H1.out.1).mono ?_
    rintro e w2 ⟨sl, rfl, hown, hg2⟩
    obtain ⟨a1, c1, rfl, _, _, _, hat, _, _⟩ := own_at hown
    rw [intsV_cast'] at hat
    have H2 := hide (And.intro hat (grown_trans H1.out.2 hg2))
    clear hat hown hg2 H1
    go_wp2_with fail
    refine (rall_any d r true L w2 (HG.out.2.ref.grown H2.out.2)).mono ?_
    rintro e w3 ⟨sl, rfl, hown, hg3⟩
    obtain ⟨a2, c2, rfl, _, _, _, hat, _, _⟩ := own_at hown
    rw [intsV_cast'] at hat
    have H3 := hide (And.intro (H2.out.1.grown hg3) (And.intro hat (grown_trans H2.out.2 hg3)))
    clear hat hown hg3
    go_wp2_with fail
    refine (sameInts_eq a1 a2 (allL L).length c1 c2 ((allL L).map fun (x : Nat) => (x : Int)) w3 (by simp) H3.out.1 H3.out.2.1 (by omega)).mono ?_
    rintro e w4 ⟨rfl, hg4⟩
    have H4 := hide (grown_trans HG.out.1 (grown_trans H3.out.2.2 hg4))
    clear hg4
    go_wp2
    go_ret
    exact ⟨rfl, H4.out⟩
  · -- Gaps
    go_wp2_with fail
    refine (gaps_any _ L w0 (Or.inl ⟨b, g, rfl, HG.out.2.set⟩) HG.out.2.tab hsm).mono ?_
    rintro e w1 ⟨v, rfl, hV, hg1⟩
    have H1 := hide (And.intro hV hg1)
    clear hV hg1
    go_wp2_with fail
    refine (pairs_any v L w1 H1.out.1).mono ?_
    rintro e w2 ⟨sl, rfl, hown, hg2⟩
    obtain ⟨a1, c1, rfl, _, _, _, hat, _, _⟩ := own_at hown
    rw [intsV_cast'] at hat
    have H2 := hide (And.intro hat (grown_trans H1.out.2 hg2))
    clear hat hown hg2 H1
    go_wp2_with fail
    refine (rgaps_any d r true L w2 (HG.out.2.ref.grown H2.out.2)).mono ?_
    rintro e w3 ⟨sl, rfl, hown, hg3⟩
    obtain ⟨a2, c2, rfl, _, _, _, hat, _, _⟩ := own_at hown
    rw [intsV_cast'] at hat
    have H3 := hide (And.intro (H2.out.1.grown hg3) (And.intro hat (grown_trans H2.out.2 hg3)))
    clear hat hown hg3
    go_wp2_with fail
    refine (sameInts_eq a1 a2 (flat (gapsL L)).length c1 c2 ((flat (gapsL L)).map fun (x : Nat) => (x : Int)) w3 (by simp) H3.out.1 H3.out.2.1 (by omega)).mono ?_
    rintro e w4 ⟨rfl, hg4⟩
    have H4 := hide (grown_trans HG.out.1 (grown_trans H3.out.2.2 hg4))
    clear hg4
    go_wp2
    go_ret
    exact ⟨rfl, H4.out⟩
  · -- Bytes
    go_wp2_with fail
    refine (bytes_any b g L w0 HG.out.2.set).mono ?_
    rintro e w1 ⟨rfl, hrow, hg1⟩
    have H1 := hide (And.intro (atV_row hrow) hg1)
    clear hrow hg1
    go_wp2_with fail
    refine (rbytes_any d r true L w1 (HG.out.2.ref.grown H1.out.2)).mono ?_
    rintro e w2 ⟨rfl, hrow, hg2⟩
    have H2 := hide (And.intro (H1.out.1.grown hg2) (And.intro (atV_row hrow) (grown_trans H1.out.2 hg2)))
    clear hrow hg2 H1
    go_wp2_with fail
    refine (sameBytes_eq _ _ ((L.length + 7) / 8) _ _ (bytesL L) w2 (bytesL_length L) H2.out.1 H2.out.2.1 (by omega)).mono ?_
    rintro e w4 ⟨rfl, hg4⟩
    have H4 := hide (grown_trans HG.out.1 (grown_trans H2.out.2.2 hg4))
    clear hg4
    go_wp2
    go_ret
    exact ⟨rfl, H4.out⟩
  · -- Same
    have hs1 := same_any b g b g L L w0.drew (HG.out.2.set.kept (grown_drew _ none) (by simp) (by simp)) (HG.out.2.set.kept (grown_drew _ none) (by simp) (by simp))
    rw [decide_eq_true rfl] at hs1
    have HS := hide hs1
    clear hs1
    go_wp2_with fail
    go_region_held3 (fun w' => w'.cell? ⟨d, 0, none⟩ = some (.bool true)) (first | assumption | go_keep) ((go_at_call 14; refine HS.out.mono ?_; rintro e wA ⟨rfl, hgA⟩; have hcA := hgA.cell (a := ⟨d, 0, none⟩) (v := .bool true) ‹_› (by simp)))
    have HF := hide (grown_trans HG.out.1 (grown_trans (grown_drew w0 none) hgA))
    go_wp2
    go_ret
    exact ⟨rfl, HF.out⟩
  · -- Copy
    have HS := hide (copy_any b g L w0.drew (HG.out.2.set.kept (grown_drew _ none) (by simp) (by simp)) (HG.out.2.tab.kept (grown_drew _ none) (by simp)).lt)
    go_wp2_with fail
    go_region_held3 (fun w' => w'.cell? ⟨d, 0, none⟩ = some (.bool true)) (first | assumption | go_keep) ((go_at_call 16; refine HS.out.mono ?_; rintro e wA ⟨bA, gA, rfl, _, _, _, hgA⟩; have hcA := hgA.cell (a := ⟨d, 0, none⟩) (v := .bool true) ‹_› (by simp)))
    have HF := hide (grown_trans HG.out.1 (grown_trans (grown_drew w0 none) hgA))
    go_wp2
    go_ret
    exact ⟨rfl, HF.out⟩

end Go.Proofs.YtajdgkbeenalkaaDoor
