/- Texts joined: BtBytes, BtCopy, Pa, Ec, Pb, Sh, Pc. -/
import Derived.Test.YtnnmaknjhfjojaaGreatDoorJrAc
import Derived.Lib.SliceRun
import Derived.Test.YtnnmaknjhfjojaaGreatDoorJrAb
import Derived.Shelf.Sort.Plain
import Derived.Ground.NamesProg
import Derived.Test.YtnnmaknjhfjojaaGreatDoorProg
/- The contract of a set's Bytes. -/
namespace Go.Proofs.YtnnmaknjhfjojaaGreatDoor.Bt
open Go.RowKit
attribute [local go_sem ↓] Go.wp_at_zero Go.wp_at_succ

/-- The number of which f tells the bits below n. -/
def ofB (f : Nat → Bool) : Nat → Nat
  | 0 => 0
  | n + 1 => ofB f n + (f n).toNat * 2 ^ n
theorem ofB_lt (f : Nat → Bool) (n : Nat) : ofB f n < 2 ^ n := by
  induction n with
  | zero => simp [ofB]
  | succ n ih =>
    rw [ofB, Nat.pow_succ]
    have h1 := Bool.toNat_le (f n)
    have : (f n).toNat * 2 ^ n ≤ 1 * 2 ^ n := Nat.mul_le_mul_right _ h1
    omega
theorem ofB_bit (f : Nat → Bool) (n j : Nat) : (ofB f n).testBit j = (decide (j < n) && f j) := by
  induction n with
  | zero => simp [ofB]
  | succ n ih =>
    rw [ofB, Nat.add_comm, Nat.mul_comm, Nat.testBit_two_pow_mul_add _ (ofB_lt f n), ih]
    by_cases h : j < n
    · simp [h, show j < n + 1 by omega]
    · rw [if_neg h]
      by_cases e : j = n
      · subst e
        cases f j <;> simp
      · obtain ⟨d, hd⟩ : ∃ d, j - n = d + 1 := ⟨j - n - 1, by omega⟩
        rw [hd]
        cases f n <;> simp [show ¬ j < n + 1 by omega, Nat.testBit_succ]
theorem ofB_congr (f g : Nat → Bool) (n : Nat) (h : ∀ i, i < n → f i = g i) : ofB f n = ofB g n := by
  induction n with
  | zero => rfl
  | succ n ih => rw [ofB, ofB, ih (fun i hi => h i (by omega)), h n (by omega)]

/-- The set's byte k. -/
def bytN (L : List Bool) (k : Nat) : Nat := ofB (fun j => L.getD (8 * k + j) false) 8
theorem bytN_lt (L : List Bool) (k : Nat) : bytN L k < 256 := ofB_lt _ 8
/-- Its bytes. -/
def bytesL (L : List Bool) : List Int := (List.range ((L.length + 7) / 8)).map fun k => (bytN L k : Int)
theorem bytesL_length (L : List Bool) : (bytesL L).length = (L.length + 7) / 8 := by simp [bytesL]
theorem bytesL_at (L : List Bool) (k : Nat) (h : k < (L.length + 7) / 8) : (bytesL L)[k]? = some (bytN L k : Int) := by simp [bytesL, h]

theorem rep_byte {W : List Nat} {L : List Bool} (h : Rep W L) (k : Nat) : W.getD (k / 8) 0 / 2 ^ (8 * (k % 8)) % 256 = bytN L k := by
  apply Nat.eq_of_testBit_eq
  intro j
  rw [show (256 : Nat) = 2 ^ 8 from rfl, Nat.testBit_mod_two_pow, ← Nat.shiftRight_eq_div_pow, Nat.testBit_shiftRight, bytN, ofB_bit]
  by_cases hj : j < 8
  · have e1 : (8 * k + j) / 64 = k / 8 := by omega
    have e2 : (8 * k + j) % 64 = 8 * (k % 8) + j := by omega
    have := h.is (8 * k + j)
    simp only [mem, e1, e2] at this
    rw [this]
  · simp [hj]

theorem Tryz.info5 : (Tryz.prog.info? 5).map (fun i => (i.zero, i.size, i.bytes)) = some (some (.int .u8 0), 1, 1) := by kernel_rfl
theorem made_zrow (n : Nat) : madeCells #[.int .u8 0] n = (List.replicate n (Value.int .u8 0)).toArray := by
  apply Array.ext'
  rw [toList_madeCells_one]
theorem make_bytes (n : Nat) (h : n ≤ 281474976710656) (w : World) : (Instr.makeSlice 31 (.int .i64 (n : Int)) (.int .i64 (n : Int))).run Tryz.prog w = .ok (.slice (some ⟨w.heap.size, 0, none⟩) n n) (w.alloc (.cells (List.replicate n (Value.int .u8 0)).toArray 5)) := by
  rw [run_make_row' (P := Tryz.prog) 31 5 (.int .u8 0) 1 Tryz.underlying31 Tryz.info5 rfl .i64 .i64 n (by omega) (by omega) w, made_zrow]

set_option maxHeartbeats 400000 in
theorem bytes_none (p : Option Addr) (w : World) (h : NoSet w p) : Calls Tryz.prog 7 #[.pointer p] w fun e w' => e = .returned (.slice none 0 0) ∧ w' = w := by
  have H := hide h.is
  clear h
  go_enter Tryz.func7, Tryz.ntmps7
  go_wp2_with fail
  refine H.out.mono ?_
  rintro e w' ⟨rfl, rfl⟩
  go_wp2
  go_ret
  exact ⟨rfl, rfl⟩

theorem take_set_succ {α : Type} (l : List α) (j : Nat) (u : α) (h : j < l.length) : (l.set j u).take (j + 1) = l.take j ++ [u] := by
  rw [List.take_succ_eq_append_getElem (by simpa using h)]
  simp [List.take_set_of_le]

set_option maxHeartbeats 1000000 in
theorem bytes_any (b g : Nat) (L : List Bool) (w : World) (h : SetAt w b g L) :
    Calls Tryz.prog 7 #[.pointer (some ⟨b, 0, none⟩)] w fun e w' => e = .returned (.slice (some ⟨w.heap.size, 0, none⟩) ((L.length + 7) / 8) ((L.length + 7) / 8)) ∧
      w'.heap[w.heap.size]? = some (.cells ((bytesL L).map (Value.int .u8)).toArray 5 (0, 0)) ∧ w.grownBy w' none := by
  obtain ⟨W, cap, hc, hcap, hcap2, hR, hcells⟩ := h.words
  have hn := isNone_at b true w h.made
  have hs := size_any b g L w h
  have hsm := h.small
  have hlen := hR.len
  have hbg := h.lt
  generalize hm : (L.length + 7) / 8 = m at *
  have hmm : m ≤ 8192 := by omega
  have hmk := make_bytes m (by omega)
  have H := hide (And.intro hcells (And.intro hR hm))
  have HN := hide hn
  have HS := hide hs
  have hW : m ≤ 8 * W.length := by omega
  clear hcells hn hlen hR h hsm hm hs
  go_enter Tryz.func7, Tryz.ntmps7
  go_wp2_with fail
  refine HN.out.mono ?_
  rintro e w' ⟨rfl, rfl⟩
  go_wp2_with fail
  refine HS.out.mono ?_
  rintro e w' ⟨rfl, rfl⟩
  clear HN HS
  go_wp2
  generalize hG : w'.heap.size = G at *
  have hbG : b < G := by omega
  have hgG : g < G := by omega
  have HG := hide hG
  clear hG
  go_loopg [12] m (fun k i wr => ∃ (j : Nat) (l : List Value), k + j = m ∧ i = .int .i64 (j : Int) ∧ Hid (wr.heap[G]? = some (.cells l.toArray 5 (0, 0)) ∧ l.take j = ((bytesL L).map (Value.int .u8)).take j) ∧ l.length = m ∧ w'.grownBy wr none)
  case atStart =>
    refine ⟨0, List.replicate m (Value.int .u8 0), by omega, rfl, hide ⟨?_, by simp⟩, by simp, World.grownBy_alloc w' _ _⟩
    have := heap_alloc_new w' (.cells (List.replicate m (Value.int .u8 0)).toArray 5)
    rw [HG.out] at this
    simpa using this
  case round =>
    obtain ⟨j, l, hkj, rfl, hl, hll, hg⟩ := hrel
    by_cases hk : 0 < gk
    · have hj : j < m := by omega
      obtain ⟨hcells, hR, hm⟩ := H.out
      have hw : j / 8 < W.length := by omega
      have hcell := hg.cell (hcells (j / 8) (W.getD (j / 8) 0) (by rw [List.getD_eq_getElem?_getD, List.getElem?_eq_getElem hw]; rfl)) (by simp)
      have hc' := hg.cell hc (by simp)
      have hlt := hR.getD_lt (j / 8)
      have hby := rep_byte hR j
      have hfr := free_row hl.out.1 j
      have hold : wr.cell? ⟨G, j, none⟩ = some l[j] := by rw [cell_row hl.out.1, List.getElem?_eq_getElem (by omega)]
      have hat := bytesL_at L j (by omega)
      generalize W.getD (j / 8) 0 = x at *
      generalize l[j] = u0 at *
      have h1 : (0 : Int) ≤ (j : Int) := by omega
      have h2 : (j : Int) < (m : Int) := by omega
      have h3 : (j : Int) / 8 < (W.length : Int) := by omega
      have HA := hide (And.intro hby hat)
      clear hcells hR hm hby hat hc
      go_wp2
      have HGG := HG.out
      have e : Value.int .u8 ((x : Int) / 2 ^ (8 * (j % 8)) % 256) = Value.int .u8 (bytN L j : Int) := by
        rw [← HA.out.1]; rfl
      rw [e]
      go_roundg (gk - 1)
      case measure => omega
      case rel =>
        obtain ⟨k1, k2⟩ := hl.out
        refine ⟨j + 1, l.set j (.int .u8 (bytN L j : Int)), by omega, rfl, hide ⟨row_setCell k1 _ _, ?_⟩, by simpa using hll, ?_⟩
        · rw [take_set_succ l j _ (by omega), k2]
          rw [List.take_add_one, List.getElem?_map, HA.out.2]
          rfl
        · exact grown_then hg (grown_setCell wr G j _) (fun k e => by cases e; left; omega)
    · have hj : j = m := by omega
      subst hj
      go_wp2
      go_ret
      refine ⟨by rw [HG.out]; rfl, ?_, hg⟩
      obtain ⟨h1, h2⟩ := hl.out
      have h3 : l = (bytesL L).map (Value.int .u8) := by
        rw [List.take_of_length_le (by omega), List.take_of_length_le (by simp [bytesL_length]; have := H.out.2.2; omega)] at h2
        exact h2
      rw [HG.out, h1, h3]

end Go.Proofs.YtnnmaknjhfjojaaGreatDoor.Bt
/- The contracts of a set's Copy and of Same. -/
namespace Go.Proofs.YtnnmaknjhfjojaaGreatDoor.Bt
open Go.RowKit
attribute [local go_sem ↓] Go.wp_at_zero Go.wp_at_succ

theorem Rep.copy {W : List Nat} {L : List Bool} (h : Rep W L) : W.length ≤ 1024 := by have := h.len; have := h.small; omega

theorem words_eq {W W' : List Nat} {L L' : List Bool} (h : Rep W L) (h' : Rep W' L') (hl : L.length = L'.length) : W = W' ↔ L = L' := by
  constructor
  · rintro rfl
    apply List.ext_getElem hl
    intro i h1 h2
    have := (h.is i).symm.trans (h'.is i)
    simpa [List.getD_eq_getElem?_getD, h1, h2] using this
  · rintro rfl
    apply List.ext_getElem (h.len.trans h'.len.symm)
    intro j h1 h2
    apply Nat.eq_of_testBit_eq
    intro c
    by_cases hc : c < 64
    · have := (h.is (64 * j + c)).trans (h'.is (64 * j + c)).symm
      have e1 : (64 * j + c) / 64 = j := by omega
      have e2 : (64 * j + c) % 64 = c := by omega
      simpa [mem, e1, e2, List.getD_eq_getElem?_getD, h1, h2] using this
    · have hb := Nat.pow_le_pow_right (n := 2) (by decide) (show 64 ≤ c by omega)
      rw [Nat.testBit_lt_two_pow (Nat.lt_of_lt_of_le (h.word _ (List.getElem_mem h1)) hb), Nat.testBit_lt_two_pow (Nat.lt_of_lt_of_le (h'.word _ (List.getElem_mem h2)) hb)]

set_option maxHeartbeats 1000000 in
theorem equal_any (g g' cap cap' n : Nat) (W W' : List Nat) (w : World) (hn : W.length = n) (hn' : W'.length = n) (hW : n ≤ 1024) (hcells : ∀ (j x : Nat), W[j]? = some x → w.cell? ⟨g, j, none⟩ = some (.int .u64 (x : Int)))
    (hcells' : ∀ (j x : Nat), W'[j]? = some x → w.cell? ⟨g', j, none⟩ = some (.int .u64 (x : Int))) :
    Calls Tryz.prog 76 #[.slice (some ⟨g, 0, none⟩) n cap, .slice (some ⟨g', 0, none⟩) n cap'] w fun e w' => e = .returned (.bool (decide (W = W'))) ∧ ∃ k, w' = w.drewN k := by
  have H := hide (And.intro hcells (And.intro hcells' (And.intro hn hn')))
  clear hcells hcells' hn hn'
  go_enter Tryz.func76, Tryz.ntmps76
  go_wp2
  go_loopg [13] n (fun k i wr => ∃ j : Nat, k + j = n ∧ i = .int .i64 j ∧ Hid (W.take j = W'.take j) ∧ ∃ m, wr = w.drewN m)
  case atStart => exact ⟨0, by omega, rfl, hide rfl, 0, rfl⟩
  case round =>
    obtain ⟨j, hkj, rfl, hp, m, rfl⟩ := hrel
    obtain ⟨hcells, hcells', hn, hn'⟩ := H.out
    by_cases hk : 0 < gk
    · have hj : j < W.length := by omega
      have hj' : j < W'.length := by omega
      have hx := List.getElem?_eq_getElem hj
      have hx' := List.getElem?_eq_getElem hj'
      have c1 : (w.drewN m).cell? ⟨g, j, none⟩ = some (.int .u64 (W[j] : Int)) := hcells j _ hx
      have c2 : (w.drewN m).cell? ⟨g', j, none⟩ = some (.int .u64 (W'[j] : Int)) := hcells' j _ hx'
      have h1 : (0 : Int) ≤ (j : Int) := by omega
      have h2 : (j : Int) < (n : Int) := by omega
      have HX := hide (And.intro hx hx')
      have hne : W[j] ≠ W'[j] → W ≠ W' := by rintro h rfl; exact h rfl
      have HNE := hide hne
      generalize W[j] = x at *
      generalize W'[j] = x' at *
      clear hcells hcells' hn hn' hx hx' hne
      generalize hwm : w.drewN m = wm at *
      have HW := hide hwm
      clear hwm
      by_cases he : x = x'
      · subst he
        go_wp2
        go_region_held3 (fun w' => w'.cell? ⟨g, j, none⟩ = some (.int .u64 (x : Int)) ∧ w'.cell? ⟨g', j, none⟩ = some (.int .u64 (x : Int))) (go_keep) (fail)
        go_wp2
        go_roundg (gk - 1)
        case measure => omega
        case rel =>
          refine ⟨j + 1, by omega, by go_num, hide ?_, m + 1, by rw [← HW.out]; rfl⟩
          rw [List.take_add_one, List.take_add_one, hp.out, HX.out.1, HX.out.2]
      · have he1 : ¬ (x : Int) = (x' : Int) := by omega
        have he2 : ((x : Int) == (x' : Int)) = false := by simpa using he1
        have hd : Hid (decide (W = W') = false) := by show _ = _; simpa using HNE.out he
        go_wp2
        go_region_held3 (fun w' => w'.cell? ⟨g, j, none⟩ = some (.int .u64 (x : Int)) ∧ w'.cell? ⟨g', j, none⟩ = some (.int .u64 (x' : Int))) (go_keep) (fail)
        go_wp2
        go_ret
        exact ⟨by rw [hd.out]; rfl, m + 1, by rw [← HW.out]; rfl⟩
    · have hj : j = n := by omega
      subst hj
      have hEq : W = W' := by
        have := hp.out
        rwa [List.take_of_length_le (by omega), List.take_of_length_le (by omega)] at this
      have hd : Hid (decide (W = W') = true) := by show _ = _; simpa using hEq
      clear hEq
      go_wp2
      go_ret
      exact ⟨by rw [hd.out]; rfl, m, rfl⟩


set_option maxHeartbeats 400000 in
theorem same_no1 (p q : Option Addr) (w : World) (h : NoSet w p) : Calls Tryz.prog 46 #[.pointer p, .pointer q] w fun e w' => e = .returned (.bool false) ∧ w.grownBy w' none := by
  have H := hide h.is
  clear h
  go_enter Tryz.func46, Tryz.ntmps46
  go_wp2_with fail
  refine H.out.mono ?_
  rintro e w' ⟨rfl, rfl⟩
  go_wp2
  go_ret
  exact ⟨rfl, grown_refl _ _⟩
set_option maxHeartbeats 400000 in
theorem same_no2 (b g : Nat) (L : List Bool) (q : Option Addr) (w : World) (h0 : SetAt w b g L) (h : NoSet w q) : Calls Tryz.prog 46 #[.pointer (some ⟨b, 0, none⟩), .pointer q] w fun e w' => e = .returned (.bool false) ∧ w.grownBy w' none := by
  have H := hide h.is
  have H0 := hide (isNone_at b true w h0.made)
  clear h h0
  go_enter Tryz.func46, Tryz.ntmps46
  go_wp2_with fail
  refine H0.out.mono ?_
  rintro e w' ⟨rfl, rfl⟩
  go_wp2_with fail
  refine H.out.mono ?_
  rintro e w' ⟨rfl, rfl⟩
  go_wp2
  go_ret
  exact ⟨rfl, grown_refl _ _⟩

set_option maxHeartbeats 1000000 in
theorem same_any (b g b' g' : Nat) (L L' : List Bool) (w : World) (h : SetAt w b g L) (h' : SetAt w b' g' L') :
    Calls Tryz.prog 46 #[.pointer (some ⟨b, 0, none⟩), .pointer (some ⟨b', 0, none⟩)] w fun e w' => e = .returned (.bool (decide (L = L'))) ∧ w.grownBy w' none := by
  have H0 := hide (isNone_at b true w h.made)
  have H0' := hide (isNone_at b' true w h'.made)
  obtain ⟨W, cap, hc, hcap, hcap2, hR, hcells⟩ := h.words
  obtain ⟨W', cap', hc', hcap', hcap2', hR', hcells'⟩ := h'.words
  have hb := h.bound
  have hb' := h'.bound
  by_cases hl : L.length = L'.length
  · have hWW : W'.length = W.length := by rw [hR.len, hR'.len, hl]
    rw [hWW] at hc'
    have heq := fun n => equal_any g g' cap cap' W.length W W' (w.drewN n) rfl hWW hR.copy hcells hcells'
    have hd : decide (W = W') = decide (L = L') := by rw [decide_eq_decide]; exact words_eq hR hR' hl
    rw [hd] at heq
    rw [← hl] at hb'
    generalize decide (L = L') = d at *
    have HE := hide heq
    clear heq hd hcells hcells' hR hR' hcap hcap' hcap2 hcap2' hWW h h'
    go_enter Tryz.func46, Tryz.ntmps46
    go_wp2_with fail
    refine H0.out.mono ?_
    rintro e w' ⟨rfl, rfl⟩
    go_wp2_with fail
    refine H0'.out.mono ?_
    rintro e w' ⟨rfl, rfl⟩
    go_wp2_with fail
    go_quiet ((go_at_call 76; exact Calls.quiet_of (HE.out _)))
    go_wp2
    go_ret
    exact ⟨rfl, grown_drewN _ _ _⟩
  · have hd : decide (L = L') = false := by simp; rintro rfl; exact hl rfl
    rw [hd]
    have hl4 : ¬ (L.length : Int) = (L'.length : Int) := by omega
    have hl2 : decide ((L.length : Int) = (L'.length : Int)) = false := decide_eq_false hl4
    have hl3 : ((L.length : Int) == (L'.length : Int)) = false := by simpa using hl4
    generalize (L.length : Int) = n at *
    generalize (L'.length : Int) = n' at *
    clear hd hcells hcells' hR hR' hcap hcap' hcap2 hcap2' h h' hl
    go_enter Tryz.func46, Tryz.ntmps46
    go_wp2_with fail
    refine H0.out.mono ?_
    rintro e w' ⟨rfl, rfl⟩
    go_wp2_with fail
    refine H0'.out.mono ?_
    rintro e w' ⟨rfl, rfl⟩
    go_wp2_with fail
    go_quiet (fail)
    go_wp2
    go_ret
    exact ⟨rfl, grown_drewN _ _ _⟩

end Go.Proofs.YtnnmaknjhfjojaaGreatDoor.Bt
/- The cabin's blocks, if the cabin may be and the set is one of its seats; the first run of some seats. -/
namespace Go.Proofs.YtnnmaknjhfjojaaGreatDoor
open Go.RowKit Cx Pn
attribute [local go_sem ↓] Go.wp_at_zero Go.wp_at_succ

/-- Which seats are free. -/
def fr (S : List Bool) (i : Nat) : Bool := !S.getD i true
theorem fr_of {S : List Bool} {i : Nat} (hi : i < S.length) : fr S i = !S.getD i false := by
  unfold fr
  rw [List.getD_eq_getElem?_getD, List.getD_eq_getElem?_getD, List.getElem?_eq_getElem hi]; rfl
theorem Tab_grown {w w' : World} (h : Bt.Tab w) (hg : w.grownBy w' none) : Bt.Tab w' := h.kept hg (by simp)
theorem Set_grown {w w' : World} {b g : Nat} {S : List Bool} (h : Bt.SetAt w b g S) (hg : w.grownBy w' none) : Bt.SetAt w' b g S := h.kept hg (by simp) (by simp)

set_option maxHeartbeats 1000000 in
theorem blocksOf_bad (R W : Int) (ao : Option Addr) (n cap : Nat) (L : List Int) (p : Option Addr) (w : World) (hc : CbIn w ao n cap L) (ho : ¬ Ok R W L) :
    Calls Tryz.prog 26 #[cbV R W (.slice ao n cap), .pointer p] w fun e w' => e = .returned (.tuple #[.slice none 0 0, .int .i64 2]) ∧ w.grownBy w' none := by
  have C := hide (fun w' (hg : w.grownBy w' none) => seats_any R W ao n cap L w' (hc.grown hg))
  rw [code_no ho, if_neg ho] at C
  clear hc ho
  unfold cbV at *
  go_enter Tryz.func26, Tryz.ntmps26
  go_wp2_with fail
  refine (C.out _ (grown_alloc w _)).mono ?_
  rintro e w1 ⟨rfl, hw1⟩
  have G1 := hide (grown_trans (grown_alloc w _) hw1)
  clear hw1
  go_wp2
  go_ret2
  exact ⟨rfl, G1.out⟩

set_option maxHeartbeats 1000000 in
theorem blocksOf_nil (R W : Int) (ao : Option Addr) (n cap : Nat) (L : List Int) (p : Option Addr) (w : World) (hc : CbIn w ao n cap L) (ho : Ok R W L) (hp : ∀ w', w.grownBy w' none → Bt.NoSet w' p) :
    Calls Tryz.prog 26 #[cbV R W (.slice ao n cap), .pointer p] w fun e w' => e = .returned (.tuple #[.slice none 0 0, .int .i64 1]) ∧ w.grownBy w' none := by
  have C := hide (fun w' (hg : w.grownBy w' none) => seats_any R W ao n cap L w' (hc.grown hg))
  rw [code_ok ho, if_pos ho] at C
  have D := hide (fun w' (hg : w.grownBy w' none) => Bt.same_no1 p p w' (hp w' hg))
  clear hc ho hp
  unfold cbV at *
  go_enter Tryz.func26, Tryz.ntmps26
  go_wp2_with fail
  refine (C.out _ (grown_alloc w _)).mono ?_
  rintro e w1 ⟨rfl, hw1⟩
  have G1 := hide (grown_trans (grown_alloc w _) hw1)
  clear hw1
  go_wp2_with fail
  refine (D.out _ G1.out).mono ?_
  rintro e w2 ⟨rfl, hw2⟩
  have G2 := hide (grown_trans G1.out hw2)
  clear hw2
  go_wp2
  go_ret2
  exact ⟨rfl, G2.out⟩

set_option maxHeartbeats 1000000 in
theorem blocksOf_long (R W : Int) (ao : Option Addr) (n cap : Nat) (L : List Int) (b g : Nat) (S : List Bool) (w : World) (hc : CbIn w ao n cap L) (ho : Ok R W L) (hs : Bt.SetAt w b g S) (hn : (S.length : Int) ≠ R * W) :
    Calls Tryz.prog 26 #[cbV R W (.slice ao n cap), .pointer (some ⟨b, 0, none⟩)] w fun e w' => e = .returned (.tuple #[.slice none 0 0, .int .i64 3]) ∧ w.grownBy w' none := by
  have C := hide (fun w' (hg : w.grownBy w' none) => seats_any R W ao n cap L w' (hc.grown hg))
  rw [code_ok ho, if_pos ho] at C
  have D := hide (fun w' (hg : w.grownBy w' none) => Bt.same_any b g b g S S w' (Set_grown hs hg) (Set_grown hs hg))
  have B := hide (fun w' (hg : w.grownBy w' none) => Bt.bound_any b g S w' (Set_grown hs hg))
  rw [decide_eq_true rfl] at D
  have hsm := hs.small
  have hRW := Int.mul_nonneg (show (0 : Int) ≤ R by have := ho.1; omega) (show (0 : Int) ≤ W by have := ho.2.2.1; omega)
  generalize R * W = RW at *
  clear hc ho hs
  unfold cbV at *
  go_enter Tryz.func26, Tryz.ntmps26
  go_wp2_with fail
  refine (C.out _ (grown_alloc w _)).mono ?_
  rintro e w1 ⟨rfl, hw1⟩
  have G1 := hide (grown_trans (grown_alloc w _) hw1)
  clear hw1
  go_wp2_with fail
  refine (D.out _ G1.out).mono ?_
  rintro e w2 ⟨rfl, hw2⟩
  have G2 := hide (grown_trans G1.out hw2)
  clear hw2
  go_wp2_with fail
  refine (B.out _ G2.out).mono ?_
  rintro e w3 ⟨rfl, rfl⟩
  go_wp2
  go_ret2
  exact ⟨rfl, G2.out⟩

set_option maxHeartbeats 1000000 in
theorem blocksOf_ok (R W : Nat) (ao : Option Addr) (n cap : Nat) (L : List Int) (b g : Nat) (S : List Bool) (w : World) (hc : CbIn w ao n cap L) (ho : Ok R W L) (hs : Bt.SetAt w b g S) (hn : S.length = R * W) :
    Calls Tryz.prog 26 #[cbV R W (.slice ao n cap), .pointer (some ⟨b, 0, none⟩)] w fun e w' => ∃ v, e = .returned (.tuple #[v, .int .i64 0]) ∧ w'.ownsRow w.heap.size 64 2 v (prg W L (R * W)).length (spC (prg W L (R * W))) ∧ w.grownBy w' none := by
  have C := hide (fun w' (hg : w.grownBy w' none) => seats_any R W ao n cap L w' (hc.grown hg))
  rw [code_ok ho, if_pos ho, ← Int.natCast_mul] at C
  have D := hide (fun w' (hg : w.grownBy w' none) => Bt.same_any b g b g S S w' (Set_grown hs hg) (Set_grown hs hg))
  have B := hide (fun w' (hg : w.grownBy w' none) => Bt.bound_any b g S w' (Set_grown hs hg))
  have K := hide (fun w' (hg : w.grownBy w' none) => blocks_ok R W ao n cap L w' (hc.grown hg) ho)
  rw [decide_eq_true rfl] at D
  rw [hn] at B
  generalize prg W L (R * W) = P at *
  generalize R * W = RW at *
  clear hc ho hs hn
  unfold cbV at *
  go_enter Tryz.func26, Tryz.ntmps26
  go_wp2_with fail
  refine (C.out _ (grown_alloc w _)).mono ?_
  rintro e w1 ⟨rfl, hw1⟩
  have hb1 := box_kept hw1
  have G1 := hide (And.intro (grown_trans (grown_alloc w _) hw1) hb1)
  clear hw1 hb1
  go_wp2_with fail
  refine (D.out _ G1.out.1).mono ?_
  rintro e w2 ⟨rfl, hw2⟩
  have G2 := hide (And.intro (grown_trans G1.out.1 hw2) (heap_kept G1.out.2 hw2 (by simp)))
  clear hw2
  go_wp2_with fail
  refine (B.out _ G2.out.1).mono ?_
  rintro e w3 ⟨rfl, rfl⟩
  obtain ⟨c0, c1, c2⟩ := box3 G2.out.2
  go_wp2_with fail
  refine (K.out _ G2.out.1).mono ?_
  rintro e w4 ⟨v, rfl, hown, hw4⟩
  have G4 := hide (And.intro (grown_trans G2.out.1 hw4) (span_base hown G2.out.1.size))
  clear hw4 hown c0 c1 c2
  go_wp2
  go_ret2
  exact ⟨v, rfl, G4.out.2, G4.out.1⟩

/-- The first run of the seats from p up to e: its first seat, and how many it has. -/
def FR (S : List Bool) (p e a c : Nat) : Prop :=
  (c = 0 ∧ a = 0 ∧ ∀ j, p ≤ j → j < e → fr S j = false) ∨
    (0 < c ∧ p ≤ a ∧ a + c ≤ e ∧ (∀ j, p ≤ j → j < a → fr S j = false) ∧ (∀ j, a ≤ j → j < a + c → fr S j = true) ∧ (a + c = e ∨ fr S (a + c) = false))
def Fst (S : List Bool) (p e a : Nat) : Prop := p ≤ a ∧ a < e ∧ fr S a = true ∧ ∀ j, p ≤ j → j < a → fr S j = false
theorem seek_free {S : List Bool} {p e : Nat} {r : Int} (he : e ≤ S.length) (h : Bt.Seek S false p r) : ((r < 0 ∨ (e : Int) ≤ r) ∧ ∀ j, p ≤ j → j < e → fr S j = false) ∨ ∃ a : Nat, r = (a : Int) ∧ Fst S p e a := by
  rcases h with ⟨rfl, h⟩ | ⟨k, rfl, h1, h2, h3, h4⟩
  · refine Or.inl ⟨Or.inl (by omega), fun j a c => ?_⟩
    have := h j a (by omega)
    rw [fr_of (by omega)]
    simpa using this
  · rcases Nat.lt_or_ge k e with hk | hk
    · refine Or.inr ⟨k, rfl, h1, hk, by rw [fr_of h2, h3]; rfl, fun j a c => ?_⟩
      have := h4 j a c
      rw [fr_of (by omega)]
      simpa using this
    · refine Or.inl ⟨Or.inr (by omega), fun j a c => ?_⟩
      have := h4 j a (by omega)
      rw [fr_of (by omega)]
      simpa using this
theorem seek_taken {S : List Bool} {p e a : Nat} {r : Int} (he : e ≤ S.length) (hf : Fst S p e a) (h : Bt.Seek S true a r) : ((r < 0 ∨ (e : Int) < r) ∧ FR S p e a (e - a)) ∨ ∃ k : Nat, r = (k : Int) ∧ k ≤ e ∧ a < k ∧ FR S p e a (k - a) := by
  obtain ⟨f1, f2, f3, f4⟩ := hf
  rcases h with ⟨rfl, h⟩ | ⟨k, rfl, h1, h2, h3, h4⟩
  · refine Or.inl ⟨Or.inl (by omega), Or.inr ⟨by omega, f1, by omega, f4, fun j a c => ?_, Or.inl (by omega)⟩⟩
    have := h j a (by omega)
    rw [fr_of (by omega)]
    simpa using this
  · have hak : a < k := by
      rcases Nat.lt_or_ge a k with g | g
      · exact g
      · rw [show a = k by omega, fr_of h2, h3] at f3; cases f3
    rcases Nat.lt_or_ge e k with hk | hk
    · refine Or.inl ⟨Or.inr (by omega), Or.inr ⟨by omega, f1, by omega, f4, fun j a c => ?_, Or.inl (by omega)⟩⟩
      have := h4 j a (by omega)
      rw [fr_of (by omega)]
      simpa using this
    · refine Or.inr ⟨k, rfl, hk, hak, Or.inr ⟨by omega, f1, by omega, f4, fun j a c => ?_, Or.inr ?_⟩⟩
      · have := h4 j a (by omega)
        rw [fr_of (by omega)]
        simpa using this
      · rw [show a + (k - a) = k by omega, fr_of h2, h3]; rfl

set_option maxHeartbeats 1000000 in
theorem firstRun_any (b g p e : Nat) (S : List Bool) (w : World) (hs : Bt.SetAt w b g S) (hT : Bt.Tab w) (he : e ≤ S.length) (_hpe : p ≤ e) :
    Calls Tryz.prog 27 #[.pointer (some ⟨b, 0, none⟩), .int .i64 (p : Int), .int .i64 (e : Int)] w fun x w' => ∃ a c : Nat, x = .returned (.agg #[.int .i64 (a : Int), .int .i64 (c : Int)]) ∧ FR S p e a c ∧ w.grownBy w' none := by
  have F := hide (fun w' (hg : w.grownBy w' none) => Bt.free_any b g S (p : Int) w' (Set_grown hs hg) (Tab_grown hT hg))
  have N := hide (fun (i : Nat) w' (hg : w.grownBy w' none) => Bt.next_any b g S (i : Int) w' (Set_grown hs hg) (Tab_grown hT hg))
  have hsm := hs.small
  have HE := hide he
  clear hs hT
  go_enter Tryz.func27, Tryz.ntmps27
  go_wp2_with fail
  refine (F.out _ (grown_alloc w _)).mono ?_
  rintro x w1 ⟨r, rfl, hr, rfl⟩
  have hb := heap_alloc_new w (.cells #[.int .i64 0, .int .i64 0] 64)
  have G1 := hide (grown_alloc w (.cells #[.int .i64 0, .int .i64 0] 64))
  have f0 := free_row hb 0
  have f1 := free_row hb 1
  have HB := hide hb
  rw [Int.toNat_natCast] at hr
  rcases seek_free HE.out hr with ⟨h1, h2⟩ | ⟨a, rfl, ha⟩
  · have HR : Hid (FR S p e 0 0) := hide (Or.inl ⟨rfl, rfl, h2⟩)
    clear hr h2 hb
    rcases h1 with h1 | h1
    · go_wp2
      refine bodyPost_ret (results_cell_row rfl _ _ w.heap.size 64 #[.int .i64 ((0 : Nat) : Int), .int .i64 ((0 : Nat) : Int)] (0, 0) _ rfl (heap_alloc_new w _) Tryz.underlying64 rfl (by kernel_rfl)) rfl ⟨0, 0, rfl, HR.out, grown_alloc w _⟩
    · have h0 : ¬ r < 0 := by omega
      go_wp2
      refine bodyPost_ret (results_cell_row rfl _ _ w.heap.size 64 #[.int .i64 ((0 : Nat) : Int), .int .i64 ((0 : Nat) : Int)] (0, 0) _ rfl (heap_alloc_new w _) Tryz.underlying64 rfl (by kernel_rfl)) rfl ⟨0, 0, rfl, HR.out, grown_alloc w _⟩
  · have hA := hide ha
    have h1 : (a : Int) < (e : Int) := by have := ha.2.1; omega
    clear ha hb hr
    go_wp2_with fail
    refine (N.out a _ G1.out).mono ?_
    rintro x w2 ⟨r, rfl, hr, rfl⟩
    rw [Int.toNat_natCast] at hr
    rcases seek_taken HE.out hA.out hr with ⟨h2, h3⟩ | ⟨k, rfl, hke, hak, h3⟩
    · have HR := hide h3
      clear hr h3
      rcases h2 with h2 | h2
      · go_wp2
        refine bodyPost_ret (results_cell_row rfl _ _ w.heap.size 64 #[.int .i64 ((a : Nat) : Int), .int .i64 ((e : Int) - (a : Int))] (0, 0) _ rfl (heap_alloc_new w _) Tryz.underlying64 rfl (by kernel_rfl)) rfl ⟨a, e - a, by rw [Int.ofNat_sub (show a ≤ e by have := hA.out.2.1; omega)], HR.out, grown_alloc w _⟩
      · have h0 : ¬ r < 0 := by omega
        go_wp2
        refine bodyPost_ret (results_cell_row rfl _ _ w.heap.size 64 #[.int .i64 ((a : Nat) : Int), .int .i64 ((e : Int) - (a : Int))] (0, 0) _ rfl (heap_alloc_new w _) Tryz.underlying64 rfl (by kernel_rfl)) rfl ⟨a, e - a, by rw [Int.ofNat_sub (show a ≤ e by have := hA.out.2.1; omega)], HR.out, grown_alloc w _⟩
    · have HR := hide h3
      clear hr h3
      go_wp2
      refine bodyPost_ret (results_cell_row rfl _ _ w.heap.size 64 #[.int .i64 ((a : Nat) : Int), .int .i64 ((k : Int) - (a : Int))] (0, 0) _ rfl (heap_alloc_new w _) Tryz.underlying64 rfl (by kernel_rfl)) rfl ⟨a, k - a, by rw [Int.ofNat_sub (show a ≤ k by have := hA.out.2.1; omega)], HR.out, grown_alloc w _⟩
end Go.Proofs.YtnnmaknjhfjojaaGreatDoor
/- SameSpans; the document's Blocks. -/
namespace Go.Proofs.YtnnmaknjhfjojaaGreatDoor
open Go.RowKit Cx
attribute [local go_sem ↓] Go.wp_at_zero Go.wp_at_succ

/-- What a row of spans that is not empty leads to. -/
theorem span_row {w : World} {base n : Nat} {v : Value} {xs : List Value} (h : w.ownsRow base 64 2 v n xs) (hn : 0 < n) : ∃ g cap cur, v = .slice (some ⟨g, 0, none⟩) n cap ∧ base ≤ g ∧ w.heap[g]? = some (.cells cur 64 (0, 0)) ∧ n ≤ cap ∧ cur.toList.take (n * 2) = xs := by
  rcases h.2 with ⟨rfl, rfl⟩ | ⟨g, cap, cur, rfl, hb, hg, h1, h2, h3, h4⟩
  · omega
  · exact ⟨g, cap, cur, rfl, hb, hg, h1, h4⟩
theorem span_cell {w : World} {g n : Nat} {cur : Array Value} {xs : List Value} (hg : w.heap[g]? = some (.cells cur 64 (0, 0))) (ht : cur.toList.take (n * 2) = xs) {i : Nat} {v : Value} (hi : xs[i]? = some v) : w.cell? ⟨g, i, none⟩ = some v := by
  rw [cell_of_row w g i cur 64 (0, 0) hg, ← Array.getElem?_toList]
  rw [← ht, List.getElem?_take] at hi
  split at hi
  · exact hi
  · cases hi
set_option maxHeartbeats 1000000 in
theorem sameSpans_eq {w : World} {v u : Value} {b1 b2 : Nat} {l : List (Nat × Nat)} (hv : w.ownsRow b1 64 2 v l.length (spC l)) (hu : w.ownsRow b2 64 2 u l.length (spC l)) (hM : l.length ≤ 65536) :
    Calls Tryz.prog 10 #[v, u] w fun e w' => e = .returned (.bool true) ∧ w.grownBy w' none := by
  obtain ⟨ao, c, rfl⟩ := span_form hv
  obtain ⟨bo, d, rfl⟩ := span_form hu
  have HA := hide (And.intro hv hu)
  clear hv hu
  generalize hn : l.length = n at *
  have HN := hide hn
  clear hn
  go_enter Tryz.func10, Tryz.ntmps10
  go_wp2
  go_loopg [5] n (fun k i wr => ∃ j : Nat, k + j = n ∧ i = .int .i64 j ∧ w.grownBy wr none)
  case atStart => exact ⟨0, by omega, rfl, grown_refl _ _⟩
  case round =>
    obtain ⟨j, hkj, rfl, hg⟩ := hrel
    by_cases hk : 0 < gk
    · obtain ⟨hv, hu⟩ := HA.out
      have hj : j < l.length := by rw [HN.out]; omega
      obtain ⟨g1, c1, cur1, e1, -, hg1, -, ht1⟩ := span_row hv (by omega)
      obtain ⟨g2, c2, cur2, e2, -, hg2, -, ht2⟩ := span_row hu (by omega)
      cases e1
      cases e2
      obtain ⟨hx, hy⟩ := spC_get (List.getElem?_eq_getElem hj)
      have x1 := span_cell (heap_kept hg1 hg (by simp)) ht1 hx
      have y1 := span_cell (heap_kept hg1 hg (by simp)) ht1 hy
      have x2 := span_cell (heap_kept hg2 hg (by simp)) ht2 hx
      have y2 := span_cell (heap_kept hg2 hg (by simp)) ht2 hy
      have h1 : (0 : Int) ≤ (j : Int) := by omega
      have h2 : (j : Int) < (n : Int) := by omega
      generalize (l[j].1 : Int) = p at *
      generalize (l[j].2 : Int) = q at *
      clear hv hu hg1 hg2 ht1 ht2 hx hy hj
      go_wp2
      go_quiet (fail)
      go_wp2
      go_roundg (gk - 1)
      case measure => omega
      case rel => exact ⟨j + 1, by omega, by go_num, grown_trans hg (grown_drewN _ _ _)⟩
    · have hj : j = n := by omega
      subst hj
      go_wp2
      go_ret
      exact ⟨rfl, hg⟩

theorem spC_bump {l : List (Nat × Nat)} (h : l ≠ []) : ∃ p : Nat × Nat, l[l.length - 1]? = some p ∧ spC (bump l) = (spC l).set ((l.length - 1) * 2 + 1) (.int .i64 ((p.2 : Int) + 1)) := by
  obtain ⟨xs, a, rfl⟩ : ∃ xs a, l = xs ++ [a] := by
    rcases List.eq_nil_or_concat l with e | ⟨xs, a, e⟩
    · exact absurd e h
    · exact ⟨xs, a, by rw [e, List.concat_eq_append]⟩
  refine ⟨a, by simp, ?_⟩
  rw [bump_snoc, spC_app, spC_app, show (xs ++ [a]).length - 1 = xs.length by simp, List.set_append_right _ _ (by rw [spC_len]; omega), spC_len, show xs.length * 2 + 1 - 2 * xs.length = 1 by omega]
  simp [spC]
theorem bump_len (l : List (Nat × Nat)) : (bump l).length = l.length := by unfold bump; rw [List.length_modify]
/-- One cell of a row of spans is written. -/
theorem span_set {w : World} {base n g i : Nat} {cap : Nat} {xs : List Value} {u : Value} (h : w.ownsRow base 64 2 (.slice (some ⟨g, 0, none⟩) n cap) n xs) (_hi : i < xs.length) : (w.setCell ⟨g, i, none⟩ u).ownsRow base 64 2 (.slice (some ⟨g, 0, none⟩) n cap) n (xs.set i u) := by
  obtain ⟨hl, h⟩ := h
  refine ⟨by rw [List.length_set]; exact hl, ?_⟩
  rcases h with ⟨h, _⟩ | ⟨g', cap', cur, hv, hb, hgc, h1, h2, h3, h4⟩
  · cases h
  · cases hv
    refine Or.inr ⟨g, cap, cur.setIfInBounds i u, rfl, hb, ?_, h1, h2, by simpa using h3, ?_⟩
    · have h5 : w.heap[g]? = some (.cells cur.toList.toArray 64 (0, 0)) := by simpa using hgc
      have := row_setCell h5 i u
      rw [this]
      simp only [Option.some.injEq, Obj.cells.injEq, and_true]
      exact Array.ext' (by simp)
    · rw [Array.toList_setIfInBounds, List.take_set, h4]
end Go.Proofs.YtnnmaknjhfjojaaGreatDoor
/- All runs. -/
namespace Go.Proofs.YtnnmaknjhfjojaaGreatDoor
open Go.RowKit Cx Pn
attribute [local go_sem ↓] Go.wp_at_zero Go.wp_at_succ

set_option maxHeartbeats 1000000 in
theorem runs_err (v1 : Value) (c R W : Int) (ao : Option Addr) (n cap : Nat) (p : Option Addr) (w : World) (hc : c ≠ 0)
    (h : ∀ w', w.grownBy w' none → Calls Tryz.prog 26 #[cbV R W (.slice ao n cap), .pointer p] w' fun e w'' => e = .returned (.tuple #[v1, .int .i64 c]) ∧ w'.grownBy w'' none) :
    Calls Tryz.prog 8 #[cbV R W (.slice ao n cap), .pointer p] w fun e w' => e = .returned (.tuple #[.slice none 0 0, .int .i64 c]) ∧ w.grownBy w' none := by
  have C := hide h
  clear h
  unfold cbV at *
  go_enter Tryz.func8, Tryz.ntmps8
  go_wp2
  go_step3
  go_wp2_with fail
  refine (C.out _ (grown_alloc w _)).mono ?_
  rintro e w1 ⟨rfl, hw1⟩
  have G1 := hide (grown_trans (grown_alloc w _) hw1)
  clear hw1
  go_wp2
  rw [Exit.noGoto_ret]
  go_ret2
  exact ⟨rfl, G1.out⟩

theorem box2c {w : World} {g : Nat} {u v : Value} {t : TypeId} (h : w.heap[g]? = some (.cells #[u, v] t)) : w.cell? ⟨g, 0, none⟩ = some u ∧ w.cell? ⟨g, 1, none⟩ = some v :=
  ⟨cell_row (l := [u, v]) h 0, cell_row (l := [u, v]) h 1⟩
/-- What the runs up to x become with the next run of the block that ends at e. -/
theorem fr_next {S : List Bool} {f bb : Nat → Bool} {s x e a c : Nat} (hf : fr S = f) (hb : bb s = true) (hin : ∀ j, s < j → j < e → bb j = false) (hsx : s ≤ x) (hx : x = s ∨ x = e ∨ f x = false) (hxe : x < e) (h : FR S x e a c) :
    (c = 0 ∧ dr f bb e = dr f bb x) ∨ (0 < c ∧ x < a + c ∧ a + c ≤ e ∧ (a + c = e ∨ f (a + c) = false) ∧ dr f bb (a + c) = dr f bb x ++ [(a, c)]) := by
  subst hf
  rcases h with ⟨rfl, -, h⟩ | ⟨h1, h2, h3, h4, h5, h6⟩
  · exact Or.inl ⟨rfl, dr_gap (by omega) h⟩
  · refine Or.inr ⟨h1, by omega, h3, h6, ?_⟩
    have e1 := dr_gap (f := fr S) (b := bb) h2 h4
    obtain ⟨d, rfl⟩ : ∃ d, c = d + 1 := ⟨c - 1, by omega⟩
    rw [dr_run d h5 (fun j u v => hin j (by omega) (by omega)) ?_, e1]
    rcases Nat.lt_or_ge x a with g | g
    · exact Or.inr (Or.inl (h4 (a - 1) (by omega) (by omega)))
    · have hxa : x = a := by omega
      subst hxa
      rcases hx with rfl | rfl | hx
      · exact Or.inr (Or.inr hb)
      · omega
      · rw [h5 x (by omega) (by omega)] at hx; cases hx

set_option maxHeartbeats 2000000 in
theorem runs_ok (R W : Nat) (ao : Option Addr) (n cap : Nat) (L : List Int) (b g : Nat) (S : List Bool) (w : World) (hc : CbIn w ao n cap L) (ho : Ok R W L) (hs : Bt.SetAt w b g S) (hT : Bt.Tab w) (hn : S.length = R * W) :
    Calls Tryz.prog 8 #[cbV R W (.slice ao n cap), .pointer (some ⟨b, 0, none⟩)] w fun e w' => ∃ v, e = .returned (.tuple #[v, .int .i64 0]) ∧ w'.ownsRow w.heap.size 64 2 v (dr (fr S) (bg W L) (R * W)).length (spC (dr (fr S) (bg W L) (R * W))) ∧ w.grownBy w' none := by
  have C := hide (fun w' (hg : w.grownBy w' none) => blocksOf_ok R W ao n cap L b g S w' (hc.grown hg) ho (Set_grown hs hg) hn)
  have F := hide (fun w' (hg : w.grownBy w' none) p e (he : e ≤ S.length) (hpe : p ≤ e) => firstRun_any b g p e S w' (Set_grown hs hg) (Tab_grown hT hg) he hpe)
  have hsm := hs.small
  have h7 := ho.2.2.1
  have hP := hide (fun i p => prg_get (R := R) (W := W) (by omega) (L := L) (i := i) (p := p))
  have hE := prg_ends (R := R) (W := W) (by omega) L
  have hPl := prg_len_le W L (R * W)
  rw [hn] at F hsm
  clear hc ho hs hT h7 hn
  generalize prg W L (R * W) = P at *
  generalize R * W = M at *
  have HE := hide hE
  clear hE
  generalize hf : fr S = f at *
  generalize hbb : bg W L = bb at *
  unfold cbV at *
  go_enter Tryz.func8, Tryz.ntmps8
  go_wp2
  go_step3
  go_wp2_with fail
  refine (C.out _ (grown_alloc w _)).mono ?_
  rintro e w1 ⟨v0, rfl, hown, hw1⟩
  have G1 := hide (And.intro (grown_trans (grown_alloc w _) hw1) (span_base (base' := w.heap.size) hown (by simp)))
  clear hw1 hown
  obtain ⟨vo, vc, rfl⟩ := span_form G1.out.2
  go_wp2
  go_step3
  go_wp2
  have HG := hide (And.intro G1.out.1 (And.intro (grown_refl w1 none) G1.out.2))
  have hle := G1.out.1.size
  clear G1
  obtain ⟨B, hB⟩ : ∃ B, B = w1.heap.size := ⟨_, rfl⟩
  obtain ⟨N, hN⟩ : ∃ N, N = P.length := ⟨_, rfl⟩
  have HN := hide hN
  have HBs := hide (show w.heap.size ≤ B by rw [hB]; exact hle)
  have HBw := hide hB
  clear hle hB
  rw [← hN] at HG hPl ⊢
  clear hN
  go_loopg [8, 25] N (fun k v i wr => ∃ j : Nat, k + j = N ∧ i = .int .i64 (j : Int) ∧ wr.ownsRow B 64 2 v (dr f bb (ends P j)).length (spC (dr f bb (ends P j))) ∧ w1.grownBy wr none)
  case atStart => exact ⟨0, by omega, rfl, World.ownsRow_nil _ _ _ _, HG.out.2.1⟩
  case round =>
    obtain ⟨j, hkj, rfl, hown, hg⟩ := hrel
    obtain ⟨ro, rc, rfl⟩ := span_form hown
    by_cases hk : 0 < gk
    · have hj : j < P.length := by have := HN.out; omega
      obtain ⟨q, hq⟩ : ∃ q, P[j]? = some q := ⟨_, List.getElem?_eq_getElem hj⟩
      obtain ⟨p1, p2, p3, p4, -, -, p7, p8⟩ := hP.out j q hq
      have hen := ends_succ hq
      obtain ⟨s, c⟩ := q
      simp only at p1 p2 p3 p4 p7 p8 hen
      obtain ⟨g0, c0, cur0, e0, -, hg0, -, ht0⟩ := span_row HG.out.2.2 (by omega)
      cases e0
      obtain ⟨hx, hy⟩ := spC_get hq
      have x1 := span_cell (heap_kept hg0 hg (by simp)) ht0 hx
      have y1 := span_cell (heap_kept hg0 hg (by simp)) ht0 hy
      have HX := hide (And.intro p1 (And.intro p3 (And.intro p7 hen)))
      have HW := hide (And.intro hown hg)
      have hj0 : (0 : Int) ≤ (j : Int) := by omega
      have hj1 : (j : Int) < (N : Int) := by omega
      clear hown hg hx hy hg0 ht0 hq p1 p3 p7 hen
      go_wp2
      have HW2 := hide (And.intro (span_grown HW.out.1 (grown_alloc wr (.cells #[.int .i64 (s : Int), .int .i64 (c : Int)] 64))) (grown_trans HW.out.2 (grown_alloc wr (.cells #[.int .i64 (s : Int), .int .i64 (c : Int)] 64))))
      obtain ⟨K, rfl⟩ : ∃ K, K = gk := ⟨_, rfl⟩
      go_loopg [8, 12] c (fun k v i wi => ∃ x : Nat, k + x = s + c ∧ s ≤ x ∧ i = .int .i64 (x : Int) ∧ (x = s ∨ x = s + c ∨ f x = false) ∧ wi.ownsRow B 64 2 v (dr f bb x).length (spC (dr f bb x)) ∧ w1.grownBy wi none)
      case atStart => exact ⟨s, by omega, Nat.le_refl _, rfl, Or.inl rfl, by rw [congrArg (dr f bb) HX.out.1]; exact HW2.out.1, HW2.out.2⟩
      case round =>
        obtain ⟨x, hkx, hsx, rfl, hx, hown, hg⟩ := hrel
        obtain ⟨qo, qc, rfl⟩ := span_form hown
        by_cases hk2 : 0 < gk
        · have HV := hide (And.intro hown (And.intro hg hx))
          have hxe : (x : Int) < (s : Int) + (c : Int) := by omega
          clear hown hg hx
          have hF := hide (F.out _ (grown_trans HG.out.1 HV.out.2.1) x (s + c) (by omega) (by omega))
          rw [Int.natCast_add] at hF
          go_wp2_with fail
          refine (hF.out).mono ?_
          rintro e w5 ⟨a, d, rfl, hfr, hg5⟩
          have hnx := fr_next hf HX.out.2.1 (fun i u v => by have := HX.out.2.2.1 (i - s) (by omega) (by omega); rwa [show s + (i - s) = i by omega] at this) hsx HV.out.2.2 (by omega) hfr
          have hd0 := heap_alloc_new w5 (.cells #[.int .i64 (a : Int), .int .i64 (d : Int)] 64)
          have HZ := hide (And.intro hg5 hnx)
          have hz0 := box2c hd0
          clear hg5 hfr hF
          rcases hnx with ⟨rfl, -⟩ | ⟨n1, n2, n3, n4, -⟩
          · go_wp2
            go_roundg (K - 1)
            case measure => omega
            case rel =>
              obtain ⟨h1, h2⟩ := HZ.out
              rcases h2 with ⟨-, h2⟩ | ⟨h2, -⟩
              · refine ⟨j + 1, by omega, by go_num, ?_, grown_trans (grown_trans HV.out.2.1 h1) (grown_alloc _ _)⟩
                rw [HX.out.2.2.2, ← HX.out.1, h2]
                exact span_grown (span_grown HV.out.1 h1) (grown_alloc _ _)
              · omega
          · have hd1 : (d : Int) ≠ 0 := by omega
            have hlen : (dr f bb x).length ≤ 100000 := by have := dr_len f bb x; omega
            have hbase : B ≤ w5.heap.size + 2 := by
              have h1 := HV.out.2.1.size
              have h2 := HZ.out.1.size
              have h3 := HBw.out
              omega
            have hat := cell2_new (w5.alloc (.cells #[.int .i64 (a : Int), .int .i64 (d : Int)] 64)) (.int .i64 (a : Int)) (.int .i64 (d : Int)) 64
            rw [alloc_size] at hat
            go_wp2_with (at_builtin; refine wpList_append_span rfl (.tmp 46) (.tmp 48) rfl B (.slice qo (dr f bb x).length qc) (dr f bb x) rfl (span_grown (span_grown (span_grown HV.out.1 HZ.out.1) (grown_alloc _ _)) (grown_alloc _ _)) ⟨w5.heap.size + 1, 0, none⟩ (a, d) rfl hat hlen ?_ ?_)
            · simp; omega
            · intro v' w6 hown6 hg6
              have hnb : ∀ k, k < B → (Value.slice qo (dr f bb x).length qc).ownBlock ≠ some k := fun k hk e => by have := (HV.out.1.lt k e).1; omega
              have hz1 := heap_kept (heap_kept hd0 (grown_alloc _ (.cells #[.int .i64 (a : Int), .int .i64 (d : Int)] 64)) (by simp)) hg6 (fun e => by
                have h1 := (HV.out.1.lt _ e.symm).2
                have h2 := HZ.out.1.size
                omega)
              have hw6 : w1.grownBy w6 none := grown_then (grown_trans (grown_trans (grown_trans HV.out.2.1 HZ.out.1) (grown_alloc _ _)) (grown_alloc _ _)) hg6 (fun k e => Or.inl (by have := (HV.out.1.lt k e).1; have := HBw.out; omega))
              have HQ := hide (And.intro hown6 hw6)
              obtain ⟨z0, z1⟩ := box2c hz1
              clear hown6 hg6 hw6 hz1 hnb
              go_wp2
              go_roundg (s + c - (a + d))
              case measure => omega
              case rel =>
                obtain ⟨h1, h2⟩ := HZ.out
                rcases h2 with ⟨h2, -⟩ | ⟨-, h3, h4, h5, h6⟩
                · omega
                · refine ⟨a + d, by omega, by omega, by go_num, ?_, ?_, HQ.out.2⟩
                  · rcases h5 with h5 | h5
                    · exact Or.inr (Or.inl h5)
                    · exact Or.inr (Or.inr h5)
                  · rw [h6, List.length_append]; exact HQ.out.1
        · have hxe : x = s + c := by omega
          subst hxe
          have hlt : ¬ ((s : Int) + (c : Int) < (s : Int) + (c : Int)) := by omega
          have HQ := hide (And.intro hown hg)
          clear hown hg
          go_wp2
          go_roundg (K - 1)
          case measure => omega
          case rel =>
            refine ⟨j + 1, by omega, by go_num, ?_, HQ.out.2⟩
            rw [HX.out.2.2.2, ← HX.out.1]
            exact HQ.out.1
    · have hj : j = N := by omega
      subst hj
      have HQ := hide (And.intro hown hg)
      clear hown hg
      go_wp2
      rw [Exit.noGoto_ret]
      go_ret2
      refine ⟨_, rfl, ?_, grown_trans HG.out.1 HQ.out.2⟩
      have h2 := HN.out
      have h3 := HE.out
      rw [← h2] at h3
      rw [← h3]
      exact span_base HQ.out.1 HBs.out
end Go.Proofs.YtnnmaknjhfjojaaGreatDoor
/- The library's slices.Sort of ints, laid at this program in plain words by lay-plain.mjs. -/
namespace Go.Proofs
open Go.Shelf
def Tryz.laysSort_ren : Go.Shelf.Ren := ⟨fun | 189 => 73 | 125 => 99 | 257 => 98 | 128 => 113 | 129 => 114 | 294 => 104 | 295 => 105 | 296 => 106 | 297 => 107 | 298 => 108 | 299 => 109 | 216 => 110 | 300 => 111 | 301 => 112 | 328 => 115 | 329 => 116 | 330 => 117 | 331 => 118 | 332 => 119 | 215 => 120 | 343 => 121 | n => n, fun | 28 => 22 | 3 => 3 | 46 => 190 | 0 => 0 | 51 => 150 | 53 => 59 | 4 => 4 | 183 => 198 | 182 => 197 | 131 => 203 | 5 => 5 | 9 => 9 | 218 => 207 | 222 => 211 | 228 => 214 | 229 => 215 | n => n, fun | n => n⟩
theorem Tryz.laysSort : Go.Proofs.Lays.n189 Tryz.prog Tryz.laysSort_ren := {
  mixed := by kernel_rfl
  f125 := Tryz.func99.trans (congrArg some (by kernel_rfl))
  f128 := Tryz.func113.trans (congrArg some (by kernel_rfl))
  f129 := Tryz.func114.trans (congrArg some (by kernel_rfl))
  f189 := Tryz.func73.trans (congrArg some (by kernel_rfl))
  f215 := Tryz.func120.trans (congrArg some (by kernel_rfl))
  f216 := Tryz.func110.trans (congrArg some (by kernel_rfl))
  f257 := Tryz.func98.trans (congrArg some (by kernel_rfl))
  f294 := Tryz.func104.trans (congrArg some (by kernel_rfl))
  f295 := Tryz.func105.trans (congrArg some (by kernel_rfl))
  f296 := Tryz.func106.trans (congrArg some (by kernel_rfl))
  f297 := Tryz.func107.trans (congrArg some (by kernel_rfl))
  f298 := Tryz.func108.trans (congrArg some (by kernel_rfl))
  f299 := Tryz.func109.trans (congrArg some (by kernel_rfl))
  f300 := Tryz.func111.trans (congrArg some (by kernel_rfl))
  f301 := Tryz.func112.trans (congrArg some (by kernel_rfl))
  f328 := Tryz.func115.trans (congrArg some (by kernel_rfl))
  f329 := Tryz.func116.trans (congrArg some (by kernel_rfl))
  f330 := Tryz.func117.trans (congrArg some (by kernel_rfl))
  f331 := Tryz.func118.trans (congrArg some (by kernel_rfl))
  f332 := Tryz.func119.trans (congrArg some (by kernel_rfl))
  f343 := Tryz.func121.trans (congrArg some (by kernel_rfl))
  t0 := Tryz.underlying0
  a0 := Tryz.isAgg0
  z0 := Tryz.sizeOf0
  v0 := Tryz.zeroValue0
  t3 := Tryz.underlying3
  a3 := Tryz.isAgg3
  z3 := Tryz.sizeOf3
  v3 := Tryz.zeroValue3
  t4 := Tryz.underlying4
  a4 := Tryz.isAgg4
  z4 := Tryz.sizeOf4
  v4 := Tryz.zeroValue4
  t5 := Tryz.underlying5
  a5 := Tryz.isAgg5
  z5 := Tryz.sizeOf5
  v5 := Tryz.zeroValue5
  t9 := Tryz.underlying9
  a9 := Tryz.isAgg9
  z9 := Tryz.sizeOf9
  v9 := Tryz.zeroValue9
  t28 := Tryz.underlying22
  a28 := Tryz.isAgg22
  z28 := Tryz.sizeOf22
  v28 := Tryz.zeroValue22
  t46 := Tryz.underlying190
  a46 := Tryz.isAgg190
  z46 := Tryz.sizeOf190
  v46 := Tryz.zeroValue190
  t51 := Tryz.underlying150
  a51 := Tryz.isAgg150
  z51 := Tryz.sizeOf150
  v51 := Tryz.zeroValue150
  t53 := Tryz.underlying59
  a53 := Tryz.isAgg59
  z53 := Tryz.sizeOf59
  v53 := Tryz.zeroValue59
  t131 := Tryz.underlying203
  a131 := Tryz.isAgg203
  z131 := Tryz.sizeOf203
  v131 := Tryz.zeroValue203
  t182 := Tryz.underlying197
  a182 := Tryz.isAgg197
  z182 := Tryz.sizeOf197
  v182 := Tryz.zeroValue197
  t183 := Tryz.underlying198
  a183 := Tryz.isAgg198
  z183 := Tryz.sizeOf198
  v183 := Tryz.zeroValue198
  t218 := Tryz.underlying207
  a218 := Tryz.isAgg207
  z218 := Tryz.sizeOf207
  v218 := Tryz.zeroValue207
  t222 := Tryz.underlying211
  a222 := Tryz.isAgg211
  z222 := Tryz.sizeOf211
  v222 := Tryz.zeroValue211
  t228 := Tryz.underlying214
  a228 := Tryz.isAgg214
  z228 := Tryz.sizeOf214
  v228 := Tryz.zeroValue214
  t229 := Tryz.underlying215
  a229 := Tryz.isAgg215
  z229 := Tryz.sizeOf215
  v229 := Tryz.zeroValue215 }
end Go.Proofs
/- The library's sort over a row that the call made; the best run. -/
namespace Go.Proofs.YtnnmaknjhfjojaaGreatDoor
open Go.RowKit Cx Pn
attribute [local go_sem ↓] Go.wp_at_zero Go.wp_at_succ

theorem sort_any (B n : Nat) (v : Value) (xs : List Int) (w : World) (hn : 0 < n) (h : w.ownsRow B 3 1 v n (xs.map (Value.int .i64))) (hsz : n ≤ 100000) :
    Calls Tryz.prog 73 #[v] w fun e w' => e = .returned (.tuple #[]) ∧ w'.ownsRow B 3 1 v n ((xs.mergeSort fun x y => decide (x ≤ y)).map (Value.int .i64)) ∧ w.grownBy w' v.ownBlock := by
  obtain ⟨hl, h⟩ := h
  rcases h with ⟨_, h0⟩ | ⟨g, cap, cur, rfl, hb, hg, h1, h2, h3, h4⟩
  · omega
  have hxl : xs.length = n := by simpa using hl
  have hg' : w.heap[g]? = some (.cells cur.toList.toArray 3 (0, 0)) := by simpa using hg
  have hH : Go.Sort.Holds (Value.int .i64) w g 0 xs.toArray := by
    intro j hj
    have hj2 : j < xs.length := by simpa using hj
    refine ⟨?_, free_row hg _⟩
    rw [Nat.zero_add, cell_row hg']
    have h5 : (cur.toList.take (n * 1))[j]? = some (Value.int .i64 xs[j]) := by rw [h4]; simp [hj2]
    rw [List.getElem?_take] at h5
    split at h5
    · rw [h5]; simp [hj2]
    · cases h5
  have hso := Any.slices_Sort_int Tryz.laysSort g 0 cap xs w hH (row_lt hg) (by omega)
  rw [hxl] at hso
  refine Calls.mono hso ?_
  rintro e w' ⟨rfl, k, os, rfl⟩
  generalize hys : (xs.mergeSort fun x y => decide (x ≤ y)) = ys
  have hyl : ys.length = n := by rw [← hys, List.length_mergeSort, hxl]
  have hnew : (Go.Sort.grow (Go.Sort.putRow (Value.int .i64) (Go.Sort.ahead w k) g 0 ys.toArray) os).heap[g]? = some (.cells (Go.Sort.putCells (Value.int .i64) 0 ys.toArray cur) 3 (0, 0)) := by
    rw [Go.Sort.heap_grow_old _ _ (by rw [Go.Sort.size_putRow]; exact row_lt hg)]
    unfold Go.Sort.putRow Go.Sort.mapBlock
    rw [Array.getElem?_modify, if_pos rfl, Go.Sort.heap_ahead, hg]
    rfl
  refine ⟨rfl, ⟨by simp [hyl], Or.inr ⟨g, cap, _, rfl, hb, hnew, h1, h2, ?_, ?_⟩⟩, rfl, rfl, rfl, ?_, ?_⟩
  · unfold Go.Sort.putCells; rw [Array.size_mapIdx]; exact h3
  · apply List.ext_getElem?
    intro j
    rw [List.getElem?_take, List.getElem?_map]
    unfold Go.Sort.putCells
    rw [Array.getElem?_toList, Array.getElem?_mapIdx]
    have hsz2 : n ≤ cur.size := by omega
    by_cases hj : j < n
    · rw [if_pos (by omega), Array.getElem?_eq_getElem (by omega), List.getElem?_eq_getElem (by omega)]
      simp [hyl, hj]
    · rw [if_neg (by omega), List.getElem?_eq_none (by omega)]; rfl
  · rw [Go.Sort.size_grow, Go.Sort.size_putRow]; exact Nat.le_add_right _ _
  · intro i hi hne
    rw [Go.Sort.heap_grow_old _ _ (by rw [Go.Sort.size_putRow]; exact hi)]
    unfold Go.Sort.putRow Go.Sort.mapBlock
    rw [Array.getElem?_modify, if_neg (fun e => hne (by rw [← e]; rfl))]
    rfl
end Go.Proofs.YtnnmaknjhfjojaaGreatDoor
