/- The contract of a set's Bytes. -/
import Derived.Test.YtajdgkbeenalkaaDoorSeek
namespace Go.Proofs.YtajdgkbeenalkaaDoor
open Go.RowKit
attribute [local go_sem ↓] Go.wp_at_zero Go.wp_at_succ

/-- The number of which f tells the bits below n. -/
def ofB (f : Nat → Bool) : Nat → Nat
  | 0 => 0
  | n + 1 => ofB f n + (f n).toNat * 2 ^ n
theorem ofB_lt (f : Nat → Bool) (n : Nat) : ofB f n < 2 ^ n := by
  induction n with
  | zero => simp [ofB]
  | succ n ih =>
    rw [ofB, Nat.pow_succ]
    have h1 := Bool.toNat_le (f n)
    have : (f n).toNat * 2 ^ n ≤ 1 * 2 ^ n := Nat.mul_le_mul_right _ h1
    omega
theorem ofB_bit (f : Nat → Bool) (n j : Nat) : (ofB f n).testBit j = (decide (j < n) && f j) := by
  induction n with
  | zero => simp [ofB]
  | succ n ih =>
    rw [ofB, Nat.add_comm, Nat.mul_comm, Nat.testBit_two_pow_mul_add _ (ofB_lt f n), ih]
    by_cases h : j < n
    · simp [h, show j < n + 1 by omega]
    · rw [if_neg h]
      by_cases e : j = n
      · subst e
        cases f j <;> simp
      · obtain ⟨d, hd⟩ : ∃ d, j - n = d + 1 := ⟨j - n - 1, by omega⟩
        rw [hd]
        cases f n <;> simp [show ¬ j < n + 1 by omega, Nat.testBit_succ]
theorem ofB_congr (f g : Nat → Bool) (n : Nat) (h : ∀ i, i < n → f i = g i) : ofB f n = ofB g n := by
  induction n with
  | zero => rfl
  | succ n ih => rw [ofB, ofB, ih (fun i hi => h i (by omega)), h n (by omega)]

/-- The set's byte k. -/
def bytN (L : List Bool) (k : Nat) : Nat := ofB (fun j => L.getD (8 * k + j) false) 8
theorem bytN_lt (L : List Bool) (k : Nat) : bytN L k < 256 := ofB_lt _ 8
/-- Its bytes. -/
def bytesL (L : List Bool) : List Int := (List.range ((L.length + 7) / 8)).map fun k => (bytN L k : Int)
theorem bytesL_length (L : List Bool) : (bytesL L).length = (L.length + 7) / 8 := by simp [bytesL]
theorem bytesL_at (L : List Bool) (k : Nat) (h : k < (L.length + 7) / 8) : (bytesL L)[k]? = some (bytN L k : Int) := by simp [bytesL, h]

theorem rep_byte {W : List Nat} {L : List Bool} (h : Rep W L) (k : Nat) : W.getD (k / 8) 0 / 2 ^ (8 * (k % 8)) % 256 = bytN L k := by
  apply Nat.eq_of_testBit_eq
  intro j
  rw [show (256 : Nat) = 2 ^ 8 from rfl, Nat.testBit_mod_two_pow, ← Nat.shiftRight_eq_div_pow, Nat.testBit_shiftRight, bytN, ofB_bit]
  by_cases hj : j < 8
  · have e1 : (8 * k + j) / 64 = k / 8 := by omega
    have e2 : (8 * k + j) % 64 = 8 * (k % 8) + j := by omega
    have := h.is (8 * k + j)
    simp only [mem, e1, e2] at this
    rw [this]
  · simp [hj]

theorem Tryd.info5 : (Tryd.prog.info? 5).map (fun i => (i.zero, i.size, i.bytes)) = some (some (.int .u8 0), 1, 1) := by kernel_rfl
theorem made_zrow (n : Nat) : madeCells #[.int .u8 0] n = (List.replicate n (Value.int .u8 0)).toArray := by
  apply Array.ext'
  rw [toList_madeCells_one]
theorem make_bytes (n : Nat) (h : n ≤ 281474976710656) (w : World) : (Instr.makeSlice 46 (.int .i64 (n : Int)) (.int .i64 (n : Int))).run Tryd.prog w = .ok (.slice (some ⟨w.heap.size, 0, none⟩) n n) (w.alloc (.cells (List.replicate n (Value.int .u8 0)).toArray 5)) := by
  rw [run_make_row' (P := Tryd.prog) 46 5 (.int .u8 0) 1 Tryd.underlying46 Tryd.info5 rfl .i64 .i64 n (by omega) (by omega) w, made_zrow]

set_option maxHeartbeats 400000 in
theorem bytes_none (p : Option Addr) (w : World) (h : NoSet w p) : Calls Tryd.prog 26 #[.pointer p] w fun e w' => e = .returned (.slice none 0 0) ∧ w' = w := by
  have H := hide h.is
  clear h
  go_enter Tryd.func26, Tryd.ntmps26
  go_wp2_with fail
  refine H.out.mono ?_
  rintro e w' ⟨rfl, rfl⟩
  go_wp2
  go_ret
  exact ⟨rfl, rfl⟩

theorem take_set_succ {α : Type} (l : List α) (j : Nat) (u : α) (h : j < l.length) : (l.set j u).take (j + 1) = l.take j ++ [u] := by
  rw [List.take_succ_eq_append_getElem (by simpa using h)]
  simp [List.take_set_of_le]

set_option maxHeartbeats 1000000 in
theorem bytes_any (b g : Nat) (L : List Bool) (w : World) (h : SetAt w b g L) :
    Calls Tryd.prog 26 #[.pointer (some ⟨b, 0, none⟩)] w fun e w' => e = .returned (.slice (some ⟨w.heap.size, 0, none⟩) ((L.length + 7) / 8) ((L.length + 7) / 8)) ∧
      w'.heap[w.heap.size]? = some (.cells ((bytesL L).map (Value.int .u8)).toArray 5 (0, 0)) ∧ w.grownBy w' none := by
  obtain ⟨W, cap, hc, hcap, hcap2, hR, hcells⟩ := h.words
  have hn := isNone_at b true w h.made
  have hs := size_any b g L w h
  have hsm := h.small
  have hlen := hR.len
  have hbg := h.lt
  generalize hm : (L.length + 7) / 8 = m at *
  have hmm : m ≤ 8192 := by omega
  have hmk := make_bytes m (by omega)
  have H := hide (And.intro hcells (And.intro hR hm))
  have HN := hide hn
  have HS := hide hs
  have hW : m ≤ 8 * W.length := by omega
  clear hcells hn hlen hR h hsm hm hs
  go_enter Tryd.func26, Tryd.ntmps26
  go_wp2_with fail
  refine HN.out.mono ?_
  rintro e w' ⟨rfl, rfl⟩
  go_wp2_with fail
  refine HS.out.mono ?_
  rintro e w' ⟨rfl, rfl⟩
  clear HN HS
  go_wp2
  generalize hG : w'.heap.size = G at *
  have hbG : b < G := by omega
  have hgG : g < G := by omega
  have HG := hide hG
  clear hG
  go_loopg [12] m (fun k i wr => ∃ (j : Nat) (l : List Value), k + j = m ∧ i = .int .i64 (j : Int) ∧ Hid (wr.heap[G]? = some (.cells l.toArray 5 (0, 0)) ∧ l.take j = ((bytesL L).map (Value.int .u8)).take j) ∧ l.length = m ∧ w'.grownBy wr none)
  case atStart =>
    refine ⟨0, List.replicate m (Value.int .u8 0), by omega, rfl, hide ⟨?_, by simp⟩, by simp, World.grownBy_alloc w' _ _⟩
    have := heap_alloc_new w' (.cells (List.replicate m (Value.int .u8 0)).toArray 5)
    rw [HG.out] at this
    simpa using this
  case round =>
    obtain ⟨j, l, hkj, rfl, hl, hll, hg⟩ := hrel
    by_cases hk : 0 < gk
    · have hj : j < m := by omega
      obtain ⟨hcells, hR, hm⟩ := H.out
      have hw : j / 8 < W.length := by omega
      have hcell := hg.cell (hcells (j / 8) (W.getD (j / 8) 0) (by rw [List.getD_eq_getElem?_getD, List.getElem?_eq_getElem hw]; rfl)) (by simp)
      have hc' := hg.cell hc (by simp)
      have hlt := hR.getD_lt (j / 8)
      have hby := rep_byte hR j
      have hfr := free_row hl.out.1 j
      have hold : wr.cell? ⟨G, j, none⟩ = some l[j] := by rw [cell_row hl.out.1, List.getElem?_eq_getElem (by omega)]
      have hat := bytesL_at L j (by omega)
      generalize W.getD (j / 8) 0 = x at *
      generalize l[j] = u0 at *
      have h1 : (0 : Int) ≤ (j : Int) := by omega
      have h2 : (j : Int) < (m : Int) := by omega
      have h3 : (j : Int) / 8 < (W.length : Int) := by omega
      have HA := hide (And.intro hby hat)
      clear hcells hR hm hby hat hc
      go_wp2
      have HGG := HG.out
      have e : Value.int .u8 ((x : Int) / 2 ^ (8 * (j % 8)) % 256) = Value.int .u8 (bytN L j : Int) := by
        rw [← HA.out.1]; rfl
      rw [e]
      go_roundg (gk - 1)
      case measure => omega
      case rel =>
        obtain ⟨k1, k2⟩ := hl.out
        refine ⟨j + 1, l.set j (.int .u8 (bytN L j : Int)), by omega, rfl, hide ⟨row_setCell k1 _ _, ?_⟩, by simpa using hll, ?_⟩
        · rw [take_set_succ l j _ (by omega), k2]
          rw [List.take_add_one, List.getElem?_map, HA.out.2]
          rfl
        · exact grown_then hg (grown_setCell wr G j _) (fun k e => by cases e; left; omega)
    · have hj : j = m := by omega
      subst hj
      go_wp2
      go_ret
      refine ⟨by rw [HG.out]; rfl, ?_, hg⟩
      obtain ⟨h1, h2⟩ := hl.out
      have h3 : l = (bytesL L).map (Value.int .u8) := by
        rw [List.take_of_length_le (by omega), List.take_of_length_le (by simp [bytesL_length]; have := H.out.2.2; omega)] at h2
        exact h2
      rw [HG.out, h1, h3]

end Go.Proofs.YtajdgkbeenalkaaDoor
