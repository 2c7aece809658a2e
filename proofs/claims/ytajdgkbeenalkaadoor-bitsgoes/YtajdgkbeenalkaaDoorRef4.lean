/- The contracts of the document's own set, continued: Bytes. -/
import Derived.Test.YtajdgkbeenalkaaDoorRef3
namespace Go.Proofs.YtajdgkbeenalkaaDoor
open Go.RowKit Go.Shelf
attribute [local go_sem ↓] Go.wp_at_zero Go.wp_at_succ

theorem bits_or_u8_nat (a b : Nat) (ha : a < 256) (hb : b < 256) : bits .or .u8 (a : Int) (b : Int) = ((a ||| b : Nat) : Int) := by
  have hx : a ||| b < 2 ^ 8 := Nat.or_lt_two_pow (by omega) (by omega)
  have h1 : (BitVec.ofInt 8 (a : Int)).toNat = a := by
    rw [BitVec.ofInt_natCast, BitVec.toNat_ofNat]; exact Nat.mod_eq_of_lt (by omega)
  have h2 : (BitVec.ofInt 8 (b : Int)).toNat = b := by
    rw [BitVec.ofInt_natCast, BitVec.toNat_ofNat]; exact Nat.mod_eq_of_lt (by omega)
  show IntKind.u8.wrap ((BitVec.ofInt 8 (a : Int) ||| BitVec.ofInt 8 (b : Int)).toNat : Int) = _
  rw [BitVec.toNat_or, h1, h2]
  simp [IntKind.wrap, IntKind.bits, IntKind.signed]
  omega

/-- The byte k of the numbers below i. -/
def bytTo (L : List Bool) (i k : Nat) : Nat := ofB (fun j => decide (8 * k + j < i) && L.getD (8 * k + j) false) 8
theorem bytTo_lt (L : List Bool) (i k : Nat) : bytTo L i k < 256 := ofB_lt _ 8
theorem bytTo_zero (L : List Bool) (k : Nat) : bytTo L 0 k = 0 := by
  apply Nat.eq_of_testBit_eq
  intro j
  rw [bytTo, ofB_bit]; simp
theorem bytTo_full (L : List Bool) (k : Nat) : bytTo L L.length k = bytN L k := by
  apply ofB_congr
  intro j _
  by_cases h : 8 * k + j < L.length
  · simp [h]
  · rw [getD_out L _ (by omega)]; simp
theorem bytTo_false (L : List Bool) (i k : Nat) (h : L.getD i false = false) : bytTo L (i + 1) k = bytTo L i k := by
  apply ofB_congr
  intro j _
  by_cases e : 8 * k + j = i
  · rw [e, h]; simp
  · have : decide (8 * k + j < i + 1) = decide (8 * k + j < i) := by rw [decide_eq_decide]; omega
    rw [this]
theorem bytTo_other (L : List Bool) (i k : Nat) (h : k ≠ i / 8) : bytTo L (i + 1) k = bytTo L i k := by
  apply ofB_congr
  intro j hj
  have : decide (8 * k + j < i + 1) = decide (8 * k + j < i) := by rw [decide_eq_decide]; omega
  rw [this]
theorem bytTo_true (L : List Bool) (i : Nat) (h : L.getD i false = true) : bytTo L (i + 1) (i / 8) = bytTo L i (i / 8) ||| 2 ^ (i % 8) := by
  apply Nat.eq_of_testBit_eq
  intro j
  rw [testBit_or_bit, bytTo, bytTo, ofB_bit, ofB_bit]
  by_cases e : j = i % 8
  · subst e
    have e2 : 8 * (i / 8) + i % 8 = i := by omega
    rw [if_pos rfl, e2, h]
    simp; omega
  · rw [if_neg e]
    by_cases hj : j < 8
    · have : decide (8 * (i / 8) + j < i + 1) = decide (8 * (i / 8) + j < i) := by rw [decide_eq_decide]; omega
      rw [this]
    · simp [hj]
def bytRow (L : List Bool) (m i : Nat) : List Value := (List.range m).map fun k => Value.int .u8 (bytTo L i k : Int)
theorem bytRow_false (L : List Bool) (m i : Nat) (h : L.getD i false = false) : bytRow L m (i + 1) = bytRow L m i := by
  unfold bytRow
  apply List.map_congr_left
  intro k _
  rw [bytTo_false L i k h]
theorem bytRow_true (L : List Bool) (m i : Nat) (h : L.getD i false = true) : bytRow L m (i + 1) = (bytRow L m i).set (i / 8) (.int .u8 ((bytTo L i (i / 8) ||| 2 ^ (i % 8) : Nat) : Int)) := by
  unfold bytRow
  apply List.ext_getElem?
  intro k
  rw [List.getElem?_set]
  by_cases hk : k < m
  · by_cases e : i / 8 = k
    · subst e
      simp [hk, bytTo_true L i h]
    · simp [e, hk, bytTo_other L i k (fun x => e x.symm)]
  · have : (List.range m)[k]? = none := by simp; omega
    simp [this]
    intro e1
    omega

set_option maxHeartbeats 1000000 in
theorem rbytes_any (d r : Nat) (t : Bool) (L : List Bool) (w : World) (h : RefAt w d r t L) :
    Calls Tryd.prog 46 #[.pointer (some ⟨d, 0, none⟩)] w fun e w' => e = .returned (.slice (some ⟨w.heap.size, 0, none⟩) ((L.length + 7) / 8) ((L.length + 7) / 8)) ∧
      w'.heap[w.heap.size]? = some (.cells ((bytesL L).map (Value.int .u8)).toArray 5 (0, 0)) ∧ w.grownBy w' none := by
  obtain ⟨ao, cap, hc, _, hat⟩ := h.bools
  have hsm := h.small
  have hdl := h.lt
  have hmm : (L.length + 7) / 8 ≤ 8192 := by omega
  have hm8 : L.length ≤ 8 * ((L.length + 7) / 8) := by omega
  have hmk : ∀ w : World, (Instr.makeSlice 46 (.int .i64 (((L.length : Int) + 7) / 8)) (.int .i64 (((L.length : Int) + 7) / 8))).run Tryd.prog w = .ok (.slice (some ⟨w.heap.size, 0, none⟩) ((L.length + 7) / 8) ((L.length + 7) / 8)) (w.alloc (.cells (bytRow L ((L.length + 7) / 8) 0).toArray 5)) := by
    intro w
    rw [show ((L.length : Int) + 7) / 8 = (((L.length + 7) / 8 : Nat) : Int) by omega, make_bytes _ (by omega)]
    congr 3
    apply congrArg
    unfold bytRow
    simp [bytTo_zero, List.map_const']
  have hfin : Hid (bytRow L ((L.length + 7) / 8) L.length = (bytesL L).map (Value.int .u8)) := by
    show _ = _
    unfold bytRow bytesL
    rw [List.map_map]
    apply List.map_congr_left
    intro k _
    simp [bytTo_full]
  generalize (L.length + 7) / 8 = m at *
  have HA := hide (And.intro hat hc)
  clear h hat
  go_enter Tryd.func46, Tryd.ntmps46
  go_wp2
  generalize hG : w.heap.size = G at *
  have HG := hide hG
  clear hG
  go_loopg [4] L.length (fun k I wr => ∃ j : Nat, k + j = L.length ∧ I = .int .i64 (j : Int) ∧ Hid (wr.heap[G]? = some (.cells (bytRow L m j).toArray 5 (0, 0)) ∧ w.grownBy wr none))
  case atStart =>
    refine ⟨0, by omega, rfl, hide ⟨?_, World.grownBy_alloc w _ none⟩⟩
    have := heap_alloc_new w (.cells (bytRow L m 0).toArray 5)
    rw [HG.out] at this
    exact this
  case round =>
    obtain ⟨j, hkj, rfl, hO⟩ := hrel
    obtain ⟨hat0, hc0⟩ := HA.out
    have hcw := hO.out.2.cell hc0 (by simp)
    have hat := hat0.grown hO.out.2
    clear hat0 hc0
    by_cases hk : 0 < gk
    · have hj : j < L.length := by omega
      obtain ⟨a, rfl, hcell⟩ := RefAt.bool hat hj
      have h1 : (0 : Int) ≤ (j : Int) := by omega
      have h2 : (j : Int) < (L.length : Int) := by omega
      cases hv : L.getD j false with
      | false =>
        rw [hv] at hcell
        have HN : Hid (wr.heap[G]? = some (.cells (bytRow L m (j + 1)).toArray 5 (0, 0)) ∧ w.grownBy wr none) := by
          rw [bytRow_false L m j hv]; exact hO
        clear hv hat
        go_wp2
        go_roundg (gk - 1)
        case measure => omega
        case rel => exact ⟨j + 1, by omega, by go_num, HN⟩
      | true =>
        rw [hv] at hcell
        have hjm : j / 8 < m := by omega
        have hrow := hO.out.1
        have hfr := free_row hrow (j / 8)
        have hold : wr.cell? ⟨G, j / 8, none⟩ = some (.int .u8 (bytTo L j (j / 8) : Int)) := by rw [cell_row hrow]; simp [bytRow, hjm]
        have hlt := bytTo_lt L j (j / 8)
        have hpl : (2 : Nat) ^ (j % 8) < 256 := Nat.pow_lt_pow_right (a := 2) (by decide) (m := j % 8) (n := 8) (by omega)
        have hor := bits_or_u8_nat (bytTo L j (j / 8)) (2 ^ (j % 8)) hlt hpl
        have hsh : ((2 : Int) ^ (j % 8) % 256) = ((2 ^ (j % 8) : Nat) : Int) := by
          have e : ((2 : Int) ^ (j % 8)) = ((2 ^ (j % 8) : Nat) : Int) := by simp
          rw [e]
          generalize (2 : Nat) ^ (j % 8) = y at hpl
          omega
        rw [← hsh] at hor
        have HN : Hid ((wr.setCell ⟨G, j / 8, none⟩ (.int .u8 ((bytTo L j (j / 8) ||| 2 ^ (j % 8) : Nat) : Int))).heap[G]? = some (.cells (bytRow L m (j + 1)).toArray 5 (0, 0)) ∧ w.grownBy (wr.setCell ⟨G, j / 8, none⟩ (.int .u8 ((bytTo L j (j / 8) ||| 2 ^ (j % 8) : Nat) : Int))) none) := by
          refine ⟨?_, grown_then hO.out.2 (grown_setCell _ _ _ _) (fun k e => by cases e; left; rw [HG.out]; exact Nat.le_refl _)⟩
          rw [bytRow_true L m j hv]
          exact row_setCell hrow _ _
        have h3 : (j : Int) / 8 < (m : Int) := by omega
        clear hv hat hrow hfin hsh
        generalize bytTo L j (j / 8) = x at *
        generalize x ||| 2 ^ (j % 8) = y at *
        go_wp2
        go_roundg (gk - 1)
        case measure => omega
        case rel => exact ⟨j + 1, by omega, by go_num, HN⟩
    · have hj : j = L.length := by omega
      subst hj
      clear hat
      go_wp2
      go_ret
      refine ⟨by rw [HG.out]; rfl, ?_, hO.out.2⟩
      rw [HG.out, hO.out.1, hfin.out]

end Go.Proofs.YtajdgkbeenalkaaDoor
