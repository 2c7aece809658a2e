/- The contract of the document's own Of. -/
import Derived.Test.YtajdgkbeenalkaaDoorRef
import Derived.Test.YtajdgkbeenalkaaDoorOf
namespace Go.Proofs.YtajdgkbeenalkaaDoor
open Go.RowKit Go.Shelf
attribute [local go_sem ↓] Go.wp_at_zero Go.wp_at_succ

theorem ref_zero_any {w w' : World} (hg : w.grownBy w' none) : RefAt (w'.alloc (.cells #[.bool false, .slice none 0 0] 33)) w'.heap.size 0 false [] ∧ w.grownBy (w'.alloc (.cells #[.bool false, .slice none 0 0] 33)) none :=
  ⟨ref_zero w', grown_trans hg (World.grownBy_alloc w' _ none)⟩

set_option maxHeartbeats 400000 in
theorem rof_bad (n : Int) (ao : Option Addr) (m cap : Nat) (w : World) (h : n < 0 ∨ 65536 < n) :
    Calls Tryd.prog 21 #[.int .i64 n, .slice ao m cap] w fun e w' => ∃ d r, e = .returned (.tuple #[.pointer (some ⟨d, 0, none⟩), .int .i64 2]) ∧ RefAt w' d r false [] ∧ w.grownBy w' none := by
  have H := hide (rnew_bad n w h)
  clear h
  go_enter Tryd.func21, Tryd.ntmps21
  go_wp2_with fail
  refine H.out.mono ?_
  rintro e w' ⟨rfl, h1, h2⟩
  have HR := hide (And.intro h1 h2)
  clear h1 h2
  go_wp2
  go_ret2
  exact ⟨_, _, rfl, HR.out.1, HR.out.2⟩

set_option maxHeartbeats 1000000 in
theorem rof_long (n : Nat) (hn : n ≤ 65536) (ao : Option Addr) (m cap : Nat) (w : World) (hm : m ≠ (n + 7) / 8) :
    Calls Tryd.prog 21 #[.int .i64 (n : Int), .slice ao m cap] w fun e w' => ∃ d r, e = .returned (.tuple #[.pointer (some ⟨d, 0, none⟩), .int .i64 3]) ∧ RefAt w' d r false [] ∧ w.grownBy w' none := by
  go_enter Tryd.func21, Tryd.ntmps21
  go_wp2_with fail
  refine (rnew_any n w hn).mono ?_
  rintro e w1 ⟨d, r, rfl, hR, hb, hg, hg1⟩
  have H1 := hide (ref_zero_any hg1)
  have hne : ¬ (m : Int) = ((n : Int) + 7) / 8 := by omega
  have hnn : (n : Int) ≤ 65536 := by omega
  clear hR hg1
  go_wp2
  go_ret2
  exact ⟨_, _, rfl, H1.out.1, H1.out.2⟩

/-- The numbers below j that the bytes tell of. -/
def refTo (xs : List Nat) (n j : Nat) : List Bool := (List.range n).map fun i => decide (i < j) && bitB xs i
theorem refTo_length (xs : List Nat) (n j : Nat) : (refTo xs n j).length = n := by simp [refTo]
theorem refTo_zero (xs : List Nat) (n : Nat) : refTo xs n 0 = List.replicate n false := by simp [refTo, List.map_const']
theorem refTo_full (xs : List Nat) (n j : Nat) (h : n ≤ j) : refTo xs n j = ofL xs n := by
  unfold refTo ofL
  apply List.map_congr_left
  intro i hi
  have := List.mem_range.1 hi
  simp; omega
theorem refTo_false (xs : List Nat) (n j : Nat) (h : bitB xs j = false) : refTo xs n (j + 1) = refTo xs n j := by
  unfold refTo
  apply List.map_congr_left
  intro i _
  by_cases e : i = j
  · subst e; rw [h]; simp
  · have : decide (i < j + 1) = decide (i < j) := by rw [decide_eq_decide]; omega
    rw [this]
theorem refTo_true (xs : List Nat) (n j : Nat) (h : bitB xs j = true) (hj : j < n) : refTo xs n (j + 1) = (refTo xs n j).set j true := by
  unfold refTo
  apply List.ext_getElem?
  intro i
  rw [List.getElem?_set]
  by_cases e : j = i
  · subst e; simp [hj, h]
  · rw [if_neg e]
    by_cases hi : i < n
    · simp [hi]
      have : decide (i < j + 1) = decide (i < j) := by rw [decide_eq_decide]; omega
      rw [this]
    · simp [hi]

theorem bit_u8 (x k : Nat) (hx : x < 256) : bits .and .u8 ((x : Int) / 2 ^ k) 1 = if x.testBit k then 1 else 0 := by
  have h1 : ((x : Int) / 2 ^ k) = ((x / 2 ^ k : Nat) : Int) := by simp
  have hlt : x / 2 ^ k < 256 := Nat.lt_of_le_of_lt (Nat.div_le_self _ _) hx
  rw [h1, Nat.testBit_eq_decide_div_mod_eq]
  show IntKind.u8.wrap ((BitVec.ofInt 8 ((x / 2 ^ k : Nat) : Int) &&& BitVec.ofInt 8 (1 : Int)).toNat : Int) = _
  have e : (BitVec.ofInt 8 ((x / 2 ^ k : Nat) : Int) &&& BitVec.ofInt 8 (1 : Int)).toNat = x / 2 ^ k % 2 := by
    rw [BitVec.toNat_and, BitVec.ofInt_natCast, BitVec.toNat_ofNat, Nat.mod_eq_of_lt (by omega)]
    exact Nat.and_two_pow_sub_one_eq_mod (x / 2 ^ k) 1
  rw [e]
  generalize x / 2 ^ k = y
  have : y % 2 = 0 ∨ y % 2 = 1 := by omega
  rcases this with h | h <;> rw [h] <;> rfl

set_option maxHeartbeats 2000000 in
theorem rof_loop (n : Nat) (hn : n ≤ 65536) (ao : Option Addr) (m cap : Nat) (xs : List Nat) (w : World) (hxm : xs.length = m) (hm : m = (n + 7) / 8) (hx : ∀ x ∈ xs, x < 256)
    (hat : AtV w ao (xs.map fun (x : Nat) => Value.int .u8 (x : Int))) :
    Calls Tryd.prog 21 #[.int .i64 (n : Int), .slice ao m cap] w fun e w' => ∃ d r,
      ((∀ i, n ≤ i → bitB xs i = false) ∧ e = .returned (.tuple #[.pointer (some ⟨d, 0, none⟩), .int .i64 0]) ∧ RefAt w' d r true (ofL xs n) ∧ w.heap.size ≤ d ∧ w.heap.size ≤ r ∧ w.grownBy w' none) ∨
      ((¬ ∀ i, n ≤ i → bitB xs i = false) ∧ e = .returned (.tuple #[.pointer (some ⟨d, 0, none⟩), .int .i64 5]) ∧ RefAt w' d r false [] ∧ w.grownBy w' none) := by
  have hmb : m ≤ 8192 := by omega
  have hmn : n ≤ 8 * m := by omega
  have heq : (m : Int) = ((n : Int) + 7) / 8 := by omega
  have HX := hide (And.intro hxm (And.intro hm hat))
  have HE := hide heq
  clear hxm hm hat heq
  go_enter Tryd.func21, Tryd.ntmps21
  go_wp2_with fail
  refine (rnew_any n w hn).mono ?_
  rintro e w1 ⟨d, r, rfl, hR, hd, hr, hg1⟩
  rw [← refTo_zero xs n] at hR
  have H1 := hide (And.intro hR hg1)
  clear hR hg1
  have hne : ((n : Int) + 7) / 8 = (m : Int) := HE.out.symm
  have hnn : (n : Int) ≤ 65536 := by omega
  go_wp2
  clear hne
  go_loopg [8] (8 * m) (fun k I wr => ∃ j : Nat, k + j = 8 * m ∧ I = .int .i64 (j : Int) ∧ Hid (RefAt wr d r true (refTo xs n j) ∧ w.grownBy wr none ∧ ∀ i, n ≤ i → i < j → bitB xs i = false))
  case atStart => exact ⟨0, by omega, rfl, hide ⟨H1.out.1, H1.out.2, fun i h1 h2 => by omega⟩⟩
  case round =>
    obtain ⟨j, hkj, rfl, hO⟩ := hrel
    have hmm : (m : Int) ≤ 8192 := by omega
    by_cases hk : 0 < gk
    · obtain ⟨hxm, hm, hat⟩ := HX.out
      have hj : j / 8 < xs.length := by omega
      obtain ⟨a, rfl, hca⟩ := hat (j / 8) (.int .u8 (xs.getD (j / 8) 0 : Nat)) (by simp [List.getD_eq_getElem?_getD, hj])
      have hca' := hO.out.2.1.cell hca (by simp)
      have hxj : xs.getD (j / 8) 0 < 256 := by rw [List.getD_eq_getElem?_getD, List.getElem?_eq_getElem hj]; exact hx _ (List.getElem_mem hj)
      have hbit := bit_u8 (xs.getD (j / 8) 0) (j % 8) hxj
      have hbb : (xs.getD (j / 8) 0).testBit (j % 8) = bitB xs j := rfl
      rw [hbb] at hbit
      have h1 : (0 : Int) ≤ (j : Int) := by omega
      have h2 : (j : Int) < 8 * (m : Int) := by omega
      have h3 : (j : Int) / 8 < (m : Int) := by omega
      clear hca hat hbb hxm hm hj
      cases hv : bitB xs j with
      | false =>
        rw [hv] at hbit
        have HN : Hid (RefAt wr d r true (refTo xs n (j + 1)) ∧ w.grownBy wr none ∧ ∀ i, n ≤ i → i < j + 1 → bitB xs i = false) := by
          rw [refTo_false xs n j hv]
          refine ⟨hO.out.1, hO.out.2.1, fun i h1 h2 => ?_⟩
          by_cases e : i = j
          · subst e; exact hv
          · exact hO.out.2.2 i h1 (by omega)
        simp only [Bool.false_eq_true, if_false] at hbit
        generalize xs.getD (j / 8) 0 = x at *
        clear hv
        go_wp2
        go_roundg (gk - 1)
        case measure => omega
        case rel => exact ⟨j + 1, by omega, by go_num, HN⟩
      | true =>
        rw [hv] at hbit
        simp only [if_true] at hbit
        by_cases hjn : j < n
        · obtain ⟨cap', hc, hold, hfr, hst⟩ := hO.out.1.store (i := j) (by rw [refTo_length]; exact hjn) true
          rw [refTo_length] at hc
          have HN : Hid (RefAt (wr.setCell ⟨r, j, none⟩ (.bool true)) d r true (refTo xs n (j + 1)) ∧ w.grownBy (wr.setCell ⟨r, j, none⟩ (.bool true)) none ∧ ∀ i, n ≤ i → i < j + 1 → bitB xs i = false) := by
            rw [refTo_true xs n j hv hjn]
            exact ⟨hst, grown_then hO.out.2.1 (grown_setCell _ _ _ _) (fun k e => by cases e; exact Or.inl hr), fun i h1 h2 => by omega⟩
          have h4 : (j : Int) < (n : Int) := by omega
          generalize (refTo xs n j).getD j false = u0 at *
          generalize xs.getD (j / 8) 0 = x at *
          clear hv hst
          go_wp2
          go_roundg (gk - 1)
          case measure => omega
          case rel => exact ⟨j + 1, by omega, by go_num, HN⟩
        · have h4 : (n : Int) ≤ (j : Int) := by omega
          have HN := hide (And.intro (ref_zero_any hO.out.2.1) (show ¬ ∀ i, n ≤ i → bitB xs i = false from fun h => by rw [h j (by omega)] at hv; cases hv))
          generalize xs.getD (j / 8) 0 = x at *
          clear hv
          go_wp2
          go_ret2
          exact ⟨_, 0, Or.inr ⟨HN.out.2, rfl, HN.out.1.1, HN.out.1.2⟩⟩
    · have hj : j = 8 * m := by omega
      have hj2 : (j : Int) = 8 * (m : Int) := by omega
      have HN : Hid ((∀ i, n ≤ i → bitB xs i = false) ∧ RefAt wr d r true (ofL xs n) ∧ w.grownBy wr none) := by
        refine ⟨fun i h1 => ?_, ?_, hO.out.2.1⟩
        · by_cases h2 : i < j
          · exact hO.out.2.2 i h1 h2
          · exact bitB_out xs i (by have := HX.out.1; omega)
        · have := hO.out.1
          rw [refTo_full xs n j (by omega)] at this
          exact this
      have h5 : 8 * (m : Int) ≤ (j : Int) := by omega
      clear hj hj2
      go_wp2
      go_ret2
      exact ⟨d, r, Or.inl ⟨HN.out.1, rfl, HN.out.2.1, hd, hr, HN.out.2.2⟩⟩

end Go.Proofs.YtajdgkbeenalkaaDoor
