/- The contract of Of. -/
import Derived.Test.YtajdgkbeenalkaaDoorPick
import Derived.Deep.RegionLaw
namespace Go.Proofs.YtajdgkbeenalkaaDoor
open Go.RowKit Go.Shelf
attribute [local go_sem ↓] Go.wp_at_zero Go.wp_at_succ

set_option maxHeartbeats 400000 in
theorem of_bad (n : Int) (ao : Option Addr) (m cap : Nat) (w : World) (h : n < 0 ∨ 65536 < n) :
    Calls Tryd.prog 20 #[.int .i64 n, .slice ao m cap] w fun e w' => e = .returned (.tuple #[.pointer none, .int .i64 2]) ∧ w' = w := by
  have H := hide (new_bad n w h)
  clear h
  go_enter Tryd.func20, Tryd.ntmps20
  go_wp2_with fail
  refine H.out.mono ?_
  rintro e w' ⟨rfl, rfl⟩
  go_wp2
  go_ret2
  exact ⟨rfl, rfl⟩

set_option maxHeartbeats 1000000 in
theorem of_long (n : Nat) (hn : n ≤ 65536) (ao : Option Addr) (m cap : Nat) (w : World) (hw : 0 < w.heap.size) (hm : m ≠ (n + 7) / 8) :
    Calls Tryd.prog 20 #[.int .i64 (n : Int), .slice ao m cap] w fun e w' => e = .returned (.tuple #[.pointer none, .int .i64 3]) ∧ w.grownBy w' none := by
  go_enter Tryd.func20, Tryd.ntmps20
  go_wp2_with fail
  refine (new_any n w hn hw).mono ?_
  rintro e w1 ⟨b, g, rfl, hS, hb, hg, hg1⟩
  have H1 := hide (And.intro hS hg1)
  have hsz := hide (size_any b g _ w1 hS)
  have hne : ((m : Int) == (((n + 7) / 8 : Nat) : Int)) = false := by simp; omega
  clear hS hg1
  go_wp2_with fail
  have hs := hsz.out
  rw [List.length_replicate] at hs
  refine hs.mono ?_
  clear hs
  rintro e w2 ⟨rfl, rfl⟩
  generalize (n + 7) / 8 = k at *
  go_wp2
  go_ret2
  exact ⟨rfl, H1.out.2⟩

/-- The bit i of a row of bytes. -/
def bitB (xs : List Nat) (i : Nat) : Bool := (xs.getD (i / 8) 0).testBit (i % 8)
theorem bitB_out (xs : List Nat) (i : Nat) (h : 8 * xs.length ≤ i) : bitB xs i = false := by
  unfold bitB
  rw [List.getD_eq_getElem?_getD, List.getElem?_eq_none (by omega)]
  simp
/-- The numbers that the first j bytes tell of. -/
def ofTo (xs : List Nat) (n j : Nat) : List Bool := (List.range n).map fun i => decide (i < 8 * j) && bitB xs i
theorem ofTo_length (xs : List Nat) (n j : Nat) : (ofTo xs n j).length = n := by simp [ofTo]
theorem ofTo_at (xs : List Nat) (n j i : Nat) (h : ∀ i, n ≤ i → bitB xs i = false) : (ofTo xs n j).getD i false = (decide (i < 8 * j) && bitB xs i) := by
  by_cases hi : i < n
  · simp [ofTo, List.getD_eq_getElem?_getD, hi]
  · rw [getD_out _ _ (by rw [ofTo_length]; omega), h i (by omega)]; simp
/-- The set whose bytes xs is. -/
def ofL (xs : List Nat) (n : Nat) : List Bool := (List.range n).map fun i => bitB xs i
theorem ofTo_full (xs : List Nat) (n j : Nat) (h : n ≤ 8 * j) : ofTo xs n j = ofL xs n := by
  unfold ofTo ofL
  apply List.map_congr_left
  intro i hi
  have := List.mem_range.1 hi
  simp; omega
theorem ofTo_zero (xs : List Nat) (n : Nat) : ofTo xs n 0 = List.replicate n false := by
  unfold ofTo
  simp [List.map_const']

/-- The word into which the byte j is laid. -/
def laidW (W : List Nat) (xs : List Nat) (j : Nat) : Nat := W.getD (j / 8) 0 ||| (xs.getD j 0) * 2 ^ (8 * (j % 8))
theorem shl_lt (x k : Nat) (hx : x < 256) (hk : k < 8) : x * 2 ^ (8 * k) < 18446744073709551616 := by
  have h1 : x * 2 ^ (8 * k) < 256 * 2 ^ (8 * k) := Nat.mul_lt_mul_of_pos_right hx (Nat.two_pow_pos _)
  have h2 : (256 : Nat) * 2 ^ (8 * k) = 2 ^ (8 + 8 * k) := by rw [Nat.pow_add]
  have h3 : (2 : Nat) ^ (8 + 8 * k) ≤ 2 ^ 64 := Nat.pow_le_pow_right (by decide) (by omega)
  omega
theorem Rep.laid {W xs : List Nat} {n j : Nat} (h : Rep W (ofTo xs n j)) (hx : ∀ x ∈ xs, x < 256) (hj : j < xs.length) (hm : xs.length = (n + 7) / 8) (hmore : ∀ i, n ≤ i → bitB xs i = false) :
    Rep (W.set (j / 8) (laidW W xs j)) (ofTo xs n (j + 1)) ∧ laidW W xs j < 18446744073709551616 := by
  have hxj : xs.getD j 0 < 256 := by rw [List.getD_eq_getElem?_getD, List.getElem?_eq_getElem hj]; exact hx _ (List.getElem_mem hj)
  have hsl := shl_lt (xs.getD j 0) (j % 8) hxj (Nat.mod_lt _ (by decide))
  have hlt : laidW W xs j < 18446744073709551616 := Nat.or_lt_two_pow (n := 64) (h.getD_lt _) hsl
  have hlen := h.len
  rw [ofTo_length] at hlen
  have hq : j / 8 < W.length := by omega
  refine ⟨⟨by rw [List.length_set, ofTo_length]; exact hlen, ?_, ?_, by rw [ofTo_length]; have := h.small; rwa [ofTo_length] at this⟩, hlt⟩
  · intro y hy
    rcases List.mem_or_eq_of_mem_set hy with hy | rfl
    · exact h.word y hy
    · exact hlt
  · intro i
    rw [ofTo_at xs n (j + 1) i hmore]
    have hold := (h.is i).trans (ofTo_at xs n j i hmore)
    by_cases e : i / 64 = j / 8
    · have hnew : mem (W.set (j / 8) (laidW W xs j)) i = (laidW W xs j).testBit (i % 64) := by
        unfold mem
        rw [e, List.getD_eq_getElem?_getD, List.getElem?_set]
        simp [hq]
      have hmem : mem W i = (W.getD (j / 8) 0).testBit (i % 64) := by unfold mem; rw [e]
      rw [hnew, laidW, Nat.testBit_or, ← hmem, hold, Nat.mul_comm (xs.getD j 0), Nat.testBit_two_pow_mul]
      by_cases e8 : i / 8 = j
      · have c1 : i % 64 ≥ 8 * (j % 8) := by omega
        have c2 : i % 64 - 8 * (j % 8) = i % 8 := by omega
        have c3 : (xs.getD j 0).testBit (i % 8) = bitB xs i := by unfold bitB; rw [e8]
        rw [c2, c3]
        simp [c1, show ¬ i < 8 * j by omega, show i < 8 * (j + 1) by omega]
      · by_cases c1 : 8 * (j % 8) ≤ i % 64
        · have c4 : 8 ≤ i % 64 - 8 * (j % 8) := by omega
          have c5 : (xs.getD j 0).testBit (i % 64 - 8 * (j % 8)) = false := Nat.testBit_lt_two_pow (Nat.lt_of_lt_of_le hxj (Nat.pow_le_pow_right (n := 2) (by decide) c4))
          rw [c5]
          have : decide (i < 8 * (j + 1)) = decide (i < 8 * j) := by rw [decide_eq_decide]; omega
          rw [this]; simp
        · have : decide (i < 8 * (j + 1)) = decide (i < 8 * j) := by rw [decide_eq_decide]; omega
          rw [this]; simp [c1]
    · have hnew : mem (W.set (j / 8) (laidW W xs j)) i = mem W i := by
        unfold mem
        simp only [List.getD_eq_getElem?_getD, List.getElem?_set]
        rw [if_neg (fun x => e x.symm)]
      have : decide (i < 8 * (j + 1)) = decide (i < 8 * j) := by rw [decide_eq_decide]; omega
      rw [hnew, hold, this]

theorem SetAt.lay {w : World} {b g : Nat} {L L' : List Bool} (h : SetAt w b g L) : ∃ (W : List Nat) (cap : Nat), w.cell? ⟨b, 2, none⟩ = some (.slice (some ⟨g, 0, none⟩) W.length cap) ∧ Rep W L ∧
    (∀ q, q < W.length → w.cell? ⟨g, q, none⟩ = some (.int .u64 ((W.getD q 0 : Nat) : Int)) ∧ w.frozen? ⟨g, q, none⟩ = false ∧
      ∀ x : Nat, L'.length = L.length → Rep (W.set q x) L' → SetAt (w.setCell ⟨g, q, none⟩ (.int .u64 (x : Int))) b g L') := by
  obtain ⟨W, cap, cur, h1, h2, h3, h3', h4, h5, h6, h7⟩ := h
  have hne : b ≠ g := by rintro rfl; rw [h1] at h2; simp at h2
  refine ⟨W, cap, by simp [World.cell?, h1], h6, fun q hw => ⟨?_, free_row h2 _, ?_⟩⟩
  · rw [cell_row h2, ← List.getElem?_take_of_lt hw, h5, wvals, List.getElem?_map, List.getElem?_eq_getElem hw]
    simp [List.getD_eq_getElem?_getD, hw]
  · intro x hl hR
    refine ⟨W.set q x, cap, cur.set q (.int .u64 (x : Int)), ?_, row_setCell h2 _ _, by simpa using h3, h3', by simpa using h4, ?_, hR, h7⟩
    · rw [Below.heap_setCell _ _ _ _ (by simpa using hne), h1, hl]; simp
    · rw [List.length_set, List.take_set, h5, wvals, wvals, List.map_set]

set_option maxHeartbeats 400000 in
theorem more_any (n m cap : Nat) (ao : Option Addr) (xs : List Nat) (w : World) (hn : n ≤ 65536) (hm : xs.length = m) (hmn : m = (n + 7) / 8) (hat : AtV w ao (xs.map fun (x : Nat) => Value.int .u8 (x : Int))) :
    Calls Tryd.prog 52 #[.int .i64 (n : Int), .slice ao m cap] w fun e w' => e = .returned (.bool (decide (n % 8 ≠ 0) && decide (xs.getD (m - 1) 0 / 2 ^ (n % 8) ≠ 0))) ∧ w' = w := by
  by_cases h8 : n % 8 = 0
  · have e : (decide (n % 8 ≠ 0) && decide (xs.getD (m - 1) 0 / 2 ^ (n % 8) ≠ 0)) = false := by simp [h8]
    rw [e]
    have h9 : (n : Int) % 8 = 0 := by omega
    clear e h8 hm hmn hat
    go_enter Tryd.func52, Tryd.ntmps52
    go_wp2
    go_ret
    exact ⟨rfl, rfl⟩
  · have hm1 : m - 1 < xs.length := by omega
    obtain ⟨a, rfl, hcell⟩ := hat (m - 1) (.int .u8 (xs.getD (m - 1) 0 : Nat)) (by simp [List.getD_eq_getElem?_getD, hm1])
    have e : decide (n % 8 ≠ 0) = true := by simp [h8]
    rw [e, Bool.true_and]
    have h9 : ¬ (n : Int) % 8 = 0 := by omega
    have hmb : (m : Int) ≤ 8192 := by omega
    have hmc : (1 : Int) ≤ (m : Int) := by omega
    have h10 : ((m : Int) - 1) = ((m - 1 : Nat) : Int) := by omega
    have h11 : ((m - 1 : Nat) : Int) < (m : Int) := by omega
    clear e h8 hm hmn hat hm1
    generalize xs.getD (m - 1) 0 = x at *
    generalize m - 1 = m1 at *
    go_enter Tryd.func52, Tryd.ntmps52
    go_wp2
    go_ret
    refine ⟨?_, rfl⟩
    have e1 : ((n : Int) % 8 != 0) = true := by simpa using h9
    have e2 : ((x : Int) / 2 ^ (n % 8) != 0) = decide (x / 2 ^ (n % 8) ≠ 0) := by
      rw [ne_int]
      simp
    show Ending.returned (.bool ((n : Int) % 8 != 0 && (x : Int) / 2 ^ (n % 8) != 0)) = _
    rw [e1, e2, Bool.true_and]

/-- No bit from n on is set. -/
theorem more_none {xs : List Nat} {n : Nat} (hx : ∀ x ∈ xs, x < 256) (hm : xs.length = (n + 7) / 8) : (decide (n % 8 ≠ 0) && decide (xs.getD (xs.length - 1) 0 / 2 ^ (n % 8) ≠ 0)) = false ↔ ∀ i, n ≤ i → bitB xs i = false := by
  constructor
  · intro h i hi
    by_cases hout : 8 * xs.length ≤ i
    · exact bitB_out xs i hout
    · have h8 : n % 8 ≠ 0 := by omega
      have h0 : xs.getD (xs.length - 1) 0 / 2 ^ (n % 8) = 0 := by simpa [h8] using h
      have hd : i / 8 = xs.length - 1 := by omega
      unfold bitB
      rw [hd]
      have hlt := (Nat.div_eq_zero_iff.1 h0)
      rcases hlt with h1 | h1
      · have := Nat.two_pow_pos (n % 8); omega
      · exact Nat.testBit_lt_two_pow (Nat.lt_of_lt_of_le h1 (Nat.pow_le_pow_right (n := 2) (by decide) (by omega)))
  · intro h
    by_cases h8 : n % 8 = 0
    · simp [h8]
    · have h0 : xs.getD (xs.length - 1) 0 / 2 ^ (n % 8) = 0 := by
        apply Nat.eq_of_testBit_eq
        intro c
        rw [← Nat.shiftRight_eq_div_pow, Nat.testBit_shiftRight, Nat.zero_testBit]
        by_cases hc : n % 8 + c < 8
        · have := h (8 * (xs.length - 1) + (n % 8 + c)) (by omega)
          unfold bitB at this
          rwa [show (8 * (xs.length - 1) + (n % 8 + c)) / 8 = xs.length - 1 by omega, show (8 * (xs.length - 1) + (n % 8 + c)) % 8 = n % 8 + c by omega] at this
        · have hlt : xs.getD (xs.length - 1) 0 < 256 := by
            by_cases h1 : xs.length - 1 < xs.length
            · rw [List.getD_eq_getElem?_getD, List.getElem?_eq_getElem h1]; exact hx _ (List.getElem_mem h1)
            · rw [List.getD_eq_getElem?_getD, List.getElem?_eq_none (by omega)]; decide
          exact Nat.testBit_lt_two_pow (Nat.lt_of_lt_of_le hlt (Nat.pow_le_pow_right (n := 2) (by decide) (show 8 ≤ n % 8 + c by omega)))
      rw [h0]; simp

set_option maxHeartbeats 1000000 in
theorem of_more (n : Nat) (hn : n ≤ 65536) (ao : Option Addr) (m cap : Nat) (xs : List Nat) (w : World) (hw : 0 < w.heap.size) (hxm : xs.length = m) (hm : m = (n + 7) / 8) (hx : ∀ x ∈ xs, x < 256)
    (hat : AtV w ao (xs.map fun (x : Nat) => Value.int .u8 (x : Int))) (hmore : ¬ ∀ i, n ≤ i → bitB xs i = false) :
    Calls Tryd.prog 20 #[.int .i64 (n : Int), .slice ao m cap] w fun e w' => e = .returned (.tuple #[.pointer none, .int .i64 5]) ∧ w.grownBy w' none := by
  have hmo : (decide (n % 8 ≠ 0) && decide (xs.getD (m - 1) 0 / 2 ^ (n % 8) ≠ 0)) = true := by
    cases h : (decide (n % 8 ≠ 0) && decide (xs.getD (m - 1) 0 / 2 ^ (n % 8) ≠ 0)) with
    | true => rfl
    | false => exact absurd ((more_none hx (hxm.trans hm)).1 (by rw [hxm]; exact h)) hmore
  go_enter Tryd.func20, Tryd.ntmps20
  go_wp2_with fail
  refine (new_any n w hn hw).mono ?_
  rintro e w1 ⟨b, g, rfl, hS, hb, hg, hg1⟩
  have hs := size_any b g _ w1 hS
  rw [List.length_replicate, ← hm] at hs
  have hmc := more_any n m cap ao xs w1 hn hxm hm (hat.grown hg1)
  rw [hmo] at hmc
  have H1 := hide (And.intro hg1 (And.intro hs hmc))
  clear hS hg1 hs hmc hmo hmore hm hxm hat
  go_wp2_with fail
  refine H1.out.2.1.mono ?_
  rintro e w2 ⟨rfl, rfl⟩
  go_wp2_with fail
  refine H1.out.2.2.mono ?_
  rintro e w2 ⟨rfl, rfl⟩
  go_wp2
  go_ret2
  exact ⟨rfl, H1.out.1⟩

set_option maxHeartbeats 2000000 in
theorem of_any (n : Nat) (hn : n ≤ 65536) (ao : Option Addr) (m cap : Nat) (xs : List Nat) (w : World) (hw : 0 < w.heap.size) (hxm : xs.length = m) (hm : m = (n + 7) / 8) (hx : ∀ x ∈ xs, x < 256)
    (hat : AtV w ao (xs.map fun (x : Nat) => Value.int .u8 (x : Int))) (hmore : ∀ i, n ≤ i → bitB xs i = false) :
    Calls Tryd.prog 20 #[.int .i64 (n : Int), .slice ao m cap] w fun e w' => ∃ b g, e = .returned (.tuple #[.pointer (some ⟨b, 0, none⟩), .int .i64 0]) ∧ SetAt w' b g (ofL xs n) ∧ w.heap.size ≤ b ∧ w.heap.size ≤ g ∧ w.grownBy w' none := by
  have hmo : (decide (n % 8 ≠ 0) && decide (xs.getD (m - 1) 0 / 2 ^ (n % 8) ≠ 0)) = false := by rw [← hxm]; exact (more_none hx (hxm.trans hm)).2 hmore
  have hmb : m ≤ 8192 := by omega
  have hmn : n ≤ 8 * m := by omega
  go_enter Tryd.func20, Tryd.ntmps20
  go_wp2_with fail
  refine (new_any n w hn hw).mono ?_
  rintro e w1 ⟨b, g, rfl, hS, hb, hg, hg1⟩
  have hs := size_any b g _ w1 hS
  rw [List.length_replicate, ← hm] at hs
  have hmc := more_any n m cap ao xs w1 hn hxm hm (hat.grown hg1)
  rw [hmo] at hmc
  rw [← ofTo_zero xs n] at hS
  have H1 := hide (And.intro hg1 (And.intro hs (And.intro hmc (And.intro hS (And.intro hat (And.intro hmore (And.intro hm hxm)))))))
  clear hS hg1 hs hmc hmo hmore hm hxm hat
  go_wp2_with fail
  refine H1.out.2.1.mono ?_
  rintro e w2 ⟨rfl, rfl⟩
  go_wp2_with fail
  refine H1.out.2.2.1.mono ?_
  rintro e w2 ⟨rfl, rfl⟩
  go_wp2
  go_loopg [28] m (fun k I wr => ∃ j : Nat, k + j = m ∧ I = .int .i64 (j : Int) ∧ Hid (SetAt wr b g (ofTo xs n j) ∧ w.grownBy wr none))
  case atStart => exact ⟨0, by omega, rfl, hide ⟨H1.out.2.2.2.1, H1.out.1⟩⟩
  case round =>
    obtain ⟨j, hkj, rfl, hO⟩ := hrel
    by_cases hk : 0 < gk
    · obtain ⟨_, _, _, _, hat, hmore, hm, hxm⟩ := H1.out
      have hj : j < xs.length := by omega
      obtain ⟨a, rfl, hca⟩ := hat j (.int .u8 (xs.getD j 0 : Nat)) (by simp [List.getD_eq_getElem?_getD, hj])
      have hca' := hO.out.2.cell hca (by simp)
      obtain ⟨W, cap', hc, hR, hq⟩ := hO.out.1.lay (L' := ofTo xs n (j + 1))
      have hlen := hR.len
      rw [ofTo_length] at hlen
      have hjq : j / 8 < W.length := by omega
      obtain ⟨hcell, hfr, hst⟩ := hq (j / 8) hjq
      obtain ⟨hR2, hlt⟩ := hR.laid hx hj (hxm.trans hm) hmore
      have HN := hide (And.intro (hst (laidW W xs j) (by rw [ofTo_length, ofTo_length]) hR2) (grown_then hO.out.2 (grown_setCell wr g (j / 8) (.int .u64 ((laidW W xs j : Nat) : Int))) (fun k e => by cases e; exact Or.inl hg)))
      have hxj : xs.getD j 0 < 256 := by rw [List.getD_eq_getElem?_getD, List.getElem?_eq_getElem hj]; exact hx _ (List.getElem_mem hj)
      have hor := bits_or_u64_nat (W.getD (j / 8) 0) ((xs.getD j 0) * 2 ^ (8 * (j % 8))) (hR.getD_lt _) (shl_lt _ _ hxj (Nat.mod_lt _ (by decide)))
      have h1 : (0 : Int) ≤ (j : Int) := by omega
      have h2 : (j : Int) < (m : Int) := by omega
      have hqi : IntKind.i64.wrap ((j : Int) / 8) = ((j / 8 : Nat) : Int) := by rw [wrap_i64_small _ (by omega) (by omega)]; omega
      have hq1 : ((j / 8 : Nat) : Int) < (W.length : Int) := by omega
      have hq0 : (0 : Int) ≤ ((j / 8 : Nat) : Int) := by omega
      have hsi : IntKind.i64.wrap (8 * (j : Int).tmod 8) = ((8 * (j % 8) : Nat) : Int) := by
        rw [Int.tmod_eq_emod_of_nonneg h1, wrap_i64_small _ (by omega) (by omega)]; omega
      have hs8 : ((8 * (j % 8) : Nat) : Int) ≤ 64 := by omega
      have hzi : IntKind.u64.wrap ((xs.getD j 0 : Nat) : Int) = ((xs.getD j 0 : Nat) : Int) := by rw [IntKind.wrap_u64]; omega
      have hzs : IntKind.u64.wrap (((xs.getD j 0 : Nat) : Int) * 2 ^ (8 * (j % 8))) = (((xs.getD j 0) * 2 ^ (8 * (j % 8)) : Nat) : Int) := by
        have hl := shl_lt _ (j % 8) hxj (Nat.mod_lt _ (by decide))
        have e : ((xs.getD j 0 : Nat) : Int) * 2 ^ (8 * (j % 8)) = (((xs.getD j 0) * 2 ^ (8 * (j % 8)) : Nat) : Int) := by simp
        rw [e, wrap_nat, Nat.mod_eq_of_lt hl]
      have hlw : laidW W xs j = W.getD (j / 8) 0 ||| (xs.getD j 0) * 2 ^ (8 * (j % 8)) := rfl
      rw [← hlw] at hor
      clear hlw
      clear hq hst hR hR2 hlt hca hat hmore hm hxm hlen hjq
      generalize W.getD (j / 8) 0 = x0 at *
      generalize laidW W xs j = y at *
      generalize hz : xs.getD j 0 = z at *
      clear hz
      generalize j / 8 = q at *
      generalize hsn : 8 * (j % 8) = sn at *
      clear hsn
      generalize z * 2 ^ sn = zs at *
      go_wp2
      go_region_law (fail)
      all_goals
        go_wp2
        go_roundg (gk - 1)
        case measure => omega
        case rel => exact ⟨j + 1, by omega, by go_num, hide ⟨HN.out.1.drew, grown_trans HN.out.2 (grown_drew _ _)⟩⟩
    · have hj : j = m := by omega
      subst hj
      go_wp2
      go_ret2
      have := hO.out.1
      rw [ofTo_full xs n j hmn] at this
      exact ⟨b, g, rfl, this, hb, hg, hO.out.2⟩

end Go.Proofs.YtajdgkbeenalkaaDoor
