/- The contract of a set's seek (Next and Free). -/
import Derived.Test.YtajdgkbeenalkaaDoorCount
namespace Go.Proofs.YtajdgkbeenalkaaDoor
open Go.RowKit
attribute [local go_sem ↓] Go.wp_at_zero Go.wp_at_succ

/-- r is the least number from i on, below the bound, of which L says v; -1, if there is none. -/
def Seek (L : List Bool) (v : Bool) (i : Nat) (r : Int) : Prop :=
  (r = -1 ∧ ∀ k, i ≤ k → k < L.length → L.getD k false ≠ v) ∨ ∃ k : Nat, r = (k : Int) ∧ i ≤ k ∧ k < L.length ∧ L.getD k false = v ∧ ∀ j, i ≤ j → j < k → L.getD j false ≠ v

def turnN (v : Bool) : Nat := if v then 0 else 18446744073709551615
theorem turnN_lt (v : Bool) : turnN v < 18446744073709551616 := by cases v <;> decide
theorem turned_bit (x c : Nat) (v : Bool) (hx : x < 18446744073709551616) : (x ^^^ turnN v).testBit c = (decide (c < 64) && (x.testBit c == v)) := by
  rw [Nat.testBit_xor]
  by_cases hc : c < 64
  · cases v
    · have : turnN false = 2 ^ 64 - 1 := by decide
      rw [this, Nat.testBit_two_pow_sub_one]
      cases x.testBit c <;> simp [hc]
    · have : turnN true = 0 := rfl
      rw [this, Nat.zero_testBit]
      cases x.testBit c <;> simp [hc]
  · have h1 : x.testBit c = false := Nat.testBit_lt_two_pow (Nat.lt_of_lt_of_le hx (Nat.pow_le_pow_right (n := 2) (by decide) (show 64 ≤ c by omega)))
    have h2 : (turnN v).testBit c = false := Nat.testBit_lt_two_pow (Nat.lt_of_lt_of_le (turnN_lt v) (Nat.pow_le_pow_right (n := 2) (by decide) (show 64 ≤ c by omega)))
    rw [h1, h2]; simp [hc]

/-- The word y tells of the numbers from i on in i's own word whether they are sought. -/
def Tells (W : List Nat) (v : Bool) (i y : Nat) : Prop := ∀ c, y.testBit c = (decide (c < 64 - i % 64) && (mem W (i + c) == v))

theorem tells_first (W : List Nat) (v : Bool) (i : Nat) (hx : W.getD (i / 64) 0 < 18446744073709551616) : Tells W v i ((W.getD (i / 64) 0 ^^^ turnN v) / 2 ^ (i % 64)) := by
  intro c
  rw [← Nat.shiftRight_eq_div_pow, Nat.testBit_shiftRight, turned_bit _ _ _ hx]
  by_cases hc : c < 64 - i % 64
  · have e1 : (i + c) / 64 = i / 64 := by omega
    have e2 : (i + c) % 64 = i % 64 + c := by omega
    simp only [mem, e1, e2]
    simp [hc, show i % 64 + c < 64 by omega]
  · simp [hc, show ¬ (i % 64 + c < 64) by omega]

theorem tells_next (W : List Nat) (v : Bool) (i : Nat) (hi : i % 64 = 0) (hx : W.getD (i / 64) 0 < 18446744073709551616) : Tells W v i (W.getD (i / 64) 0 ^^^ turnN v) := by
  have := tells_first W v i hx
  rw [hi] at this
  simpa using this

theorem tells_zero {W : List Nat} {v : Bool} {i : Nat} (h : Tells W v i 0) (c : Nat) (hc : c < 64 - i % 64) : mem W (i + c) ≠ v := by
  have := h c
  rw [Nat.zero_testBit] at this
  intro e
  simp [hc, e] at this

theorem ctz_low (y : Nat) (h0 : y ≠ 0) (hy : y < 18446744073709551616) : y.testBit (Lib.ctz 64 y) = true ∧ (∀ j, j < Lib.ctz 64 y → y.testBit j = false) ∧ Lib.ctz 64 y < 64 := by
  have e : Lib.ctz 64 y = Lib.ctzFrom 64 y := by simp [Lib.ctz, h0]
  rw [e]
  obtain ⟨m, hm, hlt⟩ := Lib.ctzFrom_spec 64 y (by omega) hy
  generalize Lib.ctzFrom 64 y = c at *
  refine ⟨?_, ?_, hlt⟩
  · rw [hm, Nat.testBit_two_pow_mul]
    simp
  · intro j hj
    rw [hm, Nat.testBit_two_pow_mul]
    simp [show ¬ c ≤ j by omega]

theorem tells_some {W : List Nat} {v : Bool} {i y : Nat} (h : Tells W v i y) (h0 : y ≠ 0) (hy : y < 18446744073709551616) : mem W (i + Lib.ctz 64 y) = v ∧ (∀ j, j < Lib.ctz 64 y → mem W (i + j) ≠ v) ∧ Lib.ctz 64 y < 64 := by
  obtain ⟨h1, h2, h3⟩ := ctz_low y h0 hy
  have a := h (Lib.ctz 64 y)
  rw [h1] at a
  simp at a
  refine ⟨a.2, ?_, h3⟩
  intro j hj e
  have b := h j
  rw [h2 j hj] at b
  simp [e] at b
  omega

set_option maxHeartbeats 1000000 in
theorem seek_in (b g : Nat) (L : List Bool) (v : Bool) (i : Nat) (w : World) (h : SetAt w b g L) (hT : Tab w) (hi : i < L.length) :
    Calls Tryd.prog 58 #[.pointer (some ⟨b, 0, none⟩), .int .i64 (i : Int), .int .u64 (turnN v : Int)] w fun e w' => ∃ r, e = .returned (.int .i64 r) ∧ Seek L v i r ∧ w' = w := by
  obtain ⟨W, cap, hc, hcap, hcap2, hR, hcells⟩ := h.words
  have hsm := h.small
  have hbd := h.bound
  have hlen := hR.len
  have hW : W.length ≤ 1024 := by omega
  have hmay := may_any b g L (i : Int) w h
  rw [show mayF L.length (i : Int) = 0 by simp [mayF]; omega] at hmay
  have htl := turnN_lt v
  have hw := hR.word_lt hi
  have hcell := hcells (i / 64) (W.getD (i / 64) 0) (by rw [List.getD_eq_getElem?_getD, List.getElem?_eq_getElem hw]; rfl)
  have hlt := hR.getD_lt (i / 64)
  have hxor := bits_xor_u64_nat (W.getD (i / 64) 0) (turnN v) hlt htl
  have H := hide (And.intro hcells (And.intro hR hT))
  have HT := hide (tells_first W v i hlt)
  have HM := hide hmay
  have hw1 : (0 : Int) ≤ (i : Int) := by omega
  have hw2 : (i : Int) / 64 < (W.length : Int) := by omega
  clear hcells hlen hR h hmay hT
  generalize W.getD (i / 64) 0 = x at *
  generalize htn : turnN v = tn at *
  have Htn := hide htn
  clear htn
  go_enter Tryd.func58, Tryd.ntmps58
  go_wp2_with fail
  refine HM.out.mono ?_
  rintro e w' ⟨rfl, rfl⟩
  go_wp2
  clear HM hcell hxor hw hw1 hw2
  go_loopg [1, 7] (L.length - i) (fun k I Y wr => ∃ i1 y : Nat, k + i1 = L.length ∧ 0 < k ∧ I = .int .i64 (i1 : Int) ∧ Y = .int .u64 (y : Int) ∧ i ≤ i1 ∧ y < 18446744073709551616 ∧ Hid (Tells W v i1 y ∧ ∀ j, i ≤ j → j < i1 → mem W j ≠ v) ∧ wr = w')
  case atStart =>
    refine ⟨i, (x ^^^ tn) / 2 ^ (i % 64), by omega, by omega, rfl, by simp, Nat.le_refl _, Nat.lt_of_le_of_lt (Nat.div_le_self _ _) (Nat.xor_lt_two_pow (n := 64) hlt htl), hide ⟨HT.out, fun j _ _ => by omega⟩, rfl⟩
  case round =>
    obtain ⟨i1, y, hk, hk0, rfl, rfl, hle, hy, hI, rfl⟩ := hrel
    obtain ⟨hcells, hR, hT⟩ := H.out
    clear HT
    have hb1 : i1 ≤ 65536 := by omega
    by_cases hy0 : y = 0
    · subst hy0
      by_cases hn : i1 + (64 - i1 % 64) < L.length
      · have hw := hR.word_lt hn
        obtain ⟨i2, hi2⟩ : ∃ i2, i2 = i1 + (64 - i1 % 64) := ⟨_, rfl⟩
        rw [← hi2] at hn hw
        have hcell := hcells (i2 / 64) (W.getD (i2 / 64) 0) (by rw [List.getD_eq_getElem?_getD, List.getElem?_eq_getElem hw]; rfl)
        have hlt := hR.getD_lt (i2 / 64)
        have hxor := bits_xor_u64_nat (W.getD (i2 / 64) 0) tn hlt htl
        have hT2 := tells_next W v i2 (by omega) hlt
        rw [Htn.out] at hT2
        have hall : ∀ j, i ≤ j → j < i2 → mem W j ≠ v := by
          intro j h1 h2
          by_cases h3 : j < i1
          · exact hI.out.2 j h1 h3
          · have := tells_zero hI.out.1 (j - i1) (by omega)
            rwa [show i1 + (j - i1) = j by omega] at this
        have hx2 : W.getD (i2 / 64) 0 ^^^ tn < 18446744073709551616 := Nat.xor_lt_two_pow (n := 64) hlt htl
        have HI := hide (And.intro hT2 hall)
        generalize W.getD (i2 / 64) 0 = x2 at *
        generalize x2 ^^^ tn = y2 at *
        have e2 : (i1 : Int) + (64 - (i1 : Int) % 64) = (i2 : Int) := by omega
        have hw1 : (0 : Int) ≤ (i2 : Int) := by omega
        have hw2 : (i2 : Int) / 64 < (W.length : Int) := by omega
        have hw3 : (i2 : Int) < (L.length : Int) := by omega
        have Hi2 := hide hi2
        clear hi2 hT2 hall hcells hR hT hI
        go_wp2
        go_roundg (gk - (i2 - i1))
        case measure => have := Hi2.out; omega
        case rel =>
          have := Hi2.out
          exact ⟨i2, y2, by omega, by omega, rfl, rfl, by omega, hx2, HI, rfl⟩
      · have e2 : (L.length : Int) ≤ (i1 : Int) + (64 - (i1 : Int) % 64) := by omega
        have hnone : Seek L v i (-1) := by
          refine Or.inl ⟨rfl, fun j h1 h2 => ?_⟩
          rw [← hR.is j]
          by_cases h3 : j < i1
          · exact hI.out.2 j h1 h3
          · have := tells_zero hI.out.1 (j - i1) (by omega)
            rwa [show i1 + (j - i1) = j by omega] at this
        have HS := hide hnone
        clear hcells hT hR hI hnone hn
        go_wp2
        go_ret
        exact ⟨_, rfl, HS.out, rfl⟩
    · have hy1 : ((y : Int) == 0) = false := by simpa using hy0
      have hz := tz_any y hy hy0 _ hT
      obtain ⟨h1, h2, h3⟩ := tells_some hI.out.1 hy0 hy
      generalize Lib.ctz 64 y = c at *
      have hbefore : ∀ j, i ≤ j → j < i1 + c → L.getD j false ≠ v := by
        intro j a1 a2
        rw [← hR.is j]
        by_cases a3 : j < i1
        · exact hI.out.2 j a1 a3
        · have := h2 (j - i1) (by omega)
          rwa [show i1 + (j - i1) = j by omega] at this
      have hat : L.getD (i1 + c) false = v := by rw [← hR.is]; exact h1
      have HZ := hide hz
      have HB := hide (And.intro hbefore hat)
      clear hcells hR hT hI hz h1 h2 hbefore hat hy0
      by_cases hn : i1 + c < L.length
      · have hn1 : (i1 : Int) + (c : Int) < (L.length : Int) := by omega
        go_wp2_with fail
        refine HZ.out.mono ?_
        rintro e w2 ⟨rfl, rfl⟩
        go_wp2
        go_ret
        exact ⟨_, rfl, Or.inr ⟨i1 + c, by simp, by omega, hn, HB.out.2, HB.out.1⟩, rfl⟩
      · have hn1 : (L.length : Int) ≤ (i1 : Int) + (c : Int) := by omega
        go_wp2_with fail
        refine HZ.out.mono ?_
        rintro e w2 ⟨rfl, rfl⟩
        go_wp2
        go_ret
        exact ⟨_, rfl, Or.inl ⟨rfl, fun j a1 a2 => HB.out.1 j a1 (by omega)⟩, rfl⟩

theorem Seek.out {L : List Bool} {v : Bool} {i : Nat} (h : L.length ≤ i) : Seek L v i (-1) := Or.inl ⟨rfl, fun k h1 h2 => by omega⟩

set_option maxHeartbeats 400000 in
theorem seek_out (b g : Nat) (L : List Bool) (v : Bool) (i : Nat) (w : World) (h : SetAt w b g L) (hi : L.length ≤ i) :
    Calls Tryd.prog 58 #[.pointer (some ⟨b, 0, none⟩), .int .i64 (i : Int), .int .u64 (turnN v : Int)] w fun e w' => ∃ r, e = .returned (.int .i64 r) ∧ Seek L v i r ∧ w' = w := by
  have hmay := may_any b g L (i : Int) w h
  rw [show mayF L.length (i : Int) = 2 by simp [mayF]; omega] at hmay
  have HM := hide hmay
  have hi0 : (0 : Int) ≤ (i : Int) := by omega
  clear hmay
  generalize turnN v = tn
  go_enter Tryd.func58, Tryd.ntmps58
  go_wp2_with fail
  refine HM.out.mono ?_
  rintro e w' ⟨rfl, rfl⟩
  go_wp2
  go_ret
  exact ⟨_, rfl, Seek.out hi, rfl⟩

set_option maxHeartbeats 400000 in
theorem seek_none (p : Option Addr) (tn : Nat) (i : Int) (w : World) (h : NoSet w p) :
    Calls Tryd.prog 58 #[.pointer p, .int .i64 i, .int .u64 (tn : Int)] w fun e w' => e = .returned (.int .i64 (-1)) ∧ w' = w := by
  have HM := hide (fun i => may_none p i w h)
  clear h
  by_cases hi : 0 ≤ i
  · go_enter Tryd.func58, Tryd.ntmps58
    go_wp2_with fail
    refine (HM.out _).mono ?_
    rintro e w' ⟨rfl, rfl⟩
    go_wp2
    go_ret
    exact ⟨rfl, rfl⟩
  · have hi2 : i < 0 := by omega
    go_enter Tryd.func58, Tryd.ntmps58
    go_wp2_with fail
    refine (HM.out _).mono ?_
    rintro e w' ⟨rfl, rfl⟩
    go_wp2
    go_ret
    exact ⟨rfl, rfl⟩

set_option maxHeartbeats 1000000 in
theorem seek_neg_in (b g : Nat) (L : List Bool) (v : Bool) (I0 : Int) (hI0 : I0 < 0) (w : World) (h : SetAt w b g L) (hT : Tab w) (hi : 0 < L.length) :
    Calls Tryd.prog 58 #[.pointer (some ⟨b, 0, none⟩), .int .i64 I0, .int .u64 (turnN v : Int)] w fun e w' => ∃ r, e = .returned (.int .i64 r) ∧ Seek L v 0 r ∧ w' = w := by
  obtain ⟨W, cap, hc, hcap, hcap2, hR, hcells⟩ := h.words
  have hsm := h.small
  have hbd := h.bound
  have hlen := hR.len
  have hW : W.length ≤ 1024 := by omega
  have hmay := may_any b g L 0 w h
  rw [show mayF L.length 0 = 0 by simp only [mayF]; rw [if_pos (by omega)]] at hmay
  have htl := turnN_lt v
  have hw := hR.word_lt hi
  have hcell := hcells 0 (W.getD 0 0) (by rw [List.getD_eq_getElem?_getD, List.getElem?_eq_getElem hw]; rfl)
  have hlt := hR.getD_lt 0
  have hxor := bits_xor_u64_nat (W.getD 0 0) (turnN v) hlt htl
  have H := hide (And.intro hcells (And.intro hR hT))
  have HT := hide (tells_next W v 0 rfl hlt)
  have HM := hide hmay
  have hw1 : (0 : Int) ≤ (0 : Int) := by omega
  have hw2 : (0 : Int) < (W.length : Int) := by omega
  clear hcells hlen hR h hmay hT
  rw [show 0 / 64 = 0 from rfl] at HT
  generalize W.getD 0 0 = x at *
  generalize htn : turnN v = tn at *
  have Htn := hide htn
  clear htn
  go_enter Tryd.func58, Tryd.ntmps58
  go_wp2_with fail
  refine HM.out.mono ?_
  rintro e w' ⟨rfl, rfl⟩
  go_wp2
  clear HM hcell hxor hw hw1 hw2
  go_loopg [1, 7] (L.length - 0) (fun k I Y wr => ∃ i1 y : Nat, k + i1 = L.length ∧ 0 < k ∧ I = .int .i64 (i1 : Int) ∧ Y = .int .u64 (y : Int) ∧ 0 ≤ i1 ∧ y < 18446744073709551616 ∧ Hid (Tells W v i1 y ∧ ∀ j, 0 ≤ j → j < i1 → mem W j ≠ v) ∧ wr = w')
  case atStart =>
    refine ⟨0, x ^^^ tn, by omega, by omega, rfl, by simp, Nat.le_refl _, Nat.xor_lt_two_pow (n := 64) hlt htl, hide ⟨HT.out, fun j _ _ => by omega⟩, rfl⟩
  case round =>
    obtain ⟨i1, y, hk, hk0, rfl, rfl, hle, hy, hI, rfl⟩ := hrel
    obtain ⟨hcells, hR, hT⟩ := H.out
    clear HT
    have hb1 : i1 ≤ 65536 := by omega
    by_cases hy0 : y = 0
    · subst hy0
      by_cases hn : i1 + (64 - i1 % 64) < L.length
      · have hw := hR.word_lt hn
        obtain ⟨i2, hi2⟩ : ∃ i2, i2 = i1 + (64 - i1 % 64) := ⟨_, rfl⟩
        rw [← hi2] at hn hw
        have hcell := hcells (i2 / 64) (W.getD (i2 / 64) 0) (by rw [List.getD_eq_getElem?_getD, List.getElem?_eq_getElem hw]; rfl)
        have hlt := hR.getD_lt (i2 / 64)
        have hxor := bits_xor_u64_nat (W.getD (i2 / 64) 0) tn hlt htl
        have hT2 := tells_next W v i2 (by omega) hlt
        rw [Htn.out] at hT2
        have hall : ∀ j, 0 ≤ j → j < i2 → mem W j ≠ v := by
          intro j h1 h2
          by_cases h3 : j < i1
          · exact hI.out.2 j h1 h3
          · have := tells_zero hI.out.1 (j - i1) (by omega)
            rwa [show i1 + (j - i1) = j by omega] at this
        have hx2 : W.getD (i2 / 64) 0 ^^^ tn < 18446744073709551616 := Nat.xor_lt_two_pow (n := 64) hlt htl
        have HI := hide (And.intro hT2 hall)
        generalize W.getD (i2 / 64) 0 = x2 at *
        generalize x2 ^^^ tn = y2 at *
        have e2 : (i1 : Int) + (64 - (i1 : Int) % 64) = (i2 : Int) := by omega
        have hw1 : (0 : Int) ≤ (i2 : Int) := by omega
        have hw2 : (i2 : Int) / 64 < (W.length : Int) := by omega
        have hw3 : (i2 : Int) < (L.length : Int) := by omega
        have Hi2 := hide hi2
        clear hi2 hT2 hall hcells hR hT hI
        go_wp2
        go_roundg (gk - (i2 - i1))
        case measure => have := Hi2.out; omega
        case rel =>
          have := Hi2.out
          exact ⟨i2, y2, by omega, by omega, rfl, rfl, by omega, hx2, HI, rfl⟩
      · have e2 : (L.length : Int) ≤ (i1 : Int) + (64 - (i1 : Int) % 64) := by omega
        have hnone : Seek L v 0 (-1) := by
          refine Or.inl ⟨rfl, fun j h1 h2 => ?_⟩
          rw [← hR.is j]
          by_cases h3 : j < i1
          · exact hI.out.2 j h1 h3
          · have := tells_zero hI.out.1 (j - i1) (by omega)
            rwa [show i1 + (j - i1) = j by omega] at this
        have HS := hide hnone
        clear hcells hT hR hI hnone hn
        go_wp2
        go_ret
        exact ⟨_, rfl, HS.out, rfl⟩
    · have hy1 : ((y : Int) == 0) = false := by simpa using hy0
      have hz := tz_any y hy hy0 _ hT
      obtain ⟨h1, h2, h3⟩ := tells_some hI.out.1 hy0 hy
      generalize Lib.ctz 64 y = c at *
      have hbefore : ∀ j, 0 ≤ j → j < i1 + c → L.getD j false ≠ v := by
        intro j a1 a2
        rw [← hR.is j]
        by_cases a3 : j < i1
        · exact hI.out.2 j a1 a3
        · have := h2 (j - i1) (by omega)
          rwa [show i1 + (j - i1) = j by omega] at this
      have hat : L.getD (i1 + c) false = v := by rw [← hR.is]; exact h1
      have HZ := hide hz
      have HB := hide (And.intro hbefore hat)
      clear hcells hR hT hI hz h1 h2 hbefore hat hy0
      by_cases hn : i1 + c < L.length
      · have hn1 : (i1 : Int) + (c : Int) < (L.length : Int) := by omega
        go_wp2_with fail
        refine HZ.out.mono ?_
        rintro e w2 ⟨rfl, rfl⟩
        go_wp2
        go_ret
        exact ⟨_, rfl, Or.inr ⟨i1 + c, by simp, by omega, hn, HB.out.2, HB.out.1⟩, rfl⟩
      · have hn1 : (L.length : Int) ≤ (i1 : Int) + (c : Int) := by omega
        go_wp2_with fail
        refine HZ.out.mono ?_
        rintro e w2 ⟨rfl, rfl⟩
        go_wp2
        go_ret
        exact ⟨_, rfl, Or.inl ⟨rfl, fun j a1 a2 => HB.out.1 j a1 (by omega)⟩, rfl⟩


set_option maxHeartbeats 400000 in
theorem seek_neg_out (b g : Nat) (L : List Bool) (v : Bool) (I0 : Int) (hI0 : I0 < 0) (w : World) (h : SetAt w b g L) (hi : L.length ≤ 0) :
    Calls Tryd.prog 58 #[.pointer (some ⟨b, 0, none⟩), .int .i64 I0, .int .u64 (turnN v : Int)] w fun e w' => ∃ r, e = .returned (.int .i64 r) ∧ Seek L v 0 r ∧ w' = w := by
  have hmay := may_any b g L 0 w h
  rw [show mayF L.length 0 = 2 by simp only [mayF]; rw [if_neg (by omega)]] at hmay
  have HM := hide hmay
  clear hmay
  generalize turnN v = tn
  go_enter Tryd.func58, Tryd.ntmps58
  go_wp2_with fail
  refine HM.out.mono ?_
  rintro e w' ⟨rfl, rfl⟩
  go_wp2
  go_ret
  exact ⟨_, rfl, Seek.out hi, rfl⟩


/-- seek, from whatever number on. -/
theorem seek_any (b g : Nat) (L : List Bool) (v : Bool) (i : Int) (w : World) (h : SetAt w b g L) (hT : Tab w) :
    Calls Tryd.prog 58 #[.pointer (some ⟨b, 0, none⟩), .int .i64 i, .int .u64 (turnN v : Int)] w fun e w' => ∃ r, e = .returned (.int .i64 r) ∧ Seek L v i.toNat r ∧ w' = w := by
  by_cases hi : 0 ≤ i
  · obtain ⟨k, rfl⟩ := Int.eq_ofNat_of_zero_le hi
    rw [Int.toNat_natCast]
    by_cases hk : k < L.length
    · exact seek_in b g L v k w h hT hk
    · exact seek_out b g L v k w h (by omega)
  · rw [show i.toNat = 0 by omega]
    by_cases hk : 0 < L.length
    · exact seek_neg_in b g L v i (by omega) w h hT hk
    · exact seek_neg_out b g L v i (by omega) w h (by omega)

set_option maxHeartbeats 400000 in
theorem next_any (b g : Nat) (L : List Bool) (i : Int) (w : World) (h : SetAt w b g L) (hT : Tab w) :
    Calls Tryd.prog 32 #[.pointer (some ⟨b, 0, none⟩), .int .i64 i] w fun e w' => ∃ r, e = .returned (.int .i64 r) ∧ Seek L true i.toNat r ∧ w' = w := by
  have H := hide (seek_any b g L true i w h hT)
  clear h hT
  go_enter Tryd.func32, Tryd.ntmps32
  go_wp2_with fail
  refine H.out.mono ?_
  rintro e w' ⟨r, rfl, hS, rfl⟩
  have HS := hide hS
  clear hS
  go_wp2
  go_ret
  exact ⟨_, rfl, HS.out, rfl⟩
set_option maxHeartbeats 400000 in
theorem free_any (b g : Nat) (L : List Bool) (i : Int) (w : World) (h : SetAt w b g L) (hT : Tab w) :
    Calls Tryd.prog 33 #[.pointer (some ⟨b, 0, none⟩), .int .i64 i] w fun e w' => ∃ r, e = .returned (.int .i64 r) ∧ Seek L false i.toNat r ∧ w' = w := by
  have H := hide (seek_any b g L false i w h hT)
  clear h hT
  go_enter Tryd.func33, Tryd.ntmps33
  go_wp2_with fail
  refine H.out.mono ?_
  rintro e w' ⟨r, rfl, hS, rfl⟩
  have HS := hide hS
  clear hS
  go_wp2
  go_ret
  exact ⟨_, rfl, HS.out, rfl⟩
set_option maxHeartbeats 400000 in
theorem next_none (p : Option Addr) (i : Int) (w : World) (h : NoSet w p) :
    Calls Tryd.prog 32 #[.pointer p, .int .i64 i] w fun e w' => e = .returned (.int .i64 (-1)) ∧ w' = w := by
  have H := hide (fun t => seek_none p t i w h)
  clear h
  go_enter Tryd.func32, Tryd.ntmps32
  go_wp2_with fail
  refine (H.out 0).mono ?_
  rintro e w' ⟨rfl, rfl⟩
  go_wp2
  go_ret
  exact ⟨rfl, rfl⟩
set_option maxHeartbeats 400000 in
theorem free_none (p : Option Addr) (i : Int) (w : World) (h : NoSet w p) :
    Calls Tryd.prog 33 #[.pointer p, .int .i64 i] w fun e w' => e = .returned (.int .i64 (-1)) ∧ w' = w := by
  have H := hide (fun t => seek_none p t i w h)
  clear h
  go_enter Tryd.func33, Tryd.ntmps33
  go_wp2_with fail
  refine (H.out 18446744073709551615).mono ?_
  rintro e w' ⟨rfl, rfl⟩
  go_wp2
  go_ret
  exact ⟨rfl, rfl⟩

end Go.Proofs.YtajdgkbeenalkaaDoor
