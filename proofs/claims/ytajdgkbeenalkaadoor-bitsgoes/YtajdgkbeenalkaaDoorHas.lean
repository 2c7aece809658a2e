/- The contracts of a set's Has, Bound, TrailingZeros64, OnesCount64, Count. -/
import Derived.Test.YtajdgkbeenalkaaDoorSet
namespace Go.Proofs.YtajdgkbeenalkaaDoor
open Go.RowKit
attribute [local go_sem ↓] Go.wp_at_zero Go.wp_at_succ

theorem grown_drewN (w : World) (n : Nat) (row : Option Nat) : w.grownBy (w.drewN n) row := ⟨rfl, rfl, rfl, Nat.le_refl _, fun _ _ _ => rfl⟩
theorem SetAt.drewN {w : World} {b g : Nat} {L : List Bool} (h : SetAt w b g L) (n : Nat) : SetAt (w.drewN n) b g L := h.kept (grown_drewN w n none) (by simp) (by simp)
theorem NoSet.drewN {w : World} {p : Option Addr} (h : NoSet w p) (n : Nat) : NoSet (w.drewN n) p := h

set_option maxHeartbeats 400000 in
theorem has_bad (p : Option Addr) (i c : Int) (w : World) (hc : c ≠ 0) (hm : ∀ n, Calls Tryd.prog 53 #[.pointer p, .int .i64 i] (w.drewN n) fun e w' => e = .returned (.int .i64 c) ∧ w' = w.drewN n) :
    Calls Tryd.prog 25 #[.pointer p, .int .i64 i] w fun e w' => e = .returned (.bool false) ∧ w.grownBy w' none := by
  have HM := hide hm
  clear hm
  have hd : decide (c = 0) = false := by simpa using hc
  go_enter Tryd.func25, Tryd.ntmps25
  go_wp2_with fail
  go_quiet ((go_at_call 53; exact Calls.quiet_of_same (HM.out _)))
  go_wp2
  go_ret
  exact ⟨rfl, grown_drewN _ _ _⟩

theorem bit_ne (x k : Nat) : decide ((x &&& 2 ^ k : Nat) ≠ 0) = x.testBit k := by
  cases h : x.testBit k
  · have : x &&& 2 ^ k = 0 := by
      apply Nat.eq_of_testBit_eq
      intro i
      rw [Nat.testBit_and, Nat.testBit_two_pow, Nat.zero_testBit]
      by_cases e : k = i
      · subst e; simp [h]
      · simp [e]
    simp [this]
  · have : (x &&& 2 ^ k).testBit k = true := by rw [Nat.testBit_and, Nat.testBit_two_pow, h]; simp
    simp only [ne_eq, decide_eq_true_eq]
    intro e
    rw [e, Nat.zero_testBit] at this
    cases this
theorem ne_int (y : Nat) : decide (y ≠ 0) = ((y : Int) != 0) := by
  by_cases h : y = 0
  · subst h; rfl
  · have h2 : (y : Int) ≠ 0 := by omega
    simp [h]

set_option maxHeartbeats 1000000 in
theorem has_any (b g : Nat) (L : List Bool) (i : Nat) (w : World) (h : SetAt w b g L) (hi : i < L.length) :
    Calls Tryd.prog 25 #[.pointer (some ⟨b, 0, none⟩), .int .i64 (i : Int)] w fun e w' => e = .returned (.bool (L.getD i false)) ∧ w.grownBy w' none := by
  obtain ⟨W, cap, hc, hcap, hcap2, hR, hcells⟩ := h.words
  have hsm := h.small
  have hw := hR.word_lt hi
  have hmay := fun n => may_any b g L (i : Int) (w.drewN n) (h.drewN n)
  rw [show mayF L.length (i : Int) = 0 by simp [mayF]; omega] at hmay
  have hq : IntKind.i64.wrap ((i : Int) / 64) = ((i / 64 : Nat) : Int) := by rw [wrap_i64_small _ (by omega) (by omega)]; omega
  have hbt := fun n => bit_any i (w.drewN n) (by omega)
  have hcell := hcells (i / 64) (W.getD (i / 64) 0) (by rw [List.getD_eq_getElem?_getD, List.getElem?_eq_getElem hw]; rfl)
  have hlt := hR.getD_lt (i / 64)
  have hres : L.getD i false = (W.getD (i / 64) 0).testBit (i % 64) := (hR.is i).symm
  rw [hres, ← bit_ne]
  generalize W.getD (i / 64) 0 = x at *
  generalize i / 64 = q at *
  have hand := bits_and_u64_nat x (2 ^ (i % 64)) hlt (Nat.pow_lt_pow_right (a := 2) (by decide) (m := i % 64) (n := 64) (by omega))
  have HM := hide hmay
  have HB := hide hbt
  clear hmay hbt hcells hres hR h
  generalize x &&& 2 ^ (i % 64) = y at *
  generalize 2 ^ (i % 64) = m at *
  have hw1 : (0 : Int) ≤ (q : Int) := by omega
  have hw2 : (q : Int) < (W.length : Int) := by omega
  go_enter Tryd.func25, Tryd.ntmps25
  go_wp2_with fail
  go_quiet (first | (go_at_call 53; exact Calls.quiet_of_same (HM.out _)) | (go_at_call 54; exact Calls.quiet_of_same (HB.out _)))
  go_wp2
  go_ret
  exact ⟨by rw [ne_int]; rfl, grown_drewN _ _ _⟩

set_option maxHeartbeats 400000 in
theorem bound_none (p : Option Addr) (w : World) (h : NoSet w p) : Calls Tryd.prog 43 #[.pointer p] w fun e w' => e = .returned (.int .i64 0) ∧ w' = w := by
  have H := hide h.is
  clear h
  go_enter Tryd.func43, Tryd.ntmps43
  go_wp2_with fail
  refine H.out.mono ?_
  rintro e w' ⟨rfl, rfl⟩
  go_wp2
  go_ret
  exact ⟨rfl, rfl⟩
set_option maxHeartbeats 400000 in
theorem bound_any (b g : Nat) (L : List Bool) (w : World) (h : SetAt w b g L) : Calls Tryd.prog 43 #[.pointer (some ⟨b, 0, none⟩)] w fun e w' => e = .returned (.int .i64 (L.length : Int)) ∧ w' = w := by
  have hb := h.bound
  have H := hide (isNone_at b true w h.made)
  clear h
  go_enter Tryd.func43, Tryd.ntmps43
  go_wp2_with fail
  refine H.out.mono ?_
  rintro e w' ⟨rfl, rfl⟩
  go_wp2
  go_ret
  exact ⟨rfl, rfl⟩

/-- math/bits.TrailingZeros64, of a word that is not nought. -/
theorem tz_key (x a : Nat) (hx : x < 18446744073709551616) (hx0 : x ≠ 0) (hlow : x &&& (18446744073709551616 - x) = a) :
    IntKind.u64.wrap (bits BinOp.and IntKind.u64 (x : Int) (IntKind.u64.wrap (-(x : Int))) * 285870213051353865) / 288230376151711744 = ((a * 285870213051353865 % 18446744073709551616 / 288230376151711744 : Nat) : Int) := by
  have e1 : IntKind.u64.wrap (-(x : Int)) = ((18446744073709551616 - x : Nat) : Int) := by rw [IntKind.wrap_u64]; omega
  rw [e1, bits_and_u64_nat x _ hx (by omega), hlow, IntKind.wrap_u64]
  omega

set_option maxHeartbeats 1000000 in
theorem tz_core (x k idx : Nat) (w : World) (hx0 : ((x : Int) == 0) = false)
    (key : IntKind.u64.wrap (bits BinOp.and IntKind.u64 (x : Int) (IntKind.u64.wrap (-(x : Int))) * 285870213051353865) / 288230376151711744 = (idx : Int))
    (hi : idx < 64) (hk : k < 64) (hcell : w.cell? ⟨0, idx, none⟩ = some (.int .u8 k)) :
    Calls Tryd.prog 62 #[.int .u64 x] w fun e w' => e = .returned (.int .i64 k) ∧ w' = w := by
  go_enter Tryd.func62, Tryd.ntmps62
  go_wp2_with (simp only [key])
  go_ret
  exact ⟨rfl, rfl⟩

theorem tz_any (x : Nat) (hx : x < 18446744073709551616) (hx0 : x ≠ 0) (w : World) (hT : Tab w) :
    Calls Tryd.prog 62 #[.int .u64 (x : Int)] w fun e w' => e = .returned (.int .i64 ((Lib.ctz 64 x : Nat) : Int)) ∧ w' = w := by
  obtain ⟨hlow, hk⟩ := Lib.lowest_bit 64 x hx0 hx
  obtain ⟨hi, htab⟩ := Lib.deBruijn64_at _ hk
  have hcell := hT _ hi
  rw [htab] at hcell
  exact tz_core x _ _ w (by simp; omega) (tz_key x _ hx hx0 hlow) hi hk hcell

theorem half_and (x m k : Nat) (hx : x < 18446744073709551616) (hm : m < 18446744073709551616) : bits .and .u64 ((x : Int) / (k : Int)) (m : Int) = ((x / k &&& m : Nat) : Int) := by
  have h : x / k < 18446744073709551616 := Nat.lt_of_le_of_lt (Nat.div_le_self _ _) hx
  rw [← bits_and_u64_nat (x / k) m h hm]
  simp
theorem wrap_nat (x : Nat) : IntKind.u64.wrap (x : Int) = ((x % 18446744073709551616 : Nat) : Int) := by rw [IntKind.wrap_u64]; omega
theorem wrap_fold (a k : Nat) : IntKind.u64.wrap ((a : Int) + (a : Int) / (k : Int)) = (((a + a / k) % 18446744073709551616 : Nat) : Int) := by
  rw [← wrap_nat]; simp
theorem two_ands (x m k : Nat) (hm : m < 9223372036854775808) : (x / k &&& m) + (x &&& m) < 18446744073709551616 := by
  have h1 : x / k &&& m ≤ m := Nat.and_le_right
  have h2 : x &&& m ≤ m := Nat.and_le_right
  omega
theorem and_127 (f : Nat) (hf : f < 9223372036854775808) : bits .and .i64 (f : Int) 127 = ((f % 128 : Nat) : Int) := by
  show IntKind.i64.wrap ((BitVec.ofInt 64 (f : Int) &&& BitVec.ofInt 64 (127 : Int)).toNat : Int) = _
  have e : (BitVec.ofInt 64 (f : Int) &&& BitVec.ofInt 64 (127 : Int)).toNat = f % 128 := by
    rw [BitVec.toNat_and, BitVec.ofInt_natCast, BitVec.toNat_ofNat, Nat.mod_eq_of_lt (by omega)]
    have := Nat.and_two_pow_sub_one_eq_mod f 7
    exact this
  rw [e, wrap_i64_small _ (by omega) (by omega)]

set_option maxHeartbeats 1000000 in
theorem ones_core (x a b c d e f r : Nat) (w : World) (h1 : IntKind.u64.wrap (bits BinOp.and IntKind.u64 ((x : Int) / 2) 6148914691236517205 + bits BinOp.and IntKind.u64 (x : Int) 6148914691236517205) = (a : Int))
    (h2 : IntKind.u64.wrap (bits BinOp.and IntKind.u64 ((a : Int) / 4) 3689348814741910323 + bits BinOp.and IntKind.u64 (a : Int) 3689348814741910323) = (b : Int))
    (h3 : bits BinOp.and IntKind.u64 (IntKind.u64.wrap ((b : Int) / 16 + (b : Int))) 1085102592571150095 = (c : Int))
    (h4 : IntKind.u64.wrap ((c : Int) + (c : Int) / 256) = (d : Int)) (h5 : IntKind.u64.wrap ((d : Int) + (d : Int) / 65536) = (e : Int)) (h6 : IntKind.u64.wrap ((e : Int) + (e : Int) / 4294967296) = (f : Int))
    (h7 : bits .and .i64 (f : Int) 127 = (r : Int)) (h8 : f < 9223372036854775808) :
    Calls Tryd.prog 56 #[.int .u64 (x : Int)] w fun e w' => e = .returned (.int .i64 (r : Int)) ∧ w' = w := by
  go_enter Tryd.func56, Tryd.ntmps56
  go_wp2
  go_ret
  exact ⟨rfl, rfl⟩

theorem ones_any (x : Nat) (hx : x < 18446744073709551616) (w : World) :
    Calls Tryd.prog 56 #[.int .u64 (x : Int)] w fun e w' => e = .returned (.int .i64 ((Pop.pop x 64 : Nat) : Int)) ∧ w' = w := by
  have ha : Pop.y1 x < 18446744073709551616 := two_ands x _ 2 (by decide)
  have hb : Pop.y2 (Pop.y1 x) < 18446744073709551616 := two_ands (Pop.y1 x) _ 4 (by decide)
  have h3 := Pop.y3_eq (Pop.y2 (Pop.y1 x)) (Pop.f2 x) (Pop.f2_le x) (Pop.y2_eq x)
  have hcnt := Pop.count x _ _ _ _ rfl rfl rfl rfl
  have hcl : Pop.y3 (Pop.y2 (Pop.y1 x)) < 18446744073709551616 := Nat.lt_of_le_of_lt Nat.and_le_right (by decide)
  refine ones_core x (Pop.y1 x) (Pop.y2 (Pop.y1 x)) (Pop.y3 (Pop.y2 (Pop.y1 x))) _ _ _ _ w ?_ ?_ ?_ (wrap_fold _ 256) (wrap_fold _ 65536) (wrap_fold _ 4294967296) ?_ hcnt.2
  · have e1 : bits .and .u64 ((x : Int) / 2) 6148914691236517205 = _ := half_and x 6148914691236517205 2 hx (by decide)
    have e2 : bits .and .u64 (x : Int) 6148914691236517205 = _ := bits_and_u64_nat x 6148914691236517205 hx (by decide)
    have e3 := two_ands x 6148914691236517205 2 (by decide)
    rw [e1, e2, IntKind.wrap_u64]
    unfold Pop.y1
    omega
  · have e1 : bits .and .u64 ((Pop.y1 x : Int) / 4) 3689348814741910323 = _ := half_and (Pop.y1 x) 3689348814741910323 4 ha (by decide)
    have e2 : bits .and .u64 (Pop.y1 x : Int) 3689348814741910323 = _ := bits_and_u64_nat (Pop.y1 x) 3689348814741910323 ha (by decide)
    have e3 := two_ands (Pop.y1 x) 3689348814741910323 4 (by decide)
    rw [e1, e2, IntKind.wrap_u64]
    unfold Pop.y2
    omega
  · have e0 : IntKind.u64.wrap (((Pop.y2 (Pop.y1 x) : Nat) : Int) / 16 + (Pop.y2 (Pop.y1 x) : Nat)) = ((Pop.y2 (Pop.y1 x) / 16 + Pop.y2 (Pop.y1 x) : Nat) : Int) := by rw [IntKind.wrap_u64]; omega
    have e2 : bits .and .u64 ((Pop.y2 (Pop.y1 x) / 16 + Pop.y2 (Pop.y1 x) : Nat) : Int) 1085102592571150095 = _ := bits_and_u64_nat (Pop.y2 (Pop.y1 x) / 16 + Pop.y2 (Pop.y1 x)) 1085102592571150095 (by omega) (by decide)
    rw [e0, e2]
    rfl
  · rw [and_127 _ hcnt.2, hcnt.1]

end Go.Proofs.YtajdgkbeenalkaaDoor
