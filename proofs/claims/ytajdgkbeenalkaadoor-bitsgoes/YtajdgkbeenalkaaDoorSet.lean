/- The contracts of a set's small calls: isNone, may, bit, size, New, Put, Drop, Has, Bound. -/
import Derived.Test.YtajdgkbeenalkaaDoorBase
import Derived.Test.YtajdgkbeenalkaaDoorChecked
import Derived.Deep.LoopGhost
import Derived.Deep.RegionHeld3
import Derived.Deep.DrawnRows
import Derived.Deep.QuietTactic
import Derived.Deep.RegionWith
import Derived.BigQuiet
import Derived.Deep.OwnRows
namespace Go.Proofs.YtajdgkbeenalkaaDoor
open Go.RowKit
attribute [local go_sem ↓] Go.wp_at_zero Go.wp_at_succ

set_option maxHeartbeats 400000 in
theorem isNone_nil (w : World) : Calls Tryd.prog 47 #[.pointer none] w fun e w' => e = .returned (.bool true) ∧ w' = w := by
  go_enter Tryd.func47, Tryd.ntmps47
  go_wp2
  go_ret
  exact ⟨rfl, rfl⟩
set_option maxHeartbeats 400000 in
theorem isNone_at (b : Nat) (m : Bool) (w : World) (h : w.cell? ⟨b, 0, none⟩ = some (.bool m)) : Calls Tryd.prog 47 #[.pointer (some ⟨b, 0, none⟩)] w fun e w' => e = .returned (.bool (!m)) ∧ w' = w := by
  go_enter Tryd.func47, Tryd.ntmps47
  go_wp2
  go_ret
  exact ⟨rfl, rfl⟩

/-- What may answers. -/
def mayF (n : Nat) (i : Int) : Int := if 0 ≤ i ∧ i < (n : Int) then 0 else 2

set_option maxHeartbeats 400000 in
theorem may_none (p : Option Addr) (i : Int) (w : World) (h : p = none ∨ ∃ b, p = some ⟨b, 0, none⟩ ∧ w.cell? ⟨b, 0, none⟩ = some (.bool false)) :
    Calls Tryd.prog 53 #[.pointer p, .int .i64 i] w fun e w' => e = .returned (.int .i64 1) ∧ w' = w := by
  go_enter Tryd.func53, Tryd.ntmps53
  go_wp2_with fail
  have hc : Calls Tryd.prog 47 #[.pointer p] w fun e w' => e = .returned (.bool true) ∧ w' = w := by
    rcases h with rfl | ⟨b, rfl, hb⟩
    · exact isNone_nil w
    · exact isNone_at b false w hb
  refine hc.mono ?_
  rintro e w' ⟨rfl, rfl⟩
  go_wp2
  go_ret
  exact ⟨rfl, rfl⟩

set_option maxHeartbeats 400000 in
theorem may_any (b g : Nat) (L : List Bool) (i : Int) (w : World) (h : SetAt w b g L) :
    Calls Tryd.prog 53 #[.pointer (some ⟨b, 0, none⟩), .int .i64 i] w fun e w' => e = .returned (.int .i64 (mayF L.length i)) ∧ w' = w := by
  have hb := h.bound
  have hm := h.made
  clear h
  generalize L.length = n at hb ⊢
  by_cases h1 : 0 ≤ i ∧ i < (n : Int)
  · have hF : mayF n i = 0 := by simp [mayF, h1]
    obtain ⟨h1, h2⟩ := h1
    rw [hF]; clear hF
    go_enter Tryd.func53, Tryd.ntmps53
    go_wp2_with fail
    refine (isNone_at b true w hm).mono ?_
    rintro e w' ⟨rfl, rfl⟩
    go_wp2
    go_ret
    exact ⟨rfl, rfl⟩
  · have hF : mayF n i = 2 := by simp only [mayF]; rw [if_neg h1]
    rw [hF]; clear hF
    go_enter Tryd.func53, Tryd.ntmps53
    go_wp2_with fail
    refine (isNone_at b true w hm).mono ?_
    rintro e w' ⟨rfl, rfl⟩
    by_cases h2 : i < 0
    · clear h1
      go_wp2
      go_ret
      exact ⟨rfl, rfl⟩
    · have h3 : (n : Int) ≤ i := by omega
      have h4 : 0 ≤ i := by omega
      clear h1 h2
      go_wp2
      go_ret
      exact ⟨rfl, rfl⟩

theorem shl_bit (k : Nat) (hk : k < 64) : IntKind.u64.wrap (2 ^ k) = ((2 ^ k : Nat) : Int) := by
  rw [IntKind.wrap_u64]
  have : (2 : Nat) ^ k < 18446744073709551616 := Nat.pow_lt_pow_right (a := 2) (by decide) (m := k) (n := 64) hk
  have e : ((2 : Int) ^ k) = ((2 ^ k : Nat) : Int) := by simp
  rw [e]; generalize (2 : Nat) ^ k = y at this ⊢; omega

set_option maxHeartbeats 400000 in
theorem bit_any (i : Nat) (w : World) (hi : i ≤ 65536) :
    Calls Tryd.prog 54 #[.int .i64 (i : Int)] w fun e w' => e = .returned (.int .u64 ((2 ^ (i % 64) : Nat) : Int)) ∧ w' = w := by
  go_enter Tryd.func54, Tryd.ntmps54
  go_wp2
  go_ret
  exact ⟨by rw [shl_bit _ (Nat.mod_lt _ (by decide))]; rfl, rfl⟩

set_option maxHeartbeats 400000 in
theorem size_any (b g : Nat) (L : List Bool) (w : World) (h : SetAt w b g L) :
    Calls Tryd.prog 51 #[.pointer (some ⟨b, 0, none⟩)] w fun e w' => e = .returned (.int .i64 (((L.length + 7) / 8 : Nat) : Int)) ∧ w' = w := by
  have hb := h.bound
  have hs := h.small
  clear h
  generalize L.length = n at hb hs ⊢
  go_enter Tryd.func51, Tryd.ntmps51
  go_wp2
  go_ret
  exact ⟨by rw [show (((n + 7) / 8 : Nat) : Int) = ((n : Int) + 7) / 8 by omega]; rfl, rfl⟩

theorem Tryd.info78 : (Tryd.prog.info? 78).map (fun i => (i.zero, i.size, i.bytes)) = some (some (.int .u64 0), 1, 8) := by kernel_rfl
theorem made_words (n : Nat) : madeCells #[.int .u64 0] n = (wvals (List.replicate n 0)).toArray := by
  apply Array.ext'
  rw [toList_madeCells_one]
  simp [wvals]
theorem make_words (n : Nat) (C : Int) (hC : C = (n : Int)) (h : n ≤ 35184372088832) (w : World) : (Instr.makeSlice 53 (.int .i64 C) (.int .i64 C)).run Tryd.prog w = .ok (.slice (some ⟨w.heap.size, 0, none⟩) n n) (w.alloc (.cells (wvals (List.replicate n 0)).toArray 78)) := by
  subst hC
  rw [run_make_row' (P := Tryd.prog) 53 78 (.int .u64 0) 8 Tryd.underlying53 Tryd.info78 rfl .i64 .i64 n (by omega) (by omega) w, made_words]

set_option maxHeartbeats 400000 in
theorem new_bad (n : Int) (w : World) (h : n < 0 ∨ 65536 < n) :
    Calls Tryd.prog 10 #[.int .i64 n] w fun e w' => e = .returned (.tuple #[.pointer none, .int .i64 2]) ∧ w' = w := by
  go_enter Tryd.func10, Tryd.ntmps10
  rcases h with h | h
  · go_wp2
    go_ret2
    exact ⟨rfl, rfl⟩
  · have h2 : 0 ≤ n := by omega
    go_wp2
    go_ret2
    exact ⟨rfl, rfl⟩

set_option maxHeartbeats 400000 in
theorem new_any (n : Nat) (w : World) (h : n ≤ 65536) (hw : 0 < w.heap.size) :
    Calls Tryd.prog 10 #[.int .i64 (n : Int)] w fun e w' => ∃ b g, e = .returned (.tuple #[.pointer (some ⟨b, 0, none⟩), .int .i64 0]) ∧ SetAt w' b g (List.replicate n false) ∧ w.heap.size ≤ b ∧ w.heap.size ≤ g ∧ w.grownBy w' none := by
  have hmk := make_words ((n + 63) / 64) (((n : Int) + 64 - 1) / 64) (by omega) (by omega)
  have h1 : (0 : Int) ≤ (n : Int) := by omega
  have h2 : (n : Int) ≤ 65536 := by omega
  go_enter Tryd.func10, Tryd.ntmps10
  go_wp2
  go_ret2
  refine ⟨w.heap.size + 1, w.heap.size, rfl, ?_, by omega, Nat.le_refl _, grown_trans (World.grownBy_alloc w _ _) (World.grownBy_alloc _ _ _)⟩
  have e1 := heap_alloc_new (w.alloc (.cells (wvals (List.replicate ((n + 63) / 64) 0)).toArray 78)) (Obj.cells #[.bool true, .int .i64 (n : Int), .slice (some ⟨w.heap.size, 0, none⟩) ((n + 63) / 64) ((n + 63) / 64)] 55)
  rw [World.size_alloc] at e1
  refine SetAt.fresh (W := List.replicate ((n + 63) / 64) 0) (cap := (n + 63) / 64) (cur := wvals (List.replicate ((n + 63) / 64) 0)) ?_ ?_ (by simp) (by unfold maxLen; omega) (by simp [wvals]) (by simp [wvals]) (rep_none n h) hw
  · simpa using e1
  · exact (Below.heap_alloc _ _ _ (by simp)).trans (heap_alloc_new w _)

theorem SetAt.drew {w : World} {b g : Nat} {L : List Bool} (h : SetAt w b g L) : SetAt w.drew b g L := h.kept (grown_drew w none) (by simp) (by simp)

theorem wrap_i64_small (q : Int) (h1 : -9223372036854775808 ≤ q) (h2 : q ≤ 9223372036854775807) : IntKind.i64.wrap q = q := by
  rw [IntKind.wrap_i64]; omega

set_option maxHeartbeats 1000000 in
theorem put_any (b g : Nat) (L : List Bool) (i : Nat) (w : World) (h : SetAt w b g L) (hi : i < L.length) :
    Calls Tryd.prog 24 #[.pointer (some ⟨b, 0, none⟩), .int .i64 (i : Int)] w fun e w' => e = .returned (.int .i64 0) ∧ SetAt w' b g (L.set i true) ∧ w.grownBy w' (some g) := by
  obtain ⟨W, cap, hc, hw, hcap, hcap2, hcell, hlt, hfr, hst⟩ := h.store hi true
  have hsm := h.small
  have hmay := may_any b g L (i : Int) w h
  rw [show mayF L.length (i : Int) = 0 by simp [mayF]; omega] at hmay
  have hq : IntKind.i64.wrap ((i : Int) / 64) = ((i / 64 : Nat) : Int) := by rw [wrap_i64_small _ (by omega) (by omega)]; omega
  have hbt := fun w => bit_any i w (by omega)
  generalize W.getD (i / 64) 0 = x at *
  generalize i / 64 = q at *
  have hor := bits_or_u64_nat x (2 ^ (i % 64)) hlt (Nat.pow_lt_pow_right (a := 2) (by decide) (m := i % 64) (n := 64) (by omega))
  have hx2 : x ||| 2 ^ (i % 64) < 18446744073709551616 := Nat.or_lt_two_pow (n := 64) hlt (Nat.pow_lt_pow_right (a := 2) (by decide) (m := i % 64) (n := 64) (by omega))
  have H := hide (hst (x ||| 2 ^ (i % 64)) hx2 (fun c _ => testBit_or_bit x (i % 64) c))
  have HM := hide hmay
  have HB := hide hbt
  clear hst hmay hbt
  generalize 2 ^ (i % 64) = m at *
  generalize x ||| m = y at *
  have hw1 : (0 : Int) ≤ (q : Int) := by omega
  have hw2 : (q : Int) < (W.length : Int) := by omega
  go_enter Tryd.func24, Tryd.ntmps24
  go_wp2_with fail
  refine HM.out.mono ?_
  rintro e w' ⟨rfl, rfl⟩
  go_wp2_with fail
  go_region_with (go_at_call 54; refine (HB.out _).mono ?_; rintro e w2 ⟨rfl, rfl⟩)
  all_goals
    go_wp2
    go_ret
    exact ⟨rfl, H.out.drew, grown_trans (grown_setCell _ _ _ _) (grown_drew _ _)⟩

def andNotN (x m : Nat) : Nat := (BitVec.ofNat 64 x &&& ~~~ BitVec.ofNat 64 m).toNat
theorem andNotN_lt (x m : Nat) : andNotN x m < 18446744073709551616 := BitVec.isLt _
theorem bits_andNot_u64_nat (a b : Nat) : bits .andNot .u64 (a : Int) (b : Int) = ((andNotN a b : Nat) : Int) := by
  show IntKind.u64.wrap ((BitVec.ofInt 64 (a : Int) &&& ~~~ BitVec.ofInt 64 (b : Int)).toNat : Int) = _
  rw [BitVec.ofInt_natCast, BitVec.ofInt_natCast, IntKind.wrap_u64]
  have := andNotN_lt a b
  unfold andNotN at this ⊢
  omega
theorem testBit_andNotN (x k c : Nat) (hc : c < 64) : (andNotN x (2 ^ k)).testBit c = if c = k then false else x.testBit c := by
  unfold andNotN
  rw [BitVec.testBit_toNat, BitVec.getLsbD_and, BitVec.getLsbD_not, BitVec.getLsbD_ofNat, BitVec.getLsbD_ofNat, Nat.testBit_two_pow]
  by_cases h : c = k
  · subst h; simp
  · rw [if_neg h]; simp [hc]; intro _ e; exact absurd e.symm h

set_option maxHeartbeats 1000000 in
theorem drop_any (b g : Nat) (L : List Bool) (i : Nat) (w : World) (h : SetAt w b g L) (hi : i < L.length) :
    Calls Tryd.prog 34 #[.pointer (some ⟨b, 0, none⟩), .int .i64 (i : Int)] w fun e w' => e = .returned (.int .i64 0) ∧ SetAt w' b g (L.set i false) ∧ w.grownBy w' (some g) := by
  obtain ⟨W, cap, hc, hw, hcap, hcap2, hcell, hlt, hfr, hst⟩ := h.store hi false
  have hsm := h.small
  have hmay := may_any b g L (i : Int) w h
  rw [show mayF L.length (i : Int) = 0 by simp [mayF]; omega] at hmay
  have hq : IntKind.i64.wrap ((i : Int) / 64) = ((i / 64 : Nat) : Int) := by rw [wrap_i64_small _ (by omega) (by omega)]; omega
  have hbt := fun w => bit_any i w (by omega)
  generalize W.getD (i / 64) 0 = x at *
  generalize i / 64 = q at *
  have hor := bits_andNot_u64_nat x (2 ^ (i % 64))
  have H := hide (hst (andNotN x (2 ^ (i % 64))) (andNotN_lt _ _) (fun c hc => testBit_andNotN x (i % 64) c hc))
  have HM := hide hmay
  have HB := hide hbt
  clear hst hmay hbt
  generalize andNotN x (2 ^ (i % 64)) = y at *
  generalize 2 ^ (i % 64) = m at *
  have hw1 : (0 : Int) ≤ (q : Int) := by omega
  have hw2 : (q : Int) < (W.length : Int) := by omega
  go_enter Tryd.func34, Tryd.ntmps34
  go_wp2_with fail
  refine HM.out.mono ?_
  rintro e w' ⟨rfl, rfl⟩
  go_wp2_with fail
  go_region_with (go_at_call 54; refine (HB.out _).mono ?_; rintro e w2 ⟨rfl, rfl⟩)
  all_goals
    go_wp2
    go_ret
    exact ⟨rfl, H.out.drew, grown_trans (grown_setCell _ _ _ _) (grown_drew _ _)⟩

/-- No set. -/
def NoSet (w : World) (p : Option Addr) : Prop := p = none ∨ ∃ b, p = some ⟨b, 0, none⟩ ∧ w.cell? ⟨b, 0, none⟩ = some (.bool false)
theorem NoSet.is {w : World} {p : Option Addr} (h : NoSet w p) : Calls Tryd.prog 47 #[.pointer p] w fun e w' => e = .returned (.bool true) ∧ w' = w := by
  rcases h with rfl | ⟨b, rfl, hb⟩
  · exact isNone_nil w
  · exact isNone_at b false w hb

set_option maxHeartbeats 400000 in
theorem put_bad (p : Option Addr) (i c : Int) (w : World) (hc : c ≠ 0) (hm : Calls Tryd.prog 53 #[.pointer p, .int .i64 i] w fun e w' => e = .returned (.int .i64 c) ∧ w' = w) :
    Calls Tryd.prog 24 #[.pointer p, .int .i64 i] w fun e w' => e = .returned (.int .i64 c) ∧ w' = w := by
  have HM := hide hm
  clear hm
  go_enter Tryd.func24, Tryd.ntmps24
  go_wp2_with fail
  refine HM.out.mono ?_
  rintro e w' ⟨rfl, rfl⟩
  go_wp2
  go_ret
  exact ⟨rfl, rfl⟩

set_option maxHeartbeats 400000 in
theorem drop_bad (p : Option Addr) (i c : Int) (w : World) (hc : c ≠ 0) (hm : Calls Tryd.prog 53 #[.pointer p, .int .i64 i] w fun e w' => e = .returned (.int .i64 c) ∧ w' = w) :
    Calls Tryd.prog 34 #[.pointer p, .int .i64 i] w fun e w' => e = .returned (.int .i64 c) ∧ w' = w := by
  have HM := hide hm
  clear hm
  go_enter Tryd.func34, Tryd.ntmps34
  go_wp2_with fail
  refine HM.out.mono ?_
  rintro e w' ⟨rfl, rfl⟩
  go_wp2
  go_ret
  exact ⟨rfl, rfl⟩

end Go.Proofs.YtajdgkbeenalkaaDoor
