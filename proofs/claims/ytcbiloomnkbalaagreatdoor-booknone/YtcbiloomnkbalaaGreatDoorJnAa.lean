/- Texts joined: BkT, BkU, BkV, LaO. -/
import Derived.Test.YtcbiloomnkbalaaGreatDoorJoAv
import Derived.Test.YtcbiloomnkbalaaGreatDoorJoAw
/- Books that aren't there. -/
namespace Go.Proofs.YtcbiloomnkbalaaGreatDoor
open Go.RowKit
attribute [local go_sem ↓] Go.wp_at_zero Go.wp_at_succ
attribute [local go_sem] Oper.semAt_some
/-- No book, whatever is made behind. -/
def NoB (w : World) (v : Value) : Prop := ∀ W, w.grownBy W none → Calls Tryz.prog 47 #[v] W fun e w' => e = .returned (.bool true) ∧ w' = W
theorem NoB.then {w w' : World} {v : Value} (h : NoB w v) (g : w.grownBy w' none) : NoB w' v := fun W k => h W (grown_trans g k)
theorem noB_nil (w : World) : NoB w (.pointer none) := by
  intro W _
  go_enter Tryz.func47, Tryz.ntmps47
  go_wp2
  go_ret
  exact ⟨rfl, rfl⟩
theorem neqNil31 (w : World) (X : Nat) : (binOp .neq 31 (.pointer none) (.pointer (some ⟨X, 0, none⟩))).run Tryz.prog w = .ok (.bool true) w := by kernel_rfl
set_option maxRecDepth 20000 in
theorem noB_zero {w : World} {X : Nat} (h : w.cell? ⟨X, 3, none⟩ = some (.pointer none)) : NoB w (.pointer (some ⟨X, 0, none⟩)) := by
  intro W g
  have c3 := g.cell h (by simp)
  have hq := fun w => neqNil31 w X
  clear h g
  go_enter Tryz.func47, Tryz.ntmps47
  go_wp2
  go_ret
  exact ⟨rfl, rfl⟩
section
variable {w : World} {v : Value}
set_option maxHeartbeats 4000000 in
theorem no_apply (h : NoB w v) (r : Rc) : Calls Tryz.prog 36 #[v, Rk.rcV r] w fun e w' => e = .returned (.int .i64 1) ∧ w.grownBy w' none := by
  have HC := hide (h _ (grown_alloc w (.cells [.int .i64 r.k, .int .u32 r.i, .int .i64 r.s, .int .i64 r.u, .int .i64 r.c].toArray 46)))
  clear h
  unfold Rk.rcV
  go_enter Tryz.func36, Tryz.ntmps36
  go_wp2_with fail
  refine HC.out.mono ?_
  rintro e w1 ⟨rfl, rfl⟩
  go_wp2
  go_ret
  exact ⟨rfl, grown_alloc _ _⟩
set_option maxHeartbeats 4000000 in
theorem no_len (h : NoB w v) : Calls Tryz.prog 28 #[v] w fun e w' => e = .returned (.int .i64 0) ∧ w' = w := by
  have HC := hide (h _ (grown_refl _ _))
  clear h
  go_enter Tryz.func28, Tryz.ntmps28
  go_wp2_with fail
  refine HC.out.mono ?_
  rintro e w1 ⟨rfl, rfl⟩
  go_wp2
  go_ret
  exact ⟨rfl, rfl⟩
set_option maxHeartbeats 4000000 in
theorem no_next (h : NoB w v) : Calls Tryz.prog 31 #[v] w fun e w' => e = .returned (.int .u32 0) ∧ w' = w := by
  have HC := hide (h _ (grown_refl _ _))
  clear h
  go_enter Tryz.func31, Tryz.ntmps31
  go_wp2_with fail
  refine HC.out.mono ?_
  rintro e w1 ⟨rfl, rfl⟩
  go_wp2
  go_ret
  exact ⟨rfl, rfl⟩
set_option maxHeartbeats 4000000 in
theorem no_clock (h : NoB w v) : Calls Tryz.prog 32 #[v] w fun e w' => e = .returned (.int .i64 0) ∧ w' = w := by
  have HC := hide (h _ (grown_refl _ _))
  clear h
  go_enter Tryz.func32, Tryz.ntmps32
  go_wp2_with fail
  refine HC.out.mono ?_
  rintro e w1 ⟨rfl, rfl⟩
  go_wp2
  go_ret
  exact ⟨rfl, rfl⟩
set_option maxHeartbeats 4000000 in
theorem no_due (h : NoB w v) : Calls Tryz.prog 33 #[v] w fun e w' => e = .returned (.tuple #[.int .i64 0, .bool false]) ∧ w' = w := by
  have HC := hide (h _ (grown_refl _ _))
  clear h
  go_enter Tryz.func33, Tryz.ntmps33
  go_wp2_with fail
  refine HC.out.mono ?_
  rintro e w1 ⟨rfl, rfl⟩
  go_wp2
  go_ret2
  exact ⟨rfl, rfl⟩
set_option maxHeartbeats 4000000 in
theorem no_copy (h : NoB w v) : Calls Tryz.prog 22 #[v] w fun e w' => e = .returned (.pointer none) ∧ w' = w := by
  have HC := hide (h _ (grown_refl _ _))
  clear h
  go_enter Tryz.func22, Tryz.ntmps22
  go_wp2_with fail
  refine HC.out.mono ?_
  rintro e w1 ⟨rfl, rfl⟩
  go_wp2
  go_ret
  exact ⟨rfl, rfl⟩
set_option maxHeartbeats 4000000 in
theorem no_same1 (h : NoB w v) (u : Value) : Calls Tryz.prog 20 #[v, u] w fun e w' => e = .returned (.bool false) ∧ w' = w := by
  have HC := hide (h _ (grown_refl _ _))
  clear h
  go_enter Tryz.func20, Tryz.ntmps20
  go_wp2_with fail
  refine HC.out.mono ?_
  rintro e w1 ⟨rfl, rfl⟩
  go_wp2
  go_ret
  exact ⟨rfl, rfl⟩
set_option maxHeartbeats 4000000 in
theorem no_same2 {p : Bp} {S : Sb} {K : Nat} (hp : BkAt w p S K) (h : NoB w v) : Calls Tryz.prog 20 #[.pointer (some ⟨p.b, 0, none⟩), v] w fun e w' => e = .returned (.bool false) ∧ w' = w := by
  have HC0 := hide hp.isNone
  have HC := hide (h _ (grown_refl _ _))
  clear h hp
  go_enter Tryz.func20, Tryz.ntmps20
  go_wp2_with fail
  refine HC0.out.mono ?_
  rintro e w1 ⟨rfl, rfl⟩
  go_wp2_with fail
  refine HC.out.mono ?_
  rintro e w1 ⟨rfl, rfl⟩
  go_wp2
  go_ret
  exact ⟨rfl, rfl⟩
set_option maxHeartbeats 4000000 in
theorem no_get (h : NoB w v) (k : Int) : Calls Tryz.prog 29 #[v, .int .u32 k] w fun e w' => e = .returned (.tuple #[bgV ⟨0, 0, 0⟩, .int .i64 1]) ∧ w.grownBy w' none := by
  have HC := hide (h _ (grown_alloc w (.cells bgz.toArray 78)))
  have HB := hide (heap_alloc_new w (.cells bgz.toArray 78))
  clear h
  obtain ⟨d0, d1, d2, d3⟩ := box3 HB.out
  unfold bgz at *
  go_enter Tryz.func29, Tryz.ntmps29
  go_wp2_with fail
  refine HC.out.mono ?_
  rintro e w1 ⟨rfl, rfl⟩
  go_wp2
  obtain ⟨r1, r2⟩ := row3 _ HB.out (.int .u32 0) (.int .i64 0) (.int .i64 0)
  first
    | exact bodyPost_ret (results_bg rfl _ _ w.heap.size ⟨0, 0, 0⟩ (.int .i64 1) rfl r1 rfl) rfl ⟨rfl, gn_set (gn_set (gn_set (grown_alloc _ _) (Nat.le_refl _)) (Nat.le_refl _)) (Nat.le_refl _)⟩
    | exact bodyPost_ret (results_bg rfl _ _ w.heap.size ⟨0, 0, 0⟩ (.int .i64 1) rfl HB.out rfl) rfl ⟨rfl, grown_alloc _ _⟩
set_option maxHeartbeats 4000000 in
theorem no_at (h : NoB w v) (k : Int) : Calls Tryz.prog 30 #[v, .int .i64 k] w fun e w' => e = .returned (.tuple #[bgV ⟨0, 0, 0⟩, .int .i64 1]) ∧ w.grownBy w' none := by
  have HC := hide (h _ (grown_alloc w (.cells bgz.toArray 78)))
  have HB := hide (heap_alloc_new w (.cells bgz.toArray 78))
  clear h
  obtain ⟨d0, d1, d2, d3⟩ := box3 HB.out
  unfold bgz at *
  go_enter Tryz.func30, Tryz.ntmps30
  go_wp2_with fail
  refine HC.out.mono ?_
  rintro e w1 ⟨rfl, rfl⟩
  go_wp2
  obtain ⟨r1, r2⟩ := row3 _ HB.out (.int .u32 0) (.int .i64 0) (.int .i64 0)
  first
    | exact bodyPost_ret (results_bg rfl _ _ w.heap.size ⟨0, 0, 0⟩ (.int .i64 1) rfl r1 rfl) rfl ⟨rfl, gn_set (gn_set (gn_set (grown_alloc _ _) (Nat.le_refl _)) (Nat.le_refl _)) (Nat.le_refl _)⟩
    | exact bodyPost_ret (results_bg rfl _ _ w.heap.size ⟨0, 0, 0⟩ (.int .i64 1) rfl HB.out rfl) rfl ⟨rfl, grown_alloc _ _⟩
set_option maxHeartbeats 4000000 in
theorem no_shape (h : NoB w v) : Calls Tryz.prog 34 #[v] w fun e w' => e = .returned (.agg #[.int .i64 0, .int .i64 0, .int .i64 0]) ∧ w.grownBy w' none := by
  have HC := hide (h _ (grown_alloc w (.cells [.int .i64 0, .int .i64 0, .int .i64 0].toArray 23)))
  have HB := hide (heap_alloc_new w (.cells [.int .i64 0, .int .i64 0, .int .i64 0].toArray 23))
  clear h
  obtain ⟨d0, d1, d2, d3⟩ := box3 HB.out
  go_enter Tryz.func34, Tryz.ntmps34
  go_wp2_with fail
  refine HC.out.mono ?_
  rintro e w1 ⟨rfl, rfl⟩
  go_wp2
  obtain ⟨r1, r2⟩ := row3 _ HB.out (.int .i64 0) (.int .i64 0) (.int .i64 0)
  first
    | exact bodyPost_ret (results_cell_row rfl _ _ w.heap.size 23 #[.int .i64 0, .int .i64 0, .int .i64 0] (0, 0) _ rfl r1 Tryz.underlying23 rfl (by kernel_rfl)) rfl ⟨rfl, gn_set (gn_set (gn_set (grown_alloc _ _) (Nat.le_refl _)) (Nat.le_refl _)) (Nat.le_refl _)⟩
    | exact bodyPost_ret (results_cell_row rfl _ _ w.heap.size 23 #[.int .i64 0, .int .i64 0, .int .i64 0] (0, 0) _ rfl HB.out Tryz.underlying23 rfl (by kernel_rfl)) rfl ⟨rfl, grown_alloc _ _⟩
set_option maxHeartbeats 4000000 in
theorem no_bookings {ao : Option Addr} (h : NoB w (.pointer ao)) : Calls Tryz.prog 50 #[.pointer ao] w fun e w' => e = .returned (.slice none 0 0) ∧ w.grownBy w' none := by
  have HC := hide (h _ (grown_alloc w (.cells #[.pointer ao] 31)))
  clear h
  go_enter Tryz.func50, Tryz.ntmps50
  go_wp2_with fail
  refine HC.out.mono ?_
  rintro e w1 ⟨rfl, rfl⟩
  go_wp2
  go_ret
  exact ⟨rfl, grown_alloc _ _⟩
theorem own_none (w : World) (B : Nat) : w.ownsRow B 78 3 (.slice none 0 0) ([] : List Bg).length (bgs []) := ⟨rfl, .inl ⟨rfl, rfl⟩⟩
set_option maxHeartbeats 4000000 in
theorem no_all {ao : Option Addr} (h : NoB w (.pointer ao)) : Calls Tryz.prog 27 #[.pointer ao] w fun e w' => ∃ u B, e = .returned u ∧ VlV w' B u [] ∧ w.grownBy w' none := by
  have HC := hide (no_bookings h)
  have HV : Hid (∀ W, Calls Tryz.prog 52 #[.slice none 0 0] W fun e w' => ∃ u, e = .returned u ∧ VlV w' W.heap.size u [] ∧ W.grownBy w' none) := fun W => values_any (own_none W W.heap.size) (Nat.le_refl _)
  clear h
  go_enter Tryz.func27, Tryz.ntmps27
  go_wp2_with fail
  refine HC.out.mono ?_
  rintro e w1 ⟨rfl, hg1⟩
  go_wp2_with fail
  refine (HV.out _).mono ?_
  rintro e w2 ⟨u, rfl, hv, hg2⟩
  have HE := hide (And.intro hv (grown_trans hg1 hg2))
  clear hv hg1 hg2
  go_wp2
  go_ret
  exact ⟨_, _, rfl, HE.out.1, HE.out.2⟩
end
/-- The document's book that isn't there. -/
def rz : List Value := [.bool false, .int .i64 0, .int .i64 0, .int .i64 0, .slice none 0 0, .int .u32 0, .int .i64 0]
structure RfZ (w : World) (X : Nat) : Prop where
  at_ : w.heap[X]? = some (.cells rz.toArray 52 (0, 0))
theorem RfZ.then {w w' : World} {X : Nat} (h : RfZ w X) (g : w.grownBy w' none) : RfZ w' X := ⟨(g.block _ (row_lt h.at_) (by simp)).trans h.at_⟩
theorem RfZ.cell {w : World} {X : Nat} (h : RfZ w X) : ∀ j v, rz[j]? = some v → w.cell? ⟨X, j, none⟩ = some v := fun j v hv => by rw [cell_row h.at_]; exact hv
section
variable {w : World} {X : Nat}
set_option maxHeartbeats 4000000 in
theorem rz_apply (h : RfZ w X) (r : Rc) : Calls Tryz.prog 44 #[.pointer (some ⟨X, 0, none⟩), Rk.rcV r] w fun e w' => e = .returned (.int .i64 1) ∧ w.grownBy w' none := by
  have c0 := (h.then (grown_alloc w (.cells [.int .i64 r.k, .int .u32 r.i, .int .i64 r.s, .int .i64 r.u, .int .i64 r.c].toArray 46))).cell 0 _ rfl
  clear h
  unfold Rk.rcV
  go_enter Tryz.func44, Tryz.ntmps44
  go_wp2
  go_ret
  exact ⟨rfl, grown_alloc _ _⟩
set_option maxHeartbeats 4000000 in
theorem rz_get (h : RfZ w X) (k : Int) : Calls Tryz.prog 45 #[.pointer (some ⟨X, 0, none⟩), .int .u32 k] w fun e w' => e = .returned (.tuple #[bgV ⟨0, 0, 0⟩, .int .i64 1]) ∧ w.grownBy w' none := by
  have c0 := (h.then (grown_alloc w (.cells bgz.toArray 78))).cell 0 _ rfl
  have HB := hide (heap_alloc_new w (.cells bgz.toArray 78))
  clear h
  obtain ⟨d0, d1, d2, d3⟩ := box3 HB.out
  unfold bgz at *
  go_enter Tryz.func45, Tryz.ntmps45
  go_wp2
  obtain ⟨r1, r2⟩ := row3 _ HB.out (.int .u32 0) (.int .i64 0) (.int .i64 0)
  first
    | exact bodyPost_ret (results_bg rfl _ _ w.heap.size ⟨0, 0, 0⟩ (.int .i64 1) rfl r1 rfl) rfl ⟨rfl, gn_set (gn_set (gn_set (grown_alloc _ _) (Nat.le_refl _)) (Nat.le_refl _)) (Nat.le_refl _)⟩
    | exact bodyPost_ret (results_bg rfl _ _ w.heap.size ⟨0, 0, 0⟩ (.int .i64 1) rfl HB.out rfl) rfl ⟨rfl, grown_alloc _ _⟩
set_option maxHeartbeats 4000000 in
theorem rz_at (h : RfZ w X) (k : Int) : Calls Tryz.prog 46 #[.pointer (some ⟨X, 0, none⟩), .int .i64 k] w fun e w' => e = .returned (.tuple #[bgV ⟨0, 0, 0⟩, .int .i64 1]) ∧ w.grownBy w' none := by
  have c0 := (h.then (grown_alloc w (.cells bgz.toArray 78))).cell 0 _ rfl
  have HB := hide (heap_alloc_new w (.cells bgz.toArray 78))
  clear h
  obtain ⟨d0, d1, d2, d3⟩ := box3 HB.out
  unfold bgz at *
  go_enter Tryz.func46, Tryz.ntmps46
  go_wp2
  obtain ⟨r1, r2⟩ := row3 _ HB.out (.int .u32 0) (.int .i64 0) (.int .i64 0)
  first
    | exact bodyPost_ret (results_bg rfl _ _ w.heap.size ⟨0, 0, 0⟩ (.int .i64 1) rfl r1 rfl) rfl ⟨rfl, gn_set (gn_set (gn_set (grown_alloc _ _) (Nat.le_refl _)) (Nat.le_refl _)) (Nat.le_refl _)⟩
    | exact bodyPost_ret (results_bg rfl _ _ w.heap.size ⟨0, 0, 0⟩ (.int .i64 1) rfl HB.out rfl) rfl ⟨rfl, grown_alloc _ _⟩
set_option maxHeartbeats 4000000 in
theorem rz_due (h : RfZ w X) : Calls Tryz.prog 51 #[.pointer (some ⟨X, 0, none⟩)] w fun e w' => e = .returned (.tuple #[.int .i64 0, .bool false]) ∧ w' = w := by
  have c4 := h.cell 4 _ rfl
  clear h
  go_enter Tryz.func51, Tryz.ntmps51
  go_wp2
  go_loopg [4, 5] 0 (fun _ a i wr => a = .int .i64 0 ∧ i = .int .i64 0 ∧ wr = w)
  case atStart => exact ⟨rfl, rfl, rfl⟩
  case round =>
    obtain ⟨rfl, rfl, rfl⟩ := hrel
    go_wp2
    go_ret2
    exact ⟨rfl, rfl⟩
end
theorem tmod_neg (x : Int) (n : Nat) (hn : 1 ≤ n) (h : x.tmod (n : Int) < 0) : x.tmod (n : Int) + (n : Int) = x % (n : Int) := by
  have h1 := Int.tmod_eq_emod (a := x) (b := (n : Int))
  have h2 := Int.emod_nonneg x (show (n : Int) ≠ 0 by omega)
  have h3 := Int.emod_lt_of_pos x (show (0 : Int) < (n : Int) by omega)
  rw [h1] at h ⊢
  split at h
  · omega
  · rename_i h4
    rw [if_neg h4]
    simp
theorem tmod_nonneg (x : Int) (n : Nat) (hn : 1 ≤ n) (h : 0 ≤ x.tmod (n : Int)) : x.tmod (n : Int) = x % (n : Int) := by
  have h1 := Int.tmod_eq_emod (a := x) (b := (n : Int))
  have h2 := Int.emod_nonneg x (show (n : Int) ≠ 0 by omega)
  have h3 := Int.emod_lt_of_pos x (show (0 : Int) < (n : Int) by omega)
  rw [h1] at h ⊢
  split
  · omega
  · rename_i h4
    rw [if_neg h4] at h
    simp at h
    omega
set_option maxHeartbeats 400000 in
theorem pick_any (x N : Int) (n : Nat) (w : World) (hN : N = (n : Int)) (hn : 1 ≤ n) (_hn2 : n ≤ 65536) :
    Calls Tryz.prog 17 #[.int .i64 x, .int .i64 N] w fun e w' => e = .returned (.int .i64 (x % (n : Int))) ∧ w' = w := by
  subst hN
  have h1 : (1 : Int) ≤ (n : Int) := by omega
  have h2 : ((n : Int) == 0) = false := by simp; omega
  have hb := Int.tmod_lt_of_pos x (show (0 : Int) < (n : Int) by omega)
  have hb2 := Int.lt_tmod_of_pos x (show (0 : Int) < (n : Int) by omega)
  have hr1 := tmod_neg x n hn
  have hr2 := tmod_nonneg x n hn
  by_cases hs : x.tmod (n : Int) < 0
  · have hr := hr1 hs
    have HR := hide hr
    clear hr hr1 hr2
    go_enter Tryz.func17, Tryz.ntmps17
    go_wp2
    go_ret
    exact ⟨by rw [← HR.out]; rfl, rfl⟩
  · have hs2 : 0 ≤ x.tmod (n : Int) := by omega
    have hr := hr2 hs2
    have HR := hide hr
    clear hr hr1 hr2
    go_enter Tryz.func17, Tryz.ntmps17
    go_wp2
    go_ret
    exact ⟨by rw [← HR.out]; rfl, rfl⟩
end Go.Proofs.YtcbiloomnkbalaaGreatDoor
/- BookNone, walked. -/
namespace Go.Proofs.YtcbiloomnkbalaaGreatDoor
open Go.RowKit
attribute [local go_sem ↓] Go.wp_at_zero Go.wp_at_succ
attribute [local go_sem] Oper.semAt_some
set_option maxRecDepth 20000 in
set_option maxHeartbeats 8000000 in
theorem is_none {w : World} {ao : Option Addr} {X : Nat} (h : NoB w (.pointer ao)) (hX : RfZ w X) : Calls Tryz.prog 24 #[.pointer ao, .pointer (some ⟨X, 0, none⟩)] w fun e w' => e = .returned (.bool true) ∧ w.grownBy w' none := by
  have HA := hide (no_all h)
  have HD : Hid (∀ W, w.grownBy W none → Calls Tryz.prog 33 #[.pointer ao] W fun e w' => e = .returned (.tuple #[.int .i64 0, .bool false]) ∧ w' = W) := fun W g => no_due (h.then g)
  have HRd : Hid (∀ W, w.grownBy W none → Calls Tryz.prog 51 #[.pointer (some ⟨X, 0, none⟩)] W fun e w' => e = .returned (.tuple #[.int .i64 0, .bool false]) ∧ w' = W) := fun W g => rz_due (hX.then g)
  have HL : Hid (∀ W, w.grownBy W none → Calls Tryz.prog 28 #[.pointer ao] W fun e w' => e = .returned (.int .i64 0) ∧ w' = W) := fun W g => no_len (h.then g)
  have HN : Hid (∀ W, w.grownBy W none → Calls Tryz.prog 31 #[.pointer ao] W fun e w' => e = .returned (.int .u32 0) ∧ w' = W) := fun W g => no_next (h.then g)
  have HC : Hid (∀ W, w.grownBy W none → Calls Tryz.prog 32 #[.pointer ao] W fun e w' => e = .returned (.int .i64 0) ∧ w' = W) := fun W g => no_clock (h.then g)
  have HS : Hid (∀ W, w.grownBy W none → Calls Tryz.prog 34 #[.pointer ao] W fun e w' => e = .returned (.agg #[.int .i64 0, .int .i64 0, .int .i64 0]) ∧ W.grownBy w' none) := fun W g => no_shape (h.then g)
  have HM : Hid (∀ W v, BgA W v [] → Calls Tryz.prog 37 #[v, .slice none 0 0] W fun e w' => e = .returned (.bool true) ∧ W.grownBy w' none) := by
    intro W v hv
    have := sameBk_any hv (BgA.nil W) (by simp)
    rw [decide_eq_true rfl] at this
    exact this
  have HK : Hid (∀ W, w.grownBy W none → W.cell? ⟨X, 1, none⟩ = some (.int .i64 0) ∧ W.cell? ⟨X, 2, none⟩ = some (.int .i64 0) ∧ W.cell? ⟨X, 3, none⟩ = some (.int .i64 0) ∧ W.cell? ⟨X, 4, none⟩ = some (.slice none 0 0) ∧ W.cell? ⟨X, 5, none⟩ = some (.int .u32 0) ∧ W.cell? ⟨X, 6, none⟩ = some (.int .i64 0)) := fun W g =>
    ⟨(hX.then g).cell 1 _ rfl, (hX.then g).cell 2 _ rfl, (hX.then g).cell 3 _ rfl, (hX.then g).cell 4 _ rfl, (hX.then g).cell 5 _ rfl, (hX.then g).cell 6 _ rfl⟩
  clear h hX
  go_enter Tryz.func24, Tryz.ntmps24
  go_wp2_with fail
  refine HA.out.mono ?_
  rintro e w1 ⟨u, B, rfl, hv, hg1⟩
  have H1 := hide (And.intro hv hg1)
  clear hv hg1 HA
  go_wp2_with fail
  refine (told_any H1.out.1 (by simp)).mono ?_
  rintro e w2 ⟨v, rfl, hr, hg2⟩
  have g2 := grown_trans H1.out.2 hg2
  have hv2 := BgA.own hr
  clear H1 hr hg2
  go_wp2_with fail
  refine (HD.out _ g2).mono ?_
  rintro e w3 ⟨rfl, rfl⟩
  go_wp2_with fail
  refine (HRd.out _ g2).mono ?_
  rintro e w4 ⟨rfl, rfl⟩
  have hK0 := HK.out _ g2
  have g2d := grown_trans g2 (grown_drew _ none)
  have hv2d := hv2.then (grown_drew _ none)
  go_wp2
  go_region_held3 (fun W => W.cell? ⟨X, 1, none⟩ = some (.int .i64 0) ∧ W.cell? ⟨X, 2, none⟩ = some (.int .i64 0) ∧ W.cell? ⟨X, 3, none⟩ = some (.int .i64 0) ∧ W.cell? ⟨X, 4, none⟩ = some (.slice none 0 0) ∧ W.cell? ⟨X, 5, none⟩ = some (.int .u32 0) ∧ W.cell? ⟨X, 6, none⟩ = some (.int .i64 0)) (first | assumption | exact hK0)
    ((first
      | (go_at_call 37; refine (HM.out _ _ hv2d).mono ?_; rintro e w5 ⟨rfl, hg5⟩; have g5 := grown_trans g2d hg5; have hK5 := HK.out _ g5)
      | (go_at_call 28; refine (HL.out _ g5).mono ?_; rintro e w6 ⟨rfl, rfl⟩)
      | (go_at_call 31; refine (HN.out _ g5).mono ?_; rintro e w6 ⟨rfl, rfl⟩)
      | (go_at_call 32; refine (HC.out _ g5).mono ?_; rintro e w6 ⟨rfl, rfl⟩)
      | (go_at_call 34; refine (HS.out _ g5).mono ?_; rintro e w7 ⟨rfl, hg7⟩; have g7 := grown_trans g5 hg7; have hK7 := HK.out _ g7)))
  go_wp2
  go_ret
  exact ⟨rfl, g7⟩
def opV (d n : Int) (r : Rc) (id seat : Int) : Value := .agg #[.int .i64 d, .int .i64 n, .int .i64 r.k, .int .u32 r.i, .int .i64 r.s, .int .i64 r.u, .int .i64 r.c, .int .u32 id, .int .i64 seat]
theorem mod7 (x : Int) : x % 7 = 0 ∨ x % 7 = 1 ∨ x % 7 = 2 ∨ (x % 7 = 3 ∨ x % 7 = 4) ∨ x % 7 = 5 ∨ x % 7 = 6 := by omega
theorem pick7 (x v : Int) (w : World) (h : x % 7 = v) : Calls Tryz.prog 17 #[.int .i64 x, .int .i64 7] w fun e w' => e = .returned (.int .i64 v) ∧ w' = w := by
  have := pick_any x 7 7 w rfl (by decide) (by decide)
  rw [show ((7 : Nat) : Int) = 7 from rfl, h] at this
  exact this
set_option maxRecDepth 20000 in
set_option maxHeartbeats 16000000 in
theorem one_none {w : World} {ao : Option Addr} {X : Nat} (h : NoB w (.pointer ao)) (hX : RfZ w X) (d n id seat : Int) (r : Rc) : Calls Tryz.prog 18 #[.pointer ao, .pointer (some ⟨X, 0, none⟩), opV d n r id seat] w fun e w' => e = .returned (.bool true) ∧ w.grownBy w' none := by
  have HB := hide (heap_alloc_new w (.cells [.int .i64 d, .int .i64 n, .int .i64 r.k, .int .u32 r.i, .int .i64 r.s, .int .i64 r.u, .int .i64 r.c, .int .u32 id, .int .i64 seat].toArray 48))
  have g0 := grown_alloc w (.cells [.int .i64 d, .int .i64 n, .int .i64 r.k, .int .u32 r.i, .int .i64 r.s, .int .i64 r.u, .int .i64 r.c, .int .u32 id, .int .i64 seat].toArray 48)
  have HC : Hid (∀ W, (w.alloc (.cells [.int .i64 d, .int .i64 n, .int .i64 r.k, .int .u32 r.i, .int .i64 r.s, .int .i64 r.u, .int .i64 r.c, .int .u32 id, .int .i64 seat].toArray 48)).grownBy W none → ∀ j v, [Value.int .i64 d, .int .i64 n, .int .i64 r.k, .int .u32 r.i, .int .i64 r.s, .int .i64 r.u, .int .i64 r.c, .int .u32 id, .int .i64 seat][j]? = some v → W.cell? ⟨w.heap.size, j, none⟩ = some v) := fun W g j v hv => by
    rw [cell_row ((g.block _ (row_lt HB.out) (by simp)).trans HB.out)]; exact hv
  have HN := hide (And.intro h hX)
  have HP := hide (fun v W e => pick7 d v W e)
  clear h hX HB
  unfold opV
  obtain ⟨k, i, s, u, c⟩ := r
  simp only at *
  rcases mod7 d with hd | hd | hd | hd | hd | hd
  · have HP' := hide (fun W => HP.out 0 W hd)
    have HA1 : Hid (∀ W, w.grownBy W none → Calls Tryz.prog 36 #[.pointer ao, .agg #[.int .i64 k, .int .u32 i, .int .i64 s, .int .i64 u, .int .i64 c]] W fun e w' => e = .returned (.int .i64 1) ∧ W.grownBy w' none) := fun W g => no_apply (HN.out.1.then g) ⟨k, i, s, u, c⟩
    have HA2 : Hid (∀ W, w.grownBy W none → Calls Tryz.prog 44 #[.pointer (some ⟨X, 0, none⟩), .agg #[.int .i64 k, .int .u32 i, .int .i64 s, .int .i64 u, .int .i64 c]] W fun e w' => e = .returned (.int .i64 1) ∧ W.grownBy w' none) := fun W g => rz_apply (HN.out.2.then g) ⟨k, i, s, u, c⟩
    have HK : Hid (∀ W, (w.alloc (.cells [.int .i64 d, .int .i64 n, .int .i64 k, .int .u32 i, .int .i64 s, .int .i64 u, .int .i64 c, .int .u32 id, .int .i64 seat].toArray 48)).grownBy W none → W.cell? ⟨w.heap.size, 2, none⟩ = some (.int .i64 k) ∧ W.cell? ⟨w.heap.size, 3, none⟩ = some (.int .u32 i) ∧ W.cell? ⟨w.heap.size, 4, none⟩ = some (.int .i64 s) ∧ W.cell? ⟨w.heap.size, 5, none⟩ = some (.int .i64 u) ∧ W.cell? ⟨w.heap.size, 6, none⟩ = some (.int .i64 c)) := fun W g => ⟨HC.out W g 2 _ rfl, HC.out W g 3 _ rfl, HC.out W g 4 _ rfl, HC.out W g 5 _ rfl, HC.out W g 6 _ rfl⟩
    have hK0 := HK.out _ (grown_refl _ _)
    have x0 := HC.out _ (grown_refl _ _) 0 _ rfl
    clear HC HN HP hd
    go_enter Tryz.func18, Tryz.ntmps18
    go_wp2_with fail
    refine (HP'.out _).mono ?_
    rintro e w1 ⟨rfl, rfl⟩
    go_wp2
    generalize hw0 : w.alloc _ = w0 at *
    have HW0 := hide hw0
    clear hw0
    have g0d := grown_trans g0 (grown_drew _ none)
    go_region_held3 (fun W => W.cell? ⟨w.heap.size, 2, none⟩ = some (.int .i64 k) ∧ W.cell? ⟨w.heap.size, 3, none⟩ = some (.int .u32 i) ∧ W.cell? ⟨w.heap.size, 4, none⟩ = some (.int .i64 s) ∧ W.cell? ⟨w.heap.size, 5, none⟩ = some (.int .i64 u) ∧ W.cell? ⟨w.heap.size, 6, none⟩ = some (.int .i64 c)) (first | assumption | exact hK0)
      ((first
        | (go_at_call 36; refine (HA1.out _ g0d).mono ?_; rintro e w5 ⟨rfl, hg5⟩; have g5 := grown_trans g0d hg5; have hK5 := HK.out _ (grown_trans (grown_drew _ none) hg5))
        | (go_at_call 44; refine (HA2.out _ g5).mono ?_; rintro e w6 ⟨rfl, hg6⟩; have g6 := grown_trans g5 hg6; have hK6 := HK.out _ (grown_trans (grown_trans (grown_drew _ none) hg5) hg6))))
    go_wp2
    go_ret
    exact ⟨rfl, g6⟩
  · have HP' := hide (fun W => HP.out 1 W hd)
    have HA1 : Hid (∀ W, w.grownBy W none → Calls Tryz.prog 29 #[.pointer ao, .int .u32 id] W fun e w' => e = .returned (.tuple #[.agg #[.int .u32 0, .int .i64 0, .int .i64 0], .int .i64 1]) ∧ W.grownBy w' none) := fun W g => no_get (HN.out.1.then g) id
    have HA2 : Hid (∀ W, w.grownBy W none → Calls Tryz.prog 45 #[.pointer (some ⟨X, 0, none⟩), .int .u32 id] W fun e w' => e = .returned (.tuple #[.agg #[.int .u32 0, .int .i64 0, .int .i64 0], .int .i64 1]) ∧ W.grownBy w' none) := fun W g => rz_get (HN.out.2.then g) id
    have x0 := HC.out _ (grown_refl _ _) 0 _ rfl
    have x7 := HC.out _ (grown_refl _ _) 7 _ rfl
    clear HN HP hd
    go_enter Tryz.func18, Tryz.ntmps18
    go_wp2_with fail
    refine (HP'.out _).mono ?_
    rintro e w1 ⟨rfl, rfl⟩
    go_wp2_with fail
    refine (HA1.out _ g0).mono ?_
    rintro e w2 ⟨rfl, hg2⟩
    have g2 := grown_trans hg2 (grown_alloc w2 (.cells #[.int .u32 0, .int .i64 0, .int .i64 0] 78))
    have y7 := HC.out _ g2 7 _ rfl
    have G2 := grown_trans g0 g2
    have HB1 := hide (heap_alloc_new w2 (.cells [.int .u32 0, .int .i64 0, .int .i64 0].toArray 78))
    clear x0 x7
    go_wp2_with fail
    refine (HA2.out _ G2).mono ?_
    rintro e w3 ⟨rfl, hg3⟩
    have G3 := grown_trans (grown_trans G2 hg3) (grown_alloc w3 (.cells #[.int .u32 0, .int .i64 0, .int .i64 0] 78))
    have hb3 := ((grown_trans hg3 (grown_alloc w3 (.cells #[.int .u32 0, .int .i64 0, .int .i64 0] 78))).block _ (row_lt HB1.out) (by simp)).trans HB1.out
    obtain ⟨z0, z1, z2, -⟩ := box3 hb3
    clear hb3 y7
    go_wp2
    go_ret
    exact ⟨rfl, G3⟩
  · have HP' := hide (fun W => HP.out 2 W hd)
    have HA1 : Hid (∀ W, w.grownBy W none → Calls Tryz.prog 30 #[.pointer ao, .int .i64 seat] W fun e w' => e = .returned (.tuple #[.agg #[.int .u32 0, .int .i64 0, .int .i64 0], .int .i64 1]) ∧ W.grownBy w' none) := fun W g => no_at (HN.out.1.then g) seat
    have HA2 : Hid (∀ W, w.grownBy W none → Calls Tryz.prog 46 #[.pointer (some ⟨X, 0, none⟩), .int .i64 seat] W fun e w' => e = .returned (.tuple #[.agg #[.int .u32 0, .int .i64 0, .int .i64 0], .int .i64 1]) ∧ W.grownBy w' none) := fun W g => rz_at (HN.out.2.then g) seat
    have x0 := HC.out _ (grown_refl _ _) 0 _ rfl
    have x7 := HC.out _ (grown_refl _ _) 8 _ rfl
    clear HN HP hd
    go_enter Tryz.func18, Tryz.ntmps18
    go_wp2_with fail
    refine (HP'.out _).mono ?_
    rintro e w1 ⟨rfl, rfl⟩
    go_wp2_with fail
    refine (HA1.out _ g0).mono ?_
    rintro e w2 ⟨rfl, hg2⟩
    have g2 := grown_trans hg2 (grown_alloc w2 (.cells #[.int .u32 0, .int .i64 0, .int .i64 0] 78))
    have y7 := HC.out _ g2 8 _ rfl
    have G2 := grown_trans g0 g2
    have HB1 := hide (heap_alloc_new w2 (.cells [.int .u32 0, .int .i64 0, .int .i64 0].toArray 78))
    clear x0 x7
    go_wp2_with fail
    refine (HA2.out _ G2).mono ?_
    rintro e w3 ⟨rfl, hg3⟩
    have G3 := grown_trans (grown_trans G2 hg3) (grown_alloc w3 (.cells #[.int .u32 0, .int .i64 0, .int .i64 0] 78))
    have hb3 := ((grown_trans hg3 (grown_alloc w3 (.cells #[.int .u32 0, .int .i64 0, .int .i64 0] 78))).block _ (row_lt HB1.out) (by simp)).trans HB1.out
    obtain ⟨z0, z1, z2, -⟩ := box3 hb3
    clear hb3 y7
    go_wp2
    go_ret
    exact ⟨rfl, G3⟩
  · have HI : Hid (∀ W, w.grownBy W none → Calls Tryz.prog 24 #[.pointer ao, .pointer (some ⟨X, 0, none⟩)] W fun e w' => e = .returned (.bool true) ∧ W.grownBy w' none) := fun W g => is_none (HN.out.1.then g) (HN.out.2.then g)
    have x0 := HC.out _ (grown_refl _ _) 0 _ rfl
    rcases hd with hd | hd
    · have HP' := hide (fun W => HP.out 3 W hd)
      clear HN HP hd HC
      go_enter Tryz.func18, Tryz.ntmps18
      go_wp2_with fail
      refine (HP'.out _).mono ?_
      rintro e w1 ⟨rfl, rfl⟩
      go_wp2_with fail
      refine (HI.out _ g0).mono ?_
      rintro e w2 ⟨rfl, hg2⟩
      have G2 := grown_trans g0 hg2
      go_wp2
      go_ret
      exact ⟨rfl, G2⟩
    · have HP' := hide (fun W => HP.out 4 W hd)
      clear HN HP hd HC
      go_enter Tryz.func18, Tryz.ntmps18
      go_wp2_with fail
      refine (HP'.out _).mono ?_
      rintro e w1 ⟨rfl, rfl⟩
      go_wp2_with fail
      refine (HI.out _ g0).mono ?_
      rintro e w2 ⟨rfl, hg2⟩
      have G2 := grown_trans g0 hg2
      go_wp2
      go_ret
      exact ⟨rfl, G2⟩
  · have HP' := hide (fun W => HP.out 5 W hd)
    have HS : Hid (∀ W, w.grownBy W none → Calls Tryz.prog 20 #[.pointer ao, .pointer ao] W fun e w' => e = .returned (.bool false) ∧ w' = W) := fun W g => no_same1 (HN.out.1.then g) _
    have x0 := HC.out _ (grown_refl _ _) 0 _ rfl
    have r0 := (HN.out.2.then g0).cell 0 _ rfl
    have r0d := (HN.out.2.then (grown_trans g0 (grown_drew _ none))).cell 0 _ rfl
    have g0d := grown_trans g0 (grown_drew _ none)
    clear HN HP hd HC
    go_enter Tryz.func18, Tryz.ntmps18
    go_wp2_with fail
    refine (HP'.out _).mono ?_
    rintro e w1 ⟨rfl, rfl⟩
    go_wp2
    go_region_held3 (fun W => W.cell? ⟨X, 0, none⟩ = some (.bool false)) (first | assumption | exact r0)
      ((go_at_call 20; refine (HS.out _ g0d).mono ?_; rintro e w5 ⟨rfl, rfl⟩))
    go_wp2
    go_ret
    exact ⟨rfl, g0d⟩
  · have HP' := hide (fun W => HP.out 6 W hd)
    have HS : Hid (∀ W, w.grownBy W none → Calls Tryz.prog 22 #[.pointer ao] W fun e w' => e = .returned (.pointer none) ∧ w' = W) := fun W g => no_copy (HN.out.1.then g)
    have x0 := HC.out _ (grown_refl _ _) 0 _ rfl
    have r0 := (HN.out.2.then g0).cell 0 _ rfl
    have r0d := (HN.out.2.then (grown_trans g0 (grown_drew _ none))).cell 0 _ rfl
    have g0d := grown_trans g0 (grown_drew _ none)
    clear HN HP hd HC
    go_enter Tryz.func18, Tryz.ntmps18
    go_wp2_with fail
    refine (HP'.out _).mono ?_
    rintro e w1 ⟨rfl, rfl⟩
    go_wp2
    go_region_held3 (fun W => W.cell? ⟨X, 0, none⟩ = some (.bool false)) (first | assumption | exact r0)
      ((go_at_call 22; refine (HS.out _ g0d).mono ?_; rintro e w5 ⟨rfl, rfl⟩))
    go_wp2
    go_ret
    exact ⟨rfl, g0d⟩
end Go.Proofs.YtcbiloomnkbalaaGreatDoor
/- BookNone, walked. -/
namespace Go.Proofs.YtcbiloomnkbalaaGreatDoor
open Go.RowKit
attribute [local go_sem ↓] Go.wp_at_zero Go.wp_at_succ
attribute [local go_sem] Oper.semAt_some
set_option maxRecDepth 20000 in
set_option maxHeartbeats 16000000 in
theorem none_any {w : World} (hT : Rk.Tab w) (d n id seat : Int) (r : Rc) : Calls Tryz.prog 4 #[opV d n r id seat] w fun e w' => e = .returned (.bool true) ∧ w.grownBy w' none := by
  obtain ⟨k, i, s, u, c⟩ := r
  have g0 := grown_alloc w (.cells [.int .i64 d, .int .i64 n, .int .i64 k, .int .u32 i, .int .i64 s, .int .i64 u, .int .i64 c, .int .u32 id, .int .i64 seat].toArray 48)
  have hb0 := heap_alloc_new w (.cells [.int .i64 d, .int .i64 n, .int .i64 k, .int .u32 i, .int .i64 s, .int .i64 u, .int .i64 c, .int .u32 id, .int .i64 seat].toArray 48)
  have HC : Hid (∀ W, (w.alloc (.cells [.int .i64 d, .int .i64 n, .int .i64 k, .int .u32 i, .int .i64 s, .int .i64 u, .int .i64 c, .int .u32 id, .int .i64 seat].toArray 48)).grownBy W none → W.cell? ⟨w.heap.size, 0, none⟩ = some (.int .i64 d) ∧ W.cell? ⟨w.heap.size, 1, none⟩ = some (.int .i64 n) ∧ W.cell? ⟨w.heap.size, 2, none⟩ = some (.int .i64 k) ∧ W.cell? ⟨w.heap.size, 3, none⟩ = some (.int .u32 i) ∧ W.cell? ⟨w.heap.size, 4, none⟩ = some (.int .i64 s) ∧ W.cell? ⟨w.heap.size, 5, none⟩ = some (.int .i64 u) ∧ W.cell? ⟨w.heap.size, 6, none⟩ = some (.int .i64 c) ∧ W.cell? ⟨w.heap.size, 7, none⟩ = some (.int .u32 id) ∧ W.cell? ⟨w.heap.size, 8, none⟩ = some (.int .i64 seat)) := by
    have hh : ∀ W, (w.alloc (.cells [.int .i64 d, .int .i64 n, .int .i64 k, .int .u32 i, .int .i64 s, .int .i64 u, .int .i64 c, .int .u32 id, .int .i64 seat].toArray 48)).grownBy W none → ∀ j v, ([.int .i64 d, .int .i64 n, .int .i64 k, .int .u32 i, .int .i64 s, .int .i64 u, .int .i64 c, .int .u32 id, .int .i64 seat] : List Value)[j]? = some v → W.cell? ⟨w.heap.size, j, none⟩ = some v := fun W g j v hv => by
      rw [cell_row ((g.block _ (row_lt hb0) (by simp)).trans hb0)]; exact hv
    exact fun W g => ⟨hh W g 0 _ rfl, hh W g 1 _ rfl, hh W g 2 _ rfl, hh W g 3 _ rfl, hh W g 4 _ rfl, hh W g 5 _ rfl, hh W g 6 _ rfl, hh W g 7 _ rfl, hh W g 8 _ rfl⟩
  have HAw := hide (awake_any _ (hT.grown g0 (by simp)))
  have HNew : Hid (∀ W, w.grownBy W none → Calls Tryz.prog 12 #[.agg #[.int .i64 1, .int .i64 1, .int .i64 1]] W fun e w' => ∃ x p, e = .returned (.tuple #[.pointer (some ⟨x, 0, none⟩), .int .i64 0]) ∧ Lk W w' x ⟨1, 1, 1, 1, 0, []⟩ 0 p []) := fun W g => new_lk 1 1 1 (by decide) W (by have := hT.lt; have := g.size; omega)
  have HO : Hid (∀ W X ao, RfZ W X → NoB W (.pointer ao) → Calls Tryz.prog 18 #[.pointer ao, .pointer (some ⟨X, 0, none⟩), .agg #[.int .i64 d, .int .i64 n, .int .i64 k, .int .u32 i, .int .i64 s, .int .i64 u, .int .i64 c, .int .u32 id, .int .i64 seat]] W fun e w' => e = .returned (.bool true) ∧ W.grownBy w' none) := fun W X ao h1 h2 => one_none h2 h1 d n id seat ⟨k, i, s, u, c⟩
  have HW : Hid (Sb.Wk ⟨1, 1, 1, 1, 0, []⟩) := (Sb.Ok.new (by decide)).wk
  clear hT hb0
  unfold opV
  simp only
  go_enter Tryz.func4, Tryz.ntmps4
  go_wp2_with fail
  refine HAw.out.mono ?_
  rintro e w1 ⟨rfl, hg1⟩
  have G1 := hg1
  have HR := hide (heap_alloc_new w1 (.cells rz.toArray 52))
  have ga := grown_alloc w1 (.cells rz.toArray 52)
  have G2 := grown_trans G1 ga
  have HG2 := hide G2
  unfold rz at HR HG2
  clear ga hg1 G1 G2 HAw
  go_wp2_with fail
  refine (HNew.out _ (grown_trans g0 HG2.out)).mono ?_
  rintro e w3 ⟨x, p, rfl, hh⟩
  have H3 := hide hh
  have HX := hide (RfZ.then ⟨HR.out⟩ hh.gr)
  have HG3 := hide (grown_trans HG2.out hh.gr)
  clear hh HG2 HR HNew
  obtain ⟨a0, a1, a2, a3, a4, a5, a6, a7, a8⟩ := HC.out _ HG3.out
  go_wp2_with fail
  refine (HO.out _ _ _ HX.out (noB_nil _)).mono ?_
  rintro e w4 ⟨rfl, hg4⟩
  clear a0 a1 a2 a3 a4 a5 a6 a7 a8
  have HG4 := hide (fun o => grown_trans hg4 (grown_alloc w4 o))
  have HC' := hide (fun o => HC.out _ (grown_trans HG3.out (HG4.out o)))
  have HC5 := hide (HC'.out (.cells #[.int .i64 0, .int .i64 0, .int .i64 0, .pointer none, .int .u32 0, .int .i64 0, .pointer none, .slice none 0 0, .pointer none, .pointer none, .map none] 66))
  obtain ⟨a0, a1, a2, a3, a4, a5, a6, a7, a8⟩ := HC5.out
  clear HC' HC5 hg4
  go_wp2_with fail
  refine (HO.out _ _ _ (HX.out.then (HG4.out _)) (noB_zero (by rw [cell_row (heap_alloc_new _ _)]; rfl))).mono ?_
  rintro e w5 ⟨rfl, hg5⟩
  clear a0 a1 a2 a3 a4 a5 a6 a7 a8
  have HG5 := hide (grown_trans (HG4.out _) hg5)
  clear hg5 HG4 HO HC
  go_wp2_with fail
  refine (no_same1 (noB_nil _) _).mono ?_
  rintro e w6 ⟨rfl, rfl⟩
  go_wp2_with fail
  have HB := hide (fun o => H3.out.bk.then (grown_trans HG5.out (grown_alloc _ o)))
  have HS2 : Hid (∀ W v, BkAt W p ⟨1, 1, 1, 1, 0, []⟩ 0 → NoB W v → Calls Tryz.prog 20 #[.pointer (some ⟨x, 0, none⟩), v] W fun e w' => e = .returned (.bool false) ∧ w' = W) := fun W v h1 h2 => by
    have := no_same2 h1 h2
    rw [H3.out.eb] at this
    exact this
  refine (HS2.out _ _ (HB.out _) (noB_zero (by rw [cell_row (heap_alloc_new _ _)]; rfl))).mono ?_
  rintro e w7 ⟨rfl, rfl⟩
  go_wp2_with fail
  refine (no_same1 (noB_nil _) _).mono ?_
  rintro e w8 ⟨rfl, rfl⟩
  go_wp2_with fail
  have HS3 : Hid (∀ W, BkAt W p ⟨1, 1, 1, 1, 0, []⟩ 0 → Calls Tryz.prog 20 #[.pointer (some ⟨x, 0, none⟩), .pointer (some ⟨x, 0, none⟩)] W fun e w' => e = .returned (.bool true) ∧ W.grownBy w' none) := fun W h => by
    have := same_eq h h HW.out
    rw [H3.out.eb] at this
    exact this
  refine (HS3.out _ (HB.out _)).mono ?_
  rintro e w9 ⟨rfl, hg9⟩
  have HE := hide (grown_trans (grown_trans g0 HG3.out) (grown_trans (grown_trans HG5.out (grown_alloc _ _)) hg9))
  clear hg9
  go_wp2
  go_ret
  exact ⟨rfl, HE.out⟩
end Go.Proofs.YtcbiloomnkbalaaGreatDoor
/- An argument that is a call of a book, opened. -/
namespace Go.Proofs.YtcbiloomnkbalaaGreatDoor
open Go.ChangeShapes Go.WideShapes Go.ChangeAt Go.RowKit Go.Deep
theorem cellsOf48 : Tryz.prog.cellsOf 48 = 9 := by kernel_rfl
theorem listOf9 {α : Type} {l : List α} (h : l.length = 9) : ∃ a b c d e f g i j, l = [a, b, c, d, e, f, g, i, j] := by
  match l, h with
  | [a, b, c, d, e, f, g, i, j], _ => exact ⟨a, b, c, d, e, f, g, i, j, rfl⟩
variable {H : Type} {enc : TypeId × Value → H}
set_option maxRecDepth 20000 in
theorem open_opArg {w : World} {base : Nat} {spare : Nat → Bool} {held : Bool} {r : Reach} {b0 : Nat} {v : Value} {d : DataW H} {ps : List MemPlace} (hval : Value.okWide Tryz.prog w r b0 48 v) (hd : DataW.Trod enc Tryz.prog w base spare held 48 v d ps) :
    ∃ (d n id seat : Int) (r : Rc), v = opV d n r id seat := by
  obtain ⟨cs, rfl, _⟩ := okWide_struct Tryz.underlying48 hval
  obtain ⟨fuel, h⟩ := hd
  have h : DataW.trod enc Tryz.prog w base spare held fuel 48 cs.toList = some (d, ps) := h
  obtain ⟨xs, n, _, hx, hl, hsz, hf⟩ := DataW.trod_struct Tryz.underlying48 h
  rw [cellsOf48] at hl
  obtain ⟨v0, v1, v2, v3, v4, v5, v6, v7, v8, hc⟩ := listOf9 hl
  obtain ⟨y0, y1, y2, y3, y4, rfl⟩ := listOf5 (show xs.length = 5 from hsz)
  rw [hc] at hf
  have f0 : DataW.trod enc Tryz.prog w base spare held n 3 [v0] = some y0 := by simpa [cellsOf3, cellsOf46, cellsOf24] using hf 0 _ rfl
  have f1 : DataW.trod enc Tryz.prog w base spare held n 3 [v1] = some y1 := by simpa [cellsOf3, cellsOf46, cellsOf24] using hf 1 _ rfl
  have f2 : DataW.trod enc Tryz.prog w base spare held n 46 [v2, v3, v4, v5, v6] = some y2 := by simpa [cellsOf3, cellsOf46, cellsOf24] using hf 2 _ rfl
  have f3 : DataW.trod enc Tryz.prog w base spare held n 24 [v7] = some y3 := by simpa [cellsOf3, cellsOf46, cellsOf24] using hf 3 _ rfl
  have f4 : DataW.trod enc Tryz.prog w base spare held n 3 [v8] = some y4 := by simpa [cellsOf3, cellsOf46, cellsOf24] using hf 4 _ rfl
  obtain ⟨zs, m, _, _, _, hsz2, hf2⟩ := DataW.trod_struct Tryz.underlying46 f2
  obtain ⟨z0, z1, z2, z3, z4, rfl⟩ := listOf5 (show zs.length = 5 from hsz2)
  have k0 : DataW.trod enc Tryz.prog w base spare held m 44 [v2] = some z0 := by simpa [cellsOf44] using hf2 0 _ rfl
  have k1 : DataW.trod enc Tryz.prog w base spare held m 24 [v3] = some z1 := by simpa [cellsOf24] using hf2 1 _ rfl
  have k2 : DataW.trod enc Tryz.prog w base spare held m 3 [v4] = some z2 := by simpa [cellsOf3] using hf2 2 _ rfl
  have k3 : DataW.trod enc Tryz.prog w base spare held m 2 [v5] = some z3 := by simpa [cellsOf2] using hf2 3 _ rfl
  have k4 : DataW.trod enc Tryz.prog w base spare held m 2 [v6] = some z4 := by simpa [cellsOf2] using hf2 4 _ rfl
  obtain ⟨p0, e0, _, _⟩ := DataW.trod_int Tryz.underlying3 f0
  obtain ⟨p1, e1, _, _⟩ := DataW.trod_int Tryz.underlying3 f1
  obtain ⟨p2, e2, _, _⟩ := DataW.trod_int Tryz.underlying44 k0
  obtain ⟨p3, e3, _, _⟩ := DataW.trod_int Tryz.underlying24 k1
  obtain ⟨p4, e4, _, _⟩ := DataW.trod_int Tryz.underlying3 k2
  obtain ⟨p5, e5, _, _⟩ := DataW.trod_int Tryz.underlying2 k3
  obtain ⟨p6, e6, _, _⟩ := DataW.trod_int Tryz.underlying2 k4
  obtain ⟨p7, e7, _, _⟩ := DataW.trod_int Tryz.underlying24 f3
  obtain ⟨p8, e8, _, _⟩ := DataW.trod_int Tryz.underlying3 f4
  simp only [List.cons.injEq, and_true] at e0 e1 e2 e3 e4 e5 e6 e7 e8
  refine ⟨p0, p1, p7, p8, ⟨p2, p3, p4, p5, p6⟩, ?_⟩
  rw [e0, e1, e2, e3, e4, e5, e6, e7, e8] at hc
  unfold opV
  congr 1
  cases cs
  simpa using hc
end Go.Proofs.YtcbiloomnkbalaaGreatDoor
