/- GeometryGrows. -/
import Derived.Test.YtmjecgdamkkpaaaLa
import Derived.Deep.CutRange
import Derived.Deep.DeepCutAuto
namespace Go.Proofs.Ytmjecgdamkkpaaa
open Go.RowKit
attribute [local go_sem ↓] Go.wp_at_zero Go.wp_at_succ

theorem plan_some (n s a b c : Int) (h1 : -9223372036854775808 ≤ s) (h2 : s ≤ 9223372036854775807) : ∃ x0 x1 x2 x3 x4 x5 x6 r : Int, Hid (∀ w, Calls Try.prog 16 #[.int .i64 n, .int .i64 s, shV a b c] w fun e w' => e = .returned (.tuple #[.agg #[.int .i64 x0, .int .i64 x1, .int .i64 x2, .int .i64 x3, .int .i64 x4, .int .i64 x5, .int .i64 x6], .int .i64 r]) ∧ w.grownBy w' none) ∧
    (r = 0 → Gx.OkS a b c ∧ Gx.OkD n s ∧ Gx.need a b s ≤ n ∧ x0 = s ∧ x1 = 0 ∧ x2 = Gx.slot a b s ∧ x3 = Gx.slot a b s ∧ x4 = Gx.slot a b s ∧ x5 = 2 * Gx.slot a b s ∧ x6 = n - 2 * Gx.slot a b s) := by
  by_cases h : Gx.OkS a b c
  · by_cases hd : Gx.OkD n s
    · by_cases hn : n < Gx.need a b s
      · exact ⟨_, _, _, _, _, _, _, 91, hide (plan_small n s a b c h hd hn), fun e => by omega⟩
      · exact ⟨_, _, _, _, _, _, _, 0, hide (plan_ok n s a b c h hd (by omega)), fun _ => ⟨h, hd, by omega, rfl, rfl, rfl, rfl, rfl, rfl, rfl⟩⟩
    · exact ⟨_, _, _, _, _, _, _, 2, hide (plan_arg n s a b c h h1 h2 hd), fun e => by omega⟩
  · exact ⟨_, _, _, _, _, _, _, 90, hide (plan_shape n s a b c h), fun e => by omega⟩
theorem need_some (a b c s : Int) (h1 : -9223372036854775808 ≤ s) (h2 : s ≤ 9223372036854775807) : ∃ v r : Int, Hid (∀ w, Calls Try.prog 14 #[shV a b c, .int .i64 s] w fun e w' => e = .returned (.tuple #[.int .i64 v, .int .i64 r]) ∧ w.grownBy w' none) ∧ (r = 0 → Gx.OkS a b c ∧ Gx.OkZ s ∧ v = Gx.need a b s) ∧ (Gx.OkS a b c → Gx.OkZ s → r = 0) := by
  by_cases h : Gx.OkS a b c
  · by_cases hz : Gx.OkZ s
    · exact ⟨_, 0, hide (need_ok a b c s h hz), fun _ => ⟨h, hz, rfl⟩, fun _ _ => rfl⟩
    · exact ⟨_, 2, hide (need_arg a b c s h h1 h2 hz), fun e => by omega, fun _ g => absurd g hz⟩
  · exact ⟨_, 90, hide (need_shape a b c s h), fun e => by omega, fun g => absurd g h⟩
/-- The greater of two. -/
def hi (a b : Int) : Int := if a < b then b else a

/-- What stays: the two shapes. -/
def Two (w : World) (B C : Nat) (a b c a' b' c' : Int) : Prop := w.heap[B]? = some (.cells #[.int .i64 a, .int .i64 b, .int .i64 c] 23) ∧ w.heap[C]? = some (.cells #[.int .i64 a', .int .i64 b', .int .i64 c'] 23)
theorem Two.keep {w w2 : World} {B C : Nat} {a b c a' b' c' : Int} (h : Two w B C a b c a' b' c') (hg : w.grownBy w2 none) : Two w2 B C a b c a' b' c' := ⟨Ytmjecgdamkkpaaa.keep hg h.1, Ytmjecgdamkkpaaa.keep hg h.2⟩
theorem setCell_keep {w : World} {B D j : Nat} {v : Value} {o : Obj} (h : w.heap[B]? = some o) (hne : B ≠ D) : (w.setCell ⟨D, j, none⟩ v).heap[B]? = some o :=
  ((grown_setCell w D j v).block B (row_lt h) (fun e => hne (Option.some.inj e))).trans h

set_option maxRecDepth 100000 in
set_option maxHeartbeats 4000000 in
theorem grows_any (n s a b c a' b' c' : Int) (n1 : -9223372036854775808 ≤ n) (n2 : n ≤ 9223372036854775807) (h1 : -9223372036854775808 ≤ s) (h2 : s ≤ 9223372036854775807) (w : World) : Calls Try.prog 8 #[.int .i64 n, .int .i64 s, shV a b c, shV a' b' c'] w fun e w' => e = .returned (.bool true) ∧ w.grownBy w' none := by
  have A := hide awake_any
  obtain ⟨N, hN⟩ : ∃ N, wrap64 (n + 1) = N := ⟨_, rfl⟩
  obtain ⟨x0, x1, x2, x3, x4, x5, x6, r, C, hx⟩ := plan_some n s a b c h1 h2
  obtain ⟨y0, y1, y2, y3, y4, y5, y6, q, D, hy⟩ := plan_some N s a b c h1 h2
  have HB : Hid (r = 0 → q = 0 → y0 = x0 ∧ y1 = x1 ∧ y2 = x2 ∧ y3 = x3 ∧ y4 = x4 ∧ y5 = x5 ∧ y6 = x6 + 1 ∧ 0 ≤ x6 ∧ x6 ≤ 100000) := fun e f => by
    obtain ⟨o1, o2, o3, e0, e1, e2, e3, e4, e5, e6⟩ := hx e
    obtain ⟨-, -, -, f0, f1, f2, f3, f4, f5, f6⟩ := hy f
    have hk := Gx.slot_bounds o1 o2.2.2.1
    have hn2 := o2.2.1
    have hn1 := o2.1
    have hw : N = n + 1 := by rw [← hN, ← IntWalk.i64_left]; exact IntWalk.i64_in _ (by omega)
    subst hw
    have hne := Gx.need_eq (a := a) (b := b) o2.2.2.1
    generalize Gx.slot a b s = k at *
    omega
  clear hx hy
  obtain ⟨v, e, E, he, -⟩ := need_some a b c s h1 h2
  obtain ⟨v', e', F, he', -⟩ := need_some (hi a a') (hi b b') c' s h1 h2
  obtain ⟨v3, e3, G, he3, hn0⟩ := need_some a b c' s h1 h2
  have HC : Hid (e = 0 → e' = 0 → e3 = 0 ∧ v3 = v ∧ v ≤ v') := fun h k => by
    obtain ⟨o1, o2, rfl⟩ := he h
    obtain ⟨o3, -, rfl⟩ := he' k
    have o4 : Gx.OkS a b c' := by unfold Gx.OkS at *; omega
    have hs := Gx.okz_bounds o2
    refine ⟨?_, ?_, Gx.need_mono (by omega) (by unfold hi; split <;> omega) (by unfold hi; split <;> omega)⟩
    · exact hn0 o4 o2
    · exact (he3 (hn0 o4 o2)).2.2
  clear he he' he3 hn0
  unfold shV at *
  go_enter Try.func8, Try.ntmps8
  go_wp2_with fail
  refine (A.out _).mono ?_
  rintro e w1 ⟨rfl, hg⟩
  obtain ⟨hG, hb, hc⟩ := box2 hg
  have T1 := hide (show Two w1 w.heap.size (w.heap.size + 1) a b c a' b' c' from ⟨hb, hc⟩)
  have G1 := hide hG
  obtain ⟨c0, c1, c2⟩ := row3 hb
  clear hg hG hb hc A
  go_wp2_with fail
  refine (C.out _).mono ?_
  rintro e w2 ⟨rfl, hg⟩
  have T2 := hide (T1.out.keep hg)
  have G2 := hide (grown_trans G1.out hg)
  clear hg c0 c1 c2 C T1 G1
  obtain ⟨c0, c1, c2⟩ := row3 T2.out.1
  have hlt : w.heap.size < w2.heap.size := row_lt T2.out.1
  have hlt' : w.heap.size + 1 < w2.heap.size := row_lt T2.out.2
  go_wp2_with fail
  refine (D.out _).mono ?_
  rintro e w3 ⟨rfl, hg⟩
  have T3 := hide (T2.out.keep (grown_trans (grown_alloc _ _) hg))
  have G3 := hide (grown_trans G2.out (grown_box hg))
  have hl := box_kept hg
  clear hg c0 c1 c2 D T2 G2
  have hBl : w2.heap.size < w3.heap.size := row_lt hl
  obtain ⟨d0, d1, d2, d3, d4, d5, d6⟩ := row7 hl
  have df : w3.frozen? ⟨w2.heap.size, 6, none⟩ = false := free_row (c := #[.int .i64 x0, .int .i64 x1, .int .i64 x2, .int .i64 x3, .int .i64 x4, .int .i64 x5, .int .i64 x6]) hl 6
  have hwl : w.heap.size + 1 < w3.heap.size := row_lt T3.out.2
  generalize w2.heap.size = BL at *
  clear hl
  obtain ⟨Z, hZ⟩ : ∃ Z : Bool, Z = decide (r = 0 ∧ q = 0) := ⟨_, rfl⟩
  have HZ := hide hZ
  clear hZ
  obtain ⟨w5, hw5⟩ : ∃ w5, w5 = w3.alloc (.cells #[.int .i64 y0, .int .i64 y1, .int .i64 y2, .int .i64 y3, .int .i64 y4, .int .i64 y5, .int .i64 y6] 35) := ⟨_, rfl⟩
  go_upto_region 5 with fail
  rw [← hw5]
  go_cut [39] from 34 to 39 (fun s39 wx => s39 = .bool Z ∧ wx = w5)
  case first =>
    by_cases hr : r = 0
    · by_cases hq : q = 0
      · obtain rfl : Z = true := by rw [HZ.out]; exact decide_eq_true ⟨hr, hq⟩
        subst hr hq
        clear HB HZ hw5
        go_wp2_with fail
        go_meet
        case rel => exact ⟨rfl, rfl⟩
      · obtain rfl : Z = false := by rw [HZ.out]; exact decide_eq_false fun h => hq h.2
        have hq' : (q == 0) = false := by simpa using hq
        subst hr
        clear HB HZ hw5
        go_wp2_with fail
        go_meet
        case rel => exact ⟨rfl, rfl⟩
    · obtain rfl : Z = false := by rw [HZ.out]; exact decide_eq_false fun h => hr h.1
      have hr' : (r == 0) = false := by simpa using hr
      clear HB HZ hw5
      go_wp2_with fail
      go_meet
      case rel => exact ⟨rfl, rfl⟩
  case rest =>
  obtain ⟨rfl, rfl⟩ := hcut
  subst hw5
  go_upto_if 39 with fail
  go_cut [] from 34 to 48 (fun wx => Hid (Two wx w.heap.size (w.heap.size + 1) a b c a' b' c' ∧ w.grownBy wx none))
  case first =>
    have T4 : Hid (∀ o, Two (w3.alloc o) w.heap.size (w.heap.size + 1) a b c a' b' c') := fun o => T3.out.keep (grown_alloc _ _)
    have G4 : Hid (∀ o, w.grownBy (w3.alloc o) none) := fun o => grown_trans G3.out (grown_alloc _ _)
    cases Z with
    | false =>
      clear HB HZ
      go_wp2_with fail
      go_meet
      case rel => exact hide ⟨T4.out _, G4.out _⟩
    | true =>
      obtain ⟨hr, hq⟩ := of_decide_eq_true HZ.out.symm
      obtain ⟨e0, e1, e2, e3, e4, e5, e6, b1, b2⟩ := HB.out hr hq
      subst hr hq e0 e1 e2 e3 e4 e5 e6
      clear HB HZ
      go_wp2_with fail
      go_meet
      case rel =>
        refine hide ⟨Two.keep ⟨setCell_keep T3.out.1 (by omega), setCell_keep T3.out.2 (by omega)⟩ (grown_alloc _ _), ?_⟩
        refine grown_trans (grown_then G3.out (grown_setCell _ _ _ _) (fun j e => ?_)) (grown_alloc _ _)
        cases e
        exact Or.inl (by omega)
  case rest =>
    clear HB HZ T3 G3 d0 d1 d2 d3 d4 d5 d6 df hBl hwl
    obtain ⟨c0, c1, c2⟩ := row3 hcut.out.1.1
    go_wp2_with fail
    refine (E.out _).mono ?_
    rintro e w4 ⟨rfl, hg⟩
    have T4 := hide (hcut.out.1.keep hg)
    have G4 := hide (grown_trans hcut.out.2 hg)
    clear hg c0 c1 c2 hcut
    go_upto_region 10 with fail
    go_cut [14] (fun s14 wx => s14 = .pointer (some ⟨w4.heap.size, 0, none⟩) ∧ wx = w4.alloc (.cells #[.int .i64 (hi a a'), .int .i64 (hi b b'), .int .i64 c'] 23))
    case first =>
      obtain ⟨c0, c1, c2⟩ := row3 T4.out.1
      obtain ⟨f0, f1, f2⟩ := row3 T4.out.2
      go_wp2_with fail
      all_goals go_meet
      all_goals
        refine ⟨rfl, ?_⟩
        unfold hi
        (repeat' split)
        all_goals first | rfl | (exfalso; omega)
    case rest =>
      obtain ⟨rfl, rfl⟩ := hcut
      clear E
      have hlt4 : w.heap.size + 1 < w4.heap.size := row_lt T4.out.2
      generalize hi a a' = X at *
      generalize hi b b' = Y at *
      go_wp2_with fail
      refine (F.out _).mono ?_
      rintro e w5 ⟨rfl, hg⟩
      have T5 := hide (T4.out.keep (grown_trans (grown_alloc _ _) hg))
      have G5 := hide (grown_trans G4.out (grown_box hg))
      have hu := box_kept hg
      clear hg T4 G4 F
      by_cases h0 : e' = 0
      · subst h0
        by_cases h9 : e = 0
        · subst h9
          obtain ⟨rfl, rfl, hle⟩ := HC.out rfl rfl
          clear HC
          obtain ⟨c0, c1, c2⟩ := row3 T5.out.1
          obtain ⟨f0, f1, f2⟩ := row3 T5.out.2
          obtain ⟨u0, u1, u2⟩ := row3 hu
          have z0 : w5.frozen? ⟨w4.heap.size, 0, none⟩ = false := free_row (c := #[.int .i64 X, .int .i64 Y, .int .i64 c']) hu 0
          have z1 : w5.frozen? ⟨w4.heap.size, 1, none⟩ = false := free_row (c := #[.int .i64 X, .int .i64 Y, .int .i64 c']) hu 1
          have z2 : w5.frozen? ⟨w4.heap.size, 2, none⟩ = false := free_row (c := #[.int .i64 X, .int .i64 Y, .int .i64 c']) hu 2
          clear hu
          generalize w4.heap.size = U at *
          go_wp2_with fail
          refine (G.out _).mono ?_
          rintro e w6 ⟨rfl, hg⟩
          have G6 : w.grownBy w6 none := by
            refine grown_trans ?_ hg
            refine grown_then (grown_then (grown_then G5.out (grown_setCell _ _ _ _) ?_) (grown_setCell _ _ _ _) ?_) (grown_setCell _ _ _ _) ?_
            all_goals
              intro j e
              cases e
              exact Or.inl (by omega)
          have G7 := hide G6
          clear G6 hg
          have hle' : decide (v3 ≤ v') = true := decide_eq_true hle
          go_wp2
          go_ret
          exact ⟨rfl, G7.out⟩
        · have h9' : (e != 0) = true := by simpa using h9
          clear HC hu
          go_wp2
          go_ret
          exact ⟨rfl, G5.out⟩
      · have h0' : (e' != 0) = true := by simpa using h0
        by_cases h9 : e = 0
        · subst h9
          clear HC hu
          go_wp2
          go_ret
          exact ⟨rfl, G5.out⟩
        · have h9' : (e != 0) = true := by simpa using h9
          clear HC hu
          go_wp2
          go_ret
          exact ⟨rfl, G5.out⟩
end Go.Proofs.Ytmjecgdamkkpaaa
