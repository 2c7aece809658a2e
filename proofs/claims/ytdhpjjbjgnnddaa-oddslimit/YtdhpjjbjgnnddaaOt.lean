/- OddsLimit walked. -/
import Derived.Test.YtdhpjjbjgnnddaaOs
namespace Go.Proofs.Ytdhpjjbjgnnddaa
open Go.RowKit Ieee
attribute [local go_sem ↓] Go.wp_at_zero Go.wp_at_succ
attribute [local go_sem] run_store_float

/-- The sum that is held against the risk. -/
theorem above_at (m s p r : Nat) (hm : m ≤ 4096) (hp : lik p = true) (hr : lik r = true) :
    aE (m : Int) p = 0 ∧ (FloatKind.f64.format.order (aB (m : Int) (s : Int) p) r == some .gt) = decide (r % 2 ^ 63 < sm (rw' (p % 2 ^ 63) m) (s + 1)) := by
  have e2 : aE (m : Int) p = 0 := by unfold aE; rw [if_neg (by omega), if_pos hp]
  have e1 : aB (m : Int) (s : Int) p = sm (rw' (p % 2 ^ 63) m) (s + 1) := by
    unfold aB
    rw [if_neg (by omega), if_pos hp]
    have : pl (s : Int) = s + 1 := by unfold pl; omega
    rw [this]; rfl
  refine ⟨e2, ?_⟩
  rw [e1]
  exact gt_lik (sm_fin (row_low (lik_rung hp).1 m) (by rw [row_length]; omega) (s + 1)) hr

set_option maxHeartbeats 1000000 in
theorem oddsLimit_any (n : Int) (p r : Nat) (w : World) : Calls Try.prog 7 #[.int .i64 n, .float .f64 p, .float .f64 r] w fun e w' => e = .returned (.bool true) ∧ w.grownBy w' none := by
  have hn1 := Int.emod_nonneg n (show (12 : Int) ≠ 0 by omega)
  have hn2 := Int.emod_lt_of_pos n (show (0 : Int) < 12 by omega)
  obtain ⟨s, hs⟩ : ∃ s : Nat, n % ((12 : Nat) : Int) = (s : Int) := ⟨(n % 12).toNat, by omega⟩
  have P := pick_any n 12 12 w rfl (by omega) (by omega)
  rw [hs] at P
  have hs11 : s ≤ 11 := by omega
  have HP := hide P
  clear P hs hn1 hn2
  go_enter Try.func7, Try.ntmps7
  go_wp2_with fail
  refine HP.out.mono ?_
  rintro e w1 ⟨rfl, hw⟩
  obtain rfl := hw.symm
  clear hw
  go_wp2_with fail
  refine (limit_all (s : Int) p r w).mono ?_
  rintro e w1 ⟨N, er, rfl, hX, hg1⟩
  have HG1 := hide hg1
  have HX := hide hX
  clear hg1 hX
  have hlp : (FloatKind.f64.format.order p 0 == some .gt || FloatKind.f64.format.order p 0 == some .eq) = ge0 p := rfl
  have hlp2 : (FloatKind.f64.format.order p 4607182418800017408 == some .lt || FloatKind.f64.format.order p 4607182418800017408 == some .eq) = le1 p := rfl
  have hlr : (FloatKind.f64.format.order r 0 == some .gt || FloatKind.f64.format.order r 0 == some .eq) = ge0 r := rfl
  have hlr2 : (FloatKind.f64.format.order r 4607182418800017408 == some .lt || FloatKind.f64.format.order r 4607182418800017408 == some .eq) = le1 r := rfl
  have HL : Hid (lik p = (ge0 p && le1 p) ∧ lik r = (ge0 r && le1 r)) := ⟨rfl, rfl⟩
  go_upto_region 3 with fail
  go_cut [9] from 25 to 38 (fun v wx => v = .bool (lik p && lik r) ∧ wx = w1)
  case first =>
    generalize ge0 p = a at *
    generalize le1 p = b at *
    generalize ge0 r = c at *
    generalize le1 r = d at *
    cases a
    · go_wp2
      go_meet
      case rel => exact ⟨by rw [HL.out.1]; rfl, rfl⟩
    · cases b
      · go_wp2
        go_meet
        case rel => exact ⟨by rw [HL.out.1]; rfl, rfl⟩
      · cases c
        · go_wp2
          go_meet
          case rel => exact ⟨by rw [HL.out.1, HL.out.2]; rfl, rfl⟩
        · cases d
          · go_wp2
            go_meet
            case rel => exact ⟨by rw [HL.out.1, HL.out.2]; rfl, rfl⟩
          · go_wp2
            go_meet
            case rel => exact ⟨by rw [HL.out.1, HL.out.2]; rfl, rfl⟩
  case rest =>
  obtain ⟨rfl, hw⟩ := hcut
  obtain rfl := hw.symm
  clear hw hlp hlp2 hlr hlr2 HL HP
  by_cases hbad : lik p = false ∨ lik r = false
  · have hB : (lik p && lik r) = false := by
      rcases hbad with h | h
      · rw [h]; rfl
      · rw [h, Bool.and_false]
    obtain ⟨rfl, rfl⟩ := HX.out.2.1 (by omega) hbad
    rw [hB]
    clear HX hB hbad
    go_wp2_with fail
    refine (awake_any w1).mono ?_
    rintro e w3 ⟨rfl, hg3⟩
    have HG3 := hide (grown_trans HG1.out hg3)
    clear hg3
    go_wp2
    go_ret
    exact ⟨rfl, HG3.out⟩
  · have hp : lik p = true := by cases h : lik p <;> simp_all
    have hr : lik r = true := by cases h : lik r <;> simp_all
    obtain ⟨rfl, hN0, hLm⟩ := HX.out.2.2 (by omega) hp hr
    obtain ⟨M, rfl⟩ : ∃ M : Nat, N = (M : Int) := ⟨N.toNat, by omega⟩
    rw [show ((s : Int)).toNat = s from rfl, show ((M : Int)).toNat = M from rfl] at hLm
    obtain ⟨m1, m2, m3, m4⟩ := hLm
    have hlst : lst s = 4 * s + 16 := by unfold lst; omega
    rw [hlst] at m2 m4
    have HM := hide (And.intro m3 m4)
    have HPR := hide (And.intro hp hr)
    obtain ⟨l, hl⟩ : ∃ l : Nat, l = 4 * s + 16 := ⟨_, rfl⟩
    obtain ⟨t, ht⟩ : ∃ t : Nat, t = 4 * s := ⟨_, rfl⟩
    have hw1 : IntKind.i64.wrap (4 * (s : Int)) = (t : Int) := by rw [IntKind.wrap_i64]; omega
    have hw2 : IntKind.i64.wrap ((t : Int) + 16) = (l : Int) := by rw [IntKind.wrap_i64]; omega
    have HS := hide (And.intro hl (And.intro m1 m2))
    have b1 : (s : Int) ≤ (M : Int) := by omega
    have b2 : (M : Int) ≤ (l : Int) := by omega
    have b3 : M ≤ 60 := by omega
    have b4 : decide (M < s) = false := by rw [decide_eq_false_iff_not]; omega
    have b5 : decide (l < M) = false := by rw [decide_eq_false_iff_not]; omega
    rw [hp, hr, Bool.and_true]
    clear HX hbad hN0 m1 m2 m3 m4 hlst hp hr hl ht
    go_wp2
    go_loopg [11] (M + 1 - s) (fun k i wr => ∃ j : Nat, k + j = M + 1 ∧ s ≤ j ∧ i = .int .i64 (j : Int) ∧ Hid (w1.grownBy wr none))
    case atStart => exact ⟨s, by omega, Nat.le_refl _, rfl, grown_refl _ _⟩
    case round =>
      obtain ⟨j, hkj, hsj, rfl, HW⟩ := hrel
      by_cases hk : 0 < gk
      · have h1 : (j : Int) ≤ (M : Int) := by omega
        have hw : IntKind.i64.wrap ((j : Int) + 1) = (j : Int) + 1 := by rw [IntKind.wrap_i64]; omega
        obtain ⟨a1, a2⟩ := above_at j s p r (by omega) HPR.out.1 HPR.out.2
        have hnot : ¬ r % 2 ^ 63 < sm (rw' (p % 2 ^ 63) j) (s + 1) := by
          by_cases he : j = s
          · subst he; rw [sm_end _ _ (by rw [row_length]; omega)]; omega
          · exact HM.out.1 j (by omega) (by omega)
        rw [decide_eq_false hnot] at a2
        have C := hide (above_any (j : Int) (s : Int) p wr (by omega) (by omega))
        rw [a1] at C
        clear hnot a1
        generalize aB (j : Int) (s : Int) p = z at *
        go_wp2_with fail
        refine C.out.mono ?_
        rintro e w2 ⟨rfl, hg2⟩
        have HG2 := hide (grown_trans HW.out hg2)
        clear hg2 C HW
        go_wp2
        go_roundg (gk - 1)
        case measure => omega
        case rel => exact ⟨j + 1, by omega, by omega, by go_num, HG2⟩
      · obtain rfl : j = M + 1 := by omega
        have hw : IntKind.i64.wrap ((M : Int) + 1) = ((M + 1 : Nat) : Int) := by rw [IntKind.wrap_i64]; omega
        obtain ⟨a1, a2⟩ := above_at (M + 1) s p r (by omega) HPR.out.1 HPR.out.2
        have C := hide (above_any ((M + 1 : Nat) : Int) (s : Int) p wr (by omega) (by omega))
        rw [a1] at C
        have HA := hide a2
        clear a1 a2
        generalize aB ((M + 1 : Nat) : Int) (s : Int) p = z at *
        have hnat : ((M + 1 : Nat) : Int) = (M : Int) + 1 := by omega
        rw [hnat] at C hw
        clear hnat
        go_wp2_with fail
        refine C.out.mono ?_
        rintro e w2 ⟨rfl, hg2⟩
        have HG2 := hide (grown_trans HG1.out (grown_trans HW.out hg2))
        clear hg2 C HW
        by_cases hlast : M = 4 * s + 16
        · have hb : (M : Int) = (l : Int) := by have := HS.out.1; omega
          have hbe : ((M : Int) == (l : Int)) = true := by simpa using hb
          clear hlast hb
          go_wp2_with fail
          refine (awake_any w2).mono ?_
          rintro e w3 ⟨rfl, hg3⟩
          have HG3 := hide (grown_trans HG2.out hg3)
          clear hg3
          go_wp2
          go_ret
          exact ⟨rfl, HG3.out⟩
        · have hb : ¬ (M : Int) = (l : Int) := by have := HS.out.1; omega
          have hbe : ((M : Int) == (l : Int)) = false := by simpa using hb
          have hgt := HA.out
          rw [decide_eq_true (by rcases HM.out.2 with h | h; exact absurd h hlast; exact h)] at hgt
          clear hlast hb
          go_wp2_with fail
          refine (awake_any w2).mono ?_
          rintro e w3 ⟨rfl, hg3⟩
          have HG3 := hide (grown_trans HG2.out hg3)
          clear hg3
          go_wp2
          go_ret
          exact ⟨rfl, HG3.out⟩
end Go.Proofs.Ytdhpjjbjgnnddaa
