/- OddsRows walked. -/
import Derived.Test.YtdhpjjbjgnnddaaOt
namespace Go.Proofs.Ytdhpjjbjgnnddaa
open Go.RowKit Ieee
attribute [local go_sem ↓] Go.wp_at_zero Go.wp_at_succ
attribute [local go_sem] run_store_float

theorem order_z {z : Nat} (h : z ≤ 4607182418800017408) : (FloatKind.f64.format.order z z != some .eq) = false ∧ (FloatKind.f64.format.order z 0 == some .lt) = false := by
  refine ⟨by rw [bne, order_self (fin_of (low_fin h))]; rfl, ?_⟩
  rw [order_low (low_fin h) (by omega), some_beq, decide_eq_false_iff_not, lt_iff]
  omega
theorem ad_zero (s : Nat) : ad s 0 = s := by unfold ad; rw [val_zero, Nat.add_zero, rnd_val]
theorem st_end (p y : Nat) : st p 0 y = rnd (val 0 + val (rnd (val y * val p) 1074)) 0 := by
  unfold st
  rw [val_zero, Nat.zero_mul, rnd_zero, val_zero]

theorem row_next (p n : Nat) : rw' (p % 2 ^ 63) (n + 1) = nx (p % 2 ^ 63) (rw' (p % 2 ^ 63) n) := rfl
theorem run_one {p : Nat} (hp : lik p = true) : ∀ w : World, (binOp .sub 26 (.float .f64 4607182418800017408) (.float .f64 p)).run Try.prog w = .ok (.float .f64 (rr (p % 2 ^ 63))) w := run_sub (sub_lik hp)
/-- A float of the row of one more, reckoned anew. -/
structure Cell (p z : Nat) (a b : Nat) : Prop where
  low : z ≤ 4607182418800017408
  sum : floatBits .add .f64 a b = some z

theorem cell_first {p x : Nat} (_hp : lik p = true) (hx : x ≤ 4607182418800017408) : ∃ a, floatBits .mul .f64 x (rr (p % 2 ^ 63)) = some a ∧ Cell p (st (p % 2 ^ 63) x 0) a 0 := by
  have ha := prod_le_one hx (rr_le (p % 2 ^ 63))
  refine ⟨_, mul_low hx (rr_le _), ?_, ?_⟩
  · rw [st_zero]; exact ha
  · rw [st_zero]
    have h := ad_zero (rnd (val x * val (rr (p % 2 ^ 63))) 1074)
    have := add_low (s := rnd (val x * val (rr (p % 2 ^ 63))) 1074) (q := 0) (low_fin ha) (by omega) (by rw [h]; exact low_fin ha)
    rwa [h] at this
theorem cell_mid {p x y : Nat} (hp : lik p = true) (hx : x ≤ 4607182418800017408) (hy : y ≤ 4607182418800017408) :
    ∃ a b, floatBits .mul .f64 x (rr (p % 2 ^ 63)) = some a ∧ floatBits .mul .f64 y p = some b ∧ Cell p (st (p % 2 ^ 63) x y) a b := by
  have ha := prod_le_one hx (rr_le (p % 2 ^ 63))
  have hz := st_le (lik_rung hp).1 hx hy
  refine ⟨_, _, mul_low hx (rr_le _), mul_lik hy hp, hz, ?_⟩
  exact add_lik ha hy hp (low_fin hz)
theorem cell_last {p y : Nat} (hp : lik p = true) (hy : y ≤ 4607182418800017408) : ∃ b, floatBits .mul .f64 y p = some b ∧ Cell p (st (p % 2 ^ 63) 0 y) 0 b := by
  have hz := st_le (a := 0) (lik_rung hp).1 (by omega) hy
  refine ⟨_, mul_lik hy hp, hz, ?_⟩
  have := add_lik (a := 0) (by omega) hy hp (by rw [← st_end]; exact low_fin hz)
  rwa [← st_end] at this

theorem add_nought (a : Addr) : a.add 0 = a := by
  unfold Addr.add
  split
  · rfl
  · cases a; simp_all
set_option maxHeartbeats 1000000 in
theorem oddsRows_any (n : Int) (p : Nat) (w : World) : Calls Try.prog 8 #[.int .i64 n, .float .f64 p] w fun e w' => e = .returned (.bool true) ∧ w.grownBy w' none := by
  have hn1 := Int.emod_nonneg n (show (300 : Int) ≠ 0 by omega)
  have hn2 := Int.emod_lt_of_pos n (show (0 : Int) < 300 by omega)
  obtain ⟨s, hs⟩ : ∃ s : Nat, n % ((300 : Nat) : Int) = (s : Int) := ⟨(n % 300).toNat, by omega⟩
  have P := pick_any n 300 300 w rfl (by omega) (by omega)
  rw [hs] at P
  have hsb : s ≤ 299 := by omega
  have HP := hide P
  clear P hs hn1 hn2
  have hw1 : IntKind.i64.wrap ((s : Int) + 1) = ((s + 1 : Nat) : Int) := by rw [IntKind.wrap_i64]; omega
  go_enter Try.func8, Try.ntmps8
  go_wp2_with fail
  refine HP.out.mono ?_
  rintro e w1 ⟨rfl, hw⟩
  obtain rfl := hw.symm
  clear hw HP
  have hlp : (FloatKind.f64.format.order p 0 == some .gt || FloatKind.f64.format.order p 0 == some .eq) = ge0 p := rfl
  have hlp2 : (FloatKind.f64.format.order p 4607182418800017408 == some .lt || FloatKind.f64.format.order p 4607182418800017408 == some .eq) = le1 p := rfl
  have HL : Hid (lik p = (ge0 p && le1 p)) := rfl
  by_cases hp : lik p = true
  · have S1 := hide (shows_any w s p w (grown_refl _ _) (by omega) hp)
    have S2 := hide (fun w1 => shows_any w1 (s + 1) p w1 (grown_refl _ _) (by omega) hp)
    have hpp := HL.out.symm.trans hp
    rw [Bool.and_eq_true] at hpp
    obtain ⟨hg0, hl0⟩ := hpp
    rw [hg0] at hlp
    rw [hl0] at hlp2
    have HPP := hide hp
    have hsub := run_one hp
    generalize hρ : rr (p % 2 ^ 63) = ρ at hsub
    have HRR := hide hρ
    clear hρ hg0 hl0 hp HL
    go_wp2_with fail
    refine S1.out.mono ?_
    rintro e w1 ⟨v1, g1, c1, rfl, hrow1, hg1⟩
    obtain ⟨ao, cap, e1, -, -, -, hat1, -⟩ := own_at hrow1.own
    have HA := hide hat1
    have HG1 := hide hg1
    obtain rfl := e1
    clear hrow1 hg1 hat1 S1
    go_wp2_with fail
    refine (S2.out w1).mono ?_
    rintro e w2 ⟨v2, g2, c2, rfl, hrow2, hg2⟩
    obtain ⟨bo, cap2, e1, -, -, -, hat2, -⟩ := own_at hrow2.own
    have HB := hide (And.intro (HA.out.grown hg2) hat2)
    have HG2 := hide (grown_trans HG1.out hg2)
    obtain rfl := e1
    clear hrow2 hg2 hat2 S2 HG1 HA
    have hl1 : (rw' (p % 2 ^ 63) s).length = s + 1 := row_length _ _
    have hl2 : (rw' (p % 2 ^ 63) (s + 1)).length = s + 2 := row_length _ _
    rw [hl1, hl2]
    have hw2 : IntKind.i64.wrap ((s : Int) + 2) = ((s + 2 : Nat) : Int) := by rw [IntKind.wrap_i64]; omega
    have HQ := hide (And.intro hl1 (And.intro (row_low (lik_rung HPP.out).1 s) (row_next p s)))
    clear hl1 hl2
    generalize rw' (p % 2 ^ 63) (s + 1) = L at *
    generalize rw' (p % 2 ^ 63) s = Q at *
    go_wp2
    go_loopg [11] (s + 2) (fun k i wr => ∃ j : Nat, k + j = s + 2 ∧ i = .int .i64 (j : Int) ∧ Hid (w2.grownBy wr none))
    case atStart => exact ⟨0, rfl, rfl, grown_refl _ _⟩
    case round =>
      obtain ⟨j, hkj, rfl, HW⟩ := hrel
      obtain ⟨HA1, HB1⟩ := HB.out
      have hla := HQ.out.1
      have hlb : L.length = s + 2 := by rw [HQ.out.2.2, nx_length, hla]
      have hlow := HQ.out.2.1
      have hcell : j ≤ s + 1 → L.getD j 0 = st (p % 2 ^ 63) (Q.getD j 0) (if j = 0 then 0 else Q.getD (j - 1) 0) := by
        intro h
        rw [HQ.out.2.2, List.getD_eq_getElem?_getD, nx_get _ _ _ (by omega), Option.getD_some]
      by_cases hk : 0 < gk
      · have h1 : (j : Int) < (s : Int) + 2 := by omega
        have h0 : (0 : Int) ≤ (j : Int) := by omega
        have hw : IntKind.i64.wrap ((j : Int) + 1) = (j : Int) + 1 := by rw [IntKind.wrap_i64]; omega
        obtain ⟨b, rfl, hcb⟩ := (HB1.grown HW.out).take (j := j) (by omega)
        rw [hcell (by omega)] at hcb
        by_cases hj : j = 0
        · subst hj
          obtain ⟨a, rfl, hca⟩ := (HA1.grown HW.out).take (j := 0) (by omega)
          rw [if_pos rfl] at hcb
          obtain ⟨u, hm, hc⟩ := cell_first HPP.out (hlow.getD 0)
          rw [HRR.out] at hm
          have hmr := run_mul hm
          have har := run_add hc.sum
          obtain ⟨z1, z2⟩ := order_z hc.low
          generalize st (p % 2 ^ 63) (Q.getD 0 0) 0 = z at *
          generalize Q.getD 0 0 = x at *
          have hs1 : (0 : Int) < (s : Int) + 1 := by omega
          clear hm hc hcell hlow hla hlb HA1 HB1
          rw [show ((0 : Nat) : Int) = 0 from rfl] at h1 hw ⊢
          rw [add_nought] at hca hcb
          have hw : IntKind.i64.wrap 1 = 1 := by rw [IntKind.wrap_i64]; omega
          go_wp2
          go_roundg (gk - 1)
          case measure => omega
          case rel => exact ⟨1, by omega, by go_num, HW⟩
        · obtain ⟨m, rfl⟩ : ∃ m, j = m + 1 := ⟨j - 1, by omega⟩
          rw [if_neg (by omega), Nat.add_sub_cancel] at hcb
          have hwm : IntKind.i64.wrap (((m + 1 : Nat) : Int) - 1) = (m : Int) := by rw [IntKind.wrap_i64]; omega
          have hm0 : (0 : Int) ≤ (m : Int) := by omega
          have hm1 : (m : Int) < (s : Int) + 1 := by omega
          have hmp : (0 : Int) < ((m + 1 : Nat) : Int) := by omega
          obtain ⟨a, rfl, hca⟩ := (HA1.grown HW.out).take (j := m) (by omega)
          by_cases hlast : m = s
          · have hz : Q.getD (m + 1) 0 = 0 := by rw [List.getD_eq_getElem?_getD, List.getElem?_eq_none (by omega)]; rfl
            rw [hz] at hcb
            obtain ⟨u, hm, hc⟩ := cell_last HPP.out (hlow.getD m)
            have hmr := run_mul hm
            have har := run_add hc.sum
            obtain ⟨z1, z2⟩ := order_z hc.low
            generalize st (p % 2 ^ 63) 0 (Q.getD m 0) = z at *
            generalize Q.getD m 0 = x at *
            have hs1 : (s : Int) + 1 ≤ ((m + 1 : Nat) : Int) := by omega
            have HK := hide hkj
            generalize hJ : m + 1 = J at *
            have HJ := hide hJ
            clear hm hc hcell hlow hla hlb HA1 HB1 hz hj hlast hkj hJ
            clear HRR HPP HQ HB
            have H2 := hide (And.intro hmr (And.intro hwm hca))
            clear hmr hwm hca
            go_upto_region 18 with fail
            obtain ⟨hmr, hwm, hca⟩ := H2.out
            go_wp2
            go_roundg (gk - 1)
            case measure => omega
            case rel => exact ⟨J + 1, by have := HK.out; omega, by go_num, HW⟩
          · obtain ⟨c, ec, hcc⟩ := (HA1.grown HW.out).take (j := m + 1) (by omega)
            cases ec
            obtain ⟨u, t, hm, hmt, hc⟩ := cell_mid HPP.out (hlow.getD (m + 1)) (hlow.getD m)
            rw [HRR.out] at hm
            have hmr := run_mul hm
            have hmr2 := run_mul hmt
            have har := run_add hc.sum
            obtain ⟨z1, z2⟩ := order_z hc.low
            generalize st (p % 2 ^ 63) (Q.getD (m + 1) 0) (Q.getD m 0) = z at *
            generalize Q.getD m 0 = x at *
            generalize Q.getD (m + 1) 0 = y at *
            have hs1 : ((m + 1 : Nat) : Int) < (s : Int) + 1 := by omega
            have HK := hide hkj
            generalize hJ : m + 1 = J at *
            have HJ := hide hJ
            clear hm hmt hc hcell hlow hla hlb HA1 HB1 hj hlast hkj hJ
            clear HRR HPP HQ HB
            have H2 := hide (And.intro hmr2 (And.intro hwm hca))
            clear hmr2 hwm hca
            go_upto_region 18 with fail
            obtain ⟨hmr2, hwm, hca⟩ := H2.out
            clear hcc hmr
            go_wp2
            go_roundg (gk - 1)
            case measure => omega
            case rel => exact ⟨J + 1, by have := HK.out; omega, by go_num, HW⟩
      · obtain rfl : j = s + 2 := by omega
        clear HA1 HB1 hla hlb hlow hcell
        go_wp2_with fail
        refine (awake_any wr).mono ?_
        rintro e w3 ⟨rfl, hg3⟩
        have HG3 := hide (grown_trans HG2.out (grown_trans HW.out hg3))
        clear hg3
        go_wp2
        go_ret
        exact ⟨rfl, HG3.out⟩
  · have hpf : lik p = false := by simpa using hp
    have S1 := hide (fun w => shows_real (s : Int) p w (by omega) hpf)
    have S2 := hide (fun w => shows_real ((s + 1 : Nat) : Int) p w (by omega) hpf)
    have hpp := HL.out.symm.trans hpf
    rw [show ((s + 1 : Nat) : Int) = (s : Int) + 1 by omega] at S2 hw1
    clear hp hpf HL
    generalize ge0 p = a at *
    generalize le1 p = b at *
    cases a
    · clear hpp hlp2
      go_wp2_with fail
      refine (S1.out _).mono ?_
      rintro e w2 ⟨rfl, hw⟩
      obtain rfl := hw.symm
      clear hw
      go_wp2_with fail
      refine (S2.out _).mono ?_
      rintro e w2 ⟨rfl, hw⟩
      obtain rfl := hw.symm
      clear hw
      go_wp2_with fail
      refine (awake_any _).mono ?_
      rintro e w3 ⟨rfl, hg3⟩
      have HG3 := hide hg3
      clear hg3
      go_wp2
      go_ret
      exact ⟨rfl, HG3.out⟩
    · obtain rfl : b = false := by simpa using hpp
      clear hpp
      go_wp2_with fail
      refine (S1.out _).mono ?_
      rintro e w2 ⟨rfl, hw⟩
      obtain rfl := hw.symm
      clear hw
      go_wp2_with fail
      refine (S2.out _).mono ?_
      rintro e w2 ⟨rfl, hw⟩
      obtain rfl := hw.symm
      clear hw
      go_wp2_with fail
      refine (awake_any _).mono ?_
      rintro e w3 ⟨rfl, hg3⟩
      have HG3 := hide hg3
      clear hg3
      go_wp2
      go_ret
      exact ⟨rfl, HG3.out⟩
end Go.Proofs.Ytdhpjjbjgnnddaa
