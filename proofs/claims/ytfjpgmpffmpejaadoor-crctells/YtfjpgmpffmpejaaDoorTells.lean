/- The walk of CrcTells. -/
import Derived.Test.YtfjpgmpffmpejaaDoorAwake
namespace Go.Proofs.YtfjpgmpffmpejaaDoor
open Go.RowKit
attribute [local go_sem ↓] Go.wp_at_zero Go.wp_at_succ

theorem tmod_neg (x : Int) (n : Nat) (hn : 1 ≤ n) (h : x.tmod (n : Int) < 0) : x.tmod (n : Int) + (n : Int) = x % (n : Int) := by
  have h1 := Int.tmod_eq_emod (a := x) (b := (n : Int))
  have h2 := Int.emod_nonneg x (show (n : Int) ≠ 0 by omega)
  have h3 := Int.emod_lt_of_pos x (show (0 : Int) < (n : Int) by omega)
  rw [h1] at h ⊢
  split at h
  · omega
  · rename_i h4
    rw [if_neg h4]
    simp
theorem tmod_nonneg (x : Int) (n : Nat) (hn : 1 ≤ n) (h : 0 ≤ x.tmod (n : Int)) : x.tmod (n : Int) = x % (n : Int) := by
  have h1 := Int.tmod_eq_emod (a := x) (b := (n : Int))
  have h2 := Int.emod_nonneg x (show (n : Int) ≠ 0 by omega)
  have h3 := Int.emod_lt_of_pos x (show (0 : Int) < (n : Int) by omega)
  rw [h1] at h ⊢
  split
  · omega
  · rename_i h4
    rw [if_neg h4] at h
    simp at h
    omega

set_option maxHeartbeats 400000 in
theorem pick_any (x N : Int) (n : Nat) (w : World) (hN : N = (n : Int)) (hn : 1 ≤ n) (hn2 : n ≤ 4611686018427387904) :
    Calls Tryd.prog 24 #[.int .i64 x, .int .i64 N] w fun e w' => e = .returned (.int .i64 (x % (n : Int))) ∧ w' = w := by
  subst hN
  have h1 : (1 : Int) ≤ (n : Int) := by omega
  have h2 : ((n : Int) == 0) = false := by simp; omega
  have hb := Int.tmod_lt_of_pos x (show (0 : Int) < (n : Int) by omega)
  have hb2 := Int.lt_tmod_of_pos x (show (0 : Int) < (n : Int) by omega)
  have hr1 := tmod_neg x n hn
  have hr2 := tmod_nonneg x n hn
  by_cases hs : x.tmod (n : Int) < 0
  · have hr := hr1 hs
    have HR := hide hr
    clear hr hr1 hr2
    go_enter Tryd.func24, Tryd.ntmps24
    go_wp2
    go_ret
    exact ⟨by rw [← HR.out]; rfl, rfl⟩
  · have hs2 : 0 ≤ x.tmod (n : Int) := by omega
    have hr := hr2 hs2
    have HR := hide hr
    clear hr hr1 hr2
    go_enter Tryd.func24, Tryd.ntmps24
    go_wp2
    go_ret
    exact ⟨by rw [← HR.out]; rfl, rfl⟩


/-- A row, those of the first i bits from the place at' on turned that x tells. -/
def tl (l : List Nat) (at' x : Nat) : Nat → List Nat
  | 0 => l
  | i + 1 => if x / 2 ^ i % 2 = 1 then (tl l at' x i).set ((at' + i) / 8) ((tl l at' x i).getD ((at' + i) / 8) 0 ^^^ 2 ^ ((at' + i) % 8)) else tl l at' x i
theorem tl_length (l : List Nat) (at' x i : Nat) : (tl l at' x i).length = l.length := by
  induction i with
  | zero => rfl
  | succ i ih => rw [tl]; split <;> simp [ih]
theorem pow_byte (k : Nat) : 2 ^ (k % 8) < 256 := Nat.pow_lt_pow_right (a := 2) (by decide) (m := k % 8) (n := 8) (Nat.mod_lt _ (by decide))
theorem tl_bytes {l : List Nat} {at' : Nat} (x : Nat) {i : Nat} (hl : Bytes l) (h : at' + i ≤ 8 * l.length) : Bytes (tl l at' x i) := by
  induction i with
  | zero => exact hl
  | succ i ih =>
    have hp := ih (by omega)
    intro y hy
    rw [tl] at hy
    split at hy
    · rcases List.mem_or_eq_of_mem_set hy with h1 | h1
      · exact hp y h1
      · rw [h1]
        exact Poly.xor_lt_byte (hp _ (getD_mem (by rw [tl_length]; omega))) (pow_byte _)
    · exact hp y hy
theorem tl_LE (l : List Nat) (at' x i : Nat) (h : at' + i ≤ 8 * l.length) : Poly.LE (tl l at' x i) = Poly.LE l ^^^ (x % 2 ^ i) * 2 ^ at' := by
  induction i with
  | zero => simp [tl, Nat.mod_one]
  | succ i ih =>
    rw [tl, Poly.mod_succ, Poly.xor_mul_pow]
    split
    · rw [Poly.LE_set _ _ _ (by rw [tl_length]; omega), ih (by omega), Nat.xor_assoc]
      congr 2
      rw [← Nat.pow_add, ← Nat.pow_add]
      congr 1; omega
    · rw [ih (by omega)]; simp

theorem byte_mod (q : Nat) (h : q < 256) : (q : Int) % 256 = (q : Int) := by omega

set_option maxHeartbeats 1000000 in
theorem tells_any (ao : Option Addr) (n c : Nat) (p : Int) (x : Nat) (xs : List Nat) (w : World) (hT : Tab w) (hn : xs.length = n) (hx : Bytes xs) (ha : At w ao xs) (hna : ao = none → n = 0 ∧ c = 0) (hs : n ≤ 140737488351232) (hxl : x < 4294967296) :
    Calls Tryd.prog 8 #[.slice ao n c, .int .i64 p, .int .u32 (x : Int)] w fun e w' => e = .returned (.bool true) ∧ w.grownBy w' none := by
  have HX := hide (And.intro hn (And.intro hx (And.intro ha hna)))
  have HT := hide hT
  clear hn hx ha hna hT
  by_cases h4 : n < 4
  · have h4i : (n : Int) < 4 := by omega
    go_enter Tryd.func8, Tryd.ntmps8
    go_wp2_with fail
    refine (awake_any _ HT.out).mono ?_
    rintro e w1 ⟨rfl, hg1⟩
    have G1 := hide hg1
    clear hg1
    go_wp2
    go_ret
    exact ⟨rfl, G1.out⟩
  by_cases hx0 : x = 0
  · subst hx0
    have h4i : ¬ (n : Int) < 4 := by omega
    go_enter Tryd.func8, Tryd.ntmps8
    go_wp2_with fail
    refine (awake_any _ HT.out).mono ?_
    rintro e w1 ⟨rfl, hg1⟩
    have G1 := hide hg1
    clear hg1
    go_wp2
    go_ret
    exact ⟨rfl, G1.out⟩
  have h4i : ¬ (n : Int) < 4 := by omega
  have hx1 : ((x : Int) == 0) = false := by simp; omega
  have hw1 : IntKind.i64.wrap (8 * (n : Int)) = 8 * (n : Int) := by rw [IntKind.wrap_i64]; omega
  have hw2 : IntKind.i64.wrap (8 * (n : Int) - 31) = 8 * (n : Int) - 31 := by rw [IntKind.wrap_i64]; omega
  have hp := fun w => pick_any p (8 * (n : Int) - 31) (8 * n - 31) w (by omega) (by omega) (by omega)
  have hpl : 0 ≤ p % ((8 * n - 31 : Nat) : Int) ∧ p % ((8 * n - 31 : Nat) : Int) < ((8 * n - 31 : Nat) : Int) := ⟨Int.emod_nonneg _ (by omega), Int.emod_lt_of_pos _ (by omega)⟩
  obtain ⟨at', hat'⟩ : ∃ at' : Nat, p % ((8 * n - 31 : Nat) : Int) = (at' : Int) := ⟨(p % ((8 * n - 31 : Nat) : Int)).toNat, by omega⟩
  rw [hat'] at hp hpl
  have hal : at' + 32 ≤ 8 * n := by omega
  have HP := hide hp
  have hN : Poly.more 0 xs ≠ Poly.more 0 (tl xs at' x 32) := by
    obtain ⟨hn, hx, _⟩ := HX.out
    refine Poly.more_tells 0 xs _ x at' (tl_length ..) (by omega) ?_ hxl hx0
    rw [tl_LE _ _ _ _ (by omega), Nat.mod_eq_of_lt (by simpa using hxl)]
  have hb2 : Bytes (tl xs at' x 32) := by
    obtain ⟨hn, hx, _⟩ := HX.out
    exact tl_bytes x hx (by omega)
  have hSum2 := fun (bo : Option Addr) (c : Nat) (w : World) (h : At w bo (tl xs at' x 32)) (t : Tab w) => sum_any bo n c (tl xs at' x 32) w (by rw [tl_length]; exact HX.out.1) hb2 h t (by omega)
  have hSum1 := fun (bo : Option Addr) (c : Nat) (w : World) (h : At w bo xs) (t : Tab w) => sum_any bo n c xs w HX.out.1 HX.out.2.1 h t (by omega)
  obtain ⟨Z, hZ⟩ : ∃ Z, Z = tl xs at' x 32 := ⟨_, rfl⟩
  have HZ := hide hZ
  rw [← hZ] at hSum2 hN hb2
  clear hZ
  generalize Poly.more 0 Z = S2 at *
  generalize Poly.more 0 xs = S1 at *
  have HS := hide (And.intro hSum1 hSum2)
  have hne : ((S1 : Int) == (S2 : Int)) = false := by simp; omega
  have hne2 : ((S1 : Int) != (S2 : Int)) = true := by simp; omega
  clear hp hpl hat' hb2 hSum1 hSum2 hN hx0 h4
  go_enter Tryd.func8, Tryd.ntmps8
  go_wp2_with fail
  refine (awake_any _ HT.out).mono ?_
  rintro e w1 ⟨rfl, hg1⟩
  have G1 := hide hg1
  clear hg1
  go_wp2_with fail
  refine (HP.out _).mono ?_
  rintro e w2 ⟨rfl, rfl⟩
  clear HP hw1 hw2
  go_wp2_with fail
  obtain ⟨hn, hx, ha, hna⟩ := HX.out
  refine (copy_any ao n c xs w2 hn (ha.grown G1.out) hna (by omega)).mono ?_
  rintro e w3 ⟨v, rfl, hown, hg⟩
  obtain ⟨ao', cap', rfl, -, hnc, hcm, hat', hnil', h5⟩ := own_at hown
  obtain ⟨a', rfl⟩ : ∃ a', ao' = some a' := by
    cases ao' with
    | none => have := (hnil' rfl).1; omega
    | some a' => exact ⟨a', rfl⟩
  obtain ⟨ha', hb1, hb2⟩ := h5 a' rfl
  obtain ⟨g, hg0⟩ : ∃ g, g = a'.block := ⟨_, rfl⟩
  rw [← hg0] at ha' hb1 hb2
  subst ha'
  have hb1' : w.heap.size ≤ g := Nat.le_trans G1.out.size hb1
  have HO := hide (And.intro hown (grown_trans G1.out hg))
  clear hown hg hat' hnil' h5 hn hx ha hna hg0 hcm
  go_wp2
  go_loopg [8] 32 (fun k i wr => ∃ j : Nat, k + j = 32 ∧ i = .int .i64 j ∧ wr.ownsRow w2.heap.size 5 1 (.slice (some ⟨g, 0, none⟩) n cap') n (bv (tl xs at' x j)) ∧ w.grownBy wr none)
  case atStart => exact ⟨0, rfl, rfl, HO.out.1, HO.out.2⟩
  case round =>
    obtain ⟨j, hkj, rfl, hown, hg⟩ := hrel
    clear HO
    by_cases hk : 0 < gk
    · have hj : (j : Int) < 32 := by omega
      have hshr : ((x : Int) / 2 ^ j).tmod 2 = ((x / 2 ^ j % 2 : Nat) : Int) := by rw [show ((x : Int) / 2 ^ j) = ((x / 2 ^ j : Nat) : Int) by simp]; rfl
      by_cases hb : x / 2 ^ j % 2 = 1
      · rw [hb] at hshr
        have hshr : ((x : Int) / 2 ^ j).tmod 2 = 1 := hshr
        have hnn := HX.out.1
        have hlen : (at' + j) / 8 < (tl xs at' x j).length := by rw [tl_length, hnn]; omega
        have hby := tl_bytes x (i := j) HX.out.2.1 (show at' + j ≤ 8 * xs.length by omega) _ (getD_mem hlen)
        have hcell := hown.cellAt ((at' + j) / 8) (by omega)
        rw [bv_get _ _ _ (getD_get hlen)] at hcell
        have hfr := hown.frozenAt ((at' + j) / 8)
        have hq := pow_byte (at' + j)
        have hpw : (2 : Int) ^ ((at' + j) % 8) % 256 = ((2 ^ ((at' + j) % 8) : Nat) : Int) := by
          rw [show (2 : Int) ^ ((at' + j) % 8) = ((2 ^ ((at' + j) % 8) : Nat) : Int) by simp]
          exact byte_mod _ hq
        have hxo := bits_xor_u8 _ _ hby hq
        rw [← hpw] at hxo
        clear hpw
        have HN : Hid (tl xs at' x (j + 1) = (tl xs at' x j).set ((at' + j) / 8) ((tl xs at' x j).getD ((at' + j) / 8) 0 ^^^ 2 ^ ((at' + j) % 8))) := by
          show _ = _
          rw [tl, if_pos hb]
        generalize (tl xs at' x j).getD ((at' + j) / 8) 0 ^^^ 2 ^ ((at' + j) % 8) = z at *
        generalize (tl xs at' x j).getD ((at' + j) / 8) 0 = y at *
        have hw3 : IntKind.i64.wrap ((at' : Int) + (j : Int)) = ((at' + j : Nat) : Int) := by rw [IntKind.wrap_i64]; omega
        have hlt : (((at' + j) / 8 : Nat) : Int) < (n : Int) := by rw [tl_length, hnn] at hlen; omega
        have HO2 := hide (And.intro hown hg)
        clear hown hg hlen hb hnn
        go_wp2
        go_region
        go_wp2
        go_roundg (gk - 1)
        case measure => omega
        case rel =>
          obtain ⟨hown, hg⟩ := HO2.out
          have hst := hown.stored ((at' + j) / 8) (.int .u8 (z : Int))
          refine ⟨j + 1, by omega, by go_num, ?_, grown_then hg (grown_trans hst.2 (grown_drew _ _)) (fun k e => by cases e; exact Or.inl hb1')⟩
          rw [HN.out, bv_set]
          exact hst.1.drew
      · rw [show x / 2 ^ j % 2 = 0 by omega] at hshr
        have hshr : ((x : Int) / 2 ^ j).tmod 2 = 0 := hshr
        have HN : Hid (tl xs at' x (j + 1) = tl xs at' x j) := by
          show _ = _
          rw [tl, if_neg hb]
        have HO2 := hide (And.intro hown hg)
        clear hown hg hb
        go_wp2
        go_roundg (gk - 1)
        case measure => omega
        case rel =>
          obtain ⟨hown, hg⟩ := HO2.out
          exact ⟨j + 1, by omega, by go_num, by rw [HN.out]; exact hown, hg⟩
    · have hj : j = 32 := by omega
      subst hj
      obtain ⟨ao2, cap2, e2, -, -, -, hat2, -⟩ := own_at hown
      cases e2
      rw [← HZ.out] at hat2
      clear HZ
      have HO2 := hide (And.intro hat2 hg)
      clear hown hg hat2
      go_wp2_with fail
      obtain ⟨hn, hx, ha, hna⟩ := HX.out
      refine (copy_any ao n c xs wr hn (ha.grown HO2.out.2) hna (by omega)).mono ?_
      rintro e w5 ⟨v, rfl, hown5, hg5⟩
      obtain ⟨ao5, cap5, rfl, -, -, -, hat5, -⟩ := own_at hown5
      have H5 := hide (And.intro hat5 (And.intro (grown_trans HO2.out.2 hg5) (HO2.out.1.grown hg5)))
      clear hn hx ha hna hown5 hg5 hat5 HO2
      go_wp2_with fail
      refine (HS.out.1 ao5 cap5 w5 H5.out.1 (HT.out.grown H5.out.2.1)).mono ?_
      rintro e w6 ⟨rfl, rfl⟩
      go_wp2_with fail
      refine (HS.out.2 _ _ w6 H5.out.2.2 (HT.out.grown H5.out.2.1)).mono ?_
      rintro e w7 ⟨rfl, rfl⟩
      go_wp2
      go_ret
      exact ⟨rfl, H5.out.2.1⟩
end Go.Proofs.YtfjpgmpffmpejaaDoor
