/- OctetsLow's walk: for every number of eight bytes the call answers true and leaves what was there. -/
import Derived.Test.YtckmghagfaecmaaKit
namespace Go.Proofs.Ytckmghagfaecmaa
open Go.RowKit
attribute [local go_sem ↓] Go.wp_at_zero Go.wp_at_succ

theorem low_two (n : Int) (_h : 0 ≤ n) : ∃ x0 x1, leB (n % 65536) 2 = [x0, x1] ∧ 0 ≤ x0 ∧ x0 < 256 ∧ 0 ≤ x1 ∧ x1 < 256 ∧ x0 + 256 * x1 = n % 65536 := by
  refine ⟨_, _, rfl, ?_⟩
  have := leV_leB (n % 65536) (by omega) 2
  simp [leB, leV, List.range_succ] at this ⊢
  omega
theorem low_four (n : Int) (_h : 0 ≤ n) : ∃ x0 x1 x2 x3, leB (n % 4294967296) 4 = [x0, x1, x2, x3] ∧ (0 ≤ x0 ∧ x0 < 256) ∧ (0 ≤ x1 ∧ x1 < 256) ∧ (0 ≤ x2 ∧ x2 < 256) ∧ (0 ≤ x3 ∧ x3 < 256) ∧ x0 + 256 * (x1 + 256 * (x2 + 256 * x3)) = n % 4294967296 := by
  refine ⟨_, _, _, _, rfl, ?_⟩
  have := leV_leB (n % 4294967296) (by omega) 4
  simp [leB, leV, List.range_succ] at this ⊢
  omega

set_option maxHeartbeats 2000000 in
set_option maxRecDepth 100000 in
theorem low_any (n : Int) (w : World) (h0 : 0 ≤ n) (h1 : n < 18446744073709551616) : Calls Try.prog 7 #[.int .u64 n] w fun e w' => e = .returned (.bool true) ∧ w.grownBy w' none := by
  have hn2 : 0 ≤ n % 65536 ∧ n % 65536 < 65536 := by omega
  have hn4 : 0 ≤ n % 4294967296 ∧ n % 4294967296 < 4294967296 := by omega
  go_enter Try.func7, Try.ntmps7
  go_wp2_with fail
  refine (two_any _ [] (n % 65536) _ (wr_zero w) (by omega) (by omega) (by simp)).mono ?_
  rintro e w2 ⟨rfl, hW2, hg2⟩
  have G2 : Hid (w.grownBy w2 none) := grown_then (World.grownBy_alloc w _ none) hg2 (fun k e => by cases e; exact Or.inl (Nat.le_refl _))
  have HW2 := hide hW2
  clear hg2 hW2
  go_wp2_with fail
  refine (four_any _ _ (n % 4294967296) _ HW2.out (by omega) (by omega) (by simp [leB_length])).mono ?_
  rintro e w3 ⟨rfl, hW3, hg3⟩
  have G3 : Hid (w.grownBy w3 none) := grown_then G2.out hg3 (fun k e => by cases e; exact Or.inl (Nat.le_refl _))
  have HW3 := hide hW3
  clear hg3 hW3 G2 HW2
  go_wp2_with fail
  refine (eight_any _ _ n _ HW3.out h0 h1 (by simp [leB_length])).mono ?_
  rintro e w4 ⟨rfl, hW4, hg4⟩
  have G4 : Hid (w.grownBy w4 none) := grown_then G3.out hg4 (fun k e => by cases e; exact Or.inl (Nat.le_refl _))
  have HW4 := hide hW4
  clear hg4 hW4 G3 HW3
  go_wp2_with fail
  refine (out_any _ _ _ HW4.out (by simp [leB_length])).mono ?_
  obtain ⟨ys, hys⟩ : ∃ ys, ys = leB n 8 := ⟨_, rfl⟩
  obtain ⟨x0, x1, e2, b0, b0', b1, b1', s2⟩ := low_two n h0
  obtain ⟨x2, x3, x4, x5, e4, b2, b3, b4, b5, s4⟩ := low_four n h0
  rw [e2, e4, ← hys]
  have hyl : ys.length = 8 := by rw [hys, leB_length]
  have hlen : ([] ++ [x0, x1] ++ [x2, x3, x4, x5] ++ ys).length = 14 := by simp [hyl]
  rw [hlen]
  rintro e w5 ⟨rfl, hrow, hg5⟩
  have G5 : Hid (w.grownBy w5 none) := grown_trans G4.out hg5
  have HY := hide (And.intro hys (And.intro hyl (And.intro s2 s4)))
  have HA5 := hide (at_row hrow)
  clear hrow hg5 G4 HW4 e2 e4 s2 s4 hys hyl hlen
  go_wp2_with fail
  refine (awake_any _).mono ?_
  rintro e w6 ⟨rfl, hg6⟩
  have G6 : Hid (w.grownBy w6 none) := grown_trans G5.out hg6
  have HA6 := hide (HA5.out.kept hg6 (by simp))
  generalize w4.heap.size = A at *
  have hc : ∀ j u, ([] ++ [x0, x1] ++ [x2, x3, x4, x5] ++ ys)[j]? = some u → w6.cell? ⟨A, j, none⟩ = some (.int .u8 u) := by
    intro j u hu
    obtain ⟨a, ha, hcc⟩ := HA6.out j u hu
    cases ha
    rw [Addr.add_lit, Nat.zero_add] at hcc
    exact hcc
  have c0 := hc 0 x0 rfl
  have c1 := hc 1 x1 rfl
  have c2 := hc 2 x2 rfl
  have c3 := hc 3 x3 rfl
  have c4 := hc 4 x4 rfl
  have c5 := hc 5 x5 rfl
  have HC := hide hc
  obtain ⟨hys, hyl, s2, s4⟩ := HY.out
  have u0 : IntKind.u16.wrap x0 = x0 := by rw [IntKind.wrap_u16]; omega
  have u1 : IntKind.u16.wrap x1 = x1 := by rw [IntKind.wrap_u16]; omega
  have u2 : IntKind.u16.wrap (256 * x1) = 256 * x1 := by rw [IntKind.wrap_u16]; omega
  have u3 : IntKind.u16.wrap (x0 + 256 * x1) = n % 65536 := by rw [IntKind.wrap_u16]; omega
  have v2 : IntKind.u32.wrap x2 = x2 := by rw [IntKind.wrap_u32']; omega
  have v3 : IntKind.u32.wrap x3 = x3 := by rw [IntKind.wrap_u32']; omega
  have v4 : IntKind.u32.wrap x4 = x4 := by rw [IntKind.wrap_u32']; omega
  have v5 : IntKind.u32.wrap x5 = x5 := by rw [IntKind.wrap_u32']; omega
  have v6 : IntKind.u32.wrap (256 * x5) = 256 * x5 := by rw [IntKind.wrap_u32']; omega
  have v7 : IntKind.u32.wrap (x4 + 256 * x5) = x4 + 256 * x5 := by rw [IntKind.wrap_u32']; omega
  have v8 : IntKind.u32.wrap (256 * (x4 + 256 * x5)) = 256 * (x4 + 256 * x5) := by rw [IntKind.wrap_u32']; omega
  have v9 : IntKind.u32.wrap (x3 + 256 * (x4 + 256 * x5)) = x3 + 256 * (x4 + 256 * x5) := by rw [IntKind.wrap_u32']; omega
  have v10 : IntKind.u32.wrap (256 * (x3 + 256 * (x4 + 256 * x5))) = 256 * (x3 + 256 * (x4 + 256 * x5)) := by rw [IntKind.wrap_u32']; omega
  have v11 : IntKind.u32.wrap (x2 + 256 * (x3 + 256 * (x4 + 256 * x5))) = n % 4294967296 := by rw [IntKind.wrap_u32']; omega
  have hN : leV ys = n := by rw [hys, leV_leB n h0]; omega
  have hYB : Byt ys := by rw [hys]; exact byt_leB n 8
  have HN := hide hN
  clear hys hyl s2 s4 hN
  clear hc hg6 HA5 HA6 G5
  go_wp2
  go_region_held3 (fun w' => w'.cell? ⟨A, 0, none⟩ = some (.int .u8 x0) ∧ w'.cell? ⟨A, 1, none⟩ = some (.int .u8 x1)) (go_keep) (fail)
  go_wp2
  go_region_held3 (fun w' => w'.cell? ⟨A, 2, none⟩ = some (.int .u8 x2) ∧ w'.cell? ⟨A, 3, none⟩ = some (.int .u8 x3) ∧ w'.cell? ⟨A, 4, none⟩ = some (.int .u8 x4) ∧ w'.cell? ⟨A, 5, none⟩ = some (.int .u8 x5)) (go_keep) (fail)
  go_wp2
  clear u0 u1 u2 u3 v2 v3 v4 v5 v6 v7 v8 v9 v10 v11 c0 c1 c2 c3 c4 c5
  go_loopg [7, 8] 8 (fun k v i wr => ∃ j : Nat, k + j = 8 ∧ i = .int .i64 (13 - (j : Int)) ∧ v = .int .u64 (leV (ys.drop (8 - j))) ∧ wr = w6.drew.drew)
  case atStart => exact ⟨0, rfl, rfl, by rw [List.drop_eq_nil_of_le (by have := HY.out.2.1; omega)]; rfl, rfl⟩
  case round =>
    obtain ⟨j, hkj, rfl, rfl, rfl⟩ := hrel
    by_cases hk : 0 < gk
    · have hyl := HY.out.2.1
      have hj8 : j < 8 := by omega
      have hi : 7 - j < ys.length := by omega
      have hcell : w6.cell? ⟨A, 13 - j, none⟩ = some (.int .u8 ys[7 - j]) := HC.out (13 - j) _ (by
        rw [List.getElem?_append_right (by simp; omega)]
        simp only [List.length_append, List.length_cons, List.length_nil]
        rw [show 13 - j - (0 + 0 + 1 + 1 + 0 + 1 + 1 + 1 + 1) = 7 - j from by omega]
        exact List.getElem?_eq_getElem hi)
      have hd : ys.drop (8 - (j + 1)) = ys[7 - j] :: ys.drop (8 - j) := by
        rw [show 8 - (j + 1) = 7 - j from by omega, show 8 - j = 7 - j + 1 from by omega]
        exact List.drop_eq_getElem_cons hi
      have hb := leV_bound (ys.drop (8 - j)) (hYB.drop _)
      have hy := hYB ys[7 - j] (by simp)
      have hbl : leV (ys.drop (8 - j)) < 72057594037927936 := by
        refine Int.lt_of_lt_of_le hb.2 ?_
        rw [List.length_drop, hyl, show 8 - (8 - j) = j from by omega]
        have h4 : (2 : Nat) ^ (8 * j) ≤ 2 ^ 56 := Nat.pow_le_pow_right (by omega) (by omega)
        have h5 : ((2 ^ (8 * j) : Nat) : Int) ≤ ((2 ^ 56 : Nat) : Int) := Int.ofNat_le.2 h4
        simpa using h5
      have hb0 := hb.1
      have HD := hide hd
      clear hb hd
      generalize hV : leV (ys.drop (8 - j)) = V at *
      have HV := hide hV
      clear hV
      generalize hX : ys[7 - j] = X at *
      have HX := hide hX
      clear hX
      have hneg : (0 : Int) ≤ 13 - (j : Int) := by omega
      have hlt : (13 : Int) - (j : Int) < 14 := by omega
      have htn : ((13 : Int) - (j : Int)).toNat = 13 - j := by omega
      have hge : (6 : Int) ≤ 13 - (j : Int) := by omega
      go_wp2
      go_roundg (gk - 1)
      case measure => omega
      case rel =>
        refine ⟨j + 1, by omega, by congr 1; omega, ?_, rfl⟩
        rw [HD.out, leV, HV.out, Int.add_comm]
    · have hj : j = 8 := by omega
      subst hj
      go_wp2
      go_ret
      refine ⟨?_, grown_trans G6.out (grown_trans (grown_drew _ _) (grown_drew _ _))⟩
      rw [HN.out]; simp
end Go.Proofs.Ytckmghagfaecmaa
