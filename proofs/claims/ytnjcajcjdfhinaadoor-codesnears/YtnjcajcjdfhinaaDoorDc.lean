/- The document's Near; CodesTexts, CodesNears: the walks. -/
import Derived.Test.YtnjcajcjdfhinaaDoorDb
import Derived.Test.YtnjcajcjdfhinaaDoorCg
namespace Go.Proofs.YtnjcajcjdfhinaaDoor
open Go.RowKit Cn
attribute [local go_sem ↓] Go.wp_at_zero Go.wp_at_succ

set_option maxRecDepth 100000 in
set_option maxHeartbeats 2000000 in
theorem rnear_any (a b : Nat) (ha : a < 4294967296) (hb : b < 4294967296) (w : World) :
    Calls Tryd.prog 15 #[.int .u32 (a : Int), .int .u32 (b : Int)] w fun e w' => e = .returned (.int .i64 (nr a b : Int)) ∧ w.grownBy w' none := by
  have T1 := hide (rtext_any a ha)
  have T2 := hide (rtext_any b hb)
  obtain ⟨l, hl⟩ : ∃ l, l = wo a := ⟨_, rfl⟩
  obtain ⟨m, hm⟩ : ∃ m, m = wo b := ⟨_, rfl⟩
  have hlen : l.length = 8 := by rw [hl]; rfl
  have hlem : m.length = 8 := by rw [hm]; rfl
  have hn : nr a b = df (l.take 8) (m.take 8) := by rw [List.take_of_length_le (by omega), List.take_of_length_le (by omega), hl, hm]; rfl
  have I1 := hide (fun (j x : Nat) (h : l[j]? = some x) => index_at (tx_at (by rw [hl] at h; exact h)))
  have I2 := hide (fun (j x : Nat) (h : m[j]? = some x) => index_at (tx_at (by rw [hm] at h; exact h)))
  have hlow : Low l ∧ Low m := by rw [hl, hm]; exact ⟨wo_low a, wo_low b⟩
  have HN := hide (And.intro hn (And.intro hlen (And.intro hlem hlow)))
  have z1 := size_str (tx a)
  have z2 := size_str (tx b)
  rw [tx_len] at z1 z2
  unfold str at T1 T2
  generalize (⟨(tx a).toArray⟩ : ByteArray) = sa at *
  generalize (⟨(tx b).toArray⟩ : ByteArray) = sb at *
  generalize nr a b = D at *
  clear ha hb hl hm hlen hlem hn hlow
  have z3 : (sa.size : Int) = 8 := by omega
  have z4 : (sb.size : Int) = 8 := by omega
  clear z1 z2
  go_enter Tryd.func15, Tryd.ntmps15
  go_wp2_with fail
  refine (T1.out _).mono ?_
  rintro e w3 ⟨rfl, hg3⟩
  have G3 := hide hg3
  clear hg3
  go_wp2_with fail
  refine (T2.out _).mono ?_
  rintro e w4 ⟨rfl, hg4⟩
  have G4 := hide (grown_trans G3.out hg4)
  clear hg4 G3
  go_wp2
  go_loopg [7, 8] 8 (fun k c i wr => ∃ j C : Nat, k + j = 8 ∧ i = .int .i64 (j : Int) ∧ c = .int .i64 (C : Int) ∧ C ≤ j ∧ C = df (l.take j) (m.take j) ∧ w.grownBy wr none)
  case atStart => exact ⟨0, 0, by omega, rfl, rfl, by omega, by simp [df], G4.out⟩
  case round =>
    obtain ⟨j, C, hkj, rfl, rfl, hCj, hC, hg⟩ := hrel
    obtain ⟨hn, hlen, hlem, hlow, hmow⟩ := HN.out
    have hj0 : (0 : Int) ≤ (j : Int) := by omega
    by_cases hk : 0 < gk
    · have hj1 : (j : Int) < 8 := by omega
      have hjl : j < l.length := by omega
      have hjm : j < m.length := by omega
      have i1 := I1.out j _ (List.getElem?_eq_getElem hjl)
      have i2 := I2.out j _ (List.getElem?_eq_getElem hjm)
      have hst := df_at l m j _ _ (List.getElem?_eq_getElem hjl) (List.getElem?_eq_getElem hjm)
      have hiff := df_map l m j _ _ hlow hmow (List.getElem?_eq_getElem hjl) (List.getElem?_eq_getElem hjm)
      rw [← hC] at hst
      have HR := hide hg
      generalize l[j] = x at *
      generalize m[j] = y at *
      have hC0 : (C : Int) ≤ 8 := by omega
      have hwC : IntKind.i64.wrap ((C : Int) + 1) = (C : Int) + 1 := IntWalk.i64_in _ (by omega)
      clear hg hlen hlem hlow hmow hjl hjm hC hn z3 z4
      by_cases hxy : x = y
      · subst hxy
        have HST := hide hst
        clear hst hiff
        generalize (lt x).toNat = u at *
        go_wp2
        go_quiet (fail)
        go_wp2
        go_roundg (gk - 1)
        case measure => omega
        case rel =>
          have := HST.out
          simp only [if_true] at this
          exact ⟨j + 1, C, by omega, by go_num, rfl, by omega, by omega, grown_trans HR.out (grown_drewN _ _ _)⟩
      · have hne0 : (lt x).toNat ≠ (lt y).toNat := fun e => hxy (hiff.1 e)
        rw [if_neg hxy] at hst
        have HST := hide hst
        clear hst hxy hiff
        generalize (lt x).toNat = u at *
        generalize (lt y).toNat = v at *
        have hne : ((u : Int) == (v : Int)) = false := by simp; omega
        have hne2 : ((u : Int) != (v : Int)) = true := by simp; omega
        have hne3 : decide ((u : Int) = (v : Int)) = false := by simp; omega
        clear hne0
        go_wp2
        go_quiet (fail)
        go_wp2
        go_roundg (gk - 1)
        case measure => omega
        case rel =>
          have := HST.out
          exact ⟨j + 1, C + 1, by omega, by go_num, by go_num, by omega, by omega, grown_trans HR.out (grown_drewN _ _ _)⟩
    · have hj : j = 8 := by omega
      subst hj
      rw [← hn] at hC
      subst hC
      have hG := hide hg
      clear hg hlen hlem hlow hmow hn
      go_wp2
      go_ret
      exact ⟨rfl, hG.out⟩
set_option maxHeartbeats 1000000 in
theorem codesTexts_any (id : Nat) (hid : id < 4294967296) (w : World) (hT : Tab w) :
    Calls Tryd.prog 3 #[.int .u32 (id : Int)] w fun e w' => e = .returned (.bool true) ∧ w.grownBy w' none := by
  have A := hide (fun w' (hg : w.grownBy w' none) => awake_any w' (hT.grown hg))
  have T1 := hide (text_any id hid w hT)
  have T2 := hide (rtext_any id hid)
  unfold str at *
  generalize (⟨(tx id).toArray⟩ : ByteArray) = sa at *
  clear hT hid
  go_enter Tryd.func3, Tryd.ntmps3
  go_wp2_with fail
  refine T1.out.mono ?_
  rintro e w1 ⟨rfl, hg1⟩
  have G1 := hide hg1
  clear hg1
  go_wp2_with fail
  refine (T2.out _).mono ?_
  rintro e w2 ⟨rfl, hg2⟩
  have G2 := hide (grown_trans G1.out hg2)
  clear hg2 G1
  go_wp2_with fail
  refine (A.out _ G2.out).mono ?_
  rintro e w3 ⟨rfl, hg3⟩
  have G3 := hide (grown_trans G2.out hg3)
  clear hg3 G2
  go_wp2
  go_ret
  exact ⟨rfl, G3.out⟩
set_option maxHeartbeats 1000000 in
theorem codesNears_any (a b : Nat) (ha : a < 4294967296) (hb : b < 4294967296) (w : World) (hT : Tab w) :
    Calls Tryd.prog 5 #[.int .u32 (a : Int), .int .u32 (b : Int)] w fun e w' => e = .returned (.bool true) ∧ w.grownBy w' none := by
  have A := hide (fun w' (hg : w.grownBy w' none) => awake_any w' (hT.grown hg))
  have T1 := hide (near_any a b ha hb w hT)
  have T2 := hide (rnear_any a b ha hb)
  generalize nr a b = D at *
  clear hT ha hb
  go_enter Tryd.func5, Tryd.ntmps5
  go_wp2_with fail
  refine T1.out.mono ?_
  rintro e w1 ⟨rfl, hg1⟩
  have G1 := hide hg1
  clear hg1
  go_wp2_with fail
  refine (T2.out _).mono ?_
  rintro e w2 ⟨rfl, hg2⟩
  have G2 := hide (grown_trans G1.out hg2)
  clear hg2 G1
  go_wp2_with fail
  refine (A.out _ G2.out).mono ?_
  rintro e w3 ⟨rfl, hg3⟩
  have G3 := hide (grown_trans G2.out hg3)
  clear hg3 G2
  go_wp2
  go_ret
  exact ⟨rfl, G3.out⟩
end Go.Proofs.YtnjcajcjdfhinaaDoor
