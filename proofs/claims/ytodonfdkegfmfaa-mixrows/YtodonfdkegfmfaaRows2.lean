/- The walk of MixRows. -/
import Derived.Test.YtodonfdkegfmfaaSame
import Derived.Test.YtodonfdkegfmfaaText
namespace Go.Proofs.Ytodonfdkegfmfaa
open Go.RowKit
attribute [local go_sem ↓] Go.wp_at_zero Go.wp_at_succ

/-- The constant that Back tells of the first word. -/
theorem gap_told (s : Nat) (_hs : s < 18446744073709551616) : IntKind.u64.wrap (((Mx.back (Mx.word s 1) : Nat) : Int) - (s : Int)) = 11400714819323198485 := by
  rw [Mx.word, Mx.back_hash (Mx.seedAt_lt _ _), wrap_u64, Mx.seedAt, Mx.G]
  omega
theorem place_told (s i : Nat) : ((Mx.back (Mx.word s (i + 1)) : Nat) : Int) = ((Mx.seedAt s (i + 1) : Nat) : Int) := by
  rw [Mx.word, Mx.back_hash (Mx.seedAt_lt _ _)]
theorem word_ne {s i k : Nat} (hk : k < i) (hi : i < 1000) : ((((Mx.word s (k + 1) : Nat) : Int)) == ((Mx.word s (i + 1) : Nat) : Int)) = false := by
  have : Mx.word s (k + 1) ≠ Mx.word s (i + 1) := fun e => by
    have := Mx.word_inj (s := s) (i := k + 1) (k := i + 1) (by omega) (by omega) e
    omega
  simp; omega
theorem At.drop {w : World} {a : Addr} {xs : List Nat} (h : At w (some a) xs) (n : Nat) : At w (some (a.add n)) (xs.drop n) := by
  intro j u hu
  rw [List.getElem?_drop] at hu
  obtain ⟨a', ha, hc⟩ := h _ _ hu
  cases ha
  exact ⟨_, rfl, by rw [Addr.add_add]; exact hc⟩

/-- Where '[1:]' of a whole row begins. -/
def cutA (g n : Nat) : Option Addr := if n = 1 then some ⟨g, 0, none⟩ else some ((⟨g, 0, none⟩ : Addr).add 1)
theorem slice_from (g n : Nat) (h : 1 ≤ n) (w : World) : (Instr.slice 22 (.slice (some ⟨g, 0, none⟩) n n) (some (.int .i64 1)) none none).run Try.prog w = .ok (.slice (cutA g n) (n - 1) (n - 1)) w := by
  have h' : ¬ (n : Int) < 1 := by omega
  simp [Instr.slice, run_underlying Try.underlying22, Instr.sliceBounds, Instr.sliceBound, asIntOf, h', cutA]
theorem At.cut {w : World} {g s n : Nat} (h : At w (some ⟨g, 0, none⟩) (Mx.words s n)) : At w (cutA g n) ((Mx.words s n).drop 1) := by
  unfold cutA
  split
  · rename_i e
    subst e
    rw [show (Mx.words s 1).drop 1 = [] from rfl]
    exact At.nil _ _
  · exact h.drop 1

set_option maxHeartbeats 1000000 in
theorem rows_any (s : Nat) (p q : Int) (hs : s < 18446744073709551616) (w : World) : Calls Try.prog 8 #[.int .u64 (s : Int), .int .i64 p, .int .i64 q] w fun e w' => e = .returned (.bool true) ∧ w.grownBy w' none := by
  obtain ⟨n, hn⟩ : ∃ n : Nat, p % ((500 : Nat) : Int) = (n : Int) := ⟨(p % 500).toNat, by have := Int.emod_nonneg p (show (500 : Int) ≠ 0 by decide); simp; omega⟩
  have hn5 : n < 500 := by have := Int.emod_lt_of_pos p (show (0 : Int) < 500 by decide); simp at hn; omega
  obtain ⟨f, hf⟩ : ∃ f : Nat, q % ((n + 1 : Nat) : Int) = (f : Int) := ⟨(q % ((n + 1 : Nat) : Int)).toNat, by have := Int.emod_nonneg q (show ((n + 1 : Nat) : Int) ≠ 0 by omega); omega⟩
  have hfn : f ≤ n := by have := Int.emod_lt_of_pos q (show (0 : Int) < ((n + 1 : Nat) : Int) by omega); omega
  have P1 := fun w => pick_any p 500 500 w rfl (by decide) (by decide)
  have P2 := fun w => pick_any q ((n : Int) + 1) (n + 1) w (by omega) (by omega) (by omega)
  rw [hn] at P1
  rw [hf] at P2
  have HP := hide (And.intro P1 P2)
  clear P1 P2 hn hf
  have HS := hide hs
  clear hs
  go_enter Try.func8, Try.ntmps8
  go_wp2_with fail
  refine (HP.out.1 _).mono ?_
  rintro e w1 ⟨rfl, rfl⟩
  go_wp2_with fail
  refine (HP.out.2 _).mono ?_
  rintro e w2 ⟨rfl, rfl⟩
  clear HP
  go_wp2_with fail
  refine (words_any s n w2 HS.out (by omega)).mono ?_
  rintro e w3 ⟨g3, rfl, hr3, hb3, hg3⟩
  have H3 := hide (And.intro (at_row hr3) hg3)
  clear hr3 hb3 hg3
  go_wp2_with fail
  refine (words_any s f w3 HS.out (by omega)).mono ?_
  rintro e w4 ⟨g4, rfl, hr4, hb4, hg4⟩
  have H4 := hide (And.intro (H3.out.1.grown hg4) (And.intro (at_row hr4) (grown_trans H3.out.2 hg4)))
  clear hr4 hb4 hg4 H3
  have h1 : (f : Int) ≤ (n : Int) := by omega
  have h0 : (0 : Int) ≤ (f : Int) := by omega
  go_wp2_with fail
  refine (same_eq _ _ f _ _ (Mx.words s f) w4 (Mx.words_length s f) H4.out.2.1 (by rw [← Mx.words_take s n f hfn]; exact H4.out.1.take f) (by omega)).mono ?_
  rintro e w5 ⟨rfl, hg5⟩
  have H5 := hide (And.intro (H4.out.1.grown hg5) (grown_trans H4.out.2.2 hg5))
  clear hg5 H4
  go_wp2_with fail
  refine (words_any s 1 w5 HS.out (by decide)).mono ?_
  rintro e w6 ⟨g6, rfl, hr6, hb6, hg6⟩
  have hc6 : w6.cell? ⟨g6, 0, none⟩ = some (.int .u64 ((Mx.word s 1 : Nat) : Int)) := by rw [cell_row hr6]; rfl
  have H6 := hide (And.intro (H5.out.1.grown hg6) (grown_trans H5.out.2 hg6))
  clear hr6 hb6 hg6 H5
  have hgap := gap_told s HS.out
  have CB := hide (fun w => back_any (Mx.word s 1) (Mx.word_lt _ _) w)
  generalize Mx.back (Mx.word s 1) = bw at *
  generalize Mx.word s 1 = w1' at *
  go_wp2_with fail
  refine (CB.out _).mono ?_
  rintro e w7 ⟨rfl, rfl⟩
  clear CB hc6
  go_wp2
  go_loopg [14] n (fun k i wr => ∃ j : Nat, k + j = n ∧ i = .int .i64 (j : Int) ∧ Hid (w7.grownBy wr none))
  case atStart => exact ⟨0, by omega, rfl, grown_refl _ _⟩
  case round =>
    obtain ⟨j, hkj, rfl, hg⟩ := hrel
    by_cases hk : 0 < gk
    · have hj : (j : Int) < (n : Int) := by omega
      have hj0 : (0 : Int) ≤ (j : Int) := by omega
      have hat := H6.out.1.grown hg.out
      obtain ⟨a, ea, hcj⟩ := hat j _ (Mx.words_get (by omega))
      cases ea
      rw [Addr.add_lit, Nat.zero_add] at hcj
      have hm := mul_G j
      have ha := add_G s j
      have CB := hide (fun w => back_any (Mx.word s (j + 1)) (Mx.word_lt _ _) w)
      have hpl := place_told s j
      have HNE := hide (fun k (h : k < j) => @word_ne s j k h (by omega))
      generalize Mx.back (Mx.word s (j + 1)) = bj at *
      generalize hwj : Mx.word s (j + 1) = wj at *
      generalize Mx.seedAt s (j + 1) = t at *
      obtain rfl : bj = t := by omega
      generalize Mx.mul (j + 1) Mx.G = m at *
      have HAT := hide hat
      clear hat hpl
      have HWJ := hide hwj
      clear hwj
      go_wp2_with fail
      refine (CB.out _).mono ?_
      rintro e w8 ⟨rfl, rfl⟩
      clear CB
      obtain ⟨K, rfl⟩ : ∃ K, K = gk := ⟨_, rfl⟩
      go_wp2
      go_loopg [15] j (fun k i wr => ∃ i' : Nat, k + i' = j ∧ i = .int .i64 (i' : Int) ∧ Hid (w7.grownBy wr none))
      case atStart => exact ⟨0, by omega, rfl, hg⟩
      case round =>
        obtain ⟨i, hki, rfl, hg2⟩ := hrel
        by_cases hk2 : 0 < gk
        · have hi : (i : Int) < (j : Int) := by omega
          have hi0 : (0 : Int) ≤ (i : Int) := by omega
          have hin : (i : Int) < (n : Int) := by omega
          have hat := H6.out.1.grown hg2.out
          obtain ⟨a, ea, hcj2⟩ := hat j _ (Mx.words_get (by omega))
          cases ea
          rw [Addr.add_lit, Nat.zero_add, HWJ.out] at hcj2
          obtain ⟨a, ea, hci⟩ := hat i _ (Mx.words_get (by omega))
          cases ea
          rw [Addr.add_lit, Nat.zero_add] at hci
          have hne := HNE.out i (by omega)
          generalize Mx.word s (i + 1) = wi at *
          clear hat hcj
          go_wp2
          go_region_held3 (fun w' => w'.cell? ⟨g3, i, none⟩ = some (.int .u64 (wi : Int)) ∧ w'.cell? ⟨g3, j, none⟩ = some (.int .u64 (wj : Int))) (go_keep) (fail)
          go_wp2
          go_roundg (gk - 1)
          case measure => omega
          case rel => exact ⟨i + 1, by omega, by go_num, grown_trans hg2.out (grown_drew _ _)⟩
        · obtain rfl : i = j := by omega
          go_wp2
          go_roundg (K - 1)
          case measure => omega
          case rel => exact ⟨i + 1, by omega, by go_num, hg2⟩
    · obtain rfl : j = n := by omega
      have H7 := hide (And.intro (H6.out.1.grown hg.out) (grown_trans H6.out.2 hg.out))
      clear H6 hg
      by_cases hj0 : j = 0
      · subst hj0
        go_wp2_with fail
        refine (awake_any _).mono ?_
        rintro e w8 ⟨rfl, rfl⟩
        go_wp2
        go_ret
        exact ⟨rfl, H7.out.2⟩
      · obtain ⟨m, rfl⟩ : ∃ m, j = m + 1 := ⟨j - 1, by omega⟩
        have hpos : (0 : Int) < ((m + 1 : Nat) : Int) := by omega
        have hsg : IntKind.u64.wrap ((s : Int) + 11400714819323198485) = (((s + Mx.G) % 18446744073709551616 : Nat) : Int) := wrap_nat (s + 11400714819323198485)
        have hsl := Mx.m64 (s + Mx.G)
        have hD := Mx.words_drop s m
        have hsf := slice_from g3 (m + 1) (by omega)
        rw [show m + 1 - 1 = m from rfl] at hsf
        generalize (s + Mx.G) % 18446744073709551616 = s2 at *
        have hdec : IntKind.i64.wrap (((m + 1 : Nat) : Int) - 1) = (m : Int) := by rw [IntKind.wrap_i64]; omega
        have HD := hide hD
        clear hD
        go_wp2_with fail
        refine (words_any s2 m wr hsl (by omega)).mono ?_
        rintro e w9 ⟨g9, rfl, hr9, hb9, hg9⟩
        have H9 := hide (And.intro (H7.out.1.grown hg9) (And.intro (at_row hr9) (grown_trans H7.out.2 hg9)))
        clear hr9 hb9 hg9 H7
        go_wp2_with fail
        have hA := H9.out.1.cut
        rw [HD.out] at hA
        refine (same_eq _ _ m _ _ (Mx.words s2 m) w9 (Mx.words_length s2 m) H9.out.2.1 hA (by omega)).mono ?_
        rintro e w10 ⟨rfl, hg10⟩
        have H10 := hide (grown_trans H9.out.2.2 hg10)
        clear hg10 H9 hA HD
        go_wp2_with fail
        refine (awake_any _).mono ?_
        rintro e w11 ⟨rfl, rfl⟩
        go_wp2
        go_ret
        exact ⟨rfl, H10.out⟩
end Go.Proofs.Ytodonfdkegfmfaa
