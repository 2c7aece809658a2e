/- The contract of the document's Join. -/
import Derived.Test.YtfjpgmpffmpejaaDoorTurn
namespace Go.Proofs.YtfjpgmpffmpejaaDoor
open Go.RowKit
attribute [local go_sem ↓] Go.wp_at_zero Go.wp_at_succ

theorem wrap_i64_nat {q : Nat} (h : q < 9223372036854775808) : wrap64 (q : Int) = (q : Int) := by unfold wrap64; omega
theorem u32_mod (q : Nat) (h : q < 4294967296) : (q : Int) % 4294967296 = (q : Int) := by omega

section
attribute [local go_sem ↓] wp_load45 wp_store45
attribute [local go_sem] blkOf_ptr offOf_ptr isPtr_ptr
set_option maxRecDepth 100000 in
set_option maxHeartbeats 1000000 in
theorem rjoin_any (a b : Nat) (n : Int) (ha : a < 4294967296) (hb : b < 4294967296) (hn : n < 9223372036854775808) (hn0 : -9223372036854775808 ≤ n) (w : World) :
    Calls Tryd.prog 17 #[.int .u32 (a : Int), .int .u32 (b : Int), .int .i64 n] w fun e w' => e = .returned (.int .u32 ((joinN a b n : Nat) : Int)) ∧ w.grownBy w' none := by
  obtain ⟨J, hJ⟩ : ∃ J, J = joinN a b n := ⟨_, rfl⟩
  rw [← hJ]
  obtain ⟨M, hM⟩ : ∃ M, M = Poly.steps (8 * n.toNat) a := ⟨_, rfl⟩
  have hMl : M < 4294967296 := by rw [hM]; exact Poly.steps_lt _ ha
  have hx : bits .xor .u32 (M : Int) (b : Int) = (J : Int) := by rw [hJ, joinN, ← hM]; exact bits_xor_u32 M b hMl hb
  have HM := hide hM
  clear hM hJ
  obtain ⟨C8, hC8⟩ : ∃ C, C = turnC 8 := ⟨_, rfl⟩
  have H8 := hide hC8
  clear hC8
  go_enter Tryd.func17, Tryd.ntmps17
  go_wp2
  go_loopg [8] 32 (fun g i wr => ∃ (j : Nat), g + j = 32 ∧ i = .int .i64 j ∧ wr.heap[w.heap.size]? = some (.cells (mixC C8 j).toArray 45 (0, 0)) ∧ w.grownBy wr none)
  case atStart =>
    refine ⟨0, rfl, rfl, ?_, ?_⟩
    · rw [heap_alloc_new]; simp [mixC]
    · exact World.grownBy_alloc w _ none
  case round =>
    obtain ⟨j, hgj, rfl, hr0, hg⟩ := hrel
    by_cases hk : 0 < gk
    · have hj : j < 32 := by omega
      have hj1 : (j : Int) < 32 := by omega
      have hcu : wr.cell? ⟨w.heap.size, j, none⟩ = some (.int .u32 0) := by
        have h1 : (C8.take j).length = j := by rw [List.length_take, H8.out, turnC_length]; omega
        rw [cell_row hr0, mixC, List.getElem?_append_right (by omega), h1, Nat.sub_self, List.getElem?_replicate, if_pos (by omega)]
      have hfu : wr.frozen? ⟨w.heap.size, j, none⟩ = false := free_row hr0 _
      have hby : ∀ w, Calls Tryd.prog 26 #[.int .u32 ((2 : Int) ^ j % 4294967296), .int .u8 0] w fun e w' => e = .returned (.int .u32 ((Poly.steps 8 (2 ^ j) : Nat) : Int)) ∧ w' = w := fun w => by
        have h := rbyte_any (2 ^ j) 0 (pow_lt32 hj) (by decide) w
        rw [show Poly.byteStep (2 ^ j) 0 = Poly.steps 8 (2 ^ j) by rw [Poly.byteStep, Nat.xor_zero], show ((2 ^ j : Nat) : Int) = (2 : Int) ^ j % 4294967296 by rw [show (2 : Int) ^ j = ((2 ^ j : Nat) : Int) by simp]; exact (u32_mod _ (pow_lt32 hj)).symm] at h
        exact h
      have hset := mixC_set (by rw [H8.out]; exact turnC_length _) hj _ (show C8[j]? = some (.int .u32 ((Poly.steps 8 (2 ^ j) : Nat) : Int)) by rw [H8.out]; exact turnC_get _ j hj)
      have HS := hide hset
      have HB := hide hby
      have HR := hide (And.intro hr0 hg)
      generalize Poly.steps 8 (2 ^ j) = t at *
      clear hset hby hr0 hg
      go_wp2_with fail
      refine (HB.out _).mono ?_
      rintro e w2 ⟨rfl, rfl⟩
      go_wp2
      go_roundg (gk - 1)
      case measure => omega
      case rel =>
        obtain ⟨hr0, hg⟩ := HR.out
        refine ⟨j + 1, by omega, by go_num, ?_, ?_⟩
        · rw [← HS.out]; exact row_setCell hr0 j _
        · exact grown_then hg (grown_setCell _ _ _ _) (fun i e => by cases e; exact Or.inl (Nat.le_refl _))
    · have hj : j = 32 := by omega
      have hj1 : ¬ (j : Int) < 32 := by omega
      rw [hj, mixC_full (by rw [H8.out]; exact turnC_length _), H8.out] at hr0
      have HR := hide (And.intro hr0 hg)
      clear hr0 hg hj hgj H8
      go_wp2
      go_loopg [0, 2] n.toNat (fun g x p wr' => ∃ (x' k : Nat) (nn : Int), x = .int .u32 (x' : Int) ∧ p = .int .i64 nn ∧ g = nn.toNat ∧ nn < 9223372036854775808 ∧ -9223372036854775808 ≤ nn ∧ x' < 4294967296 ∧ Hid (Poly.steps (k * nn.toNat) x' = M ∧ wr'.heap[w.heap.size]? = some (.cells (turnC k).toArray 45 (0, 0)) ∧ w.grownBy wr' none))
      case atStart => exact ⟨a, 8, n, rfl, rfl, rfl, hn, hn0, ha, HM.out.symm, HR.out.1, HR.out.2⟩
      case round =>
        obtain ⟨x, k, nn, rfl, rfl, hgn, hn1, hn2, hx1, HI⟩ := hrel
        clear HM HR
        by_cases hpos : 0 < nn
        · obtain ⟨m, rfl⟩ : ∃ m : Nat, nn = (m : Int) := ⟨nn.toNat, by omega⟩
          have hm : gk = m := by omega
          subst hm
          obtain ⟨hI, hrow, hg⟩ := HI.out
          rw [Int.toNat_natCast] at hI
          have hrng := range_row hrow (turnC_length k)
          have hok := hrng.1
          have hagg : ∀ k, aggOk (.agg (turnC k).toArray) = true := fun k => by
            simp only [aggOk, Bool.and_eq_true, beq_iff_eq]
            exact ⟨by simp [turnC_length], turnC_one _⟩
          have hO := fun w => of_any k x hx1 w
          have hW := fun w => twice_any k w
          have hofC := hrng.2
          have hl2 := Poly.steps_lt k hx1
          obtain ⟨C, hC⟩ : ∃ C, C = turnC k := ⟨_, rfl⟩
          obtain ⟨C2, hC2⟩ : ∃ C, C = turnC (k + k) := ⟨_, rfl⟩
          have hagg2 : aggOk (.agg C2.toArray) = true := by rw [hC2]; exact hagg _
          have hl32 : C.length = 32 := by rw [hC]; exact turnC_length k
          rw [← hC] at hofC hrow hO hW
          rw [← hC2] at hW
          have HO := hide (And.intro hO hW)
          have HC := hide (And.intro hC hC2)
          have HQ := hide (And.intro hI (And.intro hrow (And.intro hg hl32)))
          clear hI hrow hg hrng hagg hO hW hC hC2 hl32 HI hgn
          have HSH : Hid (((gk : Int) / 2) = ((gk / 2 : Nat) : Int)) := by show ((gk : Int) / 2) = ((gk / 2 : Nat) : Int); omega
          have hgk : (0 : Int) < (gk : Int) := by omega
          by_cases hodd : gk % 2 = 1
          · have hrem : (gk : Int).tmod 2 = 1 := by rw [show (gk : Int).tmod 2 = ((gk % 2 : Nat) : Int) from rfl, hodd]; rfl
            have hrem2 : (gk : Int) % 2 = 1 := by omega
            have HOD := hide hodd
            have HN := hide (show gk < 9223372036854775808 by omega)
            clear hodd hn1 hn2
            go_wp2_with fail
            refine (HO.out.1 _).mono ?_
            rintro e w2 ⟨rfl, hg2⟩
            have hrow2 := kept_row (w0 := wr) HQ.out.2.1 rfl hg2
            have hrng2 := range_row hrow2 HQ.out.2.2.2
            have hok2 := hrng2.1
            have hof2 := hrng2.2
            have H2 := hide (And.intro hrow2 (grown_trans HQ.out.2.2.1 hg2))
            clear hrow2 hrng2 hg2 hok hofC
            go_wp2_with fail
            refine (HO.out.2 _).mono ?_
            rintro e w3 ⟨rfl, hg3⟩
            have hrow3 := kept_row (w0 := w2) H2.out.1 rfl hg3
            have hrk : rowOk w3 w.heap.size := ⟨_, _, hrow3, by simp [HQ.out.2.2.2]⟩
            have H3 := hide (And.intro hrow3 (grown_trans H2.out.2 hg3))
            clear hrow3 hg3 hok2 hof2
            go_wp2
            go_roundg (gk / 2)
            case measure => omega
            case rel =>
              obtain ⟨hrow3, hg3⟩ := H3.out
              have hrow4 := setRow_heap w3 w.heap.size _ C2.toArray 45 _ hrow3
              refine ⟨_, k + k, ((gk / 2 : Nat) : Int), rfl, by rw [HSH.out]; have hq : gk / 2 < 9223372036854775808 := (by have := HN.out; omega); exact congrArg _ (wrap_i64_nat hq), by omega, by have := HN.out; omega, by omega, hl2, ?_, by rw [← HC.out.2]; exact hrow4, ?_⟩
              · rw [Int.toNat_natCast, ← Poly.steps_add, ← HQ.out.1]
                congr 1
                have := HOD.out
                have e : gk = 2 * (gk / 2) + 1 := by omega
                conv => rhs; rw [e]
                rw [Nat.mul_add, Nat.mul_one, Nat.add_mul, ← Nat.mul_assoc, Nat.mul_comm k 2, Nat.two_mul, Nat.add_mul]
              · exact below_grown (below_setRow (grown_below hg3) (Nat.le_refl _) _)
          · have hrem : (gk : Int).tmod 2 = 0 := by rw [show (gk : Int).tmod 2 = ((gk % 2 : Nat) : Int) from rfl, show gk % 2 = 0 by omega]; rfl
            have hrem2 : (gk : Int) % 2 = 0 := by omega
            have HOD := hide hodd
            have HN := hide (show gk < 9223372036854775808 by omega)
            clear hodd hn1 hn2
            go_wp2_with fail
            refine (HO.out.2 _).mono ?_
            rintro e w3 ⟨rfl, hg3⟩
            have hrow3 := kept_row (w0 := wr) HQ.out.2.1 rfl hg3
            have hrk : rowOk w3 w.heap.size := ⟨_, _, hrow3, by simp [HQ.out.2.2.2]⟩
            have H3 := hide (And.intro hrow3 (grown_trans HQ.out.2.2.1 hg3))
            clear hrow3 hg3 hok hofC
            go_wp2
            go_roundg (gk / 2)
            case measure => omega
            case rel =>
              obtain ⟨hrow3, hg3⟩ := H3.out
              have hrow4 := setRow_heap w3 w.heap.size _ C2.toArray 45 _ hrow3
              refine ⟨x, k + k, ((gk / 2 : Nat) : Int), rfl, by rw [HSH.out]; have hq : gk / 2 < 9223372036854775808 := (by have := HN.out; omega); exact congrArg _ (wrap_i64_nat hq), by omega, by have := HN.out; omega, by omega, hx1, ?_, by rw [← HC.out.2]; exact hrow4, ?_⟩
              · rw [Int.toNat_natCast, ← HQ.out.1]
                congr 1
                have := HOD.out
                have e : gk = 2 * (gk / 2) := by omega
                conv => rhs; rw [e]
                rw [Nat.add_mul, ← Nat.mul_assoc, Nat.mul_comm k 2, Nat.two_mul, Nat.add_mul]
              · exact below_grown (below_setRow (grown_below hg3) (Nat.le_refl _) _)
        · have h1 := HI.out.1
          rw [show nn.toNat = 0 by omega, Nat.mul_zero] at h1
          have h2 : x = M := h1
          subst h2
          have HG := hide HI.out.2.2
          have hpos2 : nn ≤ 0 := by omega
          clear h1 HI hpos hgn hn2 hn0 hn hn1
          go_wp2
          go_ret
          exact ⟨rfl, HG.out⟩
end
end Go.Proofs.YtfjpgmpffmpejaaDoor
