/- The contract of Parse. -/
import Derived.Test.YtnjcajcjdfhinabDoorCd
namespace Go.Proofs.YtnjcajcjdfhinabDoor
open Go.RowKit Cn
attribute [local go_sem ↓] Go.wp_at_zero Go.wp_at_succ

theorem eight_of : ∀ l : List Nat, l.length = 8 → ∃ a0 a1 a2 a3 a4 a5 a6 a7, l = [a0, a1, a2, a3, a4, a5, a6, a7]
  | [a0, a1, a2, a3, a4, a5, a6, a7], _ => ⟨a0, a1, a2, a3, a4, a5, a6, a7, rfl⟩
/-- Eight cells lie there. -/
theorem keep8 {w w' : World} {g a0 a1 a2 a3 a4 a5 a6 a7 : Nat} (h : w.heap[g]? = some (.cells (cs [a0, a1, a2, a3, a4, a5, a6, a7]).toArray 33 (0, 0))) (hg : w.grownBy w' none) : w'.cell? ⟨g, 0, none⟩ = some (.int .u8 (a0 : Int)) ∧ w'.cell? ⟨g, 1, none⟩ = some (.int .u8 (a1 : Int)) ∧ w'.cell? ⟨g, 2, none⟩ = some (.int .u8 (a2 : Int)) ∧ w'.cell? ⟨g, 3, none⟩ = some (.int .u8 (a3 : Int)) ∧ w'.cell? ⟨g, 4, none⟩ = some (.int .u8 (a4 : Int)) ∧ w'.cell? ⟨g, 5, none⟩ = some (.int .u8 (a5 : Int)) ∧ w'.cell? ⟨g, 6, none⟩ = some (.int .u8 (a6 : Int)) ∧ w'.cell? ⟨g, 7, none⟩ = some (.int .u8 (a7 : Int)) := by
  have h2 := heap_kept h hg (by simp)
  exact ⟨cell_row h2 0, cell_row h2 1, cell_row h2 2, cell_row h2 3, cell_row h2 4, cell_row h2 5, cell_row h2 6, cell_row h2 7⟩
/-- What Parse tells, as a value. -/
def prsV (p : Nat × Nat × Nat) : Value := .tuple #[.int .u32 (p.1 : Int), .int .i64 (p.2.1 : Int), .int .i64 (p.2.2 : Int)]
section
attribute [local go_sem ↓] wp_load37 wp_store37
attribute [local go_sem] blkOf_ptr offOf_ptr isPtr_ptr
set_option maxRecDepth 100000 in
set_option maxHeartbeats 2000000 in
theorem parse_any (s : List UInt8) (hs : s.length ≤ 281474976710656) (w : World) (hT : Tab w) :
    Calls Tryd.prog 7 #[str s] w fun e w' => e = .returned (prsV (prs s)) ∧ w.grownBy w' none := by
  have HR := hide (read_any s hs w)
  have hz := size_str s
  have hp := pre_le s
  unfold str at *
  unfold arr at HR
  by_cases h1 : pre s < 8
  · have hv : prs s = (0, pre s, 150) := by unfold prs; rw [if_pos h1]
    rw [hv]
    unfold prsV
    simp only
    have hagg := cs_agg (pd s (pre s)) (pd_len s (pre s))
    have h2 : (pre s : Int) < 8 := by omega
    generalize pre s = P at *
    generalize (⟨s.toArray⟩ : ByteArray) = sb at *
    clear hv hz hp
    go_enter Tryd.func7, Tryd.ntmps7
    go_wp2_with fail
    refine HR.out.mono ?_
    rintro e w1 ⟨rfl, hg1⟩
    have hrk := row_new w1
    have hG := hide (grown_trans hg1 (laid_new w1 (pd s P)).2.2)
    clear hg1
    go_wp2
    go_ret3
    exact ⟨rfl, hG.out⟩
  · have hP : pre s = 8 := by omega
    rw [hP] at HR
    have hagg := cs_agg (pd s 8) (pd_len s 8)
    by_cases h2 : 8 < s.length
    · have hv : prs s = (0, 8, 150) := by unfold prs; rw [if_neg h1, if_pos h2]
      rw [hv]
      unfold prsV
      simp only
      have h3 : (8 : Int) < ((⟨s.toArray⟩ : ByteArray).size : Int) := by omega
      generalize (⟨s.toArray⟩ : ByteArray) = sb at *
      clear hv hz hp hP h1 h2
      go_enter Tryd.func7, Tryd.ntmps7
      go_wp2_with fail
      refine HR.out.mono ?_
      rintro e w1 ⟨rfl, hg1⟩
      have hrk := row_new w1
      have hG := hide (grown_trans hg1 (laid_new w1 (pd s 8)).2.2)
      clear hg1
      go_wp2
      go_ret3
      exact ⟨rfl, hG.out⟩
    · have hl8 : s.length = 8 := by omega
      have hpd := pd_wts hl8
      rw [hpd] at HR hagg
      have hlen : (wts s).length = 8 := by rw [← hpd, pd_len]
      have hlow : Low (wts s) := by rw [← hpd]; exact pd_low s 8
      have hsz : ¬ (8 : Int) < ((⟨s.toArray⟩ : ByteArray).size : Int) := by omega
      have hv : prs s = if 4294967295 < num 0 ((wts s).take 7) then (0, 0, 150) else if (wts s).getD 7 0 ≠ chk 0 ((wts s).take 7) then (0, 7, 150) else (num 0 ((wts s).take 7), 0, 0) := by
        unfold prs; rw [if_neg h1, if_neg h2]
      rw [hv]
      generalize (⟨s.toArray⟩ : ByteArray) = sb at *
      generalize wts s = l at *
      have HN := hide (number_any l hlen hlow)
      have HC := hide (check_any l hlen hlow)
      unfold arr at HN HC
      have hc7 : (cs l)[7]? = some (.int .u8 ((l.getD 7 0 : Nat) : Int)) := by
        rw [cs_get l (by omega), List.getD_eq_getElem?_getD, List.getElem?_eq_getElem (by omega)]; rfl
      have HL := hide (And.intro hlen (And.intro hc7 hT))
      generalize hc : chk 0 (l.take 7) = C at *
      have hCl : C < 32 := by rw [← hc]; exact chk_lt (by decide) (fun y hy => hlow y (List.mem_of_mem_take hy))
      have hz7 : l.getD 7 0 < 32 := by
        rw [List.getD_eq_getElem?_getD, List.getElem?_eq_getElem (by omega)]; exact hlow _ (List.getElem_mem _)
      generalize l.getD 7 0 = z at *
      generalize num 0 (l.take 7) = M at *
      obtain ⟨a0, a1, a2, a3, a4, a5, a6, a7, hla⟩ : ∃ a0 a1 a2 a3 a4 a5 a6 a7, l = [a0, a1, a2, a3, a4, a5, a6, a7] := eight_of l hlen
      have hza : z = a7 := by
        rw [hla] at hc7
        have : (.int .u8 (a7 : Int) : Value) = .int .u8 (z : Int) := Option.some.inj hc7
        injection this with _ h; omega
      subst hza
      have HE := hide hla
      have HCE := HC
      rw [hla] at HCE
      have HCE : Hid (∀ w, Tab w → Calls Tryd.prog 12 #[.agg #[.int .u8 (a0 : Int), .int .u8 (a1 : Int), .int .u8 (a2 : Int), .int .u8 (a3 : Int), .int .u8 (a4 : Int), .int .u8 (a5 : Int), .int .u8 (a6 : Int), .int .u8 (z : Int)]] w fun e w' => e = .returned (.int .u8 (C : Int)) ∧ w.grownBy w' none) := HCE
      clear hla
      clear hv hz hp hP h1 h2 hl8 hpd hlen hlow hc hc7 hT hs
      by_cases h4 : 4294967295 < M
      · rw [if_pos h4]
        unfold prsV
        simp only
        have h5 : (4294967295 : Int) < (M : Int) := by omega
        clear h4 hCl hz7
        go_enter Tryd.func7, Tryd.ntmps7
        go_wp2_with fail
        refine HR.out.mono ?_
        rintro e w1 ⟨rfl, hg1⟩
        have hrk := row_new w1
        have hl := laid_new w1 l
        have hrng := range_row hl.1 (by rw [cs_len]; exact HL.out.1)
        have hok := hrng.1
        have hof := hrng.2
        have hG := hide (And.intro (grown_trans hg1 hl.2.2) hl.1)
        clear hg1 hl hrng
        go_wp2_with fail
        refine (HN.out _).mono ?_
        rintro e w2 ⟨rfl, hg2⟩
        have hG2 := hide (grown_trans hG.out.1 hg2)
        clear hg2
        go_wp2
        go_ret3
        exact ⟨rfl, hG2.out⟩
      · rw [if_neg h4]
        have h5 : (M : Int) ≤ 4294967295 := by omega
        have h6 : ¬ (4294967295 : Int) < (M : Int) := by omega
        have hw : IntKind.u32.wrap (M : Int) = (M : Int) := by rw [wrap_u32]; omega
        by_cases h7 : z = C
        · subst h7
          rw [if_neg (by simp)]
          unfold prsV
          simp only
          clear h4
          go_enter Tryd.func7, Tryd.ntmps7
          go_wp2_with fail
          refine HR.out.mono ?_
          rintro e w1 ⟨rfl, hg1⟩
          have hrk := row_new w1
          have hl := laid_new w1 l
          have hrng := range_row hl.1 (by rw [cs_len]; exact HL.out.1)
          have hok := hrng.1
          have hof := hrng.2
          have hG := hide (And.intro (grown_trans hg1 hl.2.2) hl.1)
          clear hg1 hl hrng
          go_wp2_with fail
          refine (HN.out _).mono ?_
          rintro e w2 ⟨rfl, hg2⟩
          have hl2 := heap_kept hG.out.2 hg2 (by simp)
          have hrng := range_row hl2 (by rw [cs_len]; exact HL.out.1)
          have hok2 := hrng.1
          have hof2 := hrng.2
          have hcell := (cell_row hl2 7).trans HL.out.2.1
          have hG2 := hide (And.intro (grown_trans hG.out.1 hg2) hl2)
          clear hg2 hl2 hrng hok hof
          go_wp2
          have hcs := keep8 (by have := hG2.out.2; rwa [HE.out] at this) (grown_refl w2 _)
          go_region_held3 (fun w' => w'.cell? ⟨w1.heap.size, 0, none⟩ = some (.int .u8 (a0 : Int)) ∧ w'.cell? ⟨w1.heap.size, 1, none⟩ = some (.int .u8 (a1 : Int)) ∧ w'.cell? ⟨w1.heap.size, 2, none⟩ = some (.int .u8 (a2 : Int)) ∧ w'.cell? ⟨w1.heap.size, 3, none⟩ = some (.int .u8 (a3 : Int)) ∧ w'.cell? ⟨w1.heap.size, 4, none⟩ = some (.int .u8 (a4 : Int)) ∧ w'.cell? ⟨w1.heap.size, 5, none⟩ = some (.int .u8 (a5 : Int)) ∧ w'.cell? ⟨w1.heap.size, 6, none⟩ = some (.int .u8 (a6 : Int)) ∧ w'.cell? ⟨w1.heap.size, 7, none⟩ = some (.int .u8 (z : Int))) (first | exact hcs | assumption | go_keep) ((go_at_call 12; refine (HCE.out _ (HL.out.2.2.grown (grown_trans hG2.out.1 (grown_drewN _ _ _)))).mono ?_; rintro e w3 ⟨rfl, hw3⟩; have hk3 := keep8 (by have := hG2.out.2; rwa [HE.out] at this) (grown_trans (grown_drewN w2 _ _) hw3); have G3 := hide (grown_trans (grown_drewN w2 _ _) hw3); clear hw3))
          go_wp2
          go_ret3
          exact ⟨rfl, grown_trans hG2.out.1 G3.out⟩
        · rw [if_pos h7]
          have hne : ((z : Int) == (C : Int)) = false := by simp; omega
          have hne2 : ((z : Int) != (C : Int)) = true := by simp; omega
          have hne3 : decide ((z : Int) = (C : Int)) = false := by simp; omega
          clear h7
          unfold prsV
          simp only
          clear h4
          go_enter Tryd.func7, Tryd.ntmps7
          go_wp2_with fail
          refine HR.out.mono ?_
          rintro e w1 ⟨rfl, hg1⟩
          have hrk := row_new w1
          have hl := laid_new w1 l
          have hrng := range_row hl.1 (by rw [cs_len]; exact HL.out.1)
          have hok := hrng.1
          have hof := hrng.2
          have hG := hide (And.intro (grown_trans hg1 hl.2.2) hl.1)
          clear hg1 hl hrng
          go_wp2_with fail
          refine (HN.out _).mono ?_
          rintro e w2 ⟨rfl, hg2⟩
          have hl2 := heap_kept hG.out.2 hg2 (by simp)
          have hrng := range_row hl2 (by rw [cs_len]; exact HL.out.1)
          have hok2 := hrng.1
          have hof2 := hrng.2
          have hcell := (cell_row hl2 7).trans HL.out.2.1
          have hG2 := hide (And.intro (grown_trans hG.out.1 hg2) hl2)
          clear hg2 hl2 hrng hok hof
          go_wp2
          have hcs := keep8 (by have := hG2.out.2; rwa [HE.out] at this) (grown_refl w2 _)
          go_region_held3 (fun w' => w'.cell? ⟨w1.heap.size, 0, none⟩ = some (.int .u8 (a0 : Int)) ∧ w'.cell? ⟨w1.heap.size, 1, none⟩ = some (.int .u8 (a1 : Int)) ∧ w'.cell? ⟨w1.heap.size, 2, none⟩ = some (.int .u8 (a2 : Int)) ∧ w'.cell? ⟨w1.heap.size, 3, none⟩ = some (.int .u8 (a3 : Int)) ∧ w'.cell? ⟨w1.heap.size, 4, none⟩ = some (.int .u8 (a4 : Int)) ∧ w'.cell? ⟨w1.heap.size, 5, none⟩ = some (.int .u8 (a5 : Int)) ∧ w'.cell? ⟨w1.heap.size, 6, none⟩ = some (.int .u8 (a6 : Int)) ∧ w'.cell? ⟨w1.heap.size, 7, none⟩ = some (.int .u8 (z : Int))) (first | exact hcs | assumption | go_keep) ((go_at_call 12; refine (HCE.out _ (HL.out.2.2.grown (grown_trans hG2.out.1 (grown_drewN _ _ _)))).mono ?_; rintro e w3 ⟨rfl, hw3⟩; have hk3 := keep8 (by have := hG2.out.2; rwa [HE.out] at this) (grown_trans (grown_drewN w2 _ _) hw3); have G3 := hide (grown_trans (grown_drewN w2 _ _) hw3); clear hw3))
          go_wp2
          go_ret3
          exact ⟨rfl, grown_trans hG2.out.1 G3.out⟩
end
end Go.Proofs.YtnjcajcjdfhinabDoor
