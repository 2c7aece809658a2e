/- Fares: FaresAhead walked. -/
import Derived.Test.YtbebblhnhpdpjaaWa
import Derived.Deep.CutRange
import Derived.Deep.DeepCutAuto
namespace Go.Proofs.Ytbebblhnhpdpjaa
open Go.RowKit
attribute [local go_sem ↓] Go.wp_at_zero Go.wp_at_succ
attribute [local go_sem] run_store_float

theorem lf_spec (q : Nat) (ws : List Nat) (s : Nat) : ∀ f u, u ≤ lf q ws s f u ∧ lf q ws s f u ≤ u + f ∧ (∀ i, u < i → i ≤ lf q ws s f u → ¬ ad q (ws.getD (s - i) 0) < ws.getD (s - i + 1) 0) ∧ (lf q ws s f u < u + f → ad q (ws.getD (s - (lf q ws s f u + 1)) 0) < ws.getD (s - (lf q ws s f u + 1) + 1) 0) := by
  intro f
  induction f with
  | zero => intro u; exact ⟨Nat.le_refl _, Nat.le_refl _, fun i h1 h2 => absurd (show i ≤ u from h2) (by omega), fun h => absurd (show u < u + 0 from h) (by omega)⟩
  | succ f ih =>
    intro u
    unfold lf
    by_cases h : ad q (ws.getD (s - (u + 1)) 0) < ws.getD (s - (u + 1) + 1) 0
    · rw [if_pos h]
      exact ⟨Nat.le_refl _, by omega, fun i h1 h2 => absurd h2 (by omega), fun _ => h⟩
    · rw [if_neg h]
      obtain ⟨a, b, c, d⟩ := ih (u + 1)
      refine ⟨by omega, by omega, fun i h1 h2 => ?_, fun h3 => d (by omega)⟩
      by_cases e : i = u + 1
      · subst e; exact h
      · exact c i (by omega) h2
theorem okF_take {l : List Fa} : ∀ {hi : Nat} (j : Nat), okF hi l = true → okF hi (l.take j) = true := by
  induction l with
  | nil => intro hi j h; cases j <;> exact h
  | cons c l ih =>
    intro hi j h
    cases j with
    | zero => rfl
    | succ j =>
      unfold okF at h
      simp only [Bool.and_eq_true] at h
      show (within c.1 0 hi && chOk c.2 && okF c.1 (l.take j)) = true
      rw [h.1.1, h.1.2, ih j h.2]; rfl
theorem mayB_take {l : List Fa} {j : Nat} (h : mayB l = true) (h1 : 1 ≤ j) (hj : j ≤ l.length) : mayB (l.take j) = true := by
  obtain ⟨h16, -⟩ := mayB_good h
  have hl : (l.take j).length = j := by rw [List.length_take]; omega
  rw [mayB_mid (by omega)] at h ⊢
  exact okF_take j h
theorem cE_take {l : List Fa} {s : Nat} {j : Nat} (h : cE l (s : Int) = 0) (h1 : 1 ≤ j) (hj : j ≤ l.length) : cE (l.take j) (s : Int) = 0 := by
  obtain ⟨hm, s', hs, hs2⟩ := cE_zero h
  unfold cE
  rw [if_pos (mayB_take hm h1 hj), if_neg (by omega)]
theorem lm_take (s : Nat) (l : List Fa) {i j : Nat} (h : i < j) : lm s (l.take j) i = lm s l i := by
  unfold lm
  rw [List.take_take, Nat.min_eq_left (by omega)]
  congr 1
  rw [List.getD_eq_getElem?_getD, List.getD_eq_getElem?_getD, List.getElem?_take, if_pos h]
theorem lms_take (s : Nat) (l : List Fa) (j : Nat) : lms s (l.take j) j = lms s l j := by
  unfold lms
  apply List.map_congr_left
  intro i hi
  exact lm_take s l (by simpa using hi)
theorem lms_prefix (s : Nat) (l : List Fa) {i j : Nat} (h : i ≤ j) : (lms s l j).take i = lms s l i := by
  unfold lms
  rw [← List.map_take, List.take_range, Nat.min_eq_left h]
theorem lms_get (s : Nat) (l : List Fa) {i j : Nat} (h : i < j) : (lms s l j).getD i 0 = lm s l i := by
  unfold lms
  rw [List.getD_eq_getElem?_getD, List.getElem?_map, List.getElem?_range h]; rfl
theorem FasAt.take {w : World} {ao : Option Addr} {l : List Fa} (h : FasAt w ao l) (j : Nat) : FasAt w ao (l.take j) := by
  intro i c hi
  rw [List.getElem?_take] at hi
  split at hi
  · exact h i c hi
  · cases hi
theorem AtI.take_ {w : World} {ao : Option Addr} {xs : List Nat} (h : AtI w ao xs) (j : Nat) : AtI w ao (xs.take j) := by
  intro i u hi
  rw [List.getElem?_take] at hi
  split at hi
  · exact h i u hi
  · cases hi
theorem Sz.take {l : List Fa} (h : Sz l) (j : Nat) : Sz (l.take j) := by
  intro i c hi
  rw [List.getElem?_take] at hi
  split at hi
  · exact h i c hi
  · cases hi

/-- Fares, copied: where they lie. -/
theorem copied (ao : Option Addr) (cap n : Nat) (l : List Fa) (w : World) (hn : n = l.length) (hb : FasAt w ao l) (hs : n ≤ 4398046511104) (hz : Sz l) :
    Calls Try.prog 27 #[.slice ao n cap] w fun r w' => ∃ ao' cap', r = .returned (.slice ao' n cap') ∧ FasAt w' ao' l ∧ w.grownBy w' none := by
  refine (copyFares_any ao cap n l w hn hb hs hz).mono ?_
  rintro r w' ⟨o, pre, rfl, hm, hc, hg⟩
  obtain ⟨ao', cap', rfl, h1, -, -⟩ := hc.fares
  have hl : pre.length = n := by rw [hn, ← hm, List.length_map]
  exact ⟨ao', cap', by rw [hl], by rw [hm] at h1; exact h1, hg⟩

set_option maxRecDepth 100000 in
set_option maxHeartbeats 8000000 in
theorem faresAhead_any (ao : Option Addr) (cap n : Nat) (l : List Fa) (seats : Int) (w : World) (hn : n = l.length) (hb : FasAt w ao l) (hs : n ≤ 4398046511104) (hz : Sz l) (hcap : n ≤ cap) :
    Calls Try.prog 7 #[.slice ao n cap, .int .i64 seats] w fun e w' => e = .returned (.bool true) ∧ w.grownBy w' none := by
  have HB := hide hb
  have HN := hide hn
  have HZ := hide hz
  clear hb hn hz
  go_enter Try.func7, Try.ntmps7
  go_wp2_with fail
  refine (awake_any w).mono ?_
  rintro e w1 ⟨rfl, hg1⟩
  have HG1 := hide hg1
  have HB1 := hide (HB.out.grown hg1)
  clear hg1
  have HC1 := hide (copied ao cap n l w1 HN.out HB1.out hs HZ.out)
  go_wp2_with fail
  refine HC1.out.mono ?_
  rintro e w2 ⟨ao2, cap2, rfl, hf2, hg2⟩
  have HL := hide (limits_any w2 ao2 cap2 n l seats w2 HN.out hf2 (by omega) (grown_refl _ _))
  have HG2 := hide (grown_trans HG1.out hg2)
  clear hf2 hg2 HC1 HG1
  go_wp2_with fail
  refine HL.out.mono ?_
  rintro e w3 ⟨hv3, hg3⟩
  have HV3 := hide hv3
  have HG3 := hide (grown_trans HG2.out hg3)
  clear hg3 HL HG2
  obtain ⟨nv3, rfl⟩ : ∃ x : Value, e = .returned (.tuple #[x, .int .i64 (cE l seats)]) := by
    rcases hv3 with ⟨-, h⟩ | ⟨h0, s, x, -, -, h, -⟩
    · exact ⟨_, h⟩
    · exact ⟨x, by rw [h0]; exact h⟩
  clear hv3
  have HC3 := hide (copied ao cap n l w3 HN.out (HB.out.grown HG3.out) hs HZ.out)
  go_wp2_with fail
  refine HC3.out.mono ?_
  rintro e w4 ⟨ao4, cap4, rfl, hf4, hg4⟩
  have HL := hide (values_any w4 ao4 cap4 n l seats w4 HN.out hf4 (by omega) (grown_refl _ _))
  have HG34 := hide hg4
  clear hf4 hg4 HC3
  go_wp2_with fail
  refine HL.out.mono ?_
  rintro e w5 ⟨hv5, hg5⟩
  have HV5 := hide hv5
  have HG35 := hide (grown_trans HG34.out hg5)
  clear hg5 HL HG34
  obtain ⟨nv5, rfl⟩ : ∃ x : Value, e = .returned (.tuple #[x, .int .i64 (cE l seats)]) := by
    rcases hv5 with ⟨-, h⟩ | ⟨h0, s, x, -, -, h, -⟩
    · exact ⟨_, h⟩
    · exact ⟨_, by rw [h0]; exact h⟩
  clear hv5
  have HC5 := hide (copied ao cap n l w5 HN.out (HB.out.grown (grown_trans HG3.out HG35.out)) hs HZ.out)
  go_wp2_with fail
  refine HC5.out.mono ?_
  rintro e w6 ⟨ao6, cap6, rfl, hf6, hg6⟩
  have HL := hide (bid_any w6 ao6 cap6 n l seats w6 HN.out hf6 (by omega) (grown_refl _ _))
  have HG56 := hide hg6
  clear hf6 hg6 HC5
  go_wp2_with fail
  refine HL.out.mono ?_
  rintro e w7 ⟨rfl, hg7⟩
  have HG57 := hide (grown_trans HG56.out hg7)
  have HG7 := hide (grown_trans HG3.out (grown_trans HG35.out HG57.out))
  clear hg7 HL HG56
  by_cases hz : cE l seats = 0
  · obtain ⟨hm, s, hse, hs2⟩ := cE_zero hz
    subst hse
    obtain ⟨h16, hgd⟩ := mayB_good hm
    have HZ0 := hide hz
    have HGd := hide hgd
    have HBd := hide (bd_vs s hgd)
    have HM := hide hm
    have hn16 : 1 ≤ n ∧ n ≤ 16 := by have := HN.out; omega
    obtain ⟨g, cap3, rfl, HN7⟩ : ∃ g cap3, nv3 = .slice (some ⟨g, 0, none⟩) n cap3 ∧ Hid (AtI w7 (some ⟨g, 0, none⟩) (lms s l n) ∧ n ≤ cap3) := by
      rcases HV3.out with ⟨h, -⟩ | ⟨-, s', x, hs', -, h, hown⟩
      · exact absurd hz h
      · have hss : s' = s := by omega
        subst hss
        have hx : nv3 = x := by rw [hz] at h; simpa using h
        subst hx
        rw [← HN.out] at hown
        obtain ⟨ao3, cap3, rfl, -, r1, -, hat, -, hbl⟩ := ownI_at hown
        obtain ⟨a, rfl, -⟩ := hat.take (j := 0) (by rw [lms_length]; omega)
        obtain ⟨ea, -, -⟩ := hbl a rfl
        rw [ea] at hat ⊢
        exact ⟨a.block, cap3, rfl, (hat.grown HG35.out).grown HG57.out, r1⟩
    obtain ⟨bv, rfl, HV7⟩ : ∃ bv, nv5 = .slice (some ⟨bv, 0, none⟩) (s + 1) (s + 1) ∧ Hid (Fb w7 bv (vs s l)) := by
      rcases HV5.out with ⟨h, -⟩ | ⟨-, s', b, hs', -, h, hfb, -⟩
      · exact absurd hz h
      · have hss : s' = s := by omega
        subst hss
        exact ⟨b, by rw [hz] at h; simpa using h, hfb.kept HG57.out (by simp)⟩
    rw [hz]
    clear HV3 HV5 HG3 HG35 HG57 hgd hz
    have hc0 : w7.cell? ⟨g, 0, none⟩ = some (.int .i64 (s : Int)) := by
      obtain ⟨a, ha, h⟩ := HN7.out.1.take (j := 0) (by rw [lms_length]; omega)
      cases ha
      rw [lms_get s l (by omega), lm_first, Addr.add_lit] at h
      exact h
    have HR0 : Hid (s = 0 → bE l (s : Int) = 0) := hide (fun h => by subst h; unfold bE; rw [if_neg (by simp)])
    have HR1 : Hid (¬ s = 0 → bE l (s : Int) = sb ((vs s l).getD s 0) ((vs s l).getD (s - 1) 0)) := hide (fun h => by unfold bE; rw [if_pos ⟨HZ0.out, by omega⟩]; rfl)
    generalize bE l (s : Int) = r at *
    have hn0 : (0 : Int) < (n : Int) := by omega
    have hn1 : 0 < n := by omega
    have hwr : IntKind.i64.wrap ((s : Int) + 1) = (s : Int) + 1 := by rw [IntKind.wrap_i64]; omega
    go_upto_region 8 with fail
    go_cut [118] (fun s118 wx => s118 = .bool false ∧ Hid (w7.grownBy wx none))
    case first =>
      by_cases h0 : s = 0
      · have hord : FloatKind.f64.format.order r 0 = some .eq := by rw [HR0.out h0]; decide +kernel
        have hs0 : ¬ (0 : Int) < (s : Int) := by omega
        have hs00 : ((s : Int) == 0) = true := by simp; omega
        have hs2n : decide (0 < s) = false := by simp; omega
        have hs3n : (s == 0) = true := by simp; omega
        clear h0
        go_quiet (fail)
        go_wp2
        go_meet
        case rel => exact ⟨rfl, hide (grown_drewN _ _)⟩
      · have c1 := HV7.out.cell (j := s) (by rw [vs_length]; omega)
        have c2 := HV7.out.cell (j := s - 1) (by rw [vs_length]; omega)
        have hsb := run_sub (sb_eq (vs_fin s HM.out s) (vs_fin s HM.out (s - 1)))
        rw [← HR1.out h0] at hsb
        have hi1 : s - 1 < s + 1 := by omega
        have hs1 : IntKind.i64.wrap ((s : Int) - 1) = ((s - 1 : Nat) : Int) := by rw [IntKind.wrap_i64]; omega
        have hs0 : (0 : Int) < (s : Int) := by omega
        have hs00 : ((s : Int) == 0) = false := by simp; omega
        have hs2n : 0 < s := by omega
        have hs3n : (s == 0) = false := by simp; omega
        clear h0 HR0 HR1
        generalize (vs s l).getD s 0 = x at *
        generalize (vs s l).getD (s - 1) 0 = y at *
        generalize s - 1 = s1 at *
        go_quiet (exact Calls.quiet_of_same (bits_any r _))
        go_wp2
        go_meet
        case rel => exact ⟨rfl, hide (grown_drewN _ _)⟩
    case rest =>
      obtain ⟨rfl, HGc⟩ := hcut
      clear hc0
      by_cases h3 : 300 < s
      · have h3' : (300 : Int) < (s : Int) := by omega
        go_wp2
        go_ret
        exact ⟨rfl, grown_trans HG7.out HGc.out⟩
      · have h3' : (s : Int) ≤ 300 := by omega
        go_wp2
        go_loopg [11] (n - 1) (fun k i wr => ∃ j : Nat, k + j = n ∧ 1 ≤ j ∧ i = .int .i64 (j : Int) ∧ Hid (w7.grownBy wr none))
        case atStart => exact ⟨1, by omega, by omega, rfl, HGc⟩
        case round =>
          obtain ⟨j, hkj, hj1, rfl, HGr⟩ := hrel
          by_cases hgo : 0 < gk
          · have hj : j < n := by omega
            have hj2 : (j : Int) < (n : Int) := by omega
            have hjc : j ≤ cap := by omega
            have hjc2 : (j : Int) ≤ (cap : Int) := by omega
            obtain ⟨c, hc⟩ : ∃ c, l[j]? = some c := ⟨_, List.getElem?_eq_getElem (by have := HN.out; omega)⟩
            obtain ⟨p, cs⟩ := c
            obtain ⟨b, off, bo, bc, rfl, hfa⟩ := HB.out j (p, cs) hc
            have HFA := hide hfa
            have HGD := hide (HGd.out j _ hc)
            have HLM := hide (show lm s l j = lim (ru p) (vs s (l.take j)) s by unfold lm; rw [List.getD_eq_getElem?_getD, hc]; rfl)
            have htl : j = (l.take j).length := by rw [List.length_take]; have := HN.out; omega
            have HTL := hide htl
            have HGW := hide (grown_trans HG7.out HGr.out)
            have HCA := hide (copied (some ⟨b, off, none⟩) cap j (l.take j) wr htl ((HB.out.grown HGW.out).take j) (by omega) (HZ.out.take j))
            have HCEj := hide (cE_take HZ0.out hj1 (by have := HN.out; omega))
            clear hfa hc htl
            go_wp2_with fail
            refine HCA.out.mono ?_
            rintro e wa ⟨aoa, capa, rfl, hfa, hga⟩
            have HVj := hide (values_any wa aoa capa j (l.take j) (s : Int) wa HTL.out hfa (by omega) (grown_refl _ _))
            have HGa := hide (grown_trans HGr.out hga)
            clear hfa hga HCA
            go_wp2_with fail
            refine HVj.out.mono ?_
            rintro e wb ⟨hv, hgb⟩
            rcases hv with ⟨hne, -⟩ | ⟨-, s', bw, hs', -, rfl, hfw, -⟩
            · exact absurd HCEj.out hne
            have hss : s' = s := by omega
            subst hss
            have HFW := hide hfw
            have HGb := hide (grown_trans HGa.out hgb)
            clear hs' hfw hgb HVj HGa
            have HCA := hide (copied (some ⟨b, off, none⟩) cap j (l.take j) wb HTL.out ((HB.out.grown (grown_trans HG7.out HGb.out)).take j) (by omega) (HZ.out.take j))
            go_wp2_with fail
            refine HCA.out.mono ?_
            rintro e wc2 ⟨aoa, capa, rfl, hfa, hga⟩
            have HVj := hide (limits_any wc2 aoa capa j (l.take j) (s' : Int) wc2 HTL.out hfa (by omega) (grown_refl _ _))
            have HFWa := hide (HFW.out.kept hga (by simp))
            have HGa := hide (grown_trans HGb.out hga)
            clear hfa hga HCA HFW HGb
            go_wp2_with fail
            refine HVj.out.mono ?_
            rintro e wd ⟨hv, hgb⟩
            rcases hv with ⟨hne, -⟩ | ⟨-, s2, x, hs', -, rfl, hown⟩
            · exact absurd HCEj.out hne
            have hss : s2 = s' := by omega
            subst hss
            have HFWd := hide (HFWa.out.kept hgb (by simp))
            have HGd2 := hide (grown_trans HGa.out hgb)
            rw [← HTL.out, lms_take] at hown
            obtain ⟨aom, capm, rfl, -, -, -, hatm, -, -⟩ := ownI_at hown
            have HM2 := hide hatm
            have hatn := HN7.out.1.grown HGd2.out
            have hcn : wd.cell? ⟨g, j, none⟩ = some (.int .i64 ((lm s2 l j : Nat) : Int)) := by
              obtain ⟨a, ha, h⟩ := hatn.take (j := j) (by rw [lms_length]; exact hj)
              cases ha
              rw [lms_get s2 l hj, Addr.add_lit, Nat.zero_add] at h
              exact h
            have HNj := hide (show AtI wd (some ⟨g, 0, none⟩) (lms s2 l j) by have := hatn.take_ j; rwa [lms_prefix s2 l (by omega)] at this)
            obtain ⟨u, hu⟩ : ∃ u, u = lm s2 l j := ⟨_, rfl⟩
            rw [← hu] at hcn
            have hspec := lf_spec (ru p) (vs s2 (l.take j)) s2 s2 0
            have hul : u = lf (ru p) (vs s2 (l.take j)) s2 s2 0 := by rw [hu, HLM.out]; rfl
            rw [← hul] at hspec
            have hus : u ≤ s2 := by have := hspec.2.1; omega
            have HSP := hide (And.intro hspec.2.2.1 hspec.2.2.2)
            have hj3 : j ≤ cap3 := by have := HN7.out.2; omega
            clear hs' hown hgb hatm hatn hspec hul hu HVj HGa HFWa
            go_wp2_with fail
            refine (sameI_eq aom (some ⟨g, 0, none⟩) j capm cap3 (lms s2 l j) wd (by rw [lms_length]) HM2.out HNj.out (by omega)).mono ?_
            rintro e we ⟨rfl, hge⟩
            have hcn' := hge.cell hcn (by simp)
            have HFWe := hide (HFWd.out.kept hge (by simp))
            have HGe := hide (grown_trans HGd2.out hge)
            clear hcn hge HFWd HGd2 HM2 HNj
            have HCN := hide hcn'
            have hu0 : (0 : Int) ≤ (u : Int) := by omega
            have hu1 : (u : Int) ≤ (s2 : Int) := by omega
            generalize hog : gk = og at *
            go_wp2
            clear hcn'
            go_loopg [16] u (fun k i wr => ∃ i' : Nat, k + i' = u + 1 ∧ 1 ≤ i' ∧ i = .int .i64 (i' : Int) ∧ Hid (we.grownBy wr none))
            case atStart => exact ⟨1, by omega, by omega, rfl, hide (grown_refl _ _)⟩
            case round =>
              obtain ⟨i', hki, hi1, rfl, HGi⟩ := hrel
              have hcni := HGi.out.cell HCN.out (by simp)
              have HGall := hide (grown_trans HG7.out (grown_trans HGe.out HGi.out))
              have hprc := (HFA.out.grown HGall.out).c0
              have hfwi := HFWe.out.kept HGi.out (by simp)
              have hBdj := HBd.out j (by have := HN.out; omega)
              have hprj := HGD.out.pr
              dsimp only at hprj
              by_cases hgi : 0 < gk
              · have hi2 : i' ≤ u := by omega
                have hi3 : (i' : Int) ≤ (u : Int) := by omega
                have hx1 := hfwi.cell (j := s2 - i') (by rw [vs_length]; omega)
                have hx2 := hfwi.cell (j := s2 - i' + 1) (by rw [vs_length]; omega)
                have hw1 : IntKind.i64.wrap ((s2 : Int) - (i' : Int)) = ((s2 - i' : Nat) : Int) := by rw [IntKind.wrap_i64]; omega
                have hw2 : IntKind.i64.wrap (((s2 - i' : Nat) : Int) + 1) = ((s2 - i' + 1 : Nat) : Int) := by rw [IntKind.wrap_i64]; omega
                have hb1 : s2 - i' < s2 + 1 := by omega
                have hb2 : s2 - i' + 1 < s2 + 1 := by omega
                obtain ⟨hadd, hfin⟩ := pr_add (e := 48 + 9 * j) hprj (by omega) (hBdj (s2 - i'))
                have hadd' := run_add hadd
                have hlt := lss_low hfin (hBdj.fin (by omega) (s2 - i' + 1))
                rw [decide_eq_false (HSP.out.1 i' (by omega) hi2)] at hlt
                clear hadd hfin hfwi hBdj hprj
                generalize ad (ru p) ((vs s2 (l.take j)).getD (s2 - i') 0) = A at *
                generalize (vs s2 (l.take j)).getD (s2 - i' + 1) 0 = B at *
                generalize (vs s2 (l.take j)).getD (s2 - i') 0 = C at *
                generalize s2 - i' + 1 = x2 at *
                generalize s2 - i' = x1 at *
                go_wp2
                go_quiet (fail)
                go_wp2
                go_roundg (gk - 1)
                case measure => omega
                case rel => exact ⟨i' + 1, by omega, by omega, by go_num, hide (grown_trans HGi.out (grown_drewN _ _))⟩
              · have hi2 : i' = u + 1 := by omega
                have hi3 : ¬ (i' : Int) ≤ (u : Int) := by omega
                have hw0 : IntKind.i64.wrap ((u : Int) + 1) = (u : Int) + 1 := by rw [IntKind.wrap_i64]; omega
                by_cases hus2 : u + 1 ≤ s2
                · have hus3 : (u : Int) + 1 ≤ (s2 : Int) := by omega
                  have hx1 := hfwi.cell (j := s2 - (u + 1)) (by rw [vs_length]; omega)
                  have hx2 := hfwi.cell (j := s2 - (u + 1) + 1) (by rw [vs_length]; omega)
                  have hw1 : IntKind.i64.wrap ((s2 : Int) - ((u : Int) + 1)) = ((s2 - (u + 1) : Nat) : Int) := by rw [IntKind.wrap_i64]; omega
                  have hw2 : IntKind.i64.wrap (((s2 - (u + 1) : Nat) : Int) + 1) = ((s2 - (u + 1) + 1 : Nat) : Int) := by rw [IntKind.wrap_i64]; omega
                  have hb1 : s2 - (u + 1) < s2 + 1 := by omega
                  have hb2 : s2 - (u + 1) + 1 < s2 + 1 := by omega
                  obtain ⟨hadd, hfin⟩ := pr_add (e := 48 + 9 * j) hprj (by omega) (hBdj (s2 - (u + 1)))
                  have hadd' := run_add hadd
                  have hlt : FloatKind.f64.format.order (ad (ru p) ((vs s2 (l.take j)).getD (s2 - (u + 1)) 0)) ((vs s2 (l.take j)).getD (s2 - (u + 1) + 1) 0) = some .lt := by
                    rw [order_low hfin (hBdj.fin (by omega) (s2 - (u + 1) + 1)), lt_iff.2 (HSP.out.2 (by omega))]
                  clear hadd hfin hfwi hBdj hprj
                  generalize ad (ru p) ((vs s2 (l.take j)).getD (s2 - (u + 1)) 0) = A at *
                  generalize (vs s2 (l.take j)).getD (s2 - (u + 1) + 1) 0 = B at *
                  generalize (vs s2 (l.take j)).getD (s2 - (u + 1)) 0 = C at *
                  generalize s2 - (u + 1) + 1 = x2 at *
                  generalize s2 - (u + 1) = x1 at *
                  go_wp2
                  go_quiet (fail)
                  go_wp2
                  go_roundg (og - 1)
                  case measure => omega
                  case rel => exact ⟨j + 1, by omega, by omega, by go_num, hide (grown_trans HGe.out (grown_trans HGi.out (grown_drewN _ _)))⟩
                · have hus3 : decide ((u : Int) + 1 ≤ (s2 : Int)) = false := by simp; omega
                  have hus4 : decide (u < s2) = false := by simp; omega
                  have hus5 : decide ((u : Int) < (s2 : Int)) = false := by simp; omega
                  have hus6 : decide (u + 1 ≤ s2) = false := by simp; omega
                  clear hfwi hBdj hprj
                  go_wp2
                  go_quiet (fail)
                  go_wp2
                  go_roundg (og - 1)
                  case measure => omega
                  case rel => exact ⟨j + 1, by omega, by omega, by go_num, hide (grown_trans HGe.out (grown_trans HGi.out (grown_drewN _ _)))⟩
          · have hj : j = n := by omega
            have hj2 : ¬ (j : Int) < (n : Int) := by omega
            go_wp2
            go_ret
            exact ⟨rfl, grown_trans HG7.out HGr.out⟩
  · have hne : (cE l seats == 0) = false := by simpa using hz
    have hbE : bE l seats = 0 := by unfold bE; rw [if_neg (fun h => hz h.1)]
    rw [hbE]
    obtain rfl : nv3 = .slice none 0 0 := by
      rcases HV3.out with ⟨-, h⟩ | ⟨h0, -⟩
      · simpa using h
      · exact absurd h0 hz
    obtain rfl : nv5 = .slice none 0 0 := by
      rcases HV5.out with ⟨-, h⟩ | ⟨h0, -⟩
      · simpa using h
      · exact absurd h0 hz
    have hord : FloatKind.f64.format.order 0 0 = some .eq := by decide +kernel
    clear hz hbE HV3 HV5
    generalize cE l seats = ce at *
    go_wp2
    go_ret
    exact ⟨rfl, HG7.out⟩
end Go.Proofs.Ytbebblhnhpdpjaa
