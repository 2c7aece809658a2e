/- Texts joined: Pt. -/
import Derived.Test.YtnnmaknjhfjojaaDoorJqAg
/- As many seats as people, in no more runs than they must lie in. -/
namespace Go.Proofs.YtnnmaknjhfjojaaDoor
open Go.RowKit Cx Pn
attribute [local go_sem ↓] Go.wp_at_zero Go.wp_at_succ

theorem ni_nv (xs : List Nat) : (ni xs).map (Value.int .i64) = nv xs := by simp [ni, nv]
theorem seat_bad (R W k : Int) (ao : Option Addr) (n cap : Nat) (L : List Int) (p : Option Addr) (w : World) (hc : CbIn w ao n cap L) (ho : ¬ Ok R W L) :
    Calls Tryd.prog 10 #[cbV R W (.slice ao n cap), .pointer p, .int .i64 k] w fun e w' => e = .returned (.tuple #[.slice none 0 0, .int .i64 2]) ∧ w.grownBy w' none :=
  seat_err 2 R W k ao n cap p w (by omega) fun w' hg => runs_bad R W ao n cap L p w' (hc.grown hg) ho

/-- What a party is told, as a row and a number. -/
theorem seat_three {B : Nat} {P : List (Nat × Nat)} {k : Int} {e : Ending} {w' : World} (h : SeatP B P k e w') :
    ∃ so sn sc ec, e = .returned (.tuple #[.slice so sn sc, .int .i64 ec]) ∧ (((k < 1 ∨ 16 < k) ∧ sn = 0 ∧ ec = 270) ∨ (1 ≤ k ∧ k ≤ 16 ∧ ((P.map Prod.snd).sum : Int) < k ∧ sn = 0 ∧ ec = 6) ∨
      (∃ (n : Nat) (ps : List (Nat × Nat)), k = (n : Int) ∧ 1 ≤ n ∧ n ≤ 16 ∧ n ≤ (P.map Prod.snd).sum ∧ sn = n ∧ ec = 0 ∧ Gr P n ps ∧ ∃ g, so = some ⟨g, 0, none⟩ ∧ NRow w' g (srt P ps P.length))) := by
  rcases h with ⟨h, rfl⟩ | ⟨n, rfl, h3, h4, ⟨h5, rfl⟩ | ⟨h5, v, ps, rfl, hgr, hown⟩⟩
  · exact ⟨_, _, _, _, rfl, Or.inl ⟨h, rfl, rfl⟩⟩
  · exact ⟨_, _, _, _, rfl, Or.inr (Or.inl ⟨by omega, by omega, by omega, rfl, rfl⟩)⟩
  · rw [ni_nv] at hown
    obtain ⟨g, cap, rfl, -, hr⟩ := nrow_own hown (by omega)
    exact ⟨_, _, _, _, rfl, Or.inr (Or.inr ⟨n, ps, rfl, h3, h4, h5, rfl, rfl, hgr, g, rfl, hr⟩)⟩

set_option maxRecDepth 40000 in
set_option maxHeartbeats 8000000 in
theorem pfew_any (R W o : Int) (ao : Option Addr) (n cap : Nat) (L : List Int) (to : Option Addr) (m tc : Nat) (T : List Int) (kk : Int) (w : World) (hc : CbIn w ao n cap L) (ht : CbIn w to m tc T) (hT : Bt.Tab w) :
    Calls Tryd.prog 5 #[askV R W (.slice ao n cap) (.slice to m tc) o, .int .i64 kk] w fun e w' => e = .returned (.bool true) ∧ w.grownBy w' none := by
  have hG := grown_alloc w (.cells #[.int .i64 R, .int .i64 W, .slice ao n cap, .slice to m tc, .int .i64 o] 41)
  have hX := heap_alloc_new w (.cells #[.int .i64 R, .int .i64 W, .slice ao n cap, .slice to m tc, .int .i64 o] 41)
  have HA := hide (awake_any _ (Tab_grown hT hG))
  have HS := hide (fun w' (hg : w.grownBy w' none) => set_any R W 0 ao n cap L to m tc T w' (hc.grown hg) (ht.grown hg) (by have := Tab.pos hT; have := hg.size; omega))
  have HN := hide (fun w' (hg : w.grownBy w' none) => nseats_any R W ao n cap L w' (hc.grown hg))
  have HC := hide (fun w' (hg : w.grownBy w' none) => copyCabin_any R W ao n cap L w' (hc.grown hg))
  have H0 := hide (And.intro hc (And.intro ht (And.intro hT trivial)))
  have HX := hide (And.intro hG hX)
  clear hc ht hT hG hX
  unfold askV at *
  unfold cbV at *
  go_enter Tryd.func5, Tryd.ntmps5
  go_wp2_with fail
  refine HA.out.mono ?_
  rintro e w1 ⟨rfl, hg1⟩
  have hb1 := heap_kept HX.out.2 hg1 (by simp)
  have G1 := hide (grown_trans HX.out.1 hg1)
  have f4 := free_row hb1 4
  have hb2 : (w1.setCell ⟨w.heap.size, 4, none⟩ (.int .i64 0)).heap[w.heap.size]? = some (.cells #[.int .i64 R, .int .i64 W, .slice ao n cap, .slice to m tc, .int .i64 0] 41) := row_setCell (l := [.int .i64 R, .int .i64 W, .slice ao n cap, .slice to m tc, .int .i64 o]) hb1 4 _
  obtain ⟨b0, b1, b2, b3, b4⟩ := box5 hb1
  obtain ⟨c0, c1, c2, c3, c4⟩ := box5 hb2
  have G2 := hide (And.intro hb2 (grown_then G1.out (grown_setCell w1 w.heap.size 4 (.int .i64 0)) (fun k e => by cases e; exact Or.inl (Nat.le_refl _))))
  clear hb1 hb2 hg1
  go_wp2_with fail
  refine (HS.out _ G2.out.2).mono ?_
  rintro e w3 ⟨b, g, rfl, hset3, hb3, hg3, hgw3⟩
  have hsz2 := row_lt G2.out.1
  have e5 := box5 (heap_kept G2.out.1 hgw3 (by simp))
  obtain ⟨b0, b1, b2, b3, b4⟩ := e5
  have G3 := hide (And.intro hset3 (And.intro (show w.heap.size < b by omega) (And.intro (show w.heap.size < g by omega) (And.intro (heap_kept G2.out.1 hgw3 (by simp)) (grown_trans G2.out.2 hgw3)))))
  clear hset3 hb3 hg3 hgw3 c0 c1 c2 c3 c4 f4 hsz2
  go_wp2_with fail
  refine (HC.out _ G3.out.2.2.2.2).mono ?_
  rintro e w4 ⟨ao', cap', rfl, hc4, hg4⟩
  have G4 := hide (And.intro (Set_grown G3.out.1 hg4) (And.intro hc4 (And.intro (heap_kept G3.out.2.2.2.1 hg4 (by simp)) (grown_trans G3.out.2.2.2.2 hg4))))
  have hL := hide (tkL_len (bdN R W L 0) T)
  clear hg4 hc4 b0 b1 b2 b3 b4
  by_cases ho : Ok R W L
  · obtain ⟨r, c, rfl, rfl, hbd, hst, hM1, hM2⟩ := bd_ok ho
    rw [hbd] at G4 hL ⊢
    have HO := hide ho
    have hSL := hL.out
    have HS1 := hide (fun ao cap w' (h1 : CbIn w' ao n cap L) (h2 : Bt.SetAt w' b g _) (h3 : Bt.Tab w') => seat_ok r c ao n cap L b g _ kk w' h1 ho h2 h3 hSL)
    have hR := hide (runs_ok r c ao' n cap' L b g _ w4 G4.out.2.1 ho G4.out.1 (H0.out.2.2.1.kept G4.out.2.2.2 (by simp)) hSL)
    clear hbd hst ho G3 hL
    generalize tkL (r * c) T = S at *
    generalize hM : r * c = M at *
    clear hM
    go_wp2_with fail
    refine hR.out.mono ?_
    clear hR
    rintro e w5 ⟨v, rfl, hown, hg5⟩
    obtain ⟨N, hN⟩ : ∃ N, N = (dr (fr S) (bg c L) M).length := ⟨_, rfl⟩
    obtain ⟨vo, vc, rfl⟩ := span_form hown
    have hdl := dr_len (fr S) (bg c L) M
    rw [← hN] at hdl
    have H5 := hide (And.intro (Set_grown G4.out.1 hg5) (And.intro (heap_kept G4.out.2.2.1 hg5 (by simp)) (And.intro (grown_trans G4.out.2.2.2 hg5) hown)))
    rw [← hN]
    have HN' := hide hN
    have HSL := hide hSL
    clear hown hg5 hN hSL
    obtain ⟨b0, b1, b2, b3, b4⟩ := box5 H5.out.2.1
    go_wp2_with fail
    refine (HC.out _ H5.out.2.2.1).mono ?_
    rintro e w6 ⟨ao2, cap2, rfl, hc6, hg6⟩
    have hs6 := Set_grown H5.out.1 hg6
    have hse := hide (HS1.out ao2 cap2 w6 hc6 hs6 (H0.out.2.2.1.kept (grown_trans H5.out.2.2.1 hg6) (by simp)))
    have H6 := hide (And.intro (span_grown H5.out.2.2.2 hg6) (grown_trans H5.out.2.2.1 hg6))
    clear hg6 hc6 hs6 b0 b1 b2 b3 b4 HS1
    go_wp2_with fail
    refine hse.out.mono ?_
    clear hse
    rintro e w7 ⟨hsp, hg7⟩
    have H7 := hide (And.intro (span_grown H6.out.1 hg7) (grown_trans H6.out.2 hg7))
    clear hg7
    obtain ⟨so, sn, sc, ec, rfl, hcase⟩ := seat_three hsp
    have hsum : ((dr (fr S) (bg c L) M).map Prod.snd).sum ≤ M := by
      have h1 := dr_sum (fr S) (bg c L) M
      have h2 := fc_all S
      rw [HSL.out] at h2
      omega
    have HP := hide (And.intro (dr_ris (fr S) (bg c L) M) (fun (i : Nat) (p : Nat × Nat) (h : (dr (fr S) (bg c L) M)[i]? = some p) => dr_pos (List.mem_of_getElem? h)))
    clear hsp H5 H6
    generalize dr (fr S) (bg c L) M = P at *
    have HC3 := hide hcase
    have hs3 : sn ≤ 16 := by
      rcases hcase with ⟨-, h, -⟩ | ⟨-, -, -, h, -⟩ | ⟨n, ps, -, -, h, -, h2, -⟩ <;> omega
    clear hcase
    go_wp2
    go_loopg [12, 13] N (fun k f i wr => ∃ j : Nat, k + j = N ∧ i = .int .i64 (j : Int) ∧ f = .int .i64 ((sm P j : Nat) : Int) ∧ w7.grownBy wr none)
    case atStart => exact ⟨0, by omega, rfl, rfl, grown_refl _ _⟩
    case round =>
      obtain ⟨j, hkj, rfl, rfl, hgw⟩ := hrel
      have HG := hide hgw
      clear hgw
      by_cases hk : 0 < gk
      · obtain ⟨p, hp⟩ : ∃ p, P[j]? = some p := ⟨_, List.getElem?_eq_getElem (by rw [← HN'.out]; omega)⟩
        obtain ⟨g0, rfl, hsp0⟩ := span_some H7.out.1 hp
        obtain ⟨x0, x1⟩ := (hsp0.kept HG.out (by simp)).in_ j p hp
        have hst := sm_step hp
        have htop := sm_top P (j + 1) (by have := (List.getElem?_eq_some_iff.1 hp).1; omega)
        have h5 : (0 : Int) ≤ (j : Int) := by omega
        have h6 : (j : Int) < (N : Int) := by omega
        have h7 : (sm P j : Int) + (p.2 : Int) ≤ 1024 := by omega
        have h8 : (0 : Int) ≤ (sm P j : Int) := by omega
        have HST := hide hst
        obtain ⟨F, C⟩ := p
        simp only at x0 x1 h7 HST
        clear hp hsp0 hst htop
        generalize hq : sm P j = q at *
        have HQ := hide hq
        clear hq
        go_wp2
        go_roundg (gk - 1)
        case measure => omega
        case rel => exact ⟨j + 1, by omega, by go_num, by rw [HST.out]; go_num, HG.out⟩
      · have hj : j = N := by omega
        subst hj
        have hall : sm P j = (P.map Prod.snd).sum := by have := HN'.out; rw [this]; exact sm_all P
        rw [hall]
        obtain ⟨Z, hZ⟩ : ∃ Z, Z = (P.map Prod.snd).sum := ⟨_, rfl⟩
        have hcase := HC3.out
        rw [← hZ] at hcase hsum ⊢
        have HZ := hide hZ
        clear hall hZ
        rcases hcase with ⟨hk1 | hk1, rfl, rfl⟩ | ⟨h1, h2, h3, rfl, rfl⟩ | ⟨m', ps, rfl, h1, h2, h3, rfl, rfl, hgr, gs, rfl, hrow⟩
        · go_wp2
          go_ret
          exact ⟨rfl, grown_trans H7.out.2 HG.out⟩
        · go_wp2
          go_ret
          exact ⟨rfl, grown_trans H7.out.2 HG.out⟩
        · go_wp2
          go_ret
          exact ⟨by congr 2; simp; omega, grown_trans H7.out.2 HG.out⟩
        · have HR := hide (And.intro hgr (And.intro hrow hgr.sum))
          clear hgr hrow
          go_wp2
          have hYl := srt_len HP.out.1 HR.out.1
          have HY := hide hYl
          obtain ⟨wz, hwz⟩ : ∃ wz, wz = wr := ⟨_, rfl⟩
          rw [← hwz] at HG ⊢
          clear hwz hYl
          go_loopg [14, 15, 16] j (fun k us at_ i wx => ∃ i' : Nat, k + i' = j ∧ i = .int .i64 (i' : Int) ∧ us = .int .i64 ((usd ps i' : Nat) : Int) ∧ at_ = .int .i64 (((srt P ps i').length : Nat) : Int) ∧ w7.grownBy wx none)
          case atStart => exact ⟨0, by omega, rfl, rfl, rfl, HG.out⟩
          case round =>
            obtain ⟨i, hki, rfl, rfl, rfl, hgw⟩ := hrel
            have HA1 := hide hgw
            clear hgw
            by_cases hk2 : 0 < gk
            · obtain ⟨p, hp⟩ : ∃ p, P[i]? = some p := ⟨_, List.getElem?_eq_getElem (by rw [← HN'.out]; omega)⟩
              have hiP := (List.getElem?_eq_some_iff.1 hp).1
              obtain ⟨g0, rfl, hsp0⟩ := span_some H7.out.1 hp
              have hpb := HP.out.2 i p hp
              have htk := tk_le HR.out.1 i
              rw [getD_of hp] at htk
              have hul := usd_le ps i
              have hus : usd ps (i + 1) = usd ps i + (if 0 < tk ps i then 1 else 0) := rfl
              have hsl := srt_step_len P ps i
              have hle := srt_len_le P ps (show i ≤ P.length by omega)
              have hat := fun mm (hm : mm < tk ps i) => srt_at (P := P) hiP hm
              rw [getD_of hp] at hat
              have hbe := fun x hx => srt_behind (ps := ps) HP.out.1 (x := x) hiP hx
              rw [getD_of hp, hsl] at hbe
              have HL := hide (And.intro hus (And.intro hsl (And.intro hat (And.intro hbe (And.intro hp hsp0)))))
              obtain ⟨F, C⟩ := p
              simp only at hpb htk
              have hi0 : (0 : Int) ≤ (i : Int) := by omega
              have hi1 : (i : Int) < (j : Int) := by omega
              obtain ⟨ok, hok⟩ : ∃ ok, ok = gk := ⟨_, rfl⟩
              rw [HY.out] at hle
              clear hus hsl hat hbe hp hsp0 hiP
              generalize hU : usd ps i = U at *
              generalize hB0 : (srt P ps i).length = B0 at *
              generalize hT9 : tk ps i = T9 at *
              have HU := hide (And.intro hU (And.intro hB0 hT9))
              clear hU hB0 hT9
              go_wp2
              go_loopg [15, 17] T9 (fun k at_ mi wx => ∃ t z : Nat, k + t = T9 ∧ z = B0 + t ∧ mi = .int .i64 (t : Int) ∧ at_ = .int .i64 (z : Int) ∧ w7.grownBy wx none)
              case atStart => exact ⟨0, B0, by omega, by omega, rfl, rfl, HA1.out⟩
              case round =>
                obtain ⟨t, z, hkt, hz, rfl, rfl, hgw⟩ := hrel
                have HA2 := hide hgw
                obtain ⟨x0, x1⟩ := (HL.out.2.2.2.2.2.kept hgw (by simp)).in_ i (F, C) HL.out.2.2.2.2.1
                simp only at x0 x1
                have hrow := HR.out.2.1.kept hgw (by simp)
                obtain ⟨F1, hF1⟩ : ∃ F1 : Int, F1 = (F : Int) := ⟨_, rfl⟩
                obtain ⟨C1, hC1⟩ : ∃ C1 : Int, C1 = (C : Int) := ⟨_, rfl⟩
                rw [← hF1] at x0
                rw [← hC1] at x1
                obtain ⟨E2, hE2⟩ : ∃ E2 : Int, E2 = F1 + C1 := ⟨_, rfl⟩
                have hw2 : IntKind.i64.wrap (F1 + C1) = E2 := by rw [IntKind.wrap_i64]; omega
                have hz0 : (0 : Int) ≤ (z : Int) := by omega
                clear hgw
                by_cases hk3 : 0 < gk
                · have hy := HL.out.2.2.1 t (by omega)
                  rw [← hz] at hy
                  have hzl : z < sn := by have := (List.getElem?_eq_some_iff.1 hy).1; rw [HY.out] at this; exact this
                  have hyc := hrow.cell hy
                  obtain ⟨Y1, hY1⟩ : ∃ Y1 : Int, Y1 = ((F + t : Nat) : Int) := ⟨_, rfl⟩
                  rw [← hY1] at hyc
                  have hz1 : (z : Int) < (sn : Int) := by omega
                  have d0 : decide (z < sn) = true := by simp; omega
                  have k5 : decide (Y1 < E2) = true := by simp; omega
                  have hw3 : IntKind.i64.wrap (F1 + (t : Int)) = Y1 := by rw [IntKind.wrap_i64]; omega
                  have HZ1 := hide (And.intro hz (And.intro hF1 (And.intro hC1 (And.intro hE2 hY1))))
                  clear hz hF1 hC1 hE2 hY1 hy hrow hzl
                  go_wp2
                  go_quiet (fail)
                  go_wp2
                  go_quiet (fail)
                  go_wp2
                  go_roundg (gk - 1)
                  case measure => omega
                  case rel => exact ⟨t + 1, z + 1, by omega, by have := HZ1.out.1; omega, by go_num, by go_num, grown_trans HA2.out (grown_drewN _ _ _)⟩
                · have ht : t = T9 := by omega
                  have hfin : ((usd ps (i + 1) : Nat) : Int) = (U : Int) + (if 0 < t then 1 else 0) := by
                    have h := HL.out.1
                    rw [← ht] at h
                    by_cases h0 : 0 < t
                    · rw [if_pos h0] at h ⊢
                      rw [h]; simp
                    · rw [if_neg h0] at h ⊢
                      rw [h]; simp
                  have hfin2 : (srt P ps (i + 1)).length = z := by have := HL.out.2.1; omega
                  have HF := hide (And.intro hfin hfin2)
                  clear hfin hfin2
                  have hz' : (z < sn ∧ ∃ X1 : Int, _root_.id (wr.cell? ⟨gs, z, none⟩ = some (.int .i64 X1)) ∧ ¬ X1 < E2) ∨ sn ≤ z := by
                    rcases Nat.lt_or_ge z sn with h | h
                    · have hlt : z < (srt P ps P.length).length := by rw [HY.out]; exact h
                      have hx := HL.out.2.2.2.1 _ (by rw [← ht, ← hz]; exact List.getElem?_eq_getElem hlt)
                      exact Or.inl ⟨h, _, hrow.cell (List.getElem?_eq_getElem hlt), by omega⟩
                    · exact Or.inr h
                  clear hF1 hC1 hE2 hrow
                  rcases hz' with ⟨hzl, X1, hyc, hx⟩ | hzl
                  · have hyc : wr.cell? ⟨gs, z, none⟩ = some (.int .i64 X1) := hyc
                    have hz1 : (z : Int) < (sn : Int) := by omega
                    have d0 : decide (z < sn) = true := by simp; omega
                    have k5 : decide (X1 < E2) = false := by simp; omega
                    have HZ1 := hide hz
                    clear hz hx hzl
                    rcases Nat.eq_zero_or_pos t with e | e
                    · have d1 : decide (0 < t) = false := by simp; omega
                      have HE := hide e
                      clear ht hkt hk3
                      subst e
                      go_wp2
                      go_quiet (fail)
                      go_wp2
                      go_roundg (ok - 1)
                      case measure => omega
                      case rel =>
                        obtain ⟨f1, f2⟩ := HF.out
                        exact ⟨i + 1, by omega, by go_num, by first | (rw [f1]; done) | (rw [f1]; go_num), by rw [f2], grown_trans HA2.out (grown_drewN _ _ _)⟩
                    · have e2 : (0 : Int) < (t : Int) := by omega
                      go_wp2
                      go_quiet (fail)
                      go_wp2
                      go_roundg (ok - 1)
                      case measure => omega
                      case rel =>
                        obtain ⟨f1, f2⟩ := HF.out
                        rw [if_pos e] at f1
                        exact ⟨i + 1, by omega, by go_num, by first | (rw [f1]; done) | (rw [f1]; go_num), by rw [f2], grown_trans HA2.out (grown_drewN _ _ _)⟩
                  · have d0 : decide (z < sn) = false := by simp; omega
                    have HZ1 := hide hz
                    clear hz hzl
                    rcases Nat.eq_zero_or_pos t with e | e
                    · clear ht hkt hk3
                      subst e
                      go_wp2
                      go_quiet (fail)
                      go_wp2
                      go_roundg (ok - 1)
                      case measure => omega
                      case rel =>
                        obtain ⟨f1, f2⟩ := HF.out
                        exact ⟨i + 1, by omega, by go_num, by first | (rw [f1]; done) | (rw [f1]; go_num), by rw [f2], grown_trans HA2.out (grown_drewN _ _ _)⟩
                    · have e2 : (0 : Int) < (t : Int) := by omega
                      go_wp2
                      go_quiet (fail)
                      go_wp2
                      go_roundg (ok - 1)
                      case measure => omega
                      case rel =>
                        obtain ⟨f1, f2⟩ := HF.out
                        rw [if_pos e] at f1
                        exact ⟨i + 1, by omega, by go_num, by first | (rw [f1]; done) | (rw [f1]; go_num), by rw [f2], grown_trans HA2.out (grown_drewN _ _ _)⟩
            · have hi : i = j := by omega
              subst hi
              have hU9 : usd ps i = ps.length := by have := usd_all HR.out.1; rw [← HN'.out] at this; exact this
              have hB9 : (srt P ps i).length = sn := by have := HY.out; rw [← HN'.out] at this; exact this
              rw [hU9, hB9]
              obtain ⟨wy, hwy⟩ : ∃ wy, wy = wr := ⟨_, rfl⟩
              rw [← hwy] at HA1 ⊢
              clear hwy hU9 hB9
              have hmk := make_cap i (by omega) wy
              have hl9 : ps.length ≤ 16 := by
                have h1 := HR.out.1.sum
                have h2 : ps.length ≤ (ps.map Prod.snd).sum := gr_len HR.out.1
                omega
              obtain ⟨q, hq⟩ : ∃ q, q = ps.length := ⟨_, rfl⟩
              rw [← hq] at hl9 ⊢
              have HQ := hide hq
              clear hq
              go_wp2
              have hmade := World.ownsRow_made (base := wy.heap.size) (e := 3) (size := 1) wy (List.replicate i (Value.int .i64 0)).toArray i (by simp) (by unfold maxLen; omega) (by simp)
              have hga := grown_alloc wy (.cells (List.replicate i (Value.int .i64 0)).toArray 3)
              have HM := hide (And.intro hmade hga)
              clear hmade hga hmk
              go_loopg [18, 19] i (fun k v x wx => ∃ t : Nat, k + t = i ∧ x = .int .i64 (t : Int) ∧ wx.ownsRow wy.heap.size 3 1 v t ((ni ((P.take t).map Prod.snd)).map (Value.int .i64)) ∧ wy.grownBy wx none)
              case atStart => exact ⟨0, by omega, rfl, by simpa [ni] using HM.out.1, HM.out.2⟩
              case round =>
                obtain ⟨t, hkt, rfl, hown, hgw⟩ := hrel
                have HV := hide (And.intro hown hgw)
                by_cases hk3 : 0 < gk
                · obtain ⟨p, hp⟩ : ∃ p, P[t]? = some p := ⟨_, List.getElem?_eq_getElem (by rw [← HN'.out]; omega)⟩
                  obtain ⟨g0, rfl, hsp0⟩ := span_some H7.out.1 hp
                  obtain ⟨x0, x1⟩ := (hsp0.kept (grown_trans HA1.out hgw) (by simp)).in_ t p hp
                  have hcs := cs_snoc hp
                  have hi0 : (0 : Int) ≤ (t : Int) := by omega
                  have hi1 : (t : Int) < (i : Int) := by omega
                  obtain ⟨F, C⟩ := p
                  simp only at x0 x1
                  have HCS := hide hcs
                  clear hp hsp0 hown hgw hcs
                  go_wp2_with (at_builtin; refine wpList_append_at rfl (.tmp 168) (.tmp 174) rfl wy.heap.size _ t _ rfl (own_grown HV.out.1 (grown_alloc wr _)) (some ⟨wr.heap.size, 0, none⟩) 1 1 [(C : Int)] rfl rfl (at_new1 wr _) (fun e => by cases e) (by omega) ?_ ?_)
                  · have := HV.out.2.size; omega
                  · intro v' w' hown' hg'
                    have ha := grown_alloc wr (.cells #[.int .i64 (C : Int)] 3)
                    have hlo := fun k (e : _ = some k) => (HV.out.1.lt k e).1
                    have hgw' := grown_then (grown_trans HV.out.2 ha) hg' (fun k e => Or.inl (by have := hlo _ e; omega))
                    have HZ4 := hide (And.intro hown' hgw')
                    clear hown' hgw' hlo ha hg'
                    go_wp2
                    go_roundg (gk - 1)
                    case measure => omega
                    case rel =>
                      refine ⟨t + 1, by omega, by go_num, ?_, HZ4.out.2⟩
                      have h5 := HZ4.out.1
                      rw [HCS.out, show ∀ (a : List Nat) (b : Nat), ni (a ++ [b]) = ni a ++ [(b : Int)] from fun a b => by simp [ni], List.map_append]
                      simpa using h5
                · have ht : t = i := by omega
                  subst ht
                  have hall : (P.take t).map Prod.snd = P.map Prod.snd := by rw [HN'.out, List.take_length]
                  rw [hall, ni_nv] at hown
                  have hNp : 0 < t := by
                    have h1 := HR.out.1.sum
                    rcases Nat.eq_zero_or_pos t with e | e
                    · exfalso
                      have h2 : P = [] := List.eq_nil_of_length_eq_zero (by rw [← HN'.out]; exact e)
                      have h3 := HZ.out
                      rw [h2] at h3
                      simp at h3; omega
                    · exact e
                  obtain ⟨gl, cl, rfl, hgl, hrow⟩ := nrow_own hown hNp
                  clear hown hall
                  have HV2 := hide (And.intro hrow hgw)
                  obtain ⟨wx, hwx⟩ : ∃ wx, wx = wr := ⟨_, rfl⟩
                  rw [← hwx] at HV2 ⊢
                  clear hwx hrow hgw HV
                  go_wp2
                  have hgr0 := HR.out.1
                  have hPb := HP.out.2
                  have hNP := HN'.out
                  have HE0 := hide (And.intro hgr0 (And.intro hPb hNP))
                  clear hgr0 hPb hNP
                  go_loopg [20, 21] q (fun k mu ro wv => ∃ (mu' ro' : Nat) (P' : List (Nat × Nat)), mu = .int .i64 (mu' : Int) ∧ ro = .int .i64 (ro' : Int) ∧ k + mu' = q ∧ ((ro' < sn ∧ ∃ qs, Gr P' (sn - ro') qs ∧ qs.length = k) ∨ (sn ≤ ro' ∧ k = 0)) ∧ ro' ≤ 2000 ∧ P'.length = t ∧ (∀ (i : Nat) (p : Nat × Nat), P'[i]? = some p → p.2 ≤ 1024) ∧ NRow wv gl (P'.map Prod.snd) ∧ wy.grownBy wv none)
                  case atStart =>
                    exact ⟨0, 0, P, rfl, rfl, by omega, Or.inl ⟨by omega, ps, by rw [Nat.sub_zero]; exact HE0.out.1, HQ.out.symm⟩, by omega, HE0.out.2.2.symm, fun i p h => by have := HE0.out.2.1 i p h; omega, HV2.out.1, HV2.out.2⟩
                  case round =>
                    obtain ⟨mu, ro, P', rfl, rfl, hkm, hst, hro, hPl, hPs, hrow, hgw⟩ := hrel
                    have HB := hide (And.intro hrow (And.intro hgw (And.intro hPl hPs)))
                    rcases hst with ⟨hlt, qs, hgr, hqs⟩ | ⟨hge, hk0⟩
                    · have hpos : 0 < qs.length := by
                        rcases Nat.eq_zero_or_pos qs.length with e | e
                        · have := List.eq_nil_of_length_eq_zero e
                          have h8 := hgr.sum
                          rw [this] at h8; simp at h8; omega
                        · exact e
                      have HGr := hide (And.intro hgr (And.intro hqs hpos))
                      clear hpos
                      have hlt' : (ro : Int) < (sn : Int) := by omega
                      obtain ⟨ok, hok⟩ : ∃ ok, ok = gk := ⟨_, rfl⟩
                      clear hrow hgw hgr hqs hPl hPs
                      go_wp2
                      obtain ⟨wu, hwu⟩ : ∃ wu, wu = wr := ⟨_, rfl⟩
                      rw [← hwu] at HB ⊢
                      clear hwu
                      go_loopg [22, 23] (t - 1) (fun k be x wv => ∃ be' x' : Nat, k + x' = t ∧ x = .int .i64 (x' : Int) ∧ be = .int .i64 (be' : Int) ∧ 1 ≤ x' ∧ be' < x' ∧ Mxp (P'.map Prod.snd) be' x' ∧ wu.grownBy wv none)
                      case atStart => exact ⟨0, 1, by omega, rfl, rfl, by omega, by omega, Mxp.one (by rw [List.length_map, HB.out.2.2.1]; omega), grown_refl _ _⟩
                      case round =>
                        obtain ⟨be, x, hkx, rfl, rfl, hx1, hbx, hmx, hgw⟩ := hrel
                        have hrow := HB.out.1.kept hgw (by simp)
                        have HM5 := hide (And.intro hmx hgw)
                        clear hmx hgw
                        by_cases hk5 : 0 < gk
                        · obtain ⟨c1, hc1⟩ : ∃ c1, (P'.map Prod.snd)[be]? = some c1 := ⟨_, List.getElem?_eq_getElem (by rw [List.length_map, HB.out.2.2.1]; omega)⟩
                          obtain ⟨c2, hc2⟩ : ∃ c2, (P'.map Prod.snd)[x]? = some c2 := ⟨_, List.getElem?_eq_getElem (by rw [List.length_map, HB.out.2.2.1]; omega)⟩
                          have z1 := hrow.cell hc1
                          have z2 := hrow.cell hc2
                          obtain ⟨D1, hD1⟩ : ∃ D1 : Int, D1 = (c1 : Int) := ⟨_, rfl⟩
                          obtain ⟨D2, hD2⟩ : ∃ D2 : Int, D2 = (c2 : Int) := ⟨_, rfl⟩
                          rw [← hD1] at z1
                          rw [← hD2] at z2
                          have q1 : (0 : Int) ≤ (be : Int) := by omega
                          have q2 : (be : Int) < (t : Int) := by omega
                          have q3 : (0 : Int) ≤ (x : Int) := by omega
                          have q4 : (x : Int) < (t : Int) := by omega
                          have HC5 := hide (And.intro hc1 (And.intro hc2 (And.intro hD1 hD2)))
                          by_cases hd : c1 < c2
                          · have d9 : decide (D1 < D2) = true := by simp; omega
                            have HD := hide hd
                            clear hc1 hc2 hD1 hD2 hrow hd
                            go_wp2
                            go_quiet (fail)
                            go_wp2
                            go_roundg (gk - 1)
                            case measure => omega
                            case rel => exact ⟨x, x + 1, by omega, by go_num, rfl, by omega, by omega, HM5.out.1.up HC5.out.1 HC5.out.2.1 HD.out, grown_trans HM5.out.2 (grown_drewN _ _ _)⟩
                          · have d9 : decide (D1 < D2) = false := by simp; omega
                            have HD := hide hd
                            clear hc1 hc2 hD1 hD2 hrow hd
                            go_wp2
                            go_quiet (fail)
                            go_wp2
                            go_roundg (gk - 1)
                            case measure => omega
                            case rel => exact ⟨be, x + 1, by omega, by go_num, rfl, by omega, by omega, HM5.out.1.stay hbx HC5.out.1 HC5.out.2.1 HD.out, grown_trans HM5.out.2 (grown_drewN _ _ _)⟩
                        · have hx : x = t := by omega
                          have hMx : Mx (P'.map Prod.snd) be := by
                            have := HM5.out.1
                            rw [hx, show t = (P'.map Prod.snd).length by rw [List.length_map, HB.out.2.2.1]] at this
                            exact this.all
                          obtain ⟨c1, hc1⟩ : ∃ c1, (P'.map Prod.snd)[be]? = some c1 := ⟨_, List.getElem?_eq_getElem (by rw [List.length_map, HB.out.2.2.1]; omega)⟩
                          obtain ⟨p1, hp1, hp2⟩ : ∃ p1, P'[be]? = some p1 ∧ p1.2 = c1 := by
                            rw [List.getElem?_map] at hc1
                            cases hr : P'[be]? with
                            | none => rw [hr] at hc1; cases hc1
                            | some r => rw [hr] at hc1; exact ⟨r, rfl, Option.some.inj hc1⟩
                          have hcb : c1 ≤ 1024 := by have := HB.out.2.2.2 be p1 hp1; omega
                          have hstep := must_step HGr.out.1 (by omega) hMx hc1
                          have z1 := hrow.cell hc1
                          have z2 := hrow.free be
                          have q1 : (0 : Int) ≤ (be : Int) := by omega
                          have q2 : (be : Int) < (t : Int) := by omega
                          have q5 : ¬ (x : Int) < (t : Int) := by omega
                          have hset := hrow.set be 0
                          have hgs := grown_then (grown_trans HB.out.2.1 HM5.out.2) (grown_setCell wr gl be (.int .i64 ((0 : Nat) : Int))) (fun k e => by cases e; exact Or.inl hgl)
                          have hmap : (P'.map Prod.snd).set be 0 = (P'.set be (0, 0)).map Prod.snd := by rw [List.map_set]
                          rw [hmap] at hset
                          have HX5 := hide (And.intro hstep (And.intro hset (And.intro hgs hx)))
                          clear hstep hset hgs hMx hc1 hp1 hp2 hrow hmap hx hkx
                          go_wp2
                          have hok1 : 1 ≤ ok := by have h1 := HGr.out.2.1; have h2 := HGr.out.2.2; omega
                          go_roundg (ok - 1)
                          case measure => omega
                          case rel =>
                            obtain ⟨hstep, hset, hgs, -⟩ := HX5.out
                            refine ⟨mu + 1, ro + c1, P'.set be (0, 0), by go_num, by go_num, by have h1 := HGr.out.2.1; have h2 := HGr.out.2.2; omega, ?_, by omega, by rw [List.length_set]; exact HB.out.2.2.1, fun i p h => ?_, hset, hgs⟩
                            · rcases hstep with ⟨h1, qs', h2, h3⟩ | ⟨h1, h2⟩
                              · refine Or.inl ⟨by omega, qs', ?_, by have h7 := HGr.out.2.1; omega⟩
                                rw [show sn - (ro + c1) = sn - ro - c1 by omega]; exact h3
                              · exact Or.inr ⟨by omega, by have h7 := HGr.out.2.1; omega⟩
                            · rw [List.getElem?_set] at h
                              split at h
                              · split at h
                                · cases h; simp
                                · cases h
                              · exact HB.out.2.2.2 i p h
                    · have q1 : ¬ (ro : Int) < (sn : Int) := by omega
                      have hmu : mu = q := by omega
                      subst hmu
                      clear hrow hgw hPs
                      go_wp2
                      go_ret
                      exact ⟨rfl, grown_trans H7.out.2 (grown_trans HA1.out HB.out.2.1)⟩
  · have hR := hide (runs_bad R W ao' n cap' L (some ⟨b, 0, none⟩) w4 G4.out.2.1 ho)
    have HS1 := hide (fun ao cap w' (h1 : CbIn w' ao n cap L) => seat_bad R W kk ao n cap L (some ⟨b, 0, none⟩) w' h1 ho)
    clear ho
    go_wp2_with fail
    refine hR.out.mono ?_
    rintro e w5 ⟨rfl, hg5⟩
    have H5 := hide (And.intro (heap_kept G4.out.2.2.1 hg5 (by simp)) (grown_trans G4.out.2.2.2 hg5))
    obtain ⟨b0, b1, b2, b3, b4⟩ := box5 H5.out.1
    clear hg5
    go_wp2_with fail
    refine (HC.out _ H5.out.2).mono ?_
    rintro e w6 ⟨ao2, cap2, rfl, hc6, hg6⟩
    have H6 := hide (And.intro hc6 (grown_trans H5.out.2 hg6))
    clear hg6 hc6 b0 b1 b2 b3 b4
    go_wp2_with fail
    refine (HS1.out ao2 cap2 w6 H6.out.1).mono ?_
    rintro e w7 ⟨rfl, hg7⟩
    have H7 := hide (grown_trans H6.out.2 hg7)
    clear hg7
    go_wp2
    go_ret
    exact ⟨rfl, H7.out⟩
end Go.Proofs.YtnnmaknjhfjojaaDoor
