/- Fares: the document's chances, Check, wrong. -/
import Derived.Test.YtbebblhnhpdpjaaVo
namespace Go.Proofs.Ytbebblhnhpdpjaa
open Go.RowKit Ieee
attribute [local go_sem ↓] Go.wp_at_zero Go.wp_at_succ
attribute [local go_sem] run_store_float

/-- A chance that may be, as the document asks; one that may not. -/
theorem lik_bools (x : Nat) : lik x = !(!(FloatKind.f64.format.order x x == some .eq) || (FloatKind.f64.format.order x 0 == some .lt) || (FloatKind.f64.format.order x 4607182418800017408 == some .gt)) :=
  price_split x 4607182418800017408 (fin_of one_fin)
theorem order_selves (x : Nat) : FloatKind.f64.format.order x x = some .eq ∨ FloatKind.f64.format.order x x = none := by
  by_cases hx : Fin64 x
  · have := order_self hx
    exact Or.inl (by simpa using this)
  · rcases read_big hx with hr | ⟨t, hr⟩
    · exact Or.inl (order_inf_self hr)
    · exact Or.inr (order_nan _ hr)
theorem or3 {x y z : Nat} (h : false = !(!(FloatKind.f64.format.order x x == some .eq) || (FloatKind.f64.format.order x y == some .lt) || (FloatKind.f64.format.order x z == some .gt))) :
    FloatKind.f64.format.order x x = none ∨ FloatKind.f64.format.order x x = some .eq ∧ FloatKind.f64.format.order x y = some .lt ∨ FloatKind.f64.format.order x x = some .eq ∧ (FloatKind.f64.format.order x y == some .lt) = false ∧ FloatKind.f64.format.order x z = some .gt := by
  rcases order_selves x with e | e
  · rw [e] at h ⊢
    cases h1 : FloatKind.f64.format.order x y == some .lt
    · rw [h1] at h
      have : (FloatKind.f64.format.order x z == some .gt) = true := by
        cases h2 : FloatKind.f64.format.order x z == some .gt
        · rw [h2] at h; cases h
        · rfl
      exact Or.inr (Or.inr ⟨rfl, rfl, by simpa using this⟩)
    · exact Or.inr (Or.inl ⟨rfl, by simpa using h1⟩)
  · exact Or.inl e
theorem and3 {x y z : Nat} (h : true = !(!(FloatKind.f64.format.order x x == some .eq) || (FloatKind.f64.format.order x y == some .lt) || (FloatKind.f64.format.order x z == some .gt))) :
    FloatKind.f64.format.order x x = some .eq ∧ (FloatKind.f64.format.order x y == some .lt) = false ∧ (FloatKind.f64.format.order x z == some .gt) = false := by
  rcases order_selves x with e | e
  · rw [e] at h ⊢
    cases h1 : FloatKind.f64.format.order x y == some .lt
    · cases h2 : FloatKind.f64.format.order x z == some .gt
      · exact ⟨rfl, rfl, rfl⟩
      · rw [h1, h2] at h; cases h
    · rw [h1] at h; cases h
  · rw [e] at h; cases h

set_option maxHeartbeats 1000000 in
theorem rchances_any (bo : Option Addr) (bc n : Nat) (cs : List Nat) (w : World) (hn : n = cs.length) (hb : BIn w bo bc cs) :
    Calls Try.prog 47 #[.slice bo n bc] w fun e w' => e = .returned (.bool (chOk cs)) ∧ w.grownBy w' none := by
  have HB := hide hb
  have HN := hide hn
  have hs := hb.size
  rw [← hn] at hs
  clear hb hn
  by_cases hl : n = 0 ∨ 256 < n
  · have hf := chOk_long (cs := cs) (by have := HN.out; omega)
    rw [hf]
    by_cases h0 : n = 0
    · subst h0
      go_enter Try.func47, Try.ntmps47
      go_wp2
      go_ret
      exact ⟨rfl, grown_refl _ _⟩
    · have h1 : 256 < n := by omega
      have h2 : (256 : Int) < (n : Int) := by omega
      have h3 : (1 : Int) ≤ (n : Int) := by omega
      go_enter Try.func47, Try.ntmps47
      go_wp2
      go_ret
      exact ⟨rfl, grown_refl _ _⟩
  · have h1 : 1 ≤ n ∧ n ≤ 256 := by omega
    have h2 : ¬ (256 : Int) < (n : Int) := by omega
    have h3 : (1 : Int) ≤ (n : Int) := by omega
    have h4 : (n : Int) ≤ 256 := by omega
    clear hl
    go_enter Try.func47, Try.ntmps47
    go_wp2
    go_loopg [3, 4] n (fun k s i wr => ∃ m : Nat, k + m = n ∧ i = .int .i64 (m : Int) ∧ s = .float .f64 (cu cs m) ∧ Hid (w.grownBy wr none) ∧ Hid (∀ j, j < m → lik (cs.getD j 0) = true))
    case atStart => exact ⟨0, by omega, rfl, rfl, hide (grown_refl _ _), hide (fun j hj => by omega)⟩
    case round =>
      obtain ⟨m, hkm, rfl, rfl, HG, HM⟩ := hrel
      by_cases hgo : 0 < gk
      · have hlt : m < n := by omega
        have hmn : m < cs.length := by rw [← HN.out]; omega
        obtain ⟨a, rfl, hc⟩ := (HB.out.grown HG.out).at_ m (cs.getD m 0) (by rw [List.getD_eq_getElem?_getD, List.getElem?_eq_getElem hmn]; rfl)
        have hi0 : (m : Int) < (n : Int) := by omega
        have hcu : cu cs (m + 1) = ad (cu cs m) (ru (cs.getD m 0)) := rfl
        have hfin := cu_fin (cs := cs) m (by omega) HM.out
        have hbl := lik_bools (cs.getD m 0)
        cases hb : lik (cs.getD m 0)
        · have HF := hide (chOk_not hmn hb)
          rw [hb] at hbl
          clear hcu hfin hb
          generalize cs.getD m 0 = x at *
          rcases or3 hbl with e1 | ⟨e1, e2⟩ | ⟨e1, e2, e3⟩
          all_goals
            clear hbl
            go_wp2
            go_quiet (fail)
            go_wp2
            go_ret
            exact ⟨by rw [HF.out]; rfl, grown_trans HG.out (grown_drewN _ _)⟩
        · have HM2 : Hid (∀ j, j < m + 1 → lik (cs.getD j 0) = true) := hide (fun j hj => by
            by_cases hjm : j < m
            · exact HM.out j hjm
            · have : j = m := by omega
              subst this; exact hb)
          have hadd := nn_add (b := cu cs m) (lik_nn hb) hfin (hcu ▸ cu_fin (cs := cs) (m + 1) (by omega) HM2.out)
          rw [← hcu] at hadd
          have hr := run_add hadd
          rw [hb] at hbl
          obtain ⟨e1, e2, e3⟩ := and3 hbl
          clear hb hadd hcu hfin hbl
          generalize cs.getD m 0 = x at *
          generalize cu cs m = s0 at *
          generalize hs1 : cu cs (m + 1) = s1 at *
          have HS := hide hs1
          clear hs1
          go_wp2
          go_quiet (fail)
          go_wp2
          go_roundg (gk - 1)
          case measure => omega
          case rel => exact ⟨m + 1, by omega, by go_num, by rw [HS.out], hide (grown_trans HG.out (grown_drewN _ _)), HM2⟩
      · have hm : m = n := by omega
        subst hm
        have hres := chOk_end (cs := cs) (by have := HN.out; omega) (by have := HN.out; omega) (fun j hj => HM.out j (by have := HN.out; omega))
        rw [← HN.out] at hres
        have HF := hide hres
        clear hres
        by_cases hw1 : FloatKind.f64.format.order (cu cs m) 4607182409792818153 = some .gt ∨ FloatKind.f64.format.order (cu cs m) 4607182409792818153 = some .eq
        · have HGe := hide HG.out
          go_wp2
          go_ret
          exact ⟨by rw [HF.out]; rfl, HGe.out⟩
        · have HGe := hide HG.out
          have HW := hide (within_no 4607182423303617035 hw1)
          go_wp2
          go_ret
          exact ⟨by rw [HF.out, HW.out]; rfl, HGe.out⟩

/-- Above the dearest: above all that may be. -/
theorem above_all {p hi : Nat} (hh : Pr hi) (h : (FloatKind.f64.format.order p 4787326403894837248 == some .gt) = true) : (FloatKind.f64.format.order p hi == some .gt) = true := by
  by_cases hp : Fin64 p
  · obtain ⟨-, -, -, b4, -⟩ := order_sv hp pr_p40.nn.fin
    obtain ⟨-, -, -, c4, -⟩ := order_sv hp hh.nn.fin
    rw [b4, pr_p40.nn.sv_eq] at h
    rw [c4, hh.nn.sv_eq]
    have h1 := hh.le
    have h2 : val (ru 4787326403894837248) = pw 1114 := by
      rw [(nn_low (x := 4787326403894837248) (by omega)).2, val_p40]
    rw [h2] at h
    simp only [decide_eq_true_eq] at h ⊢
    omega
  · rcases read_big hp with hr | ⟨t, hr⟩
    · rw [order_inf hr pr_p40.nn.fin] at h
      rw [order_inf hr hh.nn.fin]; exact h
    · rw [order_nan _ hr] at h; cases h

set_option maxHeartbeats 4000000 in
theorem rcheck_any (ao : Option Addr) (cap n : Nat) (l : List Fa) (w : World) (hn : n = l.length) (hb : FasAt w ao l) (hs : n ≤ 140737488355328) :
    Calls Try.prog 19 #[.slice ao n cap] w fun e w' => e = .returned (.int .i64 (fE l)) ∧ w.grownBy w' none := by
  have HB := hide hb
  have HN := hide hn
  clear hb hn
  by_cases hl : n = 0 ∨ 16 < n
  · have hf := mayB_long (l := l) (by have := HN.out; omega)
    rw [hf]
    by_cases h0 : n = 0
    · subst h0
      go_enter Try.func19, Try.ntmps19
      go_wp2
      go_ret
      exact ⟨rfl, grown_refl _ _⟩
    · have h1 : 16 < n := by omega
      have h2 : (16 : Int) < (n : Int) := by omega
      have h3 : (1 : Int) ≤ (n : Int) := by omega
      go_enter Try.func19, Try.ntmps19
      go_wp2
      go_ret
      exact ⟨rfl, grown_refl _ _⟩
  · have h1 : 1 ≤ n ∧ n ≤ 16 := by omega
    have h2 : ¬ (16 : Int) < (n : Int) := by omega
    have h3 : (1 : Int) ≤ (n : Int) := by omega
    have h4 : (n : Int) ≤ 16 := by omega
    have HM := hide (mayB_mid (l := l) (by have := HN.out; omega))
    clear hl
    go_enter Try.func19, Try.ntmps19
    go_wp2
    go_loopg [3] n (fun k i wr => ∃ m hi : Nat, k + m = n ∧ i = .int .i64 (m : Int) ∧ Hid (w.grownBy wr none) ∧ Hid (okF 4787326403894837248 l = okF hi (l.drop m)) ∧ Hid (Pr hi) ∧ Hid (m = 0 ∧ hi = 4787326403894837248 ∨ 0 < m ∧ ∃ c, l[m - 1]? = some c ∧ c.1 = hi))
    case atStart => exact ⟨0, 4787326403894837248, by omega, rfl, hide (grown_refl _ _), hide rfl, hide pr_p40, hide (Or.inl ⟨rfl, rfl⟩)⟩
    case round =>
      obtain ⟨m, hi, hkm, rfl, HG, HO, HP, HI⟩ := hrel
      by_cases hgo : 0 < gk
      · have hlt : m < n := by omega
        obtain ⟨c, hc⟩ : ∃ c, l[m]? = some c := ⟨_, List.getElem?_eq_getElem (by have := HN.out; omega)⟩
        obtain ⟨p, cs⟩ := c
        obtain ⟨b, off, bo, bc, rfl, hfa⟩ := (HB.out.grown HG.out) m (p, cs) hc
        have c0 := hfa.c0
        have c1 := hfa.c1
        have HF := hide hfa
        have HD := hide (okF_drop (hi := hi) hc)
        have hi0 : (m : Int) < (n : Int) := by omega
        dsimp only at c0 c1
        have HS := hide hfa.sin
        have HCh := hide (rchances_any bo bc cs.length cs wr rfl hfa.sin)
        have hsp := price_split p hi HP.out.nn.fin
        have hsp2 : within p 0 hi = !(!(FloatKind.f64.format.order p p == some .eq) || (FloatKind.f64.format.order p 0 == some .lt) || (FloatKind.f64.format.order p hi == some .gt)) := hsp
        have HAB := hide (above_all (p := p) HP.out)
        have HNX : Hid (m + 1 = 0 ∧ p = 4787326403894837248 ∨ 0 < m + 1 ∧ ∃ c, l[m + 1 - 1]? = some c ∧ c.1 = p) := hide (Or.inr ⟨by omega, _, hc, rfl⟩)
        clear hfa hc hsp
        have hidx : m = 0 ∧ hi = 4787326403894837248 ∨ 0 < m ∧ (0 : Int) < (m : Int) ∧ IntKind.i64.wrap ((m : Int) - 1) = ((m - 1 : Nat) : Int) ∧ ((m - 1 : Nat) : Int) < (n : Int) ∧ m - 1 < n ∧ wr.cell? ⟨b, off + (m - 1) * 2, none⟩ = some (.float .f64 hi) := by
          rcases HI.out with h | ⟨h0, c', hc', rfl⟩
          · exact Or.inl h
          · refine Or.inr ⟨h0, by omega, by rw [IntKind.wrap_i64]; omega, by omega, by omega, ?_⟩
            obtain ⟨b', off', bo', bc', e, hfa'⟩ := (HB.out.grown HG.out) (m - 1) c' hc'
            cases e
            exact hfa'.c0
        cases hwi : within p 0 hi
        · rw [hwi] at hsp2
          have HN2 := hide (fE_no (l := l) (by rw [HM.out, HO.out, HD.out, hwi]; rfl))
          clear hwi
          rcases or3 hsp2 with e1 | ⟨e1, e2⟩ | ⟨e1, e2, e3⟩
          · clear hsp2 hidx
            go_wp2
            go_ret
            exact ⟨by rw [HN2.out]; rfl, HG.out⟩
          · clear hsp2 hidx
            go_wp2
            go_ret
            exact ⟨by rw [HN2.out]; rfl, HG.out⟩
          · clear hsp2
            rcases hidx with ⟨hm0, rfl⟩ | ⟨h0, h1', h2', h3', h4', h5'⟩
            · have hmi : ¬ (0 : Int) < (m : Int) := by omega
              have hmd : decide (0 < m) = false := by simp; omega
              clear hm0
              go_wp2
              go_ret
              exact ⟨by rw [HN2.out]; rfl, HG.out⟩
            · cases e4 : (FloatKind.f64.format.order p 4787326403894837248 == some .gt)
              · generalize m - 1 = m1 at *
                go_wp2
                go_ret
                exact ⟨by rw [HN2.out]; rfl, HG.out⟩
              · have e5 : FloatKind.f64.format.order p 4787326403894837248 = some .gt := by simpa using e4
                clear e4
                go_wp2
                go_ret
                exact ⟨by rw [HN2.out]; rfl, HG.out⟩
        · rw [hwi] at hsp2
          obtain ⟨e1, e2, e3⟩ := and3 hsp2
          have e4 : (FloatKind.f64.format.order p 4787326403894837248 == some .gt) = false := by
            cases h : (FloatKind.f64.format.order p 4787326403894837248 == some .gt)
            · rfl
            · rw [HAB.out h] at e3; cases e3
          have HPR := hide (within_pr HP.out hwi)
          have HWI := hide hwi
          clear hsp2 hwi
          cases hch : chOk cs
          · rw [hch] at HCh
            have HN2 := hide (fE_no (l := l) (by rw [HM.out, HO.out, HD.out, HWI.out, hch]; rfl))
            clear hch
            rcases hidx with ⟨hm0, rfl⟩ | ⟨h0, h1', h2', h3', h4', h5'⟩
            · have hmi : ¬ (0 : Int) < (m : Int) := by omega
              have hmd : decide (0 < m) = false := by simp; omega
              clear hm0
              go_wp2_with fail
              refine HCh.out.mono ?_
              rintro e w1 ⟨rfl, hg1⟩
              have HG1 := hide (grown_trans HG.out hg1)
              go_wp2
              go_ret
              exact ⟨by rw [HN2.out]; rfl, HG1.out⟩
            · generalize m - 1 = m1 at *
              go_wp2_with fail
              refine HCh.out.mono ?_
              rintro e w1 ⟨rfl, hg1⟩
              have HG1 := hide (grown_trans HG.out hg1)
              go_wp2
              go_ret
              exact ⟨by rw [HN2.out]; rfl, HG1.out⟩
          · rw [hch] at HCh
            have HO2 : Hid (okF 4787326403894837248 l = okF p (l.drop (m + 1))) := hide (by rw [HO.out, HD.out, HWI.out, hch]; rfl)
            clear hch
            rcases hidx with ⟨hm0, rfl⟩ | ⟨h0, h1', h2', h3', h4', h5'⟩
            · have hmi : ¬ (0 : Int) < (m : Int) := by omega
              have hmd : decide (0 < m) = false := by simp; omega
              clear hm0
              go_wp2_with fail
              refine HCh.out.mono ?_
              rintro e w1 ⟨rfl, hg1⟩
              have HG1 := hide (grown_trans HG.out hg1)
              go_wp2
              go_roundg (gk - 1)
              case measure => omega
              case rel => exact ⟨m + 1, p, by omega, by go_num, HG1, HO2, HPR, HNX⟩
            · obtain ⟨m1, hm1⟩ : ∃ m1, m1 = m - 1 := ⟨_, rfl⟩
              rw [← hm1] at h2' h3' h4' h5'
              clear hm1
              go_wp2_with fail
              refine HCh.out.mono ?_
              rintro e w1 ⟨rfl, hg1⟩
              have HG1 := hide (grown_trans HG.out hg1)
              go_wp2
              go_roundg (gk - 1)
              case measure => omega
              case rel => exact ⟨m + 1, p, by omega, by go_num, HG1, HO2, HPR, HNX⟩
      · have hm : m = n := by omega
        subst hm
        have HY := hide (fE_yes (l := l) (by rw [HM.out, HO.out, okF_end _ (by have := HN.out; omega)]))
        go_wp2
        go_ret
        exact ⟨by rw [HY.out]; rfl, HG.out⟩

theorem rwrong_any (ao : Option Addr) (cap n : Nat) (l : List Fa) (seats : Int) (w : World) (hn : n = l.length) (hb : FasAt w ao l) (hs : n ≤ 140737488355328) :
    Calls Try.prog 45 #[.slice ao n cap, .int .i64 seats] w fun e w' => e = .returned (.int .i64 (cE l seats)) ∧ w.grownBy w' none := by
  have C := hide (rcheck_any ao cap n l w hn hb hs)
  clear hn hb
  go_enter Try.func45, Try.ntmps45
  go_wp2_with fail
  refine C.out.mono ?_
  rintro e w1 ⟨rfl, hg⟩
  have HG := hide hg
  clear hg C
  cases hm : mayB l
  · rw [fE_no hm]
    have HE : Hid (cE l seats = 260) := hide (by unfold cE; rw [hm]; rfl)
    go_wp2
    go_ret
    exact ⟨by rw [HE.out]; rfl, HG.out⟩
  · rw [fE_yes hm]
    by_cases h1 : seats < 0
    · have HE : Hid (cE l seats = 2) := hide (by unfold cE; rw [hm, if_pos rfl, if_pos (Or.inl h1)])
      go_wp2
      go_ret
      exact ⟨by rw [HE.out]; rfl, HG.out⟩
    · by_cases h2 : 1024 < seats
      · have HE : Hid (cE l seats = 2) := hide (by unfold cE; rw [hm, if_pos rfl, if_pos (Or.inr h2)])
        have h3 : 0 ≤ seats := by omega
        go_wp2
        go_ret
        exact ⟨by rw [HE.out]; rfl, HG.out⟩
      · have HE : Hid (cE l seats = 0) := hide (by unfold cE; rw [hm, if_pos rfl, if_neg (by omega)])
        have h3 : 0 ≤ seats := by omega
        have h4 : seats ≤ 1024 := by omega
        go_wp2
        go_ret
        exact ⟨by rw [HE.out]; rfl, HG.out⟩
end Go.Proofs.Ytbebblhnhpdpjaa
