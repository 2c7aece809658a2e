/- Fares: the document's Next. -/
import Derived.Test.YtbebblhnhpdpjaaWf
import Derived.Test.YtbebblhnhpdpjaaWa
namespace Go.Proofs.Ytbebblhnhpdpjaa
open Go.RowKit Ieee
attribute [local go_sem ↓] Go.wp_at_zero Go.wp_at_succ
attribute [local go_sem] run_store_float

theorem gtr_low {x y : Nat} (hx : x < 2047 * 2 ^ 52) (hy : y < 2047 * 2 ^ 52) : (FloatKind.f64.format.order x y == some .gt) = decide (y < x) := by
  rw [order_low hx hy, some_beq]
  by_cases h : y < x
  · rw [decide_eq_true h, decide_eq_true (gt_iff.2 h)]
  · rw [decide_eq_false h, decide_eq_false (fun e => h (gt_iff.1 e))]
theorem bt_step {q : Nat} {ws : List Nat} {x j : Nat} (hj : 1 ≤ j) (h : j ≤ x) : bt q ws x j = max (bt q ws x (j - 1)) (cd q j (ws.getD (x - j) 0)) := by
  obtain ⟨i, rfl⟩ : ∃ i, j = i + 1 := ⟨j - 1, by omega⟩
  conv => { lhs; unfold bt }
  rw [if_pos h]; rfl
theorem bt_stay {q : Nat} {ws : List Nat} {x j : Nat} (hj : 1 ≤ j) (h : ¬ j ≤ x) : bt q ws x (j - 1) = bt q ws x j := by
  obtain ⟨i, rfl⟩ : ∃ i, j = i + 1 := ⟨j - 1, by omega⟩
  conv => { rhs; unfold bt }
  rw [if_neg h]; rfl
theorem nv_take (q : Nat) (cs ws : List Nat) {x : Nat} (h : x < ws.length) : (nv q cs ws).take (x + 1) = (nv q cs ws).take x ++ [su q ws cs x cs.length] := by
  have hl : x < (nv q cs ws).length := by rw [nv_length]; exact h
  rw [List.take_add_one, List.getElem?_eq_getElem hl]
  congr 1
  have := nv_get q cs ws x h
  rw [List.getD_eq_getElem?_getD, List.getElem?_eq_getElem hl] at this
  simp at this
  simp [this]
theorem Try.info33' : (Try.prog.info? 33).map (fun i => (i.zero, i.size, i.bytes)) = some (some (.float .f64 0), 1, 8) := by kernel_rfl
theorem near_zero : FloatKind.f64.nearest ((0 : Nat) : Int) = 0 := by decide +kernel

set_option maxRecDepth 20000 in
set_option maxHeartbeats 4000000 in
theorem rnext_any (ao : Option Addr) (cap n e : Nat) (ws : List Nat) (p : Nat) (bo : Option Addr) (bc : Nat) (cs : List Nat) (w : World) (hn : n = ws.length) (hn2 : n ≤ 1025) (hw : At w ao ws)
    (hB : BIn w bo bc cs) (hG : Gd (p, cs)) (he : 48 ≤ e ∧ e ≤ 780) (hb : Bd e ws) :
    Calls Try.prog 46 #[.slice ao n cap, .agg #[.float .f64 p, .slice bo cs.length bc]] w fun e' w' => ∃ v, e' = .returned v ∧ w'.ownsRow w.heap.size 33 1 v n (fv (nv (ru p) cs ws)) ∧ w.grownBy w' none := by
  obtain ⟨i0, hi, hz0, hz1, hz2⟩ := info_parts Try.info33'
  have HI := hide (And.intro hi (And.intro hz0 (And.intro hz1 hz2)))
  have HGd := hide hG
  have HE := hide he
  have HW := hide hb
  have HN := hide hn
  obtain ⟨m, hm⟩ : ∃ m, m = cs.length := ⟨_, rfl⟩
  have HM := hide hm
  have hm2 : 1 ≤ m ∧ m ≤ 256 := by rw [hm]; exact (chOk_parts hG.ch).1
  rw [← hm]
  obtain ⟨x0, x1, gx⟩ := box_fa w (.float .f64 p) (.slice bo m bc)
  have HX := hide (And.intro x0 x1)
  have HAt := hide (And.intro (hw.grown gx) (hB.grown gx))
  have HGx := hide gx
  clear hi hz0 hz1 hz2 hn hw hB hG he hb hm x0 x1 gx
  go_enter Try.func46, Try.ntmps46
  go_wp2
  generalize w.alloc (.cells #[.float .f64 p, .slice bo m bc] 48) = w1 at *
  generalize w.heap.size = bx at *
  go_loopg [5, 6] n (fun k o i wr => ∃ x : Nat, k + x = n ∧ i = .int .i64 (x : Int) ∧ Hid (wr.ownsRow w1.heap.size 33 1 o x (fv ((nv (ru p) cs ws).take x)) ∧ w1.grownBy wr none))
  case atStart => exact ⟨0, by omega, rfl, hide ⟨World.ownsRow_nil _ _ _ _, grown_refl _ _⟩⟩
  case round =>
    obtain ⟨x, hkx, rfl, HR⟩ := hrel
    obtain ⟨po, pc, hpv⟩ := own_form HR.out.1
    subst hpv
    by_cases hgo : 0 < gk
    · have hx : x < n := by omega
      have hx2 : (x : Int) < (n : Int) := by omega
      have hpr := HGd.out.pr
      have hcl : ∀ k, val (ru (cs.getD k 0)) ≤ pw 1074 := ch_le HGd.out.ch
      obtain ⟨a, rfl, hwc⟩ := (HAt.out.1.grown HR.out.2).take (j := x) (by rw [← HN.out]; exact hx)
      have hx0 := HR.out.2.cell HX.out.1 (by simp)
      have hx1 := HR.out.2.cell HX.out.2 (by simp)
      obtain ⟨u0, hu0, hu1⟩ := cd_run (k := 0) (by omega) hpr HE.out.1 (by have := HE.out; omega) (HW.out x)
      rw [near_zero] at hu0
      rw [cd_zero] at hu1
      have hm0 := run_mul hu0
      have hm1 := run_add hu1
      obtain ⟨b, rfl, hc0⟩ := (HAt.out.2.at_.grown HR.out.2).take (j := 0) (by rw [← HM.out]; omega)
      have hc0' := hc0
      rw [show b.add 0 = b from by unfold Addr.add; cases b with | mk b o sp => cases sp <;> simp] at hc0'
      have hlik := (chOk_parts HGd.out.ch).2 0 (by rw [← HM.out]; omega)
      have hbt := bt_bd (q := ru p) hpr.le HE.out.1 HW.out x 0 (by omega)
      obtain ⟨u2, hu2, hu3⟩ := tn_run (s := 0) (n := e + 1) hlik hbt (by have := HE.out; omega) (by omega) (bd_fin (n := e + 9) (su_bd2 hpr.le HE.out.1 HW.out hcl x 1 (by omega)) (by have := HE.out; omega))
      have hbt0 : bt (ru p) ws x 0 = ws.getD x 0 := rfl
      rw [hbt0] at hu2 hu3
      have hsu1 : ad 0 (tn (cs.getD 0 0) (ws.getD x 0)) = su (ru p) ws cs x 1 := rfl
      rw [hsu1] at hu3
      have hm3 := run_mul hu2
      have hm4 := run_add hu3
      have HBT : Hid (bt (ru p) ws x (1 - 1) = ws.getD x 0) := hide rfl
      have hmz : (0 : Int) < (m : Int) := by omega
      have hmz2 : 0 < m := by omega
      clear hpr hcl hu0 hu1 hlik hbt hu2 hu3 hbt0 hsu1
      generalize hc0v : cs.getD 0 0 = c0 at *
      generalize hwv : ws.getD x 0 = wx at *
      generalize hsv : su (ru p) ws cs x 1 = s1 at *
      have HSV := hide hsv
      clear hc0v hwv hsv
      generalize hog : gk = og at *
      go_wp2
      go_quiet (fail)
      go_wp2
      clear hx0 hx1 hwc hc0 hc0' hm0 hm1 hm3 hm4 hmz hmz2
      go_loopg [7, 8, 9] (m - 1) (fun k b' s i wr2 => ∃ j : Nat, k + j = m ∧ 1 ≤ j ∧ i = .int .i64 (j : Int) ∧ b' = .float .f64 (bt (ru p) ws x (j - 1)) ∧ s = .float .f64 (su (ru p) ws cs x j) ∧ Hid (wr.grownBy wr2 none))
      case atStart => exact ⟨1, by omega, by omega, rfl, by rw [HBT.out], by rw [HSV.out], hide (grown_drewN _ _)⟩
      case round =>
        obtain ⟨j, hkj, hj1, rfl, rfl, rfl, HG2⟩ := hrel
        have hx0 := HG2.out.cell (HR.out.2.cell HX.out.1 (by simp)) (by simp)
        have hx1 := HG2.out.cell (HR.out.2.cell HX.out.2 (by simp)) (by simp)
        by_cases hgj : 0 < gk
        · have hj : j < m := by omega
          have hj2 : (j : Int) < (m : Int) := by omega
          have hpr := HGd.out.pr
          have hcl : ∀ k, val (ru (cs.getD k 0)) ≤ pw 1074 := ch_le HGd.out.ch
          obtain ⟨b2, hbe, hcj⟩ := ((HAt.out.2.at_.grown HR.out.2).grown HG2.out).take (j := j) (by rw [← HM.out]; exact hj)
          cases hbe
          have hlik := (chOk_parts HGd.out.ch).2 j (by rw [← HM.out]; exact hj)
          have hbt := bt_bd (q := ru p) hpr.le HE.out.1 HW.out x j (by omega)
          have hbt1 := bt_bd (q := ru p) hpr.le HE.out.1 HW.out x (j - 1) (by omega)
          obtain ⟨u2, hu2, hu3⟩ := tn_run (s := su (ru p) ws cs x j) (n := e + 1) hlik hbt (by have := HE.out; omega) (bd_fin (n := e + 9) (su_bd2 hpr.le HE.out.1 HW.out hcl x j (by omega)) (by have := HE.out; omega)) (bd_fin (n := e + 9) (su_bd2 hpr.le HE.out.1 HW.out hcl x (j + 1) (by omega)) (by have := HE.out; omega))
          have hsu1 : ad (su (ru p) ws cs x j) (tn (cs.getD j 0) (bt (ru p) ws x j)) = su (ru p) ws cs x (j + 1) := rfl
          rw [hsu1] at hu3
          have hm3 := run_mul hu2
          have hm4 := run_add hu3
          have HSV2 : Hid (bt (ru p) ws x (j + 1 - 1) = bt (ru p) ws x j) := hide rfl
          by_cases hjx : j ≤ x
          · obtain ⟨r, hr1, hr2⟩ := cd_run (k := j) (by omega) hpr HE.out.1 (by have := HE.out; omega) (HW.out (x - j))
            have hcdf := bd_fin (cd_bd (u := j) (by omega) hpr.le HE.out.1 (HW.out (x - j))) (by have := HE.out; omega)
            have hgt := gtr_low hcdf (bd_fin hbt1 (by have := HE.out; omega))
            have hbs := bt_step (q := ru p) (ws := ws) hj1 hjx
            obtain ⟨a2, hae, hwc⟩ := ((HAt.out.1.grown HR.out.2).grown HG2.out).take (j := x - j) (by rw [← HN.out]; omega)
            cases hae
            have hr1' : ∀ w, (binOp .mul 33 (.float .f64 (floatOfInt .f64 (j : Int))) (.float .f64 p)).run Try.prog w = .ok (.float .f64 r) w := run_mul hr1
            have hr2' := run_add hr2
            have hsub : IntKind.i64.wrap ((x : Int) - (j : Int)) = ((x - j : Nat) : Int) := by rw [IntKind.wrap_i64]; omega
            have hxj2 : x - j < n := by omega
            have hjx2 : (j : Int) ≤ (x : Int) := by omega
            clear hpr hcl hlik hbt hbt1 hu2 hu3 hsu1 hr1 hr2 hcdf hjx
            generalize cs.getD j 0 = c0 at *
            generalize hs1 : su (ru p) ws cs x (j + 1) = s1 at *
            have HSU := hide hs1
            clear hs1
            generalize su (ru p) ws cs x j = s0 at *
            generalize cd (ru p) j (ws.getD (x - j) 0) = d0 at *
            generalize ws.getD (x - j) 0 = y0 at *
            generalize bt (ru p) ws x (j - 1) = bp at *
            generalize bt (ru p) ws x j = bj at *
            generalize x - j = xj at *
            by_cases hlt : bp < d0
            · rw [decide_eq_true hlt] at hgt
              have hbj : bj = d0 := by omega
              subst hbj
              clear hbs hlt
              go_wp2
              go_quiet (fail)
              go_wp2
              go_roundg (gk - 1)
              case measure => omega
              case rel => exact ⟨j + 1, by omega, by omega, by go_num, by rw [HSV2.out], by rw [HSU.out], hide (grown_trans HG2.out (grown_drewN _ _))⟩
            · rw [decide_eq_false hlt] at hgt
              have hbj : bj = bp := by omega
              subst hbj
              clear hbs hlt
              go_wp2
              go_quiet (fail)
              go_wp2
              go_roundg (gk - 1)
              case measure => omega
              case rel => exact ⟨j + 1, by omega, by omega, by go_num, by rw [HSV2.out], by rw [HSU.out], hide (grown_trans HG2.out (grown_drewN _ _))⟩
          · have hbs := bt_stay (q := ru p) (ws := ws) hj1 hjx
            rw [hbs]
            have hjx2 : ¬ (j : Int) ≤ (x : Int) := by omega
            clear hpr hcl hlik hbt hbt1 hu2 hu3 hsu1 hjx hbs
            generalize cs.getD j 0 = c0 at *
            generalize hs1 : su (ru p) ws cs x (j + 1) = s1 at *
            have HSU := hide hs1
            clear hs1
            generalize su (ru p) ws cs x j = s0 at *
            generalize bt (ru p) ws x j = bj at *
            go_wp2
            go_roundg (gk - 1)
            case measure => omega
            case rel => exact ⟨j + 1, by omega, by omega, by go_num, by rw [HSV2.out], by rw [HSU.out], HG2⟩
        · have hj : j = m := by omega
          subst hj
          have hlt : ¬ (j : Int) < (j : Int) := by omega
          have HT := hide (nv_take (ru p) cs ws (x := x) (by rw [← HN.out]; exact hx))
          have HSZ : Hid (su (ru p) ws cs x cs.length = su (ru p) ws cs x j) := hide (by rw [← HM.out])
          have hrow := own_grownT HR.out.1 HG2.out
          have HRow := hide hrow
          obtain ⟨_, _, hx', -, hc1', hc2', -⟩ := own_at hrow
          cases hx'
          have hsz := grown_trans HR.out.2 HG2.out
          have HGs := hide hsz
          have hss := hsz.size
          clear hrow hsz
          generalize su (ru p) ws cs x j = sx at *
          go_wp2_with (at_builtin; refine wpList_append_own _ rfl (.tmp 67) (.tmp 69) 27 rfl w1.heap.size 33 i0 (.float .f64 0) 1 8 Try.underlying27 HI.out.1 HI.out.2.1 HI.out.2.2.1 HI.out.2.2.2 rfl (by decide) _ _ _ rfl (HRow.out.alloc _) ⟨_, 0, none⟩ 1 1 [.float .f64 sx] rfl rfl (cell_one_newI _ _ _) (by simp [Value.oneCell']) (by unfold maxLen; omega) (by omega) (by simp; omega) ?_)
          intro v' w6 hown' hgrow _
          have HNx : Hid (w6.ownsRow w1.heap.size 33 1 v' (x + 1) (fv ((nv (ru p) cs ws).take (x + 1))) ∧ w1.grownBy w6 none) := by
            refine ⟨?_, grown_then (grown_trans HGs.out (World.grownBy_alloc _ _ none)) hgrow (fun k e => Or.inl (own_block HRow.out (Or.inr e)).1)⟩
            rw [HT.out, fv_append, HSZ.out]; exact hown'
          clear hown' hgrow HRow HGs HR
          go_wp2
          go_roundg (og - 1)
          case measure => omega
          case rel => exact ⟨x + 1, by omega, by go_num, HNx⟩
    · have hxn : x = n := by omega
      subst hxn
      have ho := HR.out.1
      rw [List.take_of_length_le (by rw [nv_length, HN.out]; omega)] at ho
      have HO := hide (own_lowT ho HGx.out.size)
      have HGr := hide (grown_trans HGx.out HR.out.2)
      clear ho
      go_wp2
      go_ret
      exact ⟨_, rfl, HO.out, HGr.out⟩
end Go.Proofs.Ytbebblhnhpdpjaa
