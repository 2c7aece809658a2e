/- The walk of FrameAgain. -/
import Derived.Test.YtoeehajdmdmemaaDoorFl
import Derived.Test.YtoeehajdmdmemaaDoorGe
namespace Go.Proofs.YtoeehajdmdmemaaDoor
open Go.RowKit
attribute [local go_sem ↓] Go.wp_at_zero Go.wp_at_succ

theorem pre_take (E S : Int) (xs : List Int) (q : Nat) (hB : Byt xs) : rowF E S (xs.take q) <+: rowF E S xs := by
  have := rowF_pre E (xs.take q).length S (xs.take q) (xs.drop q) (Nat.le_refl _) (hB.take q) (hB.drop q)
  rwa [List.take_append_drop] at this
theorem fend_pre {ls ms : List Fr} (h : ls <+: ms) : fend ls ≤ fend ms := by
  obtain ⟨cs, rfl⟩ := h
  rw [fend_append]
  omega

set_option maxRecDepth 100000 in
set_option maxHeartbeats 4000000 in
theorem again_any (xs : List Int) (ao : Option Addr) (n cap : Nat) (E S C : Int) (w : World) (h : Src w ao n cap xs) (hm : n ≤ 1099511627776) (hE0 : 0 ≤ E) (hE1 : E < 18446744073709551616) (hS0 : 0 ≤ S) (hS1 : S < 18446744073709551616) :
    Calls Tryd.prog 7 #[.slice ao n cap, .agg #[.int .u64 E, .int .u64 S], .int .i64 C] w fun r w' => r = .returned (.bool true) ∧ w.grownBy w' none := by
  have H := hide h
  have BX := hide (heap_alloc_new w (.cells [Value.int .u64 E, .int .u64 S].toArray 58))
  have G1 := hide (World.grownBy_alloc w (.cells #[.int .u64 E, .int .u64 S] 58) none)
  clear h
  go_enter Tryd.func7, Tryd.ntmps7
  go_wp2_with fail
  simp only [List.toArray] at BX
  generalize w.alloc (.cells #[.int .u64 E, .int .u64 S] 58) = w1 at *
  refine (awake_any w1 (H.out.tab.grown G1.out)).mono ?_
  rintro r w2 ⟨rfl, hg⟩
  have G2 := hide (grown_trans G1.out hg)
  have bx2 := (hg.block _ (row_lt BX.out) (by simp)).trans BX.out
  have c0 : w2.cell? ⟨w.heap.size, 0, none⟩ = some (.int .u64 E) := cell_row (l := [Value.int .u64 E, .int .u64 S]) bx2 0
  have c1 : w2.cell? ⟨w.heap.size, 1, none⟩ = some (.int .u64 S) := cell_row (l := [Value.int .u64 E, .int .u64 S]) bx2 1
  clear hg G1 BX bx2
  go_wp2
  go_quiet (fail)
  have G3 := hide (grown_trans G2.out (grown_drewN w2 nq none))
  generalize w2.drewN nq = w3 at *
  clear c0 c1 G2
  go_wp2_with fail
  refine (fget_any xs H.out.byt ao n cap w3 H.out.len (H.out.grown G3.out).lies H.out.nil H.out.fits H.out.sm (H.out.tab.grown G3.out)).mono ?_
  rintro r w4 ⟨v, rfl, hv, hg⟩
  have hT := own_told (w := w3) hv (Nat.le_refl _) rfl
  have hsh := getF_short H.out.byt
  obtain ⟨G, hG⟩ : ∃ G, G = getF xs := ⟨_, rfl⟩
  rw [← hG] at hT hsh hv ⊢
  obtain ⟨vo, vc, rfl, q1, q2, q3, q4, q5, q6⟩ := own_at hv
  have ga := World.grownBy_alloc w4 (.cells #[.int .u64 G.f.e, .int .u64 G.f.s, .slice vo G.f.b.length vc] 25) none
  have BX := hide (heap_alloc_new w4 (.cells [Value.int .u64 G.f.e, .int .u64 G.f.s, .slice vo G.f.b.length vc].toArray 25))
  have hg' := grown_trans hg ga
  have G5 := hide (grown_trans G3.out hg')
  have HT5 := hide (hT.kept ga (fun _ e => by cases e))
  have HGd := hide hG
  have HV := hide (And.intro q2 q3)
  clear hv hg ga hg' G3 hT hG q1 q2 q3 q4 q5 q6
  simp only [List.toArray] at BX
  unfold frV
  obtain ⟨B, hB⟩ : ∃ B, B = w4.heap.size := ⟨_, rfl⟩
  rw [← hB] at BX
  have JN : Hid (∀ (w6 : World), w.grownBy w6 none → True) := fun _ _ => trivial
  rcases G with ⟨⟨ge, gs, gb⟩, gn, gc⟩
  simp only at hsh HV HT5 BX G5 ⊢
  rcases Classical.em (gc = 0) with hc | hc
  case' inl =>
    subst hc
    have hok := getF_ok H.out.byt (by rw [← HGd.out])
    rw [← HGd.out] at hok
    simp only at hok
    obtain ⟨o1, o2, o3, o4, o5⟩ := hok
    have O := hide (And.intro o1 (And.intro o2 o5))
    have o4' : gn ≤ n := by have := H.out.len; omega
    have o22 := hide o3
    have hgn54 : gn ≤ 54 := by omega
    clear o1 o2 o3 o4 o5
    go_wp2_with fail
    rw [← hB]
    clear hB
    generalize w4.alloc (.cells #[.int .u64 ge, .int .u64 gs, .slice vo gb.length vc] 25) = w5 at *
    obtain ⟨vo', vc', hvv, hva, _⟩ := HT5.out.is
    cases hvv
    refine (fput_any ⟨ge, gs, gb⟩ O.out.1 O.out.2.1 vo gb.length vc w5 rfl hva HV.out.1 HV.out.2 (H.out.tab.grown G5.out) (tab_lt (H.out.tab.grown G5.out))).mono ?_
    rintro r w6 ⟨g, rfl, hgl, hrow, hg⟩
    have G6 := hide (grown_trans G5.out hg)
    have HR := hide hrow
    rw [← o22.out]
    clear hg hrow hgl hva G5 BX HT5
    have hst := slice_to ao n cap gn (by have := H.out.fits; omega)
    have hgi : ¬ (n : Int) < (gn : Int) := by omega
    go_wp2_with fail
    refine (same_eq (some ⟨g, 0, none⟩) ao gn gn cap (xs.take gn) w6 (by have := H.out.len; simp; omega) ?_ ((H.out.grown G6.out).lies.take gn) (by omega)).mono ?_
    · rw [O.out.2.2]; exact at_row HR.out
    rintro r w7 ⟨rfl, hg⟩
    have G7 := hide (grown_trans G6.out hg)
    clear hg G6 HR hst
  case' inr =>
    have her := getF_err (xs := xs) (by rw [← HGd.out]; exact hc)
    rw [← HGd.out] at her
    simp only [noFr, Fr.mk.injEq] at her
    obtain ⟨⟨rfl, rfl, rfl⟩, rfl⟩ := her
    have hcb : (gc == 0) = false := by simpa using hc
    clear hc
    go_wp2_with fail
    rw [← hB]
    clear hB
    generalize w4.alloc (.cells #[.int .u64 0, .int .u64 0, .slice vo 0 vc] 25) = w5 at *
    refine (sameFr 0 0 vo none 0 vc 0 [] w5 rfl (At.nil _ _) (At.nil _ _) (by omega)).mono ?_
    rintro r w7 ⟨rfl, hg⟩
    have G7 := hide (grown_trans G5.out hg)
    clear hg G5 BX HT5
  all_goals
    go_wp2_with fail
    refine (scan_any ao n cap xs E S w7 (H.out.grown G7.out) hS0 hS1 hm).mono ?_
    rintro r w8 ⟨v8, ys, rfl, hys, hfs, hg⟩
    obtain ⟨lo_, lc, rfl, hR, hlc⟩ := hfs.read
    have G8 := hide (grown_trans G7.out hg)
    have HY := hide (And.intro hys hR)
    clear hg hfs hR hys hlc G7
    have hq0 := Int.emod_nonneg C (show ((n + 1 : Nat) : Int) ≠ 0 by omega)
    have hq1 := Int.emod_lt_of_pos C (show (0 : Int) < ((n + 1 : Nat) : Int) by omega)
    have HPk : Hid (∀ w, Calls Tryd.prog 31 #[.int .i64 C, .int .i64 ((n + 1 : Nat) : Int)] w fun e w' => e = .returned (.int .i64 (C % ((n + 1 : Nat) : Int))) ∧ w' = w) := fun w => pick_any C _ (n + 1) w rfl (by omega) (by omega)
    obtain ⟨q, hq⟩ := Int.eq_ofNat_of_zero_le hq0
    rw [hq] at hq1 HPk
    have hqn : q ≤ n := by omega
    clear hq hq0 hq1
    have hst := slice_to ao n cap q (by have := H.out.fits; omega)
    go_wp2_with fail
    rw [show (n : Int) + 1 = ((n + 1 : Nat) : Int) by omega]
    refine (HPk.out w8).mono ?_
    rintro r w9 ⟨rfl, rfl⟩
    go_wp2_with fail
    have hsrc : Src w9 ao q cap (xs.take q) := ⟨(H.out.grown G8.out).lies.take q, by have := H.out.len; simp; omega, fun e => by have := H.out.nil e; omega, by have := H.out.fits; omega, H.out.byt.take q, by have := H.out.sm; omega, H.out.tab.grown G8.out⟩
    refine (scan_any ao q cap (xs.take q) E S w9 hsrc hS0 hS1 (by omega)).mono ?_
    rintro r w10 ⟨v10, zs, rfl, hzs, hfs, hg⟩
    obtain ⟨mo, mc, rfl, hR, hmc⟩ := hfs.read
    have G10 := hide (grown_trans G8.out hg)
    have HY2 := hide (And.intro HY.out.1 (HY.out.2.grown hg))
    have HZ := hide (And.intro hzs hR)
    have hpre := pre_take E S xs q H.out.byt
    have hl1 : zs.length ≤ ys.length := by
      have := hpre.length_le
      rw [← hzs, ← HY.out.1, frs_length, frs_length] at this
      exact this
    have hf1 := fend_pre hpre
    have hf2 := rowF_end E xs.length S xs (Nat.le_refl _) H.out.byt
    rw [H.out.len] at hf2
    have h22 := fend_len (rowF E S xs)
    rw [← HY.out.1, frs_length, HY.out.1] at h22
    have hyn : ys.length ≤ n := by omega
    generalize fend (rowF E S (xs.take q)) = Fz at *
    generalize fend (rowF E S xs) = Fy at *
    have HP := hide hpre
    clear hpre hg hfs hR hzs hmc G8 HY hsrc HPk hst h22
    go_wp2
    rename_i hbb KK aa
    clear hbb
    go_loopg [18] ys.length (fun k i wr => ∃ j : Nat, k + j = ys.length ∧ i = .int .i64 j ∧ w10.grownBy wr none)
    case atStart => exact ⟨0, by omega, rfl, grown_refl _ _⟩
    case round =>
      obtain ⟨j, hkj, rfl, hg⟩ := hrel
      by_cases hk : 0 < gk
      · have hjy : j < ys.length := by omega
        obtain ⟨ga, hga, hca⟩ := HY2.out.2 j ys[j] (by simp [hjy])
        have hfy := frs_at (l := ys) (j := j) (x := ys[j]) (by simp [hjy])
        rw [HY2.out.1] at hfy
        obtain ⟨r1, r2, r3, r4⟩ := rowF_all E xs.length S xs (Nat.le_refl _) H.out.byt j _ hfy
        have hss := r3.s1
        rw [r2] at hss
        have hca' := hca.grown hg
        have hjz : j < zs.length → ∃ gb, mo = some ⟨gb, 0, none⟩ ∧ ∃ z : El, FrC wr gb j z ∧ z.f = ys[j].f := fun hjz => by
          obtain ⟨gb, hgb, hcb⟩ := HZ.out.2 j zs[j] (by simp [hjz])
          refine ⟨gb, hgb, zs[j], hcb.grown hg, ?_⟩
          have h1 := frs_at (l := zs) (j := j) (x := zs[j]) (by simp [hjz])
          rw [HZ.out.1] at h1
          obtain ⟨cs, hcs⟩ := HP.out
          rw [← hcs, List.getElem?_append_left (List.getElem?_eq_some_iff.1 h1).1, h1] at hfy
          simpa using hfy
        have HJZ := hide hjz
        clear hca hfy hjz
        generalize ys[j] = x at *
        rcases x with ⟨xa, ⟨fe, fs, fb⟩, xv, xl, xh⟩
        obtain ⟨vo1, vc1, hv, hva⟩ := hca'.body
        simp only at hv r1 r2 r4 hva
        subst hv
        obtain ⟨a0, a1, a2, -, -⟩ := hca'
        simp only at a0 a1 a2
        subst r1
        subst hga
        have h1 : (0 : Int) ≤ (j : Int) := by omega
        have h2 : (j : Int) < (ys.length : Int) := by omega
        have hjb : j ≤ 1099511627776 := by omega
        have hsa : S + (j : Int) + 1 = fs := by omega
        have hfs0 : 0 ≤ fs ∧ fs < 18446744073709551616 := by omega
        have HR4 := hide r4
        have HR2 := hide (And.intro r2 (And.intro hkj hjy))
        have hfs1 := hfs0.1
        have hfs2 := hfs0.2
        have hyl : ys.length ≤ 1099511627776 := by omega
        clear r2 r3 r4 hss hkj hjy hfs0 hl1 hf1 hf2 hyn hjb
        have hjb : (j : Int) < 1099511627776 := by omega
        rcases Nat.lt_or_ge j zs.length with hz | hz
        · obtain ⟨gb, hgb, ⟨za, zf, zv, zl, zh⟩, hcb, hzf⟩ := HJZ.out hz
          simp only at hzf
          subst hzf
          obtain ⟨uo1, uc1, hu, hua⟩ := hcb.body
          simp only at hu hua
          subst hu
          obtain ⟨b0, b1, b2, -, -⟩ := hcb
          simp only at b0 b1 b2
          subst hgb
          have hzi : (j : Int) < (zs.length : Int) := by omega
          have HV := hide (And.intro hva hua)
          clear hva hua
          have HS : Hid (Calls Tryd.prog 23 #[.agg #[.int .u64 fe, .int .u64 fs, .slice vo1 fb.length vc1], .agg #[.int .u64 fe, .int .u64 fs, .slice uo1 fb.length uc1]] wr.drew fun r w' => r = .returned (.bool true) ∧ wr.drew.grownBy w' none) := sameFr fe fs vo1 uo1 _ vc1 uc1 fb wr.drew rfl HV.out.1 HV.out.2 (by have := HR4.out; omega)
          have hzd : decide (j < zs.length) = true := by simpa using hz
          have hw1 : IntKind.u64.wrap (j : Int) = (j : Int) := by rw [IntKind.wrap_u64]; omega
          have hw2 : IntKind.u64.wrap (S + (j : Int)) = S + (j : Int) := by rw [IntKind.wrap_u64]; omega
          have hw3 : IntKind.u64.wrap fs = fs := by rw [IntKind.wrap_u64]; omega
          have hne : (fs != fs) = false := by simp
          clear hz
          go_wp2
          go_region_held3 (fun w' => (w'.cell? ⟨ga, j * 3, none⟩ = some (.int .u64 fe) ∧ w'.cell? ⟨ga, j * 3 + 1, none⟩ = some (.int .u64 fs) ∧ w'.cell? ⟨ga, j * 3 + 2, none⟩ = some (.slice vo1 fb.length vc1)) ∧ w'.cell? ⟨gb, j * 3, none⟩ = some (.int .u64 fe) ∧ w'.cell? ⟨gb, j * 3 + 1, none⟩ = some (.int .u64 fs) ∧ w'.cell? ⟨gb, j * 3 + 2, none⟩ = some (.slice uo1 fb.length uc1)) (first | assumption | go_keep) ((go_at_call 23; refine HS.out.mono ?_; rintro r w1 ⟨rfl, hg1⟩; have hk1 := And.intro (And.intro (hg1.cell (a := ⟨ga, j * 3, none⟩) (v := .int .u64 fe) a0 (by simp)) (And.intro (hg1.cell (a := ⟨ga, j * 3 + 1, none⟩) (v := .int .u64 fs) a1 (by simp)) (hg1.cell (a := ⟨ga, j * 3 + 2, none⟩) (v := .slice vo1 fb.length vc1) a2 (by simp)))) (And.intro (hg1.cell (a := ⟨gb, j * 3, none⟩) (v := .int .u64 fe) b0 (by simp)) (And.intro (hg1.cell (a := ⟨gb, j * 3 + 1, none⟩) (v := .int .u64 fs) b1 (by simp)) (hg1.cell (a := ⟨gb, j * 3 + 2, none⟩) (v := .slice uo1 fb.length uc1) b2 (by simp))))))
          clear hk1 a0 a1 a2 b0 b1 b2 hw1 hw2 hw3 hne
          go_wp2
          go_roundg (gk - 1)
          case measure => omega
          case rel => have := HR2.out; exact ⟨j + 1, by omega, by go_num, grown_trans hg (grown_trans (grown_drew _ _) hg1)⟩
        · have hd2 : decide (j < zs.length) = false := by simp; omega
          clear hva hz
          go_wp2
          go_quiet (fail)
          go_wp2
          go_roundg (gk - 1)
          case measure => omega
          case rel => have := HR2.out; exact ⟨j + 1, by omega, by go_num, grown_trans hg (grown_drewN _ _ _)⟩
      · have hj : j = ys.length := by omega
        subst hj
        go_wp2
        go_ret
        exact ⟨rfl, grown_trans G10.out hg⟩
end Go.Proofs.YtoeehajdmdmemaaDoor
