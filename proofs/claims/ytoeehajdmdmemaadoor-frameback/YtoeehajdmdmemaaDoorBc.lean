/- The walk of FrameBack. -/
import Derived.Test.YtoeehajdmdmemaaDoorBb
namespace Go.Proofs.YtoeehajdmdmemaaDoor
open Go.RowKit
attribute [local go_sem ↓] Go.wp_at_zero Go.wp_at_succ

set_option maxRecDepth 100000 in
set_option maxHeartbeats 8000000 in
theorem back_any (rows : List (List Int)) (ao : Option Addr) (n cap : Nat) (E S : Int) (w : World) (hn : rows.length = n) (hR : RwsAt w ao rows) (hm : n ≤ 140737488355328) (hE0 : 0 ≤ E) (hE1 : E < 18446744073709551616) (hS0 : 0 ≤ S) (hS1 : S < 18446744073709551616) (hT : Tab w) :
    Calls Tryd.prog 6 #[.slice ao n cap, .int .u64 E, .int .u64 S] w fun r w' => r = .returned (.bool true) ∧ w.grownBy w' none := by
  have H := hide (And.intro hn (And.intro hR hT))
  clear hn hR hT
  go_enter Tryd.func6, Tryd.ntmps6
  go_wp2_with fail
  refine (awake_any w H.out.2.2).mono ?_
  rintro r w2 ⟨rfl, hg⟩
  have G2 := hide hg
  clear hg
  go_wp2
  go_loopg [7, 8, 9, 10] (min n 300) (fun k va vw vp i wr => ∃ (j : Nat) (pre : List El), k + j = min n 300 ∧ i = .int .i64 j ∧ pre.length = j ∧ S + (j : Int) < 18446744073709551616 ∧ BkS w2 wr va vw vp E S pre)
  case atStart => exact ⟨0, [], by omega, rfl, rfl, by simpa using hS1, BkS.nil w2 E S⟩
  case round =>
    obtain ⟨j, pre, hkj, rfl, hpl, hTop, hB⟩ := hrel
    obtain ⟨xo, xc, rfl⟩ := own_form hB.all
    obtain ⟨yo, yc, rfl⟩ := own_form hB.want.own
    obtain ⟨zo, zc, rfl⟩ := own_form hB.pla
    have HB := hide (And.intro hB hpl)
    clear hB hpl
    have hj300 : j ≤ 300 := by omega
    by_cases hk : 0 < gk
    · have hjn : j < n := by omega
      have hj3 : (j : Int) < 300 := by omega
      have hji : (j : Int) < (n : Int) := by omega
      have hjr : j < rows.length := by have := H.out.1; omega
      obtain ⟨blk, off, hao, hrc⟩ := (H.out.2.1.grown (grown_trans G2.out HB.out.1.gr)) j rows[j] (by simp [hjr])
      subst hao
      obtain ⟨ys, hys⟩ : ∃ ys, ys = rows[j] := ⟨_, rfl⟩
      rw [← hys] at hrc
      clear hys hjr
      obtain ⟨bo, bc, hc0, hat, hnil, hfi, hmo⟩ := hrc.is
      have HY := hide (And.intro hat (And.intro hnil (And.intro hfi (And.intro hmo (And.intro hrc.byt hrc.sm)))))
      have hysm := hrc.sm
      clear hat hnil hfi hmo hrc
      have h0j : (0 : Int) ≤ (j : Int) := by omega
      have hcp := hide (copy_any bo ys.length bc ys wr rfl HY.out.1 HY.out.2.1 (by omega))
      have hw1 : IntKind.u64.wrap (j : Int) = (j : Int) := by rw [IntKind.wrap_u64]; omega
      have hw2 : IntKind.u64.wrap (S + (j : Int)) = S + (j : Int) := by rw [IntKind.wrap_u64]; omega
      by_cases hz : S + (j : Int) + 1 = 18446744073709551616
      · have hw3 : IntKind.u64.wrap (S + (j : Int) + 1) = 0 := by rw [IntKind.wrap_u64]; omega
        have hz' := hide hz
        clear hz
        go_wp2_with fail
        refine hcp.out.mono ?_
        rintro r wa ⟨v, rfl, hv, hg⟩
        obtain ⟨vo, vc, rfl⟩ := own_form hv
        have HBn := hide (And.intro (HB.out.1.grown (grown_trans hg (World.grownBy_alloc wa (.cells #[.int .u64 E, .int .u64 0, .slice vo ys.length vc] 25) none))) HB.out.2)
        clear HB hv hg hcp
        have HB := HBn
        clear HBn
        go_wp2_with fail
        generalize wa.alloc (.cells #[.int .u64 E, .int .u64 0, .slice vo ys.length vc] 25) = wX at *
        rw [show (IntKind.u64.wrap (E + 1)) = (othF E S pre.length).e from by rw [IntKind.wrap_u64]; rfl]
        rw [show (IntKind.u64.wrap (IntKind.u64.wrap (S + IntKind.u64.wrap (pre.length : Int)) + 1)) = (othF E S pre.length).s from by simp only [IntKind.wrap_u64, othF]; omega]
        refine (fput_any (othF E S pre.length) (othF_ok _ _ _) (by simp [othF]) none 0 0 wX rfl (At.nil _ _) (Nat.le_refl _) (by unfold maxLen; omega) (H.out.2.2.grown (grown_trans G2.out HB.out.1.gr)) (tab_lt (H.out.2.2.grown (grown_trans G2.out HB.out.1.gr)))).mono ?_
        rintro r wA ⟨g, rfl, hgl, hrow, hg⟩
        have HB1 := hide (And.intro (HB.out.1.grown hg) HB.out.2)
        have HR := hide (at_row hrow)
        have hfl := fend_len (frs pre)
        have hfm : fend (frs pre) ≤ 300 * 54 := by
          have hc := HB.out.1.chn
          have := fend_most (frs pre) (fun f hf => by obtain ⟨i, hi⟩ := List.getElem?_of_mem hf; exact (hc i f hi).2.2.2)
          rw [frs_length] at this
          have := HB.out.2
          omega
        clear hg hrow hgl HB
        simp only [Nat.add_zero]
        go_wp2_with (at_builtin; refine wpList_append_lie rfl (.tmp 127) (.tmp 128) rfl w2.heap.size _ _ _ rfl HB1.out.1.all (some ⟨g, 0, none⟩) 22 22 (othF E S pre.length).out rfl ((othF E S pre.length).out_length) HR.out (fun e => by cases e) (by omega) (HB1.out.1.gr.size) ?_)
        intro va wB ho hg hloc
        have hkp := HB1.out.1.appd ho hg hloc
        obtain ⟨ao2, ac2, hva, hsrc, hwant, hpla, hgr2, -⟩ := hkp
        subst hva
        have HS : Hid (Src wB ao2 (fend (frs pre) + 22) ac2 (outs (frs pre) ++ (othF E S pre.length).out)) := ⟨hsrc.1, by rw [List.length_append, outs_length, Fr.out_length]; rfl, hsrc.2.1, hsrc.2.2, HB1.out.1.chn.byt.append (Fr.out_byt (othF_ok _ _ _).byt), by omega, H.out.2.2.grown (grown_trans G2.out hgr2)⟩
        have HW := hide (And.intro hwant (And.intro hpla (And.intro hgr2 (And.intro HB1.out.1.chn HB1.out.2))))
        have hrF := back_row HB1.out.1.chn hE0 hE1 pre.length
        clear ho hg hloc hsrc hwant hpla hgr2 HB1 HR
        go_wp2_with fail
        refine (scan_any ao2 _ ac2 _ E S wB HS.out hS0 hS1 (by omega)).mono ?_
        rw [hrF]
        rintro r wC ⟨vl, ls, rfl, hls, hfs, hg⟩
        obtain ⟨lo_, lc, rfl, hlR, -⟩ := hfs.read
        have HS2 := hide (HS.out.grown hg)
        have HW2 := hide (And.intro (HW.out.1.grown hg) (And.intro (own_grown HW.out.2.1 hg) (And.intro (grown_trans HW.out.2.2.1 hg) HW.out.2.2.2)))
        have HLs := hide (And.intro hls hlR)
        clear hg hfs hlR hls HS HW
        go_wp2_with fail
        refine (told_any ao2 _ ac2 _ E S wC HS2.out hS0 hS1 (by omega)).mono ?_
        rw [hrF]
        rintro r wD ⟨vm, vp, ms, rfl, hms, hfs, hps, hg⟩
        obtain ⟨mo, mc, rfl, hmR, -⟩ := hfs.read
        obtain ⟨po, pc, rfl, hpR, hpl2⟩ := own_ints hps
        have HS3 := hide (HS2.out.grown hg)
        have HW3 := hide (And.intro (HW2.out.1.grown hg) (And.intro (own_grown HW2.out.2.1 hg) (And.intro (grown_trans HW2.out.2.2.1 hg) HW2.out.2.2.2)))
        have HLs3 := hide (And.intro HLs.out.1 (HLs.out.2.grown hg))
        have HMs := hide (And.intro hms hmR)
        have HPs := hide hpR
        have hll : ls.length = pre.length := by rw [← frs_length, HLs.out.1, frs_length]
        have hml : ms.length = pre.length := by rw [← frs_length, hms, frs_length]
        rw [hll, hml]
        clear hg hfs hmR hms HS2 HW2 hps hpR hpl2 HLs
        obtain ⟨wo, wc, hwv, hwR, hwc⟩ := HW3.out.1.read
        cases hwv
        obtain ⟨qo, qc, hqv, hqR, hql⟩ := own_ints HW3.out.2.1
        cases hqv
        have HWR := hide (And.intro hwR (And.intro hqR hwc))
        clear hwR hqR hql hwc
        have hpn : pre.length ≤ 300 := by have := HW3.out.2.2.2.2; omega
        obtain ⟨A, hA⟩ : ∃ A, A = fend (frs pre) := ⟨_, rfl⟩
        have HA := hide hA
        have hsub : ((A + 22 : Nat) : Int) - 22 = (A : Int) := by omega
        rw [← hA] at hfm HS3 ⊢
        clear hA hfl
        go_wp2_with fail
        refine (sameFrs lo_ yo pre.length lc yc ls pre wD HLs3.out.1 hll HLs3.out.2 HWR.out.1 (by omega)).mono ?_
        rintro r wE ⟨rfl, hg⟩
        have hgE := hg
        clear hg
        go_wp2_with fail
        refine (sameFrs mo yo pre.length mc yc ms pre wE HMs.out.1 hml (HMs.out.2.grown hgE) (HWR.out.1.grown hgE) (by omega)).mono ?_
        rintro r wF ⟨rfl, hg⟩
        have hgF := grown_trans hgE hg
        clear hg hgE
        go_wp2_with fail
        refine (sameInts po zo pre.length pc zc (plc (frs pre)) wF (by rw [plc_length, frs_length]) (HPs.out.grown hgF) (HWR.out.2.1.grown hgF) (by omega)).mono ?_
        rintro r wG ⟨rfl, hg⟩
        have hgG := grown_trans hgF hg
        have HG := hide hgG
        clear hg hgF hgG
        by_cases h1 : 1 < pre.length
        · have h1i : (1 : Int) < (pre.length : Int) := by omega
          obtain ⟨K, hK⟩ : ∃ K, K = pre.length / 2 := ⟨_, rfl⟩
          have hKi : (pre.length : Int) / 2 = (K : Int) := by omega
          have hKt : Int.tdiv (pre.length : Int) 2 = (K : Int) := by rw [Int.tdiv_eq_ediv_of_nonneg (by omega)]; exact hKi
          have hKp : K < pre.length := by omega
          obtain ⟨P, hP⟩ : ∃ P, P = fend ((frs pre).take K) := ⟨_, rfl⟩
          obtain ⟨gq, hgq, hcq⟩ := (HWR.out.2.1.grown HG.out) K P (by rw [hP]; exact plc_at _ _ (by rw [frs_length]; omega))
          subst hgq
          have hPA : P + 22 ≤ A := by
            have h2 : (frs pre).take (K + 1) <+: frs pre := List.take_prefix _ _
            have h3 := fend_pre h2
            rw [List.take_add_one, List.getElem?_eq_getElem (by rw [frs_length]; omega), Option.toList_some, fend_snoc, ← hP, ← HA.out] at h3
            omega
          have hst : ∀ w', (Instr.slice 23 (.slice ao2 (A + 22) ac2) none (some (.int .i64 ((P : Int) + 5))) none).run Tryd.prog w' = .ok (.slice ao2 (P + 5) ac2) w' := slice_to ao2 (A + 22) ac2 (P + 5) (by have := HS3.out.fits; omega)
          have hPb : P ≤ 16200 := by omega
          have hst41 := slice_to41 yo pre.length yc K (by have := HWR.out.2.2; omega)
          have hKl : (K : Int) < (pre.length : Int) := by omega
          have hS4 : Src wG ao2 (P + 5) ac2 ((outs (frs pre) ++ (othF E S pre.length).out).take (P + 5)) := by
            have hs := HS3.out.grown HG.out
            exact ⟨hs.lies.take _, by have := hs.len; rw [List.length_take, this]; omega, fun e => by have := hs.nil e; omega, by have := hs.fits; omega, hs.byt.take _, by omega, hs.tab⟩
          have hrP : rowF E S ((outs (frs pre) ++ (othF E S pre.length).out).take (P + 5)) = (frs pre).take K := by
            rw [hP]; exact back_part HW3.out.2.2.2.1 K (by rw [frs_length]; omega) _ (Fr.out_byt (othF_ok _ _ _).byt)
          have HS4 := hide hS4
          have HrP := hide hrP
          have HP := hide hP
          have HKk := hide hK
          clear hS4 hrP hP hK
          have hd2 : ((pre.length : Int) / 2) = (K : Int) := hKi
          go_wp2_with fail
          refine (scan_any ao2 (P + 5) ac2 _ E S wG HS4.out hS0 hS1 (by omega)).mono ?_
          rw [HrP.out, ← HP.out]
          rintro r wH ⟨vt, ts, rfl, hts, hfs, hg⟩
          obtain ⟨to_, tc, rfl, htR, -⟩ := hfs.read
          have htl : ts.length = K := by rw [← frs_length, hts, List.length_take, frs_length]; omega
          rw [htl]
          have hgH := grown_trans HG.out hg
          have hcq2 := hg.cell hcq (by simp)
          have HT2 := hide (And.intro hts (And.intro htR (And.intro (HWR.out.1.grown hgH) (grown_trans HW3.out.2.2.1 hgH))))
          clear hg hfs htR hts hgH hcq hst
          go_wp2_with fail
          refine (sameFrs to_ yo K tc yc ts (pre.take K) wH (by rw [HT2.out.1, frs_take]) htl HT2.out.2.1 (HT2.out.2.2.1.take K) (by omega)).mono ?_
          rintro r wI ⟨rfl, hg⟩
          have HGI := hide (grown_trans G2.out (grown_trans HT2.out.2.2.2 hg))
          clear hg
          go_wp2
          go_ret
          exact ⟨rfl, HGI.out⟩
        · have h1i : ¬ (1 : Int) < (pre.length : Int) := by omega
          have HGI := hide (grown_trans G2.out (grown_trans HW3.out.2.2.1 HG.out))
          clear h1
          go_wp2
          go_ret
          exact ⟨rfl, HGI.out⟩
      · have hlt : S + (j : Int) + 1 < 18446744073709551616 := by omega
        have hw3 : IntKind.u64.wrap (S + (j : Int) + 1) = S + (j : Int) + 1 := by rw [IntKind.wrap_u64]; omega
        obtain ⟨Q, hQ⟩ : ∃ Q, Q = S + (j : Int) + 1 := ⟨_, rfl⟩
        rw [← hQ] at hw3 hlt
        have hQ' : S + (j : Int) + 1 = Q := hQ.symm
        have hQ0 : (Q == 0) = false := by simp; omega
        have hQ1 : 0 ≤ Q := by omega
        have HQ := hide hQ
        clear hz hQ
        have hQw : IntKind.u64.wrap Q = Q := by rw [IntKind.wrap_u64]; omega
        go_wp2_with fail
        refine hcp.out.mono ?_
        rintro r wa ⟨v, rfl, hv, hg⟩
        obtain ⟨vo, vc, rfl, q1, q2, q3, q4, q5, q6⟩ := own_at hv
        have ga := World.grownBy_alloc wa (.cells #[.int .u64 E, .int .u64 Q, .slice vo ys.length vc] 25) none
        have BX := hide (heap_alloc_new wa (.cells [Value.int .u64 E, .int .u64 Q, .slice vo ys.length vc].toArray 25))
        have HBn := hide (And.intro (HB.out.1.grown (grown_trans hg ga)) HB.out.2)
        have HV := hide (And.intro (own_grown hv ga) (And.intro (q4.kept ga (fun _ _ e => by cases e)) (And.intro q2 (And.intro q3 (fun y hy => (HB.out.1.want.each y hy).1.size : ∀ y ∈ pre, y.hi ≤ wr.heap.size)))))
        have HVt : Hid (∀ k, (Value.slice vo ys.length vc).ownBlock = some k → k < wa.heap.size) := fun k hk => (hv.lt k hk).2
        have HVa : Hid (∀ k, (Value.slice xo (fend (frs pre)) xc).ownBlock = some k → k < wr.heap.size) := fun k hk => (HB.out.1.all.lt k hk).2
        have HVs : Hid (w2.heap.size ≤ wr.heap.size) := HB.out.1.gr.size
        have HVr : Hid (wr.heap.size ≤ wa.heap.size) := hg.size
        clear HB hv hg hcp ga q1 q2 q3 q4 q5 q6 hw1 hw2 hw3 hQ' hc0
        have HB := HBn
        clear HBn
        simp only [List.toArray] at BX
        obtain ⟨F, hF⟩ : ∃ F, F = wa.heap.size := ⟨_, rfl⟩
        rw [← hF] at BX HVt
        have hwrF : wr.heap.size ≤ F := by rw [hF]; exact HVr.out
        have hfok : Hid ((⟨E, Q, ys⟩ : Fr).Ok) := ⟨hE0, hE1, hQ1, hlt, HY.out.2.2.2.2.1⟩
        go_wp2_with fail
        rw [← hF]
        clear hF
        generalize wa.alloc (.cells #[.int .u64 E, .int .u64 Q, .slice vo ys.length vc] 25) = wb at *
        by_cases h32 : 32 < ys.length
        · refine (put_long E Q vo ys.length vc wb h32 (by omega)).mono ?_
          rintro r wX ⟨rfl, hg⟩
          have BX2 := (hg.block _ (row_lt BX.out) (by simp)).trans BX.out
          obtain ⟨d0, d1, d2⟩ := box_cells BX2
          have HBn := hide (And.intro (HB.out.1.grown hg) HB.out.2)
          clear HB hg BX BX2
          have HB := HBn
          clear HBn
          have h32i : (32 : Int) < (ys.length : Int) := by omega
          go_wp2_with fail
          rw [show (IntKind.u64.wrap (E + 1)) = (othF E S pre.length).e from by rw [IntKind.wrap_u64]; rfl]
          rw [show (IntKind.u64.wrap (IntKind.u64.wrap (S + IntKind.u64.wrap (pre.length : Int)) + 1)) = (othF E S pre.length).s from by simp only [IntKind.wrap_u64, othF]; omega]
          refine (fput_any (othF E S pre.length) (othF_ok _ _ _) (by simp [othF]) none 0 0 wX rfl (At.nil _ _) (Nat.le_refl _) (by unfold maxLen; omega) (H.out.2.2.grown (grown_trans G2.out HB.out.1.gr)) (tab_lt (H.out.2.2.grown (grown_trans G2.out HB.out.1.gr)))).mono ?_
          rintro r wA ⟨g, rfl, hgl, hrow, hg⟩
          have HB1 := hide (And.intro (HB.out.1.grown hg) HB.out.2)
          have HR := hide (at_row hrow)
          have hfl := fend_len (frs pre)
          have hfm : fend (frs pre) ≤ 300 * 54 := by
            have hc := HB.out.1.chn
            have := fend_most (frs pre) (fun f hf => by obtain ⟨i, hi⟩ := List.getElem?_of_mem hf; exact (hc i f hi).2.2.2)
            rw [frs_length] at this
            have := HB.out.2
            omega
          clear hg hrow hgl HB
          simp only [Nat.add_zero]
          go_wp2_with (at_builtin; refine wpList_append_lie rfl (.tmp 127) (.tmp 128) rfl w2.heap.size _ _ _ rfl HB1.out.1.all (some ⟨g, 0, none⟩) 22 22 (othF E S pre.length).out rfl ((othF E S pre.length).out_length) HR.out (fun e => by cases e) (by omega) (HB1.out.1.gr.size) ?_)
          intro va wB ho hg hloc
          have hkp := HB1.out.1.appd ho hg hloc
          obtain ⟨ao2, ac2, hva, hsrc, hwant, hpla, hgr2, -⟩ := hkp
          subst hva
          have HS : Hid (Src wB ao2 (fend (frs pre) + 22) ac2 (outs (frs pre) ++ (othF E S pre.length).out)) := ⟨hsrc.1, by rw [List.length_append, outs_length, Fr.out_length]; rfl, hsrc.2.1, hsrc.2.2, HB1.out.1.chn.byt.append (Fr.out_byt (othF_ok _ _ _).byt), by omega, H.out.2.2.grown (grown_trans G2.out hgr2)⟩
          have HW := hide (And.intro hwant (And.intro hpla (And.intro hgr2 (And.intro HB1.out.1.chn HB1.out.2))))
          have hrF := back_row HB1.out.1.chn hE0 hE1 pre.length
          clear ho hg hloc hsrc hwant hpla hgr2 HB1 HR
          go_wp2_with fail
          refine (scan_any ao2 _ ac2 _ E S wB HS.out hS0 hS1 (by omega)).mono ?_
          rw [hrF]
          rintro r wC ⟨vl, ls, rfl, hls, hfs, hg⟩
          obtain ⟨lo_, lc, rfl, hlR, -⟩ := hfs.read
          have HS2 := hide (HS.out.grown hg)
          have HW2 := hide (And.intro (HW.out.1.grown hg) (And.intro (own_grown HW.out.2.1 hg) (And.intro (grown_trans HW.out.2.2.1 hg) HW.out.2.2.2)))
          have HLs := hide (And.intro hls hlR)
          clear hg hfs hlR hls HS HW
          go_wp2_with fail
          refine (told_any ao2 _ ac2 _ E S wC HS2.out hS0 hS1 (by omega)).mono ?_
          rw [hrF]
          rintro r wD ⟨vm, vp, ms, rfl, hms, hfs, hps, hg⟩
          obtain ⟨mo, mc, rfl, hmR, -⟩ := hfs.read
          obtain ⟨po, pc, rfl, hpR, hpl2⟩ := own_ints hps
          have HS3 := hide (HS2.out.grown hg)
          have HW3 := hide (And.intro (HW2.out.1.grown hg) (And.intro (own_grown HW2.out.2.1 hg) (And.intro (grown_trans HW2.out.2.2.1 hg) HW2.out.2.2.2)))
          have HLs3 := hide (And.intro HLs.out.1 (HLs.out.2.grown hg))
          have HMs := hide (And.intro hms hmR)
          have HPs := hide hpR
          have hll : ls.length = pre.length := by rw [← frs_length, HLs.out.1, frs_length]
          have hml : ms.length = pre.length := by rw [← frs_length, hms, frs_length]
          rw [hll, hml]
          clear hg hfs hmR hms HS2 HW2 hps hpR hpl2 HLs
          obtain ⟨wo, wc, hwv, hwR, hwc⟩ := HW3.out.1.read
          cases hwv
          obtain ⟨qo, qc, hqv, hqR, hql⟩ := own_ints HW3.out.2.1
          cases hqv
          have HWR := hide (And.intro hwR (And.intro hqR hwc))
          clear hwR hqR hql hwc
          have hpn : pre.length ≤ 300 := by have := HW3.out.2.2.2.2; omega
          obtain ⟨A, hA⟩ : ∃ A, A = fend (frs pre) := ⟨_, rfl⟩
          have HA := hide hA
          have hsub : ((A + 22 : Nat) : Int) - 22 = (A : Int) := by omega
          rw [← hA] at hfm HS3 ⊢
          clear hA hfl
          go_wp2_with fail
          refine (sameFrs lo_ yo pre.length lc yc ls pre wD HLs3.out.1 hll HLs3.out.2 HWR.out.1 (by omega)).mono ?_
          rintro r wE ⟨rfl, hg⟩
          have hgE := hg
          clear hg
          go_wp2_with fail
          refine (sameFrs mo yo pre.length mc yc ms pre wE HMs.out.1 hml (HMs.out.2.grown hgE) (HWR.out.1.grown hgE) (by omega)).mono ?_
          rintro r wF ⟨rfl, hg⟩
          have hgF := grown_trans hgE hg
          clear hg hgE
          go_wp2_with fail
          refine (sameInts po zo pre.length pc zc (plc (frs pre)) wF (by rw [plc_length, frs_length]) (HPs.out.grown hgF) (HWR.out.2.1.grown hgF) (by omega)).mono ?_
          rintro r wG ⟨rfl, hg⟩
          have hgG := grown_trans hgF hg
          have HG := hide hgG
          clear hg hgF hgG
          by_cases h1 : 1 < pre.length
          · have h1i : (1 : Int) < (pre.length : Int) := by omega
            obtain ⟨K, hK⟩ : ∃ K, K = pre.length / 2 := ⟨_, rfl⟩
            have hKi : (pre.length : Int) / 2 = (K : Int) := by omega
            have hKt : Int.tdiv (pre.length : Int) 2 = (K : Int) := by rw [Int.tdiv_eq_ediv_of_nonneg (by omega)]; exact hKi
            have hKp : K < pre.length := by omega
            obtain ⟨P, hP⟩ : ∃ P, P = fend ((frs pre).take K) := ⟨_, rfl⟩
            obtain ⟨gq, hgq, hcq⟩ := (HWR.out.2.1.grown HG.out) K P (by rw [hP]; exact plc_at _ _ (by rw [frs_length]; omega))
            subst hgq
            have hPA : P + 22 ≤ A := by
              have h2 : (frs pre).take (K + 1) <+: frs pre := List.take_prefix _ _
              have h3 := fend_pre h2
              rw [List.take_add_one, List.getElem?_eq_getElem (by rw [frs_length]; omega), Option.toList_some, fend_snoc, ← hP, ← HA.out] at h3
              omega
            have hst : ∀ w', (Instr.slice 23 (.slice ao2 (A + 22) ac2) none (some (.int .i64 ((P : Int) + 5))) none).run Tryd.prog w' = .ok (.slice ao2 (P + 5) ac2) w' := slice_to ao2 (A + 22) ac2 (P + 5) (by have := HS3.out.fits; omega)
            have hPb : P ≤ 16200 := by omega
            have hst41 := slice_to41 yo pre.length yc K (by have := HWR.out.2.2; omega)
            have hKl : (K : Int) < (pre.length : Int) := by omega
            have hS4 : Src wG ao2 (P + 5) ac2 ((outs (frs pre) ++ (othF E S pre.length).out).take (P + 5)) := by
              have hs := HS3.out.grown HG.out
              exact ⟨hs.lies.take _, by have := hs.len; rw [List.length_take, this]; omega, fun e => by have := hs.nil e; omega, by have := hs.fits; omega, hs.byt.take _, by omega, hs.tab⟩
            have hrP : rowF E S ((outs (frs pre) ++ (othF E S pre.length).out).take (P + 5)) = (frs pre).take K := by
              rw [hP]; exact back_part HW3.out.2.2.2.1 K (by rw [frs_length]; omega) _ (Fr.out_byt (othF_ok _ _ _).byt)
            have HS4 := hide hS4
            have HrP := hide hrP
            have HP := hide hP
            have HKk := hide hK
            clear hS4 hrP hP hK
            have hd2 : ((pre.length : Int) / 2) = (K : Int) := hKi
            go_wp2_with fail
            refine (scan_any ao2 (P + 5) ac2 _ E S wG HS4.out hS0 hS1 (by omega)).mono ?_
            rw [HrP.out, ← HP.out]
            rintro r wH ⟨vt, ts, rfl, hts, hfs, hg⟩
            obtain ⟨to_, tc, rfl, htR, -⟩ := hfs.read
            have htl : ts.length = K := by rw [← frs_length, hts, List.length_take, frs_length]; omega
            rw [htl]
            have hgH := grown_trans HG.out hg
            have hcq2 := hg.cell hcq (by simp)
            have HT2 := hide (And.intro hts (And.intro htR (And.intro (HWR.out.1.grown hgH) (grown_trans HW3.out.2.2.1 hgH))))
            clear hg hfs htR hts hgH hcq hst
            go_wp2_with fail
            refine (sameFrs to_ yo K tc yc ts (pre.take K) wH (by rw [HT2.out.1, frs_take]) htl HT2.out.2.1 (HT2.out.2.2.1.take K) (by omega)).mono ?_
            rintro r wI ⟨rfl, hg⟩
            have HGI := hide (grown_trans G2.out (grown_trans HT2.out.2.2.2 hg))
            clear hg
            go_wp2
            go_ret
            exact ⟨rfl, HGI.out⟩
          · have h1i : ¬ (1 : Int) < (pre.length : Int) := by omega
            have HGI := hide (grown_trans G2.out (grown_trans HW3.out.2.2.1 HG.out))
            clear h1
            go_wp2
            go_ret
            exact ⟨rfl, HGI.out⟩
        · refine (fput_any ⟨E, Q, ys⟩ hfok.out (show ys.length ≤ 32 by omega) vo ys.length vc wb rfl HV.out.2.1 HV.out.2.2.1 HV.out.2.2.2.1 (H.out.2.2.grown (grown_trans G2.out HB.out.1.gr)) (tab_lt (H.out.2.2.grown (grown_trans G2.out HB.out.1.gr)))).mono ?_
          rintro r wc ⟨g, rfl, hgl, hrow, hg⟩
          have BX2 := hide ((hg.block _ (row_lt BX.out) (by simp)).trans BX.out)
          have HBc := hide (And.intro (HB.out.1.grown hg) HB.out.2)
          have HVc := hide (And.intro (own_grown HV.out.1 hg) (And.intro (HV.out.2.1.kept hg (fun _ _ e => by cases e)) HV.out.2.2.2.2))
          have HR := hide hrow
          have hsz1 : F < wb.heap.size := row_lt BX.out
          have hgwc : wb.heap.size ≤ wc.heap.size := hg.size
          clear HB hg BX HV hrow hgl
          obtain ⟨d0, d1, d2⟩ := box_cells BX2.out
          have h32i : ¬ (32 : Int) < (ys.length : Int) := by omega
          have h32n : ys.length ≤ 32 := by omega
          obtain ⟨M, hM⟩ : ∃ M, M = 22 + ys.length := ⟨_, rfl⟩
          rw [← hM]
          have hM54 : M ≤ 54 := by omega
          have HM := hide hM
          clear hM h32
          go_wp2_with fail
          refine (fget_any (Fr.out ⟨E, Q, ys⟩) (Fr.out_byt hfok.out.byt) (some ⟨g, 0, none⟩) M M wc (by rw [Fr.out_length, HM.out]) (at_row HR.out) (fun e => by cases e) (Nat.le_refl _) (by omega) (H.out.2.2.grown (grown_trans G2.out HBc.out.1.gr))).mono ?_
          rw [show getF (Fr.out ⟨E, Q, ys⟩) = ⟨⟨E, Q, ys⟩, M, 0⟩ from by
            have := getF_out hfok.out (by simpa using h32n) []
            rw [List.append_nil] at this
            rw [this, HM.out]]
          rintro r wd ⟨v, rfl, hv, hg⟩
          simp only [frV] at hv ⊢
          obtain ⟨uo, uc, rfl, q1, q2, q3, q4, q5, q6⟩ := own_at hv
          have ga := World.grownBy_alloc wd (.cells #[.int .u64 E, .int .u64 Q, .slice uo ys.length uc] 25) none
          have BY := hide (heap_alloc_new wd (.cells [Value.int .u64 E, .int .u64 Q, .slice uo ys.length uc].toArray 25))
          have hg' := grown_trans hg ga
          have BX3 := hide ((hg'.block _ (row_lt BX2.out) (by simp)).trans BX2.out)
          have HBd := hide (And.intro (HBc.out.1.grown hg') HBc.out.2)
          have HVd := hide (And.intro (own_grown HVc.out.1 hg') (And.intro (HVc.out.2.1.kept hg' (fun _ _ e => by cases e)) HVc.out.2.2))
          have HU := hide (q4.kept ga (fun _ _ e => by cases e))
          have HRd := hide ((hg'.block _ (row_lt HR.out) (by simp)).trans HR.out)
          have hsz2 : wc.heap.size ≤ (wd.alloc (.cells #[.int .u64 E, .int .u64 Q, .slice uo ys.length uc] 25)).heap.size := hg'.size
          clear hv hg ga hg' BX2 HBc HVc HR q1 q2 q3 q4 q5 q6 d0 d1 d2
          simp only [List.toArray] at BY
          obtain ⟨GX, hGX⟩ : ∃ GX, GX = wd.heap.size := ⟨_, rfl⟩
          rw [← hGX] at BY
          obtain ⟨d0, d1, d2⟩ := box_cells BX3.out
          have hMi : (M : Int) = 22 + (ys.length : Int) := by have := HM.out; omega
          have HMi := hide hMi
          clear hMi
          go_wp2_with fail
          rw [← hGX]
          clear hGX
          generalize wd.alloc (.cells #[.int .u64 E, .int .u64 Q, .slice uo ys.length uc] 25) = we at *
          refine (size_same ys.length we h32n).mono ?_
          rw [← HM.out]
          rintro r wz ⟨rfl, rfl⟩
          obtain ⟨e0, e1, e2⟩ := box_cells BY.out
          go_wp2_with fail
          refine (sameFr E Q vo uo ys.length vc uc ys wz rfl HVd.out.2.1 HU.out (by omega)).mono ?_
          rintro r wf ⟨rfl, hg⟩
          have BX4 := hide ((hg.block _ (row_lt BX3.out) (by simp)).trans BX3.out)
          have HBf := hide (And.intro (HBd.out.1.grown hg) HBd.out.2)
          have HVf := hide (And.intro (own_grown HVd.out.1 hg) HVd.out.2.2)
          have HRf := hide ((hg.block _ (row_lt HRd.out) (by simp)).trans HRd.out)
          have hsz3 : wc.heap.size ≤ wf.heap.size := Nat.le_trans hsz2 hg.size
          clear hg BX3 BY HBd HVd HU HRd d0 d1 d2 e0 e1 e2 hsz2
          obtain ⟨d0, d1, d2⟩ := box_cells BX4.out
          obtain ⟨A, hA⟩ : ∃ A, A = fend (frs pre) := ⟨_, rfl⟩
          have HA := hide hA
          have hAm : A ≤ 54 * 300 := by
            rw [hA]
            have hc := HBf.out.1.chn
            have := fend_most (frs pre) (fun f hf => by obtain ⟨i, hi⟩ := List.getElem?_of_mem hf; exact (hc i f hi).2.2.2)
            rw [frs_length] at this
            have := HBf.out.2
            omega
          rw [← hA] at HBf HVa ⊢
          clear hA
          have hpj : pre.length ≤ 300 := by have := HBf.out.2; omega
          have hcell1 : ∀ jj u, [Value.int .i64 (A : Int)][jj]? = some u → (wf.alloc (.cells #[.int .i64 (A : Int)] 3)).cell? ((⟨wf.heap.size, 0, none⟩ : Addr).add jj) = some u := by
            intro jj u hu
            rw [Addr.add_lit, Nat.zero_add, cell_row (heap_alloc_new wf (.cells [Value.int .i64 (A : Int)].toArray 3))]
            exact hu
          have HC1 := hide hcell1
          clear hcell1
          obtain ⟨i3, hi, hz0, hz1, hz2⟩ := info_parts Tryd.info3
          have HI3 := hide (And.intro hi (And.intro hz0 (And.intro hz1 hz2)))
          clear hi hz0 hz1 hz2
          obtain ⟨i25, hi, hz0, hz1, hz2⟩ := info_parts Tryd.info25
          have HI25 := hide (And.intro hi (And.intro hz0 (And.intro hz1 hz2)))
          clear hi hz0 hz1 hz2
          have hbase : w2.heap.size ≤ wf.heap.size := HBf.out.1.gr.size
          go_wp2_with (at_builtin; refine wpList_append_own _ rfl (.tmp 102) (.tmp 105) 47 rfl w2.heap.size 3 i3 (.int .i64 0) 1 8 Tryd.underlying47 HI3.out.1 HI3.out.2.1 HI3.out.2.2.1 HI3.out.2.2.2 rfl (by decide) (.slice zo pre.length zc) pre.length (ints (plc (frs pre))) rfl (own_grown HBf.out.1.pla (World.grownBy_alloc wf _ none)) ⟨wf.heap.size, 0, none⟩ 1 1 [.int .i64 (A : Int)] rfl rfl HC1.out (by simp [Value.oneCell']) (by unfold maxLen; omega) (by omega) (by simp; omega) ?_)
          intro vp' wg hoP hgP _
          have gaP := World.grownBy_alloc wf (.cells #[.int .i64 (A : Int)] 3) none
          have opl := own_grown HBf.out.1.pla gaP
          have all1 := own_app (own_grown HBf.out.1.all gaP) opl hgP (by decide)
          rw [← HA.out] at all1
          have wan1 := fs_app (HBf.out.1.want.grown gaP) opl hgP (by decide) (by decide)
          have vx1 := own_app (own_grown HVf.out.1 gaP) opl hgP (by decide)
          have bx1 := box_app ((gaP.block _ (row_lt BX4.out) (by simp)).trans BX4.out) opl hgP (by decide)
          have gr1 := grown_then (grown_trans HBf.out.1.gr gaP) hgP (fun jj e => Or.inl (opl.lt jj e).1)
          have rb1 := box_app ((gaP.block _ (row_lt HRf.out) (by simp)).trans HRf.out) opl hgP (by decide)
          obtain ⟨zo', zc', rfl⟩ := own_form hoP
          have H1 := hide (And.intro all1 (And.intro wan1 (And.intro vx1 (And.intro bx1 (And.intro gr1 (And.intro rb1 hoP))))))
          have HDs : Hid (∀ k, (Value.slice xo A xc).ownBlock = some k → ∀ y ∈ pre, y.v.ownBlock ≠ some k) := HBf.out.1.dis
          have HCh : Hid (Chn E S (frs pre) ∧ pre.length = j) := ⟨HBf.out.1.chn, HBf.out.2⟩
          have hszg : wf.heap.size ≤ wg.heap.size := by have := gaP.size; have := hgP.size; omega
          clear hoP hgP gaP opl all1 wan1 vx1 bx1 gr1 rb1 HBf HRf BX4 d0 d1 d2 HC1
          go_wp2_with (at_builtin; refine wpList_append_lie rfl (.tmp 107) (.tmp 108) rfl w2.heap.size (.slice xo A xc) A ((outs (frs pre)).map (Value.int .u8)) rfl H1.out.1 (some ⟨g, 0, none⟩) M M (Fr.out ⟨E, Q, ys⟩) rfl (by rw [Fr.out_length, HM.out]) (at_row H1.out.2.2.2.2.2.1) (fun e => by cases e) (by omega) (by omega) ?_)
          intro va' wh hoA hgA hloc
          obtain ⟨all1, wan1, vx1, bx1, gr1, rb1, pl1⟩ := H1.out
          have wan2 : FsAt wh w2.heap.size (.slice yo pre.length yc) pre := ⟨own_app wan1.own all1 hgA (by decide), fun y hy => ⟨(wan1.each y hy).1.other hgA (fun k hk => HDs.out k hk y hy), (wan1.each y hy).2⟩, wan1.apart⟩
          have pl2 := own_app pl1 all1 hgA (by decide)
          have bx2 := box_app bx1 all1 hgA (by decide)
          have gr2 := grown_then gr1 hgA (fun jj e => Or.inl (all1.lt jj e).1)
          have vx2 : wh.ownsRow wr.heap.size 5 1 (.slice vo ys.length vc) ys.length (ys.map (Value.int .u8)) := vx1.kept hgA (by
            cases hb : (Value.slice vo ys.length vc).ownBlock with
            | none => exact Or.inl rfl
            | some k => exact Or.inr (fun e => by have := HVa.out k e.symm; have := (vx1.lt k hb).1; omega))
          obtain ⟨xo', xc', rfl⟩ := own_form hoA
          rw [← List.map_append, ← outs_snoc] at hoA
          have H2 := hide (And.intro hoA (And.intro wan2 (And.intro vx2 (And.intro bx2 (And.intro gr2 (And.intro pl2 (And.intro hloc hgA.size)))))))
          clear all1 wan1 vx1 bx1 gr1 rb1 pl1 hoA hgA hloc wan2 pl2 bx2 gr2 vx2 H1
          obtain ⟨d0, d1, d2⟩ := box_cells H2.out.2.2.2.1
          have hszh : wg.heap.size ≤ wh.heap.size := H2.out.2.2.2.2.2.2.2
          go_wp2_with (at_builtin; refine wpList_append_own _ rfl (.tmp 110) (.tmp 112) 41 rfl w2.heap.size 25 i25 (.agg #[.int .u64 0, .int .u64 0, .slice none 0 0]) 3 40 Tryd.underlying41 HI25.out.1 HI25.out.2.1 HI25.out.2.2.1 HI25.out.2.2.2 rfl (by decide) (.slice yo pre.length yc) pre.length (fcl pre) rfl (own_grown H2.out.2.1.own (World.grownBy_alloc wh _ none)) ⟨wh.heap.size, 0, none⟩ 1 1 [.int .u64 E, .int .u64 Q, .slice vo ys.length vc] rfl rfl (cell3_new _ _ _ _ _) (by simp [Value.oneCell']) (by unfold maxLen; omega) (by omega) (by simp; omega) ?_)
          intro vw' wi hoW hgW _
          have HF : Hid (BkS w2 wi (.slice xo' (A + M) xc') vw' (.slice zo' (pre.length + 1) zc') E S (pre ++ [⟨A, ⟨E, Q, ys⟩, .slice vo ys.length vc, wr.heap.size, F⟩])) := by
            obtain ⟨hoA, wan2, vx2, bx2, gr2, pl2, hloc, -⟩ := H2.out
            have gaW := World.grownBy_alloc wh (.cells #[.int .u64 E, .int .u64 Q, .slice vo ys.length vc] 25) none
            have ow := own_grown wan2.own gaW
            have hfx : frs (pre ++ [⟨A, ⟨E, Q, ys⟩, .slice vo ys.length vc, wr.heap.size, F⟩]) = frs pre ++ [⟨E, Q, ys⟩] := frs_snoc _ _
            refine ⟨?_, (wan2.grown gaW).push hoW hgW (El.At.grown ⟨vx2, HVt.out, show F ≤ wh.heap.size by omega⟩ gaW) HVs.out hfok.out h32n HVf.out.2, ?_, grown_then (grown_trans gr2 gaW) hgW (fun jj e => Or.inl (ow.lt jj e).1), ?_, ?_⟩
            · rw [hfx, fend_snoc, ← HA.out, ← HM.out]
              exact own_app (own_grown hoA gaW) ow hgW (by decide)
            · rw [hfx, plc_snoc, ints_snoc, ← HA.out, List.length_append]
              exact own_app (own_grown pl2 gaW) ow hgW (by decide)
            · rw [hfx]
              refine HCh.out.1.snoc rfl ?_ hfok.out h32n
              rw [frs_length, HCh.out.2]
              exact HQ.out
            · intro k hk y hy
              rcases List.mem_append.1 hy with h1 | h1
              · rcases hloc with h2 | h2
                · exact HDs.out k (h2 ▸ hk) y h1
                · intro hyk
                  have h3 := (wan2.each y h1).1.top k hyk
                  have h4 := HVf.out.2 y h1
                  rw [h2] at hk
                  cases hk
                  omega
              · simp only [List.mem_singleton] at h1
                subst h1
                intro hyk
                simp only at hyk
                rcases hloc with h2 | h2
                · have h3 := HVa.out k (h2 ▸ hk)
                  have h4 := (vx2.lt k hyk).1
                  omega
                · have h3 := HVt.out k hyk
                  rw [h2] at hk
                  cases hk
                  omega
          obtain ⟨yo', yc', rfl⟩ := own_form hoW
          have hQl : S + ((j + 1 : Nat) : Int) < 18446744073709551616 := by have := HQ.out; omega
          clear hoW hgW H2 d0 d1 d2
          go_wp2
          go_roundg (gk - 1)
          case measure => omega
          case rel =>
            refine ⟨j + 1, pre ++ [⟨A, ⟨E, Q, ys⟩, .slice vo ys.length vc, wr.heap.size, F⟩], by omega, by go_num, by simp [HCh.out.2], hQl, ?_⟩
            exact HF.out
    · have hd : ¬ ((j : Int) < (n : Int) ∧ (j : Int) < 300) := by omega
      have hcase : (j : Int) < (n : Int) ∨ (n : Int) ≤ (j : Int) := by omega
      have hkj' := hide hkj
      clear hkj hk
      rcases hcase with h1 | h1
      case' inl =>
        have h2 : ¬ (j : Int) < 300 := by omega
        have h3 : j = 300 := by omega
        clear hd h2 hj300
        go_wp2_with fail
      case' inr =>
        have h2 : decide ((j : Int) < (n : Int)) = false := by simp; omega
        clear hd
        go_wp2_with fail
      all_goals
        rw [show (IntKind.u64.wrap (E + 1)) = (othF E S pre.length).e from by rw [IntKind.wrap_u64]; rfl]
        rw [show (IntKind.u64.wrap (IntKind.u64.wrap (S + IntKind.u64.wrap (pre.length : Int)) + 1)) = (othF E S pre.length).s from by simp only [IntKind.wrap_u64, othF]; omega]
        refine (fput_any (othF E S pre.length) (othF_ok _ _ _) (by simp [othF]) none 0 0 wr rfl (At.nil _ _) (Nat.le_refl _) (by unfold maxLen; omega) (H.out.2.2.grown (grown_trans G2.out HB.out.1.gr)) (tab_lt (H.out.2.2.grown (grown_trans G2.out HB.out.1.gr)))).mono ?_
        rintro r wA ⟨g, rfl, hgl, hrow, hg⟩
        have HB1 := hide (And.intro (HB.out.1.grown hg) HB.out.2)
        have HR := hide (at_row hrow)
        have hfl := fend_len (frs pre)
        have hfm : fend (frs pre) ≤ 300 * 54 := by
          have hc := HB.out.1.chn
          have := fend_most (frs pre) (fun f hf => by obtain ⟨i, hi⟩ := List.getElem?_of_mem hf; exact (hc i f hi).2.2.2)
          rw [frs_length] at this
          have := HB.out.2
          omega
        clear hg hrow hgl HB
        simp only [Nat.add_zero]
        go_wp2_with (at_builtin; refine wpList_append_lie rfl (.tmp 127) (.tmp 128) rfl w2.heap.size _ _ _ rfl HB1.out.1.all (some ⟨g, 0, none⟩) 22 22 (othF E S pre.length).out rfl ((othF E S pre.length).out_length) HR.out (fun e => by cases e) (by omega) (HB1.out.1.gr.size) ?_)
        intro va wB ho hg hloc
        have hkp := HB1.out.1.appd ho hg hloc
        obtain ⟨ao2, ac2, hva, hsrc, hwant, hpla, hgr2, -⟩ := hkp
        subst hva
        have HS : Hid (Src wB ao2 (fend (frs pre) + 22) ac2 (outs (frs pre) ++ (othF E S pre.length).out)) := ⟨hsrc.1, by rw [List.length_append, outs_length, Fr.out_length]; rfl, hsrc.2.1, hsrc.2.2, HB1.out.1.chn.byt.append (Fr.out_byt (othF_ok _ _ _).byt), by omega, H.out.2.2.grown (grown_trans G2.out hgr2)⟩
        have HW := hide (And.intro hwant (And.intro hpla (And.intro hgr2 (And.intro HB1.out.1.chn HB1.out.2))))
        have hrF := back_row HB1.out.1.chn hE0 hE1 pre.length
        clear ho hg hloc hsrc hwant hpla hgr2 HB1 HR
        go_wp2_with fail
        refine (scan_any ao2 _ ac2 _ E S wB HS.out hS0 hS1 (by omega)).mono ?_
        rw [hrF]
        rintro r wC ⟨vl, ls, rfl, hls, hfs, hg⟩
        obtain ⟨lo_, lc, rfl, hlR, -⟩ := hfs.read
        have HS2 := hide (HS.out.grown hg)
        have HW2 := hide (And.intro (HW.out.1.grown hg) (And.intro (own_grown HW.out.2.1 hg) (And.intro (grown_trans HW.out.2.2.1 hg) HW.out.2.2.2)))
        have HLs := hide (And.intro hls hlR)
        clear hg hfs hlR hls HS HW
        go_wp2_with fail
        refine (told_any ao2 _ ac2 _ E S wC HS2.out hS0 hS1 (by omega)).mono ?_
        rw [hrF]
        rintro r wD ⟨vm, vp, ms, rfl, hms, hfs, hps, hg⟩
        obtain ⟨mo, mc, rfl, hmR, -⟩ := hfs.read
        obtain ⟨po, pc, rfl, hpR, hpl2⟩ := own_ints hps
        have HS3 := hide (HS2.out.grown hg)
        have HW3 := hide (And.intro (HW2.out.1.grown hg) (And.intro (own_grown HW2.out.2.1 hg) (And.intro (grown_trans HW2.out.2.2.1 hg) HW2.out.2.2.2)))
        have HLs3 := hide (And.intro HLs.out.1 (HLs.out.2.grown hg))
        have HMs := hide (And.intro hms hmR)
        have HPs := hide hpR
        have hll : ls.length = pre.length := by rw [← frs_length, HLs.out.1, frs_length]
        have hml : ms.length = pre.length := by rw [← frs_length, hms, frs_length]
        rw [hll, hml]
        clear hg hfs hmR hms HS2 HW2 hps hpR hpl2 HLs
        obtain ⟨wo, wc, hwv, hwR, hwc⟩ := HW3.out.1.read
        cases hwv
        obtain ⟨qo, qc, hqv, hqR, hql⟩ := own_ints HW3.out.2.1
        cases hqv
        have HWR := hide (And.intro hwR (And.intro hqR hwc))
        clear hwR hqR hql hwc
        have hpn : pre.length ≤ 300 := by have := HW3.out.2.2.2.2; omega
        obtain ⟨A, hA⟩ : ∃ A, A = fend (frs pre) := ⟨_, rfl⟩
        have HA := hide hA
        have hsub : ((A + 22 : Nat) : Int) - 22 = (A : Int) := by omega
        rw [← hA] at hfm HS3 ⊢
        clear hA hfl
        go_wp2_with fail
        refine (sameFrs lo_ yo pre.length lc yc ls pre wD HLs3.out.1 hll HLs3.out.2 HWR.out.1 (by omega)).mono ?_
        rintro r wE ⟨rfl, hg⟩
        have hgE := hg
        clear hg
        go_wp2_with fail
        refine (sameFrs mo yo pre.length mc yc ms pre wE HMs.out.1 hml (HMs.out.2.grown hgE) (HWR.out.1.grown hgE) (by omega)).mono ?_
        rintro r wF ⟨rfl, hg⟩
        have hgF := grown_trans hgE hg
        clear hg hgE
        go_wp2_with fail
        refine (sameInts po zo pre.length pc zc (plc (frs pre)) wF (by rw [plc_length, frs_length]) (HPs.out.grown hgF) (HWR.out.2.1.grown hgF) (by omega)).mono ?_
        rintro r wG ⟨rfl, hg⟩
        have hgG := grown_trans hgF hg
        have HG := hide hgG
        clear hg hgF hgG
        by_cases h1 : 1 < pre.length
        · have h1i : (1 : Int) < (pre.length : Int) := by omega
          obtain ⟨K, hK⟩ : ∃ K, K = pre.length / 2 := ⟨_, rfl⟩
          have hKi : (pre.length : Int) / 2 = (K : Int) := by omega
          have hKt : Int.tdiv (pre.length : Int) 2 = (K : Int) := by rw [Int.tdiv_eq_ediv_of_nonneg (by omega)]; exact hKi
          have hKp : K < pre.length := by omega
          obtain ⟨P, hP⟩ : ∃ P, P = fend ((frs pre).take K) := ⟨_, rfl⟩
          obtain ⟨gq, hgq, hcq⟩ := (HWR.out.2.1.grown HG.out) K P (by rw [hP]; exact plc_at _ _ (by rw [frs_length]; omega))
          subst hgq
          have hPA : P + 22 ≤ A := by
            have h2 : (frs pre).take (K + 1) <+: frs pre := List.take_prefix _ _
            have h3 := fend_pre h2
            rw [List.take_add_one, List.getElem?_eq_getElem (by rw [frs_length]; omega), Option.toList_some, fend_snoc, ← hP, ← HA.out] at h3
            omega
          have hst : ∀ w', (Instr.slice 23 (.slice ao2 (A + 22) ac2) none (some (.int .i64 ((P : Int) + 5))) none).run Tryd.prog w' = .ok (.slice ao2 (P + 5) ac2) w' := slice_to ao2 (A + 22) ac2 (P + 5) (by have := HS3.out.fits; omega)
          have hPb : P ≤ 16200 := by omega
          have hst41 := slice_to41 yo pre.length yc K (by have := HWR.out.2.2; omega)
          have hKl : (K : Int) < (pre.length : Int) := by omega
          have hS4 : Src wG ao2 (P + 5) ac2 ((outs (frs pre) ++ (othF E S pre.length).out).take (P + 5)) := by
            have hs := HS3.out.grown HG.out
            exact ⟨hs.lies.take _, by have := hs.len; rw [List.length_take, this]; omega, fun e => by have := hs.nil e; omega, by have := hs.fits; omega, hs.byt.take _, by omega, hs.tab⟩
          have hrP : rowF E S ((outs (frs pre) ++ (othF E S pre.length).out).take (P + 5)) = (frs pre).take K := by
            rw [hP]; exact back_part HW3.out.2.2.2.1 K (by rw [frs_length]; omega) _ (Fr.out_byt (othF_ok _ _ _).byt)
          have HS4 := hide hS4
          have HrP := hide hrP
          have HP := hide hP
          have HKk := hide hK
          clear hS4 hrP hP hK
          have hd2 : ((pre.length : Int) / 2) = (K : Int) := hKi
          go_wp2_with fail
          refine (scan_any ao2 (P + 5) ac2 _ E S wG HS4.out hS0 hS1 (by omega)).mono ?_
          rw [HrP.out, ← HP.out]
          rintro r wH ⟨vt, ts, rfl, hts, hfs, hg⟩
          obtain ⟨to_, tc, rfl, htR, -⟩ := hfs.read
          have htl : ts.length = K := by rw [← frs_length, hts, List.length_take, frs_length]; omega
          rw [htl]
          have hgH := grown_trans HG.out hg
          have hcq2 := hg.cell hcq (by simp)
          have HT2 := hide (And.intro hts (And.intro htR (And.intro (HWR.out.1.grown hgH) (grown_trans HW3.out.2.2.1 hgH))))
          clear hg hfs htR hts hgH hcq hst
          go_wp2_with fail
          refine (sameFrs to_ yo K tc yc ts (pre.take K) wH (by rw [HT2.out.1, frs_take]) htl HT2.out.2.1 (HT2.out.2.2.1.take K) (by omega)).mono ?_
          rintro r wI ⟨rfl, hg⟩
          have HGI := hide (grown_trans G2.out (grown_trans HT2.out.2.2.2 hg))
          clear hg
          go_wp2
          go_ret
          exact ⟨rfl, HGI.out⟩
        · have h1i : ¬ (1 : Int) < (pre.length : Int) := by omega
          have HGI := hide (grown_trans G2.out (grown_trans HW3.out.2.2.1 HG.out))
          clear h1
          go_wp2
          go_ret
          exact ⟨rfl, HGI.out⟩
end Go.Proofs.YtoeehajdmdmemaaDoor
