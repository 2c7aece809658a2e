/- Texts joined: SlJ, SlV. -/
import Derived.Test.YtonokaelbpfjnaaGreatDoorJhBb
import Derived.Deep.CutRange
import Derived.Deep.DeepCutAuto
/- The document's Read. -/
namespace Go.Proofs.YtonokaelbpfjnaaGreatDoor.Fm
open Go.RowKit
attribute [local go_sem ↓] Go.wp_at_zero Go.wp_at_succ
set_option maxRecDepth 20000 in
set_option maxHeartbeats 4000000 in
theorem rread_any (xs : List Int) (hB : Byt xs) (ao : Option Addr) (n cap : Nat) (w : World) (hn : xs.length = n) (hat : At w ao xs) (hc : n ≤ cap) (hm : n ≤ 140737488355328) :
    Calls Tryz.prog 15 #[.slice ao n cap] w fun r w' => r = .returned (.tuple #[hdV (readH xs).1, .int .i64 (readH xs).2]) ∧ w.grownBy w' none := by
  have HF := hide (And.intro hB (And.intro hn hat))
  clear hB hat
  by_cases h32 : n < 32
  · have hr := readH_short xs (by omega)
    rw [hr]
    have h32' : (n : Int) < 32 := by omega
    clear hr
    unfold hdV zHd
    go_enter Tryz.func15, Tryz.ntmps15
    go_wp2_with fail
    obtain ⟨e0, e1, e2, e3⟩ := box4 (heap_alloc_new w (.cells [Value.int .u64 0, .int .u64 0, .int .i64 0, .int .u32 0].toArray 35))
    have EG := hide (World.grownBy_alloc w (.cells #[.int .u64 0, .int .u64 0, .int .i64 0, .int .u32 0] 35) none)
    generalize (w.alloc (.cells #[.int .u64 0, .int .u64 0, .int .i64 0, .int .u32 0] 35)) = w1 at *
    refine bodyPost_ret (v := .tuple #[.agg #[.int .u64 0, .int .u64 0, .int .i64 0, .int .u32 0], .int .i64 4]) ?_ rfl ?_
    · rw [results_cell_tmp1 rfl]; go_simp
    exact ⟨rfl, EG.out⟩
  · obtain ⟨E, hE⟩ : ∃ E, E = xs.take 32 := ⟨_, rfl⟩
    have hEl : E.length = 32 := by rw [hE, List.length_take, hn]; omega
    have hEb : Byt E := by rw [hE]; exact HF.out.1.take 32
    have hEa : At w ao E := by rw [hE]; exact HF.out.2.2.take 32
    have hr : readH xs = (if HGood E then (if (hdOf E).May then (hdOf E, 0) else (zHd, 2)) else (zHd, 81)) := by unfold readH; rw [if_neg (by omega), ← hE]
    rw [hr]
    clear hr hE HF
    have h32' : (32 : Int) ≤ (n : Int) := by omega
    have s4 : ∀ w, (Instr.slice 36 (.slice ao n cap) none (some (.int .i64 4)) none).run Tryz.prog w = .ok (.slice ao 4 cap) w := fun w => slice_to ao n cap 4 (by omega) w
    have s28 : ∀ w, (Instr.slice 36 (.slice ao n cap) none (some (.int .i64 28)) none).run Tryz.prog w = .ok (.slice ao 28 cap) w := fun w => slice_to ao n cap 28 (by omega) w
    have t28 : ∀ w, (Instr.slice 36 (.slice ao n cap) (some (.int .i64 28)) (some (.int .i64 32)) none).run Tryz.prog w = .ok (.slice (cutA ao 28 cap) 4 (cap - 28)) w := fun w => slice_lh ao n cap 28 32 (by decide) (by omega) w
    have t4 : ∀ w, (Instr.slice 36 (.slice ao n cap) (some (.int .i64 4)) (some (.int .i64 12)) none).run Tryz.prog w = .ok (.slice (cutA ao 4 cap) 8 (cap - 4)) w := fun w => slice_lh ao n cap 4 12 (by decide) (by omega) w
    have t12 : ∀ w, (Instr.slice 36 (.slice ao n cap) (some (.int .i64 12)) (some (.int .i64 20)) none).run Tryz.prog w = .ok (.slice (cutA ao 12 cap) 8 (cap - 12)) w := fun w => slice_lh ao n cap 12 20 (by decide) (by omega) w
    have t20 : ∀ w, (Instr.slice 36 (.slice ao n cap) (some (.int .i64 20)) (some (.int .i64 24)) none).run Tryz.prog w = .ok (.slice (cutA ao 20 cap) 4 (cap - 20)) w := fun w => slice_lh ao n cap 20 24 (by decide) (by omega) w
    have t24 : ∀ w, (Instr.slice 36 (.slice ao n cap) (some (.int .i64 24)) (some (.int .i64 28)) none).run Tryz.prog w = .ok (.slice (cutA ao 24 cap) 4 (cap - 24)) w := fun w => slice_lh ao n cap 24 28 (by decide) (by omega) w
    have V : ∀ (o k : Nat), o + k ≤ 32 → k ≤ 8 → o < 32 → ∀ w', w.grownBy w' none → Calls Tryz.prog 69 #[.slice (cutA ao o cap) k (cap - o)] w' fun e w'' => e = .returned (.int .u64 (leV ((E.drop o).take k))) ∧ w'' = w' := fun o k h1 h2 h3 w' g' =>
      value_any (cutA ao o cap) k (cap - o) ((E.drop o).take k) w' (by rw [List.length_take, List.length_drop, hEl]; omega) (((hEa.kept g' (fun _ _ e => by cases e)).cut o cap (by omega)).take k) ((hEb.drop o).take k) h2
    have W28 := hide (V 28 4 (by decide) (by decide) (by decide))
    have W4 := hide (V 4 8 (by decide) (by decide) (by decide))
    have W12 := hide (V 12 8 (by decide) (by decide) (by decide))
    have W20 := hide (V 20 4 (by decide) (by decide) (by decide))
    have W24 := hide (V 24 4 (by decide) (by decide) (by decide))
    have WS : Hid (∀ w', w.grownBy w' none → Calls Tryz.prog 31 #[.slice ao 28 cap] w' fun e w'' => e = .returned (.int .u32 (sumI (E.take 28))) ∧ w'' = w') := fun w' g' =>
      Cr.rsum_any ao 28 cap (nats (E.take 28)) w' (by rw [nats_length, List.length_take, hEl]; rfl) (nats_lt (hEb.take 28)) (((hEa.kept g' (fun _ _ e => by cases e)).take 28).nats (hEb.take 28)) (by decide)
    have hgood : HGood E ↔ E.take 4 = [71, 65, 78, 71] ∧ leV ((E.drop 28).take 4) = sumI (E.take 28) := by unfold HGood; simp only [List.drop_drop]
    have hhd : hdOf E = ⟨leV ((E.drop 4).take 8), leV ((E.drop 12).take 8), leV ((E.drop 20).take 4), leV ((E.drop 24).take 4)⟩ := by unfold hdOf; simp only [List.drop_drop]
    have hl4 : (E.take 4).length = 4 := by rw [List.length_take, hEl]; rfl
    have HE := hide (And.intro hEl (And.intro hEb hEa))
    clear V
    by_cases h4 : E.take 4 = [71, 65, 78, 71]
    · have hcv2 := fun q => conv_four (cap := cap) hl4 (hEb.take 4) ((hEa.kept (grown_trans (World.grownBy_alloc w (.cells #[.int .u64 0, .int .u64 0, .int .i64 0, .int .u32 0] 35) none) (grown_drewN _ q none)) (fun _ _ e => by cases e)).take 4)
      rw [h4, show strOfNums [71, 65, 78, 71] = ⟨#[71, 65, 78, 71]⟩ from rfl] at hcv2
      have BX := hide (And.intro (heap_alloc_new w (.cells [Value.int .u64 0, .int .u64 0, .int .i64 0, .int .u32 0].toArray 35)) (World.grownBy_alloc w (.cells #[.int .u64 0, .int .u64 0, .int .i64 0, .int .u32 0] 35) none))
      have hgd : HGood E ↔ leV ((E.drop 28).take 4) = sumI (E.take 28) := ⟨fun e => (hgood.1 e).2, fun e => hgood.2 ⟨h4, e⟩⟩
      have HGD := hide hgd
      have hsb := sumI_lt (hEb.take 28)
      generalize leV ((E.drop 28).take 4) = LV at *
      generalize sumI (E.take 28) = SV at *
      have hwS : IntKind.u64.wrap SV = SV := by rw [IntKind.wrap_u64]; omega
      clear hgd hgood hl4 h4
      by_cases hlv : LV = SV
      · subst hlv
        rw [if_pos (HGD.out.2 rfl), hhd]
        have B1 := leV_bound ((E.drop 4).take 8) ((hEb.drop 4).take 8)
        have B2 := leV_bound ((E.drop 12).take 8) ((hEb.drop 12).take 8)
        have B3 := leV_bound ((E.drop 20).take 4) ((hEb.drop 20).take 4)
        have B4 := leV_bound ((E.drop 24).take 4) ((hEb.drop 24).take 4)
        have k8 : ∀ o, o + 8 ≤ 32 → ((E.drop o).take 8).length = 8 := fun o ho => by rw [List.length_take, List.length_drop, hEl]; omega
        have k4 : ∀ o, o + 4 ≤ 32 → ((E.drop o).take 4).length = 4 := fun o ho => by rw [List.length_take, List.length_drop, hEl]; omega
        rw [k8 4 (by decide)] at B1
        rw [k8 12 (by decide)] at B2
        rw [k4 20 (by decide)] at B3
        rw [k4 24 (by decide)] at B4
        generalize leV ((E.drop 4).take 8) = g0 at *
        generalize leV ((E.drop 12).take 8) = g1 at *
        generalize leV ((E.drop 20).take 4) = g2 at *
        generalize leV ((E.drop 24).take 4) = g3 at *
        have B3' : g2 < 4294967296 := B3.2
        have B4' : g3 < 4294967296 := B4.2
        have B1' : g0 < 18446744073709551616 := B1.2
        have B2' : g1 < 18446744073709551616 := B2.2
        have hw2 : IntKind.i64.wrap g2 = g2 := by rw [IntKind.wrap_i64]; omega
        have hw3 : IntKind.u32.wrap g3 = g3 := by rw [IntKind.wrap_u32]; omega
        have hok : Hd.Ok ⟨g0, g1, g2, g3⟩ := ⟨B1.1, B1', B2.1, B2', by simp only; omega, by simp only; omega, B4.1, B4'⟩
        have HMy := hide (fun w => rmay_any ⟨g0, g1, g2, g3⟩ hok w)
        clear k8 k4 B1 B2 B3 B4 B1' B2' B3' B4' hhd HGD hok
        obtain ⟨res, hres⟩ : ∃ res : Hd × Int, res = (if (Hd.mk g0 g1 g2 g3).May then (⟨g0, g1, g2, g3⟩, 0) else (zHd, 2)) := ⟨_, rfl⟩
        rw [← hres]
        have HRES := hide hres
        clear hres
        generalize cutA ao 4 cap = A4 at *
        generalize cap - 4 = C4 at *
        generalize cutA ao 12 cap = A12 at *
        generalize cap - 12 = C12 at *
        generalize cutA ao 20 cap = A20 at *
        generalize cap - 20 = C20 at *
        generalize cutA ao 24 cap = A24 at *
        generalize cap - 24 = C24 at *
        go_enter Tryz.func15, Tryz.ntmps15
        go_wp2_with fail
        generalize (w.alloc (.cells #[.int .u64 0, .int .u64 0, .int .i64 0, .int .u32 0] 35)) = w1 at *
        go_quiet (first | (go_at_call 69; exact Calls.quiet_of_same (W28.out _ (grown_trans BX.out.2 (grown_drewN w1 _ none)))) | (go_at_call 31; exact Calls.quiet_of_same (WS.out _ (grown_trans BX.out.2 (grown_drewN w1 _ none)))))
        clear hcv2 W28 WS s4 s28 t28
        have B2x := hide (And.intro (((grown_drewN w1 nq none).block _ (row_lt BX.out.1) (by simp)).trans BX.out.1) (grown_trans BX.out.2 (grown_drewN w1 nq none)))
        clear BX
        generalize w1.drewN nq = w2 at *
        go_wp2_with fail
        have Ga := hide (grown_trans B2x.out.2 (grown_drew w2 none))
        have Gb := hide (grown_trans B2x.out.2 (grown_trans (World.grownBy_alloc w2 (.cells #[.int .u64 0, .int .u64 0, .int .i64 0, .int .u32 0] 35) none) (grown_drew _ none)))
        go_cut [4] (fun s4 wx => ∃ X, s4 = .pointer (some ⟨X, 0, none⟩) ∧ Hid (w2.grownBy wx none ∧ wx.heap[X]? = some (.cells [Value.int .u64 g0, .int .u64 g1, .int .i64 g2, .int .u32 g3].toArray 35 (0, 0))))
        case first =>
          go_region_law (go_simp; go_wp2_with (first
            | (go_at_call_of 69 (Value.slice A4 8 C4); (first | (have hq := W4.out _ Ga.out; with_reducible refine hq.mono ?_; clear hq) | (have hq := W4.out _ Gb.out; refine hq.mono ?_; clear hq)); rintro e3 w3 ⟨rfl, hw3⟩; obtain rfl := hw3.symm; clear hw3)
            | (go_at_call_of 69 (Value.slice A12 8 C12); (first | (have hq := W12.out _ Ga.out; with_reducible refine hq.mono ?_; clear hq) | (have hq := W12.out _ Gb.out; refine hq.mono ?_; clear hq)); rintro e3 w3 ⟨rfl, hw3⟩; obtain rfl := hw3.symm; clear hw3)
            | (go_at_call_of 69 (Value.slice A20 4 C20); (first | (have hq := W20.out _ Ga.out; with_reducible refine hq.mono ?_; clear hq) | (have hq := W20.out _ Gb.out; refine hq.mono ?_; clear hq)); rintro e3 w3 ⟨rfl, hw3⟩; obtain rfl := hw3.symm; clear hw3)
            | (go_at_call_of 69 (Value.slice A24 4 C24); (first | (have hq := W24.out _ Ga.out; with_reducible refine hq.mono ?_; clear hq) | (have hq := W24.out _ Gb.out; refine hq.mono ?_; clear hq)); rintro e3 w3 ⟨rfl, hw3⟩; obtain rfl := hw3.symm; clear hw3)))
          all_goals
            go_wp2
            go_meet
            case rel => exact ⟨_, rfl, ⟨grown_trans (World.grownBy_alloc w2 _ none) (grown_drew _ none), heap_alloc_new w2 _⟩⟩
        case rest =>
        obtain ⟨X, rfl, HX⟩ := hcut
        clear Ga Gb W4 W12 W20 W24 t4 t12 t20 t24
        obtain ⟨k0, k1, k2, k3⟩ := box4 HX.out.2
        have QM := HMy.out wc
        clear HMy
        unfold hdV at QM
        by_cases hM : (Hd.mk g0 g1 g2 g3).May
        · rw [show decide (Hd.mk g0 g1 g2 g3).May = true from decide_eq_true hM] at QM
          go_wp2_with fail
          refine QM.mono ?_
          clear QM k0 k1 k2 k3
          rintro e w8 ⟨rfl, g8⟩
          have b8 := (g8.block _ (row_lt HX.out.2) (by simp)).trans HX.out.2
          have gz := grown_trans HX.out.1 g8
          have z8 := (gz.block _ (row_lt B2x.out.1) (by simp)).trans B2x.out.1
          obtain ⟨c0, c1, c2, c3⟩ := box4 b8
          obtain ⟨d0, d1, d2, d3⟩ := box4 z8
          have f0 := free_row z8 0
          have f1 := free_row z8 1
          have f2 := free_row z8 2
          have f3 := free_row z8 3
          obtain ⟨eb, eg⟩ := set4 z8 (.int .u64 g0) (.int .u64 g1) (.int .i64 g2) (.int .u32 g3)
          have EG := hide (And.intro eb (grown_then (grown_trans B2x.out.2 gz) eg (fun j e => by cases e; exact Or.inl (Nat.le_refl _))))
          clear eb eg b8 z8 gz g8
          go_wp2
          clear c0 c1 c2 c3 d0 d1 d2 d3 f0 f1 f2 f3
          generalize (((w8.setCell ⟨w.heap.size, 0, none⟩ (.int .u64 g0)).setCell ⟨w.heap.size, 1, none⟩ (.int .u64 g1)).setCell ⟨w.heap.size, 2, none⟩ (.int .i64 g2)).setCell ⟨w.heap.size, 3, none⟩ (.int .u32 g3) = w9 at *
          obtain ⟨e0, e1, e2, e3⟩ := box4 EG.out.1
          refine bodyPost_ret (v := .tuple #[.agg #[.int .u64 g0, .int .u64 g1, .int .i64 g2, .int .u32 g3], .int .i64 0]) ?_ rfl ?_
          · rw [results_cell_tmp1 rfl]; go_simp
          exact ⟨by rw [HRES.out, if_pos hM]; rfl, EG.out.2⟩
        · rw [show decide (Hd.mk g0 g1 g2 g3).May = false from decide_eq_false hM] at QM
          go_wp2_with fail
          refine QM.mono ?_
          clear QM k0 k1 k2 k3
          rintro e w8 ⟨rfl, g8⟩
          have gz := grown_trans HX.out.1 g8
          have z8 := (gz.block _ (row_lt B2x.out.1) (by simp)).trans B2x.out.1
          obtain ⟨d0, d1, d2, d3⟩ := box4 z8
          have f0 := free_row z8 0
          have f1 := free_row z8 1
          have f2 := free_row z8 2
          have f3 := free_row z8 3
          obtain ⟨eb, eg⟩ := set4 z8 (.int .u64 0) (.int .u64 0) (.int .i64 0) (.int .u32 0)
          have EG := hide (And.intro eb (grown_then (grown_trans B2x.out.2 gz) eg (fun j e => by cases e; exact Or.inl (Nat.le_refl _))))
          clear eb eg z8 gz g8
          go_wp2
          clear d0 d1 d2 d3 f0 f1 f2 f3
          generalize (((w8.setCell ⟨w.heap.size, 0, none⟩ (.int .u64 0)).setCell ⟨w.heap.size, 1, none⟩ (.int .u64 0)).setCell ⟨w.heap.size, 2, none⟩ (.int .i64 0)).setCell ⟨w.heap.size, 3, none⟩ (.int .u32 0) = w9 at *
          obtain ⟨e0, e1, e2, e3⟩ := box4 EG.out.1
          refine bodyPost_ret (v := .tuple #[.agg #[.int .u64 0, .int .u64 0, .int .i64 0, .int .u32 0], .int .i64 2]) ?_ rfl ?_
          · rw [results_cell_tmp1 rfl]; go_simp
          exact ⟨by rw [HRES.out, if_neg hM]; rfl, EG.out.2⟩
      · rw [if_neg (fun e => hlv (HGD.out.1 e))]
        have hd2 : (LV == SV) = false := by simpa using hlv
        unfold hdV zHd
        go_enter Tryz.func15, Tryz.ntmps15
        go_wp2_with fail
        generalize (w.alloc (.cells #[.int .u64 0, .int .u64 0, .int .i64 0, .int .u32 0] 35)) = w1 at *
        go_quiet (first | (go_at_call 69; exact Calls.quiet_of_same (W28.out _ (grown_trans BX.out.2 (grown_drewN w1 _ none)))) | (go_at_call 31; exact Calls.quiet_of_same (WS.out _ (grown_trans BX.out.2 (grown_drewN w1 _ none)))))
        clear hcv2
        have b2 := ((grown_drewN w1 nq none).block _ (row_lt BX.out.1) (by simp)).trans BX.out.1
        obtain ⟨c0, c1, c2, c3⟩ := box4 b2
        have f0 := free_row b2 0
        have f1 := free_row b2 1
        have f2 := free_row b2 2
        have f3 := free_row b2 3
        obtain ⟨eb, eg⟩ := set4 b2 (.int .u64 0) (.int .u64 0) (.int .i64 0) (.int .u32 0)
        have EG := hide (And.intro eb (grown_then (grown_trans BX.out.2 (grown_drewN w1 nq none)) eg (fun j e => by cases e; exact Or.inl (Nat.le_refl _))))
        clear b2 eb eg
        generalize w1.drewN nq = w2 at *
        go_wp2_with fail
        clear c0 c1 c2 c3 f0 f1 f2 f3
        generalize (((w2.setCell ⟨w.heap.size, 0, none⟩ (.int .u64 0)).setCell ⟨w.heap.size, 1, none⟩ (.int .u64 0)).setCell ⟨w.heap.size, 2, none⟩ (.int .i64 0)).setCell ⟨w.heap.size, 3, none⟩ (.int .u32 0) = w3 at *
        obtain ⟨e0, e1, e2, e3⟩ := box4 EG.out.1
        refine bodyPost_ret (v := .tuple #[.agg #[.int .u64 0, .int .u64 0, .int .i64 0, .int .u32 0], .int .i64 81]) ?_ rfl ?_
        · rw [results_cell_tmp1 rfl]; go_simp
        exact ⟨rfl, EG.out.2⟩
    · have hbad : ¬ HGood E := fun e => h4 (hgood.1 e).1
      rw [if_neg hbad]
      have hmg := magic_str (hEb.take 4) hl4 h4
      have g1 := World.grownBy_alloc w (.cells #[.int .u64 0, .int .u64 0, .int .i64 0, .int .u32 0] 35) none
      have hcv := conv_four (cap := cap) hl4 (hEb.take 4) ((hEa.kept g1 (fun _ _ e => by cases e)).take 4)
      have hcv2 := fun q => conv_four (cap := cap) hl4 (hEb.take 4) ((hEa.kept (grown_trans g1 (grown_drewN _ q none)) (fun _ _ e => by cases e)).take 4)
      have BX := hide (And.intro (heap_alloc_new w (.cells [Value.int .u64 0, .int .u64 0, .int .i64 0, .int .u32 0].toArray 35)) g1)
      generalize strOfNums (E.take 4) = sv at *
      clear h4 hgood hhd W4 W12 W20 W24 g1 hbad
      unfold hdV zHd
      go_enter Tryz.func15, Tryz.ntmps15
      go_wp2_with fail
      generalize (w.alloc (.cells #[.int .u64 0, .int .u64 0, .int .i64 0, .int .u32 0] 35)) = w1 at *
      go_quiet (fail)
      clear hcv hcv2
      have b2 := ((grown_drewN w1 nq none).block _ (row_lt BX.out.1) (by simp)).trans BX.out.1
      obtain ⟨c0, c1, c2, c3⟩ := box4 b2
      have f0 := free_row b2 0
      have f1 := free_row b2 1
      have f2 := free_row b2 2
      have f3 := free_row b2 3
      obtain ⟨eb, eg⟩ := set4 b2 (.int .u64 0) (.int .u64 0) (.int .i64 0) (.int .u32 0)
      have EG := hide (And.intro eb (grown_then (grown_trans BX.out.2 (grown_drewN w1 nq none)) eg (fun j e => by cases e; exact Or.inl (Nat.le_refl _))))
      clear b2 eb eg
      generalize w1.drewN nq = w2 at *
      go_wp2_with fail
      clear c0 c1 c2 c3 f0 f1 f2 f3
      generalize (((w2.setCell ⟨w.heap.size, 0, none⟩ (.int .u64 0)).setCell ⟨w.heap.size, 1, none⟩ (.int .u64 0)).setCell ⟨w.heap.size, 2, none⟩ (.int .i64 0)).setCell ⟨w.heap.size, 3, none⟩ (.int .u32 0) = w3 at *
      obtain ⟨e0, e1, e2, e3⟩ := box4 EG.out.1
      refine bodyPost_ret (v := .tuple #[.agg #[.int .u64 0, .int .u64 0, .int .i64 0, .int .u32 0], .int .i64 81]) ?_ rfl ?_
      · rw [results_cell_tmp1 rfl]; go_simp
      exact ⟨rfl, EG.out.2⟩
end Go.Proofs.YtonokaelbpfjnaaGreatDoor.Fm
/- The walk of SlotsHeaders. -/
namespace Go.Proofs.YtonokaelbpfjnaaGreatDoor
open Go.RowKit Ap
attribute [local go_sem ↓] Go.wp_at_zero Go.wp_at_succ
open Fm in
/-- A header's bytes, or none; its code. -/
def outH (h : Hd) : List Int := if h.May then h.out else []
def codeH (h : Fm.Hd) : Int := if h.May then 0 else 2
theorem outH_le (h : Fm.Hd) : (outH h).length ≤ 32 := by
  unfold outH
  split
  · rw [h.out_length]; omega
  · simp
theorem header_u (h : Fm.Hd) (hok : h.Ok) (w : World) (hT : Fm.Tab w) (hw : 0 < w.heap.size) : Calls Tryz.prog 11 #[Fm.hdV h] w fun r w' => ∃ ao c, r = .returned (.tuple #[.slice ao (outH h).length c, .int .i64 (codeH h)]) ∧ Fm.At w' ao (outH h) ∧ w.grownBy w' none := by
  by_cases hm : h.May
  · rw [show outH h = h.out from if_pos hm, show codeH h = 0 from if_pos hm, h.out_length]
    refine (Fm.header_any h hok hm w hT hw).mono ?_
    rintro e w' ⟨g, rfl, _, hr, hg⟩
    exact ⟨_, _, rfl, Fm.at_row hr, hg⟩
  · rw [show outH h = [] from if_neg hm, show codeH h = 2 from if_neg hm]
    refine (Fm.header_bad h hm w).mono ?_
    rintro e w' ⟨rfl, hg⟩
    exact ⟨_, _, rfl, Fm.At.nil _ _, hg⟩
theorem rheader_u (h : Fm.Hd) (hok : h.Ok) (w : World) : Calls Tryz.prog 12 #[Fm.hdV h] w fun r w' => ∃ ao c, r = .returned (.tuple #[.slice ao (outH h).length c, .int .i64 (codeH h)]) ∧ Fm.At w' ao (outH h) ∧ w.grownBy w' none := by
  by_cases hm : h.May
  · rw [show outH h = h.out from if_pos hm, show codeH h = 0 from if_pos hm, h.out_length]
    refine (Fm.rheader_any h hok hm w).mono ?_
    rintro e w' ⟨v, rfl, ho, hg⟩
    obtain ⟨ao, c, rfl, _, _, _, ha, _⟩ := Fm.own_at ho
    exact ⟨_, _, rfl, ha, hg⟩
  · rw [show outH h = [] from if_neg hm, show codeH h = 2 from if_neg hm]
    refine (Fm.rheader_bad h hok hm w).mono ?_
    rintro e w' ⟨rfl, hg⟩
    exact ⟨_, _, rfl, Fm.At.nil _ _, hg⟩
theorem at_intz {w : World} {ao : Option Addr} {xs : List Nat} (h : Ap.At w ao xs) : Fm.At w ao (intz xs) := by
  intro j u hu
  unfold intz at hu
  rw [List.getElem?_map] at hu
  cases hj : xs[j]? with
  | none => simp [hj] at hu
  | some x =>
    simp [hj] at hu
    obtain ⟨a, ha, hc⟩ := h j x hj
    exact ⟨a, ha, by rw [← hu]; exact hc⟩
set_option maxRecDepth 20000 in
set_option maxHeartbeats 8000000 in
theorem slotsHeaders_any (h : Fm.Hd) (hok : h.Ok) (ao : Option Addr) (n cap : Nat) (xs : List Int) (hn : xs.length = n) (hnil : ao = none → n = 0 ∧ cap = 0) (hS : n ≤ 140737488351232) (hB : Fm.Byt xs) (hc : n ≤ cap) (w : World) (hat : Fm.At w ao xs) (hT : Fm.Tab w) (hw : 0 < w.heap.size) :
    Calls Tryz.prog 4 #[Fm.hdV h, .slice ao n cap] w fun e w' => e = .returned (.bool true) ∧ w.grownBy w' none := by
  have b0 := heap_alloc_new w (.cells (Fm.hdC h).toArray 35)
  have g0 := World.grownBy_alloc w (.cells (Fm.hdC h).toArray 35) none
  have A := hide (awake_any _ (hT.grown g0))
  have HX := hide (And.intro hB (And.intro hn (And.intro hat (And.intro hT (And.intro hw hok)))))
  have H0 := hide (And.intro b0 g0)
  have QH := hide (fun w1 (h1 : Fm.Tab w1) (h2 : 0 < w1.heap.size) => header_u h hok w1 h1 h2)
  have QR := hide (fun w1 => rheader_u h hok w1)
  have HL := hide (outH_le h)
  clear b0 g0 hB hat hT hw hok
  generalize codeH h = CH at *
  generalize hO : outH h = O at *
  generalize hLO : O.length = LO at *
  have HLO := hide hLO
  clear hO hLO
  obtain ⟨h1, h2, h3, h4⟩ := h
  unfold Fm.hdV Fm.hdC at *
  dsimp only at *
  go_enter Tryz.func4, Tryz.ntmps4
  go_wp2_with fail
  generalize w.alloc (.cells #[.int .u64 h1, .int .u64 h2, .int .i64 h3, .int .u32 h4] 35) = w1 at *
  generalize hX : w.heap.size = X at *
  have HXs := hide hX
  clear hX
  refine A.out.mono ?_
  rintro e w2 ⟨rfl, hg⟩
  have H2 := hide (And.intro ((hg.block _ (row_lt H0.out.1) (by simp)).trans H0.out.1) (grown_trans H0.out.2 hg))
  clear hg A H0
  obtain ⟨c0, c1, c2, c3⟩ := Fm.box4 H2.out.1
  go_wp2_with fail
  clear c0 c1 c2 c3
  refine (QH.out w2 (HX.out.2.2.2.1.grown H2.out.2) (by have h1 := H2.out.2.size; have h2 := HXs.out; have h3 := HX.out.2.2.2.2.1; omega)).mono ?_
  rintro e w3 ⟨a3, k3, rfl, ha3, hg⟩
  have H3 := hide (And.intro ((hg.block _ (row_lt H2.out.1) (by simp)).trans H2.out.1) (And.intro (grown_trans H2.out.2 hg) ha3))
  clear hg ha3 H2 QH
  obtain ⟨c0, c1, c2, c3⟩ := Fm.box4 H3.out.1
  go_wp2_with fail
  clear c0 c1 c2 c3
  refine (QR.out w3).mono ?_
  rintro e w4 ⟨a4, k4, rfl, ha4, hg⟩
  have H4 := hide (And.intro (grown_trans H3.out.2.1 hg) (And.intro (H3.out.2.2.kept hg (fun _ _ e => by cases e)) ha4))
  clear hg ha4 H3 QR
  go_wp2_with fail
  refine (Fm.lent_any ao n cap xs w4 hn (HX.out.2.2.1.kept H4.out.1 (fun _ _ e => by cases e)) hnil (by omega)).mono ?_
  rintro e w5 ⟨v, rfl, hl, hg⟩
  obtain ⟨g, lc, rfl, l1, l2, l3, l4, l5, cur, l6, l7⟩ := hl.all
  obtain ⟨_, _, hv, _, _, _, _, a5, _⟩ := hl.at
  cases hv
  have HL5 := hide (And.intro l1 (And.intro l2 (And.intro l5 (And.intro (grown_trans H4.out.1 hg) (And.intro (H4.out.2.1.kept hg (fun _ _ e => by cases e)) (H4.out.2.2.kept hg (fun _ _ e => by cases e)))))))
  have q := Fm.read_any xs HX.out.1 (some ⟨g, 0, none⟩) n lc w5 hn a5 (fun e => by cases e) (by omega) (by omega) (HX.out.2.2.2.1.grown HL5.out.2.2.2.1)
  clear l1 l2 l3 l4 l5 l6 l7 hl a5 hg H4
  rw [hn]
  obtain ⟨r, hr⟩ : ∃ r, r = Fm.readH xs := ⟨_, rfl⟩
  rw [← hr] at q
  obtain ⟨⟨r1, r2, r3, r4⟩, code⟩ := r
  unfold Fm.hdV at q
  dsimp only at q
  have HR := hide hr
  clear hr
  go_wp2_with fail
  refine q.mono ?_
  clear q
  rintro e w6 ⟨rfl, hg⟩
  have b7 := heap_alloc_new w6 (.cells [Value.int .u64 r1, .int .u64 r2, .int .i64 r3, .int .u32 r4].toArray 35)
  have g7 := World.grownBy_alloc w6 (.cells #[.int .u64 r1, .int .u64 r2, .int .i64 r3, .int .u32 r4] 35) none
  have G7 := hide (And.intro b7 (grown_trans hg g7))
  clear b7 g7 hg
  go_wp2_with fail
  generalize w6.alloc (.cells #[.int .u64 r1, .int .u64 r2, .int .i64 r3, .int .u32 r4] 35) = w7 at *
  generalize w6.heap.size = Y at *
  have q := Fm.rread_any xs HX.out.1 ao n cap w7 hn (HX.out.2.2.1.kept (grown_trans HL5.out.2.2.2.1 G7.out.2) (fun _ _ e => by cases e)) hc (by omega)
  rw [← HR.out] at q
  unfold Fm.hdV at q
  dsimp only at q
  refine q.mono ?_
  clear q
  rintro e w8 ⟨rfl, hg⟩
  have b9 := heap_alloc_new w8 (.cells [Value.int .u64 r1, .int .u64 r2, .int .i64 r3, .int .u32 r4].toArray 35)
  have g9 := World.grownBy_alloc w8 (.cells #[.int .u64 r1, .int .u64 r2, .int .i64 r3, .int .u32 r4] 35) none
  have gg := grown_trans hg g9
  have G9 := hide (And.intro b9 (And.intro ((gg.block _ (row_lt G7.out.1) (by simp)).trans G7.out.1) (grown_trans G7.out.2 gg)))
  clear b9 g9 hg gg G7
  go_wp2_with fail
  generalize w8.alloc (.cells #[.int .u64 r1, .int .u64 r2, .int .i64 r3, .int .u32 r4] 35) = w9 at *
  generalize w8.heap.size = Y2 at *
  refine (Fm.same_eq a3 a4 LO k3 k4 O w9 HLO.out (HL5.out.2.2.2.2.1.kept G9.out.2.2 (fun _ _ e => by cases e)) (HL5.out.2.2.2.2.2.kept G9.out.2.2 (fun _ _ e => by cases e)) (by have := HL.out; omega)).mono ?_
  rintro e w10 ⟨rfl, hg⟩
  have G10 := hide (And.intro ((hg.block _ (row_lt G9.out.1) (by simp)).trans G9.out.1) (And.intro ((hg.block _ (row_lt G9.out.2.1) (by simp)).trans G9.out.2.1) (grown_trans G9.out.2.2 hg)))
  clear hg G9
  obtain ⟨x0, x1, x2, x3⟩ := Fm.box4 G10.out.1
  obtain ⟨y0, y1, y2, y3⟩ := Fm.box4 G10.out.2.1
  go_wp2_with fail
  clear x0 x1 x2 x3 y0 y1 y2 y3
  refine (Fm.kept_any g lc ao n cap xs w10 hn (by have := HL5.out.1; omega) HL5.out.2.1 (HL5.out.2.2.1.kept G10.out.2.2 (fun _ _ e => by cases e)) (HX.out.2.2.1.kept (grown_trans HL5.out.2.2.2.1 G10.out.2.2) (fun _ _ e => by cases e)) (by omega)).mono ?_
  rintro e w11 ⟨rfl, hg⟩
  have G11 := hide (grown_trans HL5.out.2.2.2.1 (grown_trans G10.out.2.2 hg))
  clear hg
  go_wp2
  go_ret
  exact ⟨rfl, G11.out⟩
end Go.Proofs.YtonokaelbpfjnaaGreatDoor
