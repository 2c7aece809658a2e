/- Texts joined: Tu2. -/
import Derived.Test.YtonokaelbpfjnaaGreatDoorJtAa
import Derived.Deep.CutRange
import Derived.Deep.DeepCutAuto
/- The walk of SlotsTurns. -/
namespace Go.Proofs.YtonokaelbpfjnaaGreatDoor
open Go.RowKit Ap
attribute [local go_sem ↓] Go.wp_at_zero Go.wp_at_succ
/-- A row of ints that came in. -/
def IAt (w : World) (lo : Option Addr) (ls : List Int) : Prop := ∀ j u, ls[j]? = some u → ∃ a, lo = some a ∧ w.cell? (a.add j) = some (.int .i64 u)
theorem IAt.grown {w w' : World} {lo : Option Addr} {ls : List Int} (h : IAt w lo ls) (hg : w.grownBy w' none) : IAt w' lo ls := by
  intro j u hu
  obtain ⟨a, ha, hc⟩ := h j u hu
  exact ⟨a, ha, hg.cell hc (by simp)⟩
theorem fill_ex (x : Int) (n : Nat) (hn : n ≤ 65536) (w : World) : Calls Tryz.prog 23 #[.int .i64 x, .int .i64 (n : Int)] w fun e w' => ∃ g, e = .returned (.slice (some ⟨g, 0, none⟩) n n) ∧ w.heap.size ≤ g ∧ w'.heap[g]? = some (.cells (bv (fillN x n)).toArray 5 (0, 0)) ∧ w.grownBy w' none := by
  refine (fill_any x n hn w).mono ?_
  rintro e w' ⟨rfl, h1, h2⟩
  exact ⟨_, rfl, Nat.le_refl _, h1, h2⟩
def TuA (u : World) (X b sl ra rb c : Nat) (k : Dk) (T : List Nat) (wr : World) : Prop := BoP u wr X b sl ra rb 0 5 4 (frD c) k T []
set_option maxRecDepth 20000 in
set_option maxHeartbeats 16000000 in
theorem slotsTurns_any (lo : Option Addr) (ln lc : Nat) (ls : List Int) (hls : ls.length = ln) (hbig : ln ≤ 4611686018427387904) (cov : Int) (_hc0 : 0 ≤ cov) (_hc1 : cov < 18446744073709551616) (fo : Option Addr) (fn fc : Nat) (F : List (Int × Int)) (hfn : F.length = fn) (w : World) (hat : IAt w lo ls) (hF : FIn w fo fc F) (hT : Fm.Cr.Tab w) :
    Calls Tryz.prog 6 #[.slice lo ln lc, .int .u64 cov, .slice fo fn fc] w fun e w' => e = .returned (.bool true) ∧ w.grownBy w' none := by
  have A := hide (awake_any w hT)
  have HA := hide (And.intro hat (And.intro hF (And.intro hT (And.intro hls hfn))))
  clear hat hF hT hfn
  go_enter Tryz.func6, Tryz.ntmps6
  go_wp2_with fail
  refine A.out.mono ?_
  rintro e u ⟨rfl, g1⟩
  have HU := hide (And.intro g1 (And.intro (HA.out.1.grown g1) (And.intro (HA.out.2.1.grown g1) (HA.out.2.2.1.grown g1))))
  clear g1 A
  go_wp2_with fail
  refine (made_zero u).mono ?_
  rintro e w1 ⟨X, b, sl, ra, rb, k1, rfl, hB1, -⟩
  have B1 : Hid (BoP u w1 X b sl ra rb 0 5 4 (frD 0) k1 (zs 640) []) := hB1
  clear hB1
  go_wp2
  obtain ⟨M, hM⟩ : ∃ M, M = min ln 40 := ⟨_, rfl⟩
  have HM := hide hM
  clear hM
  go_loopg [9] M (fun q i wr => ∃ (j : Nat) (k : Dk) (T : List Nat) (c : Nat), q + j = M ∧ i = .int .i64 (j : Int) ∧ Hid (c ≤ 100 ∧ BoP u wr X b sl ra rb 0 5 4 (frD c) k T [] ∧ Tst T j))
  case atStart => exact ⟨0, k1, zs 640, 0, by omega, rfl, hide ⟨by omega, B1.out, .inl ⟨rfl, rfl⟩⟩⟩
  case round =>
    clear B1
    obtain ⟨j, k, T, c, hkj, rfl, HS⟩ := hrel
    by_cases hk : 0 < gk
    · have hj0 : (0 : Int) ≤ (j : Int) := by omega
      have hj1 : (j : Int) < (ln : Int) := by have := HM.out; omega
      have hj2 : (j : Int) < 40 := by have := HM.out; omega
      obtain ⟨R, hfd, hRg, hRF, hRn⟩ := HS.out.2.2.saved (by omega)
      have HR := hide (And.intro hfd (And.intro hRg (And.intro hRF hRn)))
      clear hfd hRg hRF hRn
      obtain ⟨x, hx⟩ : ∃ x, ls[j]? = some x := ⟨_, List.getElem?_eq_getElem (by rw [hls]; omega)⟩
      obtain ⟨a, rfl, hcx⟩ := HU.out.2.1 j x hx
      have hu := HS.out.2.1.dev.disk.grown
      have c1 := (grown_trans hu (grown_drew wr none)).cell hcx (by simp)
      have hA : TuA u X b sl ra rb c k T wr.drew := HS.out.2.1.grown (grown_drew wr none)
      obtain ⟨-, c2⟩ := BoP.cell hA
      clear hcx hx hu
      have HBy : Hid (∀ w5, TuA u X b sl ra rb c k T w5 → Calls Tryz.prog 24 #[.pointer (some ⟨sl, 0, none⟩)] w5 fun e w' => e = .returned (.int .i64 192) ∧ w5.grownBy w' none) := fun w5 h => sBytes_at (BoP.hsl h) (BoP.dev h) (BoP.hra h) (by decide) (by decide) (by decide)
      obtain ⟨p, hp⟩ : ∃ p, p = (x % ((193 : Nat) : Int)).toNat := ⟨_, rfl⟩
      have hp2 : p ≤ 192 := by have := Int.emod_lt_of_pos x (show (0 : Int) < ((193 : Nat) : Int) by decide); have := Int.emod_nonneg x (show ((193 : Nat) : Int) ≠ 0 by decide); omega
      have HPk : Hid (∀ w5, Calls Tryz.prog 18 #[.int .i64 x, .int .i64 193] w5 fun e w' => e = .returned (.int .i64 (p : Int)) ∧ w' = w5) := fun w5 => by rw [hp]; exact pick_nat x 193 (by decide) (by decide) w5
      clear hp
      have HFi : Hid (∀ w5, Calls Tryz.prog 23 #[.int .i64 (j : Int), .int .i64 (p : Int)] w5 fun e w' => ∃ g, e = .returned (.slice (some ⟨g, 0, none⟩) p p) ∧ w5.heap.size ≤ g ∧ w'.heap[g]? = some (.cells (bv (fillN (j : Int) p)).toArray 5 (0, 0)) ∧ w5.grownBy w' none) := fun w5 => fill_ex (j : Int) p (by omega) w5
      go_wp2_with fail
      go_region_held3 (fun w' => w'.cell? (a.add j) = some (.int .i64 x) ∧ w'.cell? ⟨X, 1, none⟩ = some (.pointer (some ⟨sl, 0, none⟩)) ∧ TuA u X b sl ra rb c k T w')
        (first | assumption | exact ⟨c1, c2, hA⟩)
        ((first
          | (go_at_call 24; obtain ⟨d1, d2, hI⟩ := ‹_ ∧ _ ∧ TuA u X b sl ra rb c k T _›; refine (HBy.out _ hI).mono ?_; rintro e w5 ⟨rfl, hg5⟩; have hJ : TuA u X b sl ra rb c k T w5 := BoP.grown hI hg5; have hK := And.intro (hg5.cell d1 (by simp)) (And.intro (hg5.cell d2 (by simp)) hJ))
          | (go_at_call 18; refine (HPk.out _).mono ?_; rintro e w5 ⟨rfl, rfl⟩)
          | (go_at_call 23; obtain ⟨d1, d2, hI⟩ := ‹_ ∧ _ ∧ TuA u X b sl ra rb c k T _›; refine (HFi.out _).mono ?_; rintro e w6 ⟨g, rfl, hlo, hrow, hg5⟩; have hgn := new_off (BoP.dev hI) hlo; have hJ : TuA u X b sl ra rb c k T w6 := BoP.grown hI hg5; have hK := And.intro (hg5.cell d1 (by simp)) (And.intro (hg5.cell d2 (by simp)) hJ))))
      have Q6 : Hid (SvQ 200 u w6 X b sl ra rb c g k T (fillN (j : Int) p)) := ⟨hJ, hrow, hgn, by have := HS.out.1; omega⟩
      have hyl := fillN_length (j : Int) p
      have hyb := fillN_bytes (j : Int) p
      generalize fillN (j : Int) p = ys at *
      have HY := hide (And.intro hyl hyb)
      obtain ⟨-, x1⟩ := BoP.cell hJ
      clear hK hJ hgn hg5 hrow hlo hyl hyb c1 c2 HBy HPk HFi
      rename_i hHeld
      clear hHeld
      obtain ⟨V, hV⟩ : ∃ V, IntKind.u64.wrap (cov + (j : Int)) = V := ⟨_, rfl⟩
      have HV : Hid (0 ≤ V ∧ V < 18446744073709551616) := by rw [← hV, IntKind.wrap_u64]; exact ⟨Int.emod_nonneg _ (by decide), Int.emod_lt_of_pos _ (by decide)⟩
      have hj64 : IntKind.u64.wrap (j : Int) = (j : Int) := by rw [IntKind.wrap_u64]; omega
      obtain ⟨hd, hhd⟩ : ∃ hd, hd = nxH R.1 V ys := ⟨_, rfl⟩
      have HCp : Hid (∀ w5, w6.grownBy w5 none → Calls Tryz.prog 28 #[.slice (some ⟨g, 0, none⟩) p p] w5 fun e w' => ∃ ao ac, e = .returned (.slice ao p ac) ∧ CpA w6 w' ao ac ys ∧ w5.grownBy w' none) := fun w5 g5 => by
        have := copy_turn (w4 := w6) (w := w5) (g := g) (ys := ys) (by have := HY.out.1; omega) g5.size ((g5.block _ (row_lt Q6.out.row) (by simp)).trans Q6.out.row)
        rw [HY.out.1] at this
        exact this
      have HSv : Hid (∀ w5, w6.grownBy w5 none → ∀ ao ac, CpA w6 w5 ao ac ys → Calls Tryz.prog 27 #[.pointer (some ⟨sl, 0, none⟩), .slice ao p ac, .int .u64 V] w5 fun e w' => ∃ k' c', e = .returned (.tuple #[.agg #[.int .u64 hd.g, .int .u64 hd.c, .int .i64 hd.n, .int .u32 hd.s], .int .i64 0]) ∧ SvQ 120 u w' X b sl ra rb c' g k' (svT T 64 (tF j) hd ys) ys ∧ ∀ (K : Nat) (cc : Array Value) (fr : Nat × Nat), w5.heap[K]? = some (.cells cc 35 fr) → w'.heap[K]? = some (.cells cc 35 fr)) := fun w5 g5 ao ac hcp => by
        have := save_turn Q6.out g5 HS.out.1 HR.out.1 HS.out.2.2.len HS.out.2.2.byt HU.out.2.2.2 HY.out.2 (by have := HY.out.1; omega) V HV.out.1 HV.out.2 (by have := HR.out.2.1; omega) HR.out.2.2.1 ao ac hcp
        rw [HY.out.1, ← hhd] at this
        exact this
      have HTn : Hid (Tn (svT T 64 (tF j) hd ys) j hd ys) := by rw [hhd]; exact HR.out.2.2.2 V ys HV.out.1 HV.out.2 HY.out.2 (by have := HY.out.1; omega)
      have HDd : Hid (hd.g = (j : Int) + 1 ∧ hd.c = V ∧ hd.n = (p : Int)) := by
        rw [hhd]
        exact ⟨by show R.1.g + 1 = _; rw [HR.out.2.1], rfl, by show ((ys.length : Nat) : Int) = _; rw [HY.out.1]⟩
      clear hhd
      have x1d := (grown_drew w6 none).cell x1 (by simp)
      have NE6 := hide (World.new_ne w6 ⟨X, 1, none⟩ x1)
      have x1e := (grown_trans (World.grownBy_alloc w6 (.cells #[.int .u64 0, .int .u64 0, .int .i64 0, .int .u32 0] 35) none) (grown_drew _ none)).cell x1 (by simp)
      have hzl := hide (show u.heap.size ≤ w6.heap.size from Q6.out.bo.dev.disk.grown.size)
      clear HS
      go_wp2_with fail
      go_cut [11, 12] (fun s11 s12 wx => ∃ K k' c', s11 = .pointer (some ⟨K, 0, none⟩) ∧ s12 = .int .i64 0 ∧ Hid (SvQ 120 u wx X b sl ra rb c' g k' (svT T 64 (tF j) hd ys) ys ∧ wx.heap[K]? = some (.cells (Fm.hdC hd).toArray 35 (0, 0))))
      case first => as_aux_lemma =>
       go_region_held3 (fun w' => w'.cell? ⟨X, 1, none⟩ = some (.pointer (some ⟨sl, 0, none⟩))) (first | with_reducible assumption | (with_reducible refine cell_set4 ?_ ?_ _ _ _ _; with_reducible assumption; (first | with_reducible exact NE5.out | with_reducible exact NE6.out)) | (with_reducible refine World.grownBy.cell (World.grownBy_alloc _ _ none) ?_ ?_; with_reducible assumption; simp)) ((first
         | (go_at_call 28; (first | (have hq := HCp.out _ (grown_drew w6 none); with_reducible refine hq.mono ?_; clear hq; rintro e5 w5 ⟨ao, ac, rfl, hcp, g5⟩; have G5 := hide (grown_trans (grown_drew w6 none) g5)) | (have hq := HCp.out _ (grown_trans (World.grownBy_alloc w6 (.cells #[.int .u64 0, .int .u64 0, .int .i64 0, .int .u32 0] 35) none) (grown_drew _ none)); refine hq.mono ?_; clear hq; rintro e5 w5 ⟨ao, ac, rfl, hcp, g5⟩; have G5 := hide (grown_trans (grown_trans (World.grownBy_alloc w6 (.cells #[.int .u64 0, .int .u64 0, .int .i64 0, .int .u32 0] 35) none) (grown_drew _ none)) g5); have rK : w5.heap[w6.heap.size]? = some (.cells [Value.int .u64 0, .int .u64 0, .int .i64 0, .int .u32 0].toArray 35 (0, 0)) := (g5.block _ (row_lt (heap_alloc_new w6 (.cells [Value.int .u64 0, .int .u64 0, .int .i64 0, .int .u32 0].toArray 35))) (by simp)).trans (heap_alloc_new w6 (.cells [Value.int .u64 0, .int .u64 0, .int .i64 0, .int .u32 0].toArray 35)))); have CP := hide hcp; clear hcp; have hk5 := G5.out.cell x1 (by simp); have NE5 := hide (World.new_ne w5 ⟨X, 1, none⟩ hk5); clear g5)
         | (go_at_call 27; (first | (have hq := HSv.out _ G5.out _ _ CP.out; with_reducible refine hq.mono ?_; clear hq; rintro e6 w7 ⟨k7, c7, rfl, q7, k7k⟩; have Q7 := hide q7; have hk7 := q7.bo.cell.2; clear q7; (first | (have rK7 := k7k _ _ _ rK; obtain ⟨k0, k1, k2, k3⟩ := Fm.box4 rK7; have j0 := free_row rK7 0; have j1 := free_row rK7 1; have j2 := free_row rK7 2; have j3 := free_row rK7 3; have RK := hide rK7; clear rK7) | skip); clear k7k) | (have hq := HSv.out _ (grown_trans G5.out (World.grownBy_alloc w5 (.cells #[.int .u64 0, .int .u64 0, .int .i64 0, .int .u32 0] 35) none)) _ _ (CP.out.grown (World.grownBy_alloc w5 (.cells #[.int .u64 0, .int .u64 0, .int .i64 0, .int .u32 0] 35) none)); refine hq.mono ?_; clear hq; rintro e6 w7 ⟨k7, c7, rfl, q7, k7k⟩; have Q7 := hide q7; have hk7 := q7.bo.cell.2; clear q7; have rK7 := k7k _ _ _ (heap_alloc_new w5 (.cells [Value.int .u64 0, .int .u64 0, .int .i64 0, .int .u32 0].toArray 35)); obtain ⟨k0, k1, k2, k3⟩ := Fm.box4 rK7; have j0 := free_row rK7 0; have j1 := free_row rK7 1; have j2 := free_row rK7 2; have j3 := free_row rK7 3; have RK := hide rK7; clear rK7; clear k7k)))))
       all_goals
        go_wp2
        go_meet
        case rel => first | exact ⟨_, _, _, rfl, rfl, Q7.out.meetA hd⟩ | exact ⟨_, _, _, rfl, rfl, Q7.out.meetB hd RK.out hzl.out⟩ | exact ⟨_, _, _, rfl, rfl, Q7.out.meetB hd RK.out (Nat.le_trans hzl.out G5.out.size)⟩
      case rest =>
      obtain ⟨K, k7, c7, rfl, rfl, Q8⟩ := hcut
      clear HCp HSv x1 x1d x1e NE6 Q6
      have E8 : Hid (TuE 200 u X b sl ra rb g K hd (svT T 64 (tF j) hd ys) ys wc) := ⟨k7, c7, by have := Q8.out.1.cn; omega, ⟨Q8.out.1.bo, Q8.out.1.row, Q8.out.1.off, by have := Q8.out.1.cn; omega⟩, Q8.out.2⟩
      clear Q8
      obtain ⟨m2, hm2⟩ : ∃ m2 : Int, ((j % 2 : Nat) : Int) = m2 := ⟨_, rfl⟩
      have htm : (j : Int).tmod 2 = m2 := by rw [← hm2, Int.tmod_eq_emod_of_nonneg hj0]; omega
      have hg1 : IntKind.u64.wrap ((j : Int) + 1) = (j : Int) + 1 := by rw [IntKind.wrap_u64]; omega
      have HLd : Hid (∀ N w5, N ≤ 500 → TuE N u X b sl ra rb g K hd (svT T 64 (tF j) hd ys) ys w5 → Calls Tryz.prog 21 #[.pointer (some ⟨sl, 0, none⟩)] w5 fun e w' => ∃ G, e = .returned (.tuple #[.agg #[.int .u64 hd.g, .int .u64 hd.c, .int .i64 hd.n, .int .u32 hd.s], .slice (some ⟨G, 0, none⟩) p p, .int .i64 m2, .int .i64 0]) ∧ TuE (N + 6) u X b sl ra rb g K hd (svT T 64 (tF j) hd ys) ys w' ∧ w'.heap[G]? = some (.cells (bv ys).toArray 5 (0, 0))) := fun N w5 hN h => by
        have := tu_load h (by omega) HU.out.2.2.2 HTn.out.found rfl HTn.out.byt HY.out.1
        rw [← hm2]
        exact this
      have HTS : Hid (Tst (svT T 64 (tF j) hd ys) (j + 1)) := .inr ⟨j, hd, ys, rfl, HTn.out⟩
      have HFt : Hid (∀ w5, TuE 406 u X b sl ra rb g K hd (svT T 64 (tF j) hd ys) ys w5 → Calls Tryz.prog 30 #[.slice fo fn fc] w5 fun e w' => ∃ fo' cap', e = .returned (.slice fo' fn cap') ∧ TuR 406 u X b sl ra rb g K hd (svT T 64 (tF j) hd ys) ys F fo' w') := fun w5 h => tu_fates h HA.out.2.2.2.2 HU.out.2.2.1
      have HRs : Hid (∀ w5 fo' cap', TuR 406 u X b sl ra rb g K hd (svT T 64 (tF j) hd ys) ys F fo' w5 → Calls Tryz.prog 19 #[.pointer (some ⟨b, 0, none⟩), .slice fo' fn cap'] w5 fun e w' => e = .returned (.int .i64 0) ∧ TuE 0 u X b sl ra rb g K hd (svT T 64 (tF j) hd ys) ys w') := fun w5 fo' cap' h => tu_restart HA.out.2.2.2.2 h
      clear hm2 HTn HR
      generalize svT T 64 (tF j) hd ys = T' at *
      obtain ⟨hg, hc, hn, hs⟩ := hd
      have e1 : hg = (j : Int) + 1 := HDd.out.1
      have e2 : hc = V := HDd.out.2.1
      have e3 : hn = (p : Int) := HDd.out.2.2
      clear HDd
      subst e1
      subst e3
      subst e2
      dsimp only at HLd
      obtain ⟨-, x1⟩ := E8.out.cells
      go_wp2_with fail
      refine (HLd.out 200 wc (by omega) E8.out).mono ?_
      clear x1
      rintro e w9 ⟨G, rfl, h9, hG9⟩
      have g10 := World.grownBy_alloc w9 (.cells #[.int .u64 ((j : Int) + 1), .int .u64 hc, .int .i64 (p : Int), .int .u32 hs] 35) none
      have b10 := heap_alloc_new w9 (.cells [Value.int .u64 ((j : Int) + 1), .int .u64 hc, .int .i64 (p : Int), .int .u32 hs].toArray 35)
      have E10 := hide (And.intro (h9.grown g10) (And.intro b10 ((g10.block _ (row_lt hG9) (by simp)).trans hG9)))
      clear h9 hG9 g10 b10 E8
      obtain ⟨p0, p1, p2, p3⟩ := Fm.box4 E10.out.1.box
      obtain ⟨q0, q1, q2, q3⟩ := Fm.box4 E10.out.2.1
      dsimp only at p0 p1 p2 p3
      go_wp2_with fail
      generalize w9.alloc (.cells #[.int .u64 ((j : Int) + 1), .int .u64 hc, .int .i64 (p : Int), .int .u32 hs] 35) = w10 at *
      clear p0 p1 p2 p3 q0 q1 q2 q3
      refine (sameBytes_eq (some ⟨G, 0, none⟩) (some ⟨g, 0, none⟩) p p p ys w10 HY.out.1 (at_row E10.out.2.2) (at_row E10.out.1.row) (by omega)).mono ?_
      rintro e w11 ⟨rfl, q11, rfl⟩
      have hg11 := grown_drewN w10 q11 none
      generalize w10.drewN q11 = w11 at *
      have E11 : Hid (TuE 406 u X b sl ra rb g K ⟨(j : Int) + 1, hc, (p : Int), hs⟩ T' ys w11) := (E10.out.1.grown hg11).le (by omega)
      clear hg11 E10
      go_wp2_with fail
      have hE : TuE 406 u X b sl ra rb g K ⟨(j : Int) + 1, hc, (p : Int), hs⟩ T' ys w11.drew := E11.out.grown (grown_drew _ _)
      obtain ⟨y0, -⟩ := hE.cells
      clear E11
      go_region_held3 (fun w' => w'.cell? ⟨X, 0, none⟩ = some (.pointer (some ⟨b, 0, none⟩)) ∧ TuE 406 u X b sl ra rb g K ⟨(j : Int) + 1, hc, (p : Int), hs⟩ T' ys w')
        (first | assumption | exact ⟨y0, hE⟩)
        ((first
          | (go_at_call 32; obtain ⟨d1, hI⟩ := ‹_ ∧ TuE 406 u X b sl ra rb g K ⟨(j : Int) + 1, hc, (p : Int), hs⟩ T' ys _›; refine (tu_wait hI).mono ?_; rintro e w5 ⟨rfl, rfl⟩)
          | (go_at_call 30; obtain ⟨d1, hI⟩ := ‹_ ∧ TuE 406 u X b sl ra rb g K ⟨(j : Int) + 1, hc, (p : Int), hs⟩ T' ys _›; refine (HFt.out _ hI).mono ?_; rintro e w5 ⟨fo', cap', rfl, hRR⟩; have hK := And.intro hRR.e.cells.1 hRR.e)
          | (go_at_call 19; refine (HRs.out _ _ _ hRR).mono ?_; rintro e w12 ⟨rfl, hZ⟩; have hK := And.intro hZ.cells.1 (hZ.le (M := 406) (by omega)))))
      have E12 := hide hZ
      clear hK hZ hE y0 hRR
      obtain ⟨-, x1⟩ := E12.out.cells
      go_wp2_with fail
      refine (HLd.out 0 w12 (by omega) E12.out).mono ?_
      clear x1
      rintro e w13 ⟨G2, rfl, h13, hG13⟩
      have g14 := World.grownBy_alloc w13 (.cells #[.int .u64 ((j : Int) + 1), .int .u64 hc, .int .i64 (p : Int), .int .u32 hs] 35) none
      have b14 := heap_alloc_new w13 (.cells [Value.int .u64 ((j : Int) + 1), .int .u64 hc, .int .i64 (p : Int), .int .u32 hs].toArray 35)
      have E14 := hide (And.intro (h13.grown g14) (And.intro b14 ((g14.block _ (row_lt hG13) (by simp)).trans hG13)))
      clear h13 hG13 g14 b14 E12
      obtain ⟨p0, p1, p2, p3⟩ := Fm.box4 E14.out.1.box
      obtain ⟨q0, q1, q2, q3⟩ := Fm.box4 E14.out.2.1
      dsimp only at p0 p1 p2 p3
      go_wp2_with fail
      generalize w13.alloc (.cells #[.int .u64 ((j : Int) + 1), .int .u64 hc, .int .i64 (p : Int), .int .u32 hs] 35) = w14 at *
      clear p0 p1 p2 p3 q0 q1 q2 q3
      refine (sameBytes_eq (some ⟨G2, 0, none⟩) (some ⟨g, 0, none⟩) p p p ys w14 HY.out.1 (at_row E14.out.2.2) (at_row E14.out.1.row) (by omega)).mono ?_
      rintro e w15 ⟨rfl, q15, rfl⟩
      have hg15 := grown_drewN w14 q15 none
      generalize w14.drewN q15 = w15 at *
      have E15 : Hid (∃ k c, c ≤ 100 ∧ BoP u w15 X b sl ra rb 0 5 4 (frD c) k T' []) := by
        obtain ⟨k, c, hc, q, _⟩ := E14.out.1.grown hg15
        exact ⟨k, c, by omega, q.bo⟩
      clear hg15 E14
      obtain ⟨k9, c9, hE9⟩ := E15.out
      have HE9 := hide hE9
      clear hE9 E15
      go_wp2
      go_roundg (gk - 1)
      case measure => omega
      case rel => exact ⟨j + 1, k9, T', c9, by omega, by go_num, hide ⟨HE9.out.1, HE9.out.2, HTS.out⟩⟩
    · have HS2 := HS
      have hend : (ln : Int) ≤ (j : Int) ∨ ((j : Int) < (ln : Int) ∧ (40 : Int) ≤ (j : Int)) := by have := HM.out; omega
      obtain ⟨-, x1⟩ := HS.out.2.1.cell
      have hul := hide HS.out.2.1.dev.disk.grown.size
      have HBy : Hid (∀ w5, wr.grownBy w5 none → Calls Tryz.prog 24 #[.pointer (some ⟨sl, 0, none⟩)] w5 fun e w' => e = .returned (.int .i64 192) ∧ w5.grownBy w' none) := fun w5 h => by
        have h := HS2.out.2.1.grown h
        exact sBytes_at h.hsl h.dev h.hra (by decide) (by decide) (by decide)
      have HFi : Hid (∀ w5, wr.grownBy w5 none → Calls Tryz.prog 23 #[.int .i64 1, .int .i64 193] w5 fun e w' => ∃ g, e = .returned (.slice (some ⟨g, 0, none⟩) 193 193) ∧ wr.heap.size ≤ g ∧ w'.heap[g]? = some (.cells (bv (fillN 1 193)).toArray 5 (0, 0)) ∧ w5.grownBy w' none) := fun w5 h => by
        refine (fill_ex 1 193 (by decide) w5).mono ?_
        rintro e w' ⟨g, rfl, h1, h2, h3⟩
        exact ⟨g, rfl, Nat.le_trans h.size h1, h2, h3⟩
      obtain ⟨z1, y1⟩ : ∃ z : Int, (0 : Int) = z := ⟨_, rfl⟩
      obtain ⟨z2, y2⟩ : ∃ z : Int, (0 : Int) = z := ⟨_, rfl⟩
      obtain ⟨z3, y3⟩ : ∃ z : Int, (0 : Int) = z := ⟨_, rfl⟩
      obtain ⟨z4, y4⟩ : ∃ z : Int, (0 : Int) = z := ⟨_, rfl⟩
      have HSl : Hid (∀ w5 g, wr.grownBy w5 none → wr.heap.size ≤ g → w5.heap[g]? = some (.cells (bv (fillN 1 193)).toArray 5 (0, 0)) → Calls Tryz.prog 27 #[.pointer (some ⟨sl, 0, none⟩), .slice (some ⟨g, 0, none⟩) 193 193, .int .u64 0] w5 fun e w' => e = .returned (.tuple #[.agg #[.int .u64 z1, .int .u64 z2, .int .i64 z3, .int .u32 z4], .int .i64 3]) ∧ u.grownBy w' none ∧ w'.cell? ⟨X, 1, none⟩ = some (.pointer (some ⟨sl, 0, none⟩)) ∧ ∀ (K : Nat) (cc : Array Value) (fr : Nat × Nat), w5.heap[K]? = some (.cells cc 35 fr) → w'.heap[K]? = some (.cells cc 35 fr)) := fun w5 g h hg hr => by subst y1; subst y2; subst y3; subst y4; exact save_long (HS2.out.2.1.grown h) HS2.out.1 HS2.out.2.2.byt HU.out.2.2.2 hr (fillN_length 1 193) (fillN_bytes 1 193) (new_off HS2.out.2.1.dev hg)
      clear y1 y2 y3 y4
      have x1d := (grown_drew wr none).cell x1 (by simp)
      have NE1 := hide (World.new_ne wr ⟨X, 1, none⟩ x1)
      have x1e := (grown_trans (World.grownBy_alloc wr (.cells #[.int .u64 0, .int .u64 0, .int .i64 0, .int .u32 0] 35) none) (grown_drew _ none)).cell x1 (by simp)
      have w193 : IntKind.i64.wrap 193 = 193 := rfl
      clear HS hkj hk
      rcases hend with hend | ⟨hend1, hend2⟩
      all_goals
        go_wp2_with fail
        go_cut [21, 22] (fun s21 s22 wx => s22 = .int .i64 3 ∧ Hid (u.grownBy wx none))
        case first => as_aux_lemma =>
         go_region_held3 (fun w' => w'.cell? ⟨X, 1, none⟩ = some (.pointer (some ⟨sl, 0, none⟩))) (first | with_reducible assumption | (with_reducible refine cell_set4 ?_ ?_ _ _ _ _; with_reducible assumption; (first | with_reducible exact NE6.out | with_reducible exact NE5.out | with_reducible exact NE1.out)) | (with_reducible refine World.grownBy.cell (World.grownBy_alloc _ _ none) ?_ ?_; with_reducible assumption; simp)) ((first
          | (go_at_call 24; (first | (have hq := HBy.out _ (grown_drew wr none); with_reducible refine hq.mono ?_; clear hq; rintro e5 w5 ⟨rfl, g5⟩; have G5 := hide (grown_trans (grown_drew wr none) g5)) | (have hq := HBy.out _ (grown_trans (World.grownBy_alloc wr (.cells #[.int .u64 0, .int .u64 0, .int .i64 0, .int .u32 0] 35) none) (grown_drew _ none)); refine hq.mono ?_; clear hq; rintro e5 w5 ⟨rfl, g5⟩; have G5 := hide (grown_trans (grown_trans (World.grownBy_alloc wr (.cells #[.int .u64 0, .int .u64 0, .int .i64 0, .int .u32 0] 35) none) (grown_drew _ none)) g5); have rK : w5.heap[wr.heap.size]? = some (.cells [Value.int .u64 0, .int .u64 0, .int .i64 0, .int .u32 0].toArray 35 (0, 0)) := (g5.block _ (row_lt (heap_alloc_new wr (.cells [Value.int .u64 0, .int .u64 0, .int .i64 0, .int .u32 0].toArray 35))) (by simp)).trans (heap_alloc_new wr (.cells [Value.int .u64 0, .int .u64 0, .int .i64 0, .int .u32 0].toArray 35)))); have hk5 := G5.out.cell x1 (by simp); have NE5 := hide (World.new_ne w5 ⟨X, 1, none⟩ hk5); clear g5)
          | (go_at_call 23; (first | (have hq := HFi.out _ G5.out; with_reducible refine hq.mono ?_; clear hq; rintro e6 w6 ⟨g, rfl, hlg, hrow, g6⟩; have G6 := hide (grown_trans G5.out g6); (first | (have rK6 : w6.heap[wr.heap.size]? = some (.cells [Value.int .u64 0, .int .u64 0, .int .i64 0, .int .u32 0].toArray 35 (0, 0)) := (g6.block _ (row_lt rK) (by simp)).trans rK) | skip)) | (have hq := HFi.out _ (grown_trans G5.out (World.grownBy_alloc w5 (.cells #[.int .u64 0, .int .u64 0, .int .i64 0, .int .u32 0] 35) none)); refine hq.mono ?_; clear hq; rintro e6 w6 ⟨g, rfl, hlg, hrow, g6⟩; have G6 := hide (grown_trans (grown_trans G5.out (World.grownBy_alloc w5 (.cells #[.int .u64 0, .int .u64 0, .int .i64 0, .int .u32 0] 35) none)) g6); have rK6 : w6.heap[w5.heap.size]? = some (.cells [Value.int .u64 0, .int .u64 0, .int .i64 0, .int .u32 0].toArray 35 (0, 0)) := (g6.block _ (row_lt (heap_alloc_new w5 (.cells [Value.int .u64 0, .int .u64 0, .int .i64 0, .int .u32 0].toArray 35))) (by simp)).trans (heap_alloc_new w5 (.cells [Value.int .u64 0, .int .u64 0, .int .i64 0, .int .u32 0].toArray 35)))); have HRW := hide (And.intro hlg hrow); clear hlg hrow; have hk6 := G6.out.cell x1 (by simp); have NE6 := hide (World.new_ne w6 ⟨X, 1, none⟩ hk6); clear g6)
          | (go_at_call 27; (first | (have hq := HSl.out _ _ G6.out HRW.out.1 HRW.out.2; with_reducible refine hq.mono ?_; clear hq; rintro e7 w7 ⟨rfl, g7, hk7, k7k⟩; have G7 := hide g7; clear g7; (first | (have rK7 := k7k _ _ _ rK6; obtain ⟨k0, k1, k2, k3⟩ := Fm.box4 rK7; have j0 := free_row rK7 0; have j1 := free_row rK7 1; have j2 := free_row rK7 2; have j3 := free_row rK7 3; have RK := hide rK7; clear rK7) | skip); clear k7k) | (have hq := HSl.out _ _ (grown_trans G6.out (World.grownBy_alloc w6 (.cells #[.int .u64 0, .int .u64 0, .int .i64 0, .int .u32 0] 35) none)) HRW.out.1 (((World.grownBy_alloc w6 (.cells #[.int .u64 0, .int .u64 0, .int .i64 0, .int .u32 0] 35) none).block _ (row_lt HRW.out.2) (by simp)).trans HRW.out.2); refine hq.mono ?_; clear hq; rintro e7 w7 ⟨rfl, g7, hk7, k7k⟩; have G7 := hide g7; clear g7; have rK7 := k7k _ _ _ (heap_alloc_new w6 (.cells [Value.int .u64 0, .int .u64 0, .int .i64 0, .int .u32 0].toArray 35)); obtain ⟨k0, k1, k2, k3⟩ := Fm.box4 rK7; have j0 := free_row rK7 0; have j1 := free_row rK7 1; have j2 := free_row rK7 2; have j3 := free_row rK7 3; have RK := hide rK7; clear rK7; clear k7k)))))
         all_goals
          go_wp2
          go_meet
          case rel => first | exact ⟨rfl, grown_trans G7.out (World.grownBy_alloc _ _ none)⟩ | exact ⟨rfl, grown_set4 G7.out RK.out hul.out _ _ _ _⟩ | exact ⟨rfl, grown_set4 G7.out RK.out (Nat.le_trans hul.out G5.out.size) _ _ _ _⟩ | exact ⟨rfl, grown_set4 G7.out RK.out (Nat.le_trans hul.out G6.out.size) _ _ _ _⟩
        case rest =>
        obtain ⟨rfl, HZ⟩ := hcut
        clear HBy HFi HSl x1 x1d x1e NE1
        go_wp2
        go_ret
        exact ⟨rfl, grown_trans HU.out.1 HZ.out⟩
end Go.Proofs.YtonokaelbpfjnaaGreatDoor
