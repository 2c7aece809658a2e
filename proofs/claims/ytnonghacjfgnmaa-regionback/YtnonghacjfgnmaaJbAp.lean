/- Texts joined: Back. -/
import Derived.Test.YtnonghacjfgnmaaJbAo
/- RegionBack. -/
namespace Go.Proofs.Ytnonghacjfgnmaa
open Go.RowKit Ap
attribute [local go_sem ↓] Go.wp_at_zero Go.wp_at_succ

theorem BkS.count {w0 w : World} {b r F C P c : Nat} {k : Dk} {W : List Wt} {pl Q : List Nat} (h : BkS w0 w b r F C P k W c pl Q) : Calls Try.prog 17 #[.pointer (some ⟨b, 0, none⟩)] w fun e w' => e = .returned (.int .i64 (c : Int)) ∧ w' = w := count_any h.dev.dev
theorem tdiv64 (l : Nat) : (l : Int).tdiv 64 = ((l / 64 : Nat) : Int) := (Int.ofNat_tdiv l 64).symm
set_option maxRecDepth 20000 in
set_option maxHeartbeats 16000000 in
theorem back_any (x y : Int) (ao : Option Addr) (m cap : Nat) (os : List Pt) (at_ n : Int) (w : World) (hm : os.length = m) (ho : PtsAt w ao os) (hmm : m ≤ 140737488355328) :
    Calls Try.prog 5 #[.int .i64 x, .int .i64 y, .slice ao m cap, .int .i64 at_, .int .i64 n] w fun e w' => e = .returned (.bool true) ∧ w.grownBy w' none := by
  have HO := hide (And.intro hm ho)
  have hFC := in_ok x y
  clear hm ho
  go_enter Try.func5, Try.ntmps5
  go_wp2_with fail
  refine (inner_any w w x y (grown_refl _ _)).mono ?_
  rintro e w1 ⟨b, r, k, rfl, h1⟩
  have H1 := hide h1
  clear h1
  generalize inF x = F at *
  generalize inC x y = C at *
  obtain ⟨L, hL⟩ : ∃ L, L = C * 64 := ⟨_, rfl⟩
  have HL := hide hL
  have hLb : 64 ≤ L ∧ L ≤ 384 ∧ 64 * F + L ≤ 384 := by omega
  have hby := gBytes_at H1.out.1 H1.out.2.1 (by omega)
  rw [← hL] at hby
  have HBY := hide hby
  clear hby hL
  go_wp2_with fail
  refine HBY.out.mono ?_
  rintro e w2 ⟨rfl, q2, rfl⟩
  have H2 := hide (And.intro (H1.out.1.drew q2) (H1.out.2.1.drew q2))
  generalize w1.drewN q2 = w2 at *
  have hmk := make_bytes L (by omega) w2
  have g3 := World.grownBy_alloc w2 (.cells (bv (zs L)).toArray 5) none
  have n3 : (w2.alloc (.cells (bv (zs L)).toArray 5)).heap[w2.heap.size]? = some (.cells (bv (zs L)).toArray 5 (0, 0)) := heap_alloc_new w2 _
  have B3 : Hid (BkS w (w2.alloc (.cells (bv (zs L)).toArray 5)) b r F C w2.heap.size k [] 0 (zs L) (zs L)) := by
    refine ⟨H2.out.1.then g3, H2.out.2.grown g3, n3, by rw [zs_length]; exact HL.out, ?_, H2.out.1.disk.grown.size, by rw [zs_length]; exact HL.out, ?_, hFC.2.2⟩
    · intro hf
      have := H2.out.1.disk.disk.lt _ hf
      omega
    · show zs (6 * 64) = _
      rw [zs_splice _ _ _ (by omega)]
  clear g3 n3 H1 H2 HBY
  go_wp2_with fail
  generalize w2.alloc (.cells (bv (zs L)).toArray 5) = w3 at *
  generalize w2.heap.size = P at *
  clear hmk
  go_wp2
  go_loopg [16] (min m 200) (fun q i wr => ∃ j : Nat, q + j = min m 200 ∧ i = .int .i64 j ∧ Hid (∃ k W c pl, BkS w wr b r F C P k W c pl pl ∧ c ≤ 10 * j ∧ W.length ≤ 8 * j))
  case atStart => exact ⟨0, by omega, rfl, hide ⟨_, _, _, _, B3.out, by omega, by simp⟩⟩
  case round =>
    clear B3
    obtain ⟨j, hkj, rfl, HR⟩ := hrel
    by_cases hk : 0 < gk
    · have hj : j < m ∧ j < 200 := by omega
      obtain ⟨o, hoj⟩ : ∃ o, os[j]? = some o := ⟨_, List.getElem?_eq_getElem (by have := HO.out.1; omega)⟩
      obtain ⟨kj, Wj, cj, pl, hB, hc, hW⟩ := HR.out
      obtain ⟨bb, off, bo, bc, hao, hst⟩ := HO.out.2 j o hoj
      subst hao
      have hstr := hst.grown hB.dev.disk.grown
      have c0 := hstr.c0
      have c1 := hstr.c1
      have SI := hide hstr.sin
      have AT0 := hide (hst.sin.ptB L).at_
      have BB := hide hB
      have hj0 : (0 : Int) ≤ (j : Int) := by omega
      have hj1 : (j : Int) < (m : Int) := by omega
      have hj2 : (j : Int) < 200 := by omega
      clear hstr hst hB hoj HR
      go_wp2_with fail
      refine (fits_any o bo bc L wr SI.out (by omega)).mono ?_
      rintro e w4 ⟨rfl, g4⟩
      have BB4 : Hid (pl.length = L) := BB.out.len.trans HL.out.symm
      have B4 := hide (And.intro (BB.out.then g4) ((SI.out.ptB L).grown g4))
      clear g4 c0 c1 BB SI
      have hpf := pt_fit o L
      generalize ptAt o L = kk at *
      generalize ptB o L = xs at *
      go_wp2_with fail
      refine B4.out.1.count.mono ?_
      rintro e w' ⟨rfl, rfl⟩
      go_wp2_with fail
      refine (copyBytes_any bo xs.length bc xs w' rfl B4.out.2.at_ B4.out.2.nil (by have := B4.out.2.size; omega)).mono ?_
      rintro e w5 ⟨v, rfl, o5, g5⟩
      obtain ⟨ao5, cap5, rfl, x1, x2, x3, x4, x5, x6⟩ := own_at o5
      have B5 := hide (And.intro (B4.out.1.then g5) (And.intro (B4.out.2.grown g5) (And.intro x4 (And.intro x2 (fun a (e : ao5 = some a) => (x6 a e).2.1)))))
      have hlt : Hid (∀ i, foot kj Wj i ∨ i = b → i < w'.heap.size) := by
        rintro i (hf | rfl)
        · exact B4.out.1.dev.disk.disk.lt i hf
        · exact B4.out.1.dev.dev.lt
      clear o5 g5 x1 x2 x3 x4 x5 x6
      go_wp2_with fail
      refine (B5.out.1.write kk cap5 ao5 xs B5.out.2.2.1 B5.out.2.2.2.1 (by have := HL.out; omega) (fun a e _ => ⟨fun hf => ?_, fun hf => ?_⟩) (by omega) (by omega)).mono ?_
      · have := hlt.out _ (.inl (.inl hf)); have := B5.out.2.2.2.2 a e; omega
      · have := hlt.out _ (.inr hf); have := B5.out.2.2.2.2 a e; omega
      rintro e w6 ⟨rfl, k6, W6, c6, b6, l1, l2, l3, m6⟩
      have B6 := hide b6
      have hxs : xs.length ≤ 384 := by omega
      have hplen := BB4.out
      have hsl := slice_fromC P L L kk (by omega) (Nat.le_refl _)
      obtain ⟨w7, hrun, hP7, hg7⟩ := run_copy_any w6 P (cutO kk L) (L - kk) (L - kk) bo xs.length bc pl xs B6.out.hP (Nat.min_eq_left (by omega)).symm (by unfold cutO; split <;> omega) (AT0.out.grown B6.out.dev.disk.grown)
      have B7 : Hid (BkS w w7 b r F C P k6 W6 c6 (splice pl kk xs) (splice pl kk xs)) := by
        have e7 : splice pl (cutO kk L) xs = splice pl kk xs := by rw [← hplen]; exact splice_cut _ _ _ (by omega)
        rw [e7] at hP7
        exact B6.out.put hg7 hP7 (by rw [length_splice _ _ _ (by omega)]; exact B6.out.len)
      have hq := tdiv64 xs.length
      have hcmp : (c6 : Int) - (cj : Int) ≤ ((xs.length / 64 : Nat) : Int) + 4 := by omega
      have hc6 : (c6 : Int) ≤ 10000 := by omega
      have hz6 : xs.length / 64 ≤ 6 := by omega
      generalize xs.length / 64 = z at *
      generalize xs.length = lx at *
      clear b6 m6 hP7 hg7
      go_wp2_with fail
      refine B6.out.count.mono ?_
      rintro e w' ⟨rfl, rfl⟩
      go_wp2
      go_roundg (gk - 1)
      case measure => omega
      case rel => exact ⟨j + 1, by omega, by go_num, hide ⟨k6, W6, c6, _, B7.out, by omega, by omega⟩⟩
    · have hj : j = min m 200 := by omega
      obtain ⟨kj, Wj, cj, pl, hB, hc, hW⟩ := HR.out
      have BB := hide hB
      clear hB HR
      have HPL : Hid (pl.length = L) := BB.out.len.trans HL.out.symm
      obtain ⟨a1, ha1⟩ : ∃ a1, a1 = ptAt ⟨at_, []⟩ L := ⟨_, rfl⟩
      have HP1 : Hid (∀ w, Calls Try.prog 31 #[.int .i64 at_, .int .i64 ((L : Int) + 1)] w fun e w' => e = .returned (.int .i64 (a1 : Int)) ∧ w' = w) := fun w => by
        have := pick_any at_ ((L : Int) + 1) (L + 1) w (by omega) (by omega) (by omega)
        rw [ha1, ptAt_cast]
        exact this
      have hal : a1 ≤ L := by rw [ha1]; exact ptAt_le _ _
      obtain ⟨n1, hn1⟩ : ∃ n1, n1 = ptAt ⟨n, []⟩ (L - a1) := ⟨_, rfl⟩
      have HP2 : Hid (∀ w, Calls Try.prog 31 #[.int .i64 n, .int .i64 ((L : Int) - (a1 : Int) + 1)] w fun e w' => e = .returned (.int .i64 (n1 : Int)) ∧ w' = w) := fun w => by
        have := pick_any n ((L : Int) - (a1 : Int) + 1) (L - a1 + 1) w (by omega) (by omega) (by omega)
        rw [hn1, ptAt_cast]
        exact this
      have hnl : a1 + n1 ≤ L := by have := ptAt_le ⟨n, []⟩ (L - a1); omega
      clear ha1 hn1
      have hjs : (m : Int) ≤ (j : Int) ∨ ((j : Int) < (m : Int) ∧ (200 : Int) ≤ (j : Int)) := by omega
      clear hj
      rcases hjs with hjs | ⟨hjs, hjt⟩
      all_goals
        go_wp2_with fail
        refine (HP1.out _).mono ?_
        rintro e w' ⟨rfl, rfl⟩
        go_wp2_with fail
        refine (HP2.out _).mono ?_
        rintro e w' ⟨rfl, rfl⟩
        go_wp2_with fail
        refine BB.out.count.mono ?_
        rintro e w' ⟨rfl, rfl⟩
        go_wp2_with fail
        refine (BB.out.read a1 n1 (by have := HL.out; omega) (by omega)).mono ?_
        rintro e w5 ⟨g, rfl, hb5⟩
        have B5 := hide hb5
        have hpc := hb5.2.2.2.2.1
        clear hb5 BB
        have hsl := slice_lhC P L L a1 (a1 + n1) (by omega) (by omega)
        rw [show a1 + n1 - a1 = n1 by omega, show ((a1 + n1 : Nat) : Int) = (a1 : Int) + (n1 : Int) by omega] at hsl
        have hq := tdiv64 n1
        have hz6 : n1 / 64 ≤ 6 := by omega
        generalize n1 / 64 = z at *
        generalize pcn 64 a1 n1 = pc at *
        go_wp2_with fail
        have hsm := sameBytes_eq (some ⟨g, 0, none⟩) (some ⟨P, cutO a1 pl.length, none⟩) n1 n1 (L - a1) ((pl.drop a1).take n1) w5 B5.out.2.2.2.1 (at_row B5.out.2.1) (at_cut B5.out.1.hP (by have := HPL.out; omega)) (by omega)
        rw [HPL.out] at hsm
        refine hsm.mono ?_
        clear hsm
        rintro e w6 ⟨rfl, q6, rfl⟩
        have B6 := hide (B5.out.1.then (grown_drewN w5 q6 none))
        generalize w5.drewN q6 = w6 at *
        clear B5 hsl
        have hcmp : ((cj + pc : Nat) : Int) - (cj : Int) ≤ (z : Int) + 2 := by omega
        have hcb : ((cj + pc : Nat) : Int) ≤ 20000 := by omega
        generalize hcc : cj + pc = c6 at *
        clear hcc
        go_wp2_with fail
        refine B6.out.count.mono ?_
        rintro e w' ⟨rfl, rfl⟩
        go_wp2_with fail
        refine (gRead_bad B6.out.dev B6.out.rg (by omega) (a1 : Int) ((L : Int) - (a1 : Int) + 1) (by omega) (by unfold mcode; rw [if_neg (by have := HL.out; omega)])).mono ?_
        rintro e w7 ⟨rfl, g7⟩
        have B7 := hide (B6.out.then g7)
        clear g7 B6
        go_wp2_with fail
        refine (B7.out.sync (by omega)).mono ?_
        rintro e w8 ⟨rfl, k8, h8⟩
        have D8 := hide h8
        have hql : Hid (pl.length = C * 64) := B7.out.qlen
        clear h8 B7
        go_wp2_with fail
        refine (dimage_any D8.out.1).mono ?_
        rintro e w9 ⟨rfl, hs, i9, g9⟩
        have hFC3 := hFC.2.2
        have hDl : (splice (zs (6 * 64)) (F * 64) pl).length = 6 * 64 := by rw [length_splice _ _ _ (by rw [zs_length, hql.out]; omega), zs_length]
        have D9 := hide (And.intro i9 (And.intro (grown_trans D8.out.1.disk.grown g9) (And.intro hDl ((g9.block _ (row_lt D8.out.2.1) (by simp)).trans D8.out.2.1))))
        clear i9 g9 hDl
        go_wp2_with fail
        refine (flat_any w w9 _ 6 64 _ _ hs D9.out.1 D9.out.2.1 D9.out.2.2.1 (by omega) (by omega)).mono ?_
        rintro e w10 ⟨ao2, cap2, rfl, h10⟩
        obtain ⟨A, rfl⟩ : ∃ A, ao2 = some ⟨A, 0, none⟩ := by
          cases ao2 with
          | none => obtain ⟨a, e, _⟩ := h10.1 0 _ (List.getElem?_eq_getElem (by rw [D9.out.2.2.1]; omega)); cases e
          | some a => exact ⟨a.block, by rw [← h10.2.2 a rfl]⟩
        have D10 : Hid (At w10 (some ⟨A, 0, none⟩) (splice (zs (6 * 64)) (F * 64) pl) ∧ w.grownBy w10 none ∧ w10.heap[P]? = some (.cells (bv pl).toArray 5 (0, 0))) := ⟨h10.1, grown_trans D9.out.2.1 h10.2.1, (h10.2.1.block _ (row_lt D9.out.2.2.2) (by simp)).trans D9.out.2.2.2⟩
        clear h10 D9 D8
        go_wp2
        go_loopg [26] 384 (fun q i wr => ∃ j : Nat, q + j = 384 ∧ i = .int .i64 j ∧ Hid (∃ q, wr = w10.drewN q))
        case atStart => exact ⟨0, by omega, rfl, hide ⟨0, rfl⟩⟩
        case round =>
          obtain ⟨t, hkt, rfl, HT⟩ := hrel
          by_cases hk2 : 0 < gk
          · have ht : t < 384 := by omega
            have hl2 : (splice (zs (6 * 64)) (F * 64) pl).length = 6 * 64 := by rw [length_splice _ _ _ (by rw [zs_length, hql.out]; omega), zs_length]
            obtain ⟨u, hu⟩ : ∃ u, (splice (zs (6 * 64)) (F * 64) pl)[t]? = some u := ⟨_, List.getElem?_eq_getElem (by omega)⟩
            obtain ⟨a', ea', hcu⟩ := D10.out.1 t u hu
            cases ea'
            rw [Addr.add_lit, Nat.zero_add] at hcu
            rw [splice_get _ _ _ _ (by rw [zs_length, hql.out]; omega), hql.out] at hu
            have hLL := HL.out
            have t0 : (0 : Int) ≤ (t : Int) := by omega
            have t1 : (t : Int) < 384 := by omega
            by_cases hin : F * 64 ≤ t ∧ t < F * 64 + C * 64
            · rw [if_pos hin] at hu
              obtain ⟨v, hv⟩ : ∃ v : Nat, (t : Int) - 64 * (F : Int) = (v : Int) := ⟨t - F * 64, by omega⟩
              have hcp : w10.cell? ⟨P, v, none⟩ = some (.int .u8 (u : Int)) := by
                rw [show v = t - F * 64 by omega, cell_row D10.out.2.2]
                exact bv_get _ _ _ hu
              have i1 : 64 * (F : Int) ≤ (t : Int) := by omega
              have i2 : (t : Int) < 64 * (F : Int) + (L : Int) := by omega
              have hcu2 : wr.cell? ⟨A, t, none⟩ = some (.int .u8 (u : Int)) := by obtain ⟨q, hq0⟩ := HT.out; rw [hq0]; exact hcu
              have hcp2 : wr.cell? ⟨P, v, none⟩ = some (.int .u8 (u : Int)) := by obtain ⟨q, hq0⟩ := HT.out; rw [hq0]; exact hcp
              have i3 : (v : Int) < (L : Int) := by omega
              have i4 : 0 ≤ (v : Int) := by omega
              clear hcu hcp hu hin hl2 hLL
              go_wp2_with fail
              go_quiet (fail)
              go_wp2
              go_roundg (gk - 1)
              case measure => omega
              case rel => exact ⟨t + 1, by omega, by go_num, hide (by obtain ⟨q, hq0⟩ := HT.out; rw [hq0]; exact drews w10 q _)⟩
            · rw [if_neg hin] at hu
              have hu0 : u = 0 := by
                rw [zs, List.getElem?_replicate, if_pos (by omega)] at hu
                exact (Option.some.inj hu).symm
              subst hu0
              have hcu2 : wr.cell? ⟨A, t, none⟩ = some (.int .u8 0) := by obtain ⟨q, hq0⟩ := HT.out; rw [hq0]; exact hcu
              have hio : (t : Int) < 64 * (F : Int) ∨ (64 * (F : Int) ≤ (t : Int) ∧ 64 * (F : Int) + (L : Int) ≤ (t : Int)) := by omega
              clear hcu hu hin hl2 hLL
              rcases hio with i1 | ⟨i1, i2⟩
              all_goals
                try (have hd1 : decide ((t : Int) < 64 * (F : Int) + (L : Int)) = false := by rw [decide_eq_false_iff_not]; omega)
                go_wp2_with fail
                go_quiet (fail)
                go_wp2
                go_roundg (gk - 1)
                case measure => omega
                case rel => exact ⟨t + 1, by omega, by go_num, hide (by obtain ⟨q, hq0⟩ := HT.out; rw [hq0]; exact drews w10 q _)⟩
          · have ht : t = 384 := by omega
            subst ht
            go_wp2_with fail
            refine (awake_any _).mono ?_
            rintro e w11 ⟨rfl, g11⟩
            have G11 : Hid (w.grownBy w11 none) := by
              obtain ⟨q, hq0⟩ := HT.out
              rw [hq0] at g11
              exact grown_trans (grown_trans D10.out.2.1 (grown_drewN w10 q none)) g11
            clear g11
            go_wp2
            go_ret
            exact ⟨rfl, G11.out⟩
end Go.Proofs.Ytnonghacjfgnmaa
