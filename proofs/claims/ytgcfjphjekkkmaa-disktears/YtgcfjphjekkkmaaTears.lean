/- DiskTears answers true. -/
import Derived.Test.YtgcfjphjekkkmaaAwake
import Derived.Deep.CutRange
import Derived.Deep.DeepCutAuto
namespace Go.Proofs.Ytgcfjphjekkkmaa
open Go.RowKit Ap
attribute [local go_sem ↓] Go.wp_at_zero Go.wp_at_succ

theorem tears_found (K A : Int) (XA XC : List Nat) (hA : XA.length = 64) (hC : XC.length = 64) (p q : Nat) :
    found 64 (stl 64 (fun i => lasts (fateK [(K, A)] i) (fateA [(K, A)] i) 64) (stl 64 (fun _ => 64) (zs (1 * 64)) [⟨0, p, XA⟩] 1) [⟨0, q, XC⟩] 1) [] 0 = over (XC.take (lasts K A 64)) XA := by
  have h1 : Fits 1 64 [⟨0, p, XA⟩] := by
    intro x hx; simp at hx; subst hx; exact ⟨by show 0 < 1; omega, hA⟩
  have h2 : Fits 1 64 [⟨0, q, XC⟩] := by
    intro x hx; simp at hx; subst hx; exact ⟨by show 0 < 1; omega, hC⟩
  show secOf 64 _ 0 = _
  rw [secOf_stl (n := 1) (stl_length (zs_length _) h1 1) h2, secOf_stl (n := 1) (zs_length _) h1]
  have l0 : lasts (fateK [(K, A)] 0) (fateA [(K, A)] 0) 64 = lasts K A 64 := rfl
  simp only [stlS, List.getElem?_cons_zero, if_true, l0]
  have e : over (XA.take 64) (secOf 64 (zs (1 * 64)) 0) = XA := by
    rw [zs_sec 1 64 0 (by omega), over, List.take_of_length_le (Nat.le_of_eq hA), List.drop_eq_nil_of_le (by simp [zs, hA]), List.append_nil]
  rw [e]
/-- The other bytes, the first of which are the same. -/
def mixed (XA XB : List Nat) (j : Nat) : List Nat := XA.take j ++ XB.drop j
theorem mixed_length (XA XB : List Nat) (j : Nat) (hA : XA.length = 64) (hB : XB.length = 64) (hj : j ≤ 64) : (mixed XA XB j).length = 64 := by simp [mixed, hA, hB]; omega
theorem mixed_get (XA XB : List Nat) (j i : Nat) (hA : XA.length = 64) (hj : j ≤ 64) : (mixed XA XB j)[i]? = if i < j then XA[i]? else XB[i]? := by
  unfold mixed
  by_cases h : i < j
  · rw [if_pos h, List.getElem?_append_left (by simp [hA]; omega), List.getElem?_take, if_pos h]
  · rw [if_neg h, List.getElem?_append_right (by simp [hA]; omega), List.getElem?_drop]
    congr 1; simp [hA]; omega
theorem mixed_set (XA XB : List Nat) (j u : Nat) (hA : XA.length = 64) (hB : XB.length = 64) (hj : j < 64) (hu : XA[j]? = some u) : (mixed XA XB j).set j u = mixed XA XB (j + 1) := by
  apply List.ext_getElem?
  intro i
  rw [List.getElem?_set, mixed_length XA XB j hA hB (by omega), mixed_get XA XB j i hA (by omega), mixed_get XA XB (j + 1) i hA (by omega)]
  by_cases h : j = i
  · subst h; rw [if_pos rfl, if_pos hj, if_pos (by omega), hu]
  · rw [if_neg h]
    by_cases h2 : i < j
    · rw [if_pos h2, if_pos (by omega)]
    · rw [if_neg h2, if_neg (by omega)]
set_option maxRecDepth 20000 in
set_option maxHeartbeats 4000000 in
theorem tears_any (x y s K A : Int) (w : World) : Calls Try.prog 7 #[.agg #[.int .i64 x, .int .i64 y, .int .i64 s, .int .i64 K, .int .i64 A]] w fun e w' => e = .returned (.bool true) ∧ w.grownBy w' none := by
  have g0 := World.grownBy_alloc w (.cells #[.int .i64 x, .int .i64 y, .int .i64 s, .int .i64 K, .int .i64 A] 74) none
  have b0 : ∀ j, (w.alloc (.cells #[.int .i64 x, .int .i64 y, .int .i64 s, .int .i64 K, .int .i64 A] 74)).cell? ⟨w.heap.size, j, none⟩ = [Value.int .i64 x, .int .i64 y, .int .i64 s, .int .i64 K, .int .i64 A][j]? := fun j => cell_row (l := [Value.int .i64 x, .int .i64 y, .int .i64 s, .int .i64 K, .int .i64 A]) (heap_alloc_new w _) j
  have HB := hide (And.intro g0 b0)
  clear g0 b0
  go_enter Try.func7, Try.ntmps7
  go_wp2_with fail
  refine (awake_any _).mono ?_
  rintro e w1 ⟨rfl, g1⟩
  have H1 := hide (grown_trans HB.out.1 g1)
  have C1 : Hid (∀ j v, [Value.int .i64 x, .int .i64 y, .int .i64 s, .int .i64 K, .int .i64 A][j]? = some v → w1.cell? ⟨w.heap.size, j, none⟩ = some v) := fun j v h => g1.cell ((HB.out.2 j).trans h) (by simp)
  clear g1 HB
  generalize w.heap.size = b0 at *
  go_wp2_with fail
  refine (newS 1 64 w w1 H1.out may_1_64).mono ?_
  rintro e w2 ⟨k, rfl, d2, g2, -⟩
  have D2 := hide d2
  have C2 : Hid (∀ j v, [Value.int .i64 x, .int .i64 y, .int .i64 s, .int .i64 K, .int .i64 A][j]? = some v → w2.cell? ⟨b0, j, none⟩ = some v) := fun j v h => g2.cell (C1.out j v h) (by simp)
  clear d2 g2 C1 H1
  obtain ⟨d, hd⟩ : ∃ d, d = k.d := ⟨_, rfl⟩
  rw [← hd]
  have HD := hide hd.symm
  clear hd
  have c0 := C2.out 0 _ rfl
  have c1 := C2.out 1 _ rfl
  have c2 := C2.out 2 _ rfl
  have c3 := C2.out 3 _ rfl
  have c4 := C2.out 4 _ rfl
  go_upto_region 4 with fail
  go_cut [5, 6] (fun s5 s6 wx => s5 = .pointer (some ⟨w2.heap.size, 0, none⟩) ∧ s6 = .int .i64 (s % 65) ∧ wx = (w2.alloc (.cells #[.int .i64 K, .int .i64 A] 69)).drew)
  case first =>
    go_region_held3 (fun w' => w'.cell? ⟨b0, 0, none⟩ = some (.int .i64 x) ∧ w'.cell? ⟨b0, 1, none⟩ = some (.int .i64 y) ∧ w'.cell? ⟨b0, 2, none⟩ = some (.int .i64 s) ∧ w'.cell? ⟨b0, 3, none⟩ = some (.int .i64 K) ∧ w'.cell? ⟨b0, 4, none⟩ = some (.int .i64 A)) (first | exact ⟨c0, c1, c2, c3, c4⟩ | assumption | go_keep) ((go_at_call 14; refine (pick_any s 65 65 _ rfl (by omega) (by omega)).mono ?_; rintro e w3 ⟨rfl, rfl⟩))
    all_goals (go_wp2_with fail; go_meet; exact ⟨rfl, rfl, rfl⟩)
  case rest =>
    obtain ⟨rfl, rfl, rfl⟩ := hcut
    have g3 : w2.grownBy (w2.alloc (.cells #[.int .i64 K, .int .i64 A] 69)).drew none := grown_trans (World.grownBy_alloc w2 _ none) (grown_drew _ _)
    have e3 : (w2.alloc (.cells #[.int .i64 K, .int .i64 A] 69)).drew.heap[w2.heap.size]? = some (.cells [Value.int .i64 K, .int .i64 A].toArray 69 (0, 0)) := heap_alloc_new w2 _
    have D3 := hide (D2.out.then g3)
    have x0 := g3.cell c0 (by simp)
    have x1 := g3.cell c1 (by simp)
    have E3 := hide e3
    obtain ⟨sm, hsm⟩ : ∃ sm : Nat, (sm : Int) = s % 65 := ⟨(s % 65).toNat, by omega⟩
    have hs64 : sm ≤ 64 := by omega
    rw [← hsm]
    clear c0 c1 c2 c3 c4 C2 D2 g3 e3 hsm
    generalize (w2.alloc (.cells #[.int .i64 K, .int .i64 A] 69)).drew = w3 at *
    generalize w2.heap.size = F at *
    go_upto_region 5 with fail
    go_cut [7, 8] (fun s7 s8 wx => ∃ XA XB a b, s7 = .slice (some ⟨a, 0, none⟩) 64 64 ∧ s8 = .slice (some ⟨b, 0, none⟩) 64 64 ∧ Hid (XA.length = 64 ∧ XB.length = 64 ∧ wx.heap[a]? = some (.cells (bv XA).toArray 5 (0, 0)) ∧ wx.heap[b]? = some (.cells (bv XB).toArray 5 (0, 0)) ∧ a < b ∧ w3.heap.size ≤ a ∧ w3.grownBy wx none))
    case first =>
      go_region_held3 (fun w' => w'.cell? ⟨b0, 0, none⟩ = some (.int .i64 x) ∧ w'.cell? ⟨b0, 1, none⟩ = some (.int .i64 y)) (first | exact ⟨x0, x1⟩ | assumption | go_keep) (first
        | (have hx := hg5; clear hx; go_at_call 30; refine (fill_some y 64 (by omega) _).mono ?_; rintro e w6 ⟨XB, lB, rfl, a6, g6⟩; have hg6 := grown_trans hg5 g6; have hS6 := And.intro (hg6.cell x0 (by simp)) (hg6.cell x1 (by simp)); have H6 := hide (And.intro lB (And.intro a6 g6)); clear lB a6 g6)
        | (go_at_call 30; refine (fill_some x 64 (by omega) _).mono ?_; rintro e w5 ⟨XA, lA, rfl, a5, g5⟩; have hg5 := grown_trans (grown_drew w3 none) g5; have hS5 := And.intro (hg5.cell x0 (by simp)) (hg5.cell x1 (by simp)); have H5 := hide (And.intro lA a5); clear lA a5 g5))
      all_goals
        go_wp2_with fail
        go_meet
        case rel => exact ⟨XA, XB, _, _, rfl, rfl, hide ⟨H5.out.1, H6.out.1, (H6.out.2.2.block _ (row_lt H5.out.2) (by simp)).trans H5.out.2, H6.out.2.1, row_lt H5.out.2, Nat.le_refl _, hg6⟩⟩
    case rest =>
      obtain ⟨XA, XB, a, b, rfl, rfl, HX⟩ := hcut
      have hFa : F < a := Nat.lt_of_lt_of_le (row_lt E3.out) HX.out.2.2.2.2.2.1
      have DC := hide (And.intro (D3.out.then HX.out.2.2.2.2.2.2) (And.intro ((HX.out.2.2.2.2.2.2.block _ (row_lt E3.out) (by simp)).trans E3.out) (And.intro HX.out.2.2.1 HX.out.2.2.2.1)))
      have NB : Hid (∀ i, foot k [] i → i ≠ b ∧ i ≠ a) := fun i hi => by have h1 := D3.out.disk.lt i hi; have h2 := HX.out.2.2.2.2.2.1; have h3 := HX.out.2.2.2.2.1; omega
      have LB : Hid (w.heap.size ≤ b ∧ F < a ∧ a < b) := ⟨by have h1 := D3.out.grown.size; have h2 := HX.out.2.2.2.2.2.1; have h3 := HX.out.2.2.2.2.1; omega, hFa, HX.out.2.2.2.2.1⟩
      have LL := hide (And.intro HX.out.1 HX.out.2.1)
      clear x0 x1 HX E3 D3 hFa
      go_wp2_with fail
      go_loopg [9] sm (fun q i wr => ∃ j : Nat, q + j = sm ∧ i = .int .i64 j ∧ Hid (wr.heap[b]? = some (.cells (bv (mixed XA XB j)).toArray 5 (0, 0)) ∧ wc.grownBy wr (some b)))
      case atStart => exact ⟨0, by omega, rfl, hide ⟨by simpa [mixed] using DC.out.2.2.2, grown_refl _ _⟩⟩
      case round =>
        obtain ⟨j, hkj, rfl, HR⟩ := hrel
        by_cases hk : 0 < gk
        · have hj : j < 64 := by omega
          obtain ⟨u, hu⟩ : ∃ u, XA[j]? = some u := ⟨_, List.getElem?_eq_getElem (by have := LL.out.1; omega)⟩
          obtain ⟨v, hv⟩ : ∃ v, (mixed XA XB j)[j]? = some v := ⟨_, List.getElem?_eq_getElem (by rw [mixed_length XA XB j LL.out.1 LL.out.2 (by omega)]; exact hj)⟩
          have ca : wr.cell? ⟨a, j, none⟩ = some (.int .u8 (u : Int)) := HR.out.2.cell (by rw [cell_row DC.out.2.2.1]; exact bv_get XA j u hu) (fun e => by have e : a = b := Option.some.inj e; have := LB.out.2.2; omega)
          have cb : wr.cell? ⟨b, j, none⟩ = some (.int .u8 (v : Int)) := by rw [cell_row HR.out.1]; exact bv_get _ j v hv
          have fb : wr.frozen? ⟨b, j, none⟩ = false := free_row HR.out.1 _
          have h1 : (0 : Int) ≤ (j : Int) := by omega
          have h2 : (j : Int) < 64 := by omega
          have HU := hide hu
          clear hu hv
          go_wp2
          go_roundg (gk - 1)
          case measure => omega
          case rel =>
            refine ⟨j + 1, by omega, by go_num, hide ⟨?_, grown_trans HR.out.2 (grown_setCell wr b j _)⟩⟩
            rw [row_setCell HR.out.1, ← mixed_set XA XB j u LL.out.1 LL.out.2 hj HU.out, bv_set]
        · have hj : j = sm := by omega
          subst hj
          have HC := hide (mixed_length XA XB j LL.out.1 LL.out.2 hs64)
          have HG := hide (fun i => mixed_get XA XB j i LL.out.1 hs64)
          have D6 := hide (And.intro (DC.out.1.row HR.out.2 (fun i hi => (NB.out i hi).1) LB.out.1) (And.intro ((HR.out.2.block F (row_lt DC.out.2.1) (fun e => by have e : F = b := Option.some.inj e; have := LB.out.2; omega)).trans DC.out.2.1) (And.intro ((HR.out.2.block a (row_lt DC.out.2.2.1) (fun e => by have e : a = b := Option.some.inj e; have := LB.out.2; omega)).trans DC.out.2.2.1) HR.out.1)))
          clear HR
          generalize mixed XA XB j = XC at *
          have NE : Hid (a ≠ k.db ∧ b ≠ k.db) := ⟨fun e => (NB.out k.db (.inl (.inr (.inl rfl)))).2 e.symm, fun e => (NB.out k.db (.inl (.inr (.inl rfl)))).1 e.symm⟩
          clear DC NB hkj hk
          go_wp2_with fail
          refine (writeS HD.out D6.out.1 (by simp) 0 (by omega) (some ⟨a, 0, none⟩) 64 XA (at_row D6.out.2.2.1) LL.out.1).mono ?_
          rintro e w7 ⟨rfl, k7, e1, e2, d7, x7⟩
          have D7 := hide (And.intro d7 (And.intro (x7.other D6.out.2.1 (D6.out.1.disk.other_off D6.out.2.1 (by decide) (by decide) (by decide))) (And.intro (x7.bytes D6.out.1.disk D6.out.2.2.1) (x7.bytes D6.out.1.disk D6.out.2.2.2))))
          have HD7 := hide (And.intro e1 e2)
          clear e1 e2 d7 x7 D6
          go_wp2_with fail
          refine (syncS HD7.out.1 D7.out.1).mono ?_
          rintro e w8 ⟨rfl, d8, x8⟩
          have D8 := hide (And.intro d8 (And.intro (calm_other x8 D7.out.2.1 (D7.out.1.disk.other_off D7.out.2.1 (by decide) (by decide) (by decide))) (And.intro (calm_bytes D7.out.1.disk x8 D7.out.2.2.1 (by rw [HD7.out.2]; exact NE.out.1)) (calm_bytes D7.out.1.disk x8 D7.out.2.2.2 (by rw [HD7.out.2]; exact NE.out.2)))))
          clear d8 x8 D7
          go_wp2_with fail
          refine (writeS (show k7.calm.d = d from HD7.out.1) D8.out.1 (by simp) 0 (by omega) (some ⟨b, 0, none⟩) 64 XC (at_row D8.out.2.2.2) HC.out).mono ?_
          rintro e w9 ⟨rfl, k9, e1, e2, d9, x9⟩
          have D9 := hide (And.intro d9 (And.intro (x9.other D8.out.2.1 (D8.out.1.disk.other_off D8.out.2.1 (by decide) (by decide) (by decide))) (And.intro (x9.bytes D8.out.1.disk D8.out.2.2.1) (x9.bytes D8.out.1.disk D8.out.2.2.2))))
          have HD9 := hide (And.intro e1 (e2.trans HD7.out.2))
          clear e1 e2 d9 x9 D8
          have f0 : w9.cell? ⟨F, 0, none⟩ = some (.int .i64 K) := cell_row (l := [Value.int .i64 K, .int .i64 A]) D9.out.2.1 0
          have f1 : w9.cell? ⟨F, 1, none⟩ = some (.int .i64 A) := cell_row (l := [Value.int .i64 K, .int .i64 A]) D9.out.2.1 1
          have g10 := World.grownBy_alloc w9 (.cells #[.int .i64 K, .int .i64 A] 69) none
          have D10 := hide (And.intro (D9.out.1.then g10) (And.intro ((g10.block _ (row_lt D9.out.2.1) (by simp)).trans D9.out.2.1) (And.intro ((g10.block _ (row_lt D9.out.2.2.1) (by simp)).trans D9.out.2.2.1) ((g10.block _ (row_lt D9.out.2.2.2) (by simp)).trans D9.out.2.2.2))))
          have HX := hide (crashS HD9.out.1 (D9.out.1.then g10) (some ⟨w9.heap.size, 0, none⟩) 1 1 [(K, A)] rfl (fates_row (heap_alloc_new w9 _)) (fun a e => by cases e; exact Nat.ne_of_gt (D9.out.1.disk.lt _ (.inl (.inr (.inl rfl))))))
          clear g10 D9
          go_wp2_with fail
          refine HX.out.mono ?_
          rintro e w11 ⟨rfl, d11, x11⟩
          have D11 := hide (And.intro d11 (And.intro (calm_other x11 D10.out.2.1 (D10.out.1.disk.other_off D10.out.2.1 (by decide) (by decide) (by decide))) (And.intro (calm_bytes D10.out.1.disk x11 D10.out.2.2.1 (by rw [HD9.out.2]; exact NE.out.1)) (calm_bytes D10.out.1.disk x11 D10.out.2.2.2 (by rw [HD9.out.2]; exact NE.out.2)))))
          clear d11 x11 D10 HX f0 f1
          go_wp2_with fail
          refine (readS (show k9.calm.d = d from HD9.out.1) D11.out.1 0 (by omega)).mono ?_
          rintro e w12 ⟨rfl, a12, g12⟩
          have hc : w12.heap[w11.heap.size]? = some (.cells (bv (over (XC.take (lasts K A 64)) XA)).toArray 5 (0, 0)) := by
            rw [← tears_found K A XA XC LL.out.1 HC.out wr.heap.size w8.heap.size]; exact a12
          have D12 := hide (And.intro (grown_trans D11.out.1.grown g12) (And.intro ((g12.block _ (row_lt D11.out.2.1) (by simp)).trans D11.out.2.1) (And.intro ((g12.block _ (row_lt D11.out.2.2.1) (by simp)).trans D11.out.2.2.1) (And.intro ((g12.block _ (row_lt D11.out.2.2.2) (by simp)).trans D11.out.2.2.2) hc))))
          have hlen : (over (XC.take (lasts K A 64)) XA).length = 64 := by rw [over_length _ _ (by simp [HC.out, LL.out.1]; omega)]; exact LL.out.1
          have OG : Hid (∀ i, i < 64 → (over (XC.take (lasts K A 64)) XA)[i]? = if i < lasts K A 64 then XC[i]? else XA[i]?) := fun i hi => by
            have := lasts_le K A 64
            rw [over_get]
            simp only [List.length_take, HC.out]
            by_cases h : i < lasts K A 64
            · rw [if_pos (by omega), if_pos h, List.getElem?_take, if_pos h]
            · rw [if_neg (by omega), if_neg h]
          have HLL := hide (And.intro hlen (lasts_le K A 64))
          clear a12 g12 hc hlen D11 HD9 HD7 NE LB
          generalize w11.heap.size = c at *
          generalize over (XC.take (lasts K A 64)) XA = OV at *
          have f0 : w12.cell? ⟨F, 0, none⟩ = some (.int .i64 K) := cell_row (l := [Value.int .i64 K, .int .i64 A]) D12.out.2.1 0
          have f1 : w12.cell? ⟨F, 1, none⟩ = some (.int .i64 A) := cell_row (l := [Value.int .i64 K, .int .i64 A]) D12.out.2.1 1
          go_upto_if 69 with fail
          go_cut [12] (fun s12 wx => ∃ v : Int, s12 = .int .i64 v ∧ Hid (v = if K = 1 then 64 else 0) ∧ wx = w12)
          case first =>
            go_wp2_with fail
            all_goals
              go_meet
              case rel => exact ⟨_, rfl, hide (by rename_i h; have h' := h; simp at h'; simp [h']), rfl⟩
          case rest =>
            obtain ⟨v, rfl, HV, rfl⟩ := hcut
            go_upto_if 72 with fail
            go_cut [12] (fun s12 wx => s12 = .int .i64 ((lasts K A 64 : Nat) : Int) ∧ wx = wc)
            case first =>
              by_cases hK : K = 2
              · subst hK
                have HA : Hid ((lasts 2 A 64 : Nat) = (min (max A 0) 64).toNat) := by show _ = _; unfold lasts; simp
                go_wp2_with fail
                all_goals
                  go_meet
                  case rel =>
                    refine ⟨?_, rfl⟩
                    rw [HA.out]
                    congr 1
                    omega
              · have hb : (K == 2) = false := by simp [hK]
                have HA : Hid (v = ((lasts K A 64 : Nat) : Int)) := by show _ = _; rw [HV.out]; unfold lasts; rw [if_neg hK]; by_cases h1 : K = 1 <;> simp [h1]
                clear hK
                go_wp2_with fail
                all_goals
                  go_meet
                  case rel =>
                    rw [← HA.out]
                    exact ⟨rfl, rfl⟩
            case rest =>
              obtain ⟨rfl, rfl⟩ := hcut
              clear f0 f1 HV
              obtain ⟨L, hL⟩ : ∃ L, L = lasts K A 64 := ⟨_, rfl⟩
              rw [← hL] at OG HLL ⊢
              clear hL
              go_wp2_with fail
              go_loopg [13] 64 (fun q i wr => ∃ j : Nat, q + j = 64 ∧ i = .int .i64 j ∧ Hid (∃ q, wr = wc.drewN q))
              case atStart => exact ⟨0, by omega, rfl, hide ⟨0, rfl⟩⟩
              case round =>
                obtain ⟨i, hki, rfl, HQ⟩ := hrel
                by_cases hk : 0 < gk
                · have hi : i < 64 := by omega
                  obtain ⟨ua, hua⟩ : ∃ u, XA[i]? = some u := ⟨_, List.getElem?_eq_getElem (by have := LL.out.1; omega)⟩
                  obtain ⟨ub, hub⟩ : ∃ u, XC[i]? = some u := ⟨_, List.getElem?_eq_getElem (by have := HC.out; omega)⟩
                  have hov := OG.out i hi
                  rw [hua, hub] at hov
                  have hsame : i < j → ub = ua := fun h => by have := HG.out i; rw [hub, if_pos h, hua] at this; exact Option.some.inj this
                  obtain ⟨uo, huo⟩ : ∃ u, OV[i]? = some u := ⟨_, List.getElem?_eq_getElem (by have := HLL.out.1; omega)⟩
                  have ca : wr.cell? ⟨a, i, none⟩ = some (.int .u8 (ua : Int)) := by obtain ⟨q, rfl⟩ := HQ.out; exact (cell_row D12.out.2.2.1 i).trans (bv_get _ i _ hua)
                  have cb : wr.cell? ⟨b, i, none⟩ = some (.int .u8 (ub : Int)) := by obtain ⟨q, rfl⟩ := HQ.out; exact (cell_row D12.out.2.2.2.1 i).trans (bv_get _ i _ hub)
                  have co : wr.cell? ⟨c, i, none⟩ = some (.int .u8 (uo : Int)) := by obtain ⟨q, rfl⟩ := HQ.out; exact (cell_row D12.out.2.2.2.2 i).trans (bv_get _ i _ huo)
                  have h1 : (0 : Int) ≤ (i : Int) := by omega
                  have h2 : (i : Int) < 64 := by omega
                  rw [huo] at hov
                  by_cases hiL : i < L
                  · rw [if_pos hiL] at hov
                    obtain rfl := Option.some.inj hov
                    clear hov hua hub huo
                    have q1 : decide (i < L) = true := by simpa using hiL
                    have q2 : decide (L ≤ i) = false := by simpa using hiL
                    by_cases hij : i < j
                    · have q3 : decide (i < j) = true := by simpa using hij
                      obtain rfl := hsame hij
                      clear hsame
                      go_wp2_with fail
                      go_quiet (fail)
                      go_wp2
                      go_roundg (gk - 1)
                      case measure => omega
                      case rel => exact ⟨i + 1, by omega, by go_num, hide (by obtain ⟨q, rfl⟩ := HQ.out; exact drews wc q _)⟩
                    · have q3 : decide (i < j) = false := by simpa using hij
                      clear hsame
                      go_wp2_with fail
                      go_quiet (fail)
                      go_wp2
                      go_roundg (gk - 1)
                      case measure => omega
                      case rel => exact ⟨i + 1, by omega, by go_num, hide (by obtain ⟨q, rfl⟩ := HQ.out; exact drews wc q _)⟩
                  · rw [if_neg hiL] at hov
                    obtain rfl := Option.some.inj hov
                    clear hov hua hub huo
                    have q1 : decide (i < L) = false := by simpa using hiL
                    have q2 : decide (L ≤ i) = true := by simpa using hiL
                    by_cases hij : i < j
                    · have q3 : decide (i < j) = true := by simpa using hij
                      clear hsame
                      go_wp2_with fail
                      go_quiet (fail)
                      go_wp2
                      go_roundg (gk - 1)
                      case measure => omega
                      case rel => exact ⟨i + 1, by omega, by go_num, hide (by obtain ⟨q, rfl⟩ := HQ.out; exact drews wc q _)⟩
                    · have q3 : decide (i < j) = false := by simpa using hij
                      clear hsame
                      go_wp2_with fail
                      go_quiet (fail)
                      go_wp2
                      go_roundg (gk - 1)
                      case measure => omega
                      case rel => exact ⟨i + 1, by omega, by go_num, hide (by obtain ⟨q, rfl⟩ := HQ.out; exact drews wc q _)⟩
                · go_wp2
                  go_ret
                  refine ⟨rfl, ?_⟩
                  obtain ⟨q, rfl⟩ := HQ.out
                  exact grown_trans D12.out.1 (grown_drewN _ _ _)
end Go.Proofs.Ytgcfjphjekkkmaa
