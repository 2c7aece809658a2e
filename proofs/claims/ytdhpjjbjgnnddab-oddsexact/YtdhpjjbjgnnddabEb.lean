/- OddsExact walked. -/
import Derived.Test.YtdhpjjbjgnnddabEa
import Derived.Test.YtdhpjjbjgnnddabOn
namespace Go.Proofs.Ytdhpjjbjgnnddab
open Go.RowKit Ieee
attribute [local go_sem ↓] Go.wp_at_zero Go.wp_at_succ
attribute [local go_sem] run_store_float

/-- A row of whole numbers in a block, in a world that is told by what is new since w0. -/
structure Wy (w0 w : World) (g : Nat) (L : List Nat) : Prop where
  row : w.heap[g]? = some (.cells (L.map fun (x : Nat) => Value.int .i64 (x : Int)).toArray 2 (0, 0))
  lo : w0.heap.size ≤ g
  grown : w0.grownBy w none
theorem Wy.cell {w0 w : World} {g : Nat} {L : List Nat} (h : Wy w0 w g L) {j : Nat} (hj : j < L.length) : w.cell? ⟨g, j, none⟩ = some (.int .i64 ((L.getD j 0 : Nat) : Int)) := by
  rw [cell_row h.row, List.getElem?_map, List.getElem?_eq_getElem hj, List.getD_eq_getElem?_getD, List.getElem?_eq_getElem hj]; rfl
theorem Wy.free {w0 w : World} {g : Nat} {L : List Nat} (h : Wy w0 w g L) (j : Nat) : w.frozen? ⟨g, j, none⟩ = false := free_row h.row j
theorem Wy.set {w0 w : World} {g : Nat} {L : List Nat} (h : Wy w0 w g L) (j v : Nat) : Wy w0 (w.setCell ⟨g, j, none⟩ (.int .i64 (v : Int))) g (L.set j v) := by
  refine ⟨?_, h.lo, grown_then h.grown (grown_setCell _ _ _ _) (fun k e => by cases e; exact Or.inl h.lo)⟩
  have := row_setCell h.row j (.int .i64 (v : Int))
  rw [List.map_set]
  exact this
theorem Wy.drew {w0 w : World} {g : Nat} {L : List Nat} (h : Wy w0 w g L) : Wy w0 w.drew g L := ⟨h.row, h.lo, grown_trans h.grown (grown_drew _ _)⟩

theorem made_zeros (n : Nat) : madeCells #[Value.int .i64 0] n = ((List.replicate n 0).map fun (x : Nat) => Value.int .i64 (x : Int)).toArray := by
  apply Array.ext'
  apply List.ext_getElem?
  intro j
  by_cases hj : j < n
  · simp [madeCells, hj, Nat.mod_one]
  · simp [madeCells, hj]
theorem make_ways (n : Nat) (h : n ≤ 8192) (w : World) : (Instr.makeSlice 28 (.int .i64 (n : Int)) (.int .i64 (n : Int))).run Try.prog w = .ok (.slice (some ⟨w.heap.size, 0, none⟩) n n) (w.alloc (.cells ((List.replicate n 0).map fun (x : Nat) => Value.int .i64 (x : Int)).toArray 2)) := by
  have hinfo : (Try.prog.info? 2).map (fun i => (i.zero, i.size, i.bytes)) = some (some (.int .i64 0), 1, 8) := by kernel_rfl
  obtain ⟨i0, hi, hz0, hz1, hz2⟩ := info_parts hinfo
  have h1 : (n : Int).toNat = n := Int.toNat_natCast n
  have h2 : (Value.int .i64 0).cells = #[Value.int .i64 0] := rfl
  rw [run_make (P := Try.prog) (w := w) 28 2 i0 (.int .i64 0) Try.underlying28 hi hz0 .i64 .i64 (n : Int) (n : Int) (by omega) (by omega) (by rw [hz2]; omega) (by omega), hz1, h1, h2, Nat.mul_one, made_zeros]
theorem Wy.made (w : World) (n : Nat) : Wy w (w.alloc (.cells ((List.replicate n 0).map fun (x : Nat) => Value.int .i64 (x : Int)).toArray 2)) w.heap.size (List.replicate n 0) :=
  ⟨heap_alloc_new w _, Nat.le_refl _, World.grownBy_alloc w _ none⟩

/-- Pascal's rows in place: down to j as the row of n, behind it as that of one more. -/
def Ps (n s j : Nat) (L : List Nat) : Prop := L.length = s + 1 ∧ ∀ k, k ≤ s → L.getD k 0 = if k ≤ j then ch n k else ch (n + 1) k
theorem Ps.first (s : Nat) : Ps 0 s s ((List.replicate (s + 1) 0).set 0 1) := by
  refine ⟨by simp, fun k hk => ?_⟩
  rw [if_pos hk, getD_set _ _ _ _ (by simp)]
  cases k with
  | zero => rfl
  | succ k => rw [if_neg (by omega)]; simp [ch, List.getD_eq_getElem?_getD, List.getElem?_replicate]; split <;> rfl
theorem Ps.step {n s j : Nat} {L : List Nat} (h : Ps n s (j + 1) L) (hj : j + 1 ≤ s) : Ps n s j (L.set (j + 1) (ch n (j + 1) + ch n j)) := by
  obtain ⟨hl, h⟩ := h
  refine ⟨by rw [List.length_set]; exact hl, fun k hk => ?_⟩
  rw [getD_set _ _ _ _ (by omega)]
  by_cases he : k = j + 1
  · subst he; rw [if_pos rfl, if_neg (by omega), ch_succ]
  · rw [if_neg he, h k hk]
    by_cases h2 : k ≤ j
    · rw [if_pos (by omega), if_pos h2]
    · rw [if_neg (by omega), if_neg h2]
theorem Ps.last {n s : Nat} {L : List Nat} (h : Ps n s 0 L) : Ps (n + 1) s s L := by
  obtain ⟨hl, h⟩ := h
  refine ⟨hl, fun k hk => ?_⟩
  rw [if_pos hk, h k hk]
  split
  · have : k = 0 := by omega
    subst this; rw [ch_zero, ch_zero]
  · rfl

theorem lik_words : lik 4602678819172646912 = true ∧ lik 0 = true ∧ lik 4607182418800017408 = true := by decide +kernel
theorem order_z {z : Nat} (h : z ≤ 4607182418800017408) : (FloatKind.f64.format.order z z != some .eq) = false := by
  rw [bne, order_self (fin_of (low_fin h))]; rfl
theorem none_at (m j : Nat) (h : j ≤ m) : (rw' (0 % 2 ^ 63) m).getD j 0 = if ((j : Int) == 0) = true then 4607182418800017408 else 0 := by
  rw [show 0 % 2 ^ 63 = 0 from rfl, row_none]
  cases j with
  | zero => rfl
  | succ j =>
    rw [if_neg (by simp; omega), List.getD_eq_getElem?_getD, List.getElem?_cons_succ, List.getElem?_replicate]
    split <;> rfl
theorem all_at (m j : Nat) (h : j ≤ m) : (rw' (4607182418800017408 % 2 ^ 63) m).getD j 0 = if ((j : Int) == (m : Int)) = true then 4607182418800017408 else 0 := by
  rw [show 4607182418800017408 % 2 ^ 63 = 4607182418800017408 from rfl, row_all, List.getD_eq_getElem?_getD]
  by_cases hj : j = m
  · subst hj
    rw [if_pos (by simp), List.getElem?_append_right (by rw [List.length_replicate]; omega), List.length_replicate, Nat.sub_self]; rfl
  · rw [if_neg (by simp; omega), List.getElem?_append_left (by rw [List.length_replicate]; omega), List.getElem?_replicate, if_pos (by omega)]; rfl
theorem shl_facts (m : Nat) (h : m ≤ 50) : IntKind.u64.wrap (m : Int) = (m : Int) ∧ min m 64 = m ∧ IntKind.i64.wrap ((2 : Int) ^ m) = ((2 ^ m : Nat) : Int) := by
  have h1 : 2 ^ m ≤ 2 ^ 50 := Nat.pow_le_pow_right (by omega) h
  have h2 : ((2 : Int) ^ m) = ((2 ^ m : Nat) : Int) := by rw [Int.natCast_pow]; rfl
  refine ⟨by rw [IntKind.wrap_u64]; omega, by omega, ?_⟩
  rw [h2, IntKind.wrap_i64]
  generalize 2 ^ m = z at *
  omega

set_option maxRecDepth 100000 in
set_option maxHeartbeats 2000000 in
theorem oddsExact_any (n : Int) (w : World) : Calls Try.prog 3 #[.int .i64 n] w fun e w' => e = .returned (.bool true) ∧ w.grownBy w' none := by
  have hn1 := Int.emod_nonneg n (show (51 : Int) ≠ 0 by omega)
  have hn2 := Int.emod_lt_of_pos n (show (0 : Int) < 51 by omega)
  obtain ⟨s, hs⟩ : ∃ s : Nat, n % ((51 : Nat) : Int) = (s : Int) := ⟨(n % 51).toNat, by omega⟩
  have P := pick_any n 51 51 w rfl (by omega) (by omega)
  rw [hs] at P
  have hsb : s ≤ 50 := by omega
  have HP := hide P
  clear P hs hn1 hn2
  have hw1 : IntKind.i64.wrap ((s : Int) + 1) = ((s + 1 : Nat) : Int) := by rw [IntKind.wrap_i64]; omega
  have S1 := hide (fun w => shows_any w s 0 w (grown_refl _ _) (by omega) lik_words.2.1)
  have S2 := hide (fun w => shows_any w s 4607182418800017408 w (grown_refl _ _) (by omega) lik_words.2.2)
  have S3 := hide (fun w => shows_any w s 4602678819172646912 w (grown_refl _ _) (by omega) lik_words.1)
  go_enter Try.func3, Try.ntmps3
  go_wp2_with fail
  refine HP.out.mono ?_
  rintro e w1 ⟨rfl, hw⟩
  obtain rfl := hw.symm
  clear hw HP
  go_wp2_with fail
  refine (S1.out _).mono ?_
  rintro e w1 ⟨v1, g1, c1, rfl, hrow1, hg1⟩
  obtain ⟨ao, cap, e1, -, -, -, hat1, -⟩ := own_at hrow1.own
  have HA := hide hat1
  have HG1 := hide hg1
  obtain rfl := e1
  clear hrow1 hg1 hat1 S1
  go_wp2_with fail
  refine (S2.out _).mono ?_
  rintro e w2 ⟨v2, g2, c2, rfl, hrow2, hg2⟩
  obtain ⟨bo, cap2, e1, -, -, -, hat2, -⟩ := own_at hrow2.own
  have HB := hide (And.intro (HA.out.grown hg2) hat2)
  have HG2 := hide (grown_trans HG1.out hg2)
  obtain rfl := e1
  clear hrow2 hg2 hat2 S2 HG1 HA
  go_wp2_with fail
  refine (S3.out _).mono ?_
  rintro e w3 ⟨v3, g3, c3, rfl, hrow3, hg3⟩
  obtain ⟨co, cap3, e1, -, -, -, hat3, -⟩ := own_at hrow3.own
  have HC := hide (And.intro (HB.out.1.grown hg3) (And.intro (HB.out.2.grown hg3) hat3))
  have HG3 := hide (grown_trans HG2.out hg3)
  obtain rfl := e1
  clear hrow3 hg3 hat3 S3 HG2 HB
  rw [row_length, row_length, row_length]
  have hmk := make_ways (s + 1) (by omega) w3
  have hnat : ((s + 1 : Nat) : Int) = (s : Int) + 1 := by omega
  rw [hnat] at hmk hw1
  clear hnat
  have HW := hide (Wy.made w3 (s + 1))
  generalize w3.alloc (.cells ((List.replicate (s + 1) 0).map fun (x : Nat) => Value.int .i64 (x : Int)).toArray 2) = w4 at *
  generalize w3.heap.size = gw at *
  have hfr := HW.out.free 0
  have hc0 := HW.out.cell (j := 0) (by simp)
  have HW2 := hide (HW.out.set 0 1)
  have HPs := hide (Ps.first s)
  rw [show ((1 : Nat) : Int) = 1 from rfl] at HW2
  clear HW
  generalize (List.replicate (s + 1) 0).set 0 1 = L0 at *
  generalize (List.replicate (s + 1) 0).getD 0 0 = z0 at *
  go_wp2
  generalize w4.setCell ⟨gw, 0, none⟩ (.int .i64 1) = w5 at *
  clear hfr hc0 hmk
  go_loopg [10] s (fun k i wr => ∃ (m : Nat) (L : List Nat), k + m = s ∧ i = .int .i64 (m : Int) ∧ Hid (Wy w3 wr gw L ∧ Ps m s s L))
  case atStart => exact ⟨0, L0, by omega, rfl, HW2.out, HPs.out⟩
  case round =>
    obtain ⟨m, L, hkm, rfl, HL⟩ := hrel
    by_cases hk : 0 < gk
    · have h1 : (m : Int) < (s : Int) := by omega
      have hw : IntKind.i64.wrap ((m : Int) + 1) = (m : Int) + 1 := by rw [IntKind.wrap_i64]; omega
      go_wp2
      go_loopg [11] s (fun k i wz => ∃ (j : Nat) (M : List Nat), k = j ∧ j ≤ s ∧ i = .int .i64 (j : Int) ∧ Hid (Wy w3 wz gw M ∧ Ps m s j M))
      case atStart => exact ⟨s, L, rfl, Nat.le_refl _, rfl, HL.out⟩
      case round =>
        obtain ⟨j, M, rfl, hjs, rfl, HM⟩ := hrel
        have hfr := HM.out.1.free gk
        have hml := HM.out.2.1
        have hch := HM.out.2.2
        by_cases hj : 0 < gk
        · obtain ⟨t, ht⟩ : ∃ t, gk = t + 1 := ⟨gk - 1, by omega⟩
          have hc1 := HM.out.1.cell (j := gk) (by omega)
          have hc2 := HM.out.1.cell (j := t) (by omega)
          rw [hch gk (by omega), if_pos (Nat.le_refl _)] at hc1
          rw [hch t (by omega), if_pos (by omega)] at hc2
          have hb1 : ch m gk ≤ 2 ^ 50 := Nat.le_trans (ch_le _ _) (Nat.pow_le_pow_right (by omega) (by omega))
          have hb2 : ch m t ≤ 2 ^ 50 := Nat.le_trans (ch_le _ _) (Nat.pow_le_pow_right (by omega) (by omega))
          have HS := hide (show Ps m s t (M.set gk (ch m gk + ch m t)) by rw [ht]; exact Ps.step (by rw [← ht]; exact HM.out.2) (by omega))
          have HW3 := hide (HM.out.1.set gk (ch m gk + ch m t))
          clear hch hml
          generalize ch m gk = x at *
          generalize ch m t = y at *
          have hwa : IntKind.i64.wrap ((x : Int) + (y : Int)) = ((x + y : Nat) : Int) := by rw [IntKind.wrap_i64]; omega
          have hwt : IntKind.i64.wrap ((gk : Int) - 1) = (t : Int) := by rw [IntKind.wrap_i64]; omega
          have hg0 : (0 : Int) < (gk : Int) := by omega
          have hg1 : (gk : Int) < (s : Int) + 1 := by omega
          have hgz : (0 : Int) ≤ (gk : Int) := by omega
          have ht0 : (0 : Int) ≤ (t : Int) := by omega
          have ht1 : (t : Int) < (s : Int) + 1 := by omega
          have HT := hide (And.intro ht hjs)
          clear ht hb1 hb2
          go_wp2
          go_region
          go_wp2
          go_roundg t
          case measure => have := HT.out.1; omega
          case rel => exact ⟨t, M.set gk (x + y), rfl, by have := HT.out; omega, rfl, HW3.out.drew, HS.out⟩
        · obtain rfl : gk = 0 := by omega
          clear hfr hml hch
          have HN := hide HM.out.2.last
          go_wp2
          go_roundg (s - m - 1)
          case measure => omega
          case rel => exact ⟨m + 1, M, by omega, by go_num, HM.out.1, HN.out⟩
    · obtain rfl : m = s := by omega
      have HV := hide (show At wr ao (rw' (0 % 2 ^ 63) m) ∧ At wr bo (rw' (4607182418800017408 % 2 ^ 63) m) ∧ At wr co (rw' (4602678819172646912 % 2 ^ 63) m) from ⟨HC.out.1.grown HL.out.1.grown, HC.out.2.1.grown HL.out.1.grown, HC.out.2.2.grown HL.out.1.grown⟩)
      have HGr := hide (grown_trans HG3.out HL.out.1.grown)
      obtain ⟨hsh1, hsh2, hsh3⟩ := shl_facts m hsb
      clear HC HG3
      go_wp2
      go_loopg [12] (m + 1) (fun k i wz => ∃ j : Nat, k + j = m + 1 ∧ i = .int .i64 (j : Int) ∧ Hid (wr.grownBy wz none))
      case atStart => exact ⟨0, rfl, rfl, grown_refl _ _⟩
      case round =>
        obtain ⟨j, hkj, rfl, HZ⟩ := hrel
        by_cases hk : 0 < gk
        · have h1 : (j : Int) ≤ (m : Int) := by omega
          have h1' : (j : Int) < (m : Int) + 1 := by omega
          have h0 : (0 : Int) ≤ (j : Int) := by omega
          have hw : IntKind.i64.wrap ((j : Int) + 1) = (j : Int) + 1 := by rw [IntKind.wrap_i64]; omega
          go_upto_region 20 with fail
          go_cut [97] from 91 to 131 (fun v wx => v = .bool ((j : Int) == 0) ∧ wx = wr)
          case first =>
            go_wp2
            go_meet
            case rel => exact ⟨rfl, rfl⟩
          case rest =>
          obtain ⟨rfl, hwx⟩ := hcut
          obtain rfl := hwx.symm
          clear hwx
          generalize hb0 : ((j : Int) == 0) = b0
          have HB0 := hide hb0
          clear hb0
          go_upto_if 97 with fail
          go_cut [13] from 91 to 131 (fun v wx => v = .float .f64 (if b0 = true then 4607182418800017408 else 0) ∧ wx = wr)
          case first =>
            cases b0
            · go_wp2
              go_meet
              case rel => exact ⟨rfl, rfl⟩
            · go_wp2
              go_meet
              case rel => exact ⟨rfl, rfl⟩
          case rest =>
          obtain ⟨rfl, hwx⟩ := hcut
          obtain rfl := hwx.symm
          clear hwx
          generalize hf1 : (if b0 = true then 4607182418800017408 else 0) = f1
          have HF1 := hide hf1
          clear hf1
          go_upto_region 22 with fail
          go_cut [100] from 91 to 131 (fun v wx => v = .bool ((j : Int) == (m : Int)) ∧ wx = wr)
          case first =>
            go_wp2
            go_meet
            case rel => exact ⟨rfl, rfl⟩
          case rest =>
          obtain ⟨rfl, hwx⟩ := hcut
          obtain rfl := hwx.symm
          clear hwx
          generalize hbm : ((j : Int) == (m : Int)) = bm
          have HBM := hide hbm
          clear hbm
          go_upto_if 100 with fail
          go_cut [14] from 91 to 131 (fun v wx => v = .float .f64 (if bm = true then 4607182418800017408 else 0) ∧ wx = wr)
          case first =>
            cases bm
            · go_wp2
              go_meet
              case rel => exact ⟨rfl, rfl⟩
            · go_wp2
              go_meet
              case rel => exact ⟨rfl, rfl⟩
          case rest =>
          obtain ⟨rfl, hwx⟩ := hcut
          obtain rfl := hwx.symm
          clear hwx
          generalize hf2 : (if bm = true then 4607182418800017408 else 0) = f2
          have HF2 := hide hf2
          clear hf2
          obtain ⟨a, rfl, hca⟩ := (HV.out.1.grown HZ.out).take (j := j) (by rw [row_length]; omega)
          obtain ⟨b, rfl, hcb⟩ := (HV.out.2.1.grown HZ.out).take (j := j) (by rw [row_length]; omega)
          obtain ⟨c, rfl, hcc⟩ := (HV.out.2.2.grown HZ.out).take (j := j) (by rw [row_length]; omega)
          have hcw := HZ.out.cell (HL.out.1.cell (j := j) (by rw [HL.out.2.1]; omega)) (by simp)
          rw [HL.out.2.2 j (by omega), if_pos (by omega)] at hcw
          rw [none_at m j (by omega), HB0.out, HF1.out] at hca
          rw [all_at m j (by omega), HBM.out, HF2.out] at hcb
          have hq := (row_low (p := 4602678819172646912) (by omega) m).getD j
          have hm := run_mul (half_times (n := m) (k := j) (by omega) hq (row_half m (by omega) j))
          rw [show 4602678819172646912 % 2 ^ 63 = 4602678819172646912 from rfl] at hcc
          generalize (rw' 4602678819172646912 m).getD j 0 = q at *
          have o1 : (FloatKind.f64.format.order f1 f1 != some .eq) = false := order_z (by have := HF1.out; split at this <;> omega)
          have o2 : (FloatKind.f64.format.order f2 f2 != some .eq) = false := order_z (by have := HF2.out; split at this <;> omega)
          have o3 : (FloatKind.f64.format.order (floatOfInt .f64 ((ch m j : Nat) : Int)) (floatOfInt .f64 ((ch m j : Nat) : Int)) != some .eq) = false := by
            have hle := ch_le m j
            have : 2 ^ m ≤ 2 ^ 50 := Nat.pow_le_pow_right (by omega) hsb
            have hf : Fin64 (floatOfInt .f64 ((ch m j : Nat) : Int)) := (of_int (n := ((ch m j : Nat) : Int)) (by rw [Int.natAbs_natCast]; omega)).1
            rw [bne, order_self hf]; rfl
          have hm' : ∀ w : World, (binOp .mul 27 (.float .f64 q) (.float .f64 (floatOfInt .f64 ((2 ^ m : Nat) : Int)))).run Try.prog w = .ok (.float .f64 (floatOfInt .f64 ((ch m j : Nat) : Int))) w := hm
          generalize ((2 ^ m : Nat) : Int) = pm at *
          generalize ((ch m j : Nat) : Int) = cm at *
          clear HV HL HB0 HF1 HBM HF2 hm hq
          go_wp2
          go_region_held3 (fun w' => w'.cell? (a.add j) = some (.float .f64 f1) ∧ w'.cell? (b.add j) = some (.float .f64 f2) ∧ w'.cell? (c.add j) = some (.float .f64 q) ∧ w'.cell? ⟨gw, j, none⟩ = some (.int .i64 cm)) (go_keep) (fail)
          go_wp2
          go_roundg (gk - 1)
          case measure => omega
          case rel => exact ⟨j + 1, by omega, by go_num, grown_trans HZ.out (grown_drew _ _)⟩
        · obtain rfl : j = m + 1 := by omega
          clear HV HL
          go_wp2_with fail
          refine (awake_any wr).mono ?_
          rintro e w9 ⟨rfl, hg9⟩
          have HG9 := hide (grown_trans HGr.out (grown_trans HZ.out hg9))
          clear hg9
          go_wp2
          go_ret
          exact ⟨rfl, HG9.out⟩
end Go.Proofs.Ytdhpjjbjgnnddab
