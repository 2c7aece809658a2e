/- Texts joined: Im4, Im5, Im6. -/
import Derived.Test.YtahjckcfcdnlmaaGreatDoorJbAq
import Derived.Test.YtahjckcfcdnlmaaGreatDoorJbAr
/- Bookings read; Put. -/
namespace Go.Proofs.YtahjckcfcdnlmaaGreatDoor
open Go.RowKit
attribute [local go_sem ↓] Go.wp_at_zero Go.wp_at_succ
attribute [local go_sem] Oper.semAt_some
theorem make_bgs2 (n : Nat) (h : n ≤ 65535) (w : World) : (Instr.makeSlice 31 (.int .i64 (n : Int)) (.int .i64 (n : Int))).run Tryz.prog w = .ok (.slice (some ⟨w.heap.size, 0, none⟩) n n) (w.alloc (.cells (bgs (List.replicate n ⟨0, 0, 0⟩)).toArray 45)) := by
  obtain ⟨i0, hi, hz0, hz1, hz2⟩ := info_parts Tryz.info45
  rw [run_make (P := Tryz.prog) (w := w) 31 45 i0 (.agg #[.int .u32 0, .int .i64 0, .int .i64 0]) Tryz.underlying31 hi hz0 .i64 .i64 (n : Int) (n : Int) (by omega) (by omega) (by rw [hz2]; omega) (by omega), hz1]
  simp [bgs_zero, Value.cells]
/-- A row of which the first bookings are read. -/
def rwJ (xs : List Int) (m j : Nat) : List Bg := (bws xs j).map Bw.bg ++ List.replicate (m - j) ⟨0, 0, 0⟩
theorem rwJ_length {xs : List Int} {m j : Nat} (h : j ≤ m) : (rwJ xs m j).length = m := by simp [rwJ, bws_length]; omega
theorem rwJ_set {xs : List Int} {m j : Nat} (h : j < m) : (rwJ xs m j).set j (bwAt xs j).bg = rwJ xs m (j + 1) := by
  unfold rwJ
  rw [bws_succ, List.map_append, List.set_append_right _ _ (by simp [bws_length])]
  simp only [List.length_map, bws_length, Nat.sub_self]
  rw [show m - j = (m - (j + 1)) + 1 by omega, List.replicate_succ, List.set_cons_zero]
  simp
theorem RdB.put3 {w W : World} {G B : Nat} {R : List Bg} {xs : List Int} (h : RdB w W G B (bgs R) 45 xs) (hG : w.heap.size ≤ G) (j : Nat) (y : Bg) : RdB w (((W.setCell ⟨G, j * 3, none⟩ (.int .u32 (y.i : Int))).setCell ⟨G, j * 3 + 1, none⟩ (.int .i64 (y.s : Int))).setCell ⟨G, j * 3 + 2, none⟩ (.int .i64 y.u)) G B (bgs (R.set j y)) 45 xs := by
  have hg : W.grownBy (((W.setCell ⟨G, j * 3, none⟩ (.int .u32 (y.i : Int))).setCell ⟨G, j * 3 + 1, none⟩ (.int .i64 (y.s : Int))).setCell ⟨G, j * 3 + 2, none⟩ (.int .i64 y.u)) (some G) := grown_trans (grown_trans (grown_setCell _ _ _ _) (grown_setCell _ _ _ _)) (grown_setCell _ _ _ _)
  refine ⟨h.rd.kept hg (fun e => h.ne (Option.some.inj e)) (Oc.NoBytes.of h.bx (by decide)), ?_, h.ne, h.lo, grown_then h.gr hg (fun i e => .inl (by cases e; exact hG))⟩
  rw [bgs_set]
  exact row_setCell (row_setCell (row_setCell h.bx _ _) _ _) _ _
theorem drop14 (xs : List Int) (j : Nat) : ((xs.drop (14 * j)).drop 4).drop 2 = xs.drop (14 * j + 6) := by rw [List.drop_drop, List.drop_drop]
set_option maxRecDepth 20000 in
set_option maxHeartbeats 8000000 in
theorem readBookings_any {w : World} {ao : Option Addr} {n cap : Nat} {xs : List Int} {m : Nat} (hn : n = 14 * m) (hat : Oc.At w ao xs) (hB : Oc.Byt xs) (hl : xs.length = n) (hm : m ≤ 65535) (hnil : ao = none → n = 0 ∧ cap = 0) : Calls Tryz.prog 24 #[.slice ao n cap, .int .i64 (m : Int)] w fun e w' => ∃ v, e = .returned v ∧ BwA w' v (bws xs m) ∧ w.grownBy w' none := by
  have HO : Hid (Calls Tryz.prog 54 #[.slice ao n cap] w fun r w' => ∃ B, r = .returned (.pointer (some ⟨B, 0, none⟩)) ∧ w.heap.size ≤ B ∧ Oc.RdAt w' B xs 0 ∧ w.grownBy w' none) := Oc.of_any ao n cap xs w hl hat hnil (by omega)
  have hmk := make_bgs2 m hm
  have HS1 : Hid (∀ W G B cs j, j < m → RdB w W G B cs 45 (xs.drop (14 * j)) → Calls Tryz.prog 56 #[.pointer (some ⟨B, 0, none⟩)] W fun e w' => e = .returned (.int .u32 ((bwAt xs j).bg.i : Int)) ∧ RdB w w' G B cs 45 (xs.drop (14 * j + 4))) := by
    intro W G B cs j hj h
    have := h.four (hB.drop _) (by simp; omega)
    rw [gV_at, List.drop_drop] at this
    have hb := gV_bound hB (14 * j) 4
    refine this.mono ?_
    rintro e w' ⟨rfl, h1⟩
    refine ⟨?_, h1⟩
    simp only [bwAt, Bw.bg, Nat.add_zero]
    rw [Int.toNat_of_nonneg hb.1]
  have HS2 : Hid (∀ W G B cs j, j < m → RdB w W G B cs 45 (xs.drop (14 * j + 4)) → Calls Tryz.prog 55 #[.pointer (some ⟨B, 0, none⟩)] W fun e w' => e = .returned (.int .u16 ((bwAt xs j).bg.s : Int)) ∧ RdB w w' G B cs 45 (xs.drop (14 * j + 6))) := by
    intro W G B cs j hj h
    have := h.two (hB.drop _) (by simp; omega)
    rw [gV_at, List.drop_drop] at this
    have hb := gV_bound hB (14 * j + 4) 2
    refine this.mono ?_
    rintro e w' ⟨rfl, h1⟩
    refine ⟨?_, h1⟩
    simp only [bwAt, Bw.bg, Nat.add_zero]
    rw [Int.toNat_of_nonneg hb.1]
  have HS3 : Hid (∀ W G B cs j, j < m → RdB w W G B cs 45 (xs.drop (14 * j + 6)) → Calls Tryz.prog 57 #[.pointer (some ⟨B, 0, none⟩)] W fun e w' => ∃ V, e = .returned (.int .u64 V) ∧ IntKind.i64.wrap V = (bwAt xs j).bg.u ∧ RdB w w' G B cs 45 (xs.drop (14 * (j + 1)))) := by
    intro W G B cs j hj h
    have := h.eight (hB.drop _) (by simp; omega)
    rw [gV_at, List.drop_drop] at this
    refine this.mono ?_
    rintro e w' ⟨rfl, h1⟩
    refine ⟨_, rfl, rfl, ?_⟩
    rw [show 14 * (j + 1) = 14 * j + 6 + 8 by omega]
    exact h1
  have HSb : Hid (∀ j, IntKind.i64.wrap ((bwAt xs j).bg.s : Int) = ((bwAt xs j).bg.s : Int)) := by
    intro j
    have hb := gV_bound hB (14 * j + 4) 2
    rw [IntKind.wrap_i64]
    simp only [bwAt, Bw.bg]
    omega
  have HE : Hid (∀ W v, BgA W v ((bws xs m).map Bw.bg) → BwA W v (bws xs m)) := by
    intro W v h
    have := h.bw
    rw [map_bg] at this
    · exact this
    · intro y hy
      simp only [bws, List.mem_map] at hy
      obtain ⟨j, _, rfl⟩ := hy
      exact (gV_bound hB _ _).1
  have HBx : Hid (∀ W G B xs' R, RdB w W G B (bgs R) 45 xs' → ∀ j, j < R.length → W.cell? ⟨G, j * 3, none⟩ = some (.int .u32 ((rd R j).i : Int)) ∧ W.cell? ⟨G, j * 3 + 1, none⟩ = some (.int .i64 ((rd R j).s : Int)) ∧ W.cell? ⟨G, j * 3 + 2, none⟩ = some (.int .i64 (rd R j).u) ∧ (∀ i, W.frozen? ⟨G, i, none⟩ = false)) := by
    intro W G B xs' R h j hj
    obtain ⟨h1, h2, h3⟩ := bgs_get hj
    exact ⟨by rw [cell_row h.bx]; exact h1, by rw [cell_row h.bx]; exact h2, by rw [cell_row h.bx]; exact h3, fun i => free_row h.bx i⟩
  have Hn := hide hn
  clear hn hat hB hl hnil
  go_enter Tryz.func24, Tryz.ntmps24
  go_wp2_with fail
  refine HO.out.mono ?_
  rintro e w1 ⟨B, rfl, hlo, hrd, hg⟩
  have H1 : Hid (RdB w (w1.alloc (.cells (bgs (List.replicate m ⟨0, 0, 0⟩)).toArray 45)) w1.heap.size B (bgs (rwJ xs m 0)) 45 (xs.drop (14 * 0))) := ⟨by simpa using hrd.kept (grown_alloc w1 _) (by simp) (Oc.NoBytes.none _), by simp only [rwJ, bws, List.range_zero, List.map_nil, List.nil_append, Nat.sub_zero]; exact heap_alloc_new w1 _, by have := hrd.lt; omega, hlo, gn_alloc hg _⟩
  have HG1 : Hid (w.heap.size ≤ w1.heap.size) := hg.size
  clear hlo hrd hg HO
  go_wp2
  generalize w1.heap.size = G at *
  generalize hw2 : World.alloc w1 _ = w2 at *
  clear hw2 hmk
  go_loopg [14] m (fun k i wr => ∃ j : Nat, k + j = m ∧ i = .int .i64 j ∧ Hid (RdB w wr G B (bgs (rwJ xs m j)) 45 (xs.drop (14 * j))))
  case atStart => exact ⟨0, by omega, rfl, H1.out⟩
  case round =>
    clear H1
    obtain ⟨j, hkj, rfl, HQ⟩ := hrel
    by_cases hk : 0 < gk
    · have hj : j < m := by omega
      have h1 : (0 : Int) ≤ (j : Int) := by omega
      have h2 : (j : Int) < (m : Int) := by omega
      have HC1 := hide (fun W cs h => HS1.out W G B cs j hj h)
      have HC2 := hide (fun W cs h => HS2.out W G B cs j hj h)
      have HC3 := hide (fun W cs h => HS3.out W G B cs j hj h)
      have e5 := HSb.out j
      have HR := hide (rwJ_set (xs := xs) hj)
      have HLn := hide (rwJ_length (xs := xs) (show j ≤ m by omega))
      generalize hy : (bwAt xs j).bg = y at *
      obtain ⟨yi, ys, yu⟩ := y
      simp only at HC1 HC2 HC3 e5 HR
      clear hy hj HS1 HS2 HS3 HSb
      go_wp2_with fail
      refine (HC1.out _ _ HQ.out).mono ?_
      rintro e w3 ⟨rfl, h3⟩
      have H3 := hide h3
      clear h3 HC1 HQ
      go_wp2_with fail
      refine (HC2.out _ _ H3.out).mono ?_
      rintro e w4 ⟨rfl, h3⟩
      have H4 := hide h3
      clear h3 HC2 H3
      go_wp2_with fail
      refine (HC3.out _ _ H4.out).mono ?_
      rintro e w5 ⟨V, rfl, e6, h3⟩
      have H5 := hide h3
      obtain ⟨z0, z1, z2, z3⟩ := HBx.out _ _ _ _ _ h3 j (by rw [HLn.out]; omega)
      clear h3 HC3 H4
      go_wp2
      go_roundg (gk - 1)
      case measure => omega
      case rel =>
        refine ⟨j + 1, by omega, by go_num, ?_⟩
        have := H5.out.put3 HG1.out j ⟨yi, ys, yu⟩
        rw [HR.out] at this
        exact this
    · have hj : j = m := by omega
      subst hj
      have HF : Hid (BwA wr (.slice (some ⟨G, 0, none⟩) j j) (bws xs j)) := by
        refine HE.out _ _ ⟨some ⟨G, 0, none⟩, j, by simp [bws_length], fun i hi => ?_⟩
        have e : rwJ xs j j = (bws xs j).map Bw.bg := by simp [rwJ]
        have := HBx.out _ _ _ _ _ HQ.out i (by rw [e]; exact hi)
        rw [e] at this
        exact ⟨_, rfl, this.1, this.2.1, this.2.2.1⟩
      go_wp2
      go_ret
      exact ⟨_, rfl, HF.out, HQ.out.gr⟩
/-- Inside Put, between two bookings. -/
structure PuI (w W : World) (g : Nat) (hd : List Int) (b2 : Nat) (pre : List Bg) : Prop where
  wr : Oc.WrAt W g (hd ++ imBs pre)
  gr : w.grownBy W none
  sz : b2 ≤ W.heap.size
theorem PuI.own_from {w : World} {g b2 B : Nat} {hd : List Int} (hB : w.heap.size ≤ B) : OwnFrom B (fun pre W => PuI w W g hd b2 pre) := fun pre W W' row h hg hr => by
  refine ⟨h.wr.kept hg (fun e => ?_) (fun k c fr e hc => ?_), grown_then h.gr hg (fun j e => Or.inl (Nat.le_trans hB (hr j e).1)), Nat.le_trans h.sz hg.size⟩
  · obtain ⟨_, o, ho, hc⟩ := hr g e
    obtain ⟨v, cs, op, hb, _⟩ := h.wr
    rw [hb] at ho
    cases ho
    cases hc
  · obtain ⟨_, o, ho, hc2⟩ := hr k e
    rw [hc] at ho
    cases ho
    cases hc2
end Go.Proofs.YtahjckcfcdnlmaaGreatDoor
/- Put. -/
namespace Go.Proofs.YtahjckcfcdnlmaaGreatDoor
open Go.RowKit
attribute [local go_sem ↓] Go.wp_at_zero Go.wp_at_succ
attribute [local go_sem] Oper.semAt_some
theorem wr_zero' (w : World) : Oc.WrAt (w.alloc (.cells Tryz.zeroCells91 91)) w.heap.size [] := Oc.wr_zero w
set_option maxRecDepth 100000 in
set_option maxHeartbeats 8000000 in
theorem put_any {w : World} {p : Bp} {S : Sb} {K : Nat} (h : BkAt w p S K) (ho : S.Ok) : Calls Tryz.prog 15 #[.pointer (some ⟨p.b, 0, none⟩)] w fun e w' => ∃ B, e = .returned (.tuple #[.slice (some ⟨B, 0, none⟩) (img S).length (img S).length, .int .i64 0]) ∧ w'.heap[B]? = some (.cells ((img S).map (Value.int .u8)).toArray 5 (0, 0)) ∧ w.heap.size ≤ B ∧ w.grownBy w' none := by
  have hw := ho.wk
  have HN := hide (imNone_no h hw)
  have HH : Hid (∀ W, w.grownBy W none → Calls Tryz.prog 44 #[.pointer (some ⟨p.b, 0, none⟩)] W fun e w' => e = .returned (hdV S.a S.b S.n S.t S.L.length) ∧ W.grownBy w' none) := fun W hW => headOf_any (h.then hW)
  have HP : Hid (∀ W g, Oc.WrAt W g [] → Calls Tryz.prog 43 #[.pointer (some ⟨g, 0, none⟩), hdV S.a S.b S.n S.t S.L.length] W fun e w' => e = .returned (.tuple #[]) ∧ Oc.WrAt w' g ([] ++ imH S.a S.b S.n S.t S.L.length) ∧ W.grownBy w' (some g)) := by
    intro W g hW
    have h1 := ho.a1; have h2 := ho.b1; have h3 := ho.n1; have h4 := ho.t0; have h5 := ho.t1; have h6 := ho.few
    exact putHead_any hW (by simp) S.a S.b S.n S.L.length S.t h1 h2 h3 ⟨h4, h5⟩ (by omega)
  have HA : Hid (∀ W, w.grownBy W none → Calls Tryz.prog 33 #[.pointer (some ⟨p.b, 0, none⟩)] W fun e w' => ∃ u, e = .returned u ∧ VlV w' W.heap.size u S.L ∧ W.grownBy w' none) := fun W hg => all_any (h.then hg) hw
  have HR := hide ho.rng
  have hL4 : S.L.length ≤ 4096 := by have := hw.few; have := hw.b1; omega
  have HI0 : Hid (∀ pre : List Bg, pre.length ≤ 4096 → (imH S.a S.b S.n S.t S.L.length ++ imBs pre).length ≤ 60000) := fun pre hp => by rw [List.length_append, imH_length, imBs_length]; omega
  have Himg : Hid (img S = imH S.a S.b S.n S.t S.L.length ++ imBs S.L) := rfl
  clear h hw ho
  unfold hdV at HH HP
  refine (callsIn_wide (n := 6)).1 (callsIn_of_wp_marks Tryz.func15 rfl trivial ?_ rfl)
  simp only [Tryz.ntmps15, List.size_toArray, List.length_cons, List.length_nil, Nat.reduceAdd, Nat.reduceSub, Array.replicate_succ, Array.replicate_zero, List.push_toArray, List.append_toArray, List.nil_append, List.cons_append]
  refine wpIn_wide.2 ?_
  go_wp2_with fail
  refine HN.out.mono ?_
  rintro e wa ⟨rfl, hga⟩
  have HWr := hide (wr_zero' wa)
  have HGa := hide (gn_alloc hga (.cells Tryz.zeroCells91 91))
  have hza := hga.size
  clear hga HN
  go_wp2_with fail
  generalize hwb : World.alloc wa _ = wb at *
  have hsb : wa.heap.size < wb.heap.size := by rw [← hwb, Ge.alloc_size]; omega
  clear hwb
  obtain ⟨g, hgE⟩ : ∃ g, wa.heap.size = g := ⟨_, rfl⟩
  rw [hgE] at HWr hza hsb ⊢
  clear hgE
  refine (HH.out _ HGa.out).mono ?_
  rintro e w1 ⟨rfl, hg1⟩
  have HG1 := hide (grown_trans HGa.out hg1)
  have HW1 := hide (HWr.out.kept hg1 (by simp) (Oc.NoBlock.none _))
  clear hg1 HWr HGa HH
  go_wp2_with fail
  refine (HP.out _ _ HW1.out).mono ?_
  rintro e w2 ⟨rfl, k1, k2⟩
  have HG2 := hide (grown_then HG1.out k2 (fun j e => .inl (by cases e; exact hza)))
  have HW2 := hide k1
  have hg2 : g < w2.heap.size := k1.lt
  clear k1 k2 HW1 HG1 HP
  go_wp2_with fail
  refine (HA.out _ HG2.out).mono ?_
  rintro e w3 ⟨u, rfl, ⟨B, so, cap, rfl, hI, hBq⟩, g3⟩
  have hz3 := g3.size
  have HQ : Hid (∀ i, vbk B so S.L.length i → w2.heap.size ≤ i ∧ i < w3.heap.size) := fun i hi => ⟨hBq i hi, hI.lt i hi⟩
  have I0 : Hid (PuI w w3 g (imH S.a S.b S.n S.t S.L.length) w3.heap.size []) := ⟨by simpa [imBs] using HW2.out.kept g3 (by simp) (Oc.NoBlock.none _), grown_trans HG2.out g3, Nat.le_refl _⟩
  have hw3 : w.heap.size ≤ w3.heap.size := by have := HG2.out.size; omega
  have HI := hide hI
  clear hI hBq HA HG2 HW2 g3
  go_wp2
  refine (wpIn_wide (n := 6)).1 (wpIn_range_V (w := w3) rfl (by decide) (gf := 90) (lb := #[.pointer (some ⟨B, 0, none⟩)]) rfl trivial (enters_of Tryz.func90 (by kernel_rfl) rfl)
    (encs := encB) (Kp := KpB (vbk B so S.L.length)) (V := fun pre x _ => pre ++ [x] <+: S.L) (S := fun ys => ys = S.L)
    (fun W hW => vt_seqV 5 (by decide) B so cap S.L (by omega) W (HI.out.grown hW))
    (fun h k => h.trans k) (fun W l o hl => KpB.put (fun hq => by have := (HQ.out l hq).2; omega)) (fun W W' _ hg => KpB.new hg) (fun _ => rfl)
    (fun pre => fun _ _ _ _ h _ _ => h)
    (fun pre W => PuI w W g (imH S.a S.b S.n S.t S.L.length) w3.heap.size pre) (fun _ _ _ => False)
    (PuI.own_from hw3) (fun _ _ _ _ _ h _ _ => h) I0.out
    (fun x a' W => ∃ F, a' = { tmps := #[Value.pointer (some ⟨p.b, 0, none⟩), undef, Value.slice none 0 0, Value.int .i64 0, Value.pointer (some ⟨g, 0, none⟩), Value.pointer (some ⟨F, 0, none⟩), Value.pointer (some ⟨p.b, 0, none⟩), Value.bool false, Value.pointer (some ⟨p.b, 0, none⟩), .agg #[.int .i64 (S.a : Int), .int .i64 (S.b : Int), .int .u32 (S.n : Int), .int .i64 S.t, .int .i64 (S.L.length : Int)], .tuple #[], Value.pointer (some ⟨p.b, 0, none⟩), Value.func (Fn.func 90) #[] #[Value.pointer (some ⟨B, 0, none⟩)], bgV x, undef, undef, undef], defers := [] } ∧ W.heap[F]? = some (.cells (bgc x).toArray 45 (0, 0)))
    (fun x => fun a' W W' row h hg hr => by obtain ⟨F, h1, h2⟩ := h; exact ⟨F, h1, cells_own_from w3.heap.size () W W' row h2 hg hr⟩) ?assign ?body ?done (fun _ _ _ _ _ h _ => h.elim))
  case assign =>
    rintro l pre ⟨xi, xs, xu⟩ W K hI hV hK
    simp only [encB, bgV]
    gi_wp2
    exact hK _ _ (grown_alloc W _) ⟨W.heap.size, rfl, heap_alloc_new W _⟩
  case body =>
    rintro l pre x a' W hI hV ⟨F, rfl, hF⟩
    have hxm : x ∈ S.L := hV.subset (by simp)
    have hpl : pre.length ≤ 4096 := by have := hV.length_le; simp only [List.length_append, List.length_singleton] at this; omega
    obtain ⟨r1, r2, r3⟩ := HR.out x hxm
    have hcall := putBooking_any hI.wr (Nat.le_trans (HI0.out pre hpl) (by omega)) x r1 r2 r3
    have HCall : Hid (Calls Tryz.prog 45 #[.pointer (some ⟨g, 0, none⟩), bgV x] W fun e w' => e = .returned (.tuple #[]) ∧ ∀ a', ownPostG w3.heap.size (KpB (vbk B so S.L.length)) (fun pre W => PuI w W g (imH S.a S.b S.n S.t S.L.length) w3.heap.size pre) (fun _ _ _ => False) (pre ++ [x]) W .normal a' w') := by
      refine hcall.mono ?_
      rintro e1 w' ⟨rfl, k1, k2⟩
      refine ⟨rfl, fun a' => ⟨⟨k2.size, fun k o hk ho hc => (k2.block k (row_lt ho) (fun e => by have := Option.some.inj e; omega)).trans ho⟩, KpB.of (Kept.of k2 (S := fun i => i = g) (fun j e _ => (Option.some.inj e).symm)) (fun i hi e2 => by have := HQ.out i hi; omega), ⟨by rw [imBs_snoc, ← List.append_assoc]; exact k1, grown_then hI.gr k2 (fun j e => .inl (by cases e; exact hza)), Nat.le_trans hI.sz k2.size⟩⟩⟩
    obtain ⟨f0, f1, f2, -⟩ := box3 hF
    clear hcall hI hV hF hxm hpl r1 r2 r3
    obtain ⟨xi, xs, xu⟩ := x
    unfold bgV at *
    simp only at *
    gi_wp2_with fail
    refine ⟨trivial, ?_⟩
    refine (CallsIn.inRound l (callsIn_wide.2 HCall.out)).mono ?_
    rintro e w' ⟨rfl, hz⟩
    have HZ := hide hz
    clear hz HCall
    gi_wp2
    exact HZ.out _
  case done =>
    rintro D ys W hD rfl hI hK
    have hb := HI0.out S.L hL4
    have HO := hide (Oc.out_any g _ W hI.wr (by omega))
    have HX := hide (And.intro hI hK)
    have hgW := hI.wr.lt
    clear hI hK hb
    rw [← Himg.out] at HO
    generalize hln : (img S).length = n at *
    have HLn := hide hln
    clear hln
    go_wp2_with fail
    refine HO.out.mono ?_
    rintro e w5 ⟨rfl, k1, k2⟩
    have HK5 : Hid (w5.heap[D]? = W.heap[D]?) := k2.block D (row_lt HX.out.2) (by simp)
    have HF := hide (And.intro k1 k2)
    clear k1 k2 HO
    go_wp2
    obtain ⟨hI, hK⟩ := HX.out
    refine ⟨by simp, .inl ⟨_, _, rfl, run_takeDeferred (HK5.out.trans hK), ?_⟩⟩
    have hDw : D < W.heap.size := row_lt hK
    refine ⟨_, results_tmp2 rfl _ _ _, _, by rw [HLn.out]; rfl, ?_, Nat.le_trans hI.gr.size (Nat.le_refl _), ?_⟩
    · rw [show (World.putObj w5 D _).heap[W.heap.size]? = w5.heap[W.heap.size]? from (grownBy_putObj' w5 D _).block _ (row_lt HF.out.1) (fun e => by have := Option.some.inj e; omega)]
      exact HF.out.1
    · exact grown_then (grown_trans hI.gr HF.out.2) (grownBy_putObj' _ D _) (fun j e => by cases e; exact Or.inl (by omega))
end Go.Proofs.YtahjckcfcdnlmaaGreatDoor
/- Get. -/
namespace Go.Proofs.YtahjckcfcdnlmaaGreatDoor
open Go.RowKit
attribute [local go_sem ↓] Go.wp_at_zero Go.wp_at_succ
attribute [local go_sem] Oper.semAt_some
theorem Lk.wide {w w1 W : World} {b : Nat} {S : Sb} {K : Nat} {p : Bp} (h : Lk w1 W b S K p []) (g : w.grownBy w1 none) : Lk w W b S K p [] :=
  ⟨h.eb, h.bk, grown_trans g h.gr, fun i hi => Nat.le_trans g.size (h.own i hi), fun x hx => by cases hx⟩
/-- How many bookings an image's head tells of; its next id, its clock, its bookings. -/
def imM (xs : List Int) : Nat := (gV xs 18 2).toNat
def imN (xs : List Int) : Nat := (gV xs 6 4).toNat
def imT (xs : List Int) : Int := s64 (gV xs 10 8)
def imX (xs : List Int) : List Bw := bws (xs.drop 20) (imM xs)
/-- Bytes that are an image under a shape. -/
structure GetOk (a b c : Int) (xs : List Int) : Prop where
  sh : Gx.OkS a b c
  l0 : 20 ≤ xs.length
  l1 : xs.length = 20 + 14 * imM xs
  ha : gV xs 0 2 = a
  hb : gV xs 2 4 = b
  rt : Right a b c (imN xs) (imT xs) (imX xs)
/-- The book that is read. -/
def getS (a b c : Int) (xs : List Int) : Sb := ⟨a.toNat, b.toNat, c.toNat, imN xs, imT xs, (imX xs).map Bw.bg⟩
/-- What is told of other bytes. -/
noncomputable def getE (a b c : Int) (xs : List Int) : Int := by
  classical exact if ¬ Gx.OkS a b c then 90 else if xs.length < 20 then 4 else if xs.length < 20 + 14 * imM xs then 4 else if 20 + 14 * imM xs < xs.length then 5 else 180
theorem imN_lt {xs : List Int} (h : Oc.Byt xs) : imN xs < 4294967296 := by have := gV_bound h 6 4; unfold imN; omega
theorem imM_le {xs : List Int} (h : Oc.Byt xs) : imM xs ≤ 65535 := by have := gV_bound h 18 2; unfold imM; omega
theorem getS_ok {a b c : Int} {xs : List Int} (h : Oc.Byt xs) (hG : GetOk a b c xs) : (getS a b c xs).Ok := hG.rt.ok (imN_lt h)
/-- What is read is written so. -/
theorem img_get {a b c : Int} {xs : List Int} (hB : Oc.Byt xs) (hG : GetOk a b c xs) : img (getS a b c xs) = xs := by
  obtain ⟨e1, e2, e3⟩ := hG.rt.nat
  have h6 := gV_bound hB 6 4
  have h18 := gV_bound hB 18 2
  refine img_of hB (m := imM xs) ⟨?_, ?_, ?_, rfl, ?_⟩ hG.l1 hG.rt.2.2.1 (fun j hj => ?_)
  · rw [e1]; exact hG.ha
  · rw [e2]; exact hG.hb
  · unfold imN; rw [Int.toNat_of_nonneg h6.1]
  · unfold imM; rw [Int.toNat_of_nonneg h18.1]
  · have hm := (hG.rt.2.2.2.2 j (by unfold imX; rw [bws_length]; exact hj)).til
    unfold imX at hm
    rw [rdw_bws _ hj] at hm
    have ht := hG.rt.2.2.1
    omega
/-- What is written is read so, under any group. -/
theorem get_img {S : Sb} (h : S.Ok) {a b c : Int} (ha : (S.a : Int) = a) (hb : (S.b : Int) = b) (hc : 1 ≤ c ∧ c ≤ 64) : GetOk a b c (img S) ∧ getS a b c (img S) = { S with c := c.toNat } := by
  have hH := hd_img h
  have eM : imM (img S) = S.L.length := by unfold imM; rw [hH.hm]; exact Int.toNat_natCast _
  have eN : imN (img S) = S.n := by unfold imN; rw [hH.hn]; exact Int.toNat_natCast _
  have eT : imT (img S) = S.t := hH.ht
  have eX : imX (img S) = S.L.map Bg.bw := by unfold imX; rw [eM]; exact bws_img h
  have h1 := h.a0; have h2 := h.a1; have h3 := h.b0; have h4 := h.b1
  have ea : a.toNat = S.a := by omega
  have eb : b.toNat = S.b := by omega
  refine ⟨⟨by unfold Gx.OkS; omega, by rw [img_length]; omega, by rw [img_length, eM], hH.ha.trans ha, hH.hb.trans hb, ⟨by unfold Gx.OkS; omega, ?_, ?_, ?_, ?_⟩⟩, ?_⟩
  · rw [eN]; exact h.n0
  · rw [eT]; exact h.t0
  · rw [eT]; exact h.t1
  · rw [eN, eT, eX, ea, eb]; exact okX_of h
  · unfold getS
    rw [eN, eT, eX, ea, eb, List.map_map]
    have : S.L.map (Bw.bg ∘ Bg.bw) = S.L := by
      conv => rhs; rw [← List.map_id S.L]
      exact List.map_congr_left (fun x _ => rfl)
    rw [this]
set_option maxRecDepth 20000 in
set_option maxHeartbeats 8000000 in
theorem get_shape {w : World} {ao : Option Addr} {n cap : Nat} {xs : List Int} {a b c : Int} (hl : xs.length = n) (hat : Oc.At w ao xs) (hB : Oc.Byt xs) (hnil : ao = none → n = 0 ∧ cap = 0) (hnc : n ≤ cap) (hcm : cap ≤ maxLen) (hS : ¬ Gx.OkS a b c) : Calls Tryz.prog 6 #[.agg #[.int .i64 a, .int .i64 b, .int .i64 c], .slice ao n cap] w fun e w' => e = .returned (.tuple #[.pointer none, .int .i64 90]) ∧ w.grownBy w' none := by
  have hused := And.intro hl (And.intro hat (And.intro hB (And.intro hnil (And.intro hnc hcm))))
  clear hused
  have HC : Hid (∀ W : World, Calls Tryz.prog 21 #[.agg #[.int .i64 a, .int .i64 b, .int .i64 c]] W fun e w' => e = .returned (.int .i64 90) ∧ W.grownBy w' none) := fun W => Ge.check_no _ _ _ hS W
  clear hat hB hl hnil hnc hcm hS
  go_enter Tryz.func6, Tryz.ntmps6
  go_wp2_with fail
  refine (HC.out _).mono ?_
  rintro e w1 ⟨rfl, hg1⟩
  have HG := hide (grown_trans (grown_alloc w _) hg1)
  clear hg1
  go_wp2
  go_ret2
  exact ⟨rfl, HG.out⟩
set_option maxRecDepth 20000 in
set_option maxHeartbeats 8000000 in
theorem get_short {w : World} {ao : Option Addr} {n cap : Nat} {xs : List Int} {a b c : Int} (hl : xs.length = n) (hat : Oc.At w ao xs) (hB : Oc.Byt xs) (hnil : ao = none → n = 0 ∧ cap = 0) (hnc : n ≤ cap) (hcm : cap ≤ maxLen) (hS : Gx.OkS a b c) (hs : n < 20) : Calls Tryz.prog 6 #[.agg #[.int .i64 a, .int .i64 b, .int .i64 c], .slice ao n cap] w fun e w' => e = .returned (.tuple #[.pointer none, .int .i64 4]) ∧ w.grownBy w' none := by
  have hused := And.intro hl (And.intro hat (And.intro hB (And.intro hnil (And.intro hnc hcm))))
  clear hused
  have HC : Hid (∀ W : World, Calls Tryz.prog 21 #[.agg #[.int .i64 a, .int .i64 b, .int .i64 c]] W fun e w' => e = .returned (.int .i64 0) ∧ W.grownBy w' none) := fun W => Ge.check_ok _ _ _ hS W
  have h1 : (n : Int) < 20 := by omega
  clear hat hB hl hnil hnc hcm hS hs
  go_enter Tryz.func6, Tryz.ntmps6
  go_wp2_with fail
  refine (HC.out _).mono ?_
  rintro e w1 ⟨rfl, hg1⟩
  have HG := hide (grown_trans (grown_alloc w _) hg1)
  clear hg1
  go_wp2
  go_ret2
  exact ⟨rfl, HG.out⟩
set_option maxRecDepth 20000 in
set_option maxHeartbeats 8000000 in
theorem get_less {w : World} {ao : Option Addr} {n cap : Nat} {xs : List Int} {a b c : Int} (hl : xs.length = n) (hat : Oc.At w ao xs) (hB : Oc.Byt xs) (hnil : ao = none → n = 0 ∧ cap = 0) (hnc : n ≤ cap) (hcm : cap ≤ maxLen) (hS : Gx.OkS a b c) (hs : 20 ≤ n) (hx : n < 20 + 14 * imM xs) : Calls Tryz.prog 6 #[.agg #[.int .i64 a, .int .i64 b, .int .i64 c], .slice ao n cap] w fun e w' => e = .returned (.tuple #[.pointer none, .int .i64 4]) ∧ w.grownBy w' none := by
  have hused := And.intro hl (And.intro hat (And.intro hB (And.intro hnil (And.intro hnc hcm))))
  clear hused
  have HC : Hid (∀ W : World, Calls Tryz.prog 21 #[.agg #[.int .i64 a, .int .i64 b, .int .i64 c]] W fun e w' => e = .returned (.int .i64 0) ∧ W.grownBy w' none) := fun W => Ge.check_ok _ _ _ hS W
  have hne : ao ≠ none := fun e => by have := hnil e; omega
  have HH : Hid (∀ W, w.grownBy W none → Calls Tryz.prog 22 #[.slice ao 20 cap] W fun e w' => e = .returned (.agg #[.int .i64 (gV xs 0 2), .int .i64 (gV xs 2 4), .int .u32 (gV xs 6 4), .int .i64 (s64 (gV xs 10 8)), .int .i64 (gV xs 18 2)]) ∧ W.grownBy w' none) := by
    intro W hW
    have := readHead_any (w := W) (ao := ao) (cap := cap) (xs := xs.take 20) ((hat.kept hW (by simp)).take 20) (hB.take 20) (by simp; omega) (fun e => absurd e hne)
    rw [gV_take xs (by omega), gV_take xs (by omega), gV_take xs (by omega), gV_take xs (by omega), gV_take xs (by omega)] at this
    exact this
  have hsl : ∀ W, (Instr.slice 24 (.slice ao n cap) none (some (.int .i64 20)) none).run Tryz.prog W = .ok (.slice ao 20 cap) W := fun W => Oc.slice_to ao n cap 20 (by omega) W
  have b18 := gV_bound hB 18 2
  have b6 := gV_bound hB 6 4
  have eM : gV xs 18 2 = (imM xs : Int) := by unfold imM; rw [Int.toNat_of_nonneg b18.1]
  have eN : gV xs 6 4 = (imN xs : Int) := by unfold imN; rw [Int.toNat_of_nonneg b6.1]
  have hm5 : imM xs ≤ 65535 := imM_le hB
  have hn0 : ¬ (n : Int) < 20 := by omega
  have e14 : IntKind.i64.wrap (14 * (imM xs : Int)) = ((14 * imM xs : Nat) : Int) := by rw [IntKind.wrap_i64]; omega
  have e20 : IntKind.i64.wrap (20 + ((14 * imM xs : Nat) : Int)) = ((20 + 14 * imM xs : Nat) : Int) := by rw [IntKind.wrap_i64]; omega
  rw [eM, eN] at HH
  have hx1 : (n : Int) < ((20 + 14 * imM xs : Nat) : Int) := by omega
  generalize gV xs 0 2 = v1 at *
  generalize gV xs 2 4 = v2 at *
  generalize hT' : s64 (gV xs 10 8) = T at *
  generalize hM' : imM xs = M at *
  generalize hN' : imN xs = N at *
  generalize hk14 : 14 * M = M14 at *
  clear hat hB hl hnil hnc hcm hS hs hne b18 b6 eM eN hm5 hT' hM' hN' hk14 hx
  have HB0 := hide (heap_alloc_new w (.cells [.int .i64 a, .int .i64 b, .int .i64 c].toArray 23))
  go_enter Tryz.func6, Tryz.ntmps6
  go_wp2_with fail
  refine (HC.out _).mono ?_
  rintro e w1 ⟨rfl, hg1⟩
  have hg0 := grown_trans (grown_alloc w _) hg1
  have HB1 := hide ((hg1.block _ (row_lt HB0.out) (by simp)).trans HB0.out)
  clear HC HB0 hg1
  go_wp2_with fail
  refine (HH.out _ hg0).mono ?_
  rintro e w2 ⟨rfl, hg2⟩
  have HG2 := hide (grown_trans hg0 hg2)
  have HB2 := hide ((hg2.block _ (row_lt HB1.out) (by simp)).trans HB1.out)
  have hl2 := row_lt HB2.out
  obtain ⟨c0, c1, c2, c3, c4, c5⟩ := box5 (heap_alloc_new w2 (.cells [.int .i64 v1, .int .i64 v2, .int .u32 (N : Int), .int .i64 T, .int .i64 (M : Int)].toArray 60))
  have HB3 := hide (((grown_alloc w2 (.cells [.int .i64 v1, .int .i64 v2, .int .u32 (N : Int), .int .i64 T, .int .i64 (M : Int)].toArray 60)).block _ hl2 (by simp)).trans HB2.out)
  have HG3 := hide (gn_alloc HG2.out (.cells [.int .i64 v1, .int .i64 v2, .int .u32 (N : Int), .int .i64 T, .int .i64 (M : Int)].toArray 60))
  obtain ⟨d0, d1, d2, -⟩ := box3 HB3.out
  clear HH hg0 hg2 HB1 HB2 HG2 hsl
  go_wp2
  go_ret2
  exact ⟨rfl, HG3.out⟩
set_option maxRecDepth 20000 in
set_option maxHeartbeats 8000000 in
theorem get_more {w : World} {ao : Option Addr} {n cap : Nat} {xs : List Int} {a b c : Int} (hl : xs.length = n) (hat : Oc.At w ao xs) (hB : Oc.Byt xs) (hnil : ao = none → n = 0 ∧ cap = 0) (hnc : n ≤ cap) (hcm : cap ≤ maxLen) (hS : Gx.OkS a b c) (hs : 20 ≤ n) (hx : 20 + 14 * imM xs < n) : Calls Tryz.prog 6 #[.agg #[.int .i64 a, .int .i64 b, .int .i64 c], .slice ao n cap] w fun e w' => e = .returned (.tuple #[.pointer none, .int .i64 5]) ∧ w.grownBy w' none := by
  have hused := And.intro hl (And.intro hat (And.intro hB (And.intro hnil (And.intro hnc hcm))))
  clear hused
  have HC : Hid (∀ W : World, Calls Tryz.prog 21 #[.agg #[.int .i64 a, .int .i64 b, .int .i64 c]] W fun e w' => e = .returned (.int .i64 0) ∧ W.grownBy w' none) := fun W => Ge.check_ok _ _ _ hS W
  have hne : ao ≠ none := fun e => by have := hnil e; omega
  have HH : Hid (∀ W, w.grownBy W none → Calls Tryz.prog 22 #[.slice ao 20 cap] W fun e w' => e = .returned (.agg #[.int .i64 (gV xs 0 2), .int .i64 (gV xs 2 4), .int .u32 (gV xs 6 4), .int .i64 (s64 (gV xs 10 8)), .int .i64 (gV xs 18 2)]) ∧ W.grownBy w' none) := by
    intro W hW
    have := readHead_any (w := W) (ao := ao) (cap := cap) (xs := xs.take 20) ((hat.kept hW (by simp)).take 20) (hB.take 20) (by simp; omega) (fun e => absurd e hne)
    rw [gV_take xs (by omega), gV_take xs (by omega), gV_take xs (by omega), gV_take xs (by omega), gV_take xs (by omega)] at this
    exact this
  have hsl : ∀ W, (Instr.slice 24 (.slice ao n cap) none (some (.int .i64 20)) none).run Tryz.prog W = .ok (.slice ao 20 cap) W := fun W => Oc.slice_to ao n cap 20 (by omega) W
  have b18 := gV_bound hB 18 2
  have b6 := gV_bound hB 6 4
  have eM : gV xs 18 2 = (imM xs : Int) := by unfold imM; rw [Int.toNat_of_nonneg b18.1]
  have eN : gV xs 6 4 = (imN xs : Int) := by unfold imN; rw [Int.toNat_of_nonneg b6.1]
  have hm5 : imM xs ≤ 65535 := imM_le hB
  have hn0 : ¬ (n : Int) < 20 := by omega
  have e14 : IntKind.i64.wrap (14 * (imM xs : Int)) = ((14 * imM xs : Nat) : Int) := by rw [IntKind.wrap_i64]; omega
  have e20 : IntKind.i64.wrap (20 + ((14 * imM xs : Nat) : Int)) = ((20 + 14 * imM xs : Nat) : Int) := by rw [IntKind.wrap_i64]; omega
  rw [eM, eN] at HH
  have hx1 : ¬ (n : Int) < ((20 + 14 * imM xs : Nat) : Int) := by omega
  have hx2 : ((20 + 14 * imM xs : Nat) : Int) < (n : Int) := by omega
  generalize gV xs 0 2 = v1 at *
  generalize gV xs 2 4 = v2 at *
  generalize hT' : s64 (gV xs 10 8) = T at *
  generalize hM' : imM xs = M at *
  generalize hN' : imN xs = N at *
  generalize hk14 : 14 * M = M14 at *
  clear hat hB hl hnil hnc hcm hS hs hne b18 b6 eM eN hm5 hT' hM' hN' hk14 hx
  have HB0 := hide (heap_alloc_new w (.cells [.int .i64 a, .int .i64 b, .int .i64 c].toArray 23))
  go_enter Tryz.func6, Tryz.ntmps6
  go_wp2_with fail
  refine (HC.out _).mono ?_
  rintro e w1 ⟨rfl, hg1⟩
  have hg0 := grown_trans (grown_alloc w _) hg1
  have HB1 := hide ((hg1.block _ (row_lt HB0.out) (by simp)).trans HB0.out)
  clear HC HB0 hg1
  go_wp2_with fail
  refine (HH.out _ hg0).mono ?_
  rintro e w2 ⟨rfl, hg2⟩
  have HG2 := hide (grown_trans hg0 hg2)
  have HB2 := hide ((hg2.block _ (row_lt HB1.out) (by simp)).trans HB1.out)
  have hl2 := row_lt HB2.out
  obtain ⟨c0, c1, c2, c3, c4, c5⟩ := box5 (heap_alloc_new w2 (.cells [.int .i64 v1, .int .i64 v2, .int .u32 (N : Int), .int .i64 T, .int .i64 (M : Int)].toArray 60))
  have HB3 := hide (((grown_alloc w2 (.cells [.int .i64 v1, .int .i64 v2, .int .u32 (N : Int), .int .i64 T, .int .i64 (M : Int)].toArray 60)).block _ hl2 (by simp)).trans HB2.out)
  have HG3 := hide (gn_alloc HG2.out (.cells [.int .i64 v1, .int .i64 v2, .int .u32 (N : Int), .int .i64 T, .int .i64 (M : Int)].toArray 60))
  obtain ⟨d0, d1, d2, -⟩ := box3 HB3.out
  clear HH hg0 hg2 HB1 HB2 HG2 hsl
  go_wp2
  go_ret2
  exact ⟨rfl, HG3.out⟩
set_option maxRecDepth 20000 in
set_option maxHeartbeats 8000000 in
theorem get_seats {w : World} {ao : Option Addr} {n cap : Nat} {xs : List Int} {a b c : Int} (hl : xs.length = n) (hat : Oc.At w ao xs) (hB : Oc.Byt xs) (hnil : ao = none → n = 0 ∧ cap = 0) (hnc : n ≤ cap) (hcm : cap ≤ maxLen) (hS : Gx.OkS a b c) (hs : 20 ≤ n) (hx : n = 20 + 14 * imM xs) (hv : gV xs 0 2 ≠ a) : Calls Tryz.prog 6 #[.agg #[.int .i64 a, .int .i64 b, .int .i64 c], .slice ao n cap] w fun e w' => e = .returned (.tuple #[.pointer none, .int .i64 180]) ∧ w.grownBy w' none := by
  have hused := And.intro hl (And.intro hat (And.intro hB (And.intro hnil (And.intro hnc hcm))))
  clear hused
  have HC : Hid (∀ W : World, Calls Tryz.prog 21 #[.agg #[.int .i64 a, .int .i64 b, .int .i64 c]] W fun e w' => e = .returned (.int .i64 0) ∧ W.grownBy w' none) := fun W => Ge.check_ok _ _ _ hS W
  have hne : ao ≠ none := fun e => by have := hnil e; omega
  have HH : Hid (∀ W, w.grownBy W none → Calls Tryz.prog 22 #[.slice ao 20 cap] W fun e w' => e = .returned (.agg #[.int .i64 (gV xs 0 2), .int .i64 (gV xs 2 4), .int .u32 (gV xs 6 4), .int .i64 (s64 (gV xs 10 8)), .int .i64 (gV xs 18 2)]) ∧ W.grownBy w' none) := by
    intro W hW
    have := readHead_any (w := W) (ao := ao) (cap := cap) (xs := xs.take 20) ((hat.kept hW (by simp)).take 20) (hB.take 20) (by simp; omega) (fun e => absurd e hne)
    rw [gV_take xs (by omega), gV_take xs (by omega), gV_take xs (by omega), gV_take xs (by omega), gV_take xs (by omega)] at this
    exact this
  have hsl : ∀ W, (Instr.slice 24 (.slice ao n cap) none (some (.int .i64 20)) none).run Tryz.prog W = .ok (.slice ao 20 cap) W := fun W => Oc.slice_to ao n cap 20 (by omega) W
  have b18 := gV_bound hB 18 2
  have b6 := gV_bound hB 6 4
  have eM : gV xs 18 2 = (imM xs : Int) := by unfold imM; rw [Int.toNat_of_nonneg b18.1]
  have eN : gV xs 6 4 = (imN xs : Int) := by unfold imN; rw [Int.toNat_of_nonneg b6.1]
  have hm5 : imM xs ≤ 65535 := imM_le hB
  have hn0 : ¬ (n : Int) < 20 := by omega
  have e14 : IntKind.i64.wrap (14 * (imM xs : Int)) = ((14 * imM xs : Nat) : Int) := by rw [IntKind.wrap_i64]; omega
  have e20 : IntKind.i64.wrap (20 + ((14 * imM xs : Nat) : Int)) = ((20 + 14 * imM xs : Nat) : Int) := by rw [IntKind.wrap_i64]; omega
  rw [eM, eN] at HH
  have hx1 : ¬ (n : Int) < ((20 + 14 * imM xs : Nat) : Int) := by omega
  have hx2 : ¬ ((20 + 14 * imM xs : Nat) : Int) < (n : Int) := by omega
  have hv1 : (gV xs 0 2 != a) = true := by simpa using hv
  have hv2 : decide (gV xs 0 2 = a) = false := by simpa using hv
  generalize gV xs 0 2 = v1 at *
  generalize gV xs 2 4 = v2 at *
  generalize hT' : s64 (gV xs 10 8) = T at *
  generalize hM' : imM xs = M at *
  generalize hN' : imN xs = N at *
  generalize hk14 : 14 * M = M14 at *
  clear hat hB hl hnil hnc hcm hS hs hne b18 b6 eM eN hm5 hT' hM' hN' hk14 hx hv
  have HB0 := hide (heap_alloc_new w (.cells [.int .i64 a, .int .i64 b, .int .i64 c].toArray 23))
  go_enter Tryz.func6, Tryz.ntmps6
  go_wp2_with fail
  refine (HC.out _).mono ?_
  rintro e w1 ⟨rfl, hg1⟩
  have hg0 := grown_trans (grown_alloc w _) hg1
  have HB1 := hide ((hg1.block _ (row_lt HB0.out) (by simp)).trans HB0.out)
  clear HC HB0 hg1
  go_wp2_with fail
  refine (HH.out _ hg0).mono ?_
  rintro e w2 ⟨rfl, hg2⟩
  have HG2 := hide (grown_trans hg0 hg2)
  have HB2 := hide ((hg2.block _ (row_lt HB1.out) (by simp)).trans HB1.out)
  have hl2 := row_lt HB2.out
  obtain ⟨c0, c1, c2, c3, c4, c5⟩ := box5 (heap_alloc_new w2 (.cells [.int .i64 v1, .int .i64 v2, .int .u32 (N : Int), .int .i64 T, .int .i64 (M : Int)].toArray 60))
  have HB3 := hide (((grown_alloc w2 (.cells [.int .i64 v1, .int .i64 v2, .int .u32 (N : Int), .int .i64 T, .int .i64 (M : Int)].toArray 60)).block _ hl2 (by simp)).trans HB2.out)
  have HG3 := hide (gn_alloc HG2.out (.cells [.int .i64 v1, .int .i64 v2, .int .u32 (N : Int), .int .i64 T, .int .i64 (M : Int)].toArray 60))
  obtain ⟨d0, d1, d2, -⟩ := box3 HB3.out
  clear HH hg0 hg2 HB1 HB2 HG2 hsl
  go_wp2
  go_ret2
  exact ⟨rfl, HG3.out⟩
set_option maxRecDepth 20000 in
set_option maxHeartbeats 8000000 in
theorem get_codes {w : World} {ao : Option Addr} {n cap : Nat} {xs : List Int} {a b c : Int} (hl : xs.length = n) (hat : Oc.At w ao xs) (hB : Oc.Byt xs) (hnil : ao = none → n = 0 ∧ cap = 0) (hnc : n ≤ cap) (hcm : cap ≤ maxLen) (hS : Gx.OkS a b c) (hs : 20 ≤ n) (hx : n = 20 + 14 * imM xs) (hu : gV xs 0 2 = a) (hv : gV xs 2 4 ≠ b) : Calls Tryz.prog 6 #[.agg #[.int .i64 a, .int .i64 b, .int .i64 c], .slice ao n cap] w fun e w' => e = .returned (.tuple #[.pointer none, .int .i64 180]) ∧ w.grownBy w' none := by
  have hused := And.intro hl (And.intro hat (And.intro hB (And.intro hnil (And.intro hnc hcm))))
  clear hused
  have HC : Hid (∀ W : World, Calls Tryz.prog 21 #[.agg #[.int .i64 a, .int .i64 b, .int .i64 c]] W fun e w' => e = .returned (.int .i64 0) ∧ W.grownBy w' none) := fun W => Ge.check_ok _ _ _ hS W
  have hne : ao ≠ none := fun e => by have := hnil e; omega
  have HH : Hid (∀ W, w.grownBy W none → Calls Tryz.prog 22 #[.slice ao 20 cap] W fun e w' => e = .returned (.agg #[.int .i64 (gV xs 0 2), .int .i64 (gV xs 2 4), .int .u32 (gV xs 6 4), .int .i64 (s64 (gV xs 10 8)), .int .i64 (gV xs 18 2)]) ∧ W.grownBy w' none) := by
    intro W hW
    have := readHead_any (w := W) (ao := ao) (cap := cap) (xs := xs.take 20) ((hat.kept hW (by simp)).take 20) (hB.take 20) (by simp; omega) (fun e => absurd e hne)
    rw [gV_take xs (by omega), gV_take xs (by omega), gV_take xs (by omega), gV_take xs (by omega), gV_take xs (by omega)] at this
    exact this
  have hsl : ∀ W, (Instr.slice 24 (.slice ao n cap) none (some (.int .i64 20)) none).run Tryz.prog W = .ok (.slice ao 20 cap) W := fun W => Oc.slice_to ao n cap 20 (by omega) W
  have b18 := gV_bound hB 18 2
  have b6 := gV_bound hB 6 4
  have eM : gV xs 18 2 = (imM xs : Int) := by unfold imM; rw [Int.toNat_of_nonneg b18.1]
  have eN : gV xs 6 4 = (imN xs : Int) := by unfold imN; rw [Int.toNat_of_nonneg b6.1]
  have hm5 : imM xs ≤ 65535 := imM_le hB
  have hn0 : ¬ (n : Int) < 20 := by omega
  have e14 : IntKind.i64.wrap (14 * (imM xs : Int)) = ((14 * imM xs : Nat) : Int) := by rw [IntKind.wrap_i64]; omega
  have e20 : IntKind.i64.wrap (20 + ((14 * imM xs : Nat) : Int)) = ((20 + 14 * imM xs : Nat) : Int) := by rw [IntKind.wrap_i64]; omega
  rw [eM, eN] at HH
  have hx1 : ¬ (n : Int) < ((20 + 14 * imM xs : Nat) : Int) := by omega
  have hx2 : ¬ ((20 + 14 * imM xs : Nat) : Int) < (n : Int) := by omega
  have hu1 : (gV xs 0 2 != a) = false := by simpa using hu
  have hu2 : decide (gV xs 0 2 = a) = true := by simpa using hu
  have hv1 : (gV xs 2 4 != b) = true := by simpa using hv
  have hv2 : decide (gV xs 2 4 = b) = false := by simpa using hv
  generalize gV xs 0 2 = v1 at *
  generalize gV xs 2 4 = v2 at *
  generalize hT' : s64 (gV xs 10 8) = T at *
  generalize hM' : imM xs = M at *
  generalize hN' : imN xs = N at *
  generalize hk14 : 14 * M = M14 at *
  clear hat hB hl hnil hnc hcm hS hs hne b18 b6 eM eN hm5 hT' hM' hN' hk14 hx hv hu
  have HB0 := hide (heap_alloc_new w (.cells [.int .i64 a, .int .i64 b, .int .i64 c].toArray 23))
  go_enter Tryz.func6, Tryz.ntmps6
  go_wp2_with fail
  refine (HC.out _).mono ?_
  rintro e w1 ⟨rfl, hg1⟩
  have hg0 := grown_trans (grown_alloc w _) hg1
  have HB1 := hide ((hg1.block _ (row_lt HB0.out) (by simp)).trans HB0.out)
  clear HC HB0 hg1
  go_wp2_with fail
  refine (HH.out _ hg0).mono ?_
  rintro e w2 ⟨rfl, hg2⟩
  have HG2 := hide (grown_trans hg0 hg2)
  have HB2 := hide ((hg2.block _ (row_lt HB1.out) (by simp)).trans HB1.out)
  have hl2 := row_lt HB2.out
  obtain ⟨c0, c1, c2, c3, c4, c5⟩ := box5 (heap_alloc_new w2 (.cells [.int .i64 v1, .int .i64 v2, .int .u32 (N : Int), .int .i64 T, .int .i64 (M : Int)].toArray 60))
  have HB3 := hide (((grown_alloc w2 (.cells [.int .i64 v1, .int .i64 v2, .int .u32 (N : Int), .int .i64 T, .int .i64 (M : Int)].toArray 60)).block _ hl2 (by simp)).trans HB2.out)
  have HG3 := hide (gn_alloc HG2.out (.cells [.int .i64 v1, .int .i64 v2, .int .u32 (N : Int), .int .i64 T, .int .i64 (M : Int)].toArray 60))
  obtain ⟨d0, d1, d2, -⟩ := box3 HB3.out
  clear HH hg0 hg2 HB1 HB2 HG2 hsl
  go_wp2
  go_ret2
  exact ⟨rfl, HG3.out⟩
set_option maxRecDepth 20000 in
set_option maxHeartbeats 8000000 in
theorem get_refuse {w : World} {ao : Option Addr} {n cap : Nat} {xs : List Int} {a b c : Int} (hl : xs.length = n) (hat : Oc.At w ao xs) (hB : Oc.Byt xs) (hnil : ao = none → n = 0 ∧ cap = 0) (hnc : n ≤ cap) (hcm : cap ≤ maxLen) (hS : Gx.OkS a b c) (hs : 20 ≤ n) (hx : n = 20 + 14 * imM xs) (hu : gV xs 0 2 = a) (hv : gV xs 2 4 = b) (hR : ¬ Right a b c (imN xs) (imT xs) (imX xs)) : Calls Tryz.prog 6 #[.agg #[.int .i64 a, .int .i64 b, .int .i64 c], .slice ao n cap] w fun e w' => e = .returned (.tuple #[.pointer none, .int .i64 180]) ∧ w.grownBy w' none := by
  have hused := And.intro hl (And.intro hat (And.intro hB (And.intro hnil (And.intro hnc hcm))))
  clear hused
  have HC : Hid (∀ W : World, Calls Tryz.prog 21 #[.agg #[.int .i64 a, .int .i64 b, .int .i64 c]] W fun e w' => e = .returned (.int .i64 0) ∧ W.grownBy w' none) := fun W => Ge.check_ok _ _ _ hS W
  have hne : ao ≠ none := fun e => by have := hnil e; omega
  have HH : Hid (∀ W, w.grownBy W none → Calls Tryz.prog 22 #[.slice ao 20 cap] W fun e w' => e = .returned (.agg #[.int .i64 (gV xs 0 2), .int .i64 (gV xs 2 4), .int .u32 (gV xs 6 4), .int .i64 (s64 (gV xs 10 8)), .int .i64 (gV xs 18 2)]) ∧ W.grownBy w' none) := by
    intro W hW
    have := readHead_any (w := W) (ao := ao) (cap := cap) (xs := xs.take 20) ((hat.kept hW (by simp)).take 20) (hB.take 20) (by simp; omega) (fun e => absurd e hne)
    rw [gV_take xs (by omega), gV_take xs (by omega), gV_take xs (by omega), gV_take xs (by omega), gV_take xs (by omega)] at this
    exact this
  have hsl : ∀ W, (Instr.slice 24 (.slice ao n cap) none (some (.int .i64 20)) none).run Tryz.prog W = .ok (.slice ao 20 cap) W := fun W => Oc.slice_to ao n cap 20 (by omega) W
  have b18 := gV_bound hB 18 2
  have b6 := gV_bound hB 6 4
  have eM : gV xs 18 2 = (imM xs : Int) := by unfold imM; rw [Int.toNat_of_nonneg b18.1]
  have eN : gV xs 6 4 = (imN xs : Int) := by unfold imN; rw [Int.toNat_of_nonneg b6.1]
  have hm5 : imM xs ≤ 65535 := imM_le hB
  have hn0 : ¬ (n : Int) < 20 := by omega
  have e14 : IntKind.i64.wrap (14 * (imM xs : Int)) = ((14 * imM xs : Nat) : Int) := by rw [IntKind.wrap_i64]; omega
  have e20 : IntKind.i64.wrap (20 + ((14 * imM xs : Nat) : Int)) = ((20 + 14 * imM xs : Nat) : Int) := by rw [IntKind.wrap_i64]; omega
  rw [eM, eN] at HH
  have hx1 : ¬ (n : Int) < ((20 + 14 * imM xs : Nat) : Int) := by omega
  have hx2 : ¬ ((20 + 14 * imM xs : Nat) : Int) < (n : Int) := by omega
  have hu1 : (gV xs 0 2 != a) = false := by simpa using hu
  have hu2 : decide (gV xs 0 2 = a) = true := by simpa using hu
  have hv1 : (gV xs 2 4 != b) = false := by simpa using hv
  have hv2 : decide (gV xs 2 4 = b) = true := by simpa using hv
  have hsf : ∀ W, (Instr.slice 24 (.slice ao n cap) (some (.int .i64 20)) none none).run Tryz.prog W = .ok (.slice (Oc.cutA ao 20 cap) (n - 20) (cap - 20)) W := fun W => Oc.slice_from ao n cap 20 (by omega) W
  have HRB : Hid (∀ W, w.grownBy W none → Calls Tryz.prog 24 #[.slice (Oc.cutA ao 20 cap) (n - 20) (cap - 20), .int .i64 (imM xs : Int)] W fun e w' => ∃ v, e = .returned v ∧ BwA w' v (imX xs) ∧ W.grownBy w' none) := by
    intro W hW
    refine readBookings_any (n := n - 20) (by omega) ((hat.kept hW (by simp)).cut 20 cap (by omega)) (hB.drop 20) (by simp; omega) hm5 (fun e => ?_)
    exfalso
    unfold Oc.cutA at e
    split at e
    · exact hne e
    · cases ao with
      | none => exact hne rfl
      | some q => simp at e
  have HOf : Hid (∀ W v, BwA W v (imX xs) → w.grownBy W none → 0 < W.heap.size → Calls Tryz.prog 23 #[.agg #[.int .i64 a, .int .i64 b, .int .i64 c], .int .u32 (imN xs : Int), .int .i64 (s64 (gV xs 10 8)), v] W fun e w' => e = .returned (.tuple #[.pointer none, .int .i64 180]) ∧ W.grownBy w' none) := by
    intro W v hv hW hz
    have e1 : ofE a b c = 180 := by unfold ofE; rw [if_pos hS]
    have := of_no (imN_lt hB) hv hz hR
    rw [e1] at this
    exact this
  generalize gV xs 0 2 = v1 at *
  generalize gV xs 2 4 = v2 at *
  generalize hT' : s64 (gV xs 10 8) = T at *
  generalize hM' : imM xs = M at *
  generalize hN' : imN xs = N at *
  generalize hk14 : 14 * M = M14 at *
  generalize Oc.cutA ao 20 cap = co at *
  generalize hn20 : n - 20 = n2 at *
  generalize hc20 : cap - 20 = cap2 at *
  clear hat hB hl hnil hnc hcm hS hs hne b18 b6 eM eN hm5 hT' hM' hN' hk14 hx hu hv hn20 hc20
  have HB0 := hide (heap_alloc_new w (.cells [.int .i64 a, .int .i64 b, .int .i64 c].toArray 23))
  go_enter Tryz.func6, Tryz.ntmps6
  go_wp2_with fail
  refine (HC.out _).mono ?_
  rintro e w1 ⟨rfl, hg1⟩
  have hg0 := grown_trans (grown_alloc w _) hg1
  have HB1 := hide ((hg1.block _ (row_lt HB0.out) (by simp)).trans HB0.out)
  clear HC HB0 hg1
  go_wp2_with fail
  refine (HH.out _ hg0).mono ?_
  rintro e w2 ⟨rfl, hg2⟩
  have HG2 := hide (grown_trans hg0 hg2)
  have HB2 := hide ((hg2.block _ (row_lt HB1.out) (by simp)).trans HB1.out)
  have hl2 := row_lt HB2.out
  obtain ⟨c0, c1, c2, c3, c4, c5⟩ := box5 (heap_alloc_new w2 (.cells [.int .i64 v1, .int .i64 v2, .int .u32 (N : Int), .int .i64 T, .int .i64 (M : Int)].toArray 60))
  have HB3 := hide (((grown_alloc w2 (.cells [.int .i64 v1, .int .i64 v2, .int .u32 (N : Int), .int .i64 T, .int .i64 (M : Int)].toArray 60)).block _ hl2 (by simp)).trans HB2.out)
  have HG3 := hide (gn_alloc HG2.out (.cells [.int .i64 v1, .int .i64 v2, .int .u32 (N : Int), .int .i64 T, .int .i64 (M : Int)].toArray 60))
  obtain ⟨d0, d1, d2, -⟩ := box3 HB3.out
  clear HH hg0 hg2 HB1 HB2 HG2 hsl
  go_wp2
  generalize hw3 : World.alloc w2 _ = w3 at *
  have HK : Hid (∀ W, w3.grownBy W none → W.cell? ⟨w.heap.size, 0, none⟩ = some (.int .i64 a) ∧ W.cell? ⟨w.heap.size, 1, none⟩ = some (.int .i64 b) ∧ W.cell? ⟨w.heap.size, 2, none⟩ = some (.int .i64 c) ∧ W.cell? ⟨w2.heap.size, 2, none⟩ = some (.int .u32 (N : Int)) ∧ W.cell? ⟨w2.heap.size, 3, none⟩ = some (.int .i64 T) ∧ W.cell? ⟨w2.heap.size, 4, none⟩ = some (.int .i64 (M : Int))) := fun W g => ⟨g.cell d0 (by simp), g.cell d1 (by simp), g.cell d2 (by simp), g.cell c2 (by simp), g.cell c3 (by simp), g.cell c4 (by simp)⟩
  have hK0 := HK.out w3.drew (grown_drew w3 none)
  have hz3 : 0 < w3.heap.size := by have h1 := row_lt HB3.out; omega
  clear hw3 d0 d1 d2 c0 c1 c2 c3 c4 c5 HB3
  go_region_held3 (fun W => W.cell? ⟨w.heap.size, 0, none⟩ = some (.int .i64 a) ∧ W.cell? ⟨w.heap.size, 1, none⟩ = some (.int .i64 b) ∧ W.cell? ⟨w.heap.size, 2, none⟩ = some (.int .i64 c) ∧ W.cell? ⟨w2.heap.size, 2, none⟩ = some (.int .u32 (N : Int)) ∧ W.cell? ⟨w2.heap.size, 3, none⟩ = some (.int .i64 T) ∧ W.cell? ⟨w2.heap.size, 4, none⟩ = some (.int .i64 (M : Int))) (first | with_reducible assumption | exact hK0)
    ((first
      | (go_at_call 24; refine (HRB.out _ (gn_drew HG3.out)).mono ?_; rintro e w4 ⟨v, rfl, hv4, hg4⟩; have HV4 := hide hv4; have HG4 := hide (grown_trans (grown_drew w3 none) hg4); have hK4 := HK.out w4 HG4.out; have hz4 : 0 < w4.heap.size := by { have h1 := HG4.out.size; omega }; clear hv4 hg4)
      | (go_at_call 23; refine (HOf.out _ _ HV4.out (grown_trans HG3.out HG4.out) hz4).mono ?_; rintro e w5 ⟨rfl, hg5⟩; have HG5 := hide (grown_trans (grown_trans HG3.out HG4.out) hg5); have hK5 := HK.out w5 (grown_trans HG4.out hg5); clear hg5)))
  go_wp2
  go_ret2
  exact ⟨rfl, HG5.out⟩
set_option maxRecDepth 20000 in
set_option maxHeartbeats 8000000 in
theorem get_take {w : World} {ao : Option Addr} {n cap : Nat} {xs : List Int} {a b c : Int} (hl : xs.length = n) (hat : Oc.At w ao xs) (hB : Oc.Byt xs) (hnil : ao = none → n = 0 ∧ cap = 0) (hnc : n ≤ cap) (hcm : cap ≤ maxLen) (hS : Gx.OkS a b c) (hs : 20 ≤ n) (hx : n = 20 + 14 * imM xs) (hu : gV xs 0 2 = a) (hv : gV xs 2 4 = b) (hR : Right a b c (imN xs) (imT xs) (imX xs)) : Calls Tryz.prog 6 #[.agg #[.int .i64 a, .int .i64 b, .int .i64 c], .slice ao n cap] w fun e w' => ∃ x p, e = .returned (.tuple #[.pointer (some ⟨x, 0, none⟩), .int .i64 0]) ∧ Lk w w' x (getS a b c xs) 4096 p [] := by
  have hused := And.intro hl (And.intro hat (And.intro hB (And.intro hnil (And.intro hnc hcm))))
  clear hused
  have HC : Hid (∀ W : World, Calls Tryz.prog 21 #[.agg #[.int .i64 a, .int .i64 b, .int .i64 c]] W fun e w' => e = .returned (.int .i64 0) ∧ W.grownBy w' none) := fun W => Ge.check_ok _ _ _ hS W
  have hne : ao ≠ none := fun e => by have := hnil e; omega
  have HH : Hid (∀ W, w.grownBy W none → Calls Tryz.prog 22 #[.slice ao 20 cap] W fun e w' => e = .returned (.agg #[.int .i64 (gV xs 0 2), .int .i64 (gV xs 2 4), .int .u32 (gV xs 6 4), .int .i64 (s64 (gV xs 10 8)), .int .i64 (gV xs 18 2)]) ∧ W.grownBy w' none) := by
    intro W hW
    have := readHead_any (w := W) (ao := ao) (cap := cap) (xs := xs.take 20) ((hat.kept hW (by simp)).take 20) (hB.take 20) (by simp; omega) (fun e => absurd e hne)
    rw [gV_take xs (by omega), gV_take xs (by omega), gV_take xs (by omega), gV_take xs (by omega), gV_take xs (by omega)] at this
    exact this
  have hsl : ∀ W, (Instr.slice 24 (.slice ao n cap) none (some (.int .i64 20)) none).run Tryz.prog W = .ok (.slice ao 20 cap) W := fun W => Oc.slice_to ao n cap 20 (by omega) W
  have b18 := gV_bound hB 18 2
  have b6 := gV_bound hB 6 4
  have eM : gV xs 18 2 = (imM xs : Int) := by unfold imM; rw [Int.toNat_of_nonneg b18.1]
  have eN : gV xs 6 4 = (imN xs : Int) := by unfold imN; rw [Int.toNat_of_nonneg b6.1]
  have hm5 : imM xs ≤ 65535 := imM_le hB
  have hn0 : ¬ (n : Int) < 20 := by omega
  have e14 : IntKind.i64.wrap (14 * (imM xs : Int)) = ((14 * imM xs : Nat) : Int) := by rw [IntKind.wrap_i64]; omega
  have e20 : IntKind.i64.wrap (20 + ((14 * imM xs : Nat) : Int)) = ((20 + 14 * imM xs : Nat) : Int) := by rw [IntKind.wrap_i64]; omega
  rw [eM, eN] at HH
  have hx1 : ¬ (n : Int) < ((20 + 14 * imM xs : Nat) : Int) := by omega
  have hx2 : ¬ ((20 + 14 * imM xs : Nat) : Int) < (n : Int) := by omega
  have hu1 : (gV xs 0 2 != a) = false := by simpa using hu
  have hu2 : decide (gV xs 0 2 = a) = true := by simpa using hu
  have hv1 : (gV xs 2 4 != b) = false := by simpa using hv
  have hv2 : decide (gV xs 2 4 = b) = true := by simpa using hv
  have hsf : ∀ W, (Instr.slice 24 (.slice ao n cap) (some (.int .i64 20)) none none).run Tryz.prog W = .ok (.slice (Oc.cutA ao 20 cap) (n - 20) (cap - 20)) W := fun W => Oc.slice_from ao n cap 20 (by omega) W
  have HRB : Hid (∀ W, w.grownBy W none → Calls Tryz.prog 24 #[.slice (Oc.cutA ao 20 cap) (n - 20) (cap - 20), .int .i64 (imM xs : Int)] W fun e w' => ∃ v, e = .returned v ∧ BwA w' v (imX xs) ∧ W.grownBy w' none) := by
    intro W hW
    refine readBookings_any (n := n - 20) (by omega) ((hat.kept hW (by simp)).cut 20 cap (by omega)) (hB.drop 20) (by simp; omega) hm5 (fun e => ?_)
    exfalso
    unfold Oc.cutA at e
    split at e
    · exact hne e
    · cases ao with
      | none => exact hne rfl
      | some q => simp at e
  have HOf : Hid (∀ W v, BwA W v (imX xs) → w.grownBy W none → 0 < W.heap.size → Calls Tryz.prog 23 #[.agg #[.int .i64 a, .int .i64 b, .int .i64 c], .int .u32 (imN xs : Int), .int .i64 (s64 (gV xs 10 8)), v] W fun e w' => ∃ x p, e = .returned (.tuple #[.pointer (some ⟨x, 0, none⟩), .int .i64 0]) ∧ Lk w w' x (getS a b c xs) 4096 p [] ∧ W.grownBy w' none) := by
    intro W v hv hW hz
    refine (of_yes (imN_lt hB) hv hz hR).mono ?_
    rintro e w' ⟨x, p, rfl, h1⟩
    exact ⟨x, p, rfl, h1.wide hW, h1.gr⟩
  generalize gV xs 0 2 = v1 at *
  generalize gV xs 2 4 = v2 at *
  generalize hT' : s64 (gV xs 10 8) = T at *
  generalize hM' : imM xs = M at *
  generalize hN' : imN xs = N at *
  generalize hk14 : 14 * M = M14 at *
  generalize Oc.cutA ao 20 cap = co at *
  generalize hn20 : n - 20 = n2 at *
  generalize hc20 : cap - 20 = cap2 at *
  clear hat hB hl hnil hnc hcm hS hs hne b18 b6 eM eN hm5 hT' hM' hN' hk14 hx hu hv hn20 hc20
  have HB0 := hide (heap_alloc_new w (.cells [.int .i64 a, .int .i64 b, .int .i64 c].toArray 23))
  go_enter Tryz.func6, Tryz.ntmps6
  go_wp2_with fail
  refine (HC.out _).mono ?_
  rintro e w1 ⟨rfl, hg1⟩
  have hg0 := grown_trans (grown_alloc w _) hg1
  have HB1 := hide ((hg1.block _ (row_lt HB0.out) (by simp)).trans HB0.out)
  clear HC HB0 hg1
  go_wp2_with fail
  refine (HH.out _ hg0).mono ?_
  rintro e w2 ⟨rfl, hg2⟩
  have HG2 := hide (grown_trans hg0 hg2)
  have HB2 := hide ((hg2.block _ (row_lt HB1.out) (by simp)).trans HB1.out)
  have hl2 := row_lt HB2.out
  obtain ⟨c0, c1, c2, c3, c4, c5⟩ := box5 (heap_alloc_new w2 (.cells [.int .i64 v1, .int .i64 v2, .int .u32 (N : Int), .int .i64 T, .int .i64 (M : Int)].toArray 60))
  have HB3 := hide (((grown_alloc w2 (.cells [.int .i64 v1, .int .i64 v2, .int .u32 (N : Int), .int .i64 T, .int .i64 (M : Int)].toArray 60)).block _ hl2 (by simp)).trans HB2.out)
  have HG3 := hide (gn_alloc HG2.out (.cells [.int .i64 v1, .int .i64 v2, .int .u32 (N : Int), .int .i64 T, .int .i64 (M : Int)].toArray 60))
  obtain ⟨d0, d1, d2, -⟩ := box3 HB3.out
  clear HH hg0 hg2 HB1 HB2 HG2 hsl
  go_wp2
  generalize hw3 : World.alloc w2 _ = w3 at *
  have HK : Hid (∀ W, w3.grownBy W none → W.cell? ⟨w.heap.size, 0, none⟩ = some (.int .i64 a) ∧ W.cell? ⟨w.heap.size, 1, none⟩ = some (.int .i64 b) ∧ W.cell? ⟨w.heap.size, 2, none⟩ = some (.int .i64 c) ∧ W.cell? ⟨w2.heap.size, 2, none⟩ = some (.int .u32 (N : Int)) ∧ W.cell? ⟨w2.heap.size, 3, none⟩ = some (.int .i64 T) ∧ W.cell? ⟨w2.heap.size, 4, none⟩ = some (.int .i64 (M : Int))) := fun W g => ⟨g.cell d0 (by simp), g.cell d1 (by simp), g.cell d2 (by simp), g.cell c2 (by simp), g.cell c3 (by simp), g.cell c4 (by simp)⟩
  have hK0 := HK.out w3.drew (grown_drew w3 none)
  have hz3 : 0 < w3.heap.size := by have h1 := row_lt HB3.out; omega
  clear hw3 d0 d1 d2 c0 c1 c2 c3 c4 c5 HB3
  go_region_held3 (fun W => W.cell? ⟨w.heap.size, 0, none⟩ = some (.int .i64 a) ∧ W.cell? ⟨w.heap.size, 1, none⟩ = some (.int .i64 b) ∧ W.cell? ⟨w.heap.size, 2, none⟩ = some (.int .i64 c) ∧ W.cell? ⟨w2.heap.size, 2, none⟩ = some (.int .u32 (N : Int)) ∧ W.cell? ⟨w2.heap.size, 3, none⟩ = some (.int .i64 T) ∧ W.cell? ⟨w2.heap.size, 4, none⟩ = some (.int .i64 (M : Int))) (first | with_reducible assumption | exact hK0)
    ((first
      | (go_at_call 24; refine (HRB.out _ (gn_drew HG3.out)).mono ?_; rintro e w4 ⟨v, rfl, hv4, hg4⟩; have HV4 := hide hv4; have HG4 := hide (grown_trans (grown_drew w3 none) hg4); have hK4 := HK.out w4 HG4.out; have hz4 : 0 < w4.heap.size := by { have h1 := HG4.out.size; omega }; clear hv4 hg4)
      | (go_at_call 23; refine (HOf.out _ _ HV4.out (grown_trans HG3.out HG4.out) hz4).mono ?_; rintro e w5 ⟨x, q, rfl, hk5, hg5⟩; have HK5 := hide hk5; have hK5 := HK.out w5 (grown_trans HG4.out hg5); clear hk5 hg5)))
  go_wp2
  go_ret2
  exact ⟨_, _, rfl, HK5.out⟩
theorem get_no {w : World} {ao : Option Addr} {n cap : Nat} {xs : List Int} {a b c : Int} (hl : xs.length = n) (hat : Oc.At w ao xs) (hB : Oc.Byt xs) (hnil : ao = none → n = 0 ∧ cap = 0) (hnc : n ≤ cap) (hcm : cap ≤ maxLen) (h : ¬ GetOk a b c xs) : Calls Tryz.prog 6 #[.agg #[.int .i64 a, .int .i64 b, .int .i64 c], .slice ao n cap] w fun e w' => e = .returned (.tuple #[.pointer none, .int .i64 (getE a b c xs)]) ∧ w.grownBy w' none := by
  unfold getE
  by_cases hS : Gx.OkS a b c
  · rw [if_neg (by simpa using hS)]
    by_cases h1 : n < 20
    · rw [if_pos (by omega)]; exact get_short hl hat hB hnil hnc hcm hS h1
    · rw [if_neg (by omega)]
      by_cases h2 : n < 20 + 14 * imM xs
      · rw [if_pos (by omega)]; exact get_less hl hat hB hnil hnc hcm hS (by omega) h2
      · rw [if_neg (by omega)]
        by_cases h3 : 20 + 14 * imM xs < n
        · rw [if_pos (by omega)]; exact get_more hl hat hB hnil hnc hcm hS (by omega) h3
        · rw [if_neg (by omega)]
          by_cases h4 : gV xs 0 2 = a
          · by_cases h5 : gV xs 2 4 = b
            · exact get_refuse hl hat hB hnil hnc hcm hS (by omega) (by omega) h4 h5 (fun hR => h ⟨hS, by omega, by omega, h4, h5, hR⟩)
            · exact get_codes hl hat hB hnil hnc hcm hS (by omega) (by omega) h4 h5
          · exact get_seats hl hat hB hnil hnc hcm hS (by omega) (by omega) h4
  · rw [if_pos hS]; exact get_shape hl hat hB hnil hnc hcm hS
theorem get_yes {w : World} {ao : Option Addr} {n cap : Nat} {xs : List Int} {a b c : Int} (hl : xs.length = n) (hat : Oc.At w ao xs) (hB : Oc.Byt xs) (hnil : ao = none → n = 0 ∧ cap = 0) (hnc : n ≤ cap) (hcm : cap ≤ maxLen) (h : GetOk a b c xs) : Calls Tryz.prog 6 #[.agg #[.int .i64 a, .int .i64 b, .int .i64 c], .slice ao n cap] w fun e w' => ∃ x p, e = .returned (.tuple #[.pointer (some ⟨x, 0, none⟩), .int .i64 0]) ∧ Lk w w' x (getS a b c xs) 4096 p [] :=
  get_take hl hat hB hnil hnc hcm h.sh (by have := h.l0; omega) (by have := h.l1; omega) h.ha h.hb h.rt
end Go.Proofs.YtahjckcfcdnlmaaGreatDoor
