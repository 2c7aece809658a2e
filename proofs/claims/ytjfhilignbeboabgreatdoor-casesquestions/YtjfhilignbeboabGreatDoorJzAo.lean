/- Texts joined: Cd1, Cd2, Cd3. -/
import Derived.Test.YtjfhilignbeboabGreatDoorJzAn
namespace Go.Proofs.YtjfhilignbeboabGreatDoor
/- cases: Decide of the kind 1. -/
open Go.RowKit
attribute [local go_sem ↓] Go.wp_at_zero Go.wp_at_succ
attribute [local go_sem] Oper.semAt_some
section
variable {w : World} {p : Bp} {S : Sb} {K : Nat}
set_option maxRecDepth 20000 in
set_option maxHeartbeats 8000000 in
theorem decide_1 (h : BkAt w p S K) (ho : S.Ok) (room t i s u : Int) (hq : Rs.Rq.Ok ⟨1, t, i, s, u⟩) (hm : Rs.Rq.May ⟨1, t, i, s, u⟩) (hT : Rk.Tab w) : Calls Tryz.prog 23 #[.pointer (some ⟨p.b, 0, none⟩), .int .i64 room, .agg #[.int .i64 1, .int .u32 t, .int .u32 i, .int .i64 s, .int .i64 u]] w fun e w' => e = .returned (dcV (dec S room ⟨1, t, i, s, u⟩)) ∧ Mt w w' p S K [] := by
  have hch : isChg ⟨1, t, i, s, u⟩ := ⟨hm, show Rs.chg 1 = true by decide⟩
  obtain ⟨res, hres⟩ : ∃ res, res = dec S room ⟨1, t, i, s, u⟩ := ⟨_, rfl⟩
  rw [← hres]
  have hk : Rs.chk ⟨1, t, i, s, u⟩ = 0 := by unfold Rs.chk; rw [if_pos hm]
  have HN : Hid (∀ W, BkAt W p S K → Calls Tryz.prog 17 #[.pointer (some ⟨p.b, 0, none⟩)] W fun e w' => e = .returned (.bool false) ∧ Mt W w' p S K []) := fun W hW => isNone_no hW ho
  have HQ := hide (fun W => Rs.check_any ⟨1, t, i, s, u⟩ hq W)
  rw [hk] at HQ
  have HC : Hid (∀ W, Calls Tryz.prog 45 #[.int .i64 1] W fun e w' => e = .returned (.bool true) ∧ w' = W) := fun W => Rs.changes_any 1 W
  have HM := hide (Mt.three h (Rs.rqC ⟨1, t, i, s, u⟩) [Value.int .i64 0, .int .u32 0, .int .i64 0, .int .i64 0, .int .i64 0] [Value.int .u32 0, .int .i64 0, .int .i64 0, .int .u32 0, .int .i64 0, .int .i64 0, .int .i64 0] 42 56 38)
  have HT := hide hT
  obtain ⟨v0, e0⟩ : ∃ v, v = stE S ⟨1, t, i, s, u⟩ := ⟨_, rfl⟩
  obtain ⟨v1, e1⟩ : ∃ v, v = ttE ⟨1, t, i, s, u⟩ := ⟨_, rfl⟩
  obtain ⟨v2, e2⟩ : ∃ v, v = clE S ⟨1, t, i, s, u⟩ := ⟨_, rfl⟩
  obtain ⟨v3, e3⟩ : ∃ v, v = frE S ⟨1, t, i, s, u⟩ := ⟨_, rfl⟩
  obtain ⟨v4, e4⟩ : ∃ v, v = rmE S := ⟨_, rfl⟩
  obtain ⟨v5, e5⟩ : ∃ v, v = lgE room 1 := ⟨_, rfl⟩
  have HRf : Hid (refE S room ⟨1, t, i, s, u⟩ = fstE [v0, v1, v2, v3, v4, v5]) := by rw [e0, e1, e2, e3, e4, e5]; rfl
  have HRs : Hid ((∀ v, v ≠ 0 → refE S room ⟨1, t, i, s, u⟩ = v → res = ⟨zRc, rfY ⟨1, t, i, s, u⟩ v, false, 0⟩) ∧ (refE S room ⟨1, t, i, s, u⟩ = 0 → res = ⟨recQ S ⟨1, t, i, s, u⟩, rpY ⟨1, t, i, s, u⟩ (recQ S ⟨1, t, i, s, u⟩), true, 0⟩)) := ⟨fun v hv e => by rw [hres, dec_ref hch (by rw [e]; exact hv), e], fun e => by rw [hres, dec_yes hch e]⟩
  have H0 : Hid (∀ W, BkAt W p S K → Calls Tryz.prog 88 #[maV p.b room ⟨1, t, i, s, u⟩] W fun e w' => e = .returned (.int .i64 v0) ∧ Mt W w' p S K []) := fun W hW => by rw [e0]; exact (seatIs_any hW room ⟨1, t, i, s, u⟩).mono (fun e w' x => ⟨x.1, (Mt.start hW).then x.2⟩)
  have H1 : Hid (∀ W, BkAt W p S K → Calls Tryz.prog 89 #[maV p.b room ⟨1, t, i, s, u⟩] W fun e w' => e = .returned (.int .i64 v1) ∧ Mt W w' p S K []) := fun W hW => by rw [e1]; exact (ttl_any p.b room ⟨1, t, i, s, u⟩ W).mono (fun e w' x => ⟨x.1, (Mt.start hW).then x.2⟩)
  have H2 : Hid (v1 = 0 → ∀ W, BkAt W p S K → Calls Tryz.prog 90 #[maV p.b room ⟨1, t, i, s, u⟩] W fun e w' => e = .returned (.int .i64 v2) ∧ Mt W w' p S K []) := fun hv W hW => by have x := ttE_zero (e1 ▸ hv); rw [e2]; exact (clock_ck hW room ⟨1, t, i, s, u⟩ ho.t0 ho.t1 x.1 x.2).mono (fun e w' x => ⟨x.1, (Mt.start hW).then x.2⟩)
  have H3 : Hid (∀ W, BkAt W p S K → Calls Tryz.prog 91 #[maV p.b room ⟨1, t, i, s, u⟩] W fun e w' => e = .returned (.int .i64 v3) ∧ Mt W w' p S K []) := fun W hW => by rw [e3]; exact (free_ck hW ho.wk room ⟨1, t, i, s, u⟩).mono (fun e w' x => ⟨x.1, (Mt.start hW).then x.2⟩)
  have H4 : Hid (∀ W, BkAt W p S K → Calls Tryz.prog 92 #[maV p.b room ⟨1, t, i, s, u⟩] W fun e w' => e = .returned (.int .i64 v4) ∧ Mt W w' p S K []) := fun W hW => by rw [e4]; exact (room_ck hW room ⟨1, t, i, s, u⟩).mono (fun e w' x => ⟨x.1, (Mt.start hW).then x.2⟩)
  have H5 : Hid (∀ W c, BkAt W p S K → W.heap[c]? = some (.cells [Value.int .i64 1].toArray 54 (0, 0)) → Rk.Tab W → Calls Tryz.prog 114 #[maV p.b room ⟨1, t, i, s, u⟩, .pointer (some ⟨c, 0, none⟩)] W fun e w' => e = .returned (.int .i64 v5) ∧ Mt W w' p S K []) := fun W c hW hc hT => by rw [e5]; exact (log_ck p.b room ⟨1, t, i, s, u⟩ c 1 hc hT).mono (fun e w' x => ⟨x.1, (Mt.start hW).then x.2⟩)
  obtain ⟨R, hR⟩ : ∃ R, R = recQ S ⟨1, t, i, s, u⟩ := ⟨_, rfl⟩
  have HRc : Hid (v1 = 0 → ∀ W, BkAt W p S K → Calls Tryz.prog 94 #[maV p.b room ⟨1, t, i, s, u⟩] W fun e w' => e = .returned (Rk.rcV R) ∧ Mt W w' p S K []) := fun hv W hW => by have x := ttE_zero (e1 ▸ hv); rw [hR]; exact (hold_rec hW room ⟨1, t, i, s, u⟩ ho.t0 ho.t1 x.1 x.2).mono (fun e w' x => ⟨x.1, (Mt.start hW).then x.2⟩)
  have HRp := hide (fun W => reply_any ⟨1, t, i, s, u⟩ R W)
  have HRl := hide (fun W => rule_1 W)
  have HFu := hide (fun v W => refusal_any ⟨1, t, i, s, u⟩ v W)
  rw [← hR] at HRs
  clear h ho hq hm hT hch hk hres hR e0 e1 e2 e3 e4 e5
  obtain ⟨rk, ri, rs, ru, rc⟩ := R
  unfold Rs.rqV at *
  unfold maV at *
  unfold Rs.rqC at HM
  unfold Rk.rcV at HRc HRp
  unfold rlV at HRl
  simp only at *
  have HDc : Hid (∀ v, dcV ⟨zRc, rfY ⟨1, t, i, s, u⟩ v, false, 0⟩ = .tuple #[.agg #[.int .i64 0, .int .u32 0, .int .i64 0, .int .i64 0, .int .i64 0], .agg #[.int .u32 t, .int .i64 1, .int .i64 v, .int .u32 0, .int .i64 0, .int .i64 0, .int .i64 0], .bool false, .int .i64 0]) := fun _ => rfl
  have HFv : Hid (∀ v W, Calls Tryz.prog 47 #[.agg #[.int .i64 1, .int .u32 t, .int .u32 i, .int .i64 s, .int .i64 u], .int .i64 v] W fun r w' => r = .returned (.agg #[.int .u32 t, .int .i64 1, .int .i64 v, .int .u32 0, .int .i64 0, .int .i64 0, .int .i64 0]) ∧ W.grownBy w' none) := HFu.out
  clear HFu
  generalize hb : p.b = b at *
  have HB := hide hb
  clear hb
  go_enter Tryz.func23, Tryz.ntmps23
  go_wp2_with fail
  refine (HN.out _ HM.out.bk).mono ?_
  rintro e w1 ⟨rfl, m1⟩
  have M1 := hide (HM.out.mt m1)
  clear m1 HM HN
  obtain ⟨c0, c1, c2, c3, c4⟩ := bx5 M1.out.b2
  go_wp2_with fail
  refine (HQ.out _).mono ?_
  rintro e w2 ⟨rfl, hg⟩
  have M2 := hide (M1.out.then hg)
  clear hg M1 HQ c0 c1 c2 c3 c4
  obtain ⟨c0, c1, c2, c3, c4⟩ := bx5 M2.out.b2
  go_wp2_with fail
  refine (HC.out _).mono ?_
  rintro e wx ⟨rfl, hwx⟩
  obtain rfl := hwx.symm
  have M3 := hide (M2.out.box [.pointer (some ⟨b, 0, none⟩), .int .i64 room, .int .i64 1, .int .u32 t, .int .u32 i, .int .i64 s, .int .i64 u] 106)
  clear hwx M2 HC
  obtain ⟨k0, k1, k2, k3, k4⟩ := bx5 M3.out.b3
  go_wp2_with fail
  generalize hX : w2.heap.size = X at *
  generalize World.alloc w2 _ = w3 at *
  clear hX
  refine (HRl.out _).mono ?_
  rintro e w4 ⟨g, c, rfl, hR4, hg4⟩
  have M5 := hide ((M3.out.rule hg4 hR4).box [.slice (some ⟨g, 0, none⟩) 6 6, .func (.func 94) #[] #[]] 110)
  clear M3 HRl hR4 hg4 c0 c1 c2 c3 c4 k0 k1 k2 k3 k4
  obtain ⟨y0, y1⟩ := bx2 M5.out.b0
  go_wp2_with fail
  generalize hY : w4.heap.size = Y at *
  generalize World.alloc w4 _ = w5 at *
  clear hY y0 y1
  refine wp_loop_rounds 7 ?_
  rw [rounds_succ]
  obtain ⟨a0, a1, a2, a3, a4, a5, a6⟩ := bx7 M5.out.b3
  have gj : w5.cell? ⟨g, 0, none⟩ = some (.func (.func 88) #[] #[]) := by have := cell_row M5.out.b1 0; simpa [fnV, lgV] using this
  go_wp2_with fail
  refine (H0.out _ M5.out.bk).mono ?_
  rintro e u0 ⟨rfl, mj⟩
  have N0 := hide (M5.out.mt mj)
  clear mj M5 a0 a1 a2 a3 a4 a5 a6 gj
  by_cases hz : v0 = 0
  rotate_left
  · have f1 : (v0 != 0) = true := by simpa using hz
    have f2 : (v0 == 0) = false := by simpa using hz
    have f3 : decide (v0 = 0) = false := by simpa using hz
    have HZ : Hid (res = ⟨zRc, rfY ⟨1, t, i, s, u⟩ v0, false, 0⟩) := HRs.out.1 v0 hz (by rw [HRf.out]; simp [fstE, hz])
    clear hz HRs HRf
    obtain ⟨c0, c1, c2, c3, c4⟩ := bx5 N0.out.b6
    go_wp2_with fail
    refine (HFv.out _ _).mono ?_
    rintro e w7 ⟨rfl, hg7⟩
    have M7 := hide (N0.out.then hg7)
    clear hg7 N0 c0 c1 c2 c3 c4
    obtain ⟨⟨d0, d1, d2, d3, d4⟩, d5⟩ := bxf5 M7.out.b5
    obtain ⟨⟨x0, x1, x2, x3, x4, x5, x6⟩, x7⟩ := bxf7 M7.out.b4
    go_wp2
    obtain ⟨r1, r2, r3⟩ := dc_end M7.out (g := w.heap.size + 1) (h := w.heap.size + 1 + 1) (List.mem_cons_of_mem _ (List.mem_cons_of_mem _ (List.mem_cons_of_mem _ (List.mem_cons_of_mem _ (List.mem_cons_of_mem _ (List.mem_cons_self ..)))))) (List.mem_cons_of_mem _ (List.mem_cons_of_mem _ (List.mem_cons_of_mem _ (List.mem_cons_of_mem _ (List.mem_cons_self ..))))) rfl rfl (by omega) (.int .i64 0) (.int .u32 0) (.int .i64 0) (.int .i64 0) (.int .i64 0) (.int .u32 t) (.int .i64 1) (.int .i64 v0) (.int .u32 0) (.int .i64 0) (.int .i64 0) (.int .i64 0)
    exact bodyPost_ret (results_c2t2 rfl _ _ (w.heap.size + 1) (w.heap.size + 1 + 1) _ _ rfl rfl r1 r2 rfl rfl) rfl ⟨by rw [HZ.out, HDc.out]; rfl, r3⟩
  subst hz
  go_wp2_with fail
  rw [rounds_succ]
  obtain ⟨a0, a1, a2, a3, a4, a5, a6⟩ := bx7 N0.out.b3
  have gj : u0.cell? ⟨g, 1, none⟩ = some (.func (.func 89) #[] #[]) := by have := cell_row N0.out.b1 1; simpa [fnV, lgV] using this
  go_wp2_with fail
  refine (H1.out _ N0.out.bk).mono ?_
  rintro e u1 ⟨rfl, mj⟩
  have N1 := hide (N0.out.mt mj)
  clear mj N0 a0 a1 a2 a3 a4 a5 a6 gj
  by_cases hz : v1 = 0
  rotate_left
  · have f1 : (v1 != 0) = true := by simpa using hz
    have f2 : (v1 == 0) = false := by simpa using hz
    have f3 : decide (v1 = 0) = false := by simpa using hz
    have HZ : Hid (res = ⟨zRc, rfY ⟨1, t, i, s, u⟩ v1, false, 0⟩) := HRs.out.1 v1 hz (by rw [HRf.out]; simp [fstE, hz])
    clear hz HRs HRf
    obtain ⟨c0, c1, c2, c3, c4⟩ := bx5 N1.out.b6
    go_wp2_with fail
    refine (HFv.out _ _).mono ?_
    rintro e w7 ⟨rfl, hg7⟩
    have M7 := hide (N1.out.then hg7)
    clear hg7 N1 c0 c1 c2 c3 c4
    obtain ⟨⟨d0, d1, d2, d3, d4⟩, d5⟩ := bxf5 M7.out.b5
    obtain ⟨⟨x0, x1, x2, x3, x4, x5, x6⟩, x7⟩ := bxf7 M7.out.b4
    go_wp2
    obtain ⟨r1, r2, r3⟩ := dc_end M7.out (g := w.heap.size + 1) (h := w.heap.size + 1 + 1) (List.mem_cons_of_mem _ (List.mem_cons_of_mem _ (List.mem_cons_of_mem _ (List.mem_cons_of_mem _ (List.mem_cons_of_mem _ (List.mem_cons_self ..)))))) (List.mem_cons_of_mem _ (List.mem_cons_of_mem _ (List.mem_cons_of_mem _ (List.mem_cons_of_mem _ (List.mem_cons_self ..))))) rfl rfl (by omega) (.int .i64 0) (.int .u32 0) (.int .i64 0) (.int .i64 0) (.int .i64 0) (.int .u32 t) (.int .i64 1) (.int .i64 v1) (.int .u32 0) (.int .i64 0) (.int .i64 0) (.int .i64 0)
    exact bodyPost_ret (results_c2t2 rfl _ _ (w.heap.size + 1) (w.heap.size + 1 + 1) _ _ rfl rfl r1 r2 rfl rfl) rfl ⟨by rw [HZ.out, HDc.out]; rfl, r3⟩
  subst hz
  go_wp2_with fail
  rw [rounds_succ]
  obtain ⟨a0, a1, a2, a3, a4, a5, a6⟩ := bx7 N1.out.b3
  have gj : u1.cell? ⟨g, 2, none⟩ = some (.func (.func 90) #[] #[]) := by have := cell_row N1.out.b1 2; simpa [fnV, lgV] using this
  go_wp2_with fail
  refine (H2.out (by first | exact True.intro | rfl) _ N1.out.bk).mono ?_
  rintro e u2 ⟨rfl, mj⟩
  have N2 := hide (N1.out.mt mj)
  clear mj N1 a0 a1 a2 a3 a4 a5 a6 gj
  by_cases hz : v2 = 0
  rotate_left
  · have f1 : (v2 != 0) = true := by simpa using hz
    have f2 : (v2 == 0) = false := by simpa using hz
    have f3 : decide (v2 = 0) = false := by simpa using hz
    have HZ : Hid (res = ⟨zRc, rfY ⟨1, t, i, s, u⟩ v2, false, 0⟩) := HRs.out.1 v2 hz (by rw [HRf.out]; simp [fstE, hz])
    clear hz HRs HRf
    obtain ⟨c0, c1, c2, c3, c4⟩ := bx5 N2.out.b6
    go_wp2_with fail
    refine (HFv.out _ _).mono ?_
    rintro e w7 ⟨rfl, hg7⟩
    have M7 := hide (N2.out.then hg7)
    clear hg7 N2 c0 c1 c2 c3 c4
    obtain ⟨⟨d0, d1, d2, d3, d4⟩, d5⟩ := bxf5 M7.out.b5
    obtain ⟨⟨x0, x1, x2, x3, x4, x5, x6⟩, x7⟩ := bxf7 M7.out.b4
    go_wp2
    obtain ⟨r1, r2, r3⟩ := dc_end M7.out (g := w.heap.size + 1) (h := w.heap.size + 1 + 1) (List.mem_cons_of_mem _ (List.mem_cons_of_mem _ (List.mem_cons_of_mem _ (List.mem_cons_of_mem _ (List.mem_cons_of_mem _ (List.mem_cons_self ..)))))) (List.mem_cons_of_mem _ (List.mem_cons_of_mem _ (List.mem_cons_of_mem _ (List.mem_cons_of_mem _ (List.mem_cons_self ..))))) rfl rfl (by omega) (.int .i64 0) (.int .u32 0) (.int .i64 0) (.int .i64 0) (.int .i64 0) (.int .u32 t) (.int .i64 1) (.int .i64 v2) (.int .u32 0) (.int .i64 0) (.int .i64 0) (.int .i64 0)
    exact bodyPost_ret (results_c2t2 rfl _ _ (w.heap.size + 1) (w.heap.size + 1 + 1) _ _ rfl rfl r1 r2 rfl rfl) rfl ⟨by rw [HZ.out, HDc.out]; rfl, r3⟩
  subst hz
  go_wp2_with fail
  rw [rounds_succ]
  obtain ⟨a0, a1, a2, a3, a4, a5, a6⟩ := bx7 N2.out.b3
  have gj : u2.cell? ⟨g, 3, none⟩ = some (.func (.func 91) #[] #[]) := by have := cell_row N2.out.b1 3; simpa [fnV, lgV] using this
  go_wp2_with fail
  refine (H3.out _ N2.out.bk).mono ?_
  rintro e u3 ⟨rfl, mj⟩
  have N3 := hide (N2.out.mt mj)
  clear mj N2 a0 a1 a2 a3 a4 a5 a6 gj
  by_cases hz : v3 = 0
  rotate_left
  · have f1 : (v3 != 0) = true := by simpa using hz
    have f2 : (v3 == 0) = false := by simpa using hz
    have f3 : decide (v3 = 0) = false := by simpa using hz
    have HZ : Hid (res = ⟨zRc, rfY ⟨1, t, i, s, u⟩ v3, false, 0⟩) := HRs.out.1 v3 hz (by rw [HRf.out]; simp [fstE, hz])
    clear hz HRs HRf
    obtain ⟨c0, c1, c2, c3, c4⟩ := bx5 N3.out.b6
    go_wp2_with fail
    refine (HFv.out _ _).mono ?_
    rintro e w7 ⟨rfl, hg7⟩
    have M7 := hide (N3.out.then hg7)
    clear hg7 N3 c0 c1 c2 c3 c4
    obtain ⟨⟨d0, d1, d2, d3, d4⟩, d5⟩ := bxf5 M7.out.b5
    obtain ⟨⟨x0, x1, x2, x3, x4, x5, x6⟩, x7⟩ := bxf7 M7.out.b4
    go_wp2
    obtain ⟨r1, r2, r3⟩ := dc_end M7.out (g := w.heap.size + 1) (h := w.heap.size + 1 + 1) (List.mem_cons_of_mem _ (List.mem_cons_of_mem _ (List.mem_cons_of_mem _ (List.mem_cons_of_mem _ (List.mem_cons_of_mem _ (List.mem_cons_self ..)))))) (List.mem_cons_of_mem _ (List.mem_cons_of_mem _ (List.mem_cons_of_mem _ (List.mem_cons_of_mem _ (List.mem_cons_self ..))))) rfl rfl (by omega) (.int .i64 0) (.int .u32 0) (.int .i64 0) (.int .i64 0) (.int .i64 0) (.int .u32 t) (.int .i64 1) (.int .i64 v3) (.int .u32 0) (.int .i64 0) (.int .i64 0) (.int .i64 0)
    exact bodyPost_ret (results_c2t2 rfl _ _ (w.heap.size + 1) (w.heap.size + 1 + 1) _ _ rfl rfl r1 r2 rfl rfl) rfl ⟨by rw [HZ.out, HDc.out]; rfl, r3⟩
  subst hz
  go_wp2_with fail
  rw [rounds_succ]
  obtain ⟨a0, a1, a2, a3, a4, a5, a6⟩ := bx7 N3.out.b3
  have gj : u3.cell? ⟨g, 4, none⟩ = some (.func (.func 92) #[] #[]) := by have := cell_row N3.out.b1 4; simpa [fnV, lgV] using this
  go_wp2_with fail
  refine (H4.out _ N3.out.bk).mono ?_
  rintro e u4 ⟨rfl, mj⟩
  have N4 := hide (N3.out.mt mj)
  clear mj N3 a0 a1 a2 a3 a4 a5 a6 gj
  by_cases hz : v4 = 0
  rotate_left
  · have f1 : (v4 != 0) = true := by simpa using hz
    have f2 : (v4 == 0) = false := by simpa using hz
    have f3 : decide (v4 = 0) = false := by simpa using hz
    have HZ : Hid (res = ⟨zRc, rfY ⟨1, t, i, s, u⟩ v4, false, 0⟩) := HRs.out.1 v4 hz (by rw [HRf.out]; simp [fstE, hz])
    clear hz HRs HRf
    obtain ⟨c0, c1, c2, c3, c4⟩ := bx5 N4.out.b6
    go_wp2_with fail
    refine (HFv.out _ _).mono ?_
    rintro e w7 ⟨rfl, hg7⟩
    have M7 := hide (N4.out.then hg7)
    clear hg7 N4 c0 c1 c2 c3 c4
    obtain ⟨⟨d0, d1, d2, d3, d4⟩, d5⟩ := bxf5 M7.out.b5
    obtain ⟨⟨x0, x1, x2, x3, x4, x5, x6⟩, x7⟩ := bxf7 M7.out.b4
    go_wp2
    obtain ⟨r1, r2, r3⟩ := dc_end M7.out (g := w.heap.size + 1) (h := w.heap.size + 1 + 1) (List.mem_cons_of_mem _ (List.mem_cons_of_mem _ (List.mem_cons_of_mem _ (List.mem_cons_of_mem _ (List.mem_cons_of_mem _ (List.mem_cons_self ..)))))) (List.mem_cons_of_mem _ (List.mem_cons_of_mem _ (List.mem_cons_of_mem _ (List.mem_cons_of_mem _ (List.mem_cons_self ..))))) rfl rfl (by omega) (.int .i64 0) (.int .u32 0) (.int .i64 0) (.int .i64 0) (.int .i64 0) (.int .u32 t) (.int .i64 1) (.int .i64 v4) (.int .u32 0) (.int .i64 0) (.int .i64 0) (.int .i64 0)
    exact bodyPost_ret (results_c2t2 rfl _ _ (w.heap.size + 1) (w.heap.size + 1 + 1) _ _ rfl rfl r1 r2 rfl rfl) rfl ⟨by rw [HZ.out, HDc.out]; rfl, r3⟩
  subst hz
  go_wp2_with fail
  rw [rounds_succ]
  obtain ⟨a0, a1, a2, a3, a4, a5, a6⟩ := bx7 N4.out.b3
  have gj : u4.cell? ⟨g, 5, none⟩ = some (.func (.func 114) #[] #[.pointer (some ⟨c, 0, none⟩)]) := by have := cell_row N4.out.b1 5; simpa [fnV, lgV] using this
  go_wp2_with fail
  refine (H5.out _ c N4.out.bk N4.out.b2 (N4.out.tab HT.out)).mono ?_
  rintro e u5 ⟨rfl, mj⟩
  have N5 := hide (N4.out.mt mj)
  clear mj N4 a0 a1 a2 a3 a4 a5 a6 gj
  by_cases hz : v5 = 0
  rotate_left
  · have f1 : (v5 != 0) = true := by simpa using hz
    have f2 : (v5 == 0) = false := by simpa using hz
    have f3 : decide (v5 = 0) = false := by simpa using hz
    have HZ : Hid (res = ⟨zRc, rfY ⟨1, t, i, s, u⟩ v5, false, 0⟩) := HRs.out.1 v5 hz (by rw [HRf.out]; simp [fstE, hz])
    clear hz HRs HRf
    obtain ⟨c0, c1, c2, c3, c4⟩ := bx5 N5.out.b6
    go_wp2_with fail
    refine (HFv.out _ _).mono ?_
    rintro e w7 ⟨rfl, hg7⟩
    have M7 := hide (N5.out.then hg7)
    clear hg7 N5 c0 c1 c2 c3 c4
    obtain ⟨⟨d0, d1, d2, d3, d4⟩, d5⟩ := bxf5 M7.out.b5
    obtain ⟨⟨x0, x1, x2, x3, x4, x5, x6⟩, x7⟩ := bxf7 M7.out.b4
    go_wp2
    obtain ⟨r1, r2, r3⟩ := dc_end M7.out (g := w.heap.size + 1) (h := w.heap.size + 1 + 1) (List.mem_cons_of_mem _ (List.mem_cons_of_mem _ (List.mem_cons_of_mem _ (List.mem_cons_of_mem _ (List.mem_cons_of_mem _ (List.mem_cons_self ..)))))) (List.mem_cons_of_mem _ (List.mem_cons_of_mem _ (List.mem_cons_of_mem _ (List.mem_cons_of_mem _ (List.mem_cons_self ..))))) rfl rfl (by omega) (.int .i64 0) (.int .u32 0) (.int .i64 0) (.int .i64 0) (.int .i64 0) (.int .u32 t) (.int .i64 1) (.int .i64 v5) (.int .u32 0) (.int .i64 0) (.int .i64 0) (.int .i64 0)
    exact bodyPost_ret (results_c2t2 rfl _ _ (w.heap.size + 1) (w.heap.size + 1 + 1) _ _ rfl rfl r1 r2 rfl rfl) rfl ⟨by rw [HZ.out, HDc.out]; rfl, r3⟩
  subst hz
  go_wp2_with fail
  rw [rounds_succ]
  obtain ⟨a0, a1, a2, a3, a4, a5, a6⟩ := bx7 N5.out.b3
  obtain ⟨y0, y1⟩ := bx2 N5.out.b0
  go_wp2_with fail
  refine (HRc.out (by first | exact True.intro | rfl) _ N5.out.bk).mono ?_
  rintro e w8 ⟨rfl, m8⟩
  have HZ := hide (HRs.out.2 (by rw [HRf.out]; simp [fstE]))
  have M8 := hide (N5.out.mt m8)
  have HL5 : Hid (w.heap.size + 1 + 1 < w8.heap.size ∧ w.heap.size + 1 < w8.heap.size) := ⟨row_lt M8.out.b4, row_lt M8.out.b5⟩
  have M9 := hide (M8.out.box [.int .i64 rk, .int .u32 ri, .int .i64 rs, .int .i64 ru, .int .i64 rc] 56)
  clear m8 N5 M8 a0 a1 a2 a3 a4 a5 a6 y0 y1 HRs HRf HRc
  go_wp2
  generalize hZ : w8.heap.size = Z at *
  generalize World.alloc w8 _ = w9 at *
  clear hZ
  have HSo : Hid (∀ W, w9.grownBy W none → (W.cell? ⟨Z, 0, none⟩ = some (.int .i64 rk) ∧ W.cell? ⟨Z, 1, none⟩ = some (.int .u32 ri) ∧ W.cell? ⟨Z, 2, none⟩ = some (.int .i64 rs) ∧ W.cell? ⟨Z, 3, none⟩ = some (.int .i64 ru) ∧ W.cell? ⟨Z, 4, none⟩ = some (.int .i64 rc) ∧ W.cell? ⟨w.heap.size, 0, none⟩ = some (.int .i64 1) ∧ W.cell? ⟨w.heap.size, 1, none⟩ = some (.int .u32 t) ∧ W.cell? ⟨w.heap.size, 2, none⟩ = some (.int .u32 i) ∧ W.cell? ⟨w.heap.size, 3, none⟩ = some (.int .i64 s) ∧ W.cell? ⟨w.heap.size, 4, none⟩ = some (.int .i64 u))) := fun W gW => s10_of (box_to M9.out.b0 gW) (box_to M9.out.b7 gW)
  have HRv : Hid (∀ W, Calls Tryz.prog 48 #[.agg #[.int .i64 1, .int .u32 t, .int .u32 i, .int .i64 s, .int .i64 u], .agg #[.int .i64 rk, .int .u32 ri, .int .i64 rs, .int .i64 ru, .int .i64 rc]] W fun e w' => e = .returned (.agg #[.int .u32 t, .int .i64 1, .int .i64 0, .int .u32 ri, .int .i64 0, .int .i64 ru, .int .i64 0]) ∧ W.grownBy w' none) := HRp.out
  have hn1 : Hid (w.heap.size + 1 ≠ Z) := fun e => by have := HL5.out.2; omega
  have hn2 : Hid (w.heap.size + 1 ≠ w.heap.size) := fun e => by omega
  have hn3 : Hid (w.heap.size + 1 + 1 ≠ Z) := fun e => by have := HL5.out.1; omega
  have hn4 : Hid (w.heap.size + 1 + 1 ≠ w.heap.size) := fun e => by omega
  have HDy : Hid (dcV ⟨⟨rk, ri, rs, ru, rc⟩, rpY ⟨1, t, i, s, u⟩ ⟨rk, ri, rs, ru, rc⟩, true, 0⟩ = .tuple #[.agg #[.int .i64 rk, .int .u32 ri, .int .i64 rs, .int .i64 ru, .int .i64 rc], .agg #[.int .u32 t, .int .i64 1, .int .i64 0, .int .u32 ri, .int .i64 0, .int .i64 ru, .int .i64 0], .bool true, .int .i64 0]) := by simp [Hid, dcV, rpY, Rk.rcV, Rt.ryV]
  clear HRp
  refine wp_region_held_drew (S := (fun W => (W.cell? ⟨Z, 0, none⟩ = some (.int .i64 rk) ∧ W.cell? ⟨Z, 1, none⟩ = some (.int .u32 ri) ∧ W.cell? ⟨Z, 2, none⟩ = some (.int .i64 rs) ∧ W.cell? ⟨Z, 3, none⟩ = some (.int .i64 ru) ∧ W.cell? ⟨Z, 4, none⟩ = some (.int .i64 rc) ∧ W.cell? ⟨w.heap.size, 0, none⟩ = some (.int .i64 1) ∧ W.cell? ⟨w.heap.size, 1, none⟩ = some (.int .u32 t) ∧ W.cell? ⟨w.heap.size, 2, none⟩ = some (.int .u32 i) ∧ W.cell? ⟨w.heap.size, 3, none⟩ = some (.int .i64 s) ∧ W.cell? ⟨w.heap.size, 4, none⟩ = some (.int .i64 u)))) (by kernel_rfl) ?_ (fun hHeld => ?_)
  · (exact HSo.out _ (grown_drew _ none))
  refine tkH (i := 0) (v := ?_) rfl ?_ ?_
  rotate_left
  · (intro w hSw; (try dsimp only at hSw); (go_simp <;> with_reducible rfl))
  try simp only [Act.put, List.setIfInBounds_toArray]
  refine tkH (i := 1) (v := ?_) rfl ?_ ?_
  rotate_left
  · (intro w hSw; (try dsimp only at hSw); (go_simp <;> with_reducible rfl))
  try simp only [Act.put]
  refine tkH (i := 2) (v := ?_) rfl ?_ ?_
  rotate_left
  · (intro w hSw; (try dsimp only at hSw); (go_simp <;> with_reducible rfl))
  try simp only [Act.put]
  refine rdH (i := 3) rfl (fun K hK => ?_)
  go_simp
  refine (HRv.out _).mono ?_; rintro e wa ⟨rfl, hga⟩; have Ga := hide (grown_trans (grown_drew w9 none) hga); have hJ := HSo.out _ Ga.out; have Ma := hide (M9.out.then Ga.out); obtain ⟨⟨d0, d1, d2, d3, d4⟩, d5⟩ := bxf5 Ma.out.b6; obtain ⟨⟨x0, x1, x2, x3, x4, x5, x6⟩, x7⟩ := bxf7 Ma.out.b5
  go_wp2_with fail
  refine hK.out _ _ ?_ (fun hHeld => ?_)
  · ((try dsimp only); first | with_reducible assumption | with_reducible exact s10_set5 hJ hn1.out hn2.out _ _ _ _ _ | with_reducible exact s10_set7 (s10_set5 hJ hn1.out hn2.out _ _ _ _ _) hn3.out hn4.out _ _ _ _ _ _ _)
  clear hK K
  try simp only [Act.put, List.setIfInBounds_toArray, List.set_cons_zero, List.set_cons_succ]
  refine rdH (i := 4) rfl (fun K hK => ?_)
  go_simp
  refine hK.out _ _ ?_ (fun hHeld => ?_)
  · ((try dsimp only); first | with_reducible assumption | with_reducible exact s10_set5 hJ hn1.out hn2.out _ _ _ _ _ | with_reducible exact s10_set7 (s10_set5 hJ hn1.out hn2.out _ _ _ _ _) hn3.out hn4.out _ _ _ _ _ _ _)
  clear hK K
  try simp only [Act.put, List.setIfInBounds_toArray, List.set_cons_zero, List.set_cons_succ]
  refine rdH (i := 5) rfl (fun K hK => ?_)
  go_simp
  refine hK.out _ _ ?_ (fun hHeld => ?_)
  · ((try dsimp only); first | with_reducible assumption | with_reducible exact s10_set5 hJ hn1.out hn2.out _ _ _ _ _ | with_reducible exact s10_set7 (s10_set5 hJ hn1.out hn2.out _ _ _ _ _) hn3.out hn4.out _ _ _ _ _ _ _)
  clear hK K
  try simp only [Act.put, List.setIfInBounds_toArray, List.set_cons_zero, List.set_cons_succ]
  refine tkH (i := 6) (oi := { dst := some 8, op := Go.Op.assign (Go.Operand.const (Go.Value.bool true)), type := 4, pos := "cases.go:51", after := #[{ on := 5, ground := Go.Ground.chain }, { on := 0, ground := Go.Ground.phase }, { on := 1, ground := Go.Ground.phase }, { on := 2, ground := Go.Ground.phase }, { on := 3, ground := Go.Ground.phase }, { on := 4, ground := Go.Ground.phase }, { on := 5, ground := Go.Ground.phase }], guard := none }) (v := ?_) rfl ?_ ?_
  rotate_left
  · (intro w hSw; (try dsimp only at hSw); (go_simp <;> with_reducible rfl))
  try simp only [Act.put, List.setIfInBounds_toArray, List.set_cons_zero, List.set_cons_succ]
  refine tkH (i := 7) (oi := { dst := some 9, op := Go.Op.assign (Go.Operand.const (Go.Value.int Go.IntKind.i64 0)), type := 36, pos := "cases.go:51", after := #[{ on := 6, ground := Go.Ground.chain }, { on := 0, ground := Go.Ground.phase }, { on := 1, ground := Go.Ground.phase }, { on := 2, ground := Go.Ground.phase }, { on := 3, ground := Go.Ground.phase }, { on := 4, ground := Go.Ground.phase }, { on := 5, ground := Go.Ground.phase }, { on := 6, ground := Go.Ground.phase }], guard := none }) (v := ?_) rfl ?_ ?_
  rotate_left
  · (intro w hSw; (try dsimp only at hSw); (go_simp <;> with_reducible rfl))
  try simp only [Act.put, List.setIfInBounds_toArray, List.set_cons_zero, List.set_cons_succ]
  refine wpAnyH_done (by kernel_rfl) ?_ _
  go_wp2
  obtain ⟨r1, r2, r3⟩ := dc_end Ma.out (g := w.heap.size + 1) (h := w.heap.size + 1 + 1) (List.mem_cons_of_mem _ (List.mem_cons_of_mem _ (List.mem_cons_of_mem _ (List.mem_cons_of_mem _ (List.mem_cons_of_mem _ (List.mem_cons_of_mem _ (List.mem_cons_self ..))))))) (List.mem_cons_of_mem _ (List.mem_cons_of_mem _ (List.mem_cons_of_mem _ (List.mem_cons_of_mem _ (List.mem_cons_of_mem _ (List.mem_cons_self ..)))))) rfl rfl (by omega) (.int .i64 rk) (.int .u32 ri) (.int .i64 rs) (.int .i64 ru) (.int .i64 rc) (.int .u32 t) (.int .i64 1) (.int .i64 0) (.int .u32 ri) (.int .i64 0) (.int .i64 ru) (.int .i64 0)
  exact bodyPost_ret (results_c2t2 rfl _ _ (w.heap.size + 1) (w.heap.size + 1 + 1) _ _ rfl rfl r1 r2 rfl rfl) rfl ⟨by rw [HZ.out, HDy.out]; rfl, r3⟩
end
end Go.Proofs.YtjfhilignbeboabGreatDoor
namespace Go.Proofs.YtjfhilignbeboabGreatDoor
/- cases: Decide of the kind 2. -/
open Go.RowKit
attribute [local go_sem ↓] Go.wp_at_zero Go.wp_at_succ
attribute [local go_sem] Oper.semAt_some
section
variable {w : World} {p : Bp} {S : Sb} {K : Nat}
set_option maxRecDepth 20000 in
set_option maxHeartbeats 8000000 in
theorem decide_2 (h : BkAt w p S K) (ho : S.Ok) (room t i s u : Int) (hq : Rs.Rq.Ok ⟨2, t, i, s, u⟩) (hm : Rs.Rq.May ⟨2, t, i, s, u⟩) (hT : Rk.Tab w) : Calls Tryz.prog 23 #[.pointer (some ⟨p.b, 0, none⟩), .int .i64 room, .agg #[.int .i64 2, .int .u32 t, .int .u32 i, .int .i64 s, .int .i64 u]] w fun e w' => e = .returned (dcV (dec S room ⟨2, t, i, s, u⟩)) ∧ Mt w w' p S K [] := by
  have hch : isChg ⟨2, t, i, s, u⟩ := ⟨hm, show Rs.chg 2 = true by decide⟩
  obtain ⟨res, hres⟩ : ∃ res, res = dec S room ⟨2, t, i, s, u⟩ := ⟨_, rfl⟩
  rw [← hres]
  have hk : Rs.chk ⟨2, t, i, s, u⟩ = 0 := by unfold Rs.chk; rw [if_pos hm]
  have HN : Hid (∀ W, BkAt W p S K → Calls Tryz.prog 17 #[.pointer (some ⟨p.b, 0, none⟩)] W fun e w' => e = .returned (.bool false) ∧ Mt W w' p S K []) := fun W hW => isNone_no hW ho
  have HQ := hide (fun W => Rs.check_any ⟨2, t, i, s, u⟩ hq W)
  rw [hk] at HQ
  have HC : Hid (∀ W, Calls Tryz.prog 45 #[.int .i64 2] W fun e w' => e = .returned (.bool true) ∧ w' = W) := fun W => Rs.changes_any 2 W
  have HM := hide (Mt.three h (Rs.rqC ⟨2, t, i, s, u⟩) [Value.int .i64 0, .int .u32 0, .int .i64 0, .int .i64 0, .int .i64 0] [Value.int .u32 0, .int .i64 0, .int .i64 0, .int .u32 0, .int .i64 0, .int .i64 0, .int .i64 0] 42 56 38)
  have HT := hide hT
  obtain ⟨v0, e0⟩ : ∃ v, v = idE S ⟨2, t, i, s, u⟩ := ⟨_, rfl⟩
  obtain ⟨v1, e1⟩ : ∃ v, v = lgE room 2 := ⟨_, rfl⟩
  have HRf : Hid (refE S room ⟨2, t, i, s, u⟩ = fstE [v0, v1]) := by rw [e0, e1]; rfl
  have HRs : Hid ((∀ v, v ≠ 0 → refE S room ⟨2, t, i, s, u⟩ = v → res = ⟨zRc, rfY ⟨2, t, i, s, u⟩ v, false, 0⟩) ∧ (refE S room ⟨2, t, i, s, u⟩ = 0 → res = ⟨recQ S ⟨2, t, i, s, u⟩, rpY ⟨2, t, i, s, u⟩ (recQ S ⟨2, t, i, s, u⟩), true, 0⟩)) := ⟨fun v hv e => by rw [hres, dec_ref hch (by rw [e]; exact hv), e], fun e => by rw [hres, dec_yes hch e]⟩
  have H0 : Hid (∀ W, BkAt W p S K → Calls Tryz.prog 95 #[maV p.b room ⟨2, t, i, s, u⟩] W fun e w' => e = .returned (.int .i64 v0) ∧ Mt W w' p S K []) := fun W hW => by rw [e0]; exact (idIs_any hW ho.wk room ⟨2, t, i, s, u⟩ hq.i0 hq.i1).mono (fun e w' x => x)
  have H1 : Hid (∀ W c, BkAt W p S K → W.heap[c]? = some (.cells [Value.int .i64 2].toArray 54 (0, 0)) → Rk.Tab W → Calls Tryz.prog 114 #[maV p.b room ⟨2, t, i, s, u⟩, .pointer (some ⟨c, 0, none⟩)] W fun e w' => e = .returned (.int .i64 v1) ∧ Mt W w' p S K []) := fun W c hW hc hT => by rw [e1]; exact (log_ck p.b room ⟨2, t, i, s, u⟩ c 2 hc hT).mono (fun e w' x => ⟨x.1, (Mt.start hW).then x.2⟩)
  obtain ⟨R, hR⟩ : ∃ R, R = recQ S ⟨2, t, i, s, u⟩ := ⟨_, rfl⟩
  have HRc : Hid (∀ W, BkAt W p S K → Calls Tryz.prog 96 #[maV p.b room ⟨2, t, i, s, u⟩] W fun e w' => e = .returned (Rk.rcV R) ∧ Mt W w' p S K []) := fun W hW => by rw [hR]; exact (confirm_rec p.b room ⟨2, t, i, s, u⟩ W).mono (fun e w' x => ⟨x.1, (Mt.start hW).then x.2⟩)
  have HRp := hide (fun W => reply_any ⟨2, t, i, s, u⟩ R W)
  have HRl := hide (fun W => rule_2 W)
  have HFu := hide (fun v W => refusal_any ⟨2, t, i, s, u⟩ v W)
  rw [← hR] at HRs
  clear h ho hq hm hT hch hk hres hR e0 e1
  obtain ⟨rk, ri, rs, ru, rc⟩ := R
  unfold Rs.rqV at *
  unfold maV at *
  unfold Rs.rqC at HM
  unfold Rk.rcV at HRc HRp
  unfold rlV at HRl
  simp only at *
  have HDc : Hid (∀ v, dcV ⟨zRc, rfY ⟨2, t, i, s, u⟩ v, false, 0⟩ = .tuple #[.agg #[.int .i64 0, .int .u32 0, .int .i64 0, .int .i64 0, .int .i64 0], .agg #[.int .u32 t, .int .i64 2, .int .i64 v, .int .u32 0, .int .i64 0, .int .i64 0, .int .i64 0], .bool false, .int .i64 0]) := fun _ => rfl
  have HFv : Hid (∀ v W, Calls Tryz.prog 47 #[.agg #[.int .i64 2, .int .u32 t, .int .u32 i, .int .i64 s, .int .i64 u], .int .i64 v] W fun r w' => r = .returned (.agg #[.int .u32 t, .int .i64 2, .int .i64 v, .int .u32 0, .int .i64 0, .int .i64 0, .int .i64 0]) ∧ W.grownBy w' none) := HFu.out
  clear HFu
  generalize hb : p.b = b at *
  have HB := hide hb
  clear hb
  go_enter Tryz.func23, Tryz.ntmps23
  go_wp2_with fail
  refine (HN.out _ HM.out.bk).mono ?_
  rintro e w1 ⟨rfl, m1⟩
  have M1 := hide (HM.out.mt m1)
  clear m1 HM HN
  obtain ⟨c0, c1, c2, c3, c4⟩ := bx5 M1.out.b2
  go_wp2_with fail
  refine (HQ.out _).mono ?_
  rintro e w2 ⟨rfl, hg⟩
  have M2 := hide (M1.out.then hg)
  clear hg M1 HQ c0 c1 c2 c3 c4
  obtain ⟨c0, c1, c2, c3, c4⟩ := bx5 M2.out.b2
  go_wp2_with fail
  refine (HC.out _).mono ?_
  rintro e wx ⟨rfl, hwx⟩
  obtain rfl := hwx.symm
  have M3 := hide (M2.out.box [.pointer (some ⟨b, 0, none⟩), .int .i64 room, .int .i64 2, .int .u32 t, .int .u32 i, .int .i64 s, .int .i64 u] 106)
  clear hwx M2 HC
  obtain ⟨k0, k1, k2, k3, k4⟩ := bx5 M3.out.b3
  go_wp2_with fail
  generalize hX : w2.heap.size = X at *
  generalize World.alloc w2 _ = w3 at *
  clear hX
  refine (HRl.out _).mono ?_
  rintro e w4 ⟨g, c, rfl, hR4, hg4⟩
  have M5 := hide ((M3.out.rule hg4 hR4).box [.slice (some ⟨g, 0, none⟩) 2 2, .func (.func 96) #[] #[]] 110)
  clear M3 HRl hR4 hg4 c0 c1 c2 c3 c4 k0 k1 k2 k3 k4
  obtain ⟨y0, y1⟩ := bx2 M5.out.b0
  go_wp2_with fail
  generalize hY : w4.heap.size = Y at *
  generalize World.alloc w4 _ = w5 at *
  clear hY y0 y1
  refine wp_loop_rounds 3 ?_
  rw [rounds_succ]
  obtain ⟨a0, a1, a2, a3, a4, a5, a6⟩ := bx7 M5.out.b3
  have gj : w5.cell? ⟨g, 0, none⟩ = some (.func (.func 95) #[] #[]) := by have := cell_row M5.out.b1 0; simpa [fnV, lgV] using this
  go_wp2_with fail
  refine (H0.out _ M5.out.bk).mono ?_
  rintro e u0 ⟨rfl, mj⟩
  have N0 := hide (M5.out.mt mj)
  clear mj M5 a0 a1 a2 a3 a4 a5 a6 gj
  by_cases hz : v0 = 0
  rotate_left
  · have f1 : (v0 != 0) = true := by simpa using hz
    have f2 : (v0 == 0) = false := by simpa using hz
    have f3 : decide (v0 = 0) = false := by simpa using hz
    have HZ : Hid (res = ⟨zRc, rfY ⟨2, t, i, s, u⟩ v0, false, 0⟩) := HRs.out.1 v0 hz (by rw [HRf.out]; simp [fstE, hz])
    clear hz HRs HRf
    obtain ⟨c0, c1, c2, c3, c4⟩ := bx5 N0.out.b6
    go_wp2_with fail
    refine (HFv.out _ _).mono ?_
    rintro e w7 ⟨rfl, hg7⟩
    have M7 := hide (N0.out.then hg7)
    clear hg7 N0 c0 c1 c2 c3 c4
    obtain ⟨⟨d0, d1, d2, d3, d4⟩, d5⟩ := bxf5 M7.out.b5
    obtain ⟨⟨x0, x1, x2, x3, x4, x5, x6⟩, x7⟩ := bxf7 M7.out.b4
    go_wp2
    obtain ⟨r1, r2, r3⟩ := dc_end M7.out (g := w.heap.size + 1) (h := w.heap.size + 1 + 1) (List.mem_cons_of_mem _ (List.mem_cons_of_mem _ (List.mem_cons_of_mem _ (List.mem_cons_of_mem _ (List.mem_cons_of_mem _ (List.mem_cons_self ..)))))) (List.mem_cons_of_mem _ (List.mem_cons_of_mem _ (List.mem_cons_of_mem _ (List.mem_cons_of_mem _ (List.mem_cons_self ..))))) rfl rfl (by omega) (.int .i64 0) (.int .u32 0) (.int .i64 0) (.int .i64 0) (.int .i64 0) (.int .u32 t) (.int .i64 2) (.int .i64 v0) (.int .u32 0) (.int .i64 0) (.int .i64 0) (.int .i64 0)
    exact bodyPost_ret (results_c2t2 rfl _ _ (w.heap.size + 1) (w.heap.size + 1 + 1) _ _ rfl rfl r1 r2 rfl rfl) rfl ⟨by rw [HZ.out, HDc.out]; rfl, r3⟩
  subst hz
  go_wp2_with fail
  rw [rounds_succ]
  obtain ⟨a0, a1, a2, a3, a4, a5, a6⟩ := bx7 N0.out.b3
  have gj : u0.cell? ⟨g, 1, none⟩ = some (.func (.func 114) #[] #[.pointer (some ⟨c, 0, none⟩)]) := by have := cell_row N0.out.b1 1; simpa [fnV, lgV] using this
  go_wp2_with fail
  refine (H1.out _ c N0.out.bk N0.out.b2 (N0.out.tab HT.out)).mono ?_
  rintro e u1 ⟨rfl, mj⟩
  have N1 := hide (N0.out.mt mj)
  clear mj N0 a0 a1 a2 a3 a4 a5 a6 gj
  by_cases hz : v1 = 0
  rotate_left
  · have f1 : (v1 != 0) = true := by simpa using hz
    have f2 : (v1 == 0) = false := by simpa using hz
    have f3 : decide (v1 = 0) = false := by simpa using hz
    have HZ : Hid (res = ⟨zRc, rfY ⟨2, t, i, s, u⟩ v1, false, 0⟩) := HRs.out.1 v1 hz (by rw [HRf.out]; simp [fstE, hz])
    clear hz HRs HRf
    obtain ⟨c0, c1, c2, c3, c4⟩ := bx5 N1.out.b6
    go_wp2_with fail
    refine (HFv.out _ _).mono ?_
    rintro e w7 ⟨rfl, hg7⟩
    have M7 := hide (N1.out.then hg7)
    clear hg7 N1 c0 c1 c2 c3 c4
    obtain ⟨⟨d0, d1, d2, d3, d4⟩, d5⟩ := bxf5 M7.out.b5
    obtain ⟨⟨x0, x1, x2, x3, x4, x5, x6⟩, x7⟩ := bxf7 M7.out.b4
    go_wp2
    obtain ⟨r1, r2, r3⟩ := dc_end M7.out (g := w.heap.size + 1) (h := w.heap.size + 1 + 1) (List.mem_cons_of_mem _ (List.mem_cons_of_mem _ (List.mem_cons_of_mem _ (List.mem_cons_of_mem _ (List.mem_cons_of_mem _ (List.mem_cons_self ..)))))) (List.mem_cons_of_mem _ (List.mem_cons_of_mem _ (List.mem_cons_of_mem _ (List.mem_cons_of_mem _ (List.mem_cons_self ..))))) rfl rfl (by omega) (.int .i64 0) (.int .u32 0) (.int .i64 0) (.int .i64 0) (.int .i64 0) (.int .u32 t) (.int .i64 2) (.int .i64 v1) (.int .u32 0) (.int .i64 0) (.int .i64 0) (.int .i64 0)
    exact bodyPost_ret (results_c2t2 rfl _ _ (w.heap.size + 1) (w.heap.size + 1 + 1) _ _ rfl rfl r1 r2 rfl rfl) rfl ⟨by rw [HZ.out, HDc.out]; rfl, r3⟩
  subst hz
  go_wp2_with fail
  rw [rounds_succ]
  obtain ⟨a0, a1, a2, a3, a4, a5, a6⟩ := bx7 N1.out.b3
  obtain ⟨y0, y1⟩ := bx2 N1.out.b0
  go_wp2_with fail
  refine (HRc.out _ N1.out.bk).mono ?_
  rintro e w8 ⟨rfl, m8⟩
  have HZ := hide (HRs.out.2 (by rw [HRf.out]; simp [fstE]))
  have M8 := hide (N1.out.mt m8)
  have HL5 : Hid (w.heap.size + 1 + 1 < w8.heap.size ∧ w.heap.size + 1 < w8.heap.size) := ⟨row_lt M8.out.b4, row_lt M8.out.b5⟩
  have M9 := hide (M8.out.box [.int .i64 rk, .int .u32 ri, .int .i64 rs, .int .i64 ru, .int .i64 rc] 56)
  clear m8 N1 M8 a0 a1 a2 a3 a4 a5 a6 y0 y1 HRs HRf HRc
  go_wp2
  generalize hZ : w8.heap.size = Z at *
  generalize World.alloc w8 _ = w9 at *
  clear hZ
  have HSo : Hid (∀ W, w9.grownBy W none → (W.cell? ⟨Z, 0, none⟩ = some (.int .i64 rk) ∧ W.cell? ⟨Z, 1, none⟩ = some (.int .u32 ri) ∧ W.cell? ⟨Z, 2, none⟩ = some (.int .i64 rs) ∧ W.cell? ⟨Z, 3, none⟩ = some (.int .i64 ru) ∧ W.cell? ⟨Z, 4, none⟩ = some (.int .i64 rc) ∧ W.cell? ⟨w.heap.size, 0, none⟩ = some (.int .i64 2) ∧ W.cell? ⟨w.heap.size, 1, none⟩ = some (.int .u32 t) ∧ W.cell? ⟨w.heap.size, 2, none⟩ = some (.int .u32 i) ∧ W.cell? ⟨w.heap.size, 3, none⟩ = some (.int .i64 s) ∧ W.cell? ⟨w.heap.size, 4, none⟩ = some (.int .i64 u))) := fun W gW => s10_of (box_to M9.out.b0 gW) (box_to M9.out.b7 gW)
  have HRv : Hid (∀ W, Calls Tryz.prog 48 #[.agg #[.int .i64 2, .int .u32 t, .int .u32 i, .int .i64 s, .int .i64 u], .agg #[.int .i64 rk, .int .u32 ri, .int .i64 rs, .int .i64 ru, .int .i64 rc]] W fun e w' => e = .returned (.agg #[.int .u32 t, .int .i64 2, .int .i64 0, .int .u32 0, .int .i64 0, .int .i64 0, .int .i64 0]) ∧ W.grownBy w' none) := HRp.out
  have hn1 : Hid (w.heap.size + 1 ≠ Z) := fun e => by have := HL5.out.2; omega
  have hn2 : Hid (w.heap.size + 1 ≠ w.heap.size) := fun e => by omega
  have hn3 : Hid (w.heap.size + 1 + 1 ≠ Z) := fun e => by have := HL5.out.1; omega
  have hn4 : Hid (w.heap.size + 1 + 1 ≠ w.heap.size) := fun e => by omega
  have HDy : Hid (dcV ⟨⟨rk, ri, rs, ru, rc⟩, rpY ⟨2, t, i, s, u⟩ ⟨rk, ri, rs, ru, rc⟩, true, 0⟩ = .tuple #[.agg #[.int .i64 rk, .int .u32 ri, .int .i64 rs, .int .i64 ru, .int .i64 rc], .agg #[.int .u32 t, .int .i64 2, .int .i64 0, .int .u32 0, .int .i64 0, .int .i64 0, .int .i64 0], .bool true, .int .i64 0]) := by simp [Hid, dcV, rpY, Rk.rcV, Rt.ryV]
  clear HRp
  refine wp_region_held_drew (S := (fun W => (W.cell? ⟨Z, 0, none⟩ = some (.int .i64 rk) ∧ W.cell? ⟨Z, 1, none⟩ = some (.int .u32 ri) ∧ W.cell? ⟨Z, 2, none⟩ = some (.int .i64 rs) ∧ W.cell? ⟨Z, 3, none⟩ = some (.int .i64 ru) ∧ W.cell? ⟨Z, 4, none⟩ = some (.int .i64 rc) ∧ W.cell? ⟨w.heap.size, 0, none⟩ = some (.int .i64 2) ∧ W.cell? ⟨w.heap.size, 1, none⟩ = some (.int .u32 t) ∧ W.cell? ⟨w.heap.size, 2, none⟩ = some (.int .u32 i) ∧ W.cell? ⟨w.heap.size, 3, none⟩ = some (.int .i64 s) ∧ W.cell? ⟨w.heap.size, 4, none⟩ = some (.int .i64 u)))) (by kernel_rfl) ?_ (fun hHeld => ?_)
  · (exact HSo.out _ (grown_drew _ none))
  refine tkH (i := 0) (v := ?_) rfl ?_ ?_
  rotate_left
  · (intro w hSw; (try dsimp only at hSw); (go_simp <;> with_reducible rfl))
  try simp only [Act.put, List.setIfInBounds_toArray]
  refine tkH (i := 1) (v := ?_) rfl ?_ ?_
  rotate_left
  · (intro w hSw; (try dsimp only at hSw); (go_simp <;> with_reducible rfl))
  try simp only [Act.put]
  refine tkH (i := 2) (v := ?_) rfl ?_ ?_
  rotate_left
  · (intro w hSw; (try dsimp only at hSw); (go_simp <;> with_reducible rfl))
  try simp only [Act.put]
  refine rdH (i := 3) rfl (fun K hK => ?_)
  go_simp
  refine (HRv.out _).mono ?_; rintro e wa ⟨rfl, hga⟩; have Ga := hide (grown_trans (grown_drew w9 none) hga); have hJ := HSo.out _ Ga.out; have Ma := hide (M9.out.then Ga.out); obtain ⟨⟨d0, d1, d2, d3, d4⟩, d5⟩ := bxf5 Ma.out.b6; obtain ⟨⟨x0, x1, x2, x3, x4, x5, x6⟩, x7⟩ := bxf7 Ma.out.b5
  go_wp2_with fail
  refine hK.out _ _ ?_ (fun hHeld => ?_)
  · ((try dsimp only); first | with_reducible assumption | with_reducible exact s10_set5 hJ hn1.out hn2.out _ _ _ _ _ | with_reducible exact s10_set7 (s10_set5 hJ hn1.out hn2.out _ _ _ _ _) hn3.out hn4.out _ _ _ _ _ _ _)
  clear hK K
  try simp only [Act.put, List.setIfInBounds_toArray, List.set_cons_zero, List.set_cons_succ]
  refine rdH (i := 4) rfl (fun K hK => ?_)
  go_simp
  refine hK.out _ _ ?_ (fun hHeld => ?_)
  · ((try dsimp only); first | with_reducible assumption | with_reducible exact s10_set5 hJ hn1.out hn2.out _ _ _ _ _ | with_reducible exact s10_set7 (s10_set5 hJ hn1.out hn2.out _ _ _ _ _) hn3.out hn4.out _ _ _ _ _ _ _)
  clear hK K
  try simp only [Act.put, List.setIfInBounds_toArray, List.set_cons_zero, List.set_cons_succ]
  refine rdH (i := 5) rfl (fun K hK => ?_)
  go_simp
  refine hK.out _ _ ?_ (fun hHeld => ?_)
  · ((try dsimp only); first | with_reducible assumption | with_reducible exact s10_set5 hJ hn1.out hn2.out _ _ _ _ _ | with_reducible exact s10_set7 (s10_set5 hJ hn1.out hn2.out _ _ _ _ _) hn3.out hn4.out _ _ _ _ _ _ _)
  clear hK K
  try simp only [Act.put, List.setIfInBounds_toArray, List.set_cons_zero, List.set_cons_succ]
  refine tkH (i := 6) (oi := { dst := some 8, op := Go.Op.assign (Go.Operand.const (Go.Value.bool true)), type := 4, pos := "cases.go:51", after := #[{ on := 5, ground := Go.Ground.chain }, { on := 0, ground := Go.Ground.phase }, { on := 1, ground := Go.Ground.phase }, { on := 2, ground := Go.Ground.phase }, { on := 3, ground := Go.Ground.phase }, { on := 4, ground := Go.Ground.phase }, { on := 5, ground := Go.Ground.phase }], guard := none }) (v := ?_) rfl ?_ ?_
  rotate_left
  · (intro w hSw; (try dsimp only at hSw); (go_simp <;> with_reducible rfl))
  try simp only [Act.put, List.setIfInBounds_toArray, List.set_cons_zero, List.set_cons_succ]
  refine tkH (i := 7) (oi := { dst := some 9, op := Go.Op.assign (Go.Operand.const (Go.Value.int Go.IntKind.i64 0)), type := 36, pos := "cases.go:51", after := #[{ on := 6, ground := Go.Ground.chain }, { on := 0, ground := Go.Ground.phase }, { on := 1, ground := Go.Ground.phase }, { on := 2, ground := Go.Ground.phase }, { on := 3, ground := Go.Ground.phase }, { on := 4, ground := Go.Ground.phase }, { on := 5, ground := Go.Ground.phase }, { on := 6, ground := Go.Ground.phase }], guard := none }) (v := ?_) rfl ?_ ?_
  rotate_left
  · (intro w hSw; (try dsimp only at hSw); (go_simp <;> with_reducible rfl))
  try simp only [Act.put, List.setIfInBounds_toArray, List.set_cons_zero, List.set_cons_succ]
  refine wpAnyH_done (by kernel_rfl) ?_ _
  go_wp2
  obtain ⟨r1, r2, r3⟩ := dc_end Ma.out (g := w.heap.size + 1) (h := w.heap.size + 1 + 1) (List.mem_cons_of_mem _ (List.mem_cons_of_mem _ (List.mem_cons_of_mem _ (List.mem_cons_of_mem _ (List.mem_cons_of_mem _ (List.mem_cons_of_mem _ (List.mem_cons_self ..))))))) (List.mem_cons_of_mem _ (List.mem_cons_of_mem _ (List.mem_cons_of_mem _ (List.mem_cons_of_mem _ (List.mem_cons_of_mem _ (List.mem_cons_self ..)))))) rfl rfl (by omega) (.int .i64 rk) (.int .u32 ri) (.int .i64 rs) (.int .i64 ru) (.int .i64 rc) (.int .u32 t) (.int .i64 2) (.int .i64 0) (.int .u32 0) (.int .i64 0) (.int .i64 0) (.int .i64 0)
  exact bodyPost_ret (results_c2t2 rfl _ _ (w.heap.size + 1) (w.heap.size + 1 + 1) _ _ rfl rfl r1 r2 rfl rfl) rfl ⟨by rw [HZ.out, HDy.out]; rfl, r3⟩
end
end Go.Proofs.YtjfhilignbeboabGreatDoor
namespace Go.Proofs.YtjfhilignbeboabGreatDoor
/- cases: Decide of the kind 3. -/
open Go.RowKit
attribute [local go_sem ↓] Go.wp_at_zero Go.wp_at_succ
attribute [local go_sem] Oper.semAt_some
section
variable {w : World} {p : Bp} {S : Sb} {K : Nat}
set_option maxRecDepth 20000 in
set_option maxHeartbeats 8000000 in
theorem decide_3 (h : BkAt w p S K) (ho : S.Ok) (room t i s u : Int) (hq : Rs.Rq.Ok ⟨3, t, i, s, u⟩) (hm : Rs.Rq.May ⟨3, t, i, s, u⟩) (hT : Rk.Tab w) : Calls Tryz.prog 23 #[.pointer (some ⟨p.b, 0, none⟩), .int .i64 room, .agg #[.int .i64 3, .int .u32 t, .int .u32 i, .int .i64 s, .int .i64 u]] w fun e w' => e = .returned (dcV (dec S room ⟨3, t, i, s, u⟩)) ∧ Mt w w' p S K [] := by
  have hch : isChg ⟨3, t, i, s, u⟩ := ⟨hm, show Rs.chg 3 = true by decide⟩
  obtain ⟨res, hres⟩ : ∃ res, res = dec S room ⟨3, t, i, s, u⟩ := ⟨_, rfl⟩
  rw [← hres]
  have hk : Rs.chk ⟨3, t, i, s, u⟩ = 0 := by unfold Rs.chk; rw [if_pos hm]
  have HN : Hid (∀ W, BkAt W p S K → Calls Tryz.prog 17 #[.pointer (some ⟨p.b, 0, none⟩)] W fun e w' => e = .returned (.bool false) ∧ Mt W w' p S K []) := fun W hW => isNone_no hW ho
  have HQ := hide (fun W => Rs.check_any ⟨3, t, i, s, u⟩ hq W)
  rw [hk] at HQ
  have HC : Hid (∀ W, Calls Tryz.prog 45 #[.int .i64 3] W fun e w' => e = .returned (.bool true) ∧ w' = W) := fun W => Rs.changes_any 3 W
  have HM := hide (Mt.three h (Rs.rqC ⟨3, t, i, s, u⟩) [Value.int .i64 0, .int .u32 0, .int .i64 0, .int .i64 0, .int .i64 0] [Value.int .u32 0, .int .i64 0, .int .i64 0, .int .u32 0, .int .i64 0, .int .i64 0, .int .i64 0] 42 56 38)
  have HT := hide hT
  obtain ⟨v0, e0⟩ : ∃ v, v = idE S ⟨3, t, i, s, u⟩ := ⟨_, rfl⟩
  obtain ⟨v1, e1⟩ : ∃ v, v = lgE room 3 := ⟨_, rfl⟩
  have HRf : Hid (refE S room ⟨3, t, i, s, u⟩ = fstE [v0, v1]) := by rw [e0, e1]; rfl
  have HRs : Hid ((∀ v, v ≠ 0 → refE S room ⟨3, t, i, s, u⟩ = v → res = ⟨zRc, rfY ⟨3, t, i, s, u⟩ v, false, 0⟩) ∧ (refE S room ⟨3, t, i, s, u⟩ = 0 → res = ⟨recQ S ⟨3, t, i, s, u⟩, rpY ⟨3, t, i, s, u⟩ (recQ S ⟨3, t, i, s, u⟩), true, 0⟩)) := ⟨fun v hv e => by rw [hres, dec_ref hch (by rw [e]; exact hv), e], fun e => by rw [hres, dec_yes hch e]⟩
  have H0 : Hid (∀ W, BkAt W p S K → Calls Tryz.prog 95 #[maV p.b room ⟨3, t, i, s, u⟩] W fun e w' => e = .returned (.int .i64 v0) ∧ Mt W w' p S K []) := fun W hW => by rw [e0]; exact (idIs_any hW ho.wk room ⟨3, t, i, s, u⟩ hq.i0 hq.i1).mono (fun e w' x => x)
  have H1 : Hid (∀ W c, BkAt W p S K → W.heap[c]? = some (.cells [Value.int .i64 3].toArray 54 (0, 0)) → Rk.Tab W → Calls Tryz.prog 114 #[maV p.b room ⟨3, t, i, s, u⟩, .pointer (some ⟨c, 0, none⟩)] W fun e w' => e = .returned (.int .i64 v1) ∧ Mt W w' p S K []) := fun W c hW hc hT => by rw [e1]; exact (log_ck p.b room ⟨3, t, i, s, u⟩ c 3 hc hT).mono (fun e w' x => ⟨x.1, (Mt.start hW).then x.2⟩)
  obtain ⟨R, hR⟩ : ∃ R, R = recQ S ⟨3, t, i, s, u⟩ := ⟨_, rfl⟩
  have HRc : Hid (∀ W, BkAt W p S K → Calls Tryz.prog 97 #[maV p.b room ⟨3, t, i, s, u⟩] W fun e w' => e = .returned (Rk.rcV R) ∧ Mt W w' p S K []) := fun W hW => by rw [hR]; exact (cancel_rec p.b room ⟨3, t, i, s, u⟩ W).mono (fun e w' x => ⟨x.1, (Mt.start hW).then x.2⟩)
  have HRp := hide (fun W => reply_any ⟨3, t, i, s, u⟩ R W)
  have HRl := hide (fun W => rule_3 W)
  have HFu := hide (fun v W => refusal_any ⟨3, t, i, s, u⟩ v W)
  rw [← hR] at HRs
  clear h ho hq hm hT hch hk hres hR e0 e1
  obtain ⟨rk, ri, rs, ru, rc⟩ := R
  unfold Rs.rqV at *
  unfold maV at *
  unfold Rs.rqC at HM
  unfold Rk.rcV at HRc HRp
  unfold rlV at HRl
  simp only at *
  have HDc : Hid (∀ v, dcV ⟨zRc, rfY ⟨3, t, i, s, u⟩ v, false, 0⟩ = .tuple #[.agg #[.int .i64 0, .int .u32 0, .int .i64 0, .int .i64 0, .int .i64 0], .agg #[.int .u32 t, .int .i64 3, .int .i64 v, .int .u32 0, .int .i64 0, .int .i64 0, .int .i64 0], .bool false, .int .i64 0]) := fun _ => rfl
  have HFv : Hid (∀ v W, Calls Tryz.prog 47 #[.agg #[.int .i64 3, .int .u32 t, .int .u32 i, .int .i64 s, .int .i64 u], .int .i64 v] W fun r w' => r = .returned (.agg #[.int .u32 t, .int .i64 3, .int .i64 v, .int .u32 0, .int .i64 0, .int .i64 0, .int .i64 0]) ∧ W.grownBy w' none) := HFu.out
  clear HFu
  generalize hb : p.b = b at *
  have HB := hide hb
  clear hb
  go_enter Tryz.func23, Tryz.ntmps23
  go_wp2_with fail
  refine (HN.out _ HM.out.bk).mono ?_
  rintro e w1 ⟨rfl, m1⟩
  have M1 := hide (HM.out.mt m1)
  clear m1 HM HN
  obtain ⟨c0, c1, c2, c3, c4⟩ := bx5 M1.out.b2
  go_wp2_with fail
  refine (HQ.out _).mono ?_
  rintro e w2 ⟨rfl, hg⟩
  have M2 := hide (M1.out.then hg)
  clear hg M1 HQ c0 c1 c2 c3 c4
  obtain ⟨c0, c1, c2, c3, c4⟩ := bx5 M2.out.b2
  go_wp2_with fail
  refine (HC.out _).mono ?_
  rintro e wx ⟨rfl, hwx⟩
  obtain rfl := hwx.symm
  have M3 := hide (M2.out.box [.pointer (some ⟨b, 0, none⟩), .int .i64 room, .int .i64 3, .int .u32 t, .int .u32 i, .int .i64 s, .int .i64 u] 106)
  clear hwx M2 HC
  obtain ⟨k0, k1, k2, k3, k4⟩ := bx5 M3.out.b3
  go_wp2_with fail
  generalize hX : w2.heap.size = X at *
  generalize World.alloc w2 _ = w3 at *
  clear hX
  refine (HRl.out _).mono ?_
  rintro e w4 ⟨g, c, rfl, hR4, hg4⟩
  have M5 := hide ((M3.out.rule hg4 hR4).box [.slice (some ⟨g, 0, none⟩) 2 2, .func (.func 97) #[] #[]] 110)
  clear M3 HRl hR4 hg4 c0 c1 c2 c3 c4 k0 k1 k2 k3 k4
  obtain ⟨y0, y1⟩ := bx2 M5.out.b0
  go_wp2_with fail
  generalize hY : w4.heap.size = Y at *
  generalize World.alloc w4 _ = w5 at *
  clear hY y0 y1
  refine wp_loop_rounds 3 ?_
  rw [rounds_succ]
  obtain ⟨a0, a1, a2, a3, a4, a5, a6⟩ := bx7 M5.out.b3
  have gj : w5.cell? ⟨g, 0, none⟩ = some (.func (.func 95) #[] #[]) := by have := cell_row M5.out.b1 0; simpa [fnV, lgV] using this
  go_wp2_with fail
  refine (H0.out _ M5.out.bk).mono ?_
  rintro e u0 ⟨rfl, mj⟩
  have N0 := hide (M5.out.mt mj)
  clear mj M5 a0 a1 a2 a3 a4 a5 a6 gj
  by_cases hz : v0 = 0
  rotate_left
  · have f1 : (v0 != 0) = true := by simpa using hz
    have f2 : (v0 == 0) = false := by simpa using hz
    have f3 : decide (v0 = 0) = false := by simpa using hz
    have HZ : Hid (res = ⟨zRc, rfY ⟨3, t, i, s, u⟩ v0, false, 0⟩) := HRs.out.1 v0 hz (by rw [HRf.out]; simp [fstE, hz])
    clear hz HRs HRf
    obtain ⟨c0, c1, c2, c3, c4⟩ := bx5 N0.out.b6
    go_wp2_with fail
    refine (HFv.out _ _).mono ?_
    rintro e w7 ⟨rfl, hg7⟩
    have M7 := hide (N0.out.then hg7)
    clear hg7 N0 c0 c1 c2 c3 c4
    obtain ⟨⟨d0, d1, d2, d3, d4⟩, d5⟩ := bxf5 M7.out.b5
    obtain ⟨⟨x0, x1, x2, x3, x4, x5, x6⟩, x7⟩ := bxf7 M7.out.b4
    go_wp2
    obtain ⟨r1, r2, r3⟩ := dc_end M7.out (g := w.heap.size + 1) (h := w.heap.size + 1 + 1) (List.mem_cons_of_mem _ (List.mem_cons_of_mem _ (List.mem_cons_of_mem _ (List.mem_cons_of_mem _ (List.mem_cons_of_mem _ (List.mem_cons_self ..)))))) (List.mem_cons_of_mem _ (List.mem_cons_of_mem _ (List.mem_cons_of_mem _ (List.mem_cons_of_mem _ (List.mem_cons_self ..))))) rfl rfl (by omega) (.int .i64 0) (.int .u32 0) (.int .i64 0) (.int .i64 0) (.int .i64 0) (.int .u32 t) (.int .i64 3) (.int .i64 v0) (.int .u32 0) (.int .i64 0) (.int .i64 0) (.int .i64 0)
    exact bodyPost_ret (results_c2t2 rfl _ _ (w.heap.size + 1) (w.heap.size + 1 + 1) _ _ rfl rfl r1 r2 rfl rfl) rfl ⟨by rw [HZ.out, HDc.out]; rfl, r3⟩
  subst hz
  go_wp2_with fail
  rw [rounds_succ]
  obtain ⟨a0, a1, a2, a3, a4, a5, a6⟩ := bx7 N0.out.b3
  have gj : u0.cell? ⟨g, 1, none⟩ = some (.func (.func 114) #[] #[.pointer (some ⟨c, 0, none⟩)]) := by have := cell_row N0.out.b1 1; simpa [fnV, lgV] using this
  go_wp2_with fail
  refine (H1.out _ c N0.out.bk N0.out.b2 (N0.out.tab HT.out)).mono ?_
  rintro e u1 ⟨rfl, mj⟩
  have N1 := hide (N0.out.mt mj)
  clear mj N0 a0 a1 a2 a3 a4 a5 a6 gj
  by_cases hz : v1 = 0
  rotate_left
  · have f1 : (v1 != 0) = true := by simpa using hz
    have f2 : (v1 == 0) = false := by simpa using hz
    have f3 : decide (v1 = 0) = false := by simpa using hz
    have HZ : Hid (res = ⟨zRc, rfY ⟨3, t, i, s, u⟩ v1, false, 0⟩) := HRs.out.1 v1 hz (by rw [HRf.out]; simp [fstE, hz])
    clear hz HRs HRf
    obtain ⟨c0, c1, c2, c3, c4⟩ := bx5 N1.out.b6
    go_wp2_with fail
    refine (HFv.out _ _).mono ?_
    rintro e w7 ⟨rfl, hg7⟩
    have M7 := hide (N1.out.then hg7)
    clear hg7 N1 c0 c1 c2 c3 c4
    obtain ⟨⟨d0, d1, d2, d3, d4⟩, d5⟩ := bxf5 M7.out.b5
    obtain ⟨⟨x0, x1, x2, x3, x4, x5, x6⟩, x7⟩ := bxf7 M7.out.b4
    go_wp2
    obtain ⟨r1, r2, r3⟩ := dc_end M7.out (g := w.heap.size + 1) (h := w.heap.size + 1 + 1) (List.mem_cons_of_mem _ (List.mem_cons_of_mem _ (List.mem_cons_of_mem _ (List.mem_cons_of_mem _ (List.mem_cons_of_mem _ (List.mem_cons_self ..)))))) (List.mem_cons_of_mem _ (List.mem_cons_of_mem _ (List.mem_cons_of_mem _ (List.mem_cons_of_mem _ (List.mem_cons_self ..))))) rfl rfl (by omega) (.int .i64 0) (.int .u32 0) (.int .i64 0) (.int .i64 0) (.int .i64 0) (.int .u32 t) (.int .i64 3) (.int .i64 v1) (.int .u32 0) (.int .i64 0) (.int .i64 0) (.int .i64 0)
    exact bodyPost_ret (results_c2t2 rfl _ _ (w.heap.size + 1) (w.heap.size + 1 + 1) _ _ rfl rfl r1 r2 rfl rfl) rfl ⟨by rw [HZ.out, HDc.out]; rfl, r3⟩
  subst hz
  go_wp2_with fail
  rw [rounds_succ]
  obtain ⟨a0, a1, a2, a3, a4, a5, a6⟩ := bx7 N1.out.b3
  obtain ⟨y0, y1⟩ := bx2 N1.out.b0
  go_wp2_with fail
  refine (HRc.out _ N1.out.bk).mono ?_
  rintro e w8 ⟨rfl, m8⟩
  have HZ := hide (HRs.out.2 (by rw [HRf.out]; simp [fstE]))
  have M8 := hide (N1.out.mt m8)
  have HL5 : Hid (w.heap.size + 1 + 1 < w8.heap.size ∧ w.heap.size + 1 < w8.heap.size) := ⟨row_lt M8.out.b4, row_lt M8.out.b5⟩
  have M9 := hide (M8.out.box [.int .i64 rk, .int .u32 ri, .int .i64 rs, .int .i64 ru, .int .i64 rc] 56)
  clear m8 N1 M8 a0 a1 a2 a3 a4 a5 a6 y0 y1 HRs HRf HRc
  go_wp2
  generalize hZ : w8.heap.size = Z at *
  generalize World.alloc w8 _ = w9 at *
  clear hZ
  have HSo : Hid (∀ W, w9.grownBy W none → (W.cell? ⟨Z, 0, none⟩ = some (.int .i64 rk) ∧ W.cell? ⟨Z, 1, none⟩ = some (.int .u32 ri) ∧ W.cell? ⟨Z, 2, none⟩ = some (.int .i64 rs) ∧ W.cell? ⟨Z, 3, none⟩ = some (.int .i64 ru) ∧ W.cell? ⟨Z, 4, none⟩ = some (.int .i64 rc) ∧ W.cell? ⟨w.heap.size, 0, none⟩ = some (.int .i64 3) ∧ W.cell? ⟨w.heap.size, 1, none⟩ = some (.int .u32 t) ∧ W.cell? ⟨w.heap.size, 2, none⟩ = some (.int .u32 i) ∧ W.cell? ⟨w.heap.size, 3, none⟩ = some (.int .i64 s) ∧ W.cell? ⟨w.heap.size, 4, none⟩ = some (.int .i64 u))) := fun W gW => s10_of (box_to M9.out.b0 gW) (box_to M9.out.b7 gW)
  have HRv : Hid (∀ W, Calls Tryz.prog 48 #[.agg #[.int .i64 3, .int .u32 t, .int .u32 i, .int .i64 s, .int .i64 u], .agg #[.int .i64 rk, .int .u32 ri, .int .i64 rs, .int .i64 ru, .int .i64 rc]] W fun e w' => e = .returned (.agg #[.int .u32 t, .int .i64 3, .int .i64 0, .int .u32 0, .int .i64 0, .int .i64 0, .int .i64 0]) ∧ W.grownBy w' none) := HRp.out
  have hn1 : Hid (w.heap.size + 1 ≠ Z) := fun e => by have := HL5.out.2; omega
  have hn2 : Hid (w.heap.size + 1 ≠ w.heap.size) := fun e => by omega
  have hn3 : Hid (w.heap.size + 1 + 1 ≠ Z) := fun e => by have := HL5.out.1; omega
  have hn4 : Hid (w.heap.size + 1 + 1 ≠ w.heap.size) := fun e => by omega
  have HDy : Hid (dcV ⟨⟨rk, ri, rs, ru, rc⟩, rpY ⟨3, t, i, s, u⟩ ⟨rk, ri, rs, ru, rc⟩, true, 0⟩ = .tuple #[.agg #[.int .i64 rk, .int .u32 ri, .int .i64 rs, .int .i64 ru, .int .i64 rc], .agg #[.int .u32 t, .int .i64 3, .int .i64 0, .int .u32 0, .int .i64 0, .int .i64 0, .int .i64 0], .bool true, .int .i64 0]) := by simp [Hid, dcV, rpY, Rk.rcV, Rt.ryV]
  clear HRp
  refine wp_region_held_drew (S := (fun W => (W.cell? ⟨Z, 0, none⟩ = some (.int .i64 rk) ∧ W.cell? ⟨Z, 1, none⟩ = some (.int .u32 ri) ∧ W.cell? ⟨Z, 2, none⟩ = some (.int .i64 rs) ∧ W.cell? ⟨Z, 3, none⟩ = some (.int .i64 ru) ∧ W.cell? ⟨Z, 4, none⟩ = some (.int .i64 rc) ∧ W.cell? ⟨w.heap.size, 0, none⟩ = some (.int .i64 3) ∧ W.cell? ⟨w.heap.size, 1, none⟩ = some (.int .u32 t) ∧ W.cell? ⟨w.heap.size, 2, none⟩ = some (.int .u32 i) ∧ W.cell? ⟨w.heap.size, 3, none⟩ = some (.int .i64 s) ∧ W.cell? ⟨w.heap.size, 4, none⟩ = some (.int .i64 u)))) (by kernel_rfl) ?_ (fun hHeld => ?_)
  · (exact HSo.out _ (grown_drew _ none))
  refine tkH (i := 0) (v := ?_) rfl ?_ ?_
  rotate_left
  · (intro w hSw; (try dsimp only at hSw); (go_simp <;> with_reducible rfl))
  try simp only [Act.put, List.setIfInBounds_toArray]
  refine tkH (i := 1) (v := ?_) rfl ?_ ?_
  rotate_left
  · (intro w hSw; (try dsimp only at hSw); (go_simp <;> with_reducible rfl))
  try simp only [Act.put]
  refine tkH (i := 2) (v := ?_) rfl ?_ ?_
  rotate_left
  · (intro w hSw; (try dsimp only at hSw); (go_simp <;> with_reducible rfl))
  try simp only [Act.put]
  refine rdH (i := 3) rfl (fun K hK => ?_)
  go_simp
  refine (HRv.out _).mono ?_; rintro e wa ⟨rfl, hga⟩; have Ga := hide (grown_trans (grown_drew w9 none) hga); have hJ := HSo.out _ Ga.out; have Ma := hide (M9.out.then Ga.out); obtain ⟨⟨d0, d1, d2, d3, d4⟩, d5⟩ := bxf5 Ma.out.b6; obtain ⟨⟨x0, x1, x2, x3, x4, x5, x6⟩, x7⟩ := bxf7 Ma.out.b5
  go_wp2_with fail
  refine hK.out _ _ ?_ (fun hHeld => ?_)
  · ((try dsimp only); first | with_reducible assumption | with_reducible exact s10_set5 hJ hn1.out hn2.out _ _ _ _ _ | with_reducible exact s10_set7 (s10_set5 hJ hn1.out hn2.out _ _ _ _ _) hn3.out hn4.out _ _ _ _ _ _ _)
  clear hK K
  try simp only [Act.put, List.setIfInBounds_toArray, List.set_cons_zero, List.set_cons_succ]
  refine rdH (i := 4) rfl (fun K hK => ?_)
  go_simp
  refine hK.out _ _ ?_ (fun hHeld => ?_)
  · ((try dsimp only); first | with_reducible assumption | with_reducible exact s10_set5 hJ hn1.out hn2.out _ _ _ _ _ | with_reducible exact s10_set7 (s10_set5 hJ hn1.out hn2.out _ _ _ _ _) hn3.out hn4.out _ _ _ _ _ _ _)
  clear hK K
  try simp only [Act.put, List.setIfInBounds_toArray, List.set_cons_zero, List.set_cons_succ]
  refine rdH (i := 5) rfl (fun K hK => ?_)
  go_simp
  refine hK.out _ _ ?_ (fun hHeld => ?_)
  · ((try dsimp only); first | with_reducible assumption | with_reducible exact s10_set5 hJ hn1.out hn2.out _ _ _ _ _ | with_reducible exact s10_set7 (s10_set5 hJ hn1.out hn2.out _ _ _ _ _) hn3.out hn4.out _ _ _ _ _ _ _)
  clear hK K
  try simp only [Act.put, List.setIfInBounds_toArray, List.set_cons_zero, List.set_cons_succ]
  refine tkH (i := 6) (oi := { dst := some 8, op := Go.Op.assign (Go.Operand.const (Go.Value.bool true)), type := 4, pos := "cases.go:51", after := #[{ on := 5, ground := Go.Ground.chain }, { on := 0, ground := Go.Ground.phase }, { on := 1, ground := Go.Ground.phase }, { on := 2, ground := Go.Ground.phase }, { on := 3, ground := Go.Ground.phase }, { on := 4, ground := Go.Ground.phase }, { on := 5, ground := Go.Ground.phase }], guard := none }) (v := ?_) rfl ?_ ?_
  rotate_left
  · (intro w hSw; (try dsimp only at hSw); (go_simp <;> with_reducible rfl))
  try simp only [Act.put, List.setIfInBounds_toArray, List.set_cons_zero, List.set_cons_succ]
  refine tkH (i := 7) (oi := { dst := some 9, op := Go.Op.assign (Go.Operand.const (Go.Value.int Go.IntKind.i64 0)), type := 36, pos := "cases.go:51", after := #[{ on := 6, ground := Go.Ground.chain }, { on := 0, ground := Go.Ground.phase }, { on := 1, ground := Go.Ground.phase }, { on := 2, ground := Go.Ground.phase }, { on := 3, ground := Go.Ground.phase }, { on := 4, ground := Go.Ground.phase }, { on := 5, ground := Go.Ground.phase }, { on := 6, ground := Go.Ground.phase }], guard := none }) (v := ?_) rfl ?_ ?_
  rotate_left
  · (intro w hSw; (try dsimp only at hSw); (go_simp <;> with_reducible rfl))
  try simp only [Act.put, List.setIfInBounds_toArray, List.set_cons_zero, List.set_cons_succ]
  refine wpAnyH_done (by kernel_rfl) ?_ _
  go_wp2
  obtain ⟨r1, r2, r3⟩ := dc_end Ma.out (g := w.heap.size + 1) (h := w.heap.size + 1 + 1) (List.mem_cons_of_mem _ (List.mem_cons_of_mem _ (List.mem_cons_of_mem _ (List.mem_cons_of_mem _ (List.mem_cons_of_mem _ (List.mem_cons_of_mem _ (List.mem_cons_self ..))))))) (List.mem_cons_of_mem _ (List.mem_cons_of_mem _ (List.mem_cons_of_mem _ (List.mem_cons_of_mem _ (List.mem_cons_of_mem _ (List.mem_cons_self ..)))))) rfl rfl (by omega) (.int .i64 rk) (.int .u32 ri) (.int .i64 rs) (.int .i64 ru) (.int .i64 rc) (.int .u32 t) (.int .i64 3) (.int .i64 0) (.int .u32 0) (.int .i64 0) (.int .i64 0) (.int .i64 0)
  exact bodyPost_ret (results_c2t2 rfl _ _ (w.heap.size + 1) (w.heap.size + 1 + 1) _ _ rfl rfl r1 r2 rfl rfl) rfl ⟨by rw [HZ.out, HDy.out]; rfl, r3⟩
end
end Go.Proofs.YtjfhilignbeboabGreatDoor
