/- Texts joined: Cd7, An, Cy. -/
import Derived.Test.YtjfhilignbeboaaGreatDoorJqAl
import Derived.Test.YtjfhilignbeboaaGreatDoorJqAm
import Derived.WalkKit
import Derived.WalkSpells
import Derived.WalkLawsBesides
import Derived.Laws.CopyOwn
import Derived.Laws.Bits64b
import Derived.Laws.Bits64
import Derived.Deep.MidRow
import Derived.Deep.LoopGhost
import Derived.Deep.RegionHeld3
import Derived.Deep.DrawnRows
import Derived.Deep.QuietTactic
import Derived.Deep.RegionWith
import Derived.BigQuiet
import Derived.Deep.OwnRows
import Derived.Laws.AppendOwnNone
import Derived.Laws.BitsAllLaws
import Derived.Laws.OwnMore
import Derived.ArgAppend
import Derived.Laws.Rows
import Derived.Laws.ResultCell
import Derived.Test.YtjfhilignbeboaaGreatDoorJqAa
import Derived.Test.YtjfhilignbeboaaGreatDoorJqG
namespace Go.Proofs.YtjfhilignbeboaaGreatDoor
/- cases: Decide of the kind 7. -/
open Go.RowKit
attribute [local go_sem ↓] Go.wp_at_zero Go.wp_at_succ
attribute [local go_sem] Oper.semAt_some
section
variable {w : World} {p : Bp} {S : Sb} {K : Nat}
set_option maxRecDepth 20000 in
set_option maxHeartbeats 8000000 in
theorem decide_7 (h : BkAt w p S K) (ho : S.Ok) (room t i s u : Int) (hq : Rs.Rq.Ok ⟨7, t, i, s, u⟩) (hm : Rs.Rq.May ⟨7, t, i, s, u⟩) (hT : Rk.Tab w) : Calls Tryz.prog 9 #[.pointer (some ⟨p.b, 0, none⟩), .int .i64 room, .agg #[.int .i64 7, .int .u32 t, .int .u32 i, .int .i64 s, .int .i64 u]] w fun e w' => e = .returned (dcV (dec S room ⟨7, t, i, s, u⟩)) ∧ Mt w w' p S K [] := by
  have hch : isChg ⟨7, t, i, s, u⟩ := ⟨hm, show Rs.chg 7 = true by decide⟩
  obtain ⟨res, hres⟩ : ∃ res, res = dec S room ⟨7, t, i, s, u⟩ := ⟨_, rfl⟩
  rw [← hres]
  have hk : Rs.chk ⟨7, t, i, s, u⟩ = 0 := by unfold Rs.chk; rw [if_pos hm]
  have HN : Hid (∀ W, BkAt W p S K → Calls Tryz.prog 30 #[.pointer (some ⟨p.b, 0, none⟩)] W fun e w' => e = .returned (.bool false) ∧ Mt W w' p S K []) := fun W hW => isNone_no hW ho
  have HQ := hide (fun W => Rs.check_any ⟨7, t, i, s, u⟩ hq W)
  rw [hk] at HQ
  have HC : Hid (∀ W, Calls Tryz.prog 32 #[.int .i64 7] W fun e w' => e = .returned (.bool true) ∧ w' = W) := fun W => Rs.changes_any 7 W
  have HM := hide (Mt.three h (Rs.rqC ⟨7, t, i, s, u⟩) [Value.int .i64 0, .int .u32 0, .int .i64 0, .int .i64 0, .int .i64 0] [Value.int .u32 0, .int .i64 0, .int .i64 0, .int .u32 0, .int .i64 0, .int .i64 0, .int .i64 0] 25 28 31)
  have HT := hide hT
  obtain ⟨v0, e0⟩ : ∃ v, v = ttE ⟨7, t, i, s, u⟩ := ⟨_, rfl⟩
  obtain ⟨v1, e1⟩ : ∃ v, v = clE S ⟨7, t, i, s, u⟩ := ⟨_, rfl⟩
  obtain ⟨v2, e2⟩ : ∃ v, v = lgE room 5 := ⟨_, rfl⟩
  have HRf : Hid (refE S room ⟨7, t, i, s, u⟩ = fstE [v0, v1, v2]) := by rw [e0, e1, e2]; rfl
  have HRs : Hid ((∀ v, v ≠ 0 → refE S room ⟨7, t, i, s, u⟩ = v → res = ⟨zRc, rfY ⟨7, t, i, s, u⟩ v, false, 0⟩) ∧ (refE S room ⟨7, t, i, s, u⟩ = 0 → res = ⟨recQ S ⟨7, t, i, s, u⟩, rpY ⟨7, t, i, s, u⟩ (recQ S ⟨7, t, i, s, u⟩), true, 0⟩)) := ⟨fun v hv e => by rw [hres, dec_ref hch (by rw [e]; exact hv), e], fun e => by rw [hres, dec_yes hch e]⟩
  have H0 : Hid (∀ W, BkAt W p S K → Calls Tryz.prog 76 #[maV p.b room ⟨7, t, i, s, u⟩] W fun e w' => e = .returned (.int .i64 v0) ∧ Mt W w' p S K []) := fun W hW => by rw [e0]; exact (ttl_any p.b room ⟨7, t, i, s, u⟩ W).mono (fun e w' x => ⟨x.1, (Mt.start hW).then x.2⟩)
  have H1 : Hid (v0 = 0 → ∀ W, BkAt W p S K → Calls Tryz.prog 77 #[maV p.b room ⟨7, t, i, s, u⟩] W fun e w' => e = .returned (.int .i64 v1) ∧ Mt W w' p S K []) := fun hv W hW => by have x := ttE_zero (e0 ▸ hv); rw [e1]; exact (clock_ck hW room ⟨7, t, i, s, u⟩ ho.t0 ho.t1 x.1 x.2).mono (fun e w' x => ⟨x.1, (Mt.start hW).then x.2⟩)
  have H2 : Hid (∀ W c, BkAt W p S K → W.heap[c]? = some (.cells [Value.int .i64 5].toArray 26 (0, 0)) → Rk.Tab W → Calls Tryz.prog 139 #[maV p.b room ⟨7, t, i, s, u⟩, .pointer (some ⟨c, 0, none⟩)] W fun e w' => e = .returned (.int .i64 v2) ∧ Mt W w' p S K []) := fun W c hW hc hT => by rw [e2]; exact (log_ck p.b room ⟨7, t, i, s, u⟩ c 5 hc hT).mono (fun e w' x => ⟨x.1, (Mt.start hW).then x.2⟩)
  obtain ⟨R, hR⟩ : ∃ R, R = recQ S ⟨7, t, i, s, u⟩ := ⟨_, rfl⟩
  have HRc : Hid (v0 = 0 → ∀ W, BkAt W p S K → Calls Tryz.prog 86 #[maV p.b room ⟨7, t, i, s, u⟩] W fun e w' => e = .returned (Rk.rcV R) ∧ Mt W w' p S K []) := fun hv W hW => by have x := ttE_zero (e0 ▸ hv); rw [hR]; exact (tick_rec hW room ⟨7, t, i, s, u⟩ ho.t0 ho.t1 x.1 x.2).mono (fun e w' x => ⟨x.1, (Mt.start hW).then x.2⟩)
  have HRp := hide (fun W => reply_any ⟨7, t, i, s, u⟩ R W)
  have HRl := hide (fun W => rule_7 W)
  have HFu := hide (fun v W => refusal_any ⟨7, t, i, s, u⟩ v W)
  rw [← hR] at HRs
  clear h ho hq hm hT hch hk hres hR e0 e1 e2
  obtain ⟨rk, ri, rs, ru, rc⟩ := R
  unfold Rs.rqV at *
  unfold maV at *
  unfold Rs.rqC at HM
  unfold Rk.rcV at HRc HRp
  unfold rlV at HRl
  simp only at *
  have HDc : Hid (∀ v, dcV ⟨zRc, rfY ⟨7, t, i, s, u⟩ v, false, 0⟩ = .tuple #[.agg #[.int .i64 0, .int .u32 0, .int .i64 0, .int .i64 0, .int .i64 0], .agg #[.int .u32 t, .int .i64 7, .int .i64 v, .int .u32 0, .int .i64 0, .int .i64 0, .int .i64 0], .bool false, .int .i64 0]) := fun _ => rfl
  have HFv : Hid (∀ v W, Calls Tryz.prog 34 #[.agg #[.int .i64 7, .int .u32 t, .int .u32 i, .int .i64 s, .int .i64 u], .int .i64 v] W fun r w' => r = .returned (.agg #[.int .u32 t, .int .i64 7, .int .i64 v, .int .u32 0, .int .i64 0, .int .i64 0, .int .i64 0]) ∧ W.grownBy w' none) := HFu.out
  clear HFu
  generalize hb : p.b = b at *
  have HB := hide hb
  clear hb
  go_enter Tryz.func9, Tryz.ntmps9
  go_wp2_with fail
  refine (HN.out _ HM.out.bk).mono ?_
  rintro e w1 ⟨rfl, m1⟩
  have M1 := hide (HM.out.mt m1)
  clear m1 HM HN
  obtain ⟨c0, c1, c2, c3, c4⟩ := bx5 M1.out.b2
  go_wp2_with fail
  refine (HQ.out _).mono ?_
  rintro e w2 ⟨rfl, hg⟩
  have M2 := hide (M1.out.then hg)
  clear hg M1 HQ c0 c1 c2 c3 c4
  obtain ⟨c0, c1, c2, c3, c4⟩ := bx5 M2.out.b2
  go_wp2_with fail
  refine (HC.out _).mono ?_
  rintro e wx ⟨rfl, hwx⟩
  obtain rfl := hwx.symm
  have M3 := hide (M2.out.box [.pointer (some ⟨b, 0, none⟩), .int .i64 room, .int .i64 7, .int .u32 t, .int .u32 i, .int .i64 s, .int .i64 u] 83)
  clear hwx M2 HC
  obtain ⟨k0, k1, k2, k3, k4⟩ := bx5 M3.out.b3
  go_wp2_with fail
  generalize hX : w2.heap.size = X at *
  generalize World.alloc w2 _ = w3 at *
  clear hX
  refine (HRl.out _).mono ?_
  rintro e w4 ⟨g, c, rfl, hR4, hg4⟩
  have M5 := hide ((M3.out.rule hg4 hR4).box [.slice (some ⟨g, 0, none⟩) 3 3, .func (.func 86) #[] #[]] 87)
  clear M3 HRl hR4 hg4 c0 c1 c2 c3 c4 k0 k1 k2 k3 k4
  obtain ⟨y0, y1⟩ := bx2 M5.out.b0
  go_wp2_with fail
  generalize hY : w4.heap.size = Y at *
  generalize World.alloc w4 _ = w5 at *
  clear hY y0 y1
  refine wp_loop_rounds 4 ?_
  rw [rounds_succ]
  obtain ⟨a0, a1, a2, a3, a4, a5, a6⟩ := bx7 M5.out.b3
  have gj : w5.cell? ⟨g, 0, none⟩ = some (.func (.func 76) #[] #[]) := by have := cell_row M5.out.b1 0; simpa [fnV, lgV] using this
  go_wp2_with fail
  refine (H0.out _ M5.out.bk).mono ?_
  rintro e u0 ⟨rfl, mj⟩
  have N0 := hide (M5.out.mt mj)
  clear mj M5 a0 a1 a2 a3 a4 a5 a6 gj
  by_cases hz : v0 = 0
  rotate_left
  · have f1 : (v0 != 0) = true := by simpa using hz
    have f2 : (v0 == 0) = false := by simpa using hz
    have f3 : decide (v0 = 0) = false := by simpa using hz
    have HZ : Hid (res = ⟨zRc, rfY ⟨7, t, i, s, u⟩ v0, false, 0⟩) := HRs.out.1 v0 hz (by rw [HRf.out]; simp [fstE, hz])
    clear hz HRs HRf
    obtain ⟨c0, c1, c2, c3, c4⟩ := bx5 N0.out.b6
    go_wp2_with fail
    refine (HFv.out _ _).mono ?_
    rintro e w7 ⟨rfl, hg7⟩
    have M7 := hide (N0.out.then hg7)
    clear hg7 N0 c0 c1 c2 c3 c4
    obtain ⟨⟨d0, d1, d2, d3, d4⟩, d5⟩ := bxf5 M7.out.b5
    obtain ⟨⟨x0, x1, x2, x3, x4, x5, x6⟩, x7⟩ := bxf7 M7.out.b4
    go_wp2
    obtain ⟨r1, r2, r3⟩ := dc_end M7.out (g := w.heap.size + 1) (h := w.heap.size + 1 + 1) (List.mem_cons_of_mem _ (List.mem_cons_of_mem _ (List.mem_cons_of_mem _ (List.mem_cons_of_mem _ (List.mem_cons_of_mem _ (List.mem_cons_self ..)))))) (List.mem_cons_of_mem _ (List.mem_cons_of_mem _ (List.mem_cons_of_mem _ (List.mem_cons_of_mem _ (List.mem_cons_self ..))))) rfl rfl (by omega) (.int .i64 0) (.int .u32 0) (.int .i64 0) (.int .i64 0) (.int .i64 0) (.int .u32 t) (.int .i64 7) (.int .i64 v0) (.int .u32 0) (.int .i64 0) (.int .i64 0) (.int .i64 0)
    exact bodyPost_ret (results_c2t2 rfl _ _ (w.heap.size + 1) (w.heap.size + 1 + 1) _ _ rfl rfl r1 r2 rfl rfl) rfl ⟨by rw [HZ.out, HDc.out]; rfl, r3⟩
  subst hz
  go_wp2_with fail
  rw [rounds_succ]
  obtain ⟨a0, a1, a2, a3, a4, a5, a6⟩ := bx7 N0.out.b3
  have gj : u0.cell? ⟨g, 1, none⟩ = some (.func (.func 77) #[] #[]) := by have := cell_row N0.out.b1 1; simpa [fnV, lgV] using this
  go_wp2_with fail
  refine (H1.out (by first | exact True.intro | rfl) _ N0.out.bk).mono ?_
  rintro e u1 ⟨rfl, mj⟩
  have N1 := hide (N0.out.mt mj)
  clear mj N0 a0 a1 a2 a3 a4 a5 a6 gj
  by_cases hz : v1 = 0
  rotate_left
  · have f1 : (v1 != 0) = true := by simpa using hz
    have f2 : (v1 == 0) = false := by simpa using hz
    have f3 : decide (v1 = 0) = false := by simpa using hz
    have HZ : Hid (res = ⟨zRc, rfY ⟨7, t, i, s, u⟩ v1, false, 0⟩) := HRs.out.1 v1 hz (by rw [HRf.out]; simp [fstE, hz])
    clear hz HRs HRf
    obtain ⟨c0, c1, c2, c3, c4⟩ := bx5 N1.out.b6
    go_wp2_with fail
    refine (HFv.out _ _).mono ?_
    rintro e w7 ⟨rfl, hg7⟩
    have M7 := hide (N1.out.then hg7)
    clear hg7 N1 c0 c1 c2 c3 c4
    obtain ⟨⟨d0, d1, d2, d3, d4⟩, d5⟩ := bxf5 M7.out.b5
    obtain ⟨⟨x0, x1, x2, x3, x4, x5, x6⟩, x7⟩ := bxf7 M7.out.b4
    go_wp2
    obtain ⟨r1, r2, r3⟩ := dc_end M7.out (g := w.heap.size + 1) (h := w.heap.size + 1 + 1) (List.mem_cons_of_mem _ (List.mem_cons_of_mem _ (List.mem_cons_of_mem _ (List.mem_cons_of_mem _ (List.mem_cons_of_mem _ (List.mem_cons_self ..)))))) (List.mem_cons_of_mem _ (List.mem_cons_of_mem _ (List.mem_cons_of_mem _ (List.mem_cons_of_mem _ (List.mem_cons_self ..))))) rfl rfl (by omega) (.int .i64 0) (.int .u32 0) (.int .i64 0) (.int .i64 0) (.int .i64 0) (.int .u32 t) (.int .i64 7) (.int .i64 v1) (.int .u32 0) (.int .i64 0) (.int .i64 0) (.int .i64 0)
    exact bodyPost_ret (results_c2t2 rfl _ _ (w.heap.size + 1) (w.heap.size + 1 + 1) _ _ rfl rfl r1 r2 rfl rfl) rfl ⟨by rw [HZ.out, HDc.out]; rfl, r3⟩
  subst hz
  go_wp2_with fail
  rw [rounds_succ]
  obtain ⟨a0, a1, a2, a3, a4, a5, a6⟩ := bx7 N1.out.b3
  have gj : u1.cell? ⟨g, 2, none⟩ = some (.func (.func 139) #[] #[.pointer (some ⟨c, 0, none⟩)]) := by have := cell_row N1.out.b1 2; simpa [fnV, lgV] using this
  go_wp2_with fail
  refine (H2.out _ c N1.out.bk N1.out.b2 (N1.out.tab HT.out)).mono ?_
  rintro e u2 ⟨rfl, mj⟩
  have N2 := hide (N1.out.mt mj)
  clear mj N1 a0 a1 a2 a3 a4 a5 a6 gj
  by_cases hz : v2 = 0
  rotate_left
  · have f1 : (v2 != 0) = true := by simpa using hz
    have f2 : (v2 == 0) = false := by simpa using hz
    have f3 : decide (v2 = 0) = false := by simpa using hz
    have HZ : Hid (res = ⟨zRc, rfY ⟨7, t, i, s, u⟩ v2, false, 0⟩) := HRs.out.1 v2 hz (by rw [HRf.out]; simp [fstE, hz])
    clear hz HRs HRf
    obtain ⟨c0, c1, c2, c3, c4⟩ := bx5 N2.out.b6
    go_wp2_with fail
    refine (HFv.out _ _).mono ?_
    rintro e w7 ⟨rfl, hg7⟩
    have M7 := hide (N2.out.then hg7)
    clear hg7 N2 c0 c1 c2 c3 c4
    obtain ⟨⟨d0, d1, d2, d3, d4⟩, d5⟩ := bxf5 M7.out.b5
    obtain ⟨⟨x0, x1, x2, x3, x4, x5, x6⟩, x7⟩ := bxf7 M7.out.b4
    go_wp2
    obtain ⟨r1, r2, r3⟩ := dc_end M7.out (g := w.heap.size + 1) (h := w.heap.size + 1 + 1) (List.mem_cons_of_mem _ (List.mem_cons_of_mem _ (List.mem_cons_of_mem _ (List.mem_cons_of_mem _ (List.mem_cons_of_mem _ (List.mem_cons_self ..)))))) (List.mem_cons_of_mem _ (List.mem_cons_of_mem _ (List.mem_cons_of_mem _ (List.mem_cons_of_mem _ (List.mem_cons_self ..))))) rfl rfl (by omega) (.int .i64 0) (.int .u32 0) (.int .i64 0) (.int .i64 0) (.int .i64 0) (.int .u32 t) (.int .i64 7) (.int .i64 v2) (.int .u32 0) (.int .i64 0) (.int .i64 0) (.int .i64 0)
    exact bodyPost_ret (results_c2t2 rfl _ _ (w.heap.size + 1) (w.heap.size + 1 + 1) _ _ rfl rfl r1 r2 rfl rfl) rfl ⟨by rw [HZ.out, HDc.out]; rfl, r3⟩
  subst hz
  go_wp2_with fail
  rw [rounds_succ]
  obtain ⟨a0, a1, a2, a3, a4, a5, a6⟩ := bx7 N2.out.b3
  obtain ⟨y0, y1⟩ := bx2 N2.out.b0
  go_wp2_with fail
  refine (HRc.out (by first | exact True.intro | rfl) _ N2.out.bk).mono ?_
  rintro e w8 ⟨rfl, m8⟩
  have HZ := hide (HRs.out.2 (by rw [HRf.out]; simp [fstE]))
  have M8 := hide (N2.out.mt m8)
  have HL5 : Hid (w.heap.size + 1 + 1 < w8.heap.size ∧ w.heap.size + 1 < w8.heap.size) := ⟨row_lt M8.out.b4, row_lt M8.out.b5⟩
  have M9 := hide (M8.out.box [.int .i64 rk, .int .u32 ri, .int .i64 rs, .int .i64 ru, .int .i64 rc] 28)
  clear m8 N2 M8 a0 a1 a2 a3 a4 a5 a6 y0 y1 HRs HRf HRc
  go_wp2
  generalize hZ : w8.heap.size = Z at *
  generalize World.alloc w8 _ = w9 at *
  clear hZ
  have HSo : Hid (∀ W, w9.grownBy W none → (W.cell? ⟨Z, 0, none⟩ = some (.int .i64 rk) ∧ W.cell? ⟨Z, 1, none⟩ = some (.int .u32 ri) ∧ W.cell? ⟨Z, 2, none⟩ = some (.int .i64 rs) ∧ W.cell? ⟨Z, 3, none⟩ = some (.int .i64 ru) ∧ W.cell? ⟨Z, 4, none⟩ = some (.int .i64 rc) ∧ W.cell? ⟨w.heap.size, 0, none⟩ = some (.int .i64 7) ∧ W.cell? ⟨w.heap.size, 1, none⟩ = some (.int .u32 t) ∧ W.cell? ⟨w.heap.size, 2, none⟩ = some (.int .u32 i) ∧ W.cell? ⟨w.heap.size, 3, none⟩ = some (.int .i64 s) ∧ W.cell? ⟨w.heap.size, 4, none⟩ = some (.int .i64 u))) := fun W gW => s10_of (box_to M9.out.b0 gW) (box_to M9.out.b7 gW)
  have HRv : Hid (∀ W, Calls Tryz.prog 19 #[.agg #[.int .i64 7, .int .u32 t, .int .u32 i, .int .i64 s, .int .i64 u], .agg #[.int .i64 rk, .int .u32 ri, .int .i64 rs, .int .i64 ru, .int .i64 rc]] W fun e w' => e = .returned (.agg #[.int .u32 t, .int .i64 7, .int .i64 0, .int .u32 0, .int .i64 0, .int .i64 rc, .int .i64 0]) ∧ W.grownBy w' none) := HRp.out
  have hn1 : Hid (w.heap.size + 1 ≠ Z) := fun e => by have := HL5.out.2; omega
  have hn2 : Hid (w.heap.size + 1 ≠ w.heap.size) := fun e => by omega
  have hn3 : Hid (w.heap.size + 1 + 1 ≠ Z) := fun e => by have := HL5.out.1; omega
  have hn4 : Hid (w.heap.size + 1 + 1 ≠ w.heap.size) := fun e => by omega
  have HDy : Hid (dcV ⟨⟨rk, ri, rs, ru, rc⟩, rpY ⟨7, t, i, s, u⟩ ⟨rk, ri, rs, ru, rc⟩, true, 0⟩ = .tuple #[.agg #[.int .i64 rk, .int .u32 ri, .int .i64 rs, .int .i64 ru, .int .i64 rc], .agg #[.int .u32 t, .int .i64 7, .int .i64 0, .int .u32 0, .int .i64 0, .int .i64 rc, .int .i64 0], .bool true, .int .i64 0]) := by simp [Hid, dcV, rpY, Rk.rcV, Rt.ryV]
  clear HRp
  refine wp_region_held_drew (S := (fun W => (W.cell? ⟨Z, 0, none⟩ = some (.int .i64 rk) ∧ W.cell? ⟨Z, 1, none⟩ = some (.int .u32 ri) ∧ W.cell? ⟨Z, 2, none⟩ = some (.int .i64 rs) ∧ W.cell? ⟨Z, 3, none⟩ = some (.int .i64 ru) ∧ W.cell? ⟨Z, 4, none⟩ = some (.int .i64 rc) ∧ W.cell? ⟨w.heap.size, 0, none⟩ = some (.int .i64 7) ∧ W.cell? ⟨w.heap.size, 1, none⟩ = some (.int .u32 t) ∧ W.cell? ⟨w.heap.size, 2, none⟩ = some (.int .u32 i) ∧ W.cell? ⟨w.heap.size, 3, none⟩ = some (.int .i64 s) ∧ W.cell? ⟨w.heap.size, 4, none⟩ = some (.int .i64 u)))) (by kernel_rfl) ?_ (fun hHeld => ?_)
  · (exact HSo.out _ (grown_drew _ none))
  refine tkH (i := 0) (v := ?_) rfl ?_ ?_
  rotate_left
  · (intro w hSw; (try dsimp only at hSw); (go_simp <;> with_reducible rfl))
  try simp only [Act.put, List.setIfInBounds_toArray]
  refine tkH (i := 1) (v := ?_) rfl ?_ ?_
  rotate_left
  · (intro w hSw; (try dsimp only at hSw); (go_simp <;> with_reducible rfl))
  try simp only [Act.put]
  refine tkH (i := 2) (v := ?_) rfl ?_ ?_
  rotate_left
  · (intro w hSw; (try dsimp only at hSw); (go_simp <;> with_reducible rfl))
  try simp only [Act.put]
  refine rdH (i := 3) rfl (fun K hK => ?_)
  go_simp
  refine (HRv.out _).mono ?_; rintro e wa ⟨rfl, hga⟩; have Ga := hide (grown_trans (grown_drew w9 none) hga); have hJ := HSo.out _ Ga.out; have Ma := hide (M9.out.then Ga.out); obtain ⟨⟨d0, d1, d2, d3, d4⟩, d5⟩ := bxf5 Ma.out.b6; obtain ⟨⟨x0, x1, x2, x3, x4, x5, x6⟩, x7⟩ := bxf7 Ma.out.b5
  go_wp2_with fail
  refine hK.out _ _ ?_ (fun hHeld => ?_)
  · ((try dsimp only); first | with_reducible assumption | with_reducible exact s10_set5 hJ hn1.out hn2.out _ _ _ _ _ | with_reducible exact s10_set7 (s10_set5 hJ hn1.out hn2.out _ _ _ _ _) hn3.out hn4.out _ _ _ _ _ _ _)
  clear hK K
  try simp only [Act.put, List.setIfInBounds_toArray, List.set_cons_zero, List.set_cons_succ]
  refine rdH (i := 4) rfl (fun K hK => ?_)
  go_simp
  refine hK.out _ _ ?_ (fun hHeld => ?_)
  · ((try dsimp only); first | with_reducible assumption | with_reducible exact s10_set5 hJ hn1.out hn2.out _ _ _ _ _ | with_reducible exact s10_set7 (s10_set5 hJ hn1.out hn2.out _ _ _ _ _) hn3.out hn4.out _ _ _ _ _ _ _)
  clear hK K
  try simp only [Act.put, List.setIfInBounds_toArray, List.set_cons_zero, List.set_cons_succ]
  refine rdH (i := 5) rfl (fun K hK => ?_)
  go_simp
  refine hK.out _ _ ?_ (fun hHeld => ?_)
  · ((try dsimp only); first | with_reducible assumption | with_reducible exact s10_set5 hJ hn1.out hn2.out _ _ _ _ _ | with_reducible exact s10_set7 (s10_set5 hJ hn1.out hn2.out _ _ _ _ _) hn3.out hn4.out _ _ _ _ _ _ _)
  clear hK K
  try simp only [Act.put, List.setIfInBounds_toArray, List.set_cons_zero, List.set_cons_succ]
  refine tkH (i := 6) (oi := { dst := some 8, op := Go.Op.assign (Go.Operand.const (Go.Value.bool true)), type := 4, pos := "cases.go:51", after := #[{ on := 5, ground := Go.Ground.chain }, { on := 0, ground := Go.Ground.phase }, { on := 1, ground := Go.Ground.phase }, { on := 2, ground := Go.Ground.phase }, { on := 3, ground := Go.Ground.phase }, { on := 4, ground := Go.Ground.phase }, { on := 5, ground := Go.Ground.phase }], guard := none }) (v := ?_) rfl ?_ ?_
  rotate_left
  · (intro w hSw; (try dsimp only at hSw); (go_simp <;> with_reducible rfl))
  try simp only [Act.put, List.setIfInBounds_toArray, List.set_cons_zero, List.set_cons_succ]
  refine tkH (i := 7) (oi := { dst := some 9, op := Go.Op.assign (Go.Operand.const (Go.Value.int Go.IntKind.i64 0)), type := 29, pos := "cases.go:51", after := #[{ on := 6, ground := Go.Ground.chain }, { on := 0, ground := Go.Ground.phase }, { on := 1, ground := Go.Ground.phase }, { on := 2, ground := Go.Ground.phase }, { on := 3, ground := Go.Ground.phase }, { on := 4, ground := Go.Ground.phase }, { on := 5, ground := Go.Ground.phase }, { on := 6, ground := Go.Ground.phase }], guard := none }) (v := ?_) rfl ?_ ?_
  rotate_left
  · (intro w hSw; (try dsimp only at hSw); (go_simp <;> with_reducible rfl))
  try simp only [Act.put, List.setIfInBounds_toArray, List.set_cons_zero, List.set_cons_succ]
  refine wpAnyH_done (by kernel_rfl) ?_ _
  go_wp2
  obtain ⟨r1, r2, r3⟩ := dc_end Ma.out (g := w.heap.size + 1) (h := w.heap.size + 1 + 1) (List.mem_cons_of_mem _ (List.mem_cons_of_mem _ (List.mem_cons_of_mem _ (List.mem_cons_of_mem _ (List.mem_cons_of_mem _ (List.mem_cons_of_mem _ (List.mem_cons_self ..))))))) (List.mem_cons_of_mem _ (List.mem_cons_of_mem _ (List.mem_cons_of_mem _ (List.mem_cons_of_mem _ (List.mem_cons_of_mem _ (List.mem_cons_self ..)))))) rfl rfl (by omega) (.int .i64 rk) (.int .u32 ri) (.int .i64 rs) (.int .i64 ru) (.int .i64 rc) (.int .u32 t) (.int .i64 7) (.int .i64 0) (.int .u32 0) (.int .i64 0) (.int .i64 rc) (.int .i64 0)
  exact bodyPost_ret (results_c2t2 rfl _ _ (w.heap.size + 1) (w.heap.size + 1 + 1) _ _ rfl rfl r1 r2 rfl rfl) rfl ⟨by rw [HZ.out, HDy.out]; rfl, r3⟩
end
end Go.Proofs.YtjfhilignbeboaaGreatDoor
namespace Go.Proofs.YtjfhilignbeboaaGreatDoor
/- cases: Answer. -/
open Go.RowKit
attribute [local go_sem ↓] Go.wp_at_zero Go.wp_at_succ
attribute [local go_sem] Oper.semAt_some
def anV (a : Rt.Ry × Int) : Value := .tuple #[Rt.ryV a.1, .int .i64 a.2]
theorem results_c1t1 {fn : Func} {p u : Tmp} (h : fn.results = #[.cell p 31, .tmp u]) (tmps : Array Value) (w : World) (g : Nat) (cs : Array Value) (hp : tmps.getD p undef = .pointer (some ⟨g, 0, none⟩)) (hg : w.heap[g]? = some (.cells cs 31 (0, 0))) (h7 : cs.size = 7) :
    (results fn tmps).run Tryz.prog w = .ok (.tuple #[.agg cs, tmps.getD u undef]) w := by
  have hp' : tmps[p]?.getD undef = .pointer (some ⟨g, 0, none⟩) := by simpa using hp
  have i7 : (Tryz.prog.info? 31).map (·.size) = some cs.size := by rw [h7]; kernel_rfl
  simp [results, h, hp', asAddr, run_loadVar_row w g 31 31 cs (0, 0) _ hg Tryz.underlying31 rfl i7, Result.andThen]
theorem cell_set1 {W : World} {g o h j : Nat} {v x : Value} (hh : W.cell? ⟨g, o, none⟩ = some v) (hne : h ≠ g) : (W.setCell ⟨h, j, none⟩ x).cell? ⟨g, o, none⟩ = some v := (grown_setCell W h j x).cell hh (fun e => hne (Option.some.inj e).symm)
section
variable {w W : World} {p : Bp} {S : Sb} {K : Nat} {Bs : List (Nat × List Value × TypeId)}
theorem Mt.two (h : BkAt w p S K) (a b : List Value) (s t : TypeId) : Mt w ((w.alloc (.cells a.toArray s)).alloc (.cells b.toArray t)) p S K [(w.heap.size + 1, b, t), (w.heap.size, a, s)] := by
  have m0 := ((Mt.start h).box a s).box b t
  rw [show (w.alloc (.cells a.toArray s)).heap.size = w.heap.size + 1 from by show (w.heap.push _).size = _; simp] at m0
  exact m0
theorem Mt.put1 {X : Nat} {cs : List Value} {ty : TypeId} (h : Mt w W p S K ((X, cs, ty) :: Bs)) (hne : ∀ y ∈ Bs, y.1 ≠ X) (j : Nat) (v : Value) : Mt w (W.setCell ⟨X, j, none⟩ v) p S K ((X, cs.set j v, ty) :: Bs) := by
  obtain ⟨h1, h2, h3⟩ := h.bx _ (List.mem_cons_self ..)
  have m := h.wrote (grown_setCell W X j v) h2 h3
  refine ⟨m.bk, m.st, fun y hy => ?_⟩
  rcases List.mem_cons.1 hy with rfl | hy
  · exact ⟨row_setCell h1 j v, h2, h3⟩
  · obtain ⟨k1, k2, k3⟩ := h.bx y (List.mem_cons_of_mem _ hy)
    exact ⟨((grown_setCell W X j v).block _ (row_lt k1) (fun e => hne y hy (Option.some.inj e))).trans k1, k2, k3⟩
theorem an_end {g : Nat} {l7 : List Value} (M : Mt w W p S K Bs) (m7 : (g, l7, 31) ∈ Bs) (hl7 : l7.length = 7) (s t u v x y z : Value) :
    (((((((W.setCell ⟨g, 0, none⟩ s).setCell ⟨g, 1, none⟩ t).setCell ⟨g, 2, none⟩ u).setCell ⟨g, 3, none⟩ v).setCell ⟨g, 4, none⟩ x).setCell ⟨g, 5, none⟩ y).setCell ⟨g, 6, none⟩ z).heap[g]? = some (.cells [s, t, u, v, x, y, z].toArray 31 (0, 0)) ∧ Mt w (((((((W.setCell ⟨g, 0, none⟩ s).setCell ⟨g, 1, none⟩ t).setCell ⟨g, 2, none⟩ u).setCell ⟨g, 3, none⟩ v).setCell ⟨g, 4, none⟩ x).setCell ⟨g, 5, none⟩ y).setCell ⟨g, 6, none⟩ z) p S K [] := by
  obtain ⟨b7, n7, o7⟩ := M.bx _ m7
  obtain ⟨r3, r4⟩ := set7w W hl7 b7 s t u v x y z
  exact ⟨r3, M.wrote r4 n7 o7⟩
set_option maxHeartbeats 4000000 in
theorem answer_may (h : BkAt w p S K) (ho : S.Ok) (q : Rs.Rq) (hq : q.Ok) (hm : ¬ q.May) : Calls Tryz.prog 10 #[.pointer (some ⟨p.b, 0, none⟩), Rs.rqV q] w fun e w' => e = .returned (anV (Rt.zRy, 200)) ∧ Mt w w' p S K [] := by
  have HN : Hid (∀ W, BkAt W p S K → Calls Tryz.prog 30 #[.pointer (some ⟨p.b, 0, none⟩)] W fun e w' => e = .returned (.bool false) ∧ Mt W w' p S K []) := fun W hW => isNone_no hW ho
  have HQ := hide (fun W => Rs.check_any q hq W)
  have HM := hide (Mt.two h (Rs.rqC q) [Value.int .u32 0, .int .i64 0, .int .i64 0, .int .u32 0, .int .i64 0, .int .i64 0, .int .i64 0] 25 31)
  have hk : Rs.chk q = 200 := by unfold Rs.chk; rw [if_neg hm]
  rw [hk] at HQ
  clear hk hm h ho hq
  unfold Rs.rqV at *
  unfold Rs.rqC at HM
  unfold anV Rt.ryV Rt.zRy
  simp only
  generalize hb : p.b = b at *
  have HB := hide hb
  clear hb
  go_enter Tryz.func10, Tryz.ntmps10
  go_wp2_with fail
  refine (HN.out _ HM.out.bk).mono ?_
  rintro e w1 ⟨rfl, m1⟩
  have M1 := hide (HM.out.mt m1)
  clear m1 HM HN
  obtain ⟨c0, c1, c2, c3, c4⟩ := bx5 M1.out.b1
  go_wp2_with fail
  refine (HQ.out _).mono ?_
  rintro e w2 ⟨rfl, hg⟩
  have M2 := hide (M1.out.then hg)
  clear hg M1 HQ c0 c1 c2 c3 c4
  obtain ⟨⟨x0, x1, x2, x3, x4, x5, x6⟩, x7⟩ := bxf7 M2.out.b0
  go_wp2
  obtain ⟨r1, r3⟩ := an_end M2.out (g := w.heap.size + 1) (List.mem_cons_self ..) rfl (.int .u32 0) (.int .i64 0) (.int .i64 0) (.int .u32 0) (.int .i64 0) (.int .i64 0) (.int .i64 0)
  exact bodyPost_ret (results_c1t1 rfl _ _ (w.heap.size + 1) _ rfl r1 rfl) rfl ⟨rfl, r3⟩
set_option maxHeartbeats 4000000 in
theorem answer_kind (h : BkAt w p S K) (ho : S.Ok) (q : Rs.Rq) (hq : q.Ok) (hm : q.May) (h5 : q.k ≠ 5) (h6 : q.k ≠ 6) (h8 : q.k ≠ 10) : Calls Tryz.prog 10 #[.pointer (some ⟨p.b, 0, none⟩), Rs.rqV q] w fun e w' => e = .returned (anV (Rt.zRy, 200)) ∧ Mt w w' p S K [] := by
  have HN : Hid (∀ W, BkAt W p S K → Calls Tryz.prog 30 #[.pointer (some ⟨p.b, 0, none⟩)] W fun e w' => e = .returned (.bool false) ∧ Mt W w' p S K []) := fun W hW => isNone_no hW ho
  have HQ := hide (fun W => Rs.check_any q hq W)
  have HM := hide (Mt.two h (Rs.rqC q) [Value.int .u32 0, .int .i64 0, .int .i64 0, .int .u32 0, .int .i64 0, .int .i64 0, .int .i64 0] 25 31)
  have hk : Rs.chk q = 0 := by unfold Rs.chk; rw [if_pos hm]
  rw [hk] at HQ
  have f5 : (q.k == 5) = false := by simpa using h5
  have g5 : decide (q.k = 5) = false := by simpa using h5
  have f6 : (q.k == 6) = false := by simpa using h6
  have g6 : decide (q.k = 6) = false := by simpa using h6
  have f8 : (q.k == 10) = false := by simpa using h8
  have g8 : decide (q.k = 10) = false := by simpa using h8
  clear hk hm h ho hq h5 h6 h8
  unfold Rs.rqV at *
  unfold Rs.rqC at HM
  unfold anV Rt.ryV Rt.zRy
  simp only
  generalize hb : p.b = b at *
  have HB := hide hb
  clear hb
  go_enter Tryz.func10, Tryz.ntmps10
  go_wp2_with fail
  refine (HN.out _ HM.out.bk).mono ?_
  rintro e w1 ⟨rfl, m1⟩
  have M1 := hide (HM.out.mt m1)
  clear m1 HM HN
  obtain ⟨c0, c1, c2, c3, c4⟩ := bx5 M1.out.b1
  go_wp2_with fail
  refine (HQ.out _).mono ?_
  rintro e w2 ⟨rfl, hg⟩
  have M2 := hide (M1.out.then hg)
  clear hg M1 HQ c0 c1 c2 c3 c4
  obtain ⟨c0, c1, c2, c3, c4⟩ := bx5 M2.out.b1
  have M3 := hide (M2.out.box [.int .u32 q.t, .int .i64 q.k, .int .i64 0, .int .u32 0, .int .i64 0, .int .i64 0, .int .i64 0] 31)
  obtain ⟨k0, k1, k2, k3, k4⟩ := bx5 M3.out.b2
  obtain ⟨⟨x0, x1, x2, x3, x4, x5, x6⟩, x7⟩ := bxf7 M3.out.b1
  go_wp2
  obtain ⟨r1, r3⟩ := an_end M3.out (g := w.heap.size + 1) (List.mem_cons_of_mem _ (List.mem_cons_self ..)) rfl (.int .u32 0) (.int .i64 0) (.int .i64 0) (.int .u32 0) (.int .i64 0) (.int .i64 0) (.int .i64 0)
  exact bodyPost_ret (results_c1t1 rfl _ _ (w.heap.size + 1) _ rfl r1 rfl) rfl ⟨rfl, r3⟩
set_option maxRecDepth 20000 in
set_option maxHeartbeats 8000000 in
theorem answer_5 (h : BkAt w p S K) (ho : S.Ok) (t i s u : Int) (hq : Rs.Rq.Ok ⟨5, t, i, s, u⟩) (hm : Rs.Rq.May ⟨5, t, i, s, u⟩) : Calls Tryz.prog 10 #[.pointer (some ⟨p.b, 0, none⟩), .agg #[.int .i64 5, .int .u32 t, .int .u32 i, .int .i64 s, .int .i64 u]] w fun e w' => e = .returned (anV (ans S ⟨5, t, i, s, u⟩)) ∧ Mt w w' p S K [] := by
  obtain ⟨res, hres⟩ : ∃ res, res = ans S ⟨5, t, i, s, u⟩ := ⟨_, rfl⟩
  rw [← hres]
  have hrs : res = (ansY S ⟨5, t, i, s, u⟩, 0) := by rw [hres]; unfold ans; rw [if_pos ⟨hm, by simp⟩]
  have hk : Rs.chk ⟨5, t, i, s, u⟩ = 0 := by unfold Rs.chk; rw [if_pos hm]
  have HN : Hid (∀ W, BkAt W p S K → Calls Tryz.prog 30 #[.pointer (some ⟨p.b, 0, none⟩)] W fun e w' => e = .returned (.bool false) ∧ Mt W w' p S K []) := fun W hW => isNone_no hW ho
  have HQ := hide (fun W => Rs.check_any ⟨5, t, i, s, u⟩ hq W)
  have HM := hide (Mt.two h (Rs.rqC ⟨5, t, i, s, u⟩) [Value.int .u32 0, .int .i64 0, .int .i64 0, .int .u32 0, .int .i64 0, .int .i64 0, .int .i64 0] 25 31)
  rw [hk] at HQ
  obtain ⟨n, hn⟩ := Int.eq_ofNat_of_zero_le hq.i0
  simp only at hn
  have HGt : Hid (∀ W, BkAt W p S K → Calls Tryz.prog 25 #[.pointer (some ⟨p.b, 0, none⟩), .int .u32 i] W fun e w' => e = .returned (.tuple #[bgV ((fnd S.L n).getD ⟨0, 0, 0⟩), .int .i64 (if (fnd S.L n).isSome then 0 else 171)]) ∧ Mt W w' p S K []) := fun W hW => by
    have := get_any hW ho.wk n (by have := hq.i1; simp only at this; omega)
    rw [← hn] at this
    exact this.mono (fun e w' x => ⟨x.1, (Mt.start hW).go x.2.2 x.2.1⟩)
  have HZ : Hid (res = (⟨t, 5, (if (fnd S.L n).isSome then 0 else 171), 0, (((fnd S.L n).getD ⟨0, 0, 0⟩).s : Int), ((fnd S.L n).getD ⟨0, 0, 0⟩).u, 0⟩, 0)) := by rw [Hid, hrs, hn]; rfl
  clear h ho hq hm hres hrs hk hn
  generalize (fnd S.L n).getD ⟨0, 0, 0⟩ = x at *
  generalize (if (fnd S.L n).isSome = true then (0 : Int) else 171) = er at *
  obtain ⟨xi, xs, xu⟩ := x
  unfold bgV at HGt
  unfold Rs.rqV at *
  unfold Rs.rqC at HM
  simp only at *
  generalize hb : p.b = b at *
  have HB := hide hb
  clear hb
  go_enter Tryz.func10, Tryz.ntmps10
  go_wp2_with fail
  refine (HN.out _ HM.out.bk).mono ?_
  rintro e w1 ⟨rfl, m1⟩
  have M1 := hide (HM.out.mt m1)
  clear m1 HM HN
  obtain ⟨c0, c1, c2, c3, c4⟩ := bx5 M1.out.b1
  go_wp2_with fail
  refine (HQ.out _).mono ?_
  rintro e w2 ⟨rfl, hg⟩
  have M2 := hide (M1.out.then hg)
  clear hg M1 HQ c0 c1 c2 c3 c4
  obtain ⟨c0, c1, c2, c3, c4⟩ := bx5 M2.out.b1
  have HNe : Hid (w.heap.size + 1 < w2.heap.size) := row_lt M2.out.b0
  have M3 := hide (M2.out.box [.int .u32 t, .int .i64 5, .int .i64 0, .int .u32 0, .int .i64 0, .int .i64 0, .int .i64 0] 31)
  obtain ⟨k0, k1, k2, k3, k4⟩ := bx5 M3.out.b2
  go_wp2_with fail
  generalize hY : w2.heap.size = Y at *
  generalize World.alloc w2 _ = w3 at *
  clear hY M2 c0 c1 c2 c3 c4
  refine (HGt.out _ M3.out.bk).mono ?_
  rintro e w4 ⟨rfl, m4⟩
  have M4 := hide (M3.out.mt m4)
  clear m4 M3 HGt k0 k1 k2 k3 k4
  have HNz : Hid (Y < w4.heap.size) := row_lt M4.out.b0
  have M5 := hide (M4.out.box [.int .u32 (xi : Int), .int .i64 (xs : Int), .int .i64 xu] 51)
  clear M4
  go_wp2
  generalize hZb : w4.heap.size = Z at *
  generalize World.alloc w4 _ = w5 at *
  clear hZb
  have n1 : Hid (Y ≠ Z) := fun e => by have := HNz.out; omega
  have M6 := hide (M5.out.then (grown_drew w5 none))
  obtain ⟨z0, z1, z2, z3⟩ := box3 M6.out.b0
  have hS0 : w5.drew.cell? ⟨Z, 1, none⟩ = some (.int .i64 (xs : Int)) ∧ w5.drew.cell? ⟨Z, 2, none⟩ = some (.int .i64 xu) := ⟨z1, z2⟩
  obtain ⟨⟨x0, x1, x2, x3, x4, x5, x6⟩, x7⟩ := bxf7 M6.out.b1
  clear M5 z0 z1 z2 z3
  refine wp_region_held_drew (S := (fun W => W.cell? ⟨Z, 1, none⟩ = some (.int .i64 (xs : Int)) ∧ W.cell? ⟨Z, 2, none⟩ = some (.int .i64 xu))) (by kernel_rfl) ?_ (fun hHeld => ?_)
  · (exact hS0)
  generalize World.drew w5 = wd at *
  refine tkH (i := 0) (v := ?_) rfl ?_ ?_
  rotate_left
  · (intro w hSw; (try dsimp only at hSw); (go_simp <;> with_reducible rfl))
  try simp only [Act.put, List.setIfInBounds_toArray]
  refine tkH (i := 1) (v := ?_) rfl ?_ ?_
  rotate_left
  · (intro w hSw; (try dsimp only at hSw); (go_simp <;> with_reducible rfl))
  try simp only [Act.put]
  refine tkH (i := 2) (v := ?_) rfl ?_ ?_
  rotate_left
  · (intro w hSw; (try dsimp only at hSw); (go_simp <;> with_reducible rfl))
  try simp only [Act.put]
  refine tkH (i := 3) (v := ?_) rfl ?_ ?_
  rotate_left
  · (intro w hSw; (try dsimp only at hSw); (go_simp <;> with_reducible rfl))
  try simp only [Act.put]
  refine tkH (i := 4) (v := ?_) rfl ?_ ?_
  rotate_left
  · (intro w hSw; (try dsimp only at hSw); (go_simp <;> with_reducible rfl))
  try simp only [Act.put]
  refine tkH (i := 5) (v := ?_) rfl ?_ ?_
  rotate_left
  · (intro w hSw; (try dsimp only at hSw); (go_simp <;> with_reducible rfl))
  try simp only [Act.put]
  refine rdH (i := 6) rfl (fun K hK => ?_)
  go_simp
  refine hK.out _ _ ?_ (fun hHeld => ?_)
  · ((try dsimp only); first | with_reducible exact ⟨cell_set1 hS0.1 n1.out, cell_set1 hS0.2 n1.out⟩ | with_reducible exact ⟨cell_set1 (cell_set1 hS0.1 n1.out) n1.out, cell_set1 (cell_set1 hS0.2 n1.out) n1.out⟩ | with_reducible exact ⟨cell_set1 (cell_set1 (cell_set1 hS0.1 n1.out) n1.out) n1.out, cell_set1 (cell_set1 (cell_set1 hS0.2 n1.out) n1.out) n1.out⟩)
  clear hK K
  try simp only [Act.put, List.setIfInBounds_toArray, List.set_cons_zero, List.set_cons_succ]
  refine tkH (i := 7) (v := ?_) rfl ?_ ?_
  rotate_left
  · (intro w hSw; (try dsimp only at hSw); (go_simp <;> with_reducible rfl))
  try simp only [Act.put, List.setIfInBounds_toArray]
  refine rdH (i := 8) rfl (fun K hK => ?_)
  go_simp
  refine hK.out _ _ ?_ (fun hHeld => ?_)
  · ((try dsimp only); first | with_reducible exact ⟨cell_set1 hS0.1 n1.out, cell_set1 hS0.2 n1.out⟩ | with_reducible exact ⟨cell_set1 (cell_set1 hS0.1 n1.out) n1.out, cell_set1 (cell_set1 hS0.2 n1.out) n1.out⟩ | with_reducible exact ⟨cell_set1 (cell_set1 (cell_set1 hS0.1 n1.out) n1.out) n1.out, cell_set1 (cell_set1 (cell_set1 hS0.2 n1.out) n1.out) n1.out⟩)
  clear hK K
  try simp only [Act.put, List.setIfInBounds_toArray, List.set_cons_zero, List.set_cons_succ]
  refine tkH (i := 9) (v := ?_) rfl ?_ ?_
  rotate_left
  · (intro w hSw; (try dsimp only at hSw); (go_simp <;> with_reducible rfl))
  try simp only [Act.put, List.setIfInBounds_toArray]
  refine rdH (i := 10) rfl (fun K hK => ?_)
  go_simp
  refine hK.out _ _ ?_ (fun hHeld => ?_)
  · ((try dsimp only); first | with_reducible exact ⟨cell_set1 hS0.1 n1.out, cell_set1 hS0.2 n1.out⟩ | with_reducible exact ⟨cell_set1 (cell_set1 hS0.1 n1.out) n1.out, cell_set1 (cell_set1 hS0.2 n1.out) n1.out⟩ | with_reducible exact ⟨cell_set1 (cell_set1 (cell_set1 hS0.1 n1.out) n1.out) n1.out, cell_set1 (cell_set1 (cell_set1 hS0.2 n1.out) n1.out) n1.out⟩)
  clear hK K
  try simp only [Act.put, List.setIfInBounds_toArray, List.set_cons_zero, List.set_cons_succ]
  refine wpAnyH_done (by kernel_rfl) ?_ _
  have hne : ∀ y ∈ [(w.heap.size + 1, [Value.int .u32 0, .int .i64 0, .int .i64 0, .int .u32 0, .int .i64 0, .int .i64 0, .int .i64 0], (31 : TypeId))], y.1 ≠ Y := fun y hy => by
    rcases List.mem_cons.1 hy with rfl | hy
    · exact fun e => by have := HNe.out; simp only at e; omega
    · cases hy
  have M7 := hide ((((M6.out.sub (Cs := [(Y, _, 31), (w.heap.size + 1, _, 31)]) (fun y hy => by
    rcases List.mem_cons.1 hy with rfl | hy
    · exact (List.mem_cons_of_mem _ (List.mem_cons_self ..))
    · rcases List.mem_cons.1 hy with rfl | hy
      · exact (List.mem_cons_of_mem _ (List.mem_cons_of_mem _ (List.mem_cons_self ..)))
      · cases hy)).put1 hne 2 (.int .i64 er)).put1 hne 4 (.int .i64 (xs : Int))).put1 hne 5 (.int .i64 xu))
  clear hne M6 x0 x1 x2 x3 x4 x5 x6 x7
  generalize World.setCell (World.setCell (World.setCell wd _ _) _ _) _ _ = w9 at *
  obtain ⟨y0, y1, y2, y3, y4, y5, y6⟩ := bx7 M7.out.b0
  obtain ⟨⟨x0, x1, x2, x3, x4, x5, x6⟩, x7⟩ := bxf7 M7.out.b1
  go_wp2
  obtain ⟨r1, r3⟩ := an_end M7.out (g := w.heap.size + 1) (List.mem_cons_of_mem _ (List.mem_cons_self ..)) rfl (.int .u32 t) (.int .i64 5) (.int .i64 er) (.int .u32 0) (.int .i64 (xs : Int)) (.int .i64 xu) (.int .i64 0)
  exact bodyPost_ret (results_c1t1 rfl _ _ (w.heap.size + 1) _ rfl r1 rfl) rfl ⟨by rw [HZ.out]; rfl, r3⟩
set_option maxRecDepth 20000 in
set_option maxHeartbeats 8000000 in
theorem answer_6 (h : BkAt w p S K) (ho : S.Ok) (t i s u : Int) (hq : Rs.Rq.Ok ⟨6, t, i, s, u⟩) (hm : Rs.Rq.May ⟨6, t, i, s, u⟩) : Calls Tryz.prog 10 #[.pointer (some ⟨p.b, 0, none⟩), .agg #[.int .i64 6, .int .u32 t, .int .u32 i, .int .i64 s, .int .i64 u]] w fun e w' => e = .returned (anV (ans S ⟨6, t, i, s, u⟩)) ∧ Mt w w' p S K [] := by
  obtain ⟨res, hres⟩ : ∃ res, res = ans S ⟨6, t, i, s, u⟩ := ⟨_, rfl⟩
  rw [← hres]
  have hrs : res = (ansY S ⟨6, t, i, s, u⟩, 0) := by rw [hres]; unfold ans; rw [if_pos ⟨hm, by simp⟩]
  have hk : Rs.chk ⟨6, t, i, s, u⟩ = 0 := by unfold Rs.chk; rw [if_pos hm]
  have HN : Hid (∀ W, BkAt W p S K → Calls Tryz.prog 30 #[.pointer (some ⟨p.b, 0, none⟩)] W fun e w' => e = .returned (.bool false) ∧ Mt W w' p S K []) := fun W hW => isNone_no hW ho
  have HQ := hide (fun W => Rs.check_any ⟨6, t, i, s, u⟩ hq W)
  have HM := hide (Mt.two h (Rs.rqC ⟨6, t, i, s, u⟩) [Value.int .u32 0, .int .i64 0, .int .i64 0, .int .u32 0, .int .i64 0, .int .i64 0, .int .i64 0] 25 31)
  rw [hk] at HQ
  have HGt : Hid (∀ W, BkAt W p S K → Calls Tryz.prog 35 #[.pointer (some ⟨p.b, 0, none⟩), .int .i64 s] W fun e w' => e = .returned (.tuple #[bgV (atX S s), .int .i64 (atE S s)]) ∧ Mt W w' p S K []) := fun W hW => (at_any hW ho.wk s).mono (fun e w' x => ⟨x.1, (Mt.start hW).then x.2⟩)
  have HZ : Hid (res = (⟨t, 6, atE S s, ((atX S s).i : Int), 0, (atX S s).u, 0⟩, 0)) := by rw [Hid, hrs]; rfl
  clear h ho hq hm hres hrs hk
  generalize atX S s = x at *
  generalize atE S s = er at *
  obtain ⟨xi, xs, xu⟩ := x
  unfold bgV at HGt
  unfold Rs.rqV at *
  unfold Rs.rqC at HM
  simp only at *
  generalize hb : p.b = b at *
  have HB := hide hb
  clear hb
  go_enter Tryz.func10, Tryz.ntmps10
  go_wp2_with fail
  refine (HN.out _ HM.out.bk).mono ?_
  rintro e w1 ⟨rfl, m1⟩
  have M1 := hide (HM.out.mt m1)
  clear m1 HM HN
  obtain ⟨c0, c1, c2, c3, c4⟩ := bx5 M1.out.b1
  go_wp2_with fail
  refine (HQ.out _).mono ?_
  rintro e w2 ⟨rfl, hg⟩
  have M2 := hide (M1.out.then hg)
  clear hg M1 HQ c0 c1 c2 c3 c4
  obtain ⟨c0, c1, c2, c3, c4⟩ := bx5 M2.out.b1
  have HNe : Hid (w.heap.size + 1 < w2.heap.size) := row_lt M2.out.b0
  have M3 := hide (M2.out.box [.int .u32 t, .int .i64 6, .int .i64 0, .int .u32 0, .int .i64 0, .int .i64 0, .int .i64 0] 31)
  obtain ⟨k0, k1, k2, k3, k4⟩ := bx5 M3.out.b2
  go_wp2_with fail
  generalize hY : w2.heap.size = Y at *
  generalize World.alloc w2 _ = w3 at *
  clear hY M2 c0 c1 c2 c3 c4
  refine (HGt.out _ M3.out.bk).mono ?_
  rintro e w4 ⟨rfl, m4⟩
  have M4 := hide (M3.out.mt m4)
  clear m4 M3 HGt k0 k1 k2 k3 k4
  have HNz : Hid (Y < w4.heap.size) := row_lt M4.out.b0
  have M5 := hide (M4.out.box [.int .u32 (xi : Int), .int .i64 (xs : Int), .int .i64 xu] 51)
  clear M4
  go_wp2
  generalize hZb : w4.heap.size = Z at *
  generalize World.alloc w4 _ = w5 at *
  clear hZb
  have n1 : Hid (Y ≠ Z) := fun e => by have := HNz.out; omega
  have M6 := hide (M5.out.then (grown_drew w5 none))
  obtain ⟨z0, z1, z2, z3⟩ := box3 M6.out.b0
  have hS0 : w5.drew.cell? ⟨Z, 0, none⟩ = some (.int .u32 (xi : Int)) ∧ w5.drew.cell? ⟨Z, 2, none⟩ = some (.int .i64 xu) := ⟨z0, z2⟩
  obtain ⟨⟨x0, x1, x2, x3, x4, x5, x6⟩, x7⟩ := bxf7 M6.out.b1
  clear M5 z0 z1 z2 z3
  refine wp_region_held_drew (S := (fun W => W.cell? ⟨Z, 0, none⟩ = some (.int .u32 (xi : Int)) ∧ W.cell? ⟨Z, 2, none⟩ = some (.int .i64 xu))) (by kernel_rfl) ?_ (fun hHeld => ?_)
  · (exact hS0)
  generalize World.drew w5 = wd at *
  refine tkH (i := 0) (v := ?_) rfl ?_ ?_
  rotate_left
  · (intro w hSw; (try dsimp only at hSw); (go_simp <;> with_reducible rfl))
  try simp only [Act.put, List.setIfInBounds_toArray]
  refine tkH (i := 1) (v := ?_) rfl ?_ ?_
  rotate_left
  · (intro w hSw; (try dsimp only at hSw); (go_simp <;> with_reducible rfl))
  try simp only [Act.put]
  refine tkH (i := 2) (v := ?_) rfl ?_ ?_
  rotate_left
  · (intro w hSw; (try dsimp only at hSw); (go_simp <;> with_reducible rfl))
  try simp only [Act.put]
  refine tkH (i := 3) (v := ?_) rfl ?_ ?_
  rotate_left
  · (intro w hSw; (try dsimp only at hSw); (go_simp <;> with_reducible rfl))
  try simp only [Act.put]
  refine tkH (i := 4) (v := ?_) rfl ?_ ?_
  rotate_left
  · (intro w hSw; (try dsimp only at hSw); (go_simp <;> with_reducible rfl))
  try simp only [Act.put]
  refine tkH (i := 5) (v := ?_) rfl ?_ ?_
  rotate_left
  · (intro w hSw; (try dsimp only at hSw); (go_simp <;> with_reducible rfl))
  try simp only [Act.put]
  refine rdH (i := 6) rfl (fun K hK => ?_)
  go_simp
  refine hK.out _ _ ?_ (fun hHeld => ?_)
  · ((try dsimp only); first | with_reducible exact ⟨cell_set1 hS0.1 n1.out, cell_set1 hS0.2 n1.out⟩ | with_reducible exact ⟨cell_set1 (cell_set1 hS0.1 n1.out) n1.out, cell_set1 (cell_set1 hS0.2 n1.out) n1.out⟩ | with_reducible exact ⟨cell_set1 (cell_set1 (cell_set1 hS0.1 n1.out) n1.out) n1.out, cell_set1 (cell_set1 (cell_set1 hS0.2 n1.out) n1.out) n1.out⟩)
  clear hK K
  try simp only [Act.put, List.setIfInBounds_toArray, List.set_cons_zero, List.set_cons_succ]
  refine tkH (i := 7) (v := ?_) rfl ?_ ?_
  rotate_left
  · (intro w hSw; (try dsimp only at hSw); (go_simp <;> with_reducible rfl))
  try simp only [Act.put, List.setIfInBounds_toArray]
  refine rdH (i := 8) rfl (fun K hK => ?_)
  go_simp
  refine hK.out _ _ ?_ (fun hHeld => ?_)
  · ((try dsimp only); first | with_reducible exact ⟨cell_set1 hS0.1 n1.out, cell_set1 hS0.2 n1.out⟩ | with_reducible exact ⟨cell_set1 (cell_set1 hS0.1 n1.out) n1.out, cell_set1 (cell_set1 hS0.2 n1.out) n1.out⟩ | with_reducible exact ⟨cell_set1 (cell_set1 (cell_set1 hS0.1 n1.out) n1.out) n1.out, cell_set1 (cell_set1 (cell_set1 hS0.2 n1.out) n1.out) n1.out⟩)
  clear hK K
  try simp only [Act.put, List.setIfInBounds_toArray, List.set_cons_zero, List.set_cons_succ]
  refine tkH (i := 9) (v := ?_) rfl ?_ ?_
  rotate_left
  · (intro w hSw; (try dsimp only at hSw); (go_simp <;> with_reducible rfl))
  try simp only [Act.put, List.setIfInBounds_toArray]
  refine rdH (i := 10) rfl (fun K hK => ?_)
  go_simp
  refine hK.out _ _ ?_ (fun hHeld => ?_)
  · ((try dsimp only); first | with_reducible exact ⟨cell_set1 hS0.1 n1.out, cell_set1 hS0.2 n1.out⟩ | with_reducible exact ⟨cell_set1 (cell_set1 hS0.1 n1.out) n1.out, cell_set1 (cell_set1 hS0.2 n1.out) n1.out⟩ | with_reducible exact ⟨cell_set1 (cell_set1 (cell_set1 hS0.1 n1.out) n1.out) n1.out, cell_set1 (cell_set1 (cell_set1 hS0.2 n1.out) n1.out) n1.out⟩)
  clear hK K
  try simp only [Act.put, List.setIfInBounds_toArray, List.set_cons_zero, List.set_cons_succ]
  refine wpAnyH_done (by kernel_rfl) ?_ _
  have hne : ∀ y ∈ [(w.heap.size + 1, [Value.int .u32 0, .int .i64 0, .int .i64 0, .int .u32 0, .int .i64 0, .int .i64 0, .int .i64 0], (31 : TypeId))], y.1 ≠ Y := fun y hy => by
    rcases List.mem_cons.1 hy with rfl | hy
    · exact fun e => by have := HNe.out; simp only at e; omega
    · cases hy
  have M7 := hide ((((M6.out.sub (Cs := [(Y, _, 31), (w.heap.size + 1, _, 31)]) (fun y hy => by
    rcases List.mem_cons.1 hy with rfl | hy
    · exact (List.mem_cons_of_mem _ (List.mem_cons_self ..))
    · rcases List.mem_cons.1 hy with rfl | hy
      · exact (List.mem_cons_of_mem _ (List.mem_cons_of_mem _ (List.mem_cons_self ..)))
      · cases hy)).put1 hne 2 (.int .i64 er)).put1 hne 3 (.int .u32 (xi : Int))).put1 hne 5 (.int .i64 xu))
  clear hne M6 x0 x1 x2 x3 x4 x5 x6 x7
  generalize World.setCell (World.setCell (World.setCell wd _ _) _ _) _ _ = w9 at *
  obtain ⟨y0, y1, y2, y3, y4, y5, y6⟩ := bx7 M7.out.b0
  obtain ⟨⟨x0, x1, x2, x3, x4, x5, x6⟩, x7⟩ := bxf7 M7.out.b1
  go_wp2
  obtain ⟨r1, r3⟩ := an_end M7.out (g := w.heap.size + 1) (List.mem_cons_of_mem _ (List.mem_cons_self ..)) rfl (.int .u32 t) (.int .i64 6) (.int .i64 er) (.int .u32 (xi : Int)) (.int .i64 0) (.int .i64 xu) (.int .i64 0)
  exact bodyPost_ret (results_c1t1 rfl _ _ (w.heap.size + 1) _ rfl r1 rfl) rfl ⟨by rw [HZ.out]; rfl, r3⟩
set_option maxRecDepth 20000 in
set_option maxHeartbeats 8000000 in
theorem answer_10 (h : BkAt w p S K) (ho : S.Ok) (t i s u : Int) (hq : Rs.Rq.Ok ⟨10, t, i, s, u⟩) (hm : Rs.Rq.May ⟨10, t, i, s, u⟩) : Calls Tryz.prog 10 #[.pointer (some ⟨p.b, 0, none⟩), .agg #[.int .i64 10, .int .u32 t, .int .u32 i, .int .i64 s, .int .i64 u]] w fun e w' => e = .returned (anV (ans S ⟨10, t, i, s, u⟩)) ∧ Mt w w' p S K [] := by
  obtain ⟨res, hres⟩ : ∃ res, res = ans S ⟨10, t, i, s, u⟩ := ⟨_, rfl⟩
  rw [← hres]
  have hrs : res = (ansY S ⟨10, t, i, s, u⟩, 0) := by rw [hres]; unfold ans; rw [if_pos ⟨hm, by simp⟩]
  have hk : Rs.chk ⟨10, t, i, s, u⟩ = 0 := by unfold Rs.chk; rw [if_pos hm]
  have HN : Hid (∀ W, BkAt W p S K → Calls Tryz.prog 30 #[.pointer (some ⟨p.b, 0, none⟩)] W fun e w' => e = .returned (.bool false) ∧ Mt W w' p S K []) := fun W hW => isNone_no hW ho
  have HQ := hide (fun W => Rs.check_any ⟨10, t, i, s, u⟩ hq W)
  have HM := hide (Mt.two h (Rs.rqC ⟨10, t, i, s, u⟩) [Value.int .u32 0, .int .i64 0, .int .i64 0, .int .u32 0, .int .i64 0, .int .i64 0, .int .i64 0] 25 31)
  rw [hk] at HQ
  have HGt : Hid (∀ W, BkAt W p S K → Calls Tryz.prog 27 #[.pointer (some ⟨p.b, 0, none⟩)] W fun e w' => e = .returned (.int .i64 (S.L.length : Int)) ∧ w' = W) := fun W hW => len_any hW
  have HZ : Hid (res = (⟨t, 10, 0, 0, 0, 0, (S.L.length : Int)⟩, 0)) := by rw [Hid, hrs]; rfl
  clear h ho hq hm hres hrs hk
  generalize (S.L.length : Int) = ln at *
  unfold Rs.rqV at *
  unfold Rs.rqC at HM
  simp only at *
  generalize hb : p.b = b at *
  have HB := hide hb
  clear hb
  go_enter Tryz.func10, Tryz.ntmps10
  go_wp2_with fail
  refine (HN.out _ HM.out.bk).mono ?_
  rintro e w1 ⟨rfl, m1⟩
  have M1 := hide (HM.out.mt m1)
  clear m1 HM HN
  obtain ⟨c0, c1, c2, c3, c4⟩ := bx5 M1.out.b1
  go_wp2_with fail
  refine (HQ.out _).mono ?_
  rintro e w2 ⟨rfl, hg⟩
  have M2 := hide (M1.out.then hg)
  clear hg M1 HQ c0 c1 c2 c3 c4
  obtain ⟨c0, c1, c2, c3, c4⟩ := bx5 M2.out.b1
  have HNe : Hid (w.heap.size + 1 < w2.heap.size) := row_lt M2.out.b0
  have M3 := hide (M2.out.box [.int .u32 t, .int .i64 10, .int .i64 0, .int .u32 0, .int .i64 0, .int .i64 0, .int .i64 0] 31)
  obtain ⟨k0, k1, k2, k3, k4⟩ := bx5 M3.out.b2
  go_wp2_with fail
  generalize hY : w2.heap.size = Y at *
  generalize World.alloc w2 _ = w3 at *
  clear hY M2 c0 c1 c2 c3 c4
  refine (HGt.out _ M3.out.bk).mono ?_
  rintro e wx ⟨rfl, hwx⟩
  obtain rfl := hwx.symm
  clear hwx
  obtain ⟨⟨y0, y1, y2, y3, y4, y5, y6⟩, y7⟩ := bxf7 M3.out.b0
  obtain ⟨⟨x0, x1, x2, x3, x4, x5, x6⟩, x7⟩ := bxf7 M3.out.b1
  have hne : ∀ y ∈ [(w.heap.size + 1, [Value.int .u32 0, .int .i64 0, .int .i64 0, .int .u32 0, .int .i64 0, .int .i64 0, .int .i64 0], (31 : TypeId))], y.1 ≠ Y := fun y hy => by
    rcases List.mem_cons.1 hy with rfl | hy
    · exact fun e => by have := HNe.out; simp only at e; omega
    · cases hy
  have M7 := hide ((M3.out.sub (Cs := [(Y, _, 31), (w.heap.size + 1, _, 31)]) (fun y hy => by
    rcases List.mem_cons.1 hy with rfl | hy
    · exact (List.mem_cons_self ..)
    · rcases List.mem_cons.1 hy with rfl | hy
      · exact (List.mem_cons_of_mem _ (List.mem_cons_self ..))
      · cases hy)).put1 hne 6 (.int .i64 ln))
  have hY1 : Hid (Y ≠ w.heap.size + 1) := fun e => by have := HNe.out; omega
  clear hne k0 k1 k2 k3 k4 x0 x1 x2 x3 x4 x5 x6 x7 M3
  go_upto_region 16 with fail
  generalize World.setCell w3 _ _ = w9 at *
  clear y0 y1 y2 y3 y4 y5 y6 y7
  obtain ⟨y0, y1, y2, y3, y4, y5, y6⟩ := bx7 M7.out.b0
  obtain ⟨⟨x0, x1, x2, x3, x4, x5, x6⟩, x7⟩ := bxf7 M7.out.b1
  go_wp2
  obtain ⟨r1, r3⟩ := an_end M7.out (g := w.heap.size + 1) (List.mem_cons_of_mem _ (List.mem_cons_self ..)) rfl (.int .u32 t) (.int .i64 10) (.int .i64 0) (.int .u32 0) (.int .i64 0) (.int .i64 0) (.int .i64 ln)
  exact bodyPost_ret (results_c1t1 rfl _ _ (w.heap.size + 1) _ rfl r1 rfl) rfl ⟨by rw [HZ.out]; rfl, r3⟩
end
end Go.Proofs.YtjfhilignbeboaaGreatDoor
namespace Go.Proofs.YtjfhilignbeboaaGreatDoor
/- Decide and Answer of any request. -/
open Go.RowKit
theorem decide_any {w : World} {p : Bp} {S : Sb} {K : Nat} (h : BkAt w p S K) (ho : S.Ok) (room : Int) (q : Rs.Rq) (hq : q.Ok) (hT : Rk.Tab w) : Calls Tryz.prog 9 #[.pointer (some ⟨p.b, 0, none⟩), .int .i64 room, Rs.rqV q] w fun e w' => e = .returned (dcV (dec S room q)) ∧ Mt w w' p S K [] := by
  by_cases hc : isChg q
  · obtain ⟨k, t, i, s, u⟩ := q
    rcases chg_kinds hc with hk | hk | hk | hk | hk
    all_goals
      simp only at hk
      subst hk
    · exact decide_1 h ho room t i s u hq hc.1 hT
    · exact decide_2 h ho room t i s u hq hc.1 hT
    · exact decide_3 h ho room t i s u hq hc.1 hT
    · exact decide_4 h ho room t i s u hq hc.1 hT
    · exact decide_7 h ho room t i s u hq hc.1 hT
  · rw [dec_no hc]
    by_cases hm : q.May
    · exact decide_kind h ho room q hq hm (by
        cases hx : Rs.chg q.k with
        | false => rfl
        | true => exact absurd ⟨hm, hx⟩ hc)
    · exact decide_may h ho room q hq hm
theorem ans_no {S : Sb} {q : Rs.Rq} (h : ¬ isAsk q) : ans S q = (Rt.zRy, 200) := by unfold ans; rw [if_neg h]
theorem answer_any {w : World} {p : Bp} {S : Sb} {K : Nat} (h : BkAt w p S K) (ho : S.Ok) (q : Rs.Rq) (hq : q.Ok) : Calls Tryz.prog 10 #[.pointer (some ⟨p.b, 0, none⟩), Rs.rqV q] w fun e w' => e = .returned (anV (ans S q)) ∧ Mt w w' p S K [] := by
  by_cases hm : q.May
  · obtain ⟨k, t, i, s, u⟩ := q
    by_cases h5 : k = 5
    · subst h5; exact answer_5 h ho t i s u hq hm
    · by_cases h6 : k = 6
      · subst h6; exact answer_6 h ho t i s u hq hm
      · by_cases h8 : k = 10
        · subst h8; exact answer_10 h ho t i s u hq hm
        · rw [ans_no (fun x => by have := x.2; simp only at this; omega)]; exact answer_kind h ho _ hq hm h5 h6 h8
  · rw [ans_no (fun x => hm x.1)]; exact answer_may h ho q hq hm
end Go.Proofs.YtjfhilignbeboaaGreatDoor
