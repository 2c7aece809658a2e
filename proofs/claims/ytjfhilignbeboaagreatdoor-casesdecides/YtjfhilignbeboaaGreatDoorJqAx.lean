/- Texts joined: De7, Ax, Ax5, Ax6. -/
import Derived.Test.YtjfhilignbeboaaGreatDoorJqAu
import Derived.Test.YtjfhilignbeboaaGreatDoorJqAw
import Derived.Test.YtjfhilignbeboaaGreatDoorJqAn
namespace Go.Proofs.YtjfhilignbeboaaGreatDoor
/- The document: Decide of the kind 7. -/
open Go.RowKit
attribute [local go_sem ↓] Go.wp_at_zero Go.wp_at_succ
attribute [local go_sem] Oper.semAt_some
set_option maxRecDepth 20000 in
set_option maxHeartbeats 8000000 in
theorem rdecide_7 {w : World} {lo d : Nat} {v : Value} {S : Sb} (h : Db w lo d v S) (ho : S.Ok) (room t : Int) (i s : Nat) (u : Int) (hq : Rs.Rq.Ok ⟨7, t, (i : Int), (s : Int), u⟩) (hm : Rs.Rq.May ⟨7, t, (i : Int), (s : Int), u⟩) : Calls Tryz.prog 15 #[.pointer (some ⟨d, 0, none⟩), .int .i64 room, .agg #[.int .i64 7, .int .u32 t, .int .u32 (i : Int), .int .i64 (s : Int), .int .i64 u]] w fun e w' => e = .returned (dcV (dec S room ⟨7, t, (i : Int), (s : Int), u⟩)) ∧ w.grownBy w' none := by
  have hch : isChg ⟨7, t, (i : Int), (s : Int), u⟩ := ⟨hm, show Rs.chg 7 = true by decide⟩
  obtain ⟨res, hres⟩ : ∃ res, res = dec S room ⟨7, t, (i : Int), (s : Int), u⟩ := ⟨_, rfl⟩
  rw [← hres]
  have hk : Rs.chk ⟨7, t, (i : Int), (s : Int), u⟩ = 0 := by unfold Rs.chk; rw [if_pos hm]
  have HQ := hide (fun W => Rs.rcheck_any ⟨7, t, (i : Int), (s : Int), u⟩ hq W)
  rw [hk] at HQ
  have HC : Hid (∀ W, Calls Tryz.prog 48 #[.int .i64 7] W fun e w' => e = .returned (.bool true) ∧ w' = W) := fun W => Rs.rchanges_any 7 W
  have HM := hide (Mx.three h (Rs.rqC ⟨7, t, (i : Int), (s : Int), u⟩) [Value.int .i64 0, .int .u32 0, .int .i64 0, .int .i64 0, .int .i64 0] [Value.int .u32 0, .int .i64 0, .int .i64 0, .int .u32 0, .int .i64 0, .int .i64 0, .int .i64 0] 25 28 31)
  obtain ⟨vv, hvv⟩ : ∃ vv, vv = fstE [ttE ⟨7, t, (i : Int), (s : Int), u⟩, clE S ⟨7, t, (i : Int), (s : Int), u⟩] := ⟨_, rfl⟩
  have hrf : refE S room ⟨7, t, (i : Int), (s : Int), u⟩ = if vv = 0 then lgE room 5 else vv := by rw [hvv]; exact fstE_snoc [ttE ⟨7, t, (i : Int), (s : Int), u⟩, clE S ⟨7, t, (i : Int), (s : Int), u⟩] (lgE room 5)
  have HRec : Hid (∀ W, Db W lo d v S → Calls Tryz.prog 49 #[.pointer (some ⟨d, 0, none⟩), .agg #[.int .i64 7, .int .u32 t, .int .u32 (i : Int), .int .i64 (s : Int), .int .i64 u]] W fun e w' => e = .returned (Rk.rcV (recW S ⟨7, t, (i : Int), (s : Int), u⟩)) ∧ W.grownBy w' none) := fun W hW => rrec_7 hW t (i : Int) (s : Int) u
  have HRef : Hid (∀ W, Db W lo d v S → Calls Tryz.prog 50 #[.pointer (some ⟨d, 0, none⟩), .agg #[.int .i64 7, .int .u32 t, .int .u32 (i : Int), .int .i64 (s : Int), .int .i64 u]] W fun e w' => e = .returned (.int .i64 vv) ∧ W.grownBy w' none) := fun W hW => by rw [hvv]; exact rref_7 hW ho t i s u hm
  have HSz : Hid (∀ W, Calls Tryz.prog 51 #[.int .i64 5] W fun e w' => e = .returned (.int .i64 (sz 5 : Nat)) ∧ w' = W) := fun W => Rk.size_ref 5 W
  have hrw : vv = 0 → recW S ⟨7, t, (i : Int), (s : Int), u⟩ = recQ S ⟨7, t, (i : Int), (s : Int), u⟩ := fun e => by
    have htt : ttE ⟨7, t, (i : Int), (s : Int), u⟩ = 0 := by
      apply Classical.byContradiction
      intro hn
      rw [hvv] at e
      rw [fstE_cons_no hn] at e; exact hn e
    have hb := ttE_zero htt
    have h0 := ho.t0
    have h1 := ho.t1
    unfold mxT at hb
    unfold mxC at h1
    simp only at hb
    have hw : tuW S ⟨7, t, (i : Int), (s : Int), u⟩ = S.t + u := by unfold tuW; rw [IntKind.wrap_i64]; simp only; omega
    unfold recW recQ
    rw [hw]
  have hkk : (recW S ⟨7, t, (i : Int), (s : Int), u⟩).k = 5 := by simp [recW]
  have HRs : Hid ((vv ≠ 0 → res = ⟨zRc, rfY ⟨7, t, (i : Int), (s : Int), u⟩ vv, false, 0⟩) ∧ (vv = 0 → room < 22 + (sz 5 : Int) → res = ⟨zRc, rfY ⟨7, t, (i : Int), (s : Int), u⟩ 220, false, 0⟩) ∧ (vv = 0 → 22 + (sz 5 : Int) ≤ room → res = ⟨recW S ⟨7, t, (i : Int), (s : Int), u⟩, rpY ⟨7, t, (i : Int), (s : Int), u⟩ (recW S ⟨7, t, (i : Int), (s : Int), u⟩), true, 0⟩)) := by
    refine ⟨fun hv => ?_, fun hv hr => ?_, fun hv hr => ?_⟩
    · rw [if_neg hv] at hrf; rw [hres, dec_ref hch (by rw [hrf]; exact hv), hrf]
    · rw [if_pos hv] at hrf
      have hl : lgE room 5 = 220 := if_pos hr
      rw [hl] at hrf
      rw [hres, dec_ref hch (by rw [hrf]; decide), hrf]
    · rw [if_pos hv] at hrf
      have hl : lgE room 5 = 0 := if_neg (by omega)
      rw [hl] at hrf
      rw [hres, dec_yes hch hrf, hrw hv]
  have HRp := hide (fun W => rreply_any ⟨7, t, (i : Int), (s : Int), u⟩ (recW S ⟨7, t, (i : Int), (s : Int), u⟩) W)
  clear h ho hq hm hch hk hres hvv hrf hrw
  generalize recW S ⟨7, t, (i : Int), (s : Int), u⟩ = R at *
  obtain ⟨rk0, ri, rs, ru, rc⟩ := R
  simp only at hkk
  subst hkk
  generalize hz : (sz 5 : Int) = z at *
  have hz1 : z = 9 := by rw [← hz]; rfl
  subst hz1
  clear hz
  unfold Rs.rqV at *
  unfold Rs.rqC at HM
  unfold Rk.rcV at HRec HRp
  simp only at *
  have HDc : Hid (∀ x, dcV ⟨zRc, rfY ⟨7, t, (i : Int), (s : Int), u⟩ x, false, 0⟩ = .tuple #[.agg #[.int .i64 0, .int .u32 0, .int .i64 0, .int .i64 0, .int .i64 0], .agg #[.int .u32 t, .int .i64 7, .int .i64 x, .int .u32 0, .int .i64 0, .int .i64 0, .int .i64 0], .bool false, .int .i64 0]) := fun _ => rfl
  have HDy : Hid (dcV ⟨⟨5, ri, rs, ru, rc⟩, rpY ⟨7, t, (i : Int), (s : Int), u⟩ ⟨5, ri, rs, ru, rc⟩, true, 0⟩ = .tuple #[.agg #[.int .i64 5, .int .u32 ri, .int .i64 rs, .int .i64 ru, .int .i64 rc], .agg #[.int .u32 t, .int .i64 7, .int .i64 0, .int .u32 0, .int .i64 0, .int .i64 rc, .int .i64 0], .bool true, .int .i64 0]) := by simp [Hid, dcV, rpY, Rk.rcV, Rt.ryV]
  have HRv : Hid (∀ W, Calls Tryz.prog 20 #[.agg #[.int .i64 7, .int .u32 t, .int .u32 (i : Int), .int .i64 (s : Int), .int .i64 u], .agg #[.int .i64 5, .int .u32 ri, .int .i64 rs, .int .i64 ru, .int .i64 rc]] W fun e w' => e = .returned (.agg #[.int .u32 t, .int .i64 7, .int .i64 0, .int .u32 0, .int .i64 0, .int .i64 rc, .int .i64 0]) ∧ W.grownBy w' none) := HRp.out
  clear HRp
  generalize (i : Int) = i1 at *
  generalize (s : Int) = s1 at *
  obtain ⟨c0, c1, c2, c3, c4⟩ := bx5 HM.out.b2
  go_enter Tryz.func15, Tryz.ntmps15
  go_wp2_with fail
  refine (HQ.out _).mono ?_
  rintro e w2 ⟨rfl, hg⟩
  have M2 := hide (HM.out.then hg)
  clear hg HM HQ c0 c1 c2 c3 c4
  obtain ⟨c0, c1, c2, c3, c4⟩ := bx5 M2.out.b2
  go_wp2_with fail
  refine (HC.out _).mono ?_
  rintro e wx ⟨rfl, hwx⟩
  obtain rfl := hwx.symm
  clear hwx
  go_wp2_with fail
  refine (HRec.out _ M2.out.db).mono ?_
  rintro e w3 ⟨rfl, hg⟩
  have HNe0 : Hid (w.heap.size + 1 < w3.heap.size ∧ w.heap.size + 1 + 1 < w3.heap.size) := ⟨row_lt (box_to M2.out.b1 hg), row_lt (box_to M2.out.b0 hg)⟩
  have M3 := hide ((M2.out.then hg).box [.int .i64 5, .int .u32 ri, .int .i64 rs, .int .i64 ru, .int .i64 rc] 28)
  clear hg M2 HRec HC c0 c1 c2 c3 c4
  obtain ⟨c0, c1, c2, c3, c4⟩ := bx5 M3.out.b3
  go_wp2_with fail
  generalize hX : w3.heap.size = X at *
  have HNe : Hid (w.heap.size + 1 ≠ X ∧ w.heap.size + 1 + 1 ≠ X) := ⟨fun e => by have := HNe0.out; omega, fun e => by have := HNe0.out; omega⟩
  generalize World.alloc w3 _ = w4 at *
  clear hX
  refine (HRef.out _ M3.out.db).mono ?_
  rintro e w5 ⟨rfl, hg⟩
  have M5 := hide (M3.out.then hg)
  clear hg M3 HRef c0 c1 c2 c3 c4
  obtain ⟨c0, c1, c2, c3, c4⟩ := bx5 M5.out.b3
  obtain ⟨e0, e1, e2, e3, e4⟩ := bx5 M5.out.b0
  by_cases hv : vv = 0
  rotate_left
  · have f1 : (vv != 0) = true := by simpa using hv
    have f2 : (vv == 0) = false := by simpa using hv
    have f3 : decide (vv = 0) = false := by simpa using hv
    have HZ := hide (HRs.out.1 hv)
    go_wp2
    have M6 := hide (M5.out.then (grown_drew w5 none))
    have hS0 : w5.drew.cell? ⟨w.heap.size, 0, none⟩ = some (.int .i64 7) ∧ w5.drew.cell? ⟨w.heap.size, 1, none⟩ = some (.int .u32 t) := ⟨c0, c1⟩
    have n2 : Hid (w.heap.size + 1 ≠ w.heap.size) := fun e => by omega
    have n3 : Hid (w.heap.size + 1 + 1 ≠ w.heap.size) := fun e => by omega
    clear M5 c0 c1 c2 c3 c4 e0 e1 e2 e3 e4
    obtain ⟨⟨d0, d1, d2, d3, d4⟩, d5⟩ := bxf5 M6.out.b2
    obtain ⟨⟨x0, x1, x2, x3, x4, x5, x6⟩, x7⟩ := bxf7 M6.out.b1
    refine wp_region_held_drew (S := (fun W => W.cell? ⟨w.heap.size, 0, none⟩ = some (.int .i64 7) ∧ W.cell? ⟨w.heap.size, 1, none⟩ = some (.int .u32 t))) (by kernel_rfl) ?_ (fun hHeld => ?_)
    · (exact hS0)
    generalize World.drew w5 = wd at *
    refine tkH (i := 0) (v := ?_) rfl ?_ ?_
    rotate_left
    · (intro w hSw; (try dsimp only at hSw); (go_simp <;> with_reducible rfl))
    try simp only [Act.put, List.setIfInBounds_toArray]
    refine tkH (i := 1) (v := ?_) rfl ?_ ?_
    rotate_left
    · (intro w hSw; (try dsimp only at hSw); (go_simp <;> with_reducible rfl))
    try simp only [Act.put]
    refine tkH (i := 2) (v := ?_) rfl ?_ ?_
    rotate_left
    · (intro w hSw; (try dsimp only at hSw); (go_simp <;> with_reducible rfl))
    try simp only [Act.put]
    refine tkH (i := 3) (v := ?_) rfl ?_ ?_
    rotate_left
    · (intro w hSw; (try dsimp only at hSw); (go_simp <;> with_reducible rfl))
    try simp only [Act.put]
    refine tkH (i := 4) (v := ?_) rfl ?_ ?_
    rotate_left
    · (intro w hSw; (try dsimp only at hSw); (go_simp <;> with_reducible rfl))
    try simp only [Act.put]
    refine tkH (i := 5) (v := ?_) rfl ?_ ?_
    rotate_left
    · (intro w hSw; (try dsimp only at hSw); (go_simp <;> with_reducible rfl))
    try simp only [Act.put]
    refine tkH (i := 6) (v := ?_) rfl ?_ ?_
    rotate_left
    · (intro w hSw; (try dsimp only at hSw); (go_simp <;> with_reducible rfl))
    try simp only [Act.put]
    refine rdH (i := 7) rfl (fun K hK => ?_)
    go_simp
    refine hK.out _ _ ?_ (fun hHeld => ?_)
    · ((try dsimp only); first | with_reducible exact ⟨cell_set5 hS0.1 n2.out _ _ _ _ _, cell_set5 hS0.2 n2.out _ _ _ _ _⟩ | with_reducible exact ⟨cell_set7 (cell_set5 hS0.1 n2.out _ _ _ _ _) n3.out _ _ _ _ _ _ _, cell_set7 (cell_set5 hS0.2 n2.out _ _ _ _ _) n3.out _ _ _ _ _ _ _⟩)
    clear hK K
    try simp only [Act.put, List.setIfInBounds_toArray, List.set_cons_zero, List.set_cons_succ]
    refine rdH (i := 8) rfl (fun K hK => ?_)
    go_simp
    refine hK.out _ _ ?_ (fun hHeld => ?_)
    · ((try dsimp only); first | with_reducible exact ⟨cell_set5 hS0.1 n2.out _ _ _ _ _, cell_set5 hS0.2 n2.out _ _ _ _ _⟩ | with_reducible exact ⟨cell_set7 (cell_set5 hS0.1 n2.out _ _ _ _ _) n3.out _ _ _ _ _ _ _, cell_set7 (cell_set5 hS0.2 n2.out _ _ _ _ _) n3.out _ _ _ _ _ _ _⟩)
    clear hK K
    try simp only [Act.put, List.setIfInBounds_toArray, List.set_cons_zero, List.set_cons_succ]
    refine tkH (i := 9) (oi := { dst := some 8, op := Go.Op.assign (Go.Operand.const (Go.Value.bool false)), type := 4, pos := "ref.go:113", after := #[{ on := 8, ground := Go.Ground.chain }, { on := 0, ground := Go.Ground.phase }, { on := 1, ground := Go.Ground.phase }, { on := 2, ground := Go.Ground.phase }, { on := 3, ground := Go.Ground.phase }, { on := 4, ground := Go.Ground.phase }, { on := 5, ground := Go.Ground.phase }, { on := 6, ground := Go.Ground.phase }, { on := 7, ground := Go.Ground.phase }, { on := 8, ground := Go.Ground.phase }], guard := none }) (v := ?_) rfl ?_ ?_
    rotate_left
    · (intro w hSw; (try dsimp only at hSw); (go_simp <;> with_reducible rfl))
    try simp only [Act.put, List.setIfInBounds_toArray, List.set_cons_zero, List.set_cons_succ]
    refine tkH (i := 10) (oi := { dst := some 9, op := Go.Op.assign (Go.Operand.const (Go.Value.int Go.IntKind.i64 0)), type := 29, pos := "ref.go:113", after := #[{ on := 9, ground := Go.Ground.chain }, { on := 0, ground := Go.Ground.phase }, { on := 1, ground := Go.Ground.phase }, { on := 2, ground := Go.Ground.phase }, { on := 3, ground := Go.Ground.phase }, { on := 4, ground := Go.Ground.phase }, { on := 5, ground := Go.Ground.phase }, { on := 6, ground := Go.Ground.phase }, { on := 7, ground := Go.Ground.phase }, { on := 8, ground := Go.Ground.phase }, { on := 9, ground := Go.Ground.phase }], guard := none }) (v := ?_) rfl ?_ ?_
    rotate_left
    · (intro w hSw; (try dsimp only at hSw); (go_simp <;> with_reducible rfl))
    try simp only [Act.put, List.setIfInBounds_toArray, List.set_cons_zero, List.set_cons_succ]
    refine wpAnyH_done (by kernel_rfl) ?_ _
    go_wp2
    obtain ⟨r1, r2, r3⟩ := dx_end M6.out (g := w.heap.size + 1) (h := w.heap.size + 1 + 1) (List.mem_cons_of_mem _ (List.mem_cons_of_mem _ (List.mem_cons_self ..))) (List.mem_cons_of_mem _ (List.mem_cons_self ..)) rfl rfl (by omega) (.int .i64 0) (.int .u32 0) (.int .i64 0) (.int .i64 0) (.int .i64 0) (.int .u32 t) (.int .i64 7) (.int .i64 vv) (.int .u32 0) (.int .i64 0) (.int .i64 0) (.int .i64 0)
    exact bodyPost_ret (results_c2t2 rfl _ _ (w.heap.size + 1) (w.heap.size + 1 + 1) _ _ rfl rfl r1 r2 rfl rfl) rfl ⟨by rw [HZ.out, HDc.out]; rfl, r3.gr⟩
  subst hv
  have HR2 := hide (And.intro (HRs.out.2.1 rfl) (HRs.out.2.2 rfl))
  clear HRs
  go_wp2_with fail
  refine (HSz.out _).mono ?_
  rintro e wx ⟨rfl, hwx⟩
  obtain rfl := hwx.symm
  clear hwx HSz
  have hsz : ((sz 5 : Nat) : Int) = 9 := rfl
  by_cases hr : room < 22 + 9
  · have hr2 : room < 31 := by omega
    have HZ := hide (HR2.out.1 hr)
    go_wp2
    have M6 := hide (M5.out.then (grown_drew w5 none))
    have hS0 : w5.drew.cell? ⟨w.heap.size, 0, none⟩ = some (.int .i64 7) ∧ w5.drew.cell? ⟨w.heap.size, 1, none⟩ = some (.int .u32 t) := ⟨c0, c1⟩
    have n2 : Hid (w.heap.size + 1 ≠ w.heap.size) := fun e => by omega
    have n3 : Hid (w.heap.size + 1 + 1 ≠ w.heap.size) := fun e => by omega
    clear M5 c0 c1 c2 c3 c4 e0 e1 e2 e3 e4
    obtain ⟨⟨d0, d1, d2, d3, d4⟩, d5⟩ := bxf5 M6.out.b2
    obtain ⟨⟨x0, x1, x2, x3, x4, x5, x6⟩, x7⟩ := bxf7 M6.out.b1
    refine wp_region_held_drew (S := (fun W => W.cell? ⟨w.heap.size, 0, none⟩ = some (.int .i64 7) ∧ W.cell? ⟨w.heap.size, 1, none⟩ = some (.int .u32 t))) (by kernel_rfl) ?_ (fun hHeld => ?_)
    · (exact hS0)
    generalize World.drew w5 = wd at *
    refine tkH (i := 0) (v := ?_) rfl ?_ ?_
    rotate_left
    · (intro w hSw; (try dsimp only at hSw); (go_simp <;> with_reducible rfl))
    try simp only [Act.put, List.setIfInBounds_toArray]
    refine tkH (i := 1) (v := ?_) rfl ?_ ?_
    rotate_left
    · (intro w hSw; (try dsimp only at hSw); (go_simp <;> with_reducible rfl))
    try simp only [Act.put]
    refine tkH (i := 2) (v := ?_) rfl ?_ ?_
    rotate_left
    · (intro w hSw; (try dsimp only at hSw); (go_simp <;> with_reducible rfl))
    try simp only [Act.put]
    refine tkH (i := 3) (v := ?_) rfl ?_ ?_
    rotate_left
    · (intro w hSw; (try dsimp only at hSw); (go_simp <;> with_reducible rfl))
    try simp only [Act.put]
    refine tkH (i := 4) (v := ?_) rfl ?_ ?_
    rotate_left
    · (intro w hSw; (try dsimp only at hSw); (go_simp <;> with_reducible rfl))
    try simp only [Act.put]
    refine tkH (i := 5) (v := ?_) rfl ?_ ?_
    rotate_left
    · (intro w hSw; (try dsimp only at hSw); (go_simp <;> with_reducible rfl))
    try simp only [Act.put]
    refine tkH (i := 6) (v := ?_) rfl ?_ ?_
    rotate_left
    · (intro w hSw; (try dsimp only at hSw); (go_simp <;> with_reducible rfl))
    try simp only [Act.put]
    refine rdH (i := 7) rfl (fun K hK => ?_)
    go_simp
    refine hK.out _ _ ?_ (fun hHeld => ?_)
    · ((try dsimp only); first | with_reducible exact ⟨cell_set5 hS0.1 n2.out _ _ _ _ _, cell_set5 hS0.2 n2.out _ _ _ _ _⟩ | with_reducible exact ⟨cell_set7 (cell_set5 hS0.1 n2.out _ _ _ _ _) n3.out _ _ _ _ _ _ _, cell_set7 (cell_set5 hS0.2 n2.out _ _ _ _ _) n3.out _ _ _ _ _ _ _⟩)
    clear hK K
    try simp only [Act.put, List.setIfInBounds_toArray, List.set_cons_zero, List.set_cons_succ]
    refine rdH (i := 8) rfl (fun K hK => ?_)
    go_simp
    refine hK.out _ _ ?_ (fun hHeld => ?_)
    · ((try dsimp only); first | with_reducible exact ⟨cell_set5 hS0.1 n2.out _ _ _ _ _, cell_set5 hS0.2 n2.out _ _ _ _ _⟩ | with_reducible exact ⟨cell_set7 (cell_set5 hS0.1 n2.out _ _ _ _ _) n3.out _ _ _ _ _ _ _, cell_set7 (cell_set5 hS0.2 n2.out _ _ _ _ _) n3.out _ _ _ _ _ _ _⟩)
    clear hK K
    try simp only [Act.put, List.setIfInBounds_toArray, List.set_cons_zero, List.set_cons_succ]
    refine tkH (i := 9) (oi := { dst := some 8, op := Go.Op.assign (Go.Operand.const (Go.Value.bool false)), type := 4, pos := "ref.go:113", after := #[{ on := 8, ground := Go.Ground.chain }, { on := 0, ground := Go.Ground.phase }, { on := 1, ground := Go.Ground.phase }, { on := 2, ground := Go.Ground.phase }, { on := 3, ground := Go.Ground.phase }, { on := 4, ground := Go.Ground.phase }, { on := 5, ground := Go.Ground.phase }, { on := 6, ground := Go.Ground.phase }, { on := 7, ground := Go.Ground.phase }, { on := 8, ground := Go.Ground.phase }], guard := none }) (v := ?_) rfl ?_ ?_
    rotate_left
    · (intro w hSw; (try dsimp only at hSw); (go_simp <;> with_reducible rfl))
    try simp only [Act.put, List.setIfInBounds_toArray, List.set_cons_zero, List.set_cons_succ]
    refine tkH (i := 10) (oi := { dst := some 9, op := Go.Op.assign (Go.Operand.const (Go.Value.int Go.IntKind.i64 0)), type := 29, pos := "ref.go:113", after := #[{ on := 9, ground := Go.Ground.chain }, { on := 0, ground := Go.Ground.phase }, { on := 1, ground := Go.Ground.phase }, { on := 2, ground := Go.Ground.phase }, { on := 3, ground := Go.Ground.phase }, { on := 4, ground := Go.Ground.phase }, { on := 5, ground := Go.Ground.phase }, { on := 6, ground := Go.Ground.phase }, { on := 7, ground := Go.Ground.phase }, { on := 8, ground := Go.Ground.phase }, { on := 9, ground := Go.Ground.phase }], guard := none }) (v := ?_) rfl ?_ ?_
    rotate_left
    · (intro w hSw; (try dsimp only at hSw); (go_simp <;> with_reducible rfl))
    try simp only [Act.put, List.setIfInBounds_toArray, List.set_cons_zero, List.set_cons_succ]
    refine wpAnyH_done (by kernel_rfl) ?_ _
    go_wp2
    obtain ⟨r1, r2, r3⟩ := dx_end M6.out (g := w.heap.size + 1) (h := w.heap.size + 1 + 1) (List.mem_cons_of_mem _ (List.mem_cons_of_mem _ (List.mem_cons_self ..))) (List.mem_cons_of_mem _ (List.mem_cons_self ..)) rfl rfl (by omega) (.int .i64 0) (.int .u32 0) (.int .i64 0) (.int .i64 0) (.int .i64 0) (.int .u32 t) (.int .i64 7) (.int .i64 220) (.int .u32 0) (.int .i64 0) (.int .i64 0) (.int .i64 0)
    exact bodyPost_ret (results_c2t2 rfl _ _ (w.heap.size + 1) (w.heap.size + 1 + 1) _ _ rfl rfl r1 r2 rfl rfl) rfl ⟨by rw [HZ.out, HDc.out]; rfl, r3.gr⟩
  have hr2 : 31 ≤ room := by omega
  have HZ := hide (HR2.out.2 (by omega))
  clear hr HR2
  go_wp2
  have HSo : Hid (∀ W, w5.grownBy W none → (W.cell? ⟨X, 0, none⟩ = some (.int .i64 5) ∧ W.cell? ⟨X, 1, none⟩ = some (.int .u32 ri) ∧ W.cell? ⟨X, 2, none⟩ = some (.int .i64 rs) ∧ W.cell? ⟨X, 3, none⟩ = some (.int .i64 ru) ∧ W.cell? ⟨X, 4, none⟩ = some (.int .i64 rc) ∧ W.cell? ⟨w.heap.size, 0, none⟩ = some (.int .i64 7) ∧ W.cell? ⟨w.heap.size, 1, none⟩ = some (.int .u32 t) ∧ W.cell? ⟨w.heap.size, 2, none⟩ = some (.int .u32 i1) ∧ W.cell? ⟨w.heap.size, 3, none⟩ = some (.int .i64 s1) ∧ W.cell? ⟨w.heap.size, 4, none⟩ = some (.int .i64 u))) := fun W gW => s10_of (box_to M5.out.b0 gW) (box_to M5.out.b3 gW)
  have hn1 : Hid (w.heap.size + 1 ≠ X) := HNe.out.1
  have hn2 : Hid (w.heap.size + 1 ≠ w.heap.size) := fun e => by omega
  have hn3 : Hid (w.heap.size + 1 + 1 ≠ X) := HNe.out.2
  have hn4 : Hid (w.heap.size + 1 + 1 ≠ w.heap.size) := fun e => by omega
  clear c0 c1 c2 c3 c4 e0 e1 e2 e3 e4
  refine wp_region_held_drew (S := (fun W => (W.cell? ⟨X, 0, none⟩ = some (.int .i64 5) ∧ W.cell? ⟨X, 1, none⟩ = some (.int .u32 ri) ∧ W.cell? ⟨X, 2, none⟩ = some (.int .i64 rs) ∧ W.cell? ⟨X, 3, none⟩ = some (.int .i64 ru) ∧ W.cell? ⟨X, 4, none⟩ = some (.int .i64 rc) ∧ W.cell? ⟨w.heap.size, 0, none⟩ = some (.int .i64 7) ∧ W.cell? ⟨w.heap.size, 1, none⟩ = some (.int .u32 t) ∧ W.cell? ⟨w.heap.size, 2, none⟩ = some (.int .u32 i1) ∧ W.cell? ⟨w.heap.size, 3, none⟩ = some (.int .i64 s1) ∧ W.cell? ⟨w.heap.size, 4, none⟩ = some (.int .i64 u)))) (by kernel_rfl) ?_ (fun hHeld => ?_)
  · (exact HSo.out _ (grown_drew _ none))
  refine tkH (i := 0) (v := ?_) rfl ?_ ?_
  rotate_left
  · (intro w hSw; (try dsimp only at hSw); (go_simp <;> with_reducible rfl))
  try simp only [Act.put, List.setIfInBounds_toArray]
  refine tkH (i := 1) (v := ?_) rfl ?_ ?_
  rotate_left
  · (intro w hSw; (try dsimp only at hSw); (go_simp <;> with_reducible rfl))
  try simp only [Act.put]
  refine tkH (i := 2) (v := ?_) rfl ?_ ?_
  rotate_left
  · (intro w hSw; (try dsimp only at hSw); (go_simp <;> with_reducible rfl))
  try simp only [Act.put]
  refine rdH (i := 3) rfl (fun K hK => ?_)
  go_simp
  refine (HRv.out _).mono ?_; rintro e wa ⟨rfl, hga⟩; have Ga := hide (grown_trans (grown_drew w5 none) hga); have hJ := HSo.out _ Ga.out; have Ma := hide (M5.out.then Ga.out); obtain ⟨⟨d0, d1, d2, d3, d4⟩, d5⟩ := bxf5 Ma.out.b2; obtain ⟨⟨x0, x1, x2, x3, x4, x5, x6⟩, x7⟩ := bxf7 Ma.out.b1
  go_wp2_with fail
  refine hK.out _ _ ?_ (fun hHeld => ?_)
  · ((try dsimp only); first | with_reducible assumption | with_reducible exact s10_set5 hJ hn1.out hn2.out _ _ _ _ _ | with_reducible exact s10_set7 (s10_set5 hJ hn1.out hn2.out _ _ _ _ _) hn3.out hn4.out _ _ _ _ _ _ _)
  clear hK K
  try simp only [Act.put, List.setIfInBounds_toArray, List.set_cons_zero, List.set_cons_succ]
  refine rdH (i := 4) rfl (fun K hK => ?_)
  go_simp
  refine hK.out _ _ ?_ (fun hHeld => ?_)
  · ((try dsimp only); first | with_reducible assumption | with_reducible exact s10_set5 hJ hn1.out hn2.out _ _ _ _ _ | with_reducible exact s10_set7 (s10_set5 hJ hn1.out hn2.out _ _ _ _ _) hn3.out hn4.out _ _ _ _ _ _ _)
  clear hK K
  try simp only [Act.put, List.setIfInBounds_toArray, List.set_cons_zero, List.set_cons_succ]
  refine rdH (i := 5) rfl (fun K hK => ?_)
  go_simp
  refine hK.out _ _ ?_ (fun hHeld => ?_)
  · ((try dsimp only); first | with_reducible assumption | with_reducible exact s10_set5 hJ hn1.out hn2.out _ _ _ _ _ | with_reducible exact s10_set7 (s10_set5 hJ hn1.out hn2.out _ _ _ _ _) hn3.out hn4.out _ _ _ _ _ _ _)
  clear hK K
  try simp only [Act.put, List.setIfInBounds_toArray, List.set_cons_zero, List.set_cons_succ]
  refine tkH (i := 6) (oi := { dst := some 8, op := Go.Op.assign (Go.Operand.const (Go.Value.bool true)), type := 4, pos := "ref.go:115", after := #[{ on := 5, ground := Go.Ground.chain }, { on := 0, ground := Go.Ground.phase }, { on := 1, ground := Go.Ground.phase }, { on := 2, ground := Go.Ground.phase }, { on := 3, ground := Go.Ground.phase }, { on := 4, ground := Go.Ground.phase }, { on := 5, ground := Go.Ground.phase }], guard := none }) (v := ?_) rfl ?_ ?_
  rotate_left
  · (intro w hSw; (try dsimp only at hSw); (go_simp <;> with_reducible rfl))
  try simp only [Act.put, List.setIfInBounds_toArray, List.set_cons_zero, List.set_cons_succ]
  refine tkH (i := 7) (oi := { dst := some 9, op := Go.Op.assign (Go.Operand.const (Go.Value.int Go.IntKind.i64 0)), type := 29, pos := "ref.go:115", after := #[{ on := 6, ground := Go.Ground.chain }, { on := 0, ground := Go.Ground.phase }, { on := 1, ground := Go.Ground.phase }, { on := 2, ground := Go.Ground.phase }, { on := 3, ground := Go.Ground.phase }, { on := 4, ground := Go.Ground.phase }, { on := 5, ground := Go.Ground.phase }, { on := 6, ground := Go.Ground.phase }], guard := none }) (v := ?_) rfl ?_ ?_
  rotate_left
  · (intro w hSw; (try dsimp only at hSw); (go_simp <;> with_reducible rfl))
  try simp only [Act.put, List.setIfInBounds_toArray, List.set_cons_zero, List.set_cons_succ]
  refine wpAnyH_done (by kernel_rfl) ?_ _
  go_wp2
  obtain ⟨r1, r2, r3⟩ := dx_end Ma.out (g := w.heap.size + 1) (h := w.heap.size + 1 + 1) (List.mem_cons_of_mem _ (List.mem_cons_of_mem _ (List.mem_cons_self ..))) (List.mem_cons_of_mem _ (List.mem_cons_self ..)) rfl rfl (by omega) (.int .i64 5) (.int .u32 ri) (.int .i64 rs) (.int .i64 ru) (.int .i64 rc) (.int .u32 t) (.int .i64 7) (.int .i64 0) (.int .u32 0) (.int .i64 0) (.int .i64 rc) (.int .i64 0)
  exact bodyPost_ret (results_c2t2 rfl _ _ (w.heap.size + 1) (w.heap.size + 1 + 1) _ _ rfl rfl r1 r2 rfl rfl) rfl ⟨by rw [HZ.out, HDy.out]; rfl, r3.gr⟩
end Go.Proofs.YtjfhilignbeboaaGreatDoor
namespace Go.Proofs.YtjfhilignbeboaaGreatDoor
/- The document: Answer. -/
open Go.RowKit
attribute [local go_sem ↓] Go.wp_at_zero Go.wp_at_succ
attribute [local go_sem] Oper.semAt_some
section
variable {w W : World} {lo d : Nat} {v : Value} {S : Sb} {Bs Cs : List (Nat × List Value × TypeId)}
theorem Mx.sub (h : Mx w W lo d v S Bs) (hs : ∀ x ∈ Cs, x ∈ Bs) : Mx w W lo d v S Cs := ⟨h.db, h.gr, h.lt, fun x hx => h.bx x (hs x hx)⟩
theorem Mx.put1 {X : Nat} {cs : List Value} {ty : TypeId} (h : Mx w W lo d v S ((X, cs, ty) :: Bs)) (hne : ∀ y ∈ Bs, y.1 ≠ X) (j : Nat) (u : Value) : Mx w (W.setCell ⟨X, j, none⟩ u) lo d v S ((X, cs.set j u, ty) :: Bs) := by
  obtain ⟨h1, h3⟩ := h.bx _ (List.mem_cons_self ..)
  have m := h.wrote (grown_setCell W X j u) h3
  refine ⟨m.db, m.gr, m.lt, fun y hy => ?_⟩
  rcases List.mem_cons.1 hy with rfl | hy
  · exact ⟨row_setCell h1 j u, h3⟩
  · obtain ⟨k1, k3⟩ := h.bx y (List.mem_cons_of_mem _ hy)
    exact ⟨((grown_setCell W X j u).block _ (row_lt k1) (fun e => hne y hy (Option.some.inj e))).trans k1, k3⟩
theorem ax_end {g : Nat} {l7 : List Value} (M : Mx w W lo d v S Bs) (m7 : (g, l7, 31) ∈ Bs) (hl7 : l7.length = 7) (s t u v1 x y z : Value) :
    (((((((W.setCell ⟨g, 0, none⟩ s).setCell ⟨g, 1, none⟩ t).setCell ⟨g, 2, none⟩ u).setCell ⟨g, 3, none⟩ v1).setCell ⟨g, 4, none⟩ x).setCell ⟨g, 5, none⟩ y).setCell ⟨g, 6, none⟩ z).heap[g]? = some (.cells [s, t, u, v1, x, y, z].toArray 31 (0, 0)) ∧ Mx w (((((((W.setCell ⟨g, 0, none⟩ s).setCell ⟨g, 1, none⟩ t).setCell ⟨g, 2, none⟩ u).setCell ⟨g, 3, none⟩ v1).setCell ⟨g, 4, none⟩ x).setCell ⟨g, 5, none⟩ y).setCell ⟨g, 6, none⟩ z) lo d v S [] := by
  obtain ⟨b7, o7⟩ := M.bx _ m7
  obtain ⟨r3, r4⟩ := set7w W hl7 b7 s t u v1 x y z
  exact ⟨r3, M.wrote r4 o7⟩
set_option maxHeartbeats 4000000 in
theorem ranswer_may (h : Db w lo d v S) (q : Rs.Rq) (hq : q.Ok) (hm : ¬ q.May) : Calls Tryz.prog 17 #[.pointer (some ⟨d, 0, none⟩), Rs.rqV q] w fun e w' => e = .returned (anV (Rt.zRy, 200)) ∧ w.grownBy w' none := by
  have HQ := hide (fun W => Rs.rcheck_any q hq W)
  have HM := hide (Mx.two h (Rs.rqC q) [Value.int .u32 0, .int .i64 0, .int .i64 0, .int .u32 0, .int .i64 0, .int .i64 0, .int .i64 0] 25 31)
  have hk : Rs.chk q = 200 := by unfold Rs.chk; rw [if_neg hm]
  rw [hk] at HQ
  clear hk hm h hq
  unfold Rs.rqV at *
  unfold Rs.rqC at HM
  unfold anV Rt.ryV Rt.zRy
  simp only
  obtain ⟨k, t, i, s, u⟩ := q
  simp only at *
  obtain ⟨c0, c1, c2, c3, c4⟩ := bx5 HM.out.b1
  rcases (show k = 5 ∨ k = 6 ∨ k = 10 ∨ (k ≠ 5 ∧ k ≠ 6 ∧ k ≠ 10) by omega) with rfl | rfl | rfl | ⟨h5, h6, h8⟩
  · skip
    go_enter Tryz.func17, Tryz.ntmps17
    go_wp2_with fail
    refine (HQ.out _).mono ?_
    rintro e w2 ⟨rfl, hg⟩
    have M2 := hide (HM.out.then hg)
    clear hg HM HQ c0 c1 c2 c3 c4
    obtain ⟨⟨x0, x1, x2, x3, x4, x5, x6⟩, x7⟩ := bxf7 M2.out.b0
    go_wp2
    obtain ⟨r1, r3⟩ := ax_end M2.out (g := w.heap.size + 1) (List.mem_cons_self ..) rfl (.int .u32 0) (.int .i64 0) (.int .i64 0) (.int .u32 0) (.int .i64 0) (.int .i64 0) (.int .i64 0)
    exact bodyPost_ret (results_c1t1 rfl _ _ (w.heap.size + 1) _ rfl r1 rfl) rfl ⟨rfl, r3.gr⟩
  · skip
    go_enter Tryz.func17, Tryz.ntmps17
    go_wp2_with fail
    refine (HQ.out _).mono ?_
    rintro e w2 ⟨rfl, hg⟩
    have M2 := hide (HM.out.then hg)
    clear hg HM HQ c0 c1 c2 c3 c4
    obtain ⟨⟨x0, x1, x2, x3, x4, x5, x6⟩, x7⟩ := bxf7 M2.out.b0
    go_wp2
    obtain ⟨r1, r3⟩ := ax_end M2.out (g := w.heap.size + 1) (List.mem_cons_self ..) rfl (.int .u32 0) (.int .i64 0) (.int .i64 0) (.int .u32 0) (.int .i64 0) (.int .i64 0) (.int .i64 0)
    exact bodyPost_ret (results_c1t1 rfl _ _ (w.heap.size + 1) _ rfl r1 rfl) rfl ⟨rfl, r3.gr⟩
  · skip
    go_enter Tryz.func17, Tryz.ntmps17
    go_wp2_with fail
    refine (HQ.out _).mono ?_
    rintro e w2 ⟨rfl, hg⟩
    have M2 := hide (HM.out.then hg)
    clear hg HM HQ c0 c1 c2 c3 c4
    obtain ⟨⟨x0, x1, x2, x3, x4, x5, x6⟩, x7⟩ := bxf7 M2.out.b0
    go_wp2
    obtain ⟨r1, r3⟩ := ax_end M2.out (g := w.heap.size + 1) (List.mem_cons_self ..) rfl (.int .u32 0) (.int .i64 0) (.int .i64 0) (.int .u32 0) (.int .i64 0) (.int .i64 0) (.int .i64 0)
    exact bodyPost_ret (results_c1t1 rfl _ _ (w.heap.size + 1) _ rfl r1 rfl) rfl ⟨rfl, r3.gr⟩
  · skip
    have f5 : (k == 5) = false := by simpa using h5
    have g5 : decide (k = 5) = false := by simpa using h5
    have f6 : (k == 6) = false := by simpa using h6
    have g6 : decide (k = 6) = false := by simpa using h6
    have f8 : (k == 10) = false := by simpa using h8
    have g8 : decide (k = 10) = false := by simpa using h8
    clear h5 h6 h8
    go_enter Tryz.func17, Tryz.ntmps17
    go_wp2_with fail
    refine (HQ.out _).mono ?_
    rintro e w2 ⟨rfl, hg⟩
    have M2 := hide (HM.out.then hg)
    clear hg HM HQ c0 c1 c2 c3 c4
    obtain ⟨⟨x0, x1, x2, x3, x4, x5, x6⟩, x7⟩ := bxf7 M2.out.b0
    go_wp2
    obtain ⟨r1, r3⟩ := ax_end M2.out (g := w.heap.size + 1) (List.mem_cons_self ..) rfl (.int .u32 0) (.int .i64 0) (.int .i64 0) (.int .u32 0) (.int .i64 0) (.int .i64 0) (.int .i64 0)
    exact bodyPost_ret (results_c1t1 rfl _ _ (w.heap.size + 1) _ rfl r1 rfl) rfl ⟨rfl, r3.gr⟩
set_option maxHeartbeats 4000000 in
theorem ranswer_kind (h : Db w lo d v S) (q : Rs.Rq) (hq : q.Ok) (hm : q.May) (h5 : q.k ≠ 5) (h6 : q.k ≠ 6) (h8 : q.k ≠ 10) : Calls Tryz.prog 17 #[.pointer (some ⟨d, 0, none⟩), Rs.rqV q] w fun e w' => e = .returned (anV (Rt.zRy, 200)) ∧ w.grownBy w' none := by
  have HQ := hide (fun W => Rs.rcheck_any q hq W)
  have HM := hide (Mx.two h (Rs.rqC q) [Value.int .u32 0, .int .i64 0, .int .i64 0, .int .u32 0, .int .i64 0, .int .i64 0, .int .i64 0] 25 31)
  have hk : Rs.chk q = 0 := by unfold Rs.chk; rw [if_pos hm]
  rw [hk] at HQ
  clear hk hm h hq
  unfold Rs.rqV at *
  unfold Rs.rqC at HM
  unfold anV Rt.ryV Rt.zRy
  simp only
  obtain ⟨k, t, i, s, u⟩ := q
  simp only at *
  obtain ⟨c0, c1, c2, c3, c4⟩ := bx5 HM.out.b1
  · skip
    have f5 : (k == 5) = false := by simpa using h5
    have g5 : decide (k = 5) = false := by simpa using h5
    have f6 : (k == 6) = false := by simpa using h6
    have g6 : decide (k = 6) = false := by simpa using h6
    have f8 : (k == 10) = false := by simpa using h8
    have g8 : decide (k = 10) = false := by simpa using h8
    clear h5 h6 h8
    go_enter Tryz.func17, Tryz.ntmps17
    go_wp2_with fail
    refine (HQ.out _).mono ?_
    rintro e w2 ⟨rfl, hg⟩
    have M2 := hide (HM.out.then hg)
    clear hg HM HQ c0 c1 c2 c3 c4
    obtain ⟨⟨x0, x1, x2, x3, x4, x5, x6⟩, x7⟩ := bxf7 M2.out.b0
    go_wp2
    obtain ⟨r1, r3⟩ := ax_end M2.out (g := w.heap.size + 1) (List.mem_cons_self ..) rfl (.int .u32 0) (.int .i64 0) (.int .i64 0) (.int .u32 0) (.int .i64 0) (.int .i64 0) (.int .i64 0)
    exact bodyPost_ret (results_c1t1 rfl _ _ (w.heap.size + 1) _ rfl r1 rfl) rfl ⟨rfl, r3.gr⟩
end
end Go.Proofs.YtjfhilignbeboaaGreatDoor
namespace Go.Proofs.YtjfhilignbeboaaGreatDoor
/- The document: Answer of the kind 5. -/
open Go.RowKit
attribute [local go_sem ↓] Go.wp_at_zero Go.wp_at_succ
attribute [local go_sem] Oper.semAt_some
section
variable {w W : World} {lo d : Nat} {v : Value} {S : Sb} {Bs Cs : List (Nat × List Value × TypeId)}
set_option maxRecDepth 20000 in
set_option maxHeartbeats 8000000 in
theorem ranswer_5 (h : Db w lo d v S) (ho : S.Ok) (t : Int) (i s : Nat) (u : Int) (hq : Rs.Rq.Ok ⟨5, t, (i : Int), (s : Int), u⟩) (hm : Rs.Rq.May ⟨5, t, (i : Int), (s : Int), u⟩) : Calls Tryz.prog 17 #[.pointer (some ⟨d, 0, none⟩), .agg #[.int .i64 5, .int .u32 t, .int .u32 (i : Int), .int .i64 (s : Int), .int .i64 u]] w fun e w' => e = .returned (anV (ans S ⟨5, t, (i : Int), (s : Int), u⟩)) ∧ w.grownBy w' none := by
  obtain ⟨res, hres⟩ : ∃ res, res = ans S ⟨5, t, (i : Int), (s : Int), u⟩ := ⟨_, rfl⟩
  rw [← hres]
  have hrs : res = (ansY S ⟨5, t, (i : Int), (s : Int), u⟩, 0) := by rw [hres]; unfold ans; rw [if_pos ⟨hm, by simp⟩]
  have hk : Rs.chk ⟨5, t, (i : Int), (s : Int), u⟩ = 0 := by unfold Rs.chk; rw [if_pos hm]
  have HQ := hide (fun W => Rs.rcheck_any ⟨5, t, (i : Int), (s : Int), u⟩ hq W)
  rw [hk] at HQ
  have HM := hide (Mx.two h (Rs.rqC ⟨5, t, (i : Int), (s : Int), u⟩) [Value.int .u32 0, .int .i64 0, .int .i64 0, .int .u32 0, .int .i64 0, .int .i64 0, .int .i64 0] 25 31)
  have HH : Hid (∀ W, Db W lo d v S → Calls Tryz.prog 55 #[.pointer (some ⟨d, 0, none⟩), .int .u32 (i : Int)] W fun e w' => e = .returned (.tuple #[bgV ((fnd S.L i).getD ⟨0, 0, 0⟩), .bool (fnd S.L i).isSome]) ∧ W.grownBy w' none) := fun W hW => has_any hW ho i
  have HO : Hid (∀ W, Db W lo d v S → Calls Tryz.prog 56 #[.pointer (some ⟨d, 0, none⟩), .int .i64 (s : Int)] W fun e w' => e = .returned (.tuple #[bgV ((sat S.L s).getD ⟨0, 0, 0⟩), .bool (sat S.L s).isSome]) ∧ W.grownBy w' none) := fun W hW => on_any hW ho s
  have HNum : Hid (((fnd S.L i).isSome = true → res = (⟨t, 5, 0, 0, (((fnd S.L i).getD ⟨0, 0, 0⟩).s : Int), ((fnd S.L i).getD ⟨0, 0, 0⟩).u, 0⟩, 0)) ∧ ((fnd S.L i).isSome = false → res = (⟨t, 5, 171, 0, 0, 0, 0⟩, 0))) := by
    have e1 : ansY S ⟨5, t, (i : Int), (s : Int), u⟩ = ⟨t, 5, idE S ⟨5, t, (i : Int), (s : Int), u⟩, 0, (((fnd S.L i).getD ⟨0, 0, 0⟩).s : Int), ((fnd S.L i).getD ⟨0, 0, 0⟩).u, 0⟩ := rfl
    refine ⟨fun hx => by rw [hrs, e1, idE_0 hx], fun hx => ?_⟩
    rw [hrs, e1, idE_171 hx]
    cases hq : fnd S.L i with
    | none => rfl
    | some z => rw [hq] at hx; cases hx
  clear h ho hq hm hres hrs hk
  generalize (fnd S.L i).getD ⟨0, 0, 0⟩ = x at *
  generalize (sat S.L s).getD ⟨0, 0, 0⟩ = y at *
  generalize (fnd S.L i).isSome = bx at *
  generalize (sat S.L s).isSome = by' at *
  obtain ⟨xi, xs, xu⟩ := x
  obtain ⟨yi, ys, yu⟩ := y
  unfold bgV at HH HO
  unfold Rs.rqV at *
  unfold Rs.rqC at HM
  simp only at *
  generalize (i : Int) = I at *
  generalize (s : Int) = s1 at *
  obtain ⟨c0, c1, c2, c3, c4⟩ := bx5 HM.out.b1
  go_enter Tryz.func17, Tryz.ntmps17
  go_wp2_with fail
  refine (HQ.out _).mono ?_
  rintro e w2 ⟨rfl, hg⟩
  have M2 := hide (HM.out.then hg)
  clear hg HM HQ c0 c1 c2 c3 c4
  obtain ⟨c0, c1, c2, c3, c4⟩ := bx5 M2.out.b1
  have HNe : Hid (w.heap.size + 1 < w2.heap.size) := row_lt M2.out.b0
  have M3 := hide (M2.out.box [.int .u32 t, .int .i64 5, .int .i64 0, .int .u32 0, .int .i64 0, .int .i64 0, .int .i64 0] 31)
  obtain ⟨k0, k1, k2, k3, k4⟩ := bx5 M3.out.b2
  go_wp2_with fail
  generalize hY : w2.heap.size = Y at *
  generalize World.alloc w2 _ = w3 at *
  clear hY M2 c0 c1 c2 c3 c4
  refine (HH.out _ M3.out.db).mono ?_
  rintro e w4 ⟨rfl, hg⟩
  have M4 := hide (M3.out.then hg)
  have HNe8 : Hid (Y < w4.heap.size) := row_lt M4.out.b0
  have M5 := hide (M4.out.box [.int .u32 (xi : Int), .int .i64 (xs : Int), .int .i64 xu] 51)
  clear hg M3 M4 HH k0 k1 k2 k3 k4
  obtain ⟨k0, k1, k2, k3, k4⟩ := bx5 M5.out.b3
  go_wp2_with fail
  generalize hX8 : w4.heap.size = X8 at *
  generalize World.alloc w4 _ = w5 at *
  clear hX8
  refine (HO.out _ M5.out.db).mono ?_
  rintro e w6 ⟨rfl, hg⟩
  have M6 := hide (M5.out.then hg)
  have HNe10 : Hid (X8 < w6.heap.size) := row_lt M6.out.b0
  have M7 := hide (M6.out.box [.int .u32 (yi : Int), .int .i64 (ys : Int), .int .i64 yu] 51)
  clear hg M5 M6 HO k0 k1 k2 k3 k4
  obtain ⟨k0, k1, k2, k3, k4⟩ := bx5 M7.out.b4
  go_upto_region 8 with fail
  generalize hX10 : w6.heap.size = X10 at *
  generalize World.alloc w6 _ = w7 at *
  clear hX10
  have M8 := hide (M7.out.sub (Cs := [(Y, _, 31), (X8, _, 51), (X10, _, 51), (w.heap.size + 1, _, 31), (w.heap.size, _, 25)]) (fun y hy => by
    rcases List.mem_cons.1 hy with rfl | hy
    · exact (List.mem_cons_of_mem _ (List.mem_cons_of_mem _ (List.mem_cons_self ..)))
    rcases List.mem_cons.1 hy with rfl | hy
    · exact (List.mem_cons_of_mem _ (List.mem_cons_self ..))
    rcases List.mem_cons.1 hy with rfl | hy
    · exact (List.mem_cons_self ..)
    rcases List.mem_cons.1 hy with rfl | hy
    · exact (List.mem_cons_of_mem _ (List.mem_cons_of_mem _ (List.mem_cons_of_mem _ (List.mem_cons_self ..))))
    rcases List.mem_cons.1 hy with rfl | hy
    · exact (List.mem_cons_of_mem _ (List.mem_cons_of_mem _ (List.mem_cons_of_mem _ (List.mem_cons_of_mem _ (List.mem_cons_self ..)))))
    cases hy))
  have HNo : Hid (∀ (a b c d : List Value) (y : Nat × List Value × TypeId), y ∈ [(X8, a, (51 : TypeId)), (X10, b, 51), (w.heap.size + 1, c, 31), (w.heap.size, d, 25)] → y.1 ≠ Y) := fun a b c d y hy => by
    have h1 := HNe.out
    have h2 := HNe8.out
    have h3 := HNe10.out
    rcases List.mem_cons.1 hy with rfl | hy
    · exact fun e => by simp only at e; omega
    rcases List.mem_cons.1 hy with rfl | hy
    · exact fun e => by simp only at e; omega
    rcases List.mem_cons.1 hy with rfl | hy
    · exact fun e => by simp only at e; omega
    rcases List.mem_cons.1 hy with rfl | hy
    · exact fun e => by simp only at e; omega
    cases hy
  clear M7 k0 k1 k2 k3 k4
  obtain ⟨k0, k1, k2, k3, k4⟩ := bx5 M8.out.b4
  obtain ⟨⟨y0, y1, y2, y3, y4, y5, y6⟩, y7⟩ := bxf7 M8.out.b0
  obtain ⟨u0, u1, u2, -⟩ := box3 M8.out.b1
  obtain ⟨v0, v1, v2, -⟩ := box3 M8.out.b2
  have a1 := M8.out.db.cell (j := 1) rfl
  have a4 := M8.out.db.cell (j := 4) rfl
  cases bx with
  | true =>
    have HV := hide (HNum.out.1 rfl)
    have M9 := hide (M8.out.put1 (HNo.out _ _ _ _) 4 (.int .i64 (xs : Int)))
    go_upto_region 12 with fail
    generalize World.setCell _ _ _ = ws1 at *
    clear k0 k1 k2 k3 k4 y0 y1 y2 y3 y4 y5 y6 y7 u0 u1 u2 v0 v1 v2 a1 a4
    clear M8
    have M8 := M9
    clear M9
    obtain ⟨k0, k1, k2, k3, k4⟩ := bx5 M8.out.b4
    obtain ⟨⟨y0, y1, y2, y3, y4, y5, y6⟩, y7⟩ := bxf7 M8.out.b0
    obtain ⟨u0, u1, u2, -⟩ := box3 M8.out.b1
    obtain ⟨v0, v1, v2, -⟩ := box3 M8.out.b2
    have a1 := M8.out.db.cell (j := 1) rfl
    have a4 := M8.out.db.cell (j := 4) rfl
    have M9 := hide (M8.out.put1 (HNo.out _ _ _ _) 5 (.int .i64 xu))
    go_upto_region 18 with fail
    generalize World.setCell _ _ _ = ws2 at *
    clear k0 k1 k2 k3 k4 y0 y1 y2 y3 y4 y5 y6 y7 u0 u1 u2 v0 v1 v2 a1 a4
    clear M8
    have M8 := M9
    clear M9
    obtain ⟨k0, k1, k2, k3, k4⟩ := bx5 M8.out.b4
    obtain ⟨⟨y0, y1, y2, y3, y4, y5, y6⟩, y7⟩ := bxf7 M8.out.b0
    obtain ⟨u0, u1, u2, -⟩ := box3 M8.out.b1
    obtain ⟨v0, v1, v2, -⟩ := box3 M8.out.b2
    have a1 := M8.out.db.cell (j := 1) rfl
    have a4 := M8.out.db.cell (j := 4) rfl
    clear k0 k1 k2 k3 k4 y0 y1 y2 y3 y4 y5 y6 y7 u0 u1 u2 v0 v1 v2 a1 a4
    obtain ⟨y0, y1, y2, y3, y4, y5, y6⟩ := bx7 M8.out.b0
    obtain ⟨⟨x0, x1, x2, x3, x4, x5, x6⟩, x7⟩ := bxf7 M8.out.b3
    go_wp2
    obtain ⟨r1, r3⟩ := ax_end M8.out (g := w.heap.size + 1) (List.mem_cons_of_mem _ (List.mem_cons_of_mem _ (List.mem_cons_of_mem _ (List.mem_cons_self ..)))) rfl (.int .u32 t) (.int .i64 5) (.int .i64 0) (.int .u32 0) (.int .i64 (xs : Int)) (.int .i64 xu) (.int .i64 0)
    exact bodyPost_ret (results_c1t1 rfl _ _ (w.heap.size + 1) _ rfl r1 rfl) rfl ⟨by rw [HV.out]; rfl, r3.gr⟩
  | false =>
    have HV := hide (HNum.out.2 rfl)
    go_wp2
    go_quiet (fail)
    clear k0 k1 k2 k3 k4 y0 y1 y2 y3 y4 y5 y6 y7 u0 u1 u2 v0 v1 v2 a1 a4
    have M9 := hide (M8.out.then (grown_drewN _ nq none))
    clear M8
    generalize World.drewN _ nq = wq at *
    have M8 := M9
    clear M9
    obtain ⟨k0, k1, k2, k3, k4⟩ := bx5 M8.out.b4
    obtain ⟨⟨y0, y1, y2, y3, y4, y5, y6⟩, y7⟩ := bxf7 M8.out.b0
    obtain ⟨u0, u1, u2, -⟩ := box3 M8.out.b1
    obtain ⟨v0, v1, v2, -⟩ := box3 M8.out.b2
    have a1 := M8.out.db.cell (j := 1) rfl
    have a4 := M8.out.db.cell (j := 4) rfl
    have M9 := hide (M8.out.put1 (HNo.out _ _ _ _) 2 (.int .i64 171))
    go_upto_region 18 with fail
    generalize World.setCell _ _ _ = ws3 at *
    clear k0 k1 k2 k3 k4 y0 y1 y2 y3 y4 y5 y6 y7 u0 u1 u2 v0 v1 v2 a1 a4
    clear M8
    have M8 := M9
    clear M9
    obtain ⟨k0, k1, k2, k3, k4⟩ := bx5 M8.out.b4
    obtain ⟨⟨y0, y1, y2, y3, y4, y5, y6⟩, y7⟩ := bxf7 M8.out.b0
    obtain ⟨u0, u1, u2, -⟩ := box3 M8.out.b1
    obtain ⟨v0, v1, v2, -⟩ := box3 M8.out.b2
    have a1 := M8.out.db.cell (j := 1) rfl
    have a4 := M8.out.db.cell (j := 4) rfl
    clear k0 k1 k2 k3 k4 y0 y1 y2 y3 y4 y5 y6 y7 u0 u1 u2 v0 v1 v2 a1 a4
    obtain ⟨y0, y1, y2, y3, y4, y5, y6⟩ := bx7 M8.out.b0
    obtain ⟨⟨x0, x1, x2, x3, x4, x5, x6⟩, x7⟩ := bxf7 M8.out.b3
    go_wp2
    obtain ⟨r1, r3⟩ := ax_end M8.out (g := w.heap.size + 1) (List.mem_cons_of_mem _ (List.mem_cons_of_mem _ (List.mem_cons_of_mem _ (List.mem_cons_self ..)))) rfl (.int .u32 t) (.int .i64 5) (.int .i64 171) (.int .u32 0) (.int .i64 0) (.int .i64 0) (.int .i64 0)
    exact bodyPost_ret (results_c1t1 rfl _ _ (w.heap.size + 1) _ rfl r1 rfl) rfl ⟨by rw [HV.out]; rfl, r3.gr⟩
end
end Go.Proofs.YtjfhilignbeboaaGreatDoor
namespace Go.Proofs.YtjfhilignbeboaaGreatDoor
/- The document: Answer of the kind 6. -/
open Go.RowKit
attribute [local go_sem ↓] Go.wp_at_zero Go.wp_at_succ
attribute [local go_sem] Oper.semAt_some
section
variable {w W : World} {lo d : Nat} {v : Value} {S : Sb} {Bs Cs : List (Nat × List Value × TypeId)}
set_option maxRecDepth 20000 in
set_option maxHeartbeats 8000000 in
theorem ranswer_6 (h : Db w lo d v S) (ho : S.Ok) (t : Int) (i s : Nat) (u : Int) (hq : Rs.Rq.Ok ⟨6, t, (i : Int), (s : Int), u⟩) (hm : Rs.Rq.May ⟨6, t, (i : Int), (s : Int), u⟩) : Calls Tryz.prog 17 #[.pointer (some ⟨d, 0, none⟩), .agg #[.int .i64 6, .int .u32 t, .int .u32 (i : Int), .int .i64 (s : Int), .int .i64 u]] w fun e w' => e = .returned (anV (ans S ⟨6, t, (i : Int), (s : Int), u⟩)) ∧ w.grownBy w' none := by
  obtain ⟨res, hres⟩ : ∃ res, res = ans S ⟨6, t, (i : Int), (s : Int), u⟩ := ⟨_, rfl⟩
  rw [← hres]
  have hrs : res = (ansY S ⟨6, t, (i : Int), (s : Int), u⟩, 0) := by rw [hres]; unfold ans; rw [if_pos ⟨hm, by simp⟩]
  have hk : Rs.chk ⟨6, t, (i : Int), (s : Int), u⟩ = 0 := by unfold Rs.chk; rw [if_pos hm]
  have HQ := hide (fun W => Rs.rcheck_any ⟨6, t, (i : Int), (s : Int), u⟩ hq W)
  rw [hk] at HQ
  have HM := hide (Mx.two h (Rs.rqC ⟨6, t, (i : Int), (s : Int), u⟩) [Value.int .u32 0, .int .i64 0, .int .i64 0, .int .u32 0, .int .i64 0, .int .i64 0, .int .i64 0] 25 31)
  have HH : Hid (∀ W, Db W lo d v S → Calls Tryz.prog 55 #[.pointer (some ⟨d, 0, none⟩), .int .u32 (i : Int)] W fun e w' => e = .returned (.tuple #[bgV ((fnd S.L i).getD ⟨0, 0, 0⟩), .bool (fnd S.L i).isSome]) ∧ W.grownBy w' none) := fun W hW => has_any hW ho i
  have HO : Hid (∀ W, Db W lo d v S → Calls Tryz.prog 56 #[.pointer (some ⟨d, 0, none⟩), .int .i64 (s : Int)] W fun e w' => e = .returned (.tuple #[bgV ((sat S.L s).getD ⟨0, 0, 0⟩), .bool (sat S.L s).isSome]) ∧ W.grownBy w' none) := fun W hW => on_any hW ho s
  have HNum : Hid ((¬ (s : Int) < (S.a : Int) → res = (⟨t, 6, 140, 0, 0, 0, 0⟩, 0)) ∧ ((s : Int) < (S.a : Int) → (sat S.L s).isSome = true → res = (⟨t, 6, 0, (((sat S.L s).getD ⟨0, 0, 0⟩).i : Int), 0, ((sat S.L s).getD ⟨0, 0, 0⟩).u, 0⟩, 0)) ∧ ((s : Int) < (S.a : Int) → (sat S.L s).isSome = false → res = (⟨t, 6, 171, 0, 0, 0, 0⟩, 0))) := by
    have e1 : ansY S ⟨6, t, (i : Int), (s : Int), u⟩ = ⟨t, 6, atE S (s : Int), ((atX S (s : Int)).i : Int), 0, (atX S (s : Int)).u, 0⟩ := rfl
    refine ⟨fun hx => ?_, fun hx hy => ?_, fun hx hy => ?_⟩
    · rw [hrs, e1, atE_nat, if_neg hx, show atX S (s : Int) = ⟨0, 0, 0⟩ from by unfold atX; rw [if_neg (fun x => hx x.2)]]; rfl
    · rw [hrs, e1, atE_nat, if_pos hx, if_pos hy, atX_nat hx]
    · rw [hrs, e1, atE_nat, if_pos hx, if_neg (by rw [hy]; decide), atX_nat hx]
      cases hq : sat S.L s with
      | none => rfl
      | some z => rw [hq] at hy; cases hy
  clear h ho hq hm hres hrs hk
  generalize (fnd S.L i).getD ⟨0, 0, 0⟩ = x at *
  generalize (sat S.L s).getD ⟨0, 0, 0⟩ = y at *
  generalize (fnd S.L i).isSome = bx at *
  generalize (sat S.L s).isSome = by' at *
  obtain ⟨xi, xs, xu⟩ := x
  obtain ⟨yi, ys, yu⟩ := y
  unfold bgV at HH HO
  unfold Rs.rqV at *
  unfold Rs.rqC at HM
  simp only at *
  generalize (i : Int) = I at *
  generalize (s : Int) = s1 at *
  obtain ⟨c0, c1, c2, c3, c4⟩ := bx5 HM.out.b1
  go_enter Tryz.func17, Tryz.ntmps17
  go_wp2_with fail
  refine (HQ.out _).mono ?_
  rintro e w2 ⟨rfl, hg⟩
  have M2 := hide (HM.out.then hg)
  clear hg HM HQ c0 c1 c2 c3 c4
  obtain ⟨c0, c1, c2, c3, c4⟩ := bx5 M2.out.b1
  have HNe : Hid (w.heap.size + 1 < w2.heap.size) := row_lt M2.out.b0
  have M3 := hide (M2.out.box [.int .u32 t, .int .i64 6, .int .i64 0, .int .u32 0, .int .i64 0, .int .i64 0, .int .i64 0] 31)
  obtain ⟨k0, k1, k2, k3, k4⟩ := bx5 M3.out.b2
  go_wp2_with fail
  generalize hY : w2.heap.size = Y at *
  generalize World.alloc w2 _ = w3 at *
  clear hY M2 c0 c1 c2 c3 c4
  refine (HH.out _ M3.out.db).mono ?_
  rintro e w4 ⟨rfl, hg⟩
  have M4 := hide (M3.out.then hg)
  have HNe8 : Hid (Y < w4.heap.size) := row_lt M4.out.b0
  have M5 := hide (M4.out.box [.int .u32 (xi : Int), .int .i64 (xs : Int), .int .i64 xu] 51)
  clear hg M3 M4 HH k0 k1 k2 k3 k4
  obtain ⟨k0, k1, k2, k3, k4⟩ := bx5 M5.out.b3
  go_wp2_with fail
  generalize hX8 : w4.heap.size = X8 at *
  generalize World.alloc w4 _ = w5 at *
  clear hX8
  refine (HO.out _ M5.out.db).mono ?_
  rintro e w6 ⟨rfl, hg⟩
  have M6 := hide (M5.out.then hg)
  have HNe10 : Hid (X8 < w6.heap.size) := row_lt M6.out.b0
  have M7 := hide (M6.out.box [.int .u32 (yi : Int), .int .i64 (ys : Int), .int .i64 yu] 51)
  clear hg M5 M6 HO k0 k1 k2 k3 k4
  obtain ⟨k0, k1, k2, k3, k4⟩ := bx5 M7.out.b4
  go_upto_region 8 with fail
  generalize hX10 : w6.heap.size = X10 at *
  generalize World.alloc w6 _ = w7 at *
  clear hX10
  have M8 := hide (M7.out.sub (Cs := [(Y, _, 31), (X8, _, 51), (X10, _, 51), (w.heap.size + 1, _, 31), (w.heap.size, _, 25)]) (fun y hy => by
    rcases List.mem_cons.1 hy with rfl | hy
    · exact (List.mem_cons_of_mem _ (List.mem_cons_of_mem _ (List.mem_cons_self ..)))
    rcases List.mem_cons.1 hy with rfl | hy
    · exact (List.mem_cons_of_mem _ (List.mem_cons_self ..))
    rcases List.mem_cons.1 hy with rfl | hy
    · exact (List.mem_cons_self ..)
    rcases List.mem_cons.1 hy with rfl | hy
    · exact (List.mem_cons_of_mem _ (List.mem_cons_of_mem _ (List.mem_cons_of_mem _ (List.mem_cons_self ..))))
    rcases List.mem_cons.1 hy with rfl | hy
    · exact (List.mem_cons_of_mem _ (List.mem_cons_of_mem _ (List.mem_cons_of_mem _ (List.mem_cons_of_mem _ (List.mem_cons_self ..)))))
    cases hy))
  have HNo : Hid (∀ (a b c d : List Value) (y : Nat × List Value × TypeId), y ∈ [(X8, a, (51 : TypeId)), (X10, b, 51), (w.heap.size + 1, c, 31), (w.heap.size, d, 25)] → y.1 ≠ Y) := fun a b c d y hy => by
    have h1 := HNe.out
    have h2 := HNe8.out
    have h3 := HNe10.out
    rcases List.mem_cons.1 hy with rfl | hy
    · exact fun e => by simp only at e; omega
    rcases List.mem_cons.1 hy with rfl | hy
    · exact fun e => by simp only at e; omega
    rcases List.mem_cons.1 hy with rfl | hy
    · exact fun e => by simp only at e; omega
    rcases List.mem_cons.1 hy with rfl | hy
    · exact fun e => by simp only at e; omega
    cases hy
  clear M7 k0 k1 k2 k3 k4
  obtain ⟨k0, k1, k2, k3, k4⟩ := bx5 M8.out.b4
  obtain ⟨⟨y0, y1, y2, y3, y4, y5, y6⟩, y7⟩ := bxf7 M8.out.b0
  obtain ⟨u0, u1, u2, -⟩ := box3 M8.out.b1
  obtain ⟨v0, v1, v2, -⟩ := box3 M8.out.b2
  have a1 := M8.out.db.cell (j := 1) rfl
  have a4 := M8.out.db.cell (j := 4) rfl
  by_cases hs : s1 < (S.a : Int)
  rotate_left
  · have HV := hide (HNum.out.1 (by omega))
    have hs2 : (S.a : Int) ≤ s1 := by omega
    clear hs
    go_wp2
    go_quiet (fail)
    clear k0 k1 k2 k3 k4 y0 y1 y2 y3 y4 y5 y6 y7 u0 u1 u2 v0 v1 v2 a1 a4
    have M9 := hide (M8.out.then (grown_drewN _ nq none))
    clear M8
    generalize World.drewN _ nq = wq at *
    have M8 := M9
    clear M9
    obtain ⟨k0, k1, k2, k3, k4⟩ := bx5 M8.out.b4
    obtain ⟨⟨y0, y1, y2, y3, y4, y5, y6⟩, y7⟩ := bxf7 M8.out.b0
    obtain ⟨u0, u1, u2, -⟩ := box3 M8.out.b1
    obtain ⟨v0, v1, v2, -⟩ := box3 M8.out.b2
    have a1 := M8.out.db.cell (j := 1) rfl
    have a4 := M8.out.db.cell (j := 4) rfl
    have M9 := hide (M8.out.put1 (HNo.out _ _ _ _) 2 (.int .i64 140))
    go_upto_region 18 with fail
    generalize World.setCell _ _ _ = ws1 at *
    clear k0 k1 k2 k3 k4 y0 y1 y2 y3 y4 y5 y6 y7 u0 u1 u2 v0 v1 v2 a1 a4
    clear M8
    have M8 := M9
    clear M9
    obtain ⟨k0, k1, k2, k3, k4⟩ := bx5 M8.out.b4
    obtain ⟨⟨y0, y1, y2, y3, y4, y5, y6⟩, y7⟩ := bxf7 M8.out.b0
    obtain ⟨u0, u1, u2, -⟩ := box3 M8.out.b1
    obtain ⟨v0, v1, v2, -⟩ := box3 M8.out.b2
    have a1 := M8.out.db.cell (j := 1) rfl
    have a4 := M8.out.db.cell (j := 4) rfl
    clear k0 k1 k2 k3 k4 y0 y1 y2 y3 y4 y5 y6 y7 u0 u1 u2 v0 v1 v2 a1 a4
    obtain ⟨y0, y1, y2, y3, y4, y5, y6⟩ := bx7 M8.out.b0
    obtain ⟨⟨x0, x1, x2, x3, x4, x5, x6⟩, x7⟩ := bxf7 M8.out.b3
    go_wp2
    obtain ⟨r1, r3⟩ := ax_end M8.out (g := w.heap.size + 1) (List.mem_cons_of_mem _ (List.mem_cons_of_mem _ (List.mem_cons_of_mem _ (List.mem_cons_self ..)))) rfl (.int .u32 t) (.int .i64 6) (.int .i64 140) (.int .u32 0) (.int .i64 0) (.int .i64 0) (.int .i64 0)
    exact bodyPost_ret (results_c1t1 rfl _ _ (w.heap.size + 1) _ rfl r1 rfl) rfl ⟨by rw [HV.out]; rfl, r3.gr⟩
  cases by' with
  | true =>
    have HV := hide (HNum.out.2.1 hs rfl)
    go_wp2
    go_quiet (fail)
    clear k0 k1 k2 k3 k4 y0 y1 y2 y3 y4 y5 y6 y7 u0 u1 u2 v0 v1 v2 a1 a4
    have M9 := hide (M8.out.then (grown_drewN _ nq none))
    clear M8
    generalize World.drewN _ nq = wq at *
    have M8 := M9
    clear M9
    obtain ⟨k0, k1, k2, k3, k4⟩ := bx5 M8.out.b4
    obtain ⟨⟨y0, y1, y2, y3, y4, y5, y6⟩, y7⟩ := bxf7 M8.out.b0
    obtain ⟨u0, u1, u2, -⟩ := box3 M8.out.b1
    obtain ⟨v0, v1, v2, -⟩ := box3 M8.out.b2
    have a1 := M8.out.db.cell (j := 1) rfl
    have a4 := M8.out.db.cell (j := 4) rfl
    have M9 := hide (M8.out.put1 (HNo.out _ _ _ _) 3 (.int .u32 (yi : Int)))
    go_upto_region 17 with fail
    generalize World.setCell _ _ _ = ws2 at *
    clear k0 k1 k2 k3 k4 y0 y1 y2 y3 y4 y5 y6 y7 u0 u1 u2 v0 v1 v2 a1 a4
    clear M8
    have M8 := M9
    clear M9
    obtain ⟨k0, k1, k2, k3, k4⟩ := bx5 M8.out.b4
    obtain ⟨⟨y0, y1, y2, y3, y4, y5, y6⟩, y7⟩ := bxf7 M8.out.b0
    obtain ⟨u0, u1, u2, -⟩ := box3 M8.out.b1
    obtain ⟨v0, v1, v2, -⟩ := box3 M8.out.b2
    have a1 := M8.out.db.cell (j := 1) rfl
    have a4 := M8.out.db.cell (j := 4) rfl
    have M9 := hide (M8.out.put1 (HNo.out _ _ _ _) 5 (.int .i64 yu))
    go_upto_region 18 with fail
    generalize World.setCell _ _ _ = ws3 at *
    clear k0 k1 k2 k3 k4 y0 y1 y2 y3 y4 y5 y6 y7 u0 u1 u2 v0 v1 v2 a1 a4
    clear M8
    have M8 := M9
    clear M9
    obtain ⟨k0, k1, k2, k3, k4⟩ := bx5 M8.out.b4
    obtain ⟨⟨y0, y1, y2, y3, y4, y5, y6⟩, y7⟩ := bxf7 M8.out.b0
    obtain ⟨u0, u1, u2, -⟩ := box3 M8.out.b1
    obtain ⟨v0, v1, v2, -⟩ := box3 M8.out.b2
    have a1 := M8.out.db.cell (j := 1) rfl
    have a4 := M8.out.db.cell (j := 4) rfl
    clear k0 k1 k2 k3 k4 y0 y1 y2 y3 y4 y5 y6 y7 u0 u1 u2 v0 v1 v2 a1 a4
    obtain ⟨y0, y1, y2, y3, y4, y5, y6⟩ := bx7 M8.out.b0
    obtain ⟨⟨x0, x1, x2, x3, x4, x5, x6⟩, x7⟩ := bxf7 M8.out.b3
    go_wp2
    obtain ⟨r1, r3⟩ := ax_end M8.out (g := w.heap.size + 1) (List.mem_cons_of_mem _ (List.mem_cons_of_mem _ (List.mem_cons_of_mem _ (List.mem_cons_self ..)))) rfl (.int .u32 t) (.int .i64 6) (.int .i64 0) (.int .u32 (yi : Int)) (.int .i64 0) (.int .i64 yu) (.int .i64 0)
    exact bodyPost_ret (results_c1t1 rfl _ _ (w.heap.size + 1) _ rfl r1 rfl) rfl ⟨by rw [HV.out]; rfl, r3.gr⟩
  | false =>
    have HV := hide (HNum.out.2.2 hs rfl)
    go_wp2
    go_quiet (fail)
    clear k0 k1 k2 k3 k4 y0 y1 y2 y3 y4 y5 y6 y7 u0 u1 u2 v0 v1 v2 a1 a4
    have M9 := hide (M8.out.then (grown_drewN _ nq none))
    clear M8
    generalize World.drewN _ nq = wq at *
    have M8 := M9
    clear M9
    obtain ⟨k0, k1, k2, k3, k4⟩ := bx5 M8.out.b4
    obtain ⟨⟨y0, y1, y2, y3, y4, y5, y6⟩, y7⟩ := bxf7 M8.out.b0
    obtain ⟨u0, u1, u2, -⟩ := box3 M8.out.b1
    obtain ⟨v0, v1, v2, -⟩ := box3 M8.out.b2
    have a1 := M8.out.db.cell (j := 1) rfl
    have a4 := M8.out.db.cell (j := 4) rfl
    have M9 := hide (M8.out.put1 (HNo.out _ _ _ _) 2 (.int .i64 171))
    go_upto_region 18 with fail
    generalize World.setCell _ _ _ = ws4 at *
    clear k0 k1 k2 k3 k4 y0 y1 y2 y3 y4 y5 y6 y7 u0 u1 u2 v0 v1 v2 a1 a4
    clear M8
    have M8 := M9
    clear M9
    obtain ⟨k0, k1, k2, k3, k4⟩ := bx5 M8.out.b4
    obtain ⟨⟨y0, y1, y2, y3, y4, y5, y6⟩, y7⟩ := bxf7 M8.out.b0
    obtain ⟨u0, u1, u2, -⟩ := box3 M8.out.b1
    obtain ⟨v0, v1, v2, -⟩ := box3 M8.out.b2
    have a1 := M8.out.db.cell (j := 1) rfl
    have a4 := M8.out.db.cell (j := 4) rfl
    clear k0 k1 k2 k3 k4 y0 y1 y2 y3 y4 y5 y6 y7 u0 u1 u2 v0 v1 v2 a1 a4
    obtain ⟨y0, y1, y2, y3, y4, y5, y6⟩ := bx7 M8.out.b0
    obtain ⟨⟨x0, x1, x2, x3, x4, x5, x6⟩, x7⟩ := bxf7 M8.out.b3
    go_wp2
    obtain ⟨r1, r3⟩ := ax_end M8.out (g := w.heap.size + 1) (List.mem_cons_of_mem _ (List.mem_cons_of_mem _ (List.mem_cons_of_mem _ (List.mem_cons_self ..)))) rfl (.int .u32 t) (.int .i64 6) (.int .i64 171) (.int .u32 0) (.int .i64 0) (.int .i64 0) (.int .i64 0)
    exact bodyPost_ret (results_c1t1 rfl _ _ (w.heap.size + 1) _ rfl r1 rfl) rfl ⟨by rw [HV.out]; rfl, r3.gr⟩
end
end Go.Proofs.YtjfhilignbeboaaGreatDoor
