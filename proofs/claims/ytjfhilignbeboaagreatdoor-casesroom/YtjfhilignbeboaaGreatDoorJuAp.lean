/- Texts joined: RkSz, Cs3, Cs4, Cs5, Cs6, Cd1. -/
import Derived.Test.YtjfhilignbeboaaGreatDoorJuAc
import Derived.Test.YtjfhilignbeboaaGreatDoorJuAl
import Derived.Test.YtjfhilignbeboaaGreatDoorJuAo
import Derived.Test.YtjfhilignbeboaaGreatDoorJuAm
import Derived.Laws.ResultCell
import Derived.LoopN
/- records: which fields a kind has, what may be, Check, Size. -/
namespace Go.Proofs.YtjfhilignbeboaaGreatDoor.Rk
open Go.RowKit
attribute [local go_sem ↓] Go.wp_at_zero Go.wp_at_succ
theorem sizeIf_any (has : Bool) (n : Int) (w : World) : Calls Tryz.prog 71 #[.bool has, .int .i64 n] w fun e w' => e = .returned (.int .i64 (if has = true then n else 0)) ∧ w' = w := by
  cases has with
  | false =>
    rw [if_neg (by decide)]
    go_enter Tryz.func71, Tryz.ntmps71
    go_wp2
    go_ret
    exact ⟨rfl, rfl⟩
  | true =>
    rw [if_pos rfl]
    go_enter Tryz.func71, Tryz.ntmps71
    go_wp2
    go_ret
    exact ⟨rfl, rfl⟩
/- records: mayBe, Check, Size. -/
set_option maxHeartbeats 2000000 in
theorem size_1 (w : World) (hT : Tab w) : Calls Tryz.prog 29 #[.int .i64 1] w fun e w' => e = .returned (.int .i64 15) ∧ w.grownBy w' none := by
  obtain ⟨t0, t1, t2, t3⟩ := tab1 hT
  have bb := heap_alloc_new w (.cells [Value.bool true, .bool true, .bool true, .bool false].toArray 126)
  obtain ⟨f0, f1, f2, f3⟩ := box4 bb
  have HG := hide (World.grownBy_alloc w (.cells [Value.bool true, .bool true, .bool true, .bool false].toArray 126) none)
  have q : Calls Tryz.prog 62 #[.int .i64 1] w fun e w' => e = .returned (.bool true) ∧ w' = w := isKind_any 1 w
  have sT : ∀ n w, Calls Tryz.prog 71 #[.bool true, .int .i64 n] w fun e w' => e = .returned (.int .i64 n) ∧ w' = w := fun n w => sizeIf_any true n w
  have sF : ∀ n w, Calls Tryz.prog 71 #[.bool false, .int .i64 n] w fun e w' => e = .returned (.int .i64 0) ∧ w' = w := fun n w => sizeIf_any false n w
  clear bb hT
  go_enter Tryz.func29, Tryz.ntmps29
  go_wp2_with fail
  refine q.mono ?_
  rintro e w3 ⟨rfl, hw⟩
  obtain rfl := hw.symm
  clear hw q
  go_wp2_with fail
  clear t0 t1 t2 t3
  generalize w.alloc (.cells #[.bool true, .bool true, .bool true, .bool false] 126) = w2 at *
  go_quiet (first | (go_at_call_of 71 (Value.bool true); exact Calls.quiet_of_same (sT _ _)) | (go_at_call_of 71 (Value.bool false); exact Calls.quiet_of_same (sF _ _)))
  go_wp2
  go_ret
  exact ⟨rfl, grown_trans HG.out (grown_drewN _ _ none)⟩
set_option maxHeartbeats 2000000 in
theorem size_2 (w : World) (hT : Tab w) : Calls Tryz.prog 29 #[.int .i64 2] w fun e w' => e = .returned (.int .i64 5) ∧ w.grownBy w' none := by
  obtain ⟨t0, t1, t2, t3⟩ := tab2 hT
  have bb := heap_alloc_new w (.cells [Value.bool true, .bool false, .bool false, .bool false].toArray 126)
  obtain ⟨f0, f1, f2, f3⟩ := box4 bb
  have HG := hide (World.grownBy_alloc w (.cells [Value.bool true, .bool false, .bool false, .bool false].toArray 126) none)
  have q : Calls Tryz.prog 62 #[.int .i64 2] w fun e w' => e = .returned (.bool true) ∧ w' = w := isKind_any 2 w
  have sT : ∀ n w, Calls Tryz.prog 71 #[.bool true, .int .i64 n] w fun e w' => e = .returned (.int .i64 n) ∧ w' = w := fun n w => sizeIf_any true n w
  have sF : ∀ n w, Calls Tryz.prog 71 #[.bool false, .int .i64 n] w fun e w' => e = .returned (.int .i64 0) ∧ w' = w := fun n w => sizeIf_any false n w
  clear bb hT
  go_enter Tryz.func29, Tryz.ntmps29
  go_wp2_with fail
  refine q.mono ?_
  rintro e w3 ⟨rfl, hw⟩
  obtain rfl := hw.symm
  clear hw q
  go_wp2_with fail
  clear t0 t1 t2 t3
  generalize w.alloc (.cells #[.bool true, .bool false, .bool false, .bool false] 126) = w2 at *
  go_quiet (first | (go_at_call_of 71 (Value.bool true); exact Calls.quiet_of_same (sT _ _)) | (go_at_call_of 71 (Value.bool false); exact Calls.quiet_of_same (sF _ _)))
  go_wp2
  go_ret
  exact ⟨rfl, grown_trans HG.out (grown_drewN _ _ none)⟩
set_option maxHeartbeats 2000000 in
theorem size_3 (w : World) (hT : Tab w) : Calls Tryz.prog 29 #[.int .i64 3] w fun e w' => e = .returned (.int .i64 5) ∧ w.grownBy w' none := by
  obtain ⟨t0, t1, t2, t3⟩ := tab3 hT
  have bb := heap_alloc_new w (.cells [Value.bool true, .bool false, .bool false, .bool false].toArray 126)
  obtain ⟨f0, f1, f2, f3⟩ := box4 bb
  have HG := hide (World.grownBy_alloc w (.cells [Value.bool true, .bool false, .bool false, .bool false].toArray 126) none)
  have q : Calls Tryz.prog 62 #[.int .i64 3] w fun e w' => e = .returned (.bool true) ∧ w' = w := isKind_any 3 w
  have sT : ∀ n w, Calls Tryz.prog 71 #[.bool true, .int .i64 n] w fun e w' => e = .returned (.int .i64 n) ∧ w' = w := fun n w => sizeIf_any true n w
  have sF : ∀ n w, Calls Tryz.prog 71 #[.bool false, .int .i64 n] w fun e w' => e = .returned (.int .i64 0) ∧ w' = w := fun n w => sizeIf_any false n w
  clear bb hT
  go_enter Tryz.func29, Tryz.ntmps29
  go_wp2_with fail
  refine q.mono ?_
  rintro e w3 ⟨rfl, hw⟩
  obtain rfl := hw.symm
  clear hw q
  go_wp2_with fail
  clear t0 t1 t2 t3
  generalize w.alloc (.cells #[.bool true, .bool false, .bool false, .bool false] 126) = w2 at *
  go_quiet (first | (go_at_call_of 71 (Value.bool true); exact Calls.quiet_of_same (sT _ _)) | (go_at_call_of 71 (Value.bool false); exact Calls.quiet_of_same (sF _ _)))
  go_wp2
  go_ret
  exact ⟨rfl, grown_trans HG.out (grown_drewN _ _ none)⟩
set_option maxHeartbeats 2000000 in
theorem size_4 (w : World) (hT : Tab w) : Calls Tryz.prog 29 #[.int .i64 4] w fun e w' => e = .returned (.int .i64 7) ∧ w.grownBy w' none := by
  obtain ⟨t0, t1, t2, t3⟩ := tab4 hT
  have bb := heap_alloc_new w (.cells [Value.bool true, .bool true, .bool false, .bool false].toArray 126)
  obtain ⟨f0, f1, f2, f3⟩ := box4 bb
  have HG := hide (World.grownBy_alloc w (.cells [Value.bool true, .bool true, .bool false, .bool false].toArray 126) none)
  have q : Calls Tryz.prog 62 #[.int .i64 4] w fun e w' => e = .returned (.bool true) ∧ w' = w := isKind_any 4 w
  have sT : ∀ n w, Calls Tryz.prog 71 #[.bool true, .int .i64 n] w fun e w' => e = .returned (.int .i64 n) ∧ w' = w := fun n w => sizeIf_any true n w
  have sF : ∀ n w, Calls Tryz.prog 71 #[.bool false, .int .i64 n] w fun e w' => e = .returned (.int .i64 0) ∧ w' = w := fun n w => sizeIf_any false n w
  clear bb hT
  go_enter Tryz.func29, Tryz.ntmps29
  go_wp2_with fail
  refine q.mono ?_
  rintro e w3 ⟨rfl, hw⟩
  obtain rfl := hw.symm
  clear hw q
  go_wp2_with fail
  clear t0 t1 t2 t3
  generalize w.alloc (.cells #[.bool true, .bool true, .bool false, .bool false] 126) = w2 at *
  go_quiet (first | (go_at_call_of 71 (Value.bool true); exact Calls.quiet_of_same (sT _ _)) | (go_at_call_of 71 (Value.bool false); exact Calls.quiet_of_same (sF _ _)))
  go_wp2
  go_ret
  exact ⟨rfl, grown_trans HG.out (grown_drewN _ _ none)⟩
set_option maxHeartbeats 2000000 in
theorem size_5 (w : World) (hT : Tab w) : Calls Tryz.prog 29 #[.int .i64 5] w fun e w' => e = .returned (.int .i64 9) ∧ w.grownBy w' none := by
  obtain ⟨t0, t1, t2, t3⟩ := tab5 hT
  have bb := heap_alloc_new w (.cells [Value.bool false, .bool false, .bool false, .bool true].toArray 126)
  obtain ⟨f0, f1, f2, f3⟩ := box4 bb
  have HG := hide (World.grownBy_alloc w (.cells [Value.bool false, .bool false, .bool false, .bool true].toArray 126) none)
  have q : Calls Tryz.prog 62 #[.int .i64 5] w fun e w' => e = .returned (.bool true) ∧ w' = w := isKind_any 5 w
  have sT : ∀ n w, Calls Tryz.prog 71 #[.bool true, .int .i64 n] w fun e w' => e = .returned (.int .i64 n) ∧ w' = w := fun n w => sizeIf_any true n w
  have sF : ∀ n w, Calls Tryz.prog 71 #[.bool false, .int .i64 n] w fun e w' => e = .returned (.int .i64 0) ∧ w' = w := fun n w => sizeIf_any false n w
  clear bb hT
  go_enter Tryz.func29, Tryz.ntmps29
  go_wp2_with fail
  refine q.mono ?_
  rintro e w3 ⟨rfl, hw⟩
  obtain rfl := hw.symm
  clear hw q
  go_wp2_with fail
  clear t0 t1 t2 t3
  generalize w.alloc (.cells #[.bool false, .bool false, .bool false, .bool true] 126) = w2 at *
  go_quiet (first | (go_at_call_of 71 (Value.bool true); exact Calls.quiet_of_same (sT _ _)) | (go_at_call_of 71 (Value.bool false); exact Calls.quiet_of_same (sF _ _)))
  go_wp2
  go_ret
  exact ⟨rfl, grown_trans HG.out (grown_drewN _ _ none)⟩
theorem size_any (k : Int) (w : World) (hT : Tab w) : Calls Tryz.prog 29 #[.int .i64 k] w fun e w' => e = .returned (.int .i64 (sz k : Nat)) ∧ w.grownBy w' none := by
  by_cases hk : 1 ≤ k ∧ k ≤ 5
  · have hk5 : k = 1 ∨ k = 2 ∨ k = 3 ∨ k = 4 ∨ k = 5 := by omega
    rcases hk5 with rfl | rfl | rfl | rfl | rfl
    · exact size_1 w hT
    · exact size_2 w hT
    · exact size_3 w hT
    · exact size_4 w hT
    · exact size_5 w hT
  · rw [sz_zero hk]
    have q := isKind_any k w
    rw [decide_eq_false hk] at q
    clear hk
    go_enter Tryz.func29, Tryz.ntmps29
    go_wp2_with fail
    refine q.mono ?_
    rintro e w3 ⟨rfl, hw⟩
    obtain rfl := hw.symm
    go_wp2
    go_ret
    exact ⟨rfl, grown_refl _ _⟩
end Go.Proofs.YtjfhilignbeboaaGreatDoor.Rk
namespace Go.Proofs.YtjfhilignbeboaaGreatDoor
/- cases: the room of the log, and the records. -/
open Go.RowKit
attribute [local go_sem ↓] Go.wp_at_zero Go.wp_at_succ
attribute [local go_sem] Oper.semAt_some
theorem sz_le (k : Int) : sz k ≤ 15 := by
  unfold sz
  repeat' split
  all_goals omega
section
variable {w : World} {p : Bp} {S : Sb} {K : Nat}
set_option maxHeartbeats 4000000 in
theorem log_ck (b : Nat) (room : Int) (q : Rs.Rq) (c : Nat) (k : Int) (hc : w.heap[c]? = some (.cells [Value.int .i64 k].toArray 26 (0, 0))) (hT : Rk.Tab w) : Calls Tryz.prog 139 #[maV b room q, .pointer (some ⟨c, 0, none⟩)] w fun e w' => e = .returned (.int .i64 (lgE room k)) ∧ w.grownBy w' none := by
  have hG := grown_alloc w (.cells (maC b room q).toArray 83)
  have HZ : Hid (∀ W, w.grownBy W none → Calls Tryz.prog 29 #[.int .i64 k] W fun e w' => e = .returned (.int .i64 (sz k : Int)) ∧ W.grownBy w' none) := fun W g => Rk.size_any k W (hT.grown g (by simp))
  have HF := hide (fun W => fsize_any (sz k) (by have := sz_le k; omega) W)
  have HX : Hid (∀ W, (w.alloc (.cells (maC b room q).toArray 83)).grownBy W none → W.cell? ⟨c, 0, none⟩ = some (.int .i64 k) ∧ W.cell? ⟨w.heap.size, 1, none⟩ = some (.int .i64 room)) := by
    intro W g
    refine ⟨?_, ?_⟩
    · rw [cell_row ((g.block _ (row_lt ((hG.block _ (row_lt hc) (by simp)).trans hc)) (by simp)).trans ((hG.block _ (row_lt hc) (by simp)).trans hc))]; rfl
    · rw [cell_row ((g.block _ (row_lt (heap_alloc_new w _)) (by simp)).trans (heap_alloc_new w _))]; rfl
  obtain ⟨x0, x1⟩ := HX.out _ (grown_refl _ _)
  have HG := hide hG
  clear hG hc hT
  unfold lgE
  generalize (sz k : Int) = z at *
  unfold maV
  unfold maC at HX HG x0 x1
  by_cases h1 : room < 22 + z
  · rw [if_pos h1]
    go_enter Tryz.func139, Tryz.ntmps139
    go_wp2
    generalize World.alloc w _ = w1 at *
    go_region_held3 (fun W => W.cell? ⟨c, 0, none⟩ = some (.int .i64 k) ∧ W.cell? ⟨w.heap.size, 1, none⟩ = some (.int .i64 room)) (first | assumption | exact ⟨x0, x1⟩) (first | (go_at_call 29; refine (HZ.out _ (grown_trans HG.out (grown_drew _ none))).mono ?_; rintro e w2 ⟨rfl, hg2⟩; have G2 := hide (grown_trans (grown_drew w1 none) hg2); have hJ := HX.out _ G2.out) | (go_at_call 140; refine (HF.out _).mono ?_; rintro e wx ⟨rfl, hwx⟩; obtain rfl := hwx.symm))
    go_wp2
    go_ret
    exact ⟨rfl, grown_trans HG.out G2.out⟩
  · rw [if_neg h1]
    have h2 : 22 + z ≤ room := by omega
    clear h1
    go_enter Tryz.func139, Tryz.ntmps139
    go_wp2
    generalize World.alloc w _ = w1 at *
    go_region_held3 (fun W => W.cell? ⟨c, 0, none⟩ = some (.int .i64 k) ∧ W.cell? ⟨w.heap.size, 1, none⟩ = some (.int .i64 room)) (first | assumption | exact ⟨x0, x1⟩) (first | (go_at_call 29; refine (HZ.out _ (grown_trans HG.out (grown_drew _ none))).mono ?_; rintro e w2 ⟨rfl, hg2⟩; have G2 := hide (grown_trans (grown_drew w1 none) hg2); have hJ := HX.out _ G2.out) | (go_at_call 140; refine (HF.out _).mono ?_; rintro e wx ⟨rfl, hwx⟩; obtain rfl := hwx.symm))
    go_wp2
    go_ret
    exact ⟨rfl, grown_trans HG.out G2.out⟩
set_option maxHeartbeats 2000000 in
theorem confirm_rec (b : Nat) (room : Int) (q : Rs.Rq) (w : World) : Calls Tryz.prog 83 #[maV b room q] w fun e w' => e = .returned (Rk.rcV ⟨2, q.i, 0, 0, 0⟩) ∧ w.grownBy w' none := by
  unfold maV Rk.rcV
  go_enter Tryz.func83, Tryz.ntmps83
  go_wp2
  exact bodyPost_ret (results_cell_row rfl _ _ (w.heap.size + 1) 28 _ (0, 0) _ rfl (new2 w _ _) Tryz.underlying28 rfl (by kernel_rfl)) rfl ⟨rfl, grown_alloc2 w _ _⟩
set_option maxHeartbeats 2000000 in
theorem cancel_rec (b : Nat) (room : Int) (q : Rs.Rq) (w : World) : Calls Tryz.prog 84 #[maV b room q] w fun e w' => e = .returned (Rk.rcV ⟨3, q.i, 0, 0, 0⟩) ∧ w.grownBy w' none := by
  unfold maV Rk.rcV
  go_enter Tryz.func84, Tryz.ntmps84
  go_wp2
  exact bodyPost_ret (results_cell_row rfl _ _ (w.heap.size + 1) 28 _ (0, 0) _ rfl (new2 w _ _) Tryz.underlying28 rfl (by kernel_rfl)) rfl ⟨rfl, grown_alloc2 w _ _⟩
set_option maxHeartbeats 2000000 in
theorem reseat_rec (b : Nat) (room : Int) (q : Rs.Rq) (w : World) : Calls Tryz.prog 85 #[maV b room q] w fun e w' => e = .returned (Rk.rcV ⟨4, q.i, q.s, 0, 0⟩) ∧ w.grownBy w' none := by
  unfold maV Rk.rcV
  go_enter Tryz.func85, Tryz.ntmps85
  go_wp2
  exact bodyPost_ret (results_cell_row rfl _ _ (w.heap.size + 1) 28 _ (0, 0) _ rfl (new2 w _ _) Tryz.underlying28 rfl (by kernel_rfl)) rfl ⟨rfl, grown_alloc2 w _ _⟩
set_option maxHeartbeats 4000000 in
theorem tick_rec (h : BkAt w p S K) (room : Int) (q : Rs.Rq) (h0 : 0 ≤ S.t) (h1 : S.t ≤ mxC) (h2 : 1 ≤ q.u) (h3 : q.u ≤ mxT) : Calls Tryz.prog 86 #[maV p.b room q] w fun e w' => e = .returned (Rk.rcV ⟨5, 0, 0, 0, S.t + q.u⟩) ∧ w.grownBy w' none := by
  have HT : Hid (∀ W, w.grownBy W none → Calls Tryz.prog 138 #[maV p.b room q] W fun e w' => e = .returned (.int .i64 (S.t + q.u)) ∧ W.grownBy w' none) := fun W g => then_any (h.then g) room q h0 h1 h2 h3
  clear h h0 h1 h2 h3
  generalize S.t + q.u = tu at *
  unfold maV at *
  unfold Rk.rcV
  go_enter Tryz.func86, Tryz.ntmps86
  go_wp2_with fail
  refine (HT.out _ (grown_alloc2 w _ _)).mono ?_
  rintro e w2 ⟨rfl, hg⟩
  have HB := hide (box_to (new2 w _ _) hg)
  have HG := hide (grown_trans (grown_alloc2 w _ _) hg)
  clear hg HT
  obtain ⟨⟨c0, c1, c2, c3, c4⟩, c5⟩ := bxf5 HB.out
  go_wp2
  obtain ⟨r1, r2⟩ := set5w w2 rfl HB.out (.int .i64 5) (.int .u32 0) (.int .i64 0) (.int .i64 0) (.int .i64 tu)
  exact bodyPost_ret (results_cell_row rfl _ _ (w.heap.size + 1) 28 _ (0, 0) _ rfl r1 Tryz.underlying28 rfl (by kernel_rfl)) rfl ⟨rfl, gn_own HG.out r2 (by omega)⟩
set_option maxHeartbeats 4000000 in
theorem hold_rec (h : BkAt w p S K) (room : Int) (q : Rs.Rq) (h0 : 0 ≤ S.t) (h1 : S.t ≤ mxC) (h2 : 1 ≤ q.u) (h3 : q.u ≤ mxT) : Calls Tryz.prog 81 #[maV p.b room q] w fun e w' => e = .returned (Rk.rcV ⟨1, (S.n : Int), q.s, S.t + q.u, 0⟩) ∧ w.grownBy w' none := by
  have HT : Hid (∀ W, w.grownBy W none → Calls Tryz.prog 138 #[maV p.b room q] W fun e w' => e = .returned (.int .i64 (S.t + q.u)) ∧ W.grownBy w' none) := fun W g => then_any (h.then g) room q h0 h1 h2 h3
  have HN : Hid (∀ W, w.grownBy W none → Calls Tryz.prog 26 #[.pointer (some ⟨p.b, 0, none⟩)] W fun e w' => e = .returned (.int .u32 (S.n : Int)) ∧ w' = W) := fun W g => next_any (h.then g)
  have hG := grown_alloc2 w (.cells (maC p.b room q).toArray 83) (.cells [Value.int .i64 0, .int .u32 0, .int .i64 0, .int .i64 0, .int .i64 0].toArray 28)
  have HX : Hid (∀ W, ((w.alloc (.cells (maC p.b room q).toArray 83)).alloc (.cells [Value.int .i64 0, .int .u32 0, .int .i64 0, .int .i64 0, .int .i64 0].toArray 28)).grownBy W none → W.heap[w.heap.size]? = some (.cells (maC p.b room q).toArray 83) ∧ W.heap[w.heap.size + 1]? = some (.cells [Value.int .i64 0, .int .u32 0, .int .i64 0, .int .i64 0, .int .i64 0].toArray 28)) := fun W g => ⟨box_to (new2a w _ _) g, box_to (new2 w _ _) g⟩
  have HG := hide hG
  clear hG h h0 h1 h2 h3
  generalize S.t + q.u = tu at *
  generalize (S.n : Int) = n at *
  unfold maV at *
  unfold maC at *
  unfold Rk.rcV
  generalize p.b = b at *
  obtain ⟨y0, y1⟩ := HX.out _ (grown_refl _ _)
  obtain ⟨c0, c1, c2, c3, c4, c5, c6⟩ := bx7 y0
  clear y0 y1
  go_enter Tryz.func81, Tryz.ntmps81
  go_wp2
  generalize World.alloc (World.alloc w _) _ = w1 at *
  go_region_held3 (fun W => W.cell? ⟨w.heap.size, 0, none⟩ = some (.pointer (some ⟨b, 0, none⟩)) ∧ W.cell? ⟨w.heap.size, 1, none⟩ = some (.int .i64 room) ∧ W.cell? ⟨w.heap.size, 2, none⟩ = some (.int .i64 q.k) ∧ W.cell? ⟨w.heap.size, 3, none⟩ = some (.int .u32 q.t) ∧ W.cell? ⟨w.heap.size, 4, none⟩ = some (.int .u32 q.i) ∧ W.cell? ⟨w.heap.size, 5, none⟩ = some (.int .i64 q.s) ∧ W.cell? ⟨w.heap.size, 6, none⟩ = some (.int .i64 q.u)) (first | with_reducible assumption | exact ma_set5 hJ (by omega) _ _ _ _ _ | exact ⟨c0, c1, c2, c3, c4, c5, c6⟩) (first | (go_at_call 26; refine (HN.out _ (grown_trans HG.out (grown_drew _ none))).mono ?_; rintro e wx ⟨rfl, hwx⟩; obtain rfl := hwx.symm) | (go_at_call 138; refine (HT.out _ (grown_trans HG.out (grown_drew _ none))).mono ?_; rintro e w2 ⟨rfl, hg2⟩; have G2 := hide (grown_trans (grown_drew w1 none) hg2); have hJ := bx7 (HX.out _ G2.out).1; have HB := hide (HX.out _ G2.out).2; obtain ⟨⟨d0, d1, d2, d3, d4⟩, d5⟩ := bxf5 HB.out))
  go_wp2
  obtain ⟨r1, r2⟩ := set5w w2 rfl HB.out (.int .i64 1) (.int .u32 n) (.int .i64 q.s) (.int .i64 tu) (.int .i64 0)
  exact bodyPost_ret (results_cell_row rfl _ _ (w.heap.size + 1) 28 _ (0, 0) _ rfl r1 Tryz.underlying28 rfl (by kernel_rfl)) rfl ⟨rfl, gn_own (grown_trans HG.out G2.out) r2 (by omega)⟩
end
end Go.Proofs.YtjfhilignbeboaaGreatDoor
namespace Go.Proofs.YtjfhilignbeboaaGreatDoor
/- cases: isNone, Decide. -/
open Go.RowKit
attribute [local go_sem ↓] Go.wp_at_zero Go.wp_at_succ
attribute [local go_sem] Oper.semAt_some
theorem BkAt.z0 {w : World} {p : Bp} {S : Sb} {K : Nat} (h : BkAt w p S K) : ¬ p.own 0 := by
  obtain ⟨Lb, R, M, E, T, N, B, C, h, -⟩ := h
  exact h.z
theorem Mt.tab {w W : World} {p : Bp} {S : Sb} {K : Nat} {Bs : List (Nat × List Value × TypeId)} (h : Mt w W p S K Bs) (hT : Rk.Tab w) : Rk.Tab W := fun j hj => h.st.cell h.bk.z0 (hT j hj)
theorem Mt.rule {w W W' : World} {p : Bp} {S : Sb} {K : Nat} {Bs : List (Nat × List Value × TypeId)} {g c : Nat} {fs : List Nat} {k : Int} (h : Mt w W p S K Bs) (hg : W.grownBy W' none) (r : RlAt W W' g c fs k) : Mt w W' p S K ((g, fs.map fnV ++ [lgV c], 90) :: (c, [.int .i64 k], 26) :: Bs) := by
  have h1 := h.then hg
  refine ⟨h1.bk, h1.st, fun x hx => ?_⟩
  rcases List.mem_cons.1 hx with rfl | hx
  · exact ⟨r.row, fun e => by have := h.bk.lt _ e; have := r.g0; omega, Nat.le_trans h.st.size r.g0⟩
  · rcases List.mem_cons.1 hx with rfl | hx
    · exact ⟨r.box, fun e => by have := h.bk.lt _ e; have := r.c0; omega, Nat.le_trans h.st.size r.c0⟩
    · exact h1.bx x hx
def dcV (d : Dc) : Value := .tuple #[Rk.rcV d.r, Rt.ryV d.y, .bool d.ok, .int .i64 d.e]
theorem results_c2t2 {fn : Func} {p q u v : Tmp} (h : fn.results = #[.cell p 28, .cell q 31, .tmp u, .tmp v]) (tmps : Array Value) (w : World) (g g2 : Nat) (cs ds : Array Value)
    (hp : tmps.getD p undef = .pointer (some ⟨g, 0, none⟩)) (hq : tmps.getD q undef = .pointer (some ⟨g2, 0, none⟩)) (hg : w.heap[g]? = some (.cells cs 28 (0, 0))) (hg2 : w.heap[g2]? = some (.cells ds 31 (0, 0))) (h5 : cs.size = 5) (h7 : ds.size = 7) :
    (results fn tmps).run Tryz.prog w = .ok (.tuple #[.agg cs, .agg ds, tmps.getD u undef, tmps.getD v undef]) w := by
  have hp' : tmps[p]?.getD undef = .pointer (some ⟨g, 0, none⟩) := by simpa using hp
  have hq' : tmps[q]?.getD undef = .pointer (some ⟨g2, 0, none⟩) := by simpa using hq
  have i5 : (Tryz.prog.info? 28).map (·.size) = some cs.size := by rw [h5]; kernel_rfl
  have i7 : (Tryz.prog.info? 31).map (·.size) = some ds.size := by rw [h7]; kernel_rfl
  simp [results, h, hp', hq', asAddr, run_loadVar_row w g 28 28 cs (0, 0) _ hg Tryz.underlying28 rfl i5, run_loadVar_row w g2 31 31 ds (0, 0) _ hg2 Tryz.underlying31 rfl i7, Sem.run_bind, Result.andThen]
section
variable {w W : World} {p : Bp} {S : Sb} {K : Nat} {Bs : List (Nat × List Value × TypeId)}
theorem dc_end {g h : Nat} {l5 l7 : List Value} (M : Mt w W p S K Bs) (m6 : (g, l5, 28) ∈ Bs) (m7 : (h, l7, 31) ∈ Bs) (hl5 : l5.length = 5) (hl7 : l7.length = 7) (hne : g ≠ h) (a b c d e s t u v x y z : Value) :
    (((((((((((((W.setCell ⟨g, 0, none⟩ a).setCell ⟨g, 1, none⟩ b).setCell ⟨g, 2, none⟩ c).setCell ⟨g, 3, none⟩ d).setCell ⟨g, 4, none⟩ e).setCell ⟨h, 0, none⟩ s).setCell ⟨h, 1, none⟩ t).setCell ⟨h, 2, none⟩ u).setCell ⟨h, 3, none⟩ v).setCell ⟨h, 4, none⟩ x).setCell ⟨h, 5, none⟩ y).setCell ⟨h, 6, none⟩ z).heap[g]? = some (.cells [a, b, c, d, e].toArray 28 (0, 0)))
    ∧ (((((((((((((W.setCell ⟨g, 0, none⟩ a).setCell ⟨g, 1, none⟩ b).setCell ⟨g, 2, none⟩ c).setCell ⟨g, 3, none⟩ d).setCell ⟨g, 4, none⟩ e).setCell ⟨h, 0, none⟩ s).setCell ⟨h, 1, none⟩ t).setCell ⟨h, 2, none⟩ u).setCell ⟨h, 3, none⟩ v).setCell ⟨h, 4, none⟩ x).setCell ⟨h, 5, none⟩ y).setCell ⟨h, 6, none⟩ z).heap[h]? = some (.cells [s, t, u, v, x, y, z].toArray 31 (0, 0)))
    ∧ Mt w ((((((((((((W.setCell ⟨g, 0, none⟩ a).setCell ⟨g, 1, none⟩ b).setCell ⟨g, 2, none⟩ c).setCell ⟨g, 3, none⟩ d).setCell ⟨g, 4, none⟩ e).setCell ⟨h, 0, none⟩ s).setCell ⟨h, 1, none⟩ t).setCell ⟨h, 2, none⟩ u).setCell ⟨h, 3, none⟩ v).setCell ⟨h, 4, none⟩ x).setCell ⟨h, 5, none⟩ y).setCell ⟨h, 6, none⟩ z) p S K [] := by
  obtain ⟨b6, n6, o6⟩ := M.bx _ m6
  obtain ⟨b7, n7, o7⟩ := M.bx _ m7
  obtain ⟨r1, r2⟩ := set5w W hl5 b6 a b c d e
  have M1 := M.wrote r2 n6 o6
  have b7' := (r2.block _ (row_lt b7) (fun e => hne (Option.some.inj e).symm)).trans b7
  obtain ⟨r3, r4⟩ := set7w _ hl7 b7' s t u v x y z
  exact ⟨(r4.block _ (row_lt r1) (fun e => hne (Option.some.inj e))).trans r1, r3, M1.wrote r4 n7 o7⟩
theorem fnd_zero (ho : S.Ok) : fnd S.L 0 = none := fnd_none.2 (fun x hx => by have := ho.id x hx; omega)
set_option maxHeartbeats 4000000 in
theorem isNone_no (h : BkAt w p S K) (ho : S.Ok) : Calls Tryz.prog 30 #[.pointer (some ⟨p.b, 0, none⟩)] w fun e w' => e = .returned (.bool false) ∧ Mt w w' p S K [] := by
  have HG := get_any h ho.wk 0 (by omega)
  rw [fnd_zero ho] at HG
  have HM := hide (Mt.start h)
  simp only [Option.getD_none, Option.isSome_none, Bool.false_eq_true, if_false] at HG
  unfold bgV at HG
  have HH := hide HG
  clear HG h ho
  generalize hb : p.b = b at *
  have HB := hide hb
  clear hb
  go_enter Tryz.func30, Tryz.ntmps30
  go_wp2_with fail
  refine HH.out.mono ?_
  rintro e w2 ⟨rfl, hA, hk⟩
  go_wp2
  go_ret
  exact ⟨rfl, ((HM.out.go hk hA).then (grown_alloc w2 _)).bare⟩
end
end Go.Proofs.YtjfhilignbeboaaGreatDoor
namespace Go.Proofs.YtjfhilignbeboaaGreatDoor
/- cases: Decide, kind by kind. -/
open Go.RowKit
attribute [local go_sem ↓] Go.wp_at_zero Go.wp_at_succ
attribute [local go_sem] Oper.semAt_some
theorem Mt.three {w : World} {p : Bp} {S : Sb} {K : Nat} (h : BkAt w p S K) (a b c : List Value) (s t u : TypeId) : Mt w (((w.alloc (.cells a.toArray s)).alloc (.cells b.toArray t)).alloc (.cells c.toArray u)) p S K [(w.heap.size + 1 + 1, c, u), (w.heap.size + 1, b, t), (w.heap.size, a, s)] := by
  have m0 := (((Mt.start h).box a s).box b t).box c u
  rw [show ((w.alloc (.cells a.toArray s)).alloc (.cells b.toArray t)).heap.size = w.heap.size + 1 + 1 from by show ((w.heap.push _).push _).size = _; simp, show (w.alloc (.cells a.toArray s)).heap.size = w.heap.size + 1 from by show (w.heap.push _).size = _; simp] at m0
  exact m0
section
variable {w : World} {p : Bp} {S : Sb} {K : Nat}
set_option maxHeartbeats 4000000 in
theorem decide_may (h : BkAt w p S K) (ho : S.Ok) (room : Int) (q : Rs.Rq) (hq : q.Ok) (hm : ¬ q.May) : Calls Tryz.prog 9 #[.pointer (some ⟨p.b, 0, none⟩), .int .i64 room, Rs.rqV q] w fun e w' => e = .returned (dcV ⟨zRc, Rt.zRy, false, 200⟩) ∧ Mt w w' p S K [] := by
  have HN : Hid (∀ W, BkAt W p S K → Calls Tryz.prog 30 #[.pointer (some ⟨p.b, 0, none⟩)] W fun e w' => e = .returned (.bool false) ∧ Mt W w' p S K []) := fun W hW => isNone_no hW ho
  have HQ := hide (fun W => Rs.check_any q hq W)
  have HM := hide (Mt.three h (Rs.rqC q) [Value.int .i64 0, .int .u32 0, .int .i64 0, .int .i64 0, .int .i64 0] [Value.int .u32 0, .int .i64 0, .int .i64 0, .int .u32 0, .int .i64 0, .int .i64 0, .int .i64 0] 25 28 31)
  have hk : Rs.chk q = 200 := by unfold Rs.chk; rw [if_neg hm]
  rw [hk] at HQ
  clear hk hm h ho hq
  unfold Rs.rqV at *
  unfold Rs.rqC at HM
  unfold dcV Rk.rcV Rt.ryV zRc Rt.zRy
  simp only
  generalize hb : p.b = b at *
  have HB := hide hb
  clear hb
  go_enter Tryz.func9, Tryz.ntmps9
  go_wp2_with fail
  refine (HN.out _ HM.out.bk).mono ?_
  rintro e w1 ⟨rfl, m1⟩
  have M1 := hide (HM.out.mt m1)
  clear m1 HM HN
  obtain ⟨c0, c1, c2, c3, c4⟩ := bx5 M1.out.b2
  go_wp2_with fail
  refine (HQ.out _).mono ?_
  rintro e w2 ⟨rfl, hg⟩
  have M2 := hide (M1.out.then hg)
  clear hg M1 HQ c0 c1 c2 c3 c4
  obtain ⟨⟨d0, d1, d2, d3, d4⟩, d5⟩ := bxf5 M2.out.b1
  obtain ⟨⟨x0, x1, x2, x3, x4, x5, x6⟩, x7⟩ := bxf7 M2.out.b0
  go_wp2
  obtain ⟨r1, r2, r3⟩ := dc_end M2.out (g := w.heap.size + 1) (h := w.heap.size + 1 + 1) (List.mem_cons_of_mem _ (List.mem_cons_self ..)) (List.mem_cons_self ..) rfl rfl (by omega) (.int .i64 0) (.int .u32 0) (.int .i64 0) (.int .i64 0) (.int .i64 0) (.int .u32 0) (.int .i64 0) (.int .i64 0) (.int .u32 0) (.int .i64 0) (.int .i64 0) (.int .i64 0)
  exact bodyPost_ret (results_c2t2 rfl _ _ (w.heap.size + 1) (w.heap.size + 1 + 1) _ _ rfl rfl r1 r2 rfl rfl) rfl ⟨rfl, r3⟩
set_option maxHeartbeats 4000000 in
theorem decide_kind (h : BkAt w p S K) (ho : S.Ok) (room : Int) (q : Rs.Rq) (hq : q.Ok) (hm : q.May) (hc : Rs.chg q.k = false) : Calls Tryz.prog 9 #[.pointer (some ⟨p.b, 0, none⟩), .int .i64 room, Rs.rqV q] w fun e w' => e = .returned (dcV ⟨zRc, Rt.zRy, false, 200⟩) ∧ Mt w w' p S K [] := by
  have HN : Hid (∀ W, BkAt W p S K → Calls Tryz.prog 30 #[.pointer (some ⟨p.b, 0, none⟩)] W fun e w' => e = .returned (.bool false) ∧ Mt W w' p S K []) := fun W hW => isNone_no hW ho
  have HQ := hide (fun W => Rs.check_any q hq W)
  have HM := hide (Mt.three h (Rs.rqC q) [Value.int .i64 0, .int .u32 0, .int .i64 0, .int .i64 0, .int .i64 0] [Value.int .u32 0, .int .i64 0, .int .i64 0, .int .u32 0, .int .i64 0, .int .i64 0, .int .i64 0] 25 28 31)
  have HC := hide (fun W => Rs.changes_any q.k W)
  rw [hc] at HC
  have hk : Rs.chk q = 0 := by unfold Rs.chk; rw [if_pos hm]
  rw [hk] at HQ
  clear hk hm h ho hq hc
  unfold Rs.rqV at *
  unfold Rs.rqC at HM
  unfold dcV Rk.rcV Rt.ryV zRc Rt.zRy
  simp only
  generalize hb : p.b = b at *
  have HB := hide hb
  clear hb
  go_enter Tryz.func9, Tryz.ntmps9
  go_wp2_with fail
  refine (HN.out _ HM.out.bk).mono ?_
  rintro e w1 ⟨rfl, m1⟩
  have M1 := hide (HM.out.mt m1)
  clear m1 HM HN
  obtain ⟨c0, c1, c2, c3, c4⟩ := bx5 M1.out.b2
  go_wp2_with fail
  refine (HQ.out _).mono ?_
  rintro e w2 ⟨rfl, hg⟩
  have M2 := hide (M1.out.then hg)
  clear hg M1 HQ c0 c1 c2 c3 c4
  obtain ⟨c0, c1, c2, c3, c4⟩ := bx5 M2.out.b2
  obtain ⟨⟨d0, d1, d2, d3, d4⟩, d5⟩ := bxf5 M2.out.b1
  obtain ⟨⟨x0, x1, x2, x3, x4, x5, x6⟩, x7⟩ := bxf7 M2.out.b0
  go_wp2_with fail
  refine (HC.out _).mono ?_
  rintro e wx ⟨rfl, hwx⟩
  obtain rfl := hwx.symm
  go_wp2
  obtain ⟨r1, r2, r3⟩ := dc_end M2.out (g := w.heap.size + 1) (h := w.heap.size + 1 + 1) (List.mem_cons_of_mem _ (List.mem_cons_self ..)) (List.mem_cons_self ..) rfl rfl (by omega) (.int .i64 0) (.int .u32 0) (.int .i64 0) (.int .i64 0) (.int .i64 0) (.int .u32 0) (.int .i64 0) (.int .i64 0) (.int .u32 0) (.int .i64 0) (.int .i64 0) (.int .i64 0)
  exact bodyPost_ret (results_c2t2 rfl _ _ (w.heap.size + 1) (w.heap.size + 1 + 1) _ _ rfl rfl r1 r2 rfl rfl) rfl ⟨rfl, r3⟩
end
end Go.Proofs.YtjfhilignbeboaaGreatDoor
namespace Go.Proofs.YtjfhilignbeboaaGreatDoor
/- cases: Decide, the changes. -/
open Go.RowKit
attribute [local go_sem ↓] Go.wp_at_zero Go.wp_at_succ
attribute [local go_sem] Oper.semAt_some
theorem ttE_zero {q : Rs.Rq} (h : ttE q = 0) : 1 ≤ q.u ∧ q.u ≤ mxT := by
  unfold ttE at h
  by_cases hc : 1 ≤ q.u ∧ q.u ≤ mxT
  · exact hc
  · rw [if_neg hc] at h; cases h
theorem bx2 {w : World} {g : Nat} {t : TypeId} {x y : Value} (h : w.heap[g]? = some (.cells [x, y].toArray t (0, 0))) : w.cell? ⟨g, 0, none⟩ = some x ∧ w.cell? ⟨g, 1, none⟩ = some y := ⟨by rw [cell_row h]; rfl, by rw [cell_row h]; rfl⟩
end Go.Proofs.YtjfhilignbeboaaGreatDoor
namespace Go.Proofs.YtjfhilignbeboaaGreatDoor
/- cases: Decide of the kind 1. -/
open Go.RowKit
attribute [local go_sem ↓] Go.wp_at_zero Go.wp_at_succ
attribute [local go_sem] Oper.semAt_some
section
variable {w : World} {p : Bp} {S : Sb} {K : Nat}
set_option maxRecDepth 20000 in
set_option maxHeartbeats 8000000 in
theorem decide_1 (h : BkAt w p S K) (ho : S.Ok) (room t i s u : Int) (hq : Rs.Rq.Ok ⟨1, t, i, s, u⟩) (hm : Rs.Rq.May ⟨1, t, i, s, u⟩) (hT : Rk.Tab w) : Calls Tryz.prog 9 #[.pointer (some ⟨p.b, 0, none⟩), .int .i64 room, .agg #[.int .i64 1, .int .u32 t, .int .u32 i, .int .i64 s, .int .i64 u]] w fun e w' => e = .returned (dcV (dec S room ⟨1, t, i, s, u⟩)) ∧ Mt w w' p S K [] := by
  have hch : isChg ⟨1, t, i, s, u⟩ := ⟨hm, show Rs.chg 1 = true by decide⟩
  obtain ⟨res, hres⟩ : ∃ res, res = dec S room ⟨1, t, i, s, u⟩ := ⟨_, rfl⟩
  rw [← hres]
  have hk : Rs.chk ⟨1, t, i, s, u⟩ = 0 := by unfold Rs.chk; rw [if_pos hm]
  have HN : Hid (∀ W, BkAt W p S K → Calls Tryz.prog 30 #[.pointer (some ⟨p.b, 0, none⟩)] W fun e w' => e = .returned (.bool false) ∧ Mt W w' p S K []) := fun W hW => isNone_no hW ho
  have HQ := hide (fun W => Rs.check_any ⟨1, t, i, s, u⟩ hq W)
  rw [hk] at HQ
  have HC : Hid (∀ W, Calls Tryz.prog 32 #[.int .i64 1] W fun e w' => e = .returned (.bool true) ∧ w' = W) := fun W => Rs.changes_any 1 W
  have HM := hide (Mt.three h (Rs.rqC ⟨1, t, i, s, u⟩) [Value.int .i64 0, .int .u32 0, .int .i64 0, .int .i64 0, .int .i64 0] [Value.int .u32 0, .int .i64 0, .int .i64 0, .int .u32 0, .int .i64 0, .int .i64 0, .int .i64 0] 25 28 31)
  have HT := hide hT
  obtain ⟨v0, e0⟩ : ∃ v, v = stE S ⟨1, t, i, s, u⟩ := ⟨_, rfl⟩
  obtain ⟨v1, e1⟩ : ∃ v, v = ttE ⟨1, t, i, s, u⟩ := ⟨_, rfl⟩
  obtain ⟨v2, e2⟩ : ∃ v, v = clE S ⟨1, t, i, s, u⟩ := ⟨_, rfl⟩
  obtain ⟨v3, e3⟩ : ∃ v, v = frE S ⟨1, t, i, s, u⟩ := ⟨_, rfl⟩
  obtain ⟨v4, e4⟩ : ∃ v, v = rmE S := ⟨_, rfl⟩
  obtain ⟨v5, e5⟩ : ∃ v, v = lgE room 1 := ⟨_, rfl⟩
  have HRf : Hid (refE S room ⟨1, t, i, s, u⟩ = fstE [v0, v1, v2, v3, v4, v5]) := by rw [e0, e1, e2, e3, e4, e5]; rfl
  have HRs : Hid ((∀ v, v ≠ 0 → refE S room ⟨1, t, i, s, u⟩ = v → res = ⟨zRc, rfY ⟨1, t, i, s, u⟩ v, false, 0⟩) ∧ (refE S room ⟨1, t, i, s, u⟩ = 0 → res = ⟨recQ S ⟨1, t, i, s, u⟩, rpY ⟨1, t, i, s, u⟩ (recQ S ⟨1, t, i, s, u⟩), true, 0⟩)) := ⟨fun v hv e => by rw [hres, dec_ref hch (by rw [e]; exact hv), e], fun e => by rw [hres, dec_yes hch e]⟩
  have H0 : Hid (∀ W, BkAt W p S K → Calls Tryz.prog 75 #[maV p.b room ⟨1, t, i, s, u⟩] W fun e w' => e = .returned (.int .i64 v0) ∧ Mt W w' p S K []) := fun W hW => by rw [e0]; exact (seatIs_any hW room ⟨1, t, i, s, u⟩).mono (fun e w' x => ⟨x.1, (Mt.start hW).then x.2⟩)
  have H1 : Hid (∀ W, BkAt W p S K → Calls Tryz.prog 76 #[maV p.b room ⟨1, t, i, s, u⟩] W fun e w' => e = .returned (.int .i64 v1) ∧ Mt W w' p S K []) := fun W hW => by rw [e1]; exact (ttl_any p.b room ⟨1, t, i, s, u⟩ W).mono (fun e w' x => ⟨x.1, (Mt.start hW).then x.2⟩)
  have H2 : Hid (v1 = 0 → ∀ W, BkAt W p S K → Calls Tryz.prog 77 #[maV p.b room ⟨1, t, i, s, u⟩] W fun e w' => e = .returned (.int .i64 v2) ∧ Mt W w' p S K []) := fun hv W hW => by have x := ttE_zero (e1 ▸ hv); rw [e2]; exact (clock_ck hW room ⟨1, t, i, s, u⟩ ho.t0 ho.t1 x.1 x.2).mono (fun e w' x => ⟨x.1, (Mt.start hW).then x.2⟩)
  have H3 : Hid (∀ W, BkAt W p S K → Calls Tryz.prog 78 #[maV p.b room ⟨1, t, i, s, u⟩] W fun e w' => e = .returned (.int .i64 v3) ∧ Mt W w' p S K []) := fun W hW => by rw [e3]; exact (free_ck hW ho.wk room ⟨1, t, i, s, u⟩).mono (fun e w' x => ⟨x.1, (Mt.start hW).then x.2⟩)
  have H4 : Hid (∀ W, BkAt W p S K → Calls Tryz.prog 79 #[maV p.b room ⟨1, t, i, s, u⟩] W fun e w' => e = .returned (.int .i64 v4) ∧ Mt W w' p S K []) := fun W hW => by rw [e4]; exact (room_ck hW room ⟨1, t, i, s, u⟩).mono (fun e w' x => ⟨x.1, (Mt.start hW).then x.2⟩)
  have H5 : Hid (∀ W c, BkAt W p S K → W.heap[c]? = some (.cells [Value.int .i64 1].toArray 26 (0, 0)) → Rk.Tab W → Calls Tryz.prog 139 #[maV p.b room ⟨1, t, i, s, u⟩, .pointer (some ⟨c, 0, none⟩)] W fun e w' => e = .returned (.int .i64 v5) ∧ Mt W w' p S K []) := fun W c hW hc hT => by rw [e5]; exact (log_ck p.b room ⟨1, t, i, s, u⟩ c 1 hc hT).mono (fun e w' x => ⟨x.1, (Mt.start hW).then x.2⟩)
  obtain ⟨R, hR⟩ : ∃ R, R = recQ S ⟨1, t, i, s, u⟩ := ⟨_, rfl⟩
  have HRc : Hid (v1 = 0 → ∀ W, BkAt W p S K → Calls Tryz.prog 81 #[maV p.b room ⟨1, t, i, s, u⟩] W fun e w' => e = .returned (Rk.rcV R) ∧ Mt W w' p S K []) := fun hv W hW => by have x := ttE_zero (e1 ▸ hv); rw [hR]; exact (hold_rec hW room ⟨1, t, i, s, u⟩ ho.t0 ho.t1 x.1 x.2).mono (fun e w' x => ⟨x.1, (Mt.start hW).then x.2⟩)
  have HRp := hide (fun W => reply_any ⟨1, t, i, s, u⟩ R W)
  have HRl := hide (fun W => rule_1 W)
  have HFu := hide (fun v W => refusal_any ⟨1, t, i, s, u⟩ v W)
  rw [← hR] at HRs
  clear h ho hq hm hT hch hk hres hR e0 e1 e2 e3 e4 e5
  obtain ⟨rk, ri, rs, ru, rc⟩ := R
  unfold Rs.rqV at *
  unfold maV at *
  unfold Rs.rqC at HM
  unfold Rk.rcV at HRc HRp
  unfold rlV at HRl
  simp only at *
  have HDc : Hid (∀ v, dcV ⟨zRc, rfY ⟨1, t, i, s, u⟩ v, false, 0⟩ = .tuple #[.agg #[.int .i64 0, .int .u32 0, .int .i64 0, .int .i64 0, .int .i64 0], .agg #[.int .u32 t, .int .i64 1, .int .i64 v, .int .u32 0, .int .i64 0, .int .i64 0, .int .i64 0], .bool false, .int .i64 0]) := fun _ => rfl
  have HFv : Hid (∀ v W, Calls Tryz.prog 34 #[.agg #[.int .i64 1, .int .u32 t, .int .u32 i, .int .i64 s, .int .i64 u], .int .i64 v] W fun r w' => r = .returned (.agg #[.int .u32 t, .int .i64 1, .int .i64 v, .int .u32 0, .int .i64 0, .int .i64 0, .int .i64 0]) ∧ W.grownBy w' none) := HFu.out
  clear HFu
  generalize hb : p.b = b at *
  have HB := hide hb
  clear hb
  go_enter Tryz.func9, Tryz.ntmps9
  go_wp2_with fail
  refine (HN.out _ HM.out.bk).mono ?_
  rintro e w1 ⟨rfl, m1⟩
  have M1 := hide (HM.out.mt m1)
  clear m1 HM HN
  obtain ⟨c0, c1, c2, c3, c4⟩ := bx5 M1.out.b2
  go_wp2_with fail
  refine (HQ.out _).mono ?_
  rintro e w2 ⟨rfl, hg⟩
  have M2 := hide (M1.out.then hg)
  clear hg M1 HQ c0 c1 c2 c3 c4
  obtain ⟨c0, c1, c2, c3, c4⟩ := bx5 M2.out.b2
  go_wp2_with fail
  refine (HC.out _).mono ?_
  rintro e wx ⟨rfl, hwx⟩
  obtain rfl := hwx.symm
  have M3 := hide (M2.out.box [.pointer (some ⟨b, 0, none⟩), .int .i64 room, .int .i64 1, .int .u32 t, .int .u32 i, .int .i64 s, .int .i64 u] 83)
  clear hwx M2 HC
  obtain ⟨k0, k1, k2, k3, k4⟩ := bx5 M3.out.b3
  go_wp2_with fail
  generalize hX : w2.heap.size = X at *
  generalize World.alloc w2 _ = w3 at *
  clear hX
  refine (HRl.out _).mono ?_
  rintro e w4 ⟨g, c, rfl, hR4, hg4⟩
  have M5 := hide ((M3.out.rule hg4 hR4).box [.slice (some ⟨g, 0, none⟩) 6 6, .func (.func 81) #[] #[]] 87)
  clear M3 HRl hR4 hg4 c0 c1 c2 c3 c4 k0 k1 k2 k3 k4
  obtain ⟨y0, y1⟩ := bx2 M5.out.b0
  go_wp2_with fail
  generalize hY : w4.heap.size = Y at *
  generalize World.alloc w4 _ = w5 at *
  clear hY y0 y1
  refine wp_loop_rounds 7 ?_
  rw [rounds_succ]
  obtain ⟨a0, a1, a2, a3, a4, a5, a6⟩ := bx7 M5.out.b3
  have gj : w5.cell? ⟨g, 0, none⟩ = some (.func (.func 75) #[] #[]) := by have := cell_row M5.out.b1 0; simpa [fnV, lgV] using this
  go_wp2_with fail
  refine (H0.out _ M5.out.bk).mono ?_
  rintro e u0 ⟨rfl, mj⟩
  have N0 := hide (M5.out.mt mj)
  clear mj M5 a0 a1 a2 a3 a4 a5 a6 gj
  by_cases hz : v0 = 0
  rotate_left
  · have f1 : (v0 != 0) = true := by simpa using hz
    have f2 : (v0 == 0) = false := by simpa using hz
    have f3 : decide (v0 = 0) = false := by simpa using hz
    have HZ : Hid (res = ⟨zRc, rfY ⟨1, t, i, s, u⟩ v0, false, 0⟩) := HRs.out.1 v0 hz (by rw [HRf.out]; simp [fstE, hz])
    clear hz HRs HRf
    obtain ⟨c0, c1, c2, c3, c4⟩ := bx5 N0.out.b6
    go_wp2_with fail
    refine (HFv.out _ _).mono ?_
    rintro e w7 ⟨rfl, hg7⟩
    have M7 := hide (N0.out.then hg7)
    clear hg7 N0 c0 c1 c2 c3 c4
    obtain ⟨⟨d0, d1, d2, d3, d4⟩, d5⟩ := bxf5 M7.out.b5
    obtain ⟨⟨x0, x1, x2, x3, x4, x5, x6⟩, x7⟩ := bxf7 M7.out.b4
    go_wp2
    obtain ⟨r1, r2, r3⟩ := dc_end M7.out (g := w.heap.size + 1) (h := w.heap.size + 1 + 1) (List.mem_cons_of_mem _ (List.mem_cons_of_mem _ (List.mem_cons_of_mem _ (List.mem_cons_of_mem _ (List.mem_cons_of_mem _ (List.mem_cons_self ..)))))) (List.mem_cons_of_mem _ (List.mem_cons_of_mem _ (List.mem_cons_of_mem _ (List.mem_cons_of_mem _ (List.mem_cons_self ..))))) rfl rfl (by omega) (.int .i64 0) (.int .u32 0) (.int .i64 0) (.int .i64 0) (.int .i64 0) (.int .u32 t) (.int .i64 1) (.int .i64 v0) (.int .u32 0) (.int .i64 0) (.int .i64 0) (.int .i64 0)
    exact bodyPost_ret (results_c2t2 rfl _ _ (w.heap.size + 1) (w.heap.size + 1 + 1) _ _ rfl rfl r1 r2 rfl rfl) rfl ⟨by rw [HZ.out, HDc.out]; rfl, r3⟩
  subst hz
  go_wp2_with fail
  rw [rounds_succ]
  obtain ⟨a0, a1, a2, a3, a4, a5, a6⟩ := bx7 N0.out.b3
  have gj : u0.cell? ⟨g, 1, none⟩ = some (.func (.func 76) #[] #[]) := by have := cell_row N0.out.b1 1; simpa [fnV, lgV] using this
  go_wp2_with fail
  refine (H1.out _ N0.out.bk).mono ?_
  rintro e u1 ⟨rfl, mj⟩
  have N1 := hide (N0.out.mt mj)
  clear mj N0 a0 a1 a2 a3 a4 a5 a6 gj
  by_cases hz : v1 = 0
  rotate_left
  · have f1 : (v1 != 0) = true := by simpa using hz
    have f2 : (v1 == 0) = false := by simpa using hz
    have f3 : decide (v1 = 0) = false := by simpa using hz
    have HZ : Hid (res = ⟨zRc, rfY ⟨1, t, i, s, u⟩ v1, false, 0⟩) := HRs.out.1 v1 hz (by rw [HRf.out]; simp [fstE, hz])
    clear hz HRs HRf
    obtain ⟨c0, c1, c2, c3, c4⟩ := bx5 N1.out.b6
    go_wp2_with fail
    refine (HFv.out _ _).mono ?_
    rintro e w7 ⟨rfl, hg7⟩
    have M7 := hide (N1.out.then hg7)
    clear hg7 N1 c0 c1 c2 c3 c4
    obtain ⟨⟨d0, d1, d2, d3, d4⟩, d5⟩ := bxf5 M7.out.b5
    obtain ⟨⟨x0, x1, x2, x3, x4, x5, x6⟩, x7⟩ := bxf7 M7.out.b4
    go_wp2
    obtain ⟨r1, r2, r3⟩ := dc_end M7.out (g := w.heap.size + 1) (h := w.heap.size + 1 + 1) (List.mem_cons_of_mem _ (List.mem_cons_of_mem _ (List.mem_cons_of_mem _ (List.mem_cons_of_mem _ (List.mem_cons_of_mem _ (List.mem_cons_self ..)))))) (List.mem_cons_of_mem _ (List.mem_cons_of_mem _ (List.mem_cons_of_mem _ (List.mem_cons_of_mem _ (List.mem_cons_self ..))))) rfl rfl (by omega) (.int .i64 0) (.int .u32 0) (.int .i64 0) (.int .i64 0) (.int .i64 0) (.int .u32 t) (.int .i64 1) (.int .i64 v1) (.int .u32 0) (.int .i64 0) (.int .i64 0) (.int .i64 0)
    exact bodyPost_ret (results_c2t2 rfl _ _ (w.heap.size + 1) (w.heap.size + 1 + 1) _ _ rfl rfl r1 r2 rfl rfl) rfl ⟨by rw [HZ.out, HDc.out]; rfl, r3⟩
  subst hz
  go_wp2_with fail
  rw [rounds_succ]
  obtain ⟨a0, a1, a2, a3, a4, a5, a6⟩ := bx7 N1.out.b3
  have gj : u1.cell? ⟨g, 2, none⟩ = some (.func (.func 77) #[] #[]) := by have := cell_row N1.out.b1 2; simpa [fnV, lgV] using this
  go_wp2_with fail
  refine (H2.out (by first | exact True.intro | rfl) _ N1.out.bk).mono ?_
  rintro e u2 ⟨rfl, mj⟩
  have N2 := hide (N1.out.mt mj)
  clear mj N1 a0 a1 a2 a3 a4 a5 a6 gj
  by_cases hz : v2 = 0
  rotate_left
  · have f1 : (v2 != 0) = true := by simpa using hz
    have f2 : (v2 == 0) = false := by simpa using hz
    have f3 : decide (v2 = 0) = false := by simpa using hz
    have HZ : Hid (res = ⟨zRc, rfY ⟨1, t, i, s, u⟩ v2, false, 0⟩) := HRs.out.1 v2 hz (by rw [HRf.out]; simp [fstE, hz])
    clear hz HRs HRf
    obtain ⟨c0, c1, c2, c3, c4⟩ := bx5 N2.out.b6
    go_wp2_with fail
    refine (HFv.out _ _).mono ?_
    rintro e w7 ⟨rfl, hg7⟩
    have M7 := hide (N2.out.then hg7)
    clear hg7 N2 c0 c1 c2 c3 c4
    obtain ⟨⟨d0, d1, d2, d3, d4⟩, d5⟩ := bxf5 M7.out.b5
    obtain ⟨⟨x0, x1, x2, x3, x4, x5, x6⟩, x7⟩ := bxf7 M7.out.b4
    go_wp2
    obtain ⟨r1, r2, r3⟩ := dc_end M7.out (g := w.heap.size + 1) (h := w.heap.size + 1 + 1) (List.mem_cons_of_mem _ (List.mem_cons_of_mem _ (List.mem_cons_of_mem _ (List.mem_cons_of_mem _ (List.mem_cons_of_mem _ (List.mem_cons_self ..)))))) (List.mem_cons_of_mem _ (List.mem_cons_of_mem _ (List.mem_cons_of_mem _ (List.mem_cons_of_mem _ (List.mem_cons_self ..))))) rfl rfl (by omega) (.int .i64 0) (.int .u32 0) (.int .i64 0) (.int .i64 0) (.int .i64 0) (.int .u32 t) (.int .i64 1) (.int .i64 v2) (.int .u32 0) (.int .i64 0) (.int .i64 0) (.int .i64 0)
    exact bodyPost_ret (results_c2t2 rfl _ _ (w.heap.size + 1) (w.heap.size + 1 + 1) _ _ rfl rfl r1 r2 rfl rfl) rfl ⟨by rw [HZ.out, HDc.out]; rfl, r3⟩
  subst hz
  go_wp2_with fail
  rw [rounds_succ]
  obtain ⟨a0, a1, a2, a3, a4, a5, a6⟩ := bx7 N2.out.b3
  have gj : u2.cell? ⟨g, 3, none⟩ = some (.func (.func 78) #[] #[]) := by have := cell_row N2.out.b1 3; simpa [fnV, lgV] using this
  go_wp2_with fail
  refine (H3.out _ N2.out.bk).mono ?_
  rintro e u3 ⟨rfl, mj⟩
  have N3 := hide (N2.out.mt mj)
  clear mj N2 a0 a1 a2 a3 a4 a5 a6 gj
  by_cases hz : v3 = 0
  rotate_left
  · have f1 : (v3 != 0) = true := by simpa using hz
    have f2 : (v3 == 0) = false := by simpa using hz
    have f3 : decide (v3 = 0) = false := by simpa using hz
    have HZ : Hid (res = ⟨zRc, rfY ⟨1, t, i, s, u⟩ v3, false, 0⟩) := HRs.out.1 v3 hz (by rw [HRf.out]; simp [fstE, hz])
    clear hz HRs HRf
    obtain ⟨c0, c1, c2, c3, c4⟩ := bx5 N3.out.b6
    go_wp2_with fail
    refine (HFv.out _ _).mono ?_
    rintro e w7 ⟨rfl, hg7⟩
    have M7 := hide (N3.out.then hg7)
    clear hg7 N3 c0 c1 c2 c3 c4
    obtain ⟨⟨d0, d1, d2, d3, d4⟩, d5⟩ := bxf5 M7.out.b5
    obtain ⟨⟨x0, x1, x2, x3, x4, x5, x6⟩, x7⟩ := bxf7 M7.out.b4
    go_wp2
    obtain ⟨r1, r2, r3⟩ := dc_end M7.out (g := w.heap.size + 1) (h := w.heap.size + 1 + 1) (List.mem_cons_of_mem _ (List.mem_cons_of_mem _ (List.mem_cons_of_mem _ (List.mem_cons_of_mem _ (List.mem_cons_of_mem _ (List.mem_cons_self ..)))))) (List.mem_cons_of_mem _ (List.mem_cons_of_mem _ (List.mem_cons_of_mem _ (List.mem_cons_of_mem _ (List.mem_cons_self ..))))) rfl rfl (by omega) (.int .i64 0) (.int .u32 0) (.int .i64 0) (.int .i64 0) (.int .i64 0) (.int .u32 t) (.int .i64 1) (.int .i64 v3) (.int .u32 0) (.int .i64 0) (.int .i64 0) (.int .i64 0)
    exact bodyPost_ret (results_c2t2 rfl _ _ (w.heap.size + 1) (w.heap.size + 1 + 1) _ _ rfl rfl r1 r2 rfl rfl) rfl ⟨by rw [HZ.out, HDc.out]; rfl, r3⟩
  subst hz
  go_wp2_with fail
  rw [rounds_succ]
  obtain ⟨a0, a1, a2, a3, a4, a5, a6⟩ := bx7 N3.out.b3
  have gj : u3.cell? ⟨g, 4, none⟩ = some (.func (.func 79) #[] #[]) := by have := cell_row N3.out.b1 4; simpa [fnV, lgV] using this
  go_wp2_with fail
  refine (H4.out _ N3.out.bk).mono ?_
  rintro e u4 ⟨rfl, mj⟩
  have N4 := hide (N3.out.mt mj)
  clear mj N3 a0 a1 a2 a3 a4 a5 a6 gj
  by_cases hz : v4 = 0
  rotate_left
  · have f1 : (v4 != 0) = true := by simpa using hz
    have f2 : (v4 == 0) = false := by simpa using hz
    have f3 : decide (v4 = 0) = false := by simpa using hz
    have HZ : Hid (res = ⟨zRc, rfY ⟨1, t, i, s, u⟩ v4, false, 0⟩) := HRs.out.1 v4 hz (by rw [HRf.out]; simp [fstE, hz])
    clear hz HRs HRf
    obtain ⟨c0, c1, c2, c3, c4⟩ := bx5 N4.out.b6
    go_wp2_with fail
    refine (HFv.out _ _).mono ?_
    rintro e w7 ⟨rfl, hg7⟩
    have M7 := hide (N4.out.then hg7)
    clear hg7 N4 c0 c1 c2 c3 c4
    obtain ⟨⟨d0, d1, d2, d3, d4⟩, d5⟩ := bxf5 M7.out.b5
    obtain ⟨⟨x0, x1, x2, x3, x4, x5, x6⟩, x7⟩ := bxf7 M7.out.b4
    go_wp2
    obtain ⟨r1, r2, r3⟩ := dc_end M7.out (g := w.heap.size + 1) (h := w.heap.size + 1 + 1) (List.mem_cons_of_mem _ (List.mem_cons_of_mem _ (List.mem_cons_of_mem _ (List.mem_cons_of_mem _ (List.mem_cons_of_mem _ (List.mem_cons_self ..)))))) (List.mem_cons_of_mem _ (List.mem_cons_of_mem _ (List.mem_cons_of_mem _ (List.mem_cons_of_mem _ (List.mem_cons_self ..))))) rfl rfl (by omega) (.int .i64 0) (.int .u32 0) (.int .i64 0) (.int .i64 0) (.int .i64 0) (.int .u32 t) (.int .i64 1) (.int .i64 v4) (.int .u32 0) (.int .i64 0) (.int .i64 0) (.int .i64 0)
    exact bodyPost_ret (results_c2t2 rfl _ _ (w.heap.size + 1) (w.heap.size + 1 + 1) _ _ rfl rfl r1 r2 rfl rfl) rfl ⟨by rw [HZ.out, HDc.out]; rfl, r3⟩
  subst hz
  go_wp2_with fail
  rw [rounds_succ]
  obtain ⟨a0, a1, a2, a3, a4, a5, a6⟩ := bx7 N4.out.b3
  have gj : u4.cell? ⟨g, 5, none⟩ = some (.func (.func 139) #[] #[.pointer (some ⟨c, 0, none⟩)]) := by have := cell_row N4.out.b1 5; simpa [fnV, lgV] using this
  go_wp2_with fail
  refine (H5.out _ c N4.out.bk N4.out.b2 (N4.out.tab HT.out)).mono ?_
  rintro e u5 ⟨rfl, mj⟩
  have N5 := hide (N4.out.mt mj)
  clear mj N4 a0 a1 a2 a3 a4 a5 a6 gj
  by_cases hz : v5 = 0
  rotate_left
  · have f1 : (v5 != 0) = true := by simpa using hz
    have f2 : (v5 == 0) = false := by simpa using hz
    have f3 : decide (v5 = 0) = false := by simpa using hz
    have HZ : Hid (res = ⟨zRc, rfY ⟨1, t, i, s, u⟩ v5, false, 0⟩) := HRs.out.1 v5 hz (by rw [HRf.out]; simp [fstE, hz])
    clear hz HRs HRf
    obtain ⟨c0, c1, c2, c3, c4⟩ := bx5 N5.out.b6
    go_wp2_with fail
    refine (HFv.out _ _).mono ?_
    rintro e w7 ⟨rfl, hg7⟩
    have M7 := hide (N5.out.then hg7)
    clear hg7 N5 c0 c1 c2 c3 c4
    obtain ⟨⟨d0, d1, d2, d3, d4⟩, d5⟩ := bxf5 M7.out.b5
    obtain ⟨⟨x0, x1, x2, x3, x4, x5, x6⟩, x7⟩ := bxf7 M7.out.b4
    go_wp2
    obtain ⟨r1, r2, r3⟩ := dc_end M7.out (g := w.heap.size + 1) (h := w.heap.size + 1 + 1) (List.mem_cons_of_mem _ (List.mem_cons_of_mem _ (List.mem_cons_of_mem _ (List.mem_cons_of_mem _ (List.mem_cons_of_mem _ (List.mem_cons_self ..)))))) (List.mem_cons_of_mem _ (List.mem_cons_of_mem _ (List.mem_cons_of_mem _ (List.mem_cons_of_mem _ (List.mem_cons_self ..))))) rfl rfl (by omega) (.int .i64 0) (.int .u32 0) (.int .i64 0) (.int .i64 0) (.int .i64 0) (.int .u32 t) (.int .i64 1) (.int .i64 v5) (.int .u32 0) (.int .i64 0) (.int .i64 0) (.int .i64 0)
    exact bodyPost_ret (results_c2t2 rfl _ _ (w.heap.size + 1) (w.heap.size + 1 + 1) _ _ rfl rfl r1 r2 rfl rfl) rfl ⟨by rw [HZ.out, HDc.out]; rfl, r3⟩
  subst hz
  go_wp2_with fail
  rw [rounds_succ]
  obtain ⟨a0, a1, a2, a3, a4, a5, a6⟩ := bx7 N5.out.b3
  obtain ⟨y0, y1⟩ := bx2 N5.out.b0
  go_wp2_with fail
  refine (HRc.out (by first | exact True.intro | rfl) _ N5.out.bk).mono ?_
  rintro e w8 ⟨rfl, m8⟩
  have HZ := hide (HRs.out.2 (by rw [HRf.out]; simp [fstE]))
  have M8 := hide (N5.out.mt m8)
  have HL5 : Hid (w.heap.size + 1 + 1 < w8.heap.size ∧ w.heap.size + 1 < w8.heap.size) := ⟨row_lt M8.out.b4, row_lt M8.out.b5⟩
  have M9 := hide (M8.out.box [.int .i64 rk, .int .u32 ri, .int .i64 rs, .int .i64 ru, .int .i64 rc] 28)
  clear m8 N5 M8 a0 a1 a2 a3 a4 a5 a6 y0 y1 HRs HRf HRc
  go_wp2
  generalize hZ : w8.heap.size = Z at *
  generalize World.alloc w8 _ = w9 at *
  clear hZ
  have HSo : Hid (∀ W, w9.grownBy W none → (W.cell? ⟨Z, 0, none⟩ = some (.int .i64 rk) ∧ W.cell? ⟨Z, 1, none⟩ = some (.int .u32 ri) ∧ W.cell? ⟨Z, 2, none⟩ = some (.int .i64 rs) ∧ W.cell? ⟨Z, 3, none⟩ = some (.int .i64 ru) ∧ W.cell? ⟨Z, 4, none⟩ = some (.int .i64 rc) ∧ W.cell? ⟨w.heap.size, 0, none⟩ = some (.int .i64 1) ∧ W.cell? ⟨w.heap.size, 1, none⟩ = some (.int .u32 t) ∧ W.cell? ⟨w.heap.size, 2, none⟩ = some (.int .u32 i) ∧ W.cell? ⟨w.heap.size, 3, none⟩ = some (.int .i64 s) ∧ W.cell? ⟨w.heap.size, 4, none⟩ = some (.int .i64 u))) := fun W gW => s10_of (box_to M9.out.b0 gW) (box_to M9.out.b7 gW)
  have HRv : Hid (∀ W, Calls Tryz.prog 19 #[.agg #[.int .i64 1, .int .u32 t, .int .u32 i, .int .i64 s, .int .i64 u], .agg #[.int .i64 rk, .int .u32 ri, .int .i64 rs, .int .i64 ru, .int .i64 rc]] W fun e w' => e = .returned (.agg #[.int .u32 t, .int .i64 1, .int .i64 0, .int .u32 ri, .int .i64 0, .int .i64 ru, .int .i64 0]) ∧ W.grownBy w' none) := HRp.out
  have hn1 : Hid (w.heap.size + 1 ≠ Z) := fun e => by have := HL5.out.2; omega
  have hn2 : Hid (w.heap.size + 1 ≠ w.heap.size) := fun e => by omega
  have hn3 : Hid (w.heap.size + 1 + 1 ≠ Z) := fun e => by have := HL5.out.1; omega
  have hn4 : Hid (w.heap.size + 1 + 1 ≠ w.heap.size) := fun e => by omega
  have HDy : Hid (dcV ⟨⟨rk, ri, rs, ru, rc⟩, rpY ⟨1, t, i, s, u⟩ ⟨rk, ri, rs, ru, rc⟩, true, 0⟩ = .tuple #[.agg #[.int .i64 rk, .int .u32 ri, .int .i64 rs, .int .i64 ru, .int .i64 rc], .agg #[.int .u32 t, .int .i64 1, .int .i64 0, .int .u32 ri, .int .i64 0, .int .i64 ru, .int .i64 0], .bool true, .int .i64 0]) := by simp [Hid, dcV, rpY, Rk.rcV, Rt.ryV]
  clear HRp
  refine wp_region_held_drew (S := (fun W => (W.cell? ⟨Z, 0, none⟩ = some (.int .i64 rk) ∧ W.cell? ⟨Z, 1, none⟩ = some (.int .u32 ri) ∧ W.cell? ⟨Z, 2, none⟩ = some (.int .i64 rs) ∧ W.cell? ⟨Z, 3, none⟩ = some (.int .i64 ru) ∧ W.cell? ⟨Z, 4, none⟩ = some (.int .i64 rc) ∧ W.cell? ⟨w.heap.size, 0, none⟩ = some (.int .i64 1) ∧ W.cell? ⟨w.heap.size, 1, none⟩ = some (.int .u32 t) ∧ W.cell? ⟨w.heap.size, 2, none⟩ = some (.int .u32 i) ∧ W.cell? ⟨w.heap.size, 3, none⟩ = some (.int .i64 s) ∧ W.cell? ⟨w.heap.size, 4, none⟩ = some (.int .i64 u)))) (by kernel_rfl) ?_ (fun hHeld => ?_)
  · (exact HSo.out _ (grown_drew _ none))
  refine tkH (i := 0) (v := ?_) rfl ?_ ?_
  rotate_left
  · (intro w hSw; (try dsimp only at hSw); (go_simp <;> with_reducible rfl))
  try simp only [Act.put, List.setIfInBounds_toArray]
  refine tkH (i := 1) (v := ?_) rfl ?_ ?_
  rotate_left
  · (intro w hSw; (try dsimp only at hSw); (go_simp <;> with_reducible rfl))
  try simp only [Act.put]
  refine tkH (i := 2) (v := ?_) rfl ?_ ?_
  rotate_left
  · (intro w hSw; (try dsimp only at hSw); (go_simp <;> with_reducible rfl))
  try simp only [Act.put]
  refine rdH (i := 3) rfl (fun K hK => ?_)
  go_simp
  refine (HRv.out _).mono ?_; rintro e wa ⟨rfl, hga⟩; have Ga := hide (grown_trans (grown_drew w9 none) hga); have hJ := HSo.out _ Ga.out; have Ma := hide (M9.out.then Ga.out); obtain ⟨⟨d0, d1, d2, d3, d4⟩, d5⟩ := bxf5 Ma.out.b6; obtain ⟨⟨x0, x1, x2, x3, x4, x5, x6⟩, x7⟩ := bxf7 Ma.out.b5
  go_wp2_with fail
  refine hK.out _ _ ?_ (fun hHeld => ?_)
  · ((try dsimp only); first | with_reducible assumption | with_reducible exact s10_set5 hJ hn1.out hn2.out _ _ _ _ _ | with_reducible exact s10_set7 (s10_set5 hJ hn1.out hn2.out _ _ _ _ _) hn3.out hn4.out _ _ _ _ _ _ _)
  clear hK K
  try simp only [Act.put, List.setIfInBounds_toArray, List.set_cons_zero, List.set_cons_succ]
  refine rdH (i := 4) rfl (fun K hK => ?_)
  go_simp
  refine hK.out _ _ ?_ (fun hHeld => ?_)
  · ((try dsimp only); first | with_reducible assumption | with_reducible exact s10_set5 hJ hn1.out hn2.out _ _ _ _ _ | with_reducible exact s10_set7 (s10_set5 hJ hn1.out hn2.out _ _ _ _ _) hn3.out hn4.out _ _ _ _ _ _ _)
  clear hK K
  try simp only [Act.put, List.setIfInBounds_toArray, List.set_cons_zero, List.set_cons_succ]
  refine rdH (i := 5) rfl (fun K hK => ?_)
  go_simp
  refine hK.out _ _ ?_ (fun hHeld => ?_)
  · ((try dsimp only); first | with_reducible assumption | with_reducible exact s10_set5 hJ hn1.out hn2.out _ _ _ _ _ | with_reducible exact s10_set7 (s10_set5 hJ hn1.out hn2.out _ _ _ _ _) hn3.out hn4.out _ _ _ _ _ _ _)
  clear hK K
  try simp only [Act.put, List.setIfInBounds_toArray, List.set_cons_zero, List.set_cons_succ]
  refine tkH (i := 6) (oi := { dst := some 8, op := Go.Op.assign (Go.Operand.const (Go.Value.bool true)), type := 4, pos := "cases.go:51", after := #[{ on := 5, ground := Go.Ground.chain }, { on := 0, ground := Go.Ground.phase }, { on := 1, ground := Go.Ground.phase }, { on := 2, ground := Go.Ground.phase }, { on := 3, ground := Go.Ground.phase }, { on := 4, ground := Go.Ground.phase }, { on := 5, ground := Go.Ground.phase }], guard := none }) (v := ?_) rfl ?_ ?_
  rotate_left
  · (intro w hSw; (try dsimp only at hSw); (go_simp <;> with_reducible rfl))
  try simp only [Act.put, List.setIfInBounds_toArray, List.set_cons_zero, List.set_cons_succ]
  refine tkH (i := 7) (oi := { dst := some 9, op := Go.Op.assign (Go.Operand.const (Go.Value.int Go.IntKind.i64 0)), type := 29, pos := "cases.go:51", after := #[{ on := 6, ground := Go.Ground.chain }, { on := 0, ground := Go.Ground.phase }, { on := 1, ground := Go.Ground.phase }, { on := 2, ground := Go.Ground.phase }, { on := 3, ground := Go.Ground.phase }, { on := 4, ground := Go.Ground.phase }, { on := 5, ground := Go.Ground.phase }, { on := 6, ground := Go.Ground.phase }], guard := none }) (v := ?_) rfl ?_ ?_
  rotate_left
  · (intro w hSw; (try dsimp only at hSw); (go_simp <;> with_reducible rfl))
  try simp only [Act.put, List.setIfInBounds_toArray, List.set_cons_zero, List.set_cons_succ]
  refine wpAnyH_done (by kernel_rfl) ?_ _
  go_wp2
  obtain ⟨r1, r2, r3⟩ := dc_end Ma.out (g := w.heap.size + 1) (h := w.heap.size + 1 + 1) (List.mem_cons_of_mem _ (List.mem_cons_of_mem _ (List.mem_cons_of_mem _ (List.mem_cons_of_mem _ (List.mem_cons_of_mem _ (List.mem_cons_of_mem _ (List.mem_cons_self ..))))))) (List.mem_cons_of_mem _ (List.mem_cons_of_mem _ (List.mem_cons_of_mem _ (List.mem_cons_of_mem _ (List.mem_cons_of_mem _ (List.mem_cons_self ..)))))) rfl rfl (by omega) (.int .i64 rk) (.int .u32 ri) (.int .i64 rs) (.int .i64 ru) (.int .i64 rc) (.int .u32 t) (.int .i64 1) (.int .i64 0) (.int .u32 ri) (.int .i64 0) (.int .i64 ru) (.int .i64 0)
  exact bodyPost_ret (results_c2t2 rfl _ _ (w.heap.size + 1) (w.heap.size + 1 + 1) _ _ rfl rfl r1 r2 rfl rfl) rfl ⟨by rw [HZ.out, HDy.out]; rfl, r3⟩
end
end Go.Proofs.YtjfhilignbeboaaGreatDoor
