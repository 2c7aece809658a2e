/- Texts joined: Ra2, Ra3, Ra, LaG. -/
import Derived.Test.YtjfhilignbeboaaGreatDoorJuAn
import Derived.Test.YtjfhilignbeboaaGreatDoorJuAx
namespace Go.Proofs.YtjfhilignbeboaaGreatDoor
/- Requests out of plain numbers, part by part. -/
open Go.RowKit
attribute [local go_sem ↓] Go.wp_at_zero Go.wp_at_succ
attribute [local go_sem] Oper.semAt_some
set_option maxHeartbeats 8000000 in
theorem request_110 (k i s u t kk : Int) (hk : 1 + k % 10 = kk) (h1 : Rs.hI kk = true) (h2 : Rs.hS kk = true) (h3 : Rs.hL kk = false) (w : World) : Calls Tryz.prog 18 #[akV ⟨k, i, s, u, t⟩] w fun e w' => e = .returned (.agg #[.int .i64 kk, .int .u32 t, .int .u32 (i % 12), .int .i64 (s % 14), .int .i64 (0)]) ∧ w.grownBy w' none := by
  have HP : Hid (∀ x (n : Nat) W, 1 ≤ n → n ≤ 4294967296 → Calls Tryz.prog 57 #[.int .i64 x, .int .i64 (n : Int)] W fun e w' => e = .returned (.int .i64 (x % (n : Int))) ∧ w' = W) := fun x n W h1 h2 => pick_any x n W h1 h2
  have HP10 : Hid (∀ W, Calls Tryz.prog 57 #[.int .i64 k, .int .i64 10] W fun e w' => e = .returned (.int .i64 (k % 10)) ∧ w' = W) := fun W => HP.out k 10 W (by decide) (by decide)
  have hkk : IntKind.i64.wrap (1 + k % 10) = kk := by rw [← hk, IntKind.wrap_i64]; omega
  have HP12 : Hid (∀ W, Calls Tryz.prog 57 #[.int .i64 i, .int .i64 12] W fun e w' => e = .returned (.int .i64 (i % 12)) ∧ w' = W) := fun W => HP.out i 12 W (by decide) (by decide)
  have hI1 : IntKind.u32.wrap (i % 12) = i % 12 := by rw [IntKind.wrap_u32]; omega
  have HP14 : Hid (∀ W, Calls Tryz.prog 57 #[.int .i64 s, .int .i64 14] W fun e w' => e = .returned (.int .i64 (s % 14)) ∧ w' = W) := fun W => HP.out s 14 W (by decide) (by decide)
  have HH : Hid (∀ W, Calls Tryz.prog 58 #[.int .i64 kk] W fun e w' => e = .returned (.tuple #[.bool true, .bool true, .bool false]) ∧ w' = W) := fun W => by have := Rs.rhas_any kk W; rw [h1, h2, h3] at this; exact this
  have HA0 := hide (new2a w (.cells [Value.int .i64 k, .int .i64 i, .int .i64 s, .int .i64 u, .int .u32 t].toArray 65) (.cells [Value.int .i64 0, .int .u32 0, .int .u32 0, .int .i64 0, .int .i64 0].toArray 25))
  have HA1 := hide (new2 w (.cells [Value.int .i64 k, .int .i64 i, .int .i64 s, .int .i64 u, .int .u32 t].toArray 65) (.cells [Value.int .i64 0, .int .u32 0, .int .u32 0, .int .i64 0, .int .i64 0].toArray 25))
  have HG0 := hide (grown_alloc2 w (.cells [Value.int .i64 k, .int .i64 i, .int .i64 s, .int .i64 u, .int .u32 t].toArray 65) (.cells [Value.int .i64 0, .int .u32 0, .int .u32 0, .int .i64 0, .int .i64 0].toArray 25))
  obtain ⟨a0, a1, a2, a3, a4⟩ := bx5 HA0.out
  clear hk h1 h2 h3 HP
  unfold akV
  simp only
  generalize i % 12 = mi at *
  generalize s % 14 = ms at *
  generalize k % 10 = k1 at *
  go_enter Tryz.func18, Tryz.ntmps18
  go_wp2
  generalize World.alloc (World.alloc w _) _ = w1 at *
  have HSo : Hid (∀ W, w1.grownBy W none → W.cell? ⟨w.heap.size, 0, none⟩ = some (.int .i64 k) ∧ W.cell? ⟨w.heap.size, 4, none⟩ = some (.int .u32 t)) := fun W gW => by obtain ⟨b0, b1, b2, b3, b4⟩ := bx5 (box_to HA0.out gW); exact ⟨b0, b4⟩
  refine wp_region_held_drew (S := (fun W => W.cell? ⟨w.heap.size, 0, none⟩ = some (.int .i64 k) ∧ W.cell? ⟨w.heap.size, 4, none⟩ = some (.int .u32 t))) (by kernel_rfl) ?_ (fun hHeld => ?_)
  · (exact HSo.out _ (grown_drew _ none))
  refine tkH (i := 0) (v := ?_) rfl ?_ ?_
  rotate_left
  · (intro w hSw; (try dsimp only at hSw); (go_simp <;> with_reducible rfl))
  try simp only [Act.put, List.setIfInBounds_toArray]
  refine tkH (i := 1) (v := ?_) rfl ?_ ?_
  rotate_left
  · (intro w hSw; (try dsimp only at hSw); (go_simp <;> with_reducible rfl))
  try simp only [Act.put]
  refine tkH (i := 4) (v := ?_) rfl ?_ ?_
  rotate_left
  · (intro w hSw; (try dsimp only at hSw); (go_simp <;> with_reducible rfl))
  try simp only [Act.put]
  refine tkH (i := 5) (v := ?_) rfl ?_ ?_
  rotate_left
  · (intro w hSw; (try dsimp only at hSw); (go_simp <;> with_reducible rfl))
  try simp only [Act.put]
  refine wpAnyH_ready (rs := [2, 7]) (by kernel_rfl) (by simp) ?_
  refine AllReadyH.cons rfl (fun K hK => ?_) ?_
  · skip
    go_simp
    refine (HP10.out _).mono ?_
    rintro e wx ⟨rfl, hwx⟩
    obtain rfl := hwx.symm
    go_wp2_with fail
    refine hK.out _ _ ?_ (fun hHeld => ?_)
    · ((try dsimp only); first | with_reducible assumption | exact HSo.out _ (gn_alloc (grown_drew _ none) _))
    clear hK K
    try simp only [Act.put, List.setIfInBounds_toArray, List.set_cons_zero, List.set_cons_succ]
    refine tkH (i := 3) (v := ?_) rfl ?_ ?_
    rotate_left
    · (intro w hSw; (try dsimp only at hSw); (go_simp <;> with_reducible rfl))
    try simp only [Act.put, List.setIfInBounds_toArray]
    refine tkH (i := 6) (v := ?_) rfl ?_ ?_
    rotate_left
    · (intro w hSw; (try dsimp only at hSw); (go_simp <;> with_reducible rfl))
    try simp only [Act.put]
    refine rdH (i := 7) rfl (fun K hK => ?_)
    go_simp
    refine hK.out _ _ ?_ (fun hHeld => ?_)
    · ((try dsimp only); first | with_reducible assumption | exact HSo.out _ (gn_alloc (grown_drew _ none) _))
    clear hK K
    try simp only [Act.put, List.setIfInBounds_toArray, List.set_cons_zero, List.set_cons_succ]
    refine rdH (i := 8) rfl (fun K hK => ?_)
    go_simp
    refine hK.out _ _ ?_ (fun hHeld => ?_)
    · ((try dsimp only); first | with_reducible assumption | exact HSo.out _ (gn_alloc (grown_drew _ none) _))
    clear hK K
    try simp only [Act.put, List.setIfInBounds_toArray, List.set_cons_zero, List.set_cons_succ]
    refine wpAnyH_done (by kernel_rfl) ?_ _
    have b0 := hide (drew_at (box_to HA0.out (grown_alloc w1 (.cells [Value.int .i64 kk, .int .u32 t, .int .u32 0, .int .i64 0, .int .i64 0].toArray 25))))
    have b1 := hide (drew_at (box_to HA1.out (grown_alloc w1 (.cells [Value.int .i64 kk, .int .u32 t, .int .u32 0, .int .i64 0, .int .i64 0].toArray 25))))
    have b2 := hide (drew_at (heap_alloc_new w1 (.cells [Value.int .i64 kk, .int .u32 t, .int .u32 0, .int .i64 0, .int .i64 0].toArray 25)))
    have HG := hide (grown_trans (gn_alloc HG0.out (.cells [Value.int .i64 kk, .int .u32 t, .int .u32 0, .int .i64 0, .int .i64 0].toArray 25)) (grown_drew _ none))
    have HSz := hide (row_lt HA1.out)
    clear HSo HA0 HA1 HG0 a0 a1 a2 a3 a4 hHeld
    generalize hX : w1.heap.size = X at *
    clear hX
    generalize World.drew (World.alloc w1 (.cells [Value.int .i64 kk, .int .u32 t, .int .u32 0, .int .i64 0, .int .i64 0].toArray 25)) = v0 at *
    obtain ⟨a0, a1, a2, a3, a4⟩ := bx5 b0.out
    obtain ⟨⟨y0, y1, y2, y3, y4⟩, y5⟩ := bxf5 b2.out
    go_wp2_with fail
    refine (HH.out _).mono ?_
    rintro e wx ⟨rfl, hwx⟩
    obtain rfl := hwx.symm
    clear hwx
    go_wp2_with fail
    refine (HP12.out _).mono ?_
    rintro e wx ⟨rfl, hwx⟩
    obtain rfl := hwx.symm
    clear hwx
    have n0 := hide (((grown_setCell v0 X 2 (.int .u32 mi)).block _ (row_lt b0.out) (fun e => by have h1 := Option.some.inj e; have h2 := HSz.out; omega)).trans b0.out)
    have n1 := hide (((grown_setCell v0 X 2 (.int .u32 mi)).block _ (row_lt b1.out) (fun e => by have h1 := Option.some.inj e; have h2 := HSz.out; omega)).trans b1.out)
    have n2 := hide (row_setCell b2.out 2 (.int .u32 mi))
    have nG := hide (gn_own HG.out (grown_setCell v0 X 2 (.int .u32 mi)) (by have h2 := HSz.out; omega))
    go_upto_region 5 with fail
    generalize World.setCell _ _ _ = v1 at *
    clear b0 b1 b2 HG a0 a1 a2 a3 a4 y0 y1 y2 y3 y4 y5
    have b0 := n0
    have b1 := n1
    have b2 := n2
    have HG := nG
    clear n0 n1 n2 nG
    obtain ⟨a0, a1, a2, a3, a4⟩ := bx5 b0.out
    obtain ⟨⟨y0, y1, y2, y3, y4⟩, y5⟩ := bxf5 b2.out
    go_wp2_with fail
    refine (HP14.out _).mono ?_
    rintro e wx ⟨rfl, hwx⟩
    obtain rfl := hwx.symm
    clear hwx
    have n0 := hide (((grown_setCell v1 X 3 (.int .i64 ms)).block _ (row_lt b0.out) (fun e => by have h1 := Option.some.inj e; have h2 := HSz.out; omega)).trans b0.out)
    have n1 := hide (((grown_setCell v1 X 3 (.int .i64 ms)).block _ (row_lt b1.out) (fun e => by have h1 := Option.some.inj e; have h2 := HSz.out; omega)).trans b1.out)
    have n2 := hide (row_setCell b2.out 3 (.int .i64 ms))
    have nG := hide (gn_own HG.out (grown_setCell v1 X 3 (.int .i64 ms)) (by have h2 := HSz.out; omega))
    go_upto_region 7 with fail
    generalize World.setCell _ _ _ = v2 at *
    clear b0 b1 b2 HG a0 a1 a2 a3 a4 y0 y1 y2 y3 y4 y5
    have b0 := n0
    have b1 := n1
    have b2 := n2
    have HG := nG
    clear n0 n1 n2 nG
    obtain ⟨a0, a1, a2, a3, a4⟩ := bx5 b0.out
    obtain ⟨⟨y0, y1, y2, y3, y4⟩, y5⟩ := bxf5 b2.out
    clear a0 a1 a2 a3 a4
    obtain ⟨⟨x0, x1, x2, x3, x4⟩, x5⟩ := bxf5 b1.out
    go_wp2
    obtain ⟨r1, r2⟩ := set5w v2 rfl b1.out (.int .i64 kk) (.int .u32 t) (.int .u32 mi) (.int .i64 ms) (.int .i64 0)
    exact bodyPost_ret (results_cell_row rfl _ _ (w.heap.size + 1) 25 _ (0, 0) _ rfl r1 Tryz.underlying25 rfl (by kernel_rfl)) rfl ⟨rfl, gn_own HG.out r2 (by omega)⟩
  refine AllReadyH.cons rfl (fun K hK => ?_) ?_
  · skip
    go_simp
    refine hK.out _ _ ?_ (fun hHeld => ?_)
    · ((try dsimp only); first | with_reducible assumption | exact HSo.out _ (gn_alloc (grown_drew _ none) _))
    clear hK K
    try simp only [Act.put, List.setIfInBounds_toArray, List.set_cons_zero, List.set_cons_succ]
    refine rdH (i := 2) rfl (fun K hK => ?_)
    go_simp
    refine (HP10.out _).mono ?_
    rintro e wx ⟨rfl, hwx⟩
    obtain rfl := hwx.symm
    go_wp2_with fail
    refine hK.out _ _ ?_ (fun hHeld => ?_)
    · ((try dsimp only); first | with_reducible assumption | exact HSo.out _ (gn_alloc (grown_drew _ none) _))
    clear hK K
    try simp only [Act.put, List.setIfInBounds_toArray, List.set_cons_zero, List.set_cons_succ]
    refine tkH (i := 3) (v := ?_) rfl ?_ ?_
    rotate_left
    · (intro w hSw; (try dsimp only at hSw); (go_simp <;> with_reducible rfl))
    try simp only [Act.put, List.setIfInBounds_toArray]
    refine tkH (i := 6) (v := ?_) rfl ?_ ?_
    rotate_left
    · (intro w hSw; (try dsimp only at hSw); (go_simp <;> with_reducible rfl))
    try simp only [Act.put]
    refine rdH (i := 8) rfl (fun K hK => ?_)
    go_simp
    refine hK.out _ _ ?_ (fun hHeld => ?_)
    · ((try dsimp only); first | with_reducible assumption | exact HSo.out _ (gn_alloc (grown_drew _ none) _))
    clear hK K
    try simp only [Act.put, List.setIfInBounds_toArray, List.set_cons_zero, List.set_cons_succ]
    refine wpAnyH_done (by kernel_rfl) ?_ _
    have b0 := hide (drew_at (box_to HA0.out (grown_alloc w1 (.cells [Value.int .i64 kk, .int .u32 t, .int .u32 0, .int .i64 0, .int .i64 0].toArray 25))))
    have b1 := hide (drew_at (box_to HA1.out (grown_alloc w1 (.cells [Value.int .i64 kk, .int .u32 t, .int .u32 0, .int .i64 0, .int .i64 0].toArray 25))))
    have b2 := hide (drew_at (heap_alloc_new w1 (.cells [Value.int .i64 kk, .int .u32 t, .int .u32 0, .int .i64 0, .int .i64 0].toArray 25)))
    have HG := hide (grown_trans (gn_alloc HG0.out (.cells [Value.int .i64 kk, .int .u32 t, .int .u32 0, .int .i64 0, .int .i64 0].toArray 25)) (grown_drew _ none))
    have HSz := hide (row_lt HA1.out)
    clear HSo HA0 HA1 HG0 a0 a1 a2 a3 a4 hHeld
    generalize hX : w1.heap.size = X at *
    clear hX
    generalize World.drew (World.alloc w1 (.cells [Value.int .i64 kk, .int .u32 t, .int .u32 0, .int .i64 0, .int .i64 0].toArray 25)) = v0 at *
    obtain ⟨a0, a1, a2, a3, a4⟩ := bx5 b0.out
    obtain ⟨⟨y0, y1, y2, y3, y4⟩, y5⟩ := bxf5 b2.out
    go_wp2_with fail
    refine (HH.out _).mono ?_
    rintro e wx ⟨rfl, hwx⟩
    obtain rfl := hwx.symm
    clear hwx
    go_wp2_with fail
    refine (HP12.out _).mono ?_
    rintro e wx ⟨rfl, hwx⟩
    obtain rfl := hwx.symm
    clear hwx
    have n0 := hide (((grown_setCell v0 X 2 (.int .u32 mi)).block _ (row_lt b0.out) (fun e => by have h1 := Option.some.inj e; have h2 := HSz.out; omega)).trans b0.out)
    have n1 := hide (((grown_setCell v0 X 2 (.int .u32 mi)).block _ (row_lt b1.out) (fun e => by have h1 := Option.some.inj e; have h2 := HSz.out; omega)).trans b1.out)
    have n2 := hide (row_setCell b2.out 2 (.int .u32 mi))
    have nG := hide (gn_own HG.out (grown_setCell v0 X 2 (.int .u32 mi)) (by have h2 := HSz.out; omega))
    go_upto_region 5 with fail
    generalize World.setCell _ _ _ = v1 at *
    clear b0 b1 b2 HG a0 a1 a2 a3 a4 y0 y1 y2 y3 y4 y5
    have b0 := n0
    have b1 := n1
    have b2 := n2
    have HG := nG
    clear n0 n1 n2 nG
    obtain ⟨a0, a1, a2, a3, a4⟩ := bx5 b0.out
    obtain ⟨⟨y0, y1, y2, y3, y4⟩, y5⟩ := bxf5 b2.out
    go_wp2_with fail
    refine (HP14.out _).mono ?_
    rintro e wx ⟨rfl, hwx⟩
    obtain rfl := hwx.symm
    clear hwx
    have n0 := hide (((grown_setCell v1 X 3 (.int .i64 ms)).block _ (row_lt b0.out) (fun e => by have h1 := Option.some.inj e; have h2 := HSz.out; omega)).trans b0.out)
    have n1 := hide (((grown_setCell v1 X 3 (.int .i64 ms)).block _ (row_lt b1.out) (fun e => by have h1 := Option.some.inj e; have h2 := HSz.out; omega)).trans b1.out)
    have n2 := hide (row_setCell b2.out 3 (.int .i64 ms))
    have nG := hide (gn_own HG.out (grown_setCell v1 X 3 (.int .i64 ms)) (by have h2 := HSz.out; omega))
    go_upto_region 7 with fail
    generalize World.setCell _ _ _ = v2 at *
    clear b0 b1 b2 HG a0 a1 a2 a3 a4 y0 y1 y2 y3 y4 y5
    have b0 := n0
    have b1 := n1
    have b2 := n2
    have HG := nG
    clear n0 n1 n2 nG
    obtain ⟨a0, a1, a2, a3, a4⟩ := bx5 b0.out
    obtain ⟨⟨y0, y1, y2, y3, y4⟩, y5⟩ := bxf5 b2.out
    clear a0 a1 a2 a3 a4
    obtain ⟨⟨x0, x1, x2, x3, x4⟩, x5⟩ := bxf5 b1.out
    go_wp2
    obtain ⟨r1, r2⟩ := set5w v2 rfl b1.out (.int .i64 kk) (.int .u32 t) (.int .u32 mi) (.int .i64 ms) (.int .i64 0)
    exact bodyPost_ret (results_cell_row rfl _ _ (w.heap.size + 1) 25 _ (0, 0) _ rfl r1 Tryz.underlying25 rfl (by kernel_rfl)) rfl ⟨rfl, gn_own HG.out r2 (by omega)⟩
  exact AllReadyH.nil
set_option maxHeartbeats 8000000 in
theorem request_010 (k i s u t kk : Int) (hk : 1 + k % 10 = kk) (h1 : Rs.hI kk = false) (h2 : Rs.hS kk = true) (h3 : Rs.hL kk = false) (w : World) : Calls Tryz.prog 18 #[akV ⟨k, i, s, u, t⟩] w fun e w' => e = .returned (.agg #[.int .i64 kk, .int .u32 t, .int .u32 (0), .int .i64 (s % 14), .int .i64 (0)]) ∧ w.grownBy w' none := by
  have HP : Hid (∀ x (n : Nat) W, 1 ≤ n → n ≤ 4294967296 → Calls Tryz.prog 57 #[.int .i64 x, .int .i64 (n : Int)] W fun e w' => e = .returned (.int .i64 (x % (n : Int))) ∧ w' = W) := fun x n W h1 h2 => pick_any x n W h1 h2
  have HP10 : Hid (∀ W, Calls Tryz.prog 57 #[.int .i64 k, .int .i64 10] W fun e w' => e = .returned (.int .i64 (k % 10)) ∧ w' = W) := fun W => HP.out k 10 W (by decide) (by decide)
  have hkk : IntKind.i64.wrap (1 + k % 10) = kk := by rw [← hk, IntKind.wrap_i64]; omega
  have HP14 : Hid (∀ W, Calls Tryz.prog 57 #[.int .i64 s, .int .i64 14] W fun e w' => e = .returned (.int .i64 (s % 14)) ∧ w' = W) := fun W => HP.out s 14 W (by decide) (by decide)
  have HH : Hid (∀ W, Calls Tryz.prog 58 #[.int .i64 kk] W fun e w' => e = .returned (.tuple #[.bool false, .bool true, .bool false]) ∧ w' = W) := fun W => by have := Rs.rhas_any kk W; rw [h1, h2, h3] at this; exact this
  have HA0 := hide (new2a w (.cells [Value.int .i64 k, .int .i64 i, .int .i64 s, .int .i64 u, .int .u32 t].toArray 65) (.cells [Value.int .i64 0, .int .u32 0, .int .u32 0, .int .i64 0, .int .i64 0].toArray 25))
  have HA1 := hide (new2 w (.cells [Value.int .i64 k, .int .i64 i, .int .i64 s, .int .i64 u, .int .u32 t].toArray 65) (.cells [Value.int .i64 0, .int .u32 0, .int .u32 0, .int .i64 0, .int .i64 0].toArray 25))
  have HG0 := hide (grown_alloc2 w (.cells [Value.int .i64 k, .int .i64 i, .int .i64 s, .int .i64 u, .int .u32 t].toArray 65) (.cells [Value.int .i64 0, .int .u32 0, .int .u32 0, .int .i64 0, .int .i64 0].toArray 25))
  obtain ⟨a0, a1, a2, a3, a4⟩ := bx5 HA0.out
  clear hk h1 h2 h3 HP
  unfold akV
  simp only
  generalize s % 14 = ms at *
  generalize k % 10 = k1 at *
  go_enter Tryz.func18, Tryz.ntmps18
  go_wp2
  generalize World.alloc (World.alloc w _) _ = w1 at *
  have HSo : Hid (∀ W, w1.grownBy W none → W.cell? ⟨w.heap.size, 0, none⟩ = some (.int .i64 k) ∧ W.cell? ⟨w.heap.size, 4, none⟩ = some (.int .u32 t)) := fun W gW => by obtain ⟨b0, b1, b2, b3, b4⟩ := bx5 (box_to HA0.out gW); exact ⟨b0, b4⟩
  refine wp_region_held_drew (S := (fun W => W.cell? ⟨w.heap.size, 0, none⟩ = some (.int .i64 k) ∧ W.cell? ⟨w.heap.size, 4, none⟩ = some (.int .u32 t))) (by kernel_rfl) ?_ (fun hHeld => ?_)
  · (exact HSo.out _ (grown_drew _ none))
  refine tkH (i := 0) (v := ?_) rfl ?_ ?_
  rotate_left
  · (intro w hSw; (try dsimp only at hSw); (go_simp <;> with_reducible rfl))
  try simp only [Act.put, List.setIfInBounds_toArray]
  refine tkH (i := 1) (v := ?_) rfl ?_ ?_
  rotate_left
  · (intro w hSw; (try dsimp only at hSw); (go_simp <;> with_reducible rfl))
  try simp only [Act.put]
  refine tkH (i := 4) (v := ?_) rfl ?_ ?_
  rotate_left
  · (intro w hSw; (try dsimp only at hSw); (go_simp <;> with_reducible rfl))
  try simp only [Act.put]
  refine tkH (i := 5) (v := ?_) rfl ?_ ?_
  rotate_left
  · (intro w hSw; (try dsimp only at hSw); (go_simp <;> with_reducible rfl))
  try simp only [Act.put]
  refine wpAnyH_ready (rs := [2, 7]) (by kernel_rfl) (by simp) ?_
  refine AllReadyH.cons rfl (fun K hK => ?_) ?_
  · skip
    go_simp
    refine (HP10.out _).mono ?_
    rintro e wx ⟨rfl, hwx⟩
    obtain rfl := hwx.symm
    go_wp2_with fail
    refine hK.out _ _ ?_ (fun hHeld => ?_)
    · ((try dsimp only); first | with_reducible assumption | exact HSo.out _ (gn_alloc (grown_drew _ none) _))
    clear hK K
    try simp only [Act.put, List.setIfInBounds_toArray, List.set_cons_zero, List.set_cons_succ]
    refine tkH (i := 3) (v := ?_) rfl ?_ ?_
    rotate_left
    · (intro w hSw; (try dsimp only at hSw); (go_simp <;> with_reducible rfl))
    try simp only [Act.put, List.setIfInBounds_toArray]
    refine tkH (i := 6) (v := ?_) rfl ?_ ?_
    rotate_left
    · (intro w hSw; (try dsimp only at hSw); (go_simp <;> with_reducible rfl))
    try simp only [Act.put]
    refine rdH (i := 7) rfl (fun K hK => ?_)
    go_simp
    refine hK.out _ _ ?_ (fun hHeld => ?_)
    · ((try dsimp only); first | with_reducible assumption | exact HSo.out _ (gn_alloc (grown_drew _ none) _))
    clear hK K
    try simp only [Act.put, List.setIfInBounds_toArray, List.set_cons_zero, List.set_cons_succ]
    refine rdH (i := 8) rfl (fun K hK => ?_)
    go_simp
    refine hK.out _ _ ?_ (fun hHeld => ?_)
    · ((try dsimp only); first | with_reducible assumption | exact HSo.out _ (gn_alloc (grown_drew _ none) _))
    clear hK K
    try simp only [Act.put, List.setIfInBounds_toArray, List.set_cons_zero, List.set_cons_succ]
    refine wpAnyH_done (by kernel_rfl) ?_ _
    have b0 := hide (drew_at (box_to HA0.out (grown_alloc w1 (.cells [Value.int .i64 kk, .int .u32 t, .int .u32 0, .int .i64 0, .int .i64 0].toArray 25))))
    have b1 := hide (drew_at (box_to HA1.out (grown_alloc w1 (.cells [Value.int .i64 kk, .int .u32 t, .int .u32 0, .int .i64 0, .int .i64 0].toArray 25))))
    have b2 := hide (drew_at (heap_alloc_new w1 (.cells [Value.int .i64 kk, .int .u32 t, .int .u32 0, .int .i64 0, .int .i64 0].toArray 25)))
    have HG := hide (grown_trans (gn_alloc HG0.out (.cells [Value.int .i64 kk, .int .u32 t, .int .u32 0, .int .i64 0, .int .i64 0].toArray 25)) (grown_drew _ none))
    have HSz := hide (row_lt HA1.out)
    clear HSo HA0 HA1 HG0 a0 a1 a2 a3 a4 hHeld
    generalize hX : w1.heap.size = X at *
    clear hX
    generalize World.drew (World.alloc w1 (.cells [Value.int .i64 kk, .int .u32 t, .int .u32 0, .int .i64 0, .int .i64 0].toArray 25)) = v0 at *
    obtain ⟨a0, a1, a2, a3, a4⟩ := bx5 b0.out
    obtain ⟨⟨y0, y1, y2, y3, y4⟩, y5⟩ := bxf5 b2.out
    go_wp2_with fail
    refine (HH.out _).mono ?_
    rintro e wx ⟨rfl, hwx⟩
    obtain rfl := hwx.symm
    clear hwx
    go_wp2_with fail
    refine (HP14.out _).mono ?_
    rintro e wx ⟨rfl, hwx⟩
    obtain rfl := hwx.symm
    clear hwx
    have n0 := hide (((grown_setCell v0 X 3 (.int .i64 ms)).block _ (row_lt b0.out) (fun e => by have h1 := Option.some.inj e; have h2 := HSz.out; omega)).trans b0.out)
    have n1 := hide (((grown_setCell v0 X 3 (.int .i64 ms)).block _ (row_lt b1.out) (fun e => by have h1 := Option.some.inj e; have h2 := HSz.out; omega)).trans b1.out)
    have n2 := hide (row_setCell b2.out 3 (.int .i64 ms))
    have nG := hide (gn_own HG.out (grown_setCell v0 X 3 (.int .i64 ms)) (by have h2 := HSz.out; omega))
    go_upto_region 7 with fail
    generalize World.setCell _ _ _ = v1 at *
    clear b0 b1 b2 HG a0 a1 a2 a3 a4 y0 y1 y2 y3 y4 y5
    have b0 := n0
    have b1 := n1
    have b2 := n2
    have HG := nG
    clear n0 n1 n2 nG
    obtain ⟨a0, a1, a2, a3, a4⟩ := bx5 b0.out
    obtain ⟨⟨y0, y1, y2, y3, y4⟩, y5⟩ := bxf5 b2.out
    clear a0 a1 a2 a3 a4
    obtain ⟨⟨x0, x1, x2, x3, x4⟩, x5⟩ := bxf5 b1.out
    go_wp2
    obtain ⟨r1, r2⟩ := set5w v1 rfl b1.out (.int .i64 kk) (.int .u32 t) (.int .u32 0) (.int .i64 ms) (.int .i64 0)
    exact bodyPost_ret (results_cell_row rfl _ _ (w.heap.size + 1) 25 _ (0, 0) _ rfl r1 Tryz.underlying25 rfl (by kernel_rfl)) rfl ⟨rfl, gn_own HG.out r2 (by omega)⟩
  refine AllReadyH.cons rfl (fun K hK => ?_) ?_
  · skip
    go_simp
    refine hK.out _ _ ?_ (fun hHeld => ?_)
    · ((try dsimp only); first | with_reducible assumption | exact HSo.out _ (gn_alloc (grown_drew _ none) _))
    clear hK K
    try simp only [Act.put, List.setIfInBounds_toArray, List.set_cons_zero, List.set_cons_succ]
    refine rdH (i := 2) rfl (fun K hK => ?_)
    go_simp
    refine (HP10.out _).mono ?_
    rintro e wx ⟨rfl, hwx⟩
    obtain rfl := hwx.symm
    go_wp2_with fail
    refine hK.out _ _ ?_ (fun hHeld => ?_)
    · ((try dsimp only); first | with_reducible assumption | exact HSo.out _ (gn_alloc (grown_drew _ none) _))
    clear hK K
    try simp only [Act.put, List.setIfInBounds_toArray, List.set_cons_zero, List.set_cons_succ]
    refine tkH (i := 3) (v := ?_) rfl ?_ ?_
    rotate_left
    · (intro w hSw; (try dsimp only at hSw); (go_simp <;> with_reducible rfl))
    try simp only [Act.put, List.setIfInBounds_toArray]
    refine tkH (i := 6) (v := ?_) rfl ?_ ?_
    rotate_left
    · (intro w hSw; (try dsimp only at hSw); (go_simp <;> with_reducible rfl))
    try simp only [Act.put]
    refine rdH (i := 8) rfl (fun K hK => ?_)
    go_simp
    refine hK.out _ _ ?_ (fun hHeld => ?_)
    · ((try dsimp only); first | with_reducible assumption | exact HSo.out _ (gn_alloc (grown_drew _ none) _))
    clear hK K
    try simp only [Act.put, List.setIfInBounds_toArray, List.set_cons_zero, List.set_cons_succ]
    refine wpAnyH_done (by kernel_rfl) ?_ _
    have b0 := hide (drew_at (box_to HA0.out (grown_alloc w1 (.cells [Value.int .i64 kk, .int .u32 t, .int .u32 0, .int .i64 0, .int .i64 0].toArray 25))))
    have b1 := hide (drew_at (box_to HA1.out (grown_alloc w1 (.cells [Value.int .i64 kk, .int .u32 t, .int .u32 0, .int .i64 0, .int .i64 0].toArray 25))))
    have b2 := hide (drew_at (heap_alloc_new w1 (.cells [Value.int .i64 kk, .int .u32 t, .int .u32 0, .int .i64 0, .int .i64 0].toArray 25)))
    have HG := hide (grown_trans (gn_alloc HG0.out (.cells [Value.int .i64 kk, .int .u32 t, .int .u32 0, .int .i64 0, .int .i64 0].toArray 25)) (grown_drew _ none))
    have HSz := hide (row_lt HA1.out)
    clear HSo HA0 HA1 HG0 a0 a1 a2 a3 a4 hHeld
    generalize hX : w1.heap.size = X at *
    clear hX
    generalize World.drew (World.alloc w1 (.cells [Value.int .i64 kk, .int .u32 t, .int .u32 0, .int .i64 0, .int .i64 0].toArray 25)) = v0 at *
    obtain ⟨a0, a1, a2, a3, a4⟩ := bx5 b0.out
    obtain ⟨⟨y0, y1, y2, y3, y4⟩, y5⟩ := bxf5 b2.out
    go_wp2_with fail
    refine (HH.out _).mono ?_
    rintro e wx ⟨rfl, hwx⟩
    obtain rfl := hwx.symm
    clear hwx
    go_wp2_with fail
    refine (HP14.out _).mono ?_
    rintro e wx ⟨rfl, hwx⟩
    obtain rfl := hwx.symm
    clear hwx
    have n0 := hide (((grown_setCell v0 X 3 (.int .i64 ms)).block _ (row_lt b0.out) (fun e => by have h1 := Option.some.inj e; have h2 := HSz.out; omega)).trans b0.out)
    have n1 := hide (((grown_setCell v0 X 3 (.int .i64 ms)).block _ (row_lt b1.out) (fun e => by have h1 := Option.some.inj e; have h2 := HSz.out; omega)).trans b1.out)
    have n2 := hide (row_setCell b2.out 3 (.int .i64 ms))
    have nG := hide (gn_own HG.out (grown_setCell v0 X 3 (.int .i64 ms)) (by have h2 := HSz.out; omega))
    go_upto_region 7 with fail
    generalize World.setCell _ _ _ = v1 at *
    clear b0 b1 b2 HG a0 a1 a2 a3 a4 y0 y1 y2 y3 y4 y5
    have b0 := n0
    have b1 := n1
    have b2 := n2
    have HG := nG
    clear n0 n1 n2 nG
    obtain ⟨a0, a1, a2, a3, a4⟩ := bx5 b0.out
    obtain ⟨⟨y0, y1, y2, y3, y4⟩, y5⟩ := bxf5 b2.out
    clear a0 a1 a2 a3 a4
    obtain ⟨⟨x0, x1, x2, x3, x4⟩, x5⟩ := bxf5 b1.out
    go_wp2
    obtain ⟨r1, r2⟩ := set5w v1 rfl b1.out (.int .i64 kk) (.int .u32 t) (.int .u32 0) (.int .i64 ms) (.int .i64 0)
    exact bodyPost_ret (results_cell_row rfl _ _ (w.heap.size + 1) 25 _ (0, 0) _ rfl r1 Tryz.underlying25 rfl (by kernel_rfl)) rfl ⟨rfl, gn_own HG.out r2 (by omega)⟩
  exact AllReadyH.nil
end Go.Proofs.YtjfhilignbeboaaGreatDoor
namespace Go.Proofs.YtjfhilignbeboaaGreatDoor
/- Requests out of plain numbers, part by part. -/
open Go.RowKit
attribute [local go_sem ↓] Go.wp_at_zero Go.wp_at_succ
attribute [local go_sem] Oper.semAt_some
set_option maxHeartbeats 8000000 in
theorem request_001 (k i s u t kk : Int) (hk : 1 + k % 10 = kk) (h1 : Rs.hI kk = false) (h2 : Rs.hS kk = false) (h3 : Rs.hL kk = true) (w : World) : Calls Tryz.prog 18 #[akV ⟨k, i, s, u, t⟩] w fun e w' => e = .returned (.agg #[.int .i64 kk, .int .u32 t, .int .u32 (0), .int .i64 (0), .int .i64 (u % 9)]) ∧ w.grownBy w' none := by
  have HP : Hid (∀ x (n : Nat) W, 1 ≤ n → n ≤ 4294967296 → Calls Tryz.prog 57 #[.int .i64 x, .int .i64 (n : Int)] W fun e w' => e = .returned (.int .i64 (x % (n : Int))) ∧ w' = W) := fun x n W h1 h2 => pick_any x n W h1 h2
  have HP10 : Hid (∀ W, Calls Tryz.prog 57 #[.int .i64 k, .int .i64 10] W fun e w' => e = .returned (.int .i64 (k % 10)) ∧ w' = W) := fun W => HP.out k 10 W (by decide) (by decide)
  have hkk : IntKind.i64.wrap (1 + k % 10) = kk := by rw [← hk, IntKind.wrap_i64]; omega
  have HP9 : Hid (∀ W, Calls Tryz.prog 57 #[.int .i64 u, .int .i64 9] W fun e w' => e = .returned (.int .i64 (u % 9)) ∧ w' = W) := fun W => HP.out u 9 W (by decide) (by decide)
  have HH : Hid (∀ W, Calls Tryz.prog 58 #[.int .i64 kk] W fun e w' => e = .returned (.tuple #[.bool false, .bool false, .bool true]) ∧ w' = W) := fun W => by have := Rs.rhas_any kk W; rw [h1, h2, h3] at this; exact this
  have HA0 := hide (new2a w (.cells [Value.int .i64 k, .int .i64 i, .int .i64 s, .int .i64 u, .int .u32 t].toArray 65) (.cells [Value.int .i64 0, .int .u32 0, .int .u32 0, .int .i64 0, .int .i64 0].toArray 25))
  have HA1 := hide (new2 w (.cells [Value.int .i64 k, .int .i64 i, .int .i64 s, .int .i64 u, .int .u32 t].toArray 65) (.cells [Value.int .i64 0, .int .u32 0, .int .u32 0, .int .i64 0, .int .i64 0].toArray 25))
  have HG0 := hide (grown_alloc2 w (.cells [Value.int .i64 k, .int .i64 i, .int .i64 s, .int .i64 u, .int .u32 t].toArray 65) (.cells [Value.int .i64 0, .int .u32 0, .int .u32 0, .int .i64 0, .int .i64 0].toArray 25))
  obtain ⟨a0, a1, a2, a3, a4⟩ := bx5 HA0.out
  clear hk h1 h2 h3 HP
  unfold akV
  simp only
  generalize u % 9 = mu at *
  generalize k % 10 = k1 at *
  go_enter Tryz.func18, Tryz.ntmps18
  go_wp2
  generalize World.alloc (World.alloc w _) _ = w1 at *
  have HSo : Hid (∀ W, w1.grownBy W none → W.cell? ⟨w.heap.size, 0, none⟩ = some (.int .i64 k) ∧ W.cell? ⟨w.heap.size, 4, none⟩ = some (.int .u32 t)) := fun W gW => by obtain ⟨b0, b1, b2, b3, b4⟩ := bx5 (box_to HA0.out gW); exact ⟨b0, b4⟩
  refine wp_region_held_drew (S := (fun W => W.cell? ⟨w.heap.size, 0, none⟩ = some (.int .i64 k) ∧ W.cell? ⟨w.heap.size, 4, none⟩ = some (.int .u32 t))) (by kernel_rfl) ?_ (fun hHeld => ?_)
  · (exact HSo.out _ (grown_drew _ none))
  refine tkH (i := 0) (v := ?_) rfl ?_ ?_
  rotate_left
  · (intro w hSw; (try dsimp only at hSw); (go_simp <;> with_reducible rfl))
  try simp only [Act.put, List.setIfInBounds_toArray]
  refine tkH (i := 1) (v := ?_) rfl ?_ ?_
  rotate_left
  · (intro w hSw; (try dsimp only at hSw); (go_simp <;> with_reducible rfl))
  try simp only [Act.put]
  refine tkH (i := 4) (v := ?_) rfl ?_ ?_
  rotate_left
  · (intro w hSw; (try dsimp only at hSw); (go_simp <;> with_reducible rfl))
  try simp only [Act.put]
  refine tkH (i := 5) (v := ?_) rfl ?_ ?_
  rotate_left
  · (intro w hSw; (try dsimp only at hSw); (go_simp <;> with_reducible rfl))
  try simp only [Act.put]
  refine wpAnyH_ready (rs := [2, 7]) (by kernel_rfl) (by simp) ?_
  refine AllReadyH.cons rfl (fun K hK => ?_) ?_
  · skip
    go_simp
    refine (HP10.out _).mono ?_
    rintro e wx ⟨rfl, hwx⟩
    obtain rfl := hwx.symm
    go_wp2_with fail
    refine hK.out _ _ ?_ (fun hHeld => ?_)
    · ((try dsimp only); first | with_reducible assumption | exact HSo.out _ (gn_alloc (grown_drew _ none) _))
    clear hK K
    try simp only [Act.put, List.setIfInBounds_toArray, List.set_cons_zero, List.set_cons_succ]
    refine tkH (i := 3) (v := ?_) rfl ?_ ?_
    rotate_left
    · (intro w hSw; (try dsimp only at hSw); (go_simp <;> with_reducible rfl))
    try simp only [Act.put, List.setIfInBounds_toArray]
    refine tkH (i := 6) (v := ?_) rfl ?_ ?_
    rotate_left
    · (intro w hSw; (try dsimp only at hSw); (go_simp <;> with_reducible rfl))
    try simp only [Act.put]
    refine rdH (i := 7) rfl (fun K hK => ?_)
    go_simp
    refine hK.out _ _ ?_ (fun hHeld => ?_)
    · ((try dsimp only); first | with_reducible assumption | exact HSo.out _ (gn_alloc (grown_drew _ none) _))
    clear hK K
    try simp only [Act.put, List.setIfInBounds_toArray, List.set_cons_zero, List.set_cons_succ]
    refine rdH (i := 8) rfl (fun K hK => ?_)
    go_simp
    refine hK.out _ _ ?_ (fun hHeld => ?_)
    · ((try dsimp only); first | with_reducible assumption | exact HSo.out _ (gn_alloc (grown_drew _ none) _))
    clear hK K
    try simp only [Act.put, List.setIfInBounds_toArray, List.set_cons_zero, List.set_cons_succ]
    refine wpAnyH_done (by kernel_rfl) ?_ _
    have b0 := hide (drew_at (box_to HA0.out (grown_alloc w1 (.cells [Value.int .i64 kk, .int .u32 t, .int .u32 0, .int .i64 0, .int .i64 0].toArray 25))))
    have b1 := hide (drew_at (box_to HA1.out (grown_alloc w1 (.cells [Value.int .i64 kk, .int .u32 t, .int .u32 0, .int .i64 0, .int .i64 0].toArray 25))))
    have b2 := hide (drew_at (heap_alloc_new w1 (.cells [Value.int .i64 kk, .int .u32 t, .int .u32 0, .int .i64 0, .int .i64 0].toArray 25)))
    have HG := hide (grown_trans (gn_alloc HG0.out (.cells [Value.int .i64 kk, .int .u32 t, .int .u32 0, .int .i64 0, .int .i64 0].toArray 25)) (grown_drew _ none))
    have HSz := hide (row_lt HA1.out)
    clear HSo HA0 HA1 HG0 a0 a1 a2 a3 a4 hHeld
    generalize hX : w1.heap.size = X at *
    clear hX
    generalize World.drew (World.alloc w1 (.cells [Value.int .i64 kk, .int .u32 t, .int .u32 0, .int .i64 0, .int .i64 0].toArray 25)) = v0 at *
    obtain ⟨a0, a1, a2, a3, a4⟩ := bx5 b0.out
    obtain ⟨⟨y0, y1, y2, y3, y4⟩, y5⟩ := bxf5 b2.out
    go_wp2_with fail
    refine (HH.out _).mono ?_
    rintro e wx ⟨rfl, hwx⟩
    obtain rfl := hwx.symm
    clear hwx
    go_wp2_with fail
    refine (HP9.out _).mono ?_
    rintro e wx ⟨rfl, hwx⟩
    obtain rfl := hwx.symm
    clear hwx
    have n0 := hide (((grown_setCell v0 X 4 (.int .i64 mu)).block _ (row_lt b0.out) (fun e => by have h1 := Option.some.inj e; have h2 := HSz.out; omega)).trans b0.out)
    have n1 := hide (((grown_setCell v0 X 4 (.int .i64 mu)).block _ (row_lt b1.out) (fun e => by have h1 := Option.some.inj e; have h2 := HSz.out; omega)).trans b1.out)
    have n2 := hide (row_setCell b2.out 4 (.int .i64 mu))
    have nG := hide (gn_own HG.out (grown_setCell v0 X 4 (.int .i64 mu)) (by have h2 := HSz.out; omega))
    go_upto_region 9 with fail
    generalize World.setCell _ _ _ = v1 at *
    clear b0 b1 b2 HG a0 a1 a2 a3 a4 y0 y1 y2 y3 y4 y5
    have b0 := n0
    have b1 := n1
    have b2 := n2
    have HG := nG
    clear n0 n1 n2 nG
    obtain ⟨a0, a1, a2, a3, a4⟩ := bx5 b0.out
    obtain ⟨⟨y0, y1, y2, y3, y4⟩, y5⟩ := bxf5 b2.out
    clear a0 a1 a2 a3 a4
    obtain ⟨⟨x0, x1, x2, x3, x4⟩, x5⟩ := bxf5 b1.out
    go_wp2
    obtain ⟨r1, r2⟩ := set5w v1 rfl b1.out (.int .i64 kk) (.int .u32 t) (.int .u32 0) (.int .i64 0) (.int .i64 mu)
    exact bodyPost_ret (results_cell_row rfl _ _ (w.heap.size + 1) 25 _ (0, 0) _ rfl r1 Tryz.underlying25 rfl (by kernel_rfl)) rfl ⟨rfl, gn_own HG.out r2 (by omega)⟩
  refine AllReadyH.cons rfl (fun K hK => ?_) ?_
  · skip
    go_simp
    refine hK.out _ _ ?_ (fun hHeld => ?_)
    · ((try dsimp only); first | with_reducible assumption | exact HSo.out _ (gn_alloc (grown_drew _ none) _))
    clear hK K
    try simp only [Act.put, List.setIfInBounds_toArray, List.set_cons_zero, List.set_cons_succ]
    refine rdH (i := 2) rfl (fun K hK => ?_)
    go_simp
    refine (HP10.out _).mono ?_
    rintro e wx ⟨rfl, hwx⟩
    obtain rfl := hwx.symm
    go_wp2_with fail
    refine hK.out _ _ ?_ (fun hHeld => ?_)
    · ((try dsimp only); first | with_reducible assumption | exact HSo.out _ (gn_alloc (grown_drew _ none) _))
    clear hK K
    try simp only [Act.put, List.setIfInBounds_toArray, List.set_cons_zero, List.set_cons_succ]
    refine tkH (i := 3) (v := ?_) rfl ?_ ?_
    rotate_left
    · (intro w hSw; (try dsimp only at hSw); (go_simp <;> with_reducible rfl))
    try simp only [Act.put, List.setIfInBounds_toArray]
    refine tkH (i := 6) (v := ?_) rfl ?_ ?_
    rotate_left
    · (intro w hSw; (try dsimp only at hSw); (go_simp <;> with_reducible rfl))
    try simp only [Act.put]
    refine rdH (i := 8) rfl (fun K hK => ?_)
    go_simp
    refine hK.out _ _ ?_ (fun hHeld => ?_)
    · ((try dsimp only); first | with_reducible assumption | exact HSo.out _ (gn_alloc (grown_drew _ none) _))
    clear hK K
    try simp only [Act.put, List.setIfInBounds_toArray, List.set_cons_zero, List.set_cons_succ]
    refine wpAnyH_done (by kernel_rfl) ?_ _
    have b0 := hide (drew_at (box_to HA0.out (grown_alloc w1 (.cells [Value.int .i64 kk, .int .u32 t, .int .u32 0, .int .i64 0, .int .i64 0].toArray 25))))
    have b1 := hide (drew_at (box_to HA1.out (grown_alloc w1 (.cells [Value.int .i64 kk, .int .u32 t, .int .u32 0, .int .i64 0, .int .i64 0].toArray 25))))
    have b2 := hide (drew_at (heap_alloc_new w1 (.cells [Value.int .i64 kk, .int .u32 t, .int .u32 0, .int .i64 0, .int .i64 0].toArray 25)))
    have HG := hide (grown_trans (gn_alloc HG0.out (.cells [Value.int .i64 kk, .int .u32 t, .int .u32 0, .int .i64 0, .int .i64 0].toArray 25)) (grown_drew _ none))
    have HSz := hide (row_lt HA1.out)
    clear HSo HA0 HA1 HG0 a0 a1 a2 a3 a4 hHeld
    generalize hX : w1.heap.size = X at *
    clear hX
    generalize World.drew (World.alloc w1 (.cells [Value.int .i64 kk, .int .u32 t, .int .u32 0, .int .i64 0, .int .i64 0].toArray 25)) = v0 at *
    obtain ⟨a0, a1, a2, a3, a4⟩ := bx5 b0.out
    obtain ⟨⟨y0, y1, y2, y3, y4⟩, y5⟩ := bxf5 b2.out
    go_wp2_with fail
    refine (HH.out _).mono ?_
    rintro e wx ⟨rfl, hwx⟩
    obtain rfl := hwx.symm
    clear hwx
    go_wp2_with fail
    refine (HP9.out _).mono ?_
    rintro e wx ⟨rfl, hwx⟩
    obtain rfl := hwx.symm
    clear hwx
    have n0 := hide (((grown_setCell v0 X 4 (.int .i64 mu)).block _ (row_lt b0.out) (fun e => by have h1 := Option.some.inj e; have h2 := HSz.out; omega)).trans b0.out)
    have n1 := hide (((grown_setCell v0 X 4 (.int .i64 mu)).block _ (row_lt b1.out) (fun e => by have h1 := Option.some.inj e; have h2 := HSz.out; omega)).trans b1.out)
    have n2 := hide (row_setCell b2.out 4 (.int .i64 mu))
    have nG := hide (gn_own HG.out (grown_setCell v0 X 4 (.int .i64 mu)) (by have h2 := HSz.out; omega))
    go_upto_region 9 with fail
    generalize World.setCell _ _ _ = v1 at *
    clear b0 b1 b2 HG a0 a1 a2 a3 a4 y0 y1 y2 y3 y4 y5
    have b0 := n0
    have b1 := n1
    have b2 := n2
    have HG := nG
    clear n0 n1 n2 nG
    obtain ⟨a0, a1, a2, a3, a4⟩ := bx5 b0.out
    obtain ⟨⟨y0, y1, y2, y3, y4⟩, y5⟩ := bxf5 b2.out
    clear a0 a1 a2 a3 a4
    obtain ⟨⟨x0, x1, x2, x3, x4⟩, x5⟩ := bxf5 b1.out
    go_wp2
    obtain ⟨r1, r2⟩ := set5w v1 rfl b1.out (.int .i64 kk) (.int .u32 t) (.int .u32 0) (.int .i64 0) (.int .i64 mu)
    exact bodyPost_ret (results_cell_row rfl _ _ (w.heap.size + 1) 25 _ (0, 0) _ rfl r1 Tryz.underlying25 rfl (by kernel_rfl)) rfl ⟨rfl, gn_own HG.out r2 (by omega)⟩
  exact AllReadyH.nil
set_option maxHeartbeats 8000000 in
theorem request_000 (k i s u t kk : Int) (hk : 1 + k % 10 = kk) (h1 : Rs.hI kk = false) (h2 : Rs.hS kk = false) (h3 : Rs.hL kk = false) (w : World) : Calls Tryz.prog 18 #[akV ⟨k, i, s, u, t⟩] w fun e w' => e = .returned (.agg #[.int .i64 kk, .int .u32 t, .int .u32 (0), .int .i64 (0), .int .i64 (0)]) ∧ w.grownBy w' none := by
  have HP : Hid (∀ x (n : Nat) W, 1 ≤ n → n ≤ 4294967296 → Calls Tryz.prog 57 #[.int .i64 x, .int .i64 (n : Int)] W fun e w' => e = .returned (.int .i64 (x % (n : Int))) ∧ w' = W) := fun x n W h1 h2 => pick_any x n W h1 h2
  have HP10 : Hid (∀ W, Calls Tryz.prog 57 #[.int .i64 k, .int .i64 10] W fun e w' => e = .returned (.int .i64 (k % 10)) ∧ w' = W) := fun W => HP.out k 10 W (by decide) (by decide)
  have hkk : IntKind.i64.wrap (1 + k % 10) = kk := by rw [← hk, IntKind.wrap_i64]; omega
  have HH : Hid (∀ W, Calls Tryz.prog 58 #[.int .i64 kk] W fun e w' => e = .returned (.tuple #[.bool false, .bool false, .bool false]) ∧ w' = W) := fun W => by have := Rs.rhas_any kk W; rw [h1, h2, h3] at this; exact this
  have HA0 := hide (new2a w (.cells [Value.int .i64 k, .int .i64 i, .int .i64 s, .int .i64 u, .int .u32 t].toArray 65) (.cells [Value.int .i64 0, .int .u32 0, .int .u32 0, .int .i64 0, .int .i64 0].toArray 25))
  have HA1 := hide (new2 w (.cells [Value.int .i64 k, .int .i64 i, .int .i64 s, .int .i64 u, .int .u32 t].toArray 65) (.cells [Value.int .i64 0, .int .u32 0, .int .u32 0, .int .i64 0, .int .i64 0].toArray 25))
  have HG0 := hide (grown_alloc2 w (.cells [Value.int .i64 k, .int .i64 i, .int .i64 s, .int .i64 u, .int .u32 t].toArray 65) (.cells [Value.int .i64 0, .int .u32 0, .int .u32 0, .int .i64 0, .int .i64 0].toArray 25))
  obtain ⟨a0, a1, a2, a3, a4⟩ := bx5 HA0.out
  clear hk h1 h2 h3 HP
  unfold akV
  simp only
  generalize k % 10 = k1 at *
  go_enter Tryz.func18, Tryz.ntmps18
  go_wp2
  generalize World.alloc (World.alloc w _) _ = w1 at *
  have HSo : Hid (∀ W, w1.grownBy W none → W.cell? ⟨w.heap.size, 0, none⟩ = some (.int .i64 k) ∧ W.cell? ⟨w.heap.size, 4, none⟩ = some (.int .u32 t)) := fun W gW => by obtain ⟨b0, b1, b2, b3, b4⟩ := bx5 (box_to HA0.out gW); exact ⟨b0, b4⟩
  refine wp_region_held_drew (S := (fun W => W.cell? ⟨w.heap.size, 0, none⟩ = some (.int .i64 k) ∧ W.cell? ⟨w.heap.size, 4, none⟩ = some (.int .u32 t))) (by kernel_rfl) ?_ (fun hHeld => ?_)
  · (exact HSo.out _ (grown_drew _ none))
  refine tkH (i := 0) (v := ?_) rfl ?_ ?_
  rotate_left
  · (intro w hSw; (try dsimp only at hSw); (go_simp <;> with_reducible rfl))
  try simp only [Act.put, List.setIfInBounds_toArray]
  refine tkH (i := 1) (v := ?_) rfl ?_ ?_
  rotate_left
  · (intro w hSw; (try dsimp only at hSw); (go_simp <;> with_reducible rfl))
  try simp only [Act.put]
  refine tkH (i := 4) (v := ?_) rfl ?_ ?_
  rotate_left
  · (intro w hSw; (try dsimp only at hSw); (go_simp <;> with_reducible rfl))
  try simp only [Act.put]
  refine tkH (i := 5) (v := ?_) rfl ?_ ?_
  rotate_left
  · (intro w hSw; (try dsimp only at hSw); (go_simp <;> with_reducible rfl))
  try simp only [Act.put]
  refine wpAnyH_ready (rs := [2, 7]) (by kernel_rfl) (by simp) ?_
  refine AllReadyH.cons rfl (fun K hK => ?_) ?_
  · skip
    go_simp
    refine (HP10.out _).mono ?_
    rintro e wx ⟨rfl, hwx⟩
    obtain rfl := hwx.symm
    go_wp2_with fail
    refine hK.out _ _ ?_ (fun hHeld => ?_)
    · ((try dsimp only); first | with_reducible assumption | exact HSo.out _ (gn_alloc (grown_drew _ none) _))
    clear hK K
    try simp only [Act.put, List.setIfInBounds_toArray, List.set_cons_zero, List.set_cons_succ]
    refine tkH (i := 3) (v := ?_) rfl ?_ ?_
    rotate_left
    · (intro w hSw; (try dsimp only at hSw); (go_simp <;> with_reducible rfl))
    try simp only [Act.put, List.setIfInBounds_toArray]
    refine tkH (i := 6) (v := ?_) rfl ?_ ?_
    rotate_left
    · (intro w hSw; (try dsimp only at hSw); (go_simp <;> with_reducible rfl))
    try simp only [Act.put]
    refine rdH (i := 7) rfl (fun K hK => ?_)
    go_simp
    refine hK.out _ _ ?_ (fun hHeld => ?_)
    · ((try dsimp only); first | with_reducible assumption | exact HSo.out _ (gn_alloc (grown_drew _ none) _))
    clear hK K
    try simp only [Act.put, List.setIfInBounds_toArray, List.set_cons_zero, List.set_cons_succ]
    refine rdH (i := 8) rfl (fun K hK => ?_)
    go_simp
    refine hK.out _ _ ?_ (fun hHeld => ?_)
    · ((try dsimp only); first | with_reducible assumption | exact HSo.out _ (gn_alloc (grown_drew _ none) _))
    clear hK K
    try simp only [Act.put, List.setIfInBounds_toArray, List.set_cons_zero, List.set_cons_succ]
    refine wpAnyH_done (by kernel_rfl) ?_ _
    have b0 := hide (drew_at (box_to HA0.out (grown_alloc w1 (.cells [Value.int .i64 kk, .int .u32 t, .int .u32 0, .int .i64 0, .int .i64 0].toArray 25))))
    have b1 := hide (drew_at (box_to HA1.out (grown_alloc w1 (.cells [Value.int .i64 kk, .int .u32 t, .int .u32 0, .int .i64 0, .int .i64 0].toArray 25))))
    have b2 := hide (drew_at (heap_alloc_new w1 (.cells [Value.int .i64 kk, .int .u32 t, .int .u32 0, .int .i64 0, .int .i64 0].toArray 25)))
    have HG := hide (grown_trans (gn_alloc HG0.out (.cells [Value.int .i64 kk, .int .u32 t, .int .u32 0, .int .i64 0, .int .i64 0].toArray 25)) (grown_drew _ none))
    have HSz := hide (row_lt HA1.out)
    clear HSo HA0 HA1 HG0 a0 a1 a2 a3 a4 hHeld
    generalize hX : w1.heap.size = X at *
    clear hX
    generalize World.drew (World.alloc w1 (.cells [Value.int .i64 kk, .int .u32 t, .int .u32 0, .int .i64 0, .int .i64 0].toArray 25)) = v0 at *
    obtain ⟨a0, a1, a2, a3, a4⟩ := bx5 b0.out
    obtain ⟨⟨y0, y1, y2, y3, y4⟩, y5⟩ := bxf5 b2.out
    go_wp2_with fail
    refine (HH.out _).mono ?_
    rintro e wx ⟨rfl, hwx⟩
    obtain rfl := hwx.symm
    clear hwx
    clear a0 a1 a2 a3 a4
    obtain ⟨⟨x0, x1, x2, x3, x4⟩, x5⟩ := bxf5 b1.out
    go_wp2
    obtain ⟨r1, r2⟩ := set5w v0 rfl b1.out (.int .i64 kk) (.int .u32 t) (.int .u32 0) (.int .i64 0) (.int .i64 0)
    exact bodyPost_ret (results_cell_row rfl _ _ (w.heap.size + 1) 25 _ (0, 0) _ rfl r1 Tryz.underlying25 rfl (by kernel_rfl)) rfl ⟨rfl, gn_own HG.out r2 (by omega)⟩
  refine AllReadyH.cons rfl (fun K hK => ?_) ?_
  · skip
    go_simp
    refine hK.out _ _ ?_ (fun hHeld => ?_)
    · ((try dsimp only); first | with_reducible assumption | exact HSo.out _ (gn_alloc (grown_drew _ none) _))
    clear hK K
    try simp only [Act.put, List.setIfInBounds_toArray, List.set_cons_zero, List.set_cons_succ]
    refine rdH (i := 2) rfl (fun K hK => ?_)
    go_simp
    refine (HP10.out _).mono ?_
    rintro e wx ⟨rfl, hwx⟩
    obtain rfl := hwx.symm
    go_wp2_with fail
    refine hK.out _ _ ?_ (fun hHeld => ?_)
    · ((try dsimp only); first | with_reducible assumption | exact HSo.out _ (gn_alloc (grown_drew _ none) _))
    clear hK K
    try simp only [Act.put, List.setIfInBounds_toArray, List.set_cons_zero, List.set_cons_succ]
    refine tkH (i := 3) (v := ?_) rfl ?_ ?_
    rotate_left
    · (intro w hSw; (try dsimp only at hSw); (go_simp <;> with_reducible rfl))
    try simp only [Act.put, List.setIfInBounds_toArray]
    refine tkH (i := 6) (v := ?_) rfl ?_ ?_
    rotate_left
    · (intro w hSw; (try dsimp only at hSw); (go_simp <;> with_reducible rfl))
    try simp only [Act.put]
    refine rdH (i := 8) rfl (fun K hK => ?_)
    go_simp
    refine hK.out _ _ ?_ (fun hHeld => ?_)
    · ((try dsimp only); first | with_reducible assumption | exact HSo.out _ (gn_alloc (grown_drew _ none) _))
    clear hK K
    try simp only [Act.put, List.setIfInBounds_toArray, List.set_cons_zero, List.set_cons_succ]
    refine wpAnyH_done (by kernel_rfl) ?_ _
    have b0 := hide (drew_at (box_to HA0.out (grown_alloc w1 (.cells [Value.int .i64 kk, .int .u32 t, .int .u32 0, .int .i64 0, .int .i64 0].toArray 25))))
    have b1 := hide (drew_at (box_to HA1.out (grown_alloc w1 (.cells [Value.int .i64 kk, .int .u32 t, .int .u32 0, .int .i64 0, .int .i64 0].toArray 25))))
    have b2 := hide (drew_at (heap_alloc_new w1 (.cells [Value.int .i64 kk, .int .u32 t, .int .u32 0, .int .i64 0, .int .i64 0].toArray 25)))
    have HG := hide (grown_trans (gn_alloc HG0.out (.cells [Value.int .i64 kk, .int .u32 t, .int .u32 0, .int .i64 0, .int .i64 0].toArray 25)) (grown_drew _ none))
    have HSz := hide (row_lt HA1.out)
    clear HSo HA0 HA1 HG0 a0 a1 a2 a3 a4 hHeld
    generalize hX : w1.heap.size = X at *
    clear hX
    generalize World.drew (World.alloc w1 (.cells [Value.int .i64 kk, .int .u32 t, .int .u32 0, .int .i64 0, .int .i64 0].toArray 25)) = v0 at *
    obtain ⟨a0, a1, a2, a3, a4⟩ := bx5 b0.out
    obtain ⟨⟨y0, y1, y2, y3, y4⟩, y5⟩ := bxf5 b2.out
    go_wp2_with fail
    refine (HH.out _).mono ?_
    rintro e wx ⟨rfl, hwx⟩
    obtain rfl := hwx.symm
    clear hwx
    clear a0 a1 a2 a3 a4
    obtain ⟨⟨x0, x1, x2, x3, x4⟩, x5⟩ := bxf5 b1.out
    go_wp2
    obtain ⟨r1, r2⟩ := set5w v0 rfl b1.out (.int .i64 kk) (.int .u32 t) (.int .u32 0) (.int .i64 0) (.int .i64 0)
    exact bodyPost_ret (results_cell_row rfl _ _ (w.heap.size + 1) 25 _ (0, 0) _ rfl r1 Tryz.underlying25 rfl (by kernel_rfl)) rfl ⟨rfl, gn_own HG.out r2 (by omega)⟩
  exact AllReadyH.nil
end Go.Proofs.YtjfhilignbeboaaGreatDoor
namespace Go.Proofs.YtjfhilignbeboaaGreatDoor
/- Requests out of plain numbers. -/
open Go.RowKit
theorem request_any (a : Ak) (w : World) : Calls Tryz.prog 18 #[akV a] w fun e w' => e = .returned (Rs.rqV (akQ a)) ∧ w.grownBy w' none := by
  obtain ⟨k, i, s, u, t⟩ := a
  obtain ⟨kk, hk⟩ : ∃ kk, 1 + k % 10 = kk := ⟨_, rfl⟩
  have e : Rs.rqV (akQ ⟨k, i, s, u, t⟩) = .agg #[.int .i64 kk, .int .u32 t, .int .u32 (if Rs.hI kk then i % 12 else 0), .int .i64 (if Rs.hS kk then s % 14 else 0), .int .i64 (if Rs.hL kk then u % 9 else 0)] := by unfold Rs.rqV akQ; simp only [hk]
  rw [e]
  have hc : (Rs.hI kk = false ∧ Rs.hS kk = true ∧ Rs.hL kk = true) ∨ (Rs.hI kk = true ∧ Rs.hS kk = false ∧ Rs.hL kk = false) ∨ (Rs.hI kk = true ∧ Rs.hS kk = true ∧ Rs.hL kk = false) ∨ (Rs.hI kk = false ∧ Rs.hS kk = true ∧ Rs.hL kk = false) ∨ (Rs.hI kk = false ∧ Rs.hS kk = false ∧ Rs.hL kk = true) ∨ (Rs.hI kk = false ∧ Rs.hS kk = false ∧ Rs.hL kk = false) := by
    unfold Rs.hI Rs.hS Rs.hL
    simp only [decide_eq_true_eq, decide_eq_false_iff_not]
    omega
  rcases hc with ⟨h1, h2, h3⟩ | ⟨h1, h2, h3⟩ | ⟨h1, h2, h3⟩ | ⟨h1, h2, h3⟩ | ⟨h1, h2, h3⟩ | ⟨h1, h2, h3⟩
  all_goals simp only [h1, h2, h3, if_true, Bool.false_eq_true, if_false]
  · exact request_011 k i s u t kk hk h1 h2 h3 w
  · exact request_100 k i s u t kk hk h1 h2 h3 w
  · exact request_110 k i s u t kk hk h1 h2 h3 w
  · exact request_010 k i s u t kk hk h1 h2 h3 w
  · exact request_001 k i s u t kk hk h1 h2 h3 w
  · exact request_000 k i s u t kk hk h1 h2 h3 w
end Go.Proofs.YtjfhilignbeboaaGreatDoor
namespace Go.Proofs.YtjfhilignbeboaaGreatDoor
/- Arguments that are an ask, a flight. -/
open Go.ChangeShapes Go.WideShapes Go.ChangeAt Go.RowKit Go.Deep
section
variable {H : Type} {enc : TypeId × Value → H}
theorem cellsOf65 : Tryz.prog.cellsOf 65 = 5 := by kernel_rfl
theorem cellsOf55 : Tryz.prog.cellsOf 55 = 4 := by kernel_rfl
theorem cellsOf53 : Tryz.prog.cellsOf 53 = 1 := by kernel_rfl
set_option maxRecDepth 20000 in
theorem open_askArg {w : World} {base : Nat} {spare : Nat → Bool} {held : Bool} {r : Reach} {b0 : Nat} {v : Value} {d : DataW H} {ps : List MemPlace} (hval : Value.okWide Tryz.prog w r b0 65 v) (hd : DataW.Trod enc Tryz.prog w base spare held 65 v d ps) :
    ∃ a : Ak, v = akV a ∧ 0 ≤ a.t ∧ a.t < 4294967296 := by
  obtain ⟨cs, rfl, _⟩ := okWide_struct Tryz.underlying65 hval
  obtain ⟨fuel, h⟩ := hd
  have h : DataW.trod enc Tryz.prog w base spare held fuel 65 cs.toList = some (d, ps) := h
  obtain ⟨xs, n, _, hx, hl, hsz, hf⟩ := DataW.trod_struct Tryz.underlying65 h
  rw [cellsOf65] at hl
  obtain ⟨v0, v1, v2, v3, v4, hc⟩ := listOf5 hl
  obtain ⟨y0, y1, y2, y3, y4, rfl⟩ := listOf5 (show xs.length = 5 from hsz)
  rw [hc] at hf
  have f0 : DataW.trod enc Tryz.prog w base spare held n 3 [v0] = some y0 := by simpa [cellsOf3] using hf 0 _ rfl
  have f1 : DataW.trod enc Tryz.prog w base spare held n 3 [v1] = some y1 := by simpa [cellsOf3] using hf 1 _ rfl
  have f2 : DataW.trod enc Tryz.prog w base spare held n 3 [v2] = some y2 := by simpa [cellsOf3] using hf 2 _ rfl
  have f3 : DataW.trod enc Tryz.prog w base spare held n 3 [v3] = some y3 := by simpa [cellsOf3] using hf 3 _ rfl
  have f4 : DataW.trod enc Tryz.prog w base spare held n 23 [v4] = some y4 := by simpa [cellsOf24] using hf 4 _ rfl
  obtain ⟨a, e0, rfl, _⟩ := DataW.trod_int Tryz.underlying3 f0
  obtain ⟨b, e1, rfl, _⟩ := DataW.trod_int Tryz.underlying3 f1
  obtain ⟨c, e2, rfl, _⟩ := DataW.trod_int Tryz.underlying3 f2
  obtain ⟨e, e3, rfl, _⟩ := DataW.trod_int Tryz.underlying3 f3
  obtain ⟨f, e4, rfl, wf⟩ := DataW.trod_int Tryz.underlying23 f4
  simp only [List.cons.injEq, and_true] at e0 e1 e2 e3 e4
  have bf := bounds_u32 wf
  refine ⟨⟨a, b, c, e, f⟩, ?_, by simp only; omega, by simp only; omega⟩
  rw [e0, e1, e2, e3, e4] at hc
  unfold akV
  congr 1
  cases cs
  simpa using hc
set_option maxRecDepth 20000 in
theorem open_flightArg {w : World} {r : Reach} {b0 : Nat} {v : Value} {d : DataW H} {ps : List MemPlace} (hval : Value.okWide Tryz.prog w r b0 55 v) (hd : DataW.Trod enc Tryz.prog w 0 (fun _ => true) true 55 v d ps) :
    ∃ (x : Int) (ao : Option Addr) (cap : Nat) (l : List Cg) (nx ck : Int), v = .agg #[.int .i64 x, .slice ao l.length cap, .int .u32 nx, .int .i64 ck] ∧ CgsAt w ao l ∧ l.length ≤ cap ∧ (-9223372036854775808 ≤ x ∧ x ≤ 9223372036854775807) ∧ (0 ≤ nx ∧ nx < 4294967296) ∧ (-9223372036854775808 ≤ ck ∧ ck ≤ 9223372036854775807) := by
  obtain ⟨cs, rfl, _⟩ := okWide_struct Tryz.underlying55 hval
  obtain ⟨fuel, h⟩ := hd
  have h : DataW.trod enc Tryz.prog w 0 (fun _ => true) true fuel 55 cs.toList = some (d, ps) := h
  obtain ⟨xs, n, _, hx, hl, hsz, hf⟩ := DataW.trod_struct Tryz.underlying55 h
  rw [cellsOf55] at hl
  obtain ⟨v0, v1, v2, v3, hc⟩ := listOf4 hl
  obtain ⟨y0, y1, y2, y3, rfl⟩ := listOf4 (show xs.length = 4 from hsz)
  rw [hc] at hf
  have f0 : DataW.trod enc Tryz.prog w 0 (fun _ => true) true n 3 [v0] = some y0 := by simpa [cellsOf3] using hf 0 _ rfl
  have f1 : DataW.trod enc Tryz.prog w 0 (fun _ => true) true n 53 [v1] = some y1 := by simpa [cellsOf53] using hf 1 _ rfl
  have f2 : DataW.trod enc Tryz.prog w 0 (fun _ => true) true n 23 [v2] = some y2 := by simpa [cellsOf24] using hf 2 _ rfl
  have f3 : DataW.trod enc Tryz.prog w 0 (fun _ => true) true n 2 [v3] = some y3 := by simpa [cellsOf2] using hf 3 _ rfl
  obtain ⟨a, e0, rfl, wa⟩ := DataW.trod_int Tryz.underlying3 f0
  obtain ⟨b, e2, rfl, wb⟩ := DataW.trod_int Tryz.underlying23 f2
  obtain ⟨c, e3, rfl, wc⟩ := DataW.trod_int Tryz.underlying2 f3
  simp only [List.cons.injEq, and_true] at e0 e2 e3
  have ba := bounds_i64 wa
  have bb := bounds_u32 wb
  have bc := bounds_i64 wc
  have key : ∃ (ao : Option Addr) (cap : Nat) (l : List Cg), v1 = .slice ao l.length cap ∧ CgsAt w ao l ∧ l.length ≤ cap := by
    rcases open_slice Tryz.underlying53 f1 with ⟨hcs, _⟩ | ⟨a', len, cap, m, n', D, Pl, hcs, _, hl', hm, hmm, hx', hel⟩
    · simp only [List.cons.injEq, and_true] at hcs
      exact ⟨none, 0, [], hcs, (fun j o h => by simp at h), Nat.le_refl _⟩
    · simp only [List.cons.injEq, and_true] at hcs
      have hlm : len ≤ m := by rw [hmm]; split <;> omega
      rw [cellsOf73] at hel
      obtain ⟨os, h1, h2⟩ := open_cgsB (len := len) (fun i hi => hel i (by omega))
      exact ⟨_, cap, os, by rw [h1]; exact hcs, h2, by rw [h1]; exact hl'⟩
  obtain ⟨ao, cap, l, e1, hC, hle⟩ := key
  refine ⟨a, ao, cap, l, b, c, ?_, hC, hle, by omega, by omega, by omega⟩
  rw [e0, e1, e2, e3] at hc
  congr 1
  cases cs
  simpa using hc
end
end Go.Proofs.YtjfhilignbeboaaGreatDoor
