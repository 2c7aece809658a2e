/- Texts joined: Ra1, Ra2. -/
import Derived.Test.YtjfhilignbeboaaGreatDoorJqAr
namespace Go.Proofs.YtjfhilignbeboaaGreatDoor
/- Requests out of plain numbers, part by part. -/
open Go.RowKit
attribute [local go_sem ↓] Go.wp_at_zero Go.wp_at_succ
attribute [local go_sem] Oper.semAt_some
set_option maxHeartbeats 8000000 in
theorem request_011 (k i s u t kk : Int) (hk : 1 + k % 10 = kk) (h1 : Rs.hI kk = false) (h2 : Rs.hS kk = true) (h3 : Rs.hL kk = true) (w : World) : Calls Tryz.prog 18 #[akV ⟨k, i, s, u, t⟩] w fun e w' => e = .returned (.agg #[.int .i64 kk, .int .u32 t, .int .u32 (0), .int .i64 (s % 14), .int .i64 (u % 9)]) ∧ w.grownBy w' none := by
  have HP : Hid (∀ x (n : Nat) W, 1 ≤ n → n ≤ 4294967296 → Calls Tryz.prog 57 #[.int .i64 x, .int .i64 (n : Int)] W fun e w' => e = .returned (.int .i64 (x % (n : Int))) ∧ w' = W) := fun x n W h1 h2 => pick_any x n W h1 h2
  have HP10 : Hid (∀ W, Calls Tryz.prog 57 #[.int .i64 k, .int .i64 10] W fun e w' => e = .returned (.int .i64 (k % 10)) ∧ w' = W) := fun W => HP.out k 10 W (by decide) (by decide)
  have hkk : IntKind.i64.wrap (1 + k % 10) = kk := by rw [← hk, IntKind.wrap_i64]; omega
  have HP14 : Hid (∀ W, Calls Tryz.prog 57 #[.int .i64 s, .int .i64 14] W fun e w' => e = .returned (.int .i64 (s % 14)) ∧ w' = W) := fun W => HP.out s 14 W (by decide) (by decide)
  have HP9 : Hid (∀ W, Calls Tryz.prog 57 #[.int .i64 u, .int .i64 9] W fun e w' => e = .returned (.int .i64 (u % 9)) ∧ w' = W) := fun W => HP.out u 9 W (by decide) (by decide)
  have HH : Hid (∀ W, Calls Tryz.prog 58 #[.int .i64 kk] W fun e w' => e = .returned (.tuple #[.bool false, .bool true, .bool true]) ∧ w' = W) := fun W => by have := Rs.rhas_any kk W; rw [h1, h2, h3] at this; exact this
  have HA0 := hide (new2a w (.cells [Value.int .i64 k, .int .i64 i, .int .i64 s, .int .i64 u, .int .u32 t].toArray 65) (.cells [Value.int .i64 0, .int .u32 0, .int .u32 0, .int .i64 0, .int .i64 0].toArray 25))
  have HA1 := hide (new2 w (.cells [Value.int .i64 k, .int .i64 i, .int .i64 s, .int .i64 u, .int .u32 t].toArray 65) (.cells [Value.int .i64 0, .int .u32 0, .int .u32 0, .int .i64 0, .int .i64 0].toArray 25))
  have HG0 := hide (grown_alloc2 w (.cells [Value.int .i64 k, .int .i64 i, .int .i64 s, .int .i64 u, .int .u32 t].toArray 65) (.cells [Value.int .i64 0, .int .u32 0, .int .u32 0, .int .i64 0, .int .i64 0].toArray 25))
  obtain ⟨a0, a1, a2, a3, a4⟩ := bx5 HA0.out
  clear hk h1 h2 h3 HP
  unfold akV
  simp only
  generalize s % 14 = ms at *
  generalize u % 9 = mu at *
  generalize k % 10 = k1 at *
  go_enter Tryz.func18, Tryz.ntmps18
  go_wp2
  generalize World.alloc (World.alloc w _) _ = w1 at *
  have HSo : Hid (∀ W, w1.grownBy W none → W.cell? ⟨w.heap.size, 0, none⟩ = some (.int .i64 k) ∧ W.cell? ⟨w.heap.size, 4, none⟩ = some (.int .u32 t)) := fun W gW => by obtain ⟨b0, b1, b2, b3, b4⟩ := bx5 (box_to HA0.out gW); exact ⟨b0, b4⟩
  refine wp_region_held_drew (S := (fun W => W.cell? ⟨w.heap.size, 0, none⟩ = some (.int .i64 k) ∧ W.cell? ⟨w.heap.size, 4, none⟩ = some (.int .u32 t))) (by kernel_rfl) ?_ (fun hHeld => ?_)
  · (exact HSo.out _ (grown_drew _ none))
  refine tkH (i := 0) (v := ?_) rfl ?_ ?_
  rotate_left
  · (intro w hSw; (try dsimp only at hSw); (go_simp <;> with_reducible rfl))
  try simp only [Act.put, List.setIfInBounds_toArray]
  refine tkH (i := 1) (v := ?_) rfl ?_ ?_
  rotate_left
  · (intro w hSw; (try dsimp only at hSw); (go_simp <;> with_reducible rfl))
  try simp only [Act.put]
  refine tkH (i := 4) (v := ?_) rfl ?_ ?_
  rotate_left
  · (intro w hSw; (try dsimp only at hSw); (go_simp <;> with_reducible rfl))
  try simp only [Act.put]
  refine tkH (i := 5) (v := ?_) rfl ?_ ?_
  rotate_left
  · (intro w hSw; (try dsimp only at hSw); (go_simp <;> with_reducible rfl))
  try simp only [Act.put]
  refine wpAnyH_ready (rs := [2, 7]) (by kernel_rfl) (by simp) ?_
  refine AllReadyH.cons rfl (fun K hK => ?_) ?_
  · skip
    go_simp
    refine (HP10.out _).mono ?_
    rintro e wx ⟨rfl, hwx⟩
    obtain rfl := hwx.symm
    go_wp2_with fail
    refine hK.out _ _ ?_ (fun hHeld => ?_)
    · ((try dsimp only); first | with_reducible assumption | exact HSo.out _ (gn_alloc (grown_drew _ none) _))
    clear hK K
    try simp only [Act.put, List.setIfInBounds_toArray, List.set_cons_zero, List.set_cons_succ]
    refine tkH (i := 3) (v := ?_) rfl ?_ ?_
    rotate_left
    · (intro w hSw; (try dsimp only at hSw); (go_simp <;> with_reducible rfl))
    try simp only [Act.put, List.setIfInBounds_toArray]
    refine tkH (i := 6) (v := ?_) rfl ?_ ?_
    rotate_left
    · (intro w hSw; (try dsimp only at hSw); (go_simp <;> with_reducible rfl))
    try simp only [Act.put]
    refine rdH (i := 7) rfl (fun K hK => ?_)
    go_simp
    refine hK.out _ _ ?_ (fun hHeld => ?_)
    · ((try dsimp only); first | with_reducible assumption | exact HSo.out _ (gn_alloc (grown_drew _ none) _))
    clear hK K
    try simp only [Act.put, List.setIfInBounds_toArray, List.set_cons_zero, List.set_cons_succ]
    refine rdH (i := 8) rfl (fun K hK => ?_)
    go_simp
    refine hK.out _ _ ?_ (fun hHeld => ?_)
    · ((try dsimp only); first | with_reducible assumption | exact HSo.out _ (gn_alloc (grown_drew _ none) _))
    clear hK K
    try simp only [Act.put, List.setIfInBounds_toArray, List.set_cons_zero, List.set_cons_succ]
    refine wpAnyH_done (by kernel_rfl) ?_ _
    have b0 := hide (drew_at (box_to HA0.out (grown_alloc w1 (.cells [Value.int .i64 kk, .int .u32 t, .int .u32 0, .int .i64 0, .int .i64 0].toArray 25))))
    have b1 := hide (drew_at (box_to HA1.out (grown_alloc w1 (.cells [Value.int .i64 kk, .int .u32 t, .int .u32 0, .int .i64 0, .int .i64 0].toArray 25))))
    have b2 := hide (drew_at (heap_alloc_new w1 (.cells [Value.int .i64 kk, .int .u32 t, .int .u32 0, .int .i64 0, .int .i64 0].toArray 25)))
    have HG := hide (grown_trans (gn_alloc HG0.out (.cells [Value.int .i64 kk, .int .u32 t, .int .u32 0, .int .i64 0, .int .i64 0].toArray 25)) (grown_drew _ none))
    have HSz := hide (row_lt HA1.out)
    clear HSo HA0 HA1 HG0 a0 a1 a2 a3 a4 hHeld
    generalize hX : w1.heap.size = X at *
    clear hX
    generalize World.drew (World.alloc w1 (.cells [Value.int .i64 kk, .int .u32 t, .int .u32 0, .int .i64 0, .int .i64 0].toArray 25)) = v0 at *
    obtain ⟨a0, a1, a2, a3, a4⟩ := bx5 b0.out
    obtain ⟨⟨y0, y1, y2, y3, y4⟩, y5⟩ := bxf5 b2.out
    go_wp2_with fail
    refine (HH.out _).mono ?_
    rintro e wx ⟨rfl, hwx⟩
    obtain rfl := hwx.symm
    clear hwx
    go_wp2_with fail
    refine (HP14.out _).mono ?_
    rintro e wx ⟨rfl, hwx⟩
    obtain rfl := hwx.symm
    clear hwx
    have n0 := hide (((grown_setCell v0 X 3 (.int .i64 ms)).block _ (row_lt b0.out) (fun e => by have h1 := Option.some.inj e; have h2 := HSz.out; omega)).trans b0.out)
    have n1 := hide (((grown_setCell v0 X 3 (.int .i64 ms)).block _ (row_lt b1.out) (fun e => by have h1 := Option.some.inj e; have h2 := HSz.out; omega)).trans b1.out)
    have n2 := hide (row_setCell b2.out 3 (.int .i64 ms))
    have nG := hide (gn_own HG.out (grown_setCell v0 X 3 (.int .i64 ms)) (by have h2 := HSz.out; omega))
    go_upto_region 7 with fail
    generalize World.setCell _ _ _ = v1 at *
    clear b0 b1 b2 HG a0 a1 a2 a3 a4 y0 y1 y2 y3 y4 y5
    have b0 := n0
    have b1 := n1
    have b2 := n2
    have HG := nG
    clear n0 n1 n2 nG
    obtain ⟨a0, a1, a2, a3, a4⟩ := bx5 b0.out
    obtain ⟨⟨y0, y1, y2, y3, y4⟩, y5⟩ := bxf5 b2.out
    go_wp2_with fail
    refine (HP9.out _).mono ?_
    rintro e wx ⟨rfl, hwx⟩
    obtain rfl := hwx.symm
    clear hwx
    have n0 := hide (((grown_setCell v1 X 4 (.int .i64 mu)).block _ (row_lt b0.out) (fun e => by have h1 := Option.some.inj e; have h2 := HSz.out; omega)).trans b0.out)
    have n1 := hide (((grown_setCell v1 X 4 (.int .i64 mu)).block _ (row_lt b1.out) (fun e => by have h1 := Option.some.inj e; have h2 := HSz.out; omega)).trans b1.out)
    have n2 := hide (row_setCell b2.out 4 (.int .i64 mu))
    have nG := hide (gn_own HG.out (grown_setCell v1 X 4 (.int .i64 mu)) (by have h2 := HSz.out; omega))
    go_upto_region 9 with fail
    generalize World.setCell _ _ _ = v2 at *
    clear b0 b1 b2 HG a0 a1 a2 a3 a4 y0 y1 y2 y3 y4 y5
    have b0 := n0
    have b1 := n1
    have b2 := n2
    have HG := nG
    clear n0 n1 n2 nG
    obtain ⟨a0, a1, a2, a3, a4⟩ := bx5 b0.out
    obtain ⟨⟨y0, y1, y2, y3, y4⟩, y5⟩ := bxf5 b2.out
    clear a0 a1 a2 a3 a4
    obtain ⟨⟨x0, x1, x2, x3, x4⟩, x5⟩ := bxf5 b1.out
    go_wp2
    obtain ⟨r1, r2⟩ := set5w v2 rfl b1.out (.int .i64 kk) (.int .u32 t) (.int .u32 0) (.int .i64 ms) (.int .i64 mu)
    exact bodyPost_ret (results_cell_row rfl _ _ (w.heap.size + 1) 25 _ (0, 0) _ rfl r1 Tryz.underlying25 rfl (by kernel_rfl)) rfl ⟨rfl, gn_own HG.out r2 (by omega)⟩
  refine AllReadyH.cons rfl (fun K hK => ?_) ?_
  · skip
    go_simp
    refine hK.out _ _ ?_ (fun hHeld => ?_)
    · ((try dsimp only); first | with_reducible assumption | exact HSo.out _ (gn_alloc (grown_drew _ none) _))
    clear hK K
    try simp only [Act.put, List.setIfInBounds_toArray, List.set_cons_zero, List.set_cons_succ]
    refine rdH (i := 2) rfl (fun K hK => ?_)
    go_simp
    refine (HP10.out _).mono ?_
    rintro e wx ⟨rfl, hwx⟩
    obtain rfl := hwx.symm
    go_wp2_with fail
    refine hK.out _ _ ?_ (fun hHeld => ?_)
    · ((try dsimp only); first | with_reducible assumption | exact HSo.out _ (gn_alloc (grown_drew _ none) _))
    clear hK K
    try simp only [Act.put, List.setIfInBounds_toArray, List.set_cons_zero, List.set_cons_succ]
    refine tkH (i := 3) (v := ?_) rfl ?_ ?_
    rotate_left
    · (intro w hSw; (try dsimp only at hSw); (go_simp <;> with_reducible rfl))
    try simp only [Act.put, List.setIfInBounds_toArray]
    refine tkH (i := 6) (v := ?_) rfl ?_ ?_
    rotate_left
    · (intro w hSw; (try dsimp only at hSw); (go_simp <;> with_reducible rfl))
    try simp only [Act.put]
    refine rdH (i := 8) rfl (fun K hK => ?_)
    go_simp
    refine hK.out _ _ ?_ (fun hHeld => ?_)
    · ((try dsimp only); first | with_reducible assumption | exact HSo.out _ (gn_alloc (grown_drew _ none) _))
    clear hK K
    try simp only [Act.put, List.setIfInBounds_toArray, List.set_cons_zero, List.set_cons_succ]
    refine wpAnyH_done (by kernel_rfl) ?_ _
    have b0 := hide (drew_at (box_to HA0.out (grown_alloc w1 (.cells [Value.int .i64 kk, .int .u32 t, .int .u32 0, .int .i64 0, .int .i64 0].toArray 25))))
    have b1 := hide (drew_at (box_to HA1.out (grown_alloc w1 (.cells [Value.int .i64 kk, .int .u32 t, .int .u32 0, .int .i64 0, .int .i64 0].toArray 25))))
    have b2 := hide (drew_at (heap_alloc_new w1 (.cells [Value.int .i64 kk, .int .u32 t, .int .u32 0, .int .i64 0, .int .i64 0].toArray 25)))
    have HG := hide (grown_trans (gn_alloc HG0.out (.cells [Value.int .i64 kk, .int .u32 t, .int .u32 0, .int .i64 0, .int .i64 0].toArray 25)) (grown_drew _ none))
    have HSz := hide (row_lt HA1.out)
    clear HSo HA0 HA1 HG0 a0 a1 a2 a3 a4 hHeld
    generalize hX : w1.heap.size = X at *
    clear hX
    generalize World.drew (World.alloc w1 (.cells [Value.int .i64 kk, .int .u32 t, .int .u32 0, .int .i64 0, .int .i64 0].toArray 25)) = v0 at *
    obtain ⟨a0, a1, a2, a3, a4⟩ := bx5 b0.out
    obtain ⟨⟨y0, y1, y2, y3, y4⟩, y5⟩ := bxf5 b2.out
    go_wp2_with fail
    refine (HH.out _).mono ?_
    rintro e wx ⟨rfl, hwx⟩
    obtain rfl := hwx.symm
    clear hwx
    go_wp2_with fail
    refine (HP14.out _).mono ?_
    rintro e wx ⟨rfl, hwx⟩
    obtain rfl := hwx.symm
    clear hwx
    have n0 := hide (((grown_setCell v0 X 3 (.int .i64 ms)).block _ (row_lt b0.out) (fun e => by have h1 := Option.some.inj e; have h2 := HSz.out; omega)).trans b0.out)
    have n1 := hide (((grown_setCell v0 X 3 (.int .i64 ms)).block _ (row_lt b1.out) (fun e => by have h1 := Option.some.inj e; have h2 := HSz.out; omega)).trans b1.out)
    have n2 := hide (row_setCell b2.out 3 (.int .i64 ms))
    have nG := hide (gn_own HG.out (grown_setCell v0 X 3 (.int .i64 ms)) (by have h2 := HSz.out; omega))
    go_upto_region 7 with fail
    generalize World.setCell _ _ _ = v1 at *
    clear b0 b1 b2 HG a0 a1 a2 a3 a4 y0 y1 y2 y3 y4 y5
    have b0 := n0
    have b1 := n1
    have b2 := n2
    have HG := nG
    clear n0 n1 n2 nG
    obtain ⟨a0, a1, a2, a3, a4⟩ := bx5 b0.out
    obtain ⟨⟨y0, y1, y2, y3, y4⟩, y5⟩ := bxf5 b2.out
    go_wp2_with fail
    refine (HP9.out _).mono ?_
    rintro e wx ⟨rfl, hwx⟩
    obtain rfl := hwx.symm
    clear hwx
    have n0 := hide (((grown_setCell v1 X 4 (.int .i64 mu)).block _ (row_lt b0.out) (fun e => by have h1 := Option.some.inj e; have h2 := HSz.out; omega)).trans b0.out)
    have n1 := hide (((grown_setCell v1 X 4 (.int .i64 mu)).block _ (row_lt b1.out) (fun e => by have h1 := Option.some.inj e; have h2 := HSz.out; omega)).trans b1.out)
    have n2 := hide (row_setCell b2.out 4 (.int .i64 mu))
    have nG := hide (gn_own HG.out (grown_setCell v1 X 4 (.int .i64 mu)) (by have h2 := HSz.out; omega))
    go_upto_region 9 with fail
    generalize World.setCell _ _ _ = v2 at *
    clear b0 b1 b2 HG a0 a1 a2 a3 a4 y0 y1 y2 y3 y4 y5
    have b0 := n0
    have b1 := n1
    have b2 := n2
    have HG := nG
    clear n0 n1 n2 nG
    obtain ⟨a0, a1, a2, a3, a4⟩ := bx5 b0.out
    obtain ⟨⟨y0, y1, y2, y3, y4⟩, y5⟩ := bxf5 b2.out
    clear a0 a1 a2 a3 a4
    obtain ⟨⟨x0, x1, x2, x3, x4⟩, x5⟩ := bxf5 b1.out
    go_wp2
    obtain ⟨r1, r2⟩ := set5w v2 rfl b1.out (.int .i64 kk) (.int .u32 t) (.int .u32 0) (.int .i64 ms) (.int .i64 mu)
    exact bodyPost_ret (results_cell_row rfl _ _ (w.heap.size + 1) 25 _ (0, 0) _ rfl r1 Tryz.underlying25 rfl (by kernel_rfl)) rfl ⟨rfl, gn_own HG.out r2 (by omega)⟩
  exact AllReadyH.nil
set_option maxHeartbeats 8000000 in
theorem request_100 (k i s u t kk : Int) (hk : 1 + k % 10 = kk) (h1 : Rs.hI kk = true) (h2 : Rs.hS kk = false) (h3 : Rs.hL kk = false) (w : World) : Calls Tryz.prog 18 #[akV ⟨k, i, s, u, t⟩] w fun e w' => e = .returned (.agg #[.int .i64 kk, .int .u32 t, .int .u32 (i % 12), .int .i64 (0), .int .i64 (0)]) ∧ w.grownBy w' none := by
  have HP : Hid (∀ x (n : Nat) W, 1 ≤ n → n ≤ 4294967296 → Calls Tryz.prog 57 #[.int .i64 x, .int .i64 (n : Int)] W fun e w' => e = .returned (.int .i64 (x % (n : Int))) ∧ w' = W) := fun x n W h1 h2 => pick_any x n W h1 h2
  have HP10 : Hid (∀ W, Calls Tryz.prog 57 #[.int .i64 k, .int .i64 10] W fun e w' => e = .returned (.int .i64 (k % 10)) ∧ w' = W) := fun W => HP.out k 10 W (by decide) (by decide)
  have hkk : IntKind.i64.wrap (1 + k % 10) = kk := by rw [← hk, IntKind.wrap_i64]; omega
  have HP12 : Hid (∀ W, Calls Tryz.prog 57 #[.int .i64 i, .int .i64 12] W fun e w' => e = .returned (.int .i64 (i % 12)) ∧ w' = W) := fun W => HP.out i 12 W (by decide) (by decide)
  have hI1 : IntKind.u32.wrap (i % 12) = i % 12 := by rw [IntKind.wrap_u32]; omega
  have HH : Hid (∀ W, Calls Tryz.prog 58 #[.int .i64 kk] W fun e w' => e = .returned (.tuple #[.bool true, .bool false, .bool false]) ∧ w' = W) := fun W => by have := Rs.rhas_any kk W; rw [h1, h2, h3] at this; exact this
  have HA0 := hide (new2a w (.cells [Value.int .i64 k, .int .i64 i, .int .i64 s, .int .i64 u, .int .u32 t].toArray 65) (.cells [Value.int .i64 0, .int .u32 0, .int .u32 0, .int .i64 0, .int .i64 0].toArray 25))
  have HA1 := hide (new2 w (.cells [Value.int .i64 k, .int .i64 i, .int .i64 s, .int .i64 u, .int .u32 t].toArray 65) (.cells [Value.int .i64 0, .int .u32 0, .int .u32 0, .int .i64 0, .int .i64 0].toArray 25))
  have HG0 := hide (grown_alloc2 w (.cells [Value.int .i64 k, .int .i64 i, .int .i64 s, .int .i64 u, .int .u32 t].toArray 65) (.cells [Value.int .i64 0, .int .u32 0, .int .u32 0, .int .i64 0, .int .i64 0].toArray 25))
  obtain ⟨a0, a1, a2, a3, a4⟩ := bx5 HA0.out
  clear hk h1 h2 h3 HP
  unfold akV
  simp only
  generalize i % 12 = mi at *
  generalize k % 10 = k1 at *
  go_enter Tryz.func18, Tryz.ntmps18
  go_wp2
  generalize World.alloc (World.alloc w _) _ = w1 at *
  have HSo : Hid (∀ W, w1.grownBy W none → W.cell? ⟨w.heap.size, 0, none⟩ = some (.int .i64 k) ∧ W.cell? ⟨w.heap.size, 4, none⟩ = some (.int .u32 t)) := fun W gW => by obtain ⟨b0, b1, b2, b3, b4⟩ := bx5 (box_to HA0.out gW); exact ⟨b0, b4⟩
  refine wp_region_held_drew (S := (fun W => W.cell? ⟨w.heap.size, 0, none⟩ = some (.int .i64 k) ∧ W.cell? ⟨w.heap.size, 4, none⟩ = some (.int .u32 t))) (by kernel_rfl) ?_ (fun hHeld => ?_)
  · (exact HSo.out _ (grown_drew _ none))
  refine tkH (i := 0) (v := ?_) rfl ?_ ?_
  rotate_left
  · (intro w hSw; (try dsimp only at hSw); (go_simp <;> with_reducible rfl))
  try simp only [Act.put, List.setIfInBounds_toArray]
  refine tkH (i := 1) (v := ?_) rfl ?_ ?_
  rotate_left
  · (intro w hSw; (try dsimp only at hSw); (go_simp <;> with_reducible rfl))
  try simp only [Act.put]
  refine tkH (i := 4) (v := ?_) rfl ?_ ?_
  rotate_left
  · (intro w hSw; (try dsimp only at hSw); (go_simp <;> with_reducible rfl))
  try simp only [Act.put]
  refine tkH (i := 5) (v := ?_) rfl ?_ ?_
  rotate_left
  · (intro w hSw; (try dsimp only at hSw); (go_simp <;> with_reducible rfl))
  try simp only [Act.put]
  refine wpAnyH_ready (rs := [2, 7]) (by kernel_rfl) (by simp) ?_
  refine AllReadyH.cons rfl (fun K hK => ?_) ?_
  · skip
    go_simp
    refine (HP10.out _).mono ?_
    rintro e wx ⟨rfl, hwx⟩
    obtain rfl := hwx.symm
    go_wp2_with fail
    refine hK.out _ _ ?_ (fun hHeld => ?_)
    · ((try dsimp only); first | with_reducible assumption | exact HSo.out _ (gn_alloc (grown_drew _ none) _))
    clear hK K
    try simp only [Act.put, List.setIfInBounds_toArray, List.set_cons_zero, List.set_cons_succ]
    refine tkH (i := 3) (v := ?_) rfl ?_ ?_
    rotate_left
    · (intro w hSw; (try dsimp only at hSw); (go_simp <;> with_reducible rfl))
    try simp only [Act.put, List.setIfInBounds_toArray]
    refine tkH (i := 6) (v := ?_) rfl ?_ ?_
    rotate_left
    · (intro w hSw; (try dsimp only at hSw); (go_simp <;> with_reducible rfl))
    try simp only [Act.put]
    refine rdH (i := 7) rfl (fun K hK => ?_)
    go_simp
    refine hK.out _ _ ?_ (fun hHeld => ?_)
    · ((try dsimp only); first | with_reducible assumption | exact HSo.out _ (gn_alloc (grown_drew _ none) _))
    clear hK K
    try simp only [Act.put, List.setIfInBounds_toArray, List.set_cons_zero, List.set_cons_succ]
    refine rdH (i := 8) rfl (fun K hK => ?_)
    go_simp
    refine hK.out _ _ ?_ (fun hHeld => ?_)
    · ((try dsimp only); first | with_reducible assumption | exact HSo.out _ (gn_alloc (grown_drew _ none) _))
    clear hK K
    try simp only [Act.put, List.setIfInBounds_toArray, List.set_cons_zero, List.set_cons_succ]
    refine wpAnyH_done (by kernel_rfl) ?_ _
    have b0 := hide (drew_at (box_to HA0.out (grown_alloc w1 (.cells [Value.int .i64 kk, .int .u32 t, .int .u32 0, .int .i64 0, .int .i64 0].toArray 25))))
    have b1 := hide (drew_at (box_to HA1.out (grown_alloc w1 (.cells [Value.int .i64 kk, .int .u32 t, .int .u32 0, .int .i64 0, .int .i64 0].toArray 25))))
    have b2 := hide (drew_at (heap_alloc_new w1 (.cells [Value.int .i64 kk, .int .u32 t, .int .u32 0, .int .i64 0, .int .i64 0].toArray 25)))
    have HG := hide (grown_trans (gn_alloc HG0.out (.cells [Value.int .i64 kk, .int .u32 t, .int .u32 0, .int .i64 0, .int .i64 0].toArray 25)) (grown_drew _ none))
    have HSz := hide (row_lt HA1.out)
    clear HSo HA0 HA1 HG0 a0 a1 a2 a3 a4 hHeld
    generalize hX : w1.heap.size = X at *
    clear hX
    generalize World.drew (World.alloc w1 (.cells [Value.int .i64 kk, .int .u32 t, .int .u32 0, .int .i64 0, .int .i64 0].toArray 25)) = v0 at *
    obtain ⟨a0, a1, a2, a3, a4⟩ := bx5 b0.out
    obtain ⟨⟨y0, y1, y2, y3, y4⟩, y5⟩ := bxf5 b2.out
    go_wp2_with fail
    refine (HH.out _).mono ?_
    rintro e wx ⟨rfl, hwx⟩
    obtain rfl := hwx.symm
    clear hwx
    go_wp2_with fail
    refine (HP12.out _).mono ?_
    rintro e wx ⟨rfl, hwx⟩
    obtain rfl := hwx.symm
    clear hwx
    have n0 := hide (((grown_setCell v0 X 2 (.int .u32 mi)).block _ (row_lt b0.out) (fun e => by have h1 := Option.some.inj e; have h2 := HSz.out; omega)).trans b0.out)
    have n1 := hide (((grown_setCell v0 X 2 (.int .u32 mi)).block _ (row_lt b1.out) (fun e => by have h1 := Option.some.inj e; have h2 := HSz.out; omega)).trans b1.out)
    have n2 := hide (row_setCell b2.out 2 (.int .u32 mi))
    have nG := hide (gn_own HG.out (grown_setCell v0 X 2 (.int .u32 mi)) (by have h2 := HSz.out; omega))
    go_upto_region 5 with fail
    generalize World.setCell _ _ _ = v1 at *
    clear b0 b1 b2 HG a0 a1 a2 a3 a4 y0 y1 y2 y3 y4 y5
    have b0 := n0
    have b1 := n1
    have b2 := n2
    have HG := nG
    clear n0 n1 n2 nG
    obtain ⟨a0, a1, a2, a3, a4⟩ := bx5 b0.out
    obtain ⟨⟨y0, y1, y2, y3, y4⟩, y5⟩ := bxf5 b2.out
    clear a0 a1 a2 a3 a4
    obtain ⟨⟨x0, x1, x2, x3, x4⟩, x5⟩ := bxf5 b1.out
    go_wp2
    obtain ⟨r1, r2⟩ := set5w v1 rfl b1.out (.int .i64 kk) (.int .u32 t) (.int .u32 mi) (.int .i64 0) (.int .i64 0)
    exact bodyPost_ret (results_cell_row rfl _ _ (w.heap.size + 1) 25 _ (0, 0) _ rfl r1 Tryz.underlying25 rfl (by kernel_rfl)) rfl ⟨rfl, gn_own HG.out r2 (by omega)⟩
  refine AllReadyH.cons rfl (fun K hK => ?_) ?_
  · skip
    go_simp
    refine hK.out _ _ ?_ (fun hHeld => ?_)
    · ((try dsimp only); first | with_reducible assumption | exact HSo.out _ (gn_alloc (grown_drew _ none) _))
    clear hK K
    try simp only [Act.put, List.setIfInBounds_toArray, List.set_cons_zero, List.set_cons_succ]
    refine rdH (i := 2) rfl (fun K hK => ?_)
    go_simp
    refine (HP10.out _).mono ?_
    rintro e wx ⟨rfl, hwx⟩
    obtain rfl := hwx.symm
    go_wp2_with fail
    refine hK.out _ _ ?_ (fun hHeld => ?_)
    · ((try dsimp only); first | with_reducible assumption | exact HSo.out _ (gn_alloc (grown_drew _ none) _))
    clear hK K
    try simp only [Act.put, List.setIfInBounds_toArray, List.set_cons_zero, List.set_cons_succ]
    refine tkH (i := 3) (v := ?_) rfl ?_ ?_
    rotate_left
    · (intro w hSw; (try dsimp only at hSw); (go_simp <;> with_reducible rfl))
    try simp only [Act.put, List.setIfInBounds_toArray]
    refine tkH (i := 6) (v := ?_) rfl ?_ ?_
    rotate_left
    · (intro w hSw; (try dsimp only at hSw); (go_simp <;> with_reducible rfl))
    try simp only [Act.put]
    refine rdH (i := 8) rfl (fun K hK => ?_)
    go_simp
    refine hK.out _ _ ?_ (fun hHeld => ?_)
    · ((try dsimp only); first | with_reducible assumption | exact HSo.out _ (gn_alloc (grown_drew _ none) _))
    clear hK K
    try simp only [Act.put, List.setIfInBounds_toArray, List.set_cons_zero, List.set_cons_succ]
    refine wpAnyH_done (by kernel_rfl) ?_ _
    have b0 := hide (drew_at (box_to HA0.out (grown_alloc w1 (.cells [Value.int .i64 kk, .int .u32 t, .int .u32 0, .int .i64 0, .int .i64 0].toArray 25))))
    have b1 := hide (drew_at (box_to HA1.out (grown_alloc w1 (.cells [Value.int .i64 kk, .int .u32 t, .int .u32 0, .int .i64 0, .int .i64 0].toArray 25))))
    have b2 := hide (drew_at (heap_alloc_new w1 (.cells [Value.int .i64 kk, .int .u32 t, .int .u32 0, .int .i64 0, .int .i64 0].toArray 25)))
    have HG := hide (grown_trans (gn_alloc HG0.out (.cells [Value.int .i64 kk, .int .u32 t, .int .u32 0, .int .i64 0, .int .i64 0].toArray 25)) (grown_drew _ none))
    have HSz := hide (row_lt HA1.out)
    clear HSo HA0 HA1 HG0 a0 a1 a2 a3 a4 hHeld
    generalize hX : w1.heap.size = X at *
    clear hX
    generalize World.drew (World.alloc w1 (.cells [Value.int .i64 kk, .int .u32 t, .int .u32 0, .int .i64 0, .int .i64 0].toArray 25)) = v0 at *
    obtain ⟨a0, a1, a2, a3, a4⟩ := bx5 b0.out
    obtain ⟨⟨y0, y1, y2, y3, y4⟩, y5⟩ := bxf5 b2.out
    go_wp2_with fail
    refine (HH.out _).mono ?_
    rintro e wx ⟨rfl, hwx⟩
    obtain rfl := hwx.symm
    clear hwx
    go_wp2_with fail
    refine (HP12.out _).mono ?_
    rintro e wx ⟨rfl, hwx⟩
    obtain rfl := hwx.symm
    clear hwx
    have n0 := hide (((grown_setCell v0 X 2 (.int .u32 mi)).block _ (row_lt b0.out) (fun e => by have h1 := Option.some.inj e; have h2 := HSz.out; omega)).trans b0.out)
    have n1 := hide (((grown_setCell v0 X 2 (.int .u32 mi)).block _ (row_lt b1.out) (fun e => by have h1 := Option.some.inj e; have h2 := HSz.out; omega)).trans b1.out)
    have n2 := hide (row_setCell b2.out 2 (.int .u32 mi))
    have nG := hide (gn_own HG.out (grown_setCell v0 X 2 (.int .u32 mi)) (by have h2 := HSz.out; omega))
    go_upto_region 5 with fail
    generalize World.setCell _ _ _ = v1 at *
    clear b0 b1 b2 HG a0 a1 a2 a3 a4 y0 y1 y2 y3 y4 y5
    have b0 := n0
    have b1 := n1
    have b2 := n2
    have HG := nG
    clear n0 n1 n2 nG
    obtain ⟨a0, a1, a2, a3, a4⟩ := bx5 b0.out
    obtain ⟨⟨y0, y1, y2, y3, y4⟩, y5⟩ := bxf5 b2.out
    clear a0 a1 a2 a3 a4
    obtain ⟨⟨x0, x1, x2, x3, x4⟩, x5⟩ := bxf5 b1.out
    go_wp2
    obtain ⟨r1, r2⟩ := set5w v1 rfl b1.out (.int .i64 kk) (.int .u32 t) (.int .u32 mi) (.int .i64 0) (.int .i64 0)
    exact bodyPost_ret (results_cell_row rfl _ _ (w.heap.size + 1) 25 _ (0, 0) _ rfl r1 Tryz.underlying25 rfl (by kernel_rfl)) rfl ⟨rfl, gn_own HG.out r2 (by omega)⟩
  exact AllReadyH.nil
end Go.Proofs.YtjfhilignbeboaaGreatDoor
namespace Go.Proofs.YtjfhilignbeboaaGreatDoor
/- Requests out of plain numbers, part by part. -/
open Go.RowKit
attribute [local go_sem ↓] Go.wp_at_zero Go.wp_at_succ
attribute [local go_sem] Oper.semAt_some
set_option maxHeartbeats 8000000 in
theorem request_110 (k i s u t kk : Int) (hk : 1 + k % 10 = kk) (h1 : Rs.hI kk = true) (h2 : Rs.hS kk = true) (h3 : Rs.hL kk = false) (w : World) : Calls Tryz.prog 18 #[akV ⟨k, i, s, u, t⟩] w fun e w' => e = .returned (.agg #[.int .i64 kk, .int .u32 t, .int .u32 (i % 12), .int .i64 (s % 14), .int .i64 (0)]) ∧ w.grownBy w' none := by
  have HP : Hid (∀ x (n : Nat) W, 1 ≤ n → n ≤ 4294967296 → Calls Tryz.prog 57 #[.int .i64 x, .int .i64 (n : Int)] W fun e w' => e = .returned (.int .i64 (x % (n : Int))) ∧ w' = W) := fun x n W h1 h2 => pick_any x n W h1 h2
  have HP10 : Hid (∀ W, Calls Tryz.prog 57 #[.int .i64 k, .int .i64 10] W fun e w' => e = .returned (.int .i64 (k % 10)) ∧ w' = W) := fun W => HP.out k 10 W (by decide) (by decide)
  have hkk : IntKind.i64.wrap (1 + k % 10) = kk := by rw [← hk, IntKind.wrap_i64]; omega
  have HP12 : Hid (∀ W, Calls Tryz.prog 57 #[.int .i64 i, .int .i64 12] W fun e w' => e = .returned (.int .i64 (i % 12)) ∧ w' = W) := fun W => HP.out i 12 W (by decide) (by decide)
  have hI1 : IntKind.u32.wrap (i % 12) = i % 12 := by rw [IntKind.wrap_u32]; omega
  have HP14 : Hid (∀ W, Calls Tryz.prog 57 #[.int .i64 s, .int .i64 14] W fun e w' => e = .returned (.int .i64 (s % 14)) ∧ w' = W) := fun W => HP.out s 14 W (by decide) (by decide)
  have HH : Hid (∀ W, Calls Tryz.prog 58 #[.int .i64 kk] W fun e w' => e = .returned (.tuple #[.bool true, .bool true, .bool false]) ∧ w' = W) := fun W => by have := Rs.rhas_any kk W; rw [h1, h2, h3] at this; exact this
  have HA0 := hide (new2a w (.cells [Value.int .i64 k, .int .i64 i, .int .i64 s, .int .i64 u, .int .u32 t].toArray 65) (.cells [Value.int .i64 0, .int .u32 0, .int .u32 0, .int .i64 0, .int .i64 0].toArray 25))
  have HA1 := hide (new2 w (.cells [Value.int .i64 k, .int .i64 i, .int .i64 s, .int .i64 u, .int .u32 t].toArray 65) (.cells [Value.int .i64 0, .int .u32 0, .int .u32 0, .int .i64 0, .int .i64 0].toArray 25))
  have HG0 := hide (grown_alloc2 w (.cells [Value.int .i64 k, .int .i64 i, .int .i64 s, .int .i64 u, .int .u32 t].toArray 65) (.cells [Value.int .i64 0, .int .u32 0, .int .u32 0, .int .i64 0, .int .i64 0].toArray 25))
  obtain ⟨a0, a1, a2, a3, a4⟩ := bx5 HA0.out
  clear hk h1 h2 h3 HP
  unfold akV
  simp only
  generalize i % 12 = mi at *
  generalize s % 14 = ms at *
  generalize k % 10 = k1 at *
  go_enter Tryz.func18, Tryz.ntmps18
  go_wp2
  generalize World.alloc (World.alloc w _) _ = w1 at *
  have HSo : Hid (∀ W, w1.grownBy W none → W.cell? ⟨w.heap.size, 0, none⟩ = some (.int .i64 k) ∧ W.cell? ⟨w.heap.size, 4, none⟩ = some (.int .u32 t)) := fun W gW => by obtain ⟨b0, b1, b2, b3, b4⟩ := bx5 (box_to HA0.out gW); exact ⟨b0, b4⟩
  refine wp_region_held_drew (S := (fun W => W.cell? ⟨w.heap.size, 0, none⟩ = some (.int .i64 k) ∧ W.cell? ⟨w.heap.size, 4, none⟩ = some (.int .u32 t))) (by kernel_rfl) ?_ (fun hHeld => ?_)
  · (exact HSo.out _ (grown_drew _ none))
  refine tkH (i := 0) (v := ?_) rfl ?_ ?_
  rotate_left
  · (intro w hSw; (try dsimp only at hSw); (go_simp <;> with_reducible rfl))
  try simp only [Act.put, List.setIfInBounds_toArray]
  refine tkH (i := 1) (v := ?_) rfl ?_ ?_
  rotate_left
  · (intro w hSw; (try dsimp only at hSw); (go_simp <;> with_reducible rfl))
  try simp only [Act.put]
  refine tkH (i := 4) (v := ?_) rfl ?_ ?_
  rotate_left
  · (intro w hSw; (try dsimp only at hSw); (go_simp <;> with_reducible rfl))
  try simp only [Act.put]
  refine tkH (i := 5) (v := ?_) rfl ?_ ?_
  rotate_left
  · (intro w hSw; (try dsimp only at hSw); (go_simp <;> with_reducible rfl))
  try simp only [Act.put]
  refine wpAnyH_ready (rs := [2, 7]) (by kernel_rfl) (by simp) ?_
  refine AllReadyH.cons rfl (fun K hK => ?_) ?_
  · skip
    go_simp
    refine (HP10.out _).mono ?_
    rintro e wx ⟨rfl, hwx⟩
    obtain rfl := hwx.symm
    go_wp2_with fail
    refine hK.out _ _ ?_ (fun hHeld => ?_)
    · ((try dsimp only); first | with_reducible assumption | exact HSo.out _ (gn_alloc (grown_drew _ none) _))
    clear hK K
    try simp only [Act.put, List.setIfInBounds_toArray, List.set_cons_zero, List.set_cons_succ]
    refine tkH (i := 3) (v := ?_) rfl ?_ ?_
    rotate_left
    · (intro w hSw; (try dsimp only at hSw); (go_simp <;> with_reducible rfl))
    try simp only [Act.put, List.setIfInBounds_toArray]
    refine tkH (i := 6) (v := ?_) rfl ?_ ?_
    rotate_left
    · (intro w hSw; (try dsimp only at hSw); (go_simp <;> with_reducible rfl))
    try simp only [Act.put]
    refine rdH (i := 7) rfl (fun K hK => ?_)
    go_simp
    refine hK.out _ _ ?_ (fun hHeld => ?_)
    · ((try dsimp only); first | with_reducible assumption | exact HSo.out _ (gn_alloc (grown_drew _ none) _))
    clear hK K
    try simp only [Act.put, List.setIfInBounds_toArray, List.set_cons_zero, List.set_cons_succ]
    refine rdH (i := 8) rfl (fun K hK => ?_)
    go_simp
    refine hK.out _ _ ?_ (fun hHeld => ?_)
    · ((try dsimp only); first | with_reducible assumption | exact HSo.out _ (gn_alloc (grown_drew _ none) _))
    clear hK K
    try simp only [Act.put, List.setIfInBounds_toArray, List.set_cons_zero, List.set_cons_succ]
    refine wpAnyH_done (by kernel_rfl) ?_ _
    have b0 := hide (drew_at (box_to HA0.out (grown_alloc w1 (.cells [Value.int .i64 kk, .int .u32 t, .int .u32 0, .int .i64 0, .int .i64 0].toArray 25))))
    have b1 := hide (drew_at (box_to HA1.out (grown_alloc w1 (.cells [Value.int .i64 kk, .int .u32 t, .int .u32 0, .int .i64 0, .int .i64 0].toArray 25))))
    have b2 := hide (drew_at (heap_alloc_new w1 (.cells [Value.int .i64 kk, .int .u32 t, .int .u32 0, .int .i64 0, .int .i64 0].toArray 25)))
    have HG := hide (grown_trans (gn_alloc HG0.out (.cells [Value.int .i64 kk, .int .u32 t, .int .u32 0, .int .i64 0, .int .i64 0].toArray 25)) (grown_drew _ none))
    have HSz := hide (row_lt HA1.out)
    clear HSo HA0 HA1 HG0 a0 a1 a2 a3 a4 hHeld
    generalize hX : w1.heap.size = X at *
    clear hX
    generalize World.drew (World.alloc w1 (.cells [Value.int .i64 kk, .int .u32 t, .int .u32 0, .int .i64 0, .int .i64 0].toArray 25)) = v0 at *
    obtain ⟨a0, a1, a2, a3, a4⟩ := bx5 b0.out
    obtain ⟨⟨y0, y1, y2, y3, y4⟩, y5⟩ := bxf5 b2.out
    go_wp2_with fail
    refine (HH.out _).mono ?_
    rintro e wx ⟨rfl, hwx⟩
    obtain rfl := hwx.symm
    clear hwx
    go_wp2_with fail
    refine (HP12.out _).mono ?_
    rintro e wx ⟨rfl, hwx⟩
    obtain rfl := hwx.symm
    clear hwx
    have n0 := hide (((grown_setCell v0 X 2 (.int .u32 mi)).block _ (row_lt b0.out) (fun e => by have h1 := Option.some.inj e; have h2 := HSz.out; omega)).trans b0.out)
    have n1 := hide (((grown_setCell v0 X 2 (.int .u32 mi)).block _ (row_lt b1.out) (fun e => by have h1 := Option.some.inj e; have h2 := HSz.out; omega)).trans b1.out)
    have n2 := hide (row_setCell b2.out 2 (.int .u32 mi))
    have nG := hide (gn_own HG.out (grown_setCell v0 X 2 (.int .u32 mi)) (by have h2 := HSz.out; omega))
    go_upto_region 5 with fail
    generalize World.setCell _ _ _ = v1 at *
    clear b0 b1 b2 HG a0 a1 a2 a3 a4 y0 y1 y2 y3 y4 y5
    have b0 := n0
    have b1 := n1
    have b2 := n2
    have HG := nG
    clear n0 n1 n2 nG
    obtain ⟨a0, a1, a2, a3, a4⟩ := bx5 b0.out
    obtain ⟨⟨y0, y1, y2, y3, y4⟩, y5⟩ := bxf5 b2.out
    go_wp2_with fail
    refine (HP14.out _).mono ?_
    rintro e wx ⟨rfl, hwx⟩
    obtain rfl := hwx.symm
    clear hwx
    have n0 := hide (((grown_setCell v1 X 3 (.int .i64 ms)).block _ (row_lt b0.out) (fun e => by have h1 := Option.some.inj e; have h2 := HSz.out; omega)).trans b0.out)
    have n1 := hide (((grown_setCell v1 X 3 (.int .i64 ms)).block _ (row_lt b1.out) (fun e => by have h1 := Option.some.inj e; have h2 := HSz.out; omega)).trans b1.out)
    have n2 := hide (row_setCell b2.out 3 (.int .i64 ms))
    have nG := hide (gn_own HG.out (grown_setCell v1 X 3 (.int .i64 ms)) (by have h2 := HSz.out; omega))
    go_upto_region 7 with fail
    generalize World.setCell _ _ _ = v2 at *
    clear b0 b1 b2 HG a0 a1 a2 a3 a4 y0 y1 y2 y3 y4 y5
    have b0 := n0
    have b1 := n1
    have b2 := n2
    have HG := nG
    clear n0 n1 n2 nG
    obtain ⟨a0, a1, a2, a3, a4⟩ := bx5 b0.out
    obtain ⟨⟨y0, y1, y2, y3, y4⟩, y5⟩ := bxf5 b2.out
    clear a0 a1 a2 a3 a4
    obtain ⟨⟨x0, x1, x2, x3, x4⟩, x5⟩ := bxf5 b1.out
    go_wp2
    obtain ⟨r1, r2⟩ := set5w v2 rfl b1.out (.int .i64 kk) (.int .u32 t) (.int .u32 mi) (.int .i64 ms) (.int .i64 0)
    exact bodyPost_ret (results_cell_row rfl _ _ (w.heap.size + 1) 25 _ (0, 0) _ rfl r1 Tryz.underlying25 rfl (by kernel_rfl)) rfl ⟨rfl, gn_own HG.out r2 (by omega)⟩
  refine AllReadyH.cons rfl (fun K hK => ?_) ?_
  · skip
    go_simp
    refine hK.out _ _ ?_ (fun hHeld => ?_)
    · ((try dsimp only); first | with_reducible assumption | exact HSo.out _ (gn_alloc (grown_drew _ none) _))
    clear hK K
    try simp only [Act.put, List.setIfInBounds_toArray, List.set_cons_zero, List.set_cons_succ]
    refine rdH (i := 2) rfl (fun K hK => ?_)
    go_simp
    refine (HP10.out _).mono ?_
    rintro e wx ⟨rfl, hwx⟩
    obtain rfl := hwx.symm
    go_wp2_with fail
    refine hK.out _ _ ?_ (fun hHeld => ?_)
    · ((try dsimp only); first | with_reducible assumption | exact HSo.out _ (gn_alloc (grown_drew _ none) _))
    clear hK K
    try simp only [Act.put, List.setIfInBounds_toArray, List.set_cons_zero, List.set_cons_succ]
    refine tkH (i := 3) (v := ?_) rfl ?_ ?_
    rotate_left
    · (intro w hSw; (try dsimp only at hSw); (go_simp <;> with_reducible rfl))
    try simp only [Act.put, List.setIfInBounds_toArray]
    refine tkH (i := 6) (v := ?_) rfl ?_ ?_
    rotate_left
    · (intro w hSw; (try dsimp only at hSw); (go_simp <;> with_reducible rfl))
    try simp only [Act.put]
    refine rdH (i := 8) rfl (fun K hK => ?_)
    go_simp
    refine hK.out _ _ ?_ (fun hHeld => ?_)
    · ((try dsimp only); first | with_reducible assumption | exact HSo.out _ (gn_alloc (grown_drew _ none) _))
    clear hK K
    try simp only [Act.put, List.setIfInBounds_toArray, List.set_cons_zero, List.set_cons_succ]
    refine wpAnyH_done (by kernel_rfl) ?_ _
    have b0 := hide (drew_at (box_to HA0.out (grown_alloc w1 (.cells [Value.int .i64 kk, .int .u32 t, .int .u32 0, .int .i64 0, .int .i64 0].toArray 25))))
    have b1 := hide (drew_at (box_to HA1.out (grown_alloc w1 (.cells [Value.int .i64 kk, .int .u32 t, .int .u32 0, .int .i64 0, .int .i64 0].toArray 25))))
    have b2 := hide (drew_at (heap_alloc_new w1 (.cells [Value.int .i64 kk, .int .u32 t, .int .u32 0, .int .i64 0, .int .i64 0].toArray 25)))
    have HG := hide (grown_trans (gn_alloc HG0.out (.cells [Value.int .i64 kk, .int .u32 t, .int .u32 0, .int .i64 0, .int .i64 0].toArray 25)) (grown_drew _ none))
    have HSz := hide (row_lt HA1.out)
    clear HSo HA0 HA1 HG0 a0 a1 a2 a3 a4 hHeld
    generalize hX : w1.heap.size = X at *
    clear hX
    generalize World.drew (World.alloc w1 (.cells [Value.int .i64 kk, .int .u32 t, .int .u32 0, .int .i64 0, .int .i64 0].toArray 25)) = v0 at *
    obtain ⟨a0, a1, a2, a3, a4⟩ := bx5 b0.out
    obtain ⟨⟨y0, y1, y2, y3, y4⟩, y5⟩ := bxf5 b2.out
    go_wp2_with fail
    refine (HH.out _).mono ?_
    rintro e wx ⟨rfl, hwx⟩
    obtain rfl := hwx.symm
    clear hwx
    go_wp2_with fail
    refine (HP12.out _).mono ?_
    rintro e wx ⟨rfl, hwx⟩
    obtain rfl := hwx.symm
    clear hwx
    have n0 := hide (((grown_setCell v0 X 2 (.int .u32 mi)).block _ (row_lt b0.out) (fun e => by have h1 := Option.some.inj e; have h2 := HSz.out; omega)).trans b0.out)
    have n1 := hide (((grown_setCell v0 X 2 (.int .u32 mi)).block _ (row_lt b1.out) (fun e => by have h1 := Option.some.inj e; have h2 := HSz.out; omega)).trans b1.out)
    have n2 := hide (row_setCell b2.out 2 (.int .u32 mi))
    have nG := hide (gn_own HG.out (grown_setCell v0 X 2 (.int .u32 mi)) (by have h2 := HSz.out; omega))
    go_upto_region 5 with fail
    generalize World.setCell _ _ _ = v1 at *
    clear b0 b1 b2 HG a0 a1 a2 a3 a4 y0 y1 y2 y3 y4 y5
    have b0 := n0
    have b1 := n1
    have b2 := n2
    have HG := nG
    clear n0 n1 n2 nG
    obtain ⟨a0, a1, a2, a3, a4⟩ := bx5 b0.out
    obtain ⟨⟨y0, y1, y2, y3, y4⟩, y5⟩ := bxf5 b2.out
    go_wp2_with fail
    refine (HP14.out _).mono ?_
    rintro e wx ⟨rfl, hwx⟩
    obtain rfl := hwx.symm
    clear hwx
    have n0 := hide (((grown_setCell v1 X 3 (.int .i64 ms)).block _ (row_lt b0.out) (fun e => by have h1 := Option.some.inj e; have h2 := HSz.out; omega)).trans b0.out)
    have n1 := hide (((grown_setCell v1 X 3 (.int .i64 ms)).block _ (row_lt b1.out) (fun e => by have h1 := Option.some.inj e; have h2 := HSz.out; omega)).trans b1.out)
    have n2 := hide (row_setCell b2.out 3 (.int .i64 ms))
    have nG := hide (gn_own HG.out (grown_setCell v1 X 3 (.int .i64 ms)) (by have h2 := HSz.out; omega))
    go_upto_region 7 with fail
    generalize World.setCell _ _ _ = v2 at *
    clear b0 b1 b2 HG a0 a1 a2 a3 a4 y0 y1 y2 y3 y4 y5
    have b0 := n0
    have b1 := n1
    have b2 := n2
    have HG := nG
    clear n0 n1 n2 nG
    obtain ⟨a0, a1, a2, a3, a4⟩ := bx5 b0.out
    obtain ⟨⟨y0, y1, y2, y3, y4⟩, y5⟩ := bxf5 b2.out
    clear a0 a1 a2 a3 a4
    obtain ⟨⟨x0, x1, x2, x3, x4⟩, x5⟩ := bxf5 b1.out
    go_wp2
    obtain ⟨r1, r2⟩ := set5w v2 rfl b1.out (.int .i64 kk) (.int .u32 t) (.int .u32 mi) (.int .i64 ms) (.int .i64 0)
    exact bodyPost_ret (results_cell_row rfl _ _ (w.heap.size + 1) 25 _ (0, 0) _ rfl r1 Tryz.underlying25 rfl (by kernel_rfl)) rfl ⟨rfl, gn_own HG.out r2 (by omega)⟩
  exact AllReadyH.nil
set_option maxHeartbeats 8000000 in
theorem request_010 (k i s u t kk : Int) (hk : 1 + k % 10 = kk) (h1 : Rs.hI kk = false) (h2 : Rs.hS kk = true) (h3 : Rs.hL kk = false) (w : World) : Calls Tryz.prog 18 #[akV ⟨k, i, s, u, t⟩] w fun e w' => e = .returned (.agg #[.int .i64 kk, .int .u32 t, .int .u32 (0), .int .i64 (s % 14), .int .i64 (0)]) ∧ w.grownBy w' none := by
  have HP : Hid (∀ x (n : Nat) W, 1 ≤ n → n ≤ 4294967296 → Calls Tryz.prog 57 #[.int .i64 x, .int .i64 (n : Int)] W fun e w' => e = .returned (.int .i64 (x % (n : Int))) ∧ w' = W) := fun x n W h1 h2 => pick_any x n W h1 h2
  have HP10 : Hid (∀ W, Calls Tryz.prog 57 #[.int .i64 k, .int .i64 10] W fun e w' => e = .returned (.int .i64 (k % 10)) ∧ w' = W) := fun W => HP.out k 10 W (by decide) (by decide)
  have hkk : IntKind.i64.wrap (1 + k % 10) = kk := by rw [← hk, IntKind.wrap_i64]; omega
  have HP14 : Hid (∀ W, Calls Tryz.prog 57 #[.int .i64 s, .int .i64 14] W fun e w' => e = .returned (.int .i64 (s % 14)) ∧ w' = W) := fun W => HP.out s 14 W (by decide) (by decide)
  have HH : Hid (∀ W, Calls Tryz.prog 58 #[.int .i64 kk] W fun e w' => e = .returned (.tuple #[.bool false, .bool true, .bool false]) ∧ w' = W) := fun W => by have := Rs.rhas_any kk W; rw [h1, h2, h3] at this; exact this
  have HA0 := hide (new2a w (.cells [Value.int .i64 k, .int .i64 i, .int .i64 s, .int .i64 u, .int .u32 t].toArray 65) (.cells [Value.int .i64 0, .int .u32 0, .int .u32 0, .int .i64 0, .int .i64 0].toArray 25))
  have HA1 := hide (new2 w (.cells [Value.int .i64 k, .int .i64 i, .int .i64 s, .int .i64 u, .int .u32 t].toArray 65) (.cells [Value.int .i64 0, .int .u32 0, .int .u32 0, .int .i64 0, .int .i64 0].toArray 25))
  have HG0 := hide (grown_alloc2 w (.cells [Value.int .i64 k, .int .i64 i, .int .i64 s, .int .i64 u, .int .u32 t].toArray 65) (.cells [Value.int .i64 0, .int .u32 0, .int .u32 0, .int .i64 0, .int .i64 0].toArray 25))
  obtain ⟨a0, a1, a2, a3, a4⟩ := bx5 HA0.out
  clear hk h1 h2 h3 HP
  unfold akV
  simp only
  generalize s % 14 = ms at *
  generalize k % 10 = k1 at *
  go_enter Tryz.func18, Tryz.ntmps18
  go_wp2
  generalize World.alloc (World.alloc w _) _ = w1 at *
  have HSo : Hid (∀ W, w1.grownBy W none → W.cell? ⟨w.heap.size, 0, none⟩ = some (.int .i64 k) ∧ W.cell? ⟨w.heap.size, 4, none⟩ = some (.int .u32 t)) := fun W gW => by obtain ⟨b0, b1, b2, b3, b4⟩ := bx5 (box_to HA0.out gW); exact ⟨b0, b4⟩
  refine wp_region_held_drew (S := (fun W => W.cell? ⟨w.heap.size, 0, none⟩ = some (.int .i64 k) ∧ W.cell? ⟨w.heap.size, 4, none⟩ = some (.int .u32 t))) (by kernel_rfl) ?_ (fun hHeld => ?_)
  · (exact HSo.out _ (grown_drew _ none))
  refine tkH (i := 0) (v := ?_) rfl ?_ ?_
  rotate_left
  · (intro w hSw; (try dsimp only at hSw); (go_simp <;> with_reducible rfl))
  try simp only [Act.put, List.setIfInBounds_toArray]
  refine tkH (i := 1) (v := ?_) rfl ?_ ?_
  rotate_left
  · (intro w hSw; (try dsimp only at hSw); (go_simp <;> with_reducible rfl))
  try simp only [Act.put]
  refine tkH (i := 4) (v := ?_) rfl ?_ ?_
  rotate_left
  · (intro w hSw; (try dsimp only at hSw); (go_simp <;> with_reducible rfl))
  try simp only [Act.put]
  refine tkH (i := 5) (v := ?_) rfl ?_ ?_
  rotate_left
  · (intro w hSw; (try dsimp only at hSw); (go_simp <;> with_reducible rfl))
  try simp only [Act.put]
  refine wpAnyH_ready (rs := [2, 7]) (by kernel_rfl) (by simp) ?_
  refine AllReadyH.cons rfl (fun K hK => ?_) ?_
  · skip
    go_simp
    refine (HP10.out _).mono ?_
    rintro e wx ⟨rfl, hwx⟩
    obtain rfl := hwx.symm
    go_wp2_with fail
    refine hK.out _ _ ?_ (fun hHeld => ?_)
    · ((try dsimp only); first | with_reducible assumption | exact HSo.out _ (gn_alloc (grown_drew _ none) _))
    clear hK K
    try simp only [Act.put, List.setIfInBounds_toArray, List.set_cons_zero, List.set_cons_succ]
    refine tkH (i := 3) (v := ?_) rfl ?_ ?_
    rotate_left
    · (intro w hSw; (try dsimp only at hSw); (go_simp <;> with_reducible rfl))
    try simp only [Act.put, List.setIfInBounds_toArray]
    refine tkH (i := 6) (v := ?_) rfl ?_ ?_
    rotate_left
    · (intro w hSw; (try dsimp only at hSw); (go_simp <;> with_reducible rfl))
    try simp only [Act.put]
    refine rdH (i := 7) rfl (fun K hK => ?_)
    go_simp
    refine hK.out _ _ ?_ (fun hHeld => ?_)
    · ((try dsimp only); first | with_reducible assumption | exact HSo.out _ (gn_alloc (grown_drew _ none) _))
    clear hK K
    try simp only [Act.put, List.setIfInBounds_toArray, List.set_cons_zero, List.set_cons_succ]
    refine rdH (i := 8) rfl (fun K hK => ?_)
    go_simp
    refine hK.out _ _ ?_ (fun hHeld => ?_)
    · ((try dsimp only); first | with_reducible assumption | exact HSo.out _ (gn_alloc (grown_drew _ none) _))
    clear hK K
    try simp only [Act.put, List.setIfInBounds_toArray, List.set_cons_zero, List.set_cons_succ]
    refine wpAnyH_done (by kernel_rfl) ?_ _
    have b0 := hide (drew_at (box_to HA0.out (grown_alloc w1 (.cells [Value.int .i64 kk, .int .u32 t, .int .u32 0, .int .i64 0, .int .i64 0].toArray 25))))
    have b1 := hide (drew_at (box_to HA1.out (grown_alloc w1 (.cells [Value.int .i64 kk, .int .u32 t, .int .u32 0, .int .i64 0, .int .i64 0].toArray 25))))
    have b2 := hide (drew_at (heap_alloc_new w1 (.cells [Value.int .i64 kk, .int .u32 t, .int .u32 0, .int .i64 0, .int .i64 0].toArray 25)))
    have HG := hide (grown_trans (gn_alloc HG0.out (.cells [Value.int .i64 kk, .int .u32 t, .int .u32 0, .int .i64 0, .int .i64 0].toArray 25)) (grown_drew _ none))
    have HSz := hide (row_lt HA1.out)
    clear HSo HA0 HA1 HG0 a0 a1 a2 a3 a4 hHeld
    generalize hX : w1.heap.size = X at *
    clear hX
    generalize World.drew (World.alloc w1 (.cells [Value.int .i64 kk, .int .u32 t, .int .u32 0, .int .i64 0, .int .i64 0].toArray 25)) = v0 at *
    obtain ⟨a0, a1, a2, a3, a4⟩ := bx5 b0.out
    obtain ⟨⟨y0, y1, y2, y3, y4⟩, y5⟩ := bxf5 b2.out
    go_wp2_with fail
    refine (HH.out _).mono ?_
    rintro e wx ⟨rfl, hwx⟩
    obtain rfl := hwx.symm
    clear hwx
    go_wp2_with fail
    refine (HP14.out _).mono ?_
    rintro e wx ⟨rfl, hwx⟩
    obtain rfl := hwx.symm
    clear hwx
    have n0 := hide (((grown_setCell v0 X 3 (.int .i64 ms)).block _ (row_lt b0.out) (fun e => by have h1 := Option.some.inj e; have h2 := HSz.out; omega)).trans b0.out)
    have n1 := hide (((grown_setCell v0 X 3 (.int .i64 ms)).block _ (row_lt b1.out) (fun e => by have h1 := Option.some.inj e; have h2 := HSz.out; omega)).trans b1.out)
    have n2 := hide (row_setCell b2.out 3 (.int .i64 ms))
    have nG := hide (gn_own HG.out (grown_setCell v0 X 3 (.int .i64 ms)) (by have h2 := HSz.out; omega))
    go_upto_region 7 with fail
    generalize World.setCell _ _ _ = v1 at *
    clear b0 b1 b2 HG a0 a1 a2 a3 a4 y0 y1 y2 y3 y4 y5
    have b0 := n0
    have b1 := n1
    have b2 := n2
    have HG := nG
    clear n0 n1 n2 nG
    obtain ⟨a0, a1, a2, a3, a4⟩ := bx5 b0.out
    obtain ⟨⟨y0, y1, y2, y3, y4⟩, y5⟩ := bxf5 b2.out
    clear a0 a1 a2 a3 a4
    obtain ⟨⟨x0, x1, x2, x3, x4⟩, x5⟩ := bxf5 b1.out
    go_wp2
    obtain ⟨r1, r2⟩ := set5w v1 rfl b1.out (.int .i64 kk) (.int .u32 t) (.int .u32 0) (.int .i64 ms) (.int .i64 0)
    exact bodyPost_ret (results_cell_row rfl _ _ (w.heap.size + 1) 25 _ (0, 0) _ rfl r1 Tryz.underlying25 rfl (by kernel_rfl)) rfl ⟨rfl, gn_own HG.out r2 (by omega)⟩
  refine AllReadyH.cons rfl (fun K hK => ?_) ?_
  · skip
    go_simp
    refine hK.out _ _ ?_ (fun hHeld => ?_)
    · ((try dsimp only); first | with_reducible assumption | exact HSo.out _ (gn_alloc (grown_drew _ none) _))
    clear hK K
    try simp only [Act.put, List.setIfInBounds_toArray, List.set_cons_zero, List.set_cons_succ]
    refine rdH (i := 2) rfl (fun K hK => ?_)
    go_simp
    refine (HP10.out _).mono ?_
    rintro e wx ⟨rfl, hwx⟩
    obtain rfl := hwx.symm
    go_wp2_with fail
    refine hK.out _ _ ?_ (fun hHeld => ?_)
    · ((try dsimp only); first | with_reducible assumption | exact HSo.out _ (gn_alloc (grown_drew _ none) _))
    clear hK K
    try simp only [Act.put, List.setIfInBounds_toArray, List.set_cons_zero, List.set_cons_succ]
    refine tkH (i := 3) (v := ?_) rfl ?_ ?_
    rotate_left
    · (intro w hSw; (try dsimp only at hSw); (go_simp <;> with_reducible rfl))
    try simp only [Act.put, List.setIfInBounds_toArray]
    refine tkH (i := 6) (v := ?_) rfl ?_ ?_
    rotate_left
    · (intro w hSw; (try dsimp only at hSw); (go_simp <;> with_reducible rfl))
    try simp only [Act.put]
    refine rdH (i := 8) rfl (fun K hK => ?_)
    go_simp
    refine hK.out _ _ ?_ (fun hHeld => ?_)
    · ((try dsimp only); first | with_reducible assumption | exact HSo.out _ (gn_alloc (grown_drew _ none) _))
    clear hK K
    try simp only [Act.put, List.setIfInBounds_toArray, List.set_cons_zero, List.set_cons_succ]
    refine wpAnyH_done (by kernel_rfl) ?_ _
    have b0 := hide (drew_at (box_to HA0.out (grown_alloc w1 (.cells [Value.int .i64 kk, .int .u32 t, .int .u32 0, .int .i64 0, .int .i64 0].toArray 25))))
    have b1 := hide (drew_at (box_to HA1.out (grown_alloc w1 (.cells [Value.int .i64 kk, .int .u32 t, .int .u32 0, .int .i64 0, .int .i64 0].toArray 25))))
    have b2 := hide (drew_at (heap_alloc_new w1 (.cells [Value.int .i64 kk, .int .u32 t, .int .u32 0, .int .i64 0, .int .i64 0].toArray 25)))
    have HG := hide (grown_trans (gn_alloc HG0.out (.cells [Value.int .i64 kk, .int .u32 t, .int .u32 0, .int .i64 0, .int .i64 0].toArray 25)) (grown_drew _ none))
    have HSz := hide (row_lt HA1.out)
    clear HSo HA0 HA1 HG0 a0 a1 a2 a3 a4 hHeld
    generalize hX : w1.heap.size = X at *
    clear hX
    generalize World.drew (World.alloc w1 (.cells [Value.int .i64 kk, .int .u32 t, .int .u32 0, .int .i64 0, .int .i64 0].toArray 25)) = v0 at *
    obtain ⟨a0, a1, a2, a3, a4⟩ := bx5 b0.out
    obtain ⟨⟨y0, y1, y2, y3, y4⟩, y5⟩ := bxf5 b2.out
    go_wp2_with fail
    refine (HH.out _).mono ?_
    rintro e wx ⟨rfl, hwx⟩
    obtain rfl := hwx.symm
    clear hwx
    go_wp2_with fail
    refine (HP14.out _).mono ?_
    rintro e wx ⟨rfl, hwx⟩
    obtain rfl := hwx.symm
    clear hwx
    have n0 := hide (((grown_setCell v0 X 3 (.int .i64 ms)).block _ (row_lt b0.out) (fun e => by have h1 := Option.some.inj e; have h2 := HSz.out; omega)).trans b0.out)
    have n1 := hide (((grown_setCell v0 X 3 (.int .i64 ms)).block _ (row_lt b1.out) (fun e => by have h1 := Option.some.inj e; have h2 := HSz.out; omega)).trans b1.out)
    have n2 := hide (row_setCell b2.out 3 (.int .i64 ms))
    have nG := hide (gn_own HG.out (grown_setCell v0 X 3 (.int .i64 ms)) (by have h2 := HSz.out; omega))
    go_upto_region 7 with fail
    generalize World.setCell _ _ _ = v1 at *
    clear b0 b1 b2 HG a0 a1 a2 a3 a4 y0 y1 y2 y3 y4 y5
    have b0 := n0
    have b1 := n1
    have b2 := n2
    have HG := nG
    clear n0 n1 n2 nG
    obtain ⟨a0, a1, a2, a3, a4⟩ := bx5 b0.out
    obtain ⟨⟨y0, y1, y2, y3, y4⟩, y5⟩ := bxf5 b2.out
    clear a0 a1 a2 a3 a4
    obtain ⟨⟨x0, x1, x2, x3, x4⟩, x5⟩ := bxf5 b1.out
    go_wp2
    obtain ⟨r1, r2⟩ := set5w v1 rfl b1.out (.int .i64 kk) (.int .u32 t) (.int .u32 0) (.int .i64 ms) (.int .i64 0)
    exact bodyPost_ret (results_cell_row rfl _ _ (w.heap.size + 1) 25 _ (0, 0) _ rfl r1 Tryz.underlying25 rfl (by kernel_rfl)) rfl ⟨rfl, gn_own HG.out r2 (by omega)⟩
  exact AllReadyH.nil
end Go.Proofs.YtjfhilignbeboaaGreatDoor
