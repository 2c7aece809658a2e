/- Texts joined: Ra3, Ra, LaG, Ds0, Ds1, Cv, Ds2. -/
import Derived.Test.YtjfhilignbeboaaGreatDoorJqAr
import Derived.Test.YtjfhilignbeboaaGreatDoorJqAs
import Derived.Test.YtjfhilignbeboaaGreatDoorJqAo
import Derived.Test.YtjfhilignbeboaaGreatDoorJqAq
import Derived.Test.YtjfhilignbeboaaGreatDoorJqAj
import Derived.Test.YtjfhilignbeboaaGreatDoorJqAi
namespace Go.Proofs.YtjfhilignbeboaaGreatDoor
/- Requests out of plain numbers, part by part. -/
open Go.RowKit
attribute [local go_sem ↓] Go.wp_at_zero Go.wp_at_succ
attribute [local go_sem] Oper.semAt_some
set_option maxHeartbeats 8000000 in
theorem request_001 (k i s u t kk : Int) (hk : 1 + k % 10 = kk) (h1 : Rs.hI kk = false) (h2 : Rs.hS kk = false) (h3 : Rs.hL kk = true) (w : World) : Calls Tryz.prog 18 #[akV ⟨k, i, s, u, t⟩] w fun e w' => e = .returned (.agg #[.int .i64 kk, .int .u32 t, .int .u32 (0), .int .i64 (0), .int .i64 (u % 9)]) ∧ w.grownBy w' none := by
  have HP : Hid (∀ x (n : Nat) W, 1 ≤ n → n ≤ 4294967296 → Calls Tryz.prog 57 #[.int .i64 x, .int .i64 (n : Int)] W fun e w' => e = .returned (.int .i64 (x % (n : Int))) ∧ w' = W) := fun x n W h1 h2 => pick_any x n W h1 h2
  have HP10 : Hid (∀ W, Calls Tryz.prog 57 #[.int .i64 k, .int .i64 10] W fun e w' => e = .returned (.int .i64 (k % 10)) ∧ w' = W) := fun W => HP.out k 10 W (by decide) (by decide)
  have hkk : IntKind.i64.wrap (1 + k % 10) = kk := by rw [← hk, IntKind.wrap_i64]; omega
  have HP9 : Hid (∀ W, Calls Tryz.prog 57 #[.int .i64 u, .int .i64 9] W fun e w' => e = .returned (.int .i64 (u % 9)) ∧ w' = W) := fun W => HP.out u 9 W (by decide) (by decide)
  have HH : Hid (∀ W, Calls Tryz.prog 58 #[.int .i64 kk] W fun e w' => e = .returned (.tuple #[.bool false, .bool false, .bool true]) ∧ w' = W) := fun W => by have := Rs.rhas_any kk W; rw [h1, h2, h3] at this; exact this
  have HA0 := hide (new2a w (.cells [Value.int .i64 k, .int .i64 i, .int .i64 s, .int .i64 u, .int .u32 t].toArray 65) (.cells [Value.int .i64 0, .int .u32 0, .int .u32 0, .int .i64 0, .int .i64 0].toArray 25))
  have HA1 := hide (new2 w (.cells [Value.int .i64 k, .int .i64 i, .int .i64 s, .int .i64 u, .int .u32 t].toArray 65) (.cells [Value.int .i64 0, .int .u32 0, .int .u32 0, .int .i64 0, .int .i64 0].toArray 25))
  have HG0 := hide (grown_alloc2 w (.cells [Value.int .i64 k, .int .i64 i, .int .i64 s, .int .i64 u, .int .u32 t].toArray 65) (.cells [Value.int .i64 0, .int .u32 0, .int .u32 0, .int .i64 0, .int .i64 0].toArray 25))
  obtain ⟨a0, a1, a2, a3, a4⟩ := bx5 HA0.out
  clear hk h1 h2 h3 HP
  unfold akV
  simp only
  generalize u % 9 = mu at *
  generalize k % 10 = k1 at *
  go_enter Tryz.func18, Tryz.ntmps18
  go_wp2
  generalize World.alloc (World.alloc w _) _ = w1 at *
  have HSo : Hid (∀ W, w1.grownBy W none → W.cell? ⟨w.heap.size, 0, none⟩ = some (.int .i64 k) ∧ W.cell? ⟨w.heap.size, 4, none⟩ = some (.int .u32 t)) := fun W gW => by obtain ⟨b0, b1, b2, b3, b4⟩ := bx5 (box_to HA0.out gW); exact ⟨b0, b4⟩
  refine wp_region_held_drew (S := (fun W => W.cell? ⟨w.heap.size, 0, none⟩ = some (.int .i64 k) ∧ W.cell? ⟨w.heap.size, 4, none⟩ = some (.int .u32 t))) (by kernel_rfl) ?_ (fun hHeld => ?_)
  · (exact HSo.out _ (grown_drew _ none))
  refine tkH (i := 0) (v := ?_) rfl ?_ ?_
  rotate_left
  · (intro w hSw; (try dsimp only at hSw); (go_simp <;> with_reducible rfl))
  try simp only [Act.put, List.setIfInBounds_toArray]
  refine tkH (i := 1) (v := ?_) rfl ?_ ?_
  rotate_left
  · (intro w hSw; (try dsimp only at hSw); (go_simp <;> with_reducible rfl))
  try simp only [Act.put]
  refine tkH (i := 4) (v := ?_) rfl ?_ ?_
  rotate_left
  · (intro w hSw; (try dsimp only at hSw); (go_simp <;> with_reducible rfl))
  try simp only [Act.put]
  refine tkH (i := 5) (v := ?_) rfl ?_ ?_
  rotate_left
  · (intro w hSw; (try dsimp only at hSw); (go_simp <;> with_reducible rfl))
  try simp only [Act.put]
  refine wpAnyH_ready (rs := [2, 7]) (by kernel_rfl) (by simp) ?_
  refine AllReadyH.cons rfl (fun K hK => ?_) ?_
  · skip
    go_simp
    refine (HP10.out _).mono ?_
    rintro e wx ⟨rfl, hwx⟩
    obtain rfl := hwx.symm
    go_wp2_with fail
    refine hK.out _ _ ?_ (fun hHeld => ?_)
    · ((try dsimp only); first | with_reducible assumption | exact HSo.out _ (gn_alloc (grown_drew _ none) _))
    clear hK K
    try simp only [Act.put, List.setIfInBounds_toArray, List.set_cons_zero, List.set_cons_succ]
    refine tkH (i := 3) (v := ?_) rfl ?_ ?_
    rotate_left
    · (intro w hSw; (try dsimp only at hSw); (go_simp <;> with_reducible rfl))
    try simp only [Act.put, List.setIfInBounds_toArray]
    refine tkH (i := 6) (v := ?_) rfl ?_ ?_
    rotate_left
    · (intro w hSw; (try dsimp only at hSw); (go_simp <;> with_reducible rfl))
    try simp only [Act.put]
    refine rdH (i := 7) rfl (fun K hK => ?_)
    go_simp
    refine hK.out _ _ ?_ (fun hHeld => ?_)
    · ((try dsimp only); first | with_reducible assumption | exact HSo.out _ (gn_alloc (grown_drew _ none) _))
    clear hK K
    try simp only [Act.put, List.setIfInBounds_toArray, List.set_cons_zero, List.set_cons_succ]
    refine rdH (i := 8) rfl (fun K hK => ?_)
    go_simp
    refine hK.out _ _ ?_ (fun hHeld => ?_)
    · ((try dsimp only); first | with_reducible assumption | exact HSo.out _ (gn_alloc (grown_drew _ none) _))
    clear hK K
    try simp only [Act.put, List.setIfInBounds_toArray, List.set_cons_zero, List.set_cons_succ]
    refine wpAnyH_done (by kernel_rfl) ?_ _
    have b0 := hide (drew_at (box_to HA0.out (grown_alloc w1 (.cells [Value.int .i64 kk, .int .u32 t, .int .u32 0, .int .i64 0, .int .i64 0].toArray 25))))
    have b1 := hide (drew_at (box_to HA1.out (grown_alloc w1 (.cells [Value.int .i64 kk, .int .u32 t, .int .u32 0, .int .i64 0, .int .i64 0].toArray 25))))
    have b2 := hide (drew_at (heap_alloc_new w1 (.cells [Value.int .i64 kk, .int .u32 t, .int .u32 0, .int .i64 0, .int .i64 0].toArray 25)))
    have HG := hide (grown_trans (gn_alloc HG0.out (.cells [Value.int .i64 kk, .int .u32 t, .int .u32 0, .int .i64 0, .int .i64 0].toArray 25)) (grown_drew _ none))
    have HSz := hide (row_lt HA1.out)
    clear HSo HA0 HA1 HG0 a0 a1 a2 a3 a4 hHeld
    generalize hX : w1.heap.size = X at *
    clear hX
    generalize World.drew (World.alloc w1 (.cells [Value.int .i64 kk, .int .u32 t, .int .u32 0, .int .i64 0, .int .i64 0].toArray 25)) = v0 at *
    obtain ⟨a0, a1, a2, a3, a4⟩ := bx5 b0.out
    obtain ⟨⟨y0, y1, y2, y3, y4⟩, y5⟩ := bxf5 b2.out
    go_wp2_with fail
    refine (HH.out _).mono ?_
    rintro e wx ⟨rfl, hwx⟩
    obtain rfl := hwx.symm
    clear hwx
    go_wp2_with fail
    refine (HP9.out _).mono ?_
    rintro e wx ⟨rfl, hwx⟩
    obtain rfl := hwx.symm
    clear hwx
    have n0 := hide (((grown_setCell v0 X 4 (.int .i64 mu)).block _ (row_lt b0.out) (fun e => by have h1 := Option.some.inj e; have h2 := HSz.out; omega)).trans b0.out)
    have n1 := hide (((grown_setCell v0 X 4 (.int .i64 mu)).block _ (row_lt b1.out) (fun e => by have h1 := Option.some.inj e; have h2 := HSz.out; omega)).trans b1.out)
    have n2 := hide (row_setCell b2.out 4 (.int .i64 mu))
    have nG := hide (gn_own HG.out (grown_setCell v0 X 4 (.int .i64 mu)) (by have h2 := HSz.out; omega))
    go_upto_region 9 with fail
    generalize World.setCell _ _ _ = v1 at *
    clear b0 b1 b2 HG a0 a1 a2 a3 a4 y0 y1 y2 y3 y4 y5
    have b0 := n0
    have b1 := n1
    have b2 := n2
    have HG := nG
    clear n0 n1 n2 nG
    obtain ⟨a0, a1, a2, a3, a4⟩ := bx5 b0.out
    obtain ⟨⟨y0, y1, y2, y3, y4⟩, y5⟩ := bxf5 b2.out
    clear a0 a1 a2 a3 a4
    obtain ⟨⟨x0, x1, x2, x3, x4⟩, x5⟩ := bxf5 b1.out
    go_wp2
    obtain ⟨r1, r2⟩ := set5w v1 rfl b1.out (.int .i64 kk) (.int .u32 t) (.int .u32 0) (.int .i64 0) (.int .i64 mu)
    exact bodyPost_ret (results_cell_row rfl _ _ (w.heap.size + 1) 25 _ (0, 0) _ rfl r1 Tryz.underlying25 rfl (by kernel_rfl)) rfl ⟨rfl, gn_own HG.out r2 (by omega)⟩
  refine AllReadyH.cons rfl (fun K hK => ?_) ?_
  · skip
    go_simp
    refine hK.out _ _ ?_ (fun hHeld => ?_)
    · ((try dsimp only); first | with_reducible assumption | exact HSo.out _ (gn_alloc (grown_drew _ none) _))
    clear hK K
    try simp only [Act.put, List.setIfInBounds_toArray, List.set_cons_zero, List.set_cons_succ]
    refine rdH (i := 2) rfl (fun K hK => ?_)
    go_simp
    refine (HP10.out _).mono ?_
    rintro e wx ⟨rfl, hwx⟩
    obtain rfl := hwx.symm
    go_wp2_with fail
    refine hK.out _ _ ?_ (fun hHeld => ?_)
    · ((try dsimp only); first | with_reducible assumption | exact HSo.out _ (gn_alloc (grown_drew _ none) _))
    clear hK K
    try simp only [Act.put, List.setIfInBounds_toArray, List.set_cons_zero, List.set_cons_succ]
    refine tkH (i := 3) (v := ?_) rfl ?_ ?_
    rotate_left
    · (intro w hSw; (try dsimp only at hSw); (go_simp <;> with_reducible rfl))
    try simp only [Act.put, List.setIfInBounds_toArray]
    refine tkH (i := 6) (v := ?_) rfl ?_ ?_
    rotate_left
    · (intro w hSw; (try dsimp only at hSw); (go_simp <;> with_reducible rfl))
    try simp only [Act.put]
    refine rdH (i := 8) rfl (fun K hK => ?_)
    go_simp
    refine hK.out _ _ ?_ (fun hHeld => ?_)
    · ((try dsimp only); first | with_reducible assumption | exact HSo.out _ (gn_alloc (grown_drew _ none) _))
    clear hK K
    try simp only [Act.put, List.setIfInBounds_toArray, List.set_cons_zero, List.set_cons_succ]
    refine wpAnyH_done (by kernel_rfl) ?_ _
    have b0 := hide (drew_at (box_to HA0.out (grown_alloc w1 (.cells [Value.int .i64 kk, .int .u32 t, .int .u32 0, .int .i64 0, .int .i64 0].toArray 25))))
    have b1 := hide (drew_at (box_to HA1.out (grown_alloc w1 (.cells [Value.int .i64 kk, .int .u32 t, .int .u32 0, .int .i64 0, .int .i64 0].toArray 25))))
    have b2 := hide (drew_at (heap_alloc_new w1 (.cells [Value.int .i64 kk, .int .u32 t, .int .u32 0, .int .i64 0, .int .i64 0].toArray 25)))
    have HG := hide (grown_trans (gn_alloc HG0.out (.cells [Value.int .i64 kk, .int .u32 t, .int .u32 0, .int .i64 0, .int .i64 0].toArray 25)) (grown_drew _ none))
    have HSz := hide (row_lt HA1.out)
    clear HSo HA0 HA1 HG0 a0 a1 a2 a3 a4 hHeld
    generalize hX : w1.heap.size = X at *
    clear hX
    generalize World.drew (World.alloc w1 (.cells [Value.int .i64 kk, .int .u32 t, .int .u32 0, .int .i64 0, .int .i64 0].toArray 25)) = v0 at *
    obtain ⟨a0, a1, a2, a3, a4⟩ := bx5 b0.out
    obtain ⟨⟨y0, y1, y2, y3, y4⟩, y5⟩ := bxf5 b2.out
    go_wp2_with fail
    refine (HH.out _).mono ?_
    rintro e wx ⟨rfl, hwx⟩
    obtain rfl := hwx.symm
    clear hwx
    go_wp2_with fail
    refine (HP9.out _).mono ?_
    rintro e wx ⟨rfl, hwx⟩
    obtain rfl := hwx.symm
    clear hwx
    have n0 := hide (((grown_setCell v0 X 4 (.int .i64 mu)).block _ (row_lt b0.out) (fun e => by have h1 := Option.some.inj e; have h2 := HSz.out; omega)).trans b0.out)
    have n1 := hide (((grown_setCell v0 X 4 (.int .i64 mu)).block _ (row_lt b1.out) (fun e => by have h1 := Option.some.inj e; have h2 := HSz.out; omega)).trans b1.out)
    have n2 := hide (row_setCell b2.out 4 (.int .i64 mu))
    have nG := hide (gn_own HG.out (grown_setCell v0 X 4 (.int .i64 mu)) (by have h2 := HSz.out; omega))
    go_upto_region 9 with fail
    generalize World.setCell _ _ _ = v1 at *
    clear b0 b1 b2 HG a0 a1 a2 a3 a4 y0 y1 y2 y3 y4 y5
    have b0 := n0
    have b1 := n1
    have b2 := n2
    have HG := nG
    clear n0 n1 n2 nG
    obtain ⟨a0, a1, a2, a3, a4⟩ := bx5 b0.out
    obtain ⟨⟨y0, y1, y2, y3, y4⟩, y5⟩ := bxf5 b2.out
    clear a0 a1 a2 a3 a4
    obtain ⟨⟨x0, x1, x2, x3, x4⟩, x5⟩ := bxf5 b1.out
    go_wp2
    obtain ⟨r1, r2⟩ := set5w v1 rfl b1.out (.int .i64 kk) (.int .u32 t) (.int .u32 0) (.int .i64 0) (.int .i64 mu)
    exact bodyPost_ret (results_cell_row rfl _ _ (w.heap.size + 1) 25 _ (0, 0) _ rfl r1 Tryz.underlying25 rfl (by kernel_rfl)) rfl ⟨rfl, gn_own HG.out r2 (by omega)⟩
  exact AllReadyH.nil
set_option maxHeartbeats 8000000 in
theorem request_000 (k i s u t kk : Int) (hk : 1 + k % 10 = kk) (h1 : Rs.hI kk = false) (h2 : Rs.hS kk = false) (h3 : Rs.hL kk = false) (w : World) : Calls Tryz.prog 18 #[akV ⟨k, i, s, u, t⟩] w fun e w' => e = .returned (.agg #[.int .i64 kk, .int .u32 t, .int .u32 (0), .int .i64 (0), .int .i64 (0)]) ∧ w.grownBy w' none := by
  have HP : Hid (∀ x (n : Nat) W, 1 ≤ n → n ≤ 4294967296 → Calls Tryz.prog 57 #[.int .i64 x, .int .i64 (n : Int)] W fun e w' => e = .returned (.int .i64 (x % (n : Int))) ∧ w' = W) := fun x n W h1 h2 => pick_any x n W h1 h2
  have HP10 : Hid (∀ W, Calls Tryz.prog 57 #[.int .i64 k, .int .i64 10] W fun e w' => e = .returned (.int .i64 (k % 10)) ∧ w' = W) := fun W => HP.out k 10 W (by decide) (by decide)
  have hkk : IntKind.i64.wrap (1 + k % 10) = kk := by rw [← hk, IntKind.wrap_i64]; omega
  have HH : Hid (∀ W, Calls Tryz.prog 58 #[.int .i64 kk] W fun e w' => e = .returned (.tuple #[.bool false, .bool false, .bool false]) ∧ w' = W) := fun W => by have := Rs.rhas_any kk W; rw [h1, h2, h3] at this; exact this
  have HA0 := hide (new2a w (.cells [Value.int .i64 k, .int .i64 i, .int .i64 s, .int .i64 u, .int .u32 t].toArray 65) (.cells [Value.int .i64 0, .int .u32 0, .int .u32 0, .int .i64 0, .int .i64 0].toArray 25))
  have HA1 := hide (new2 w (.cells [Value.int .i64 k, .int .i64 i, .int .i64 s, .int .i64 u, .int .u32 t].toArray 65) (.cells [Value.int .i64 0, .int .u32 0, .int .u32 0, .int .i64 0, .int .i64 0].toArray 25))
  have HG0 := hide (grown_alloc2 w (.cells [Value.int .i64 k, .int .i64 i, .int .i64 s, .int .i64 u, .int .u32 t].toArray 65) (.cells [Value.int .i64 0, .int .u32 0, .int .u32 0, .int .i64 0, .int .i64 0].toArray 25))
  obtain ⟨a0, a1, a2, a3, a4⟩ := bx5 HA0.out
  clear hk h1 h2 h3 HP
  unfold akV
  simp only
  generalize k % 10 = k1 at *
  go_enter Tryz.func18, Tryz.ntmps18
  go_wp2
  generalize World.alloc (World.alloc w _) _ = w1 at *
  have HSo : Hid (∀ W, w1.grownBy W none → W.cell? ⟨w.heap.size, 0, none⟩ = some (.int .i64 k) ∧ W.cell? ⟨w.heap.size, 4, none⟩ = some (.int .u32 t)) := fun W gW => by obtain ⟨b0, b1, b2, b3, b4⟩ := bx5 (box_to HA0.out gW); exact ⟨b0, b4⟩
  refine wp_region_held_drew (S := (fun W => W.cell? ⟨w.heap.size, 0, none⟩ = some (.int .i64 k) ∧ W.cell? ⟨w.heap.size, 4, none⟩ = some (.int .u32 t))) (by kernel_rfl) ?_ (fun hHeld => ?_)
  · (exact HSo.out _ (grown_drew _ none))
  refine tkH (i := 0) (v := ?_) rfl ?_ ?_
  rotate_left
  · (intro w hSw; (try dsimp only at hSw); (go_simp <;> with_reducible rfl))
  try simp only [Act.put, List.setIfInBounds_toArray]
  refine tkH (i := 1) (v := ?_) rfl ?_ ?_
  rotate_left
  · (intro w hSw; (try dsimp only at hSw); (go_simp <;> with_reducible rfl))
  try simp only [Act.put]
  refine tkH (i := 4) (v := ?_) rfl ?_ ?_
  rotate_left
  · (intro w hSw; (try dsimp only at hSw); (go_simp <;> with_reducible rfl))
  try simp only [Act.put]
  refine tkH (i := 5) (v := ?_) rfl ?_ ?_
  rotate_left
  · (intro w hSw; (try dsimp only at hSw); (go_simp <;> with_reducible rfl))
  try simp only [Act.put]
  refine wpAnyH_ready (rs := [2, 7]) (by kernel_rfl) (by simp) ?_
  refine AllReadyH.cons rfl (fun K hK => ?_) ?_
  · skip
    go_simp
    refine (HP10.out _).mono ?_
    rintro e wx ⟨rfl, hwx⟩
    obtain rfl := hwx.symm
    go_wp2_with fail
    refine hK.out _ _ ?_ (fun hHeld => ?_)
    · ((try dsimp only); first | with_reducible assumption | exact HSo.out _ (gn_alloc (grown_drew _ none) _))
    clear hK K
    try simp only [Act.put, List.setIfInBounds_toArray, List.set_cons_zero, List.set_cons_succ]
    refine tkH (i := 3) (v := ?_) rfl ?_ ?_
    rotate_left
    · (intro w hSw; (try dsimp only at hSw); (go_simp <;> with_reducible rfl))
    try simp only [Act.put, List.setIfInBounds_toArray]
    refine tkH (i := 6) (v := ?_) rfl ?_ ?_
    rotate_left
    · (intro w hSw; (try dsimp only at hSw); (go_simp <;> with_reducible rfl))
    try simp only [Act.put]
    refine rdH (i := 7) rfl (fun K hK => ?_)
    go_simp
    refine hK.out _ _ ?_ (fun hHeld => ?_)
    · ((try dsimp only); first | with_reducible assumption | exact HSo.out _ (gn_alloc (grown_drew _ none) _))
    clear hK K
    try simp only [Act.put, List.setIfInBounds_toArray, List.set_cons_zero, List.set_cons_succ]
    refine rdH (i := 8) rfl (fun K hK => ?_)
    go_simp
    refine hK.out _ _ ?_ (fun hHeld => ?_)
    · ((try dsimp only); first | with_reducible assumption | exact HSo.out _ (gn_alloc (grown_drew _ none) _))
    clear hK K
    try simp only [Act.put, List.setIfInBounds_toArray, List.set_cons_zero, List.set_cons_succ]
    refine wpAnyH_done (by kernel_rfl) ?_ _
    have b0 := hide (drew_at (box_to HA0.out (grown_alloc w1 (.cells [Value.int .i64 kk, .int .u32 t, .int .u32 0, .int .i64 0, .int .i64 0].toArray 25))))
    have b1 := hide (drew_at (box_to HA1.out (grown_alloc w1 (.cells [Value.int .i64 kk, .int .u32 t, .int .u32 0, .int .i64 0, .int .i64 0].toArray 25))))
    have b2 := hide (drew_at (heap_alloc_new w1 (.cells [Value.int .i64 kk, .int .u32 t, .int .u32 0, .int .i64 0, .int .i64 0].toArray 25)))
    have HG := hide (grown_trans (gn_alloc HG0.out (.cells [Value.int .i64 kk, .int .u32 t, .int .u32 0, .int .i64 0, .int .i64 0].toArray 25)) (grown_drew _ none))
    have HSz := hide (row_lt HA1.out)
    clear HSo HA0 HA1 HG0 a0 a1 a2 a3 a4 hHeld
    generalize hX : w1.heap.size = X at *
    clear hX
    generalize World.drew (World.alloc w1 (.cells [Value.int .i64 kk, .int .u32 t, .int .u32 0, .int .i64 0, .int .i64 0].toArray 25)) = v0 at *
    obtain ⟨a0, a1, a2, a3, a4⟩ := bx5 b0.out
    obtain ⟨⟨y0, y1, y2, y3, y4⟩, y5⟩ := bxf5 b2.out
    go_wp2_with fail
    refine (HH.out _).mono ?_
    rintro e wx ⟨rfl, hwx⟩
    obtain rfl := hwx.symm
    clear hwx
    clear a0 a1 a2 a3 a4
    obtain ⟨⟨x0, x1, x2, x3, x4⟩, x5⟩ := bxf5 b1.out
    go_wp2
    obtain ⟨r1, r2⟩ := set5w v0 rfl b1.out (.int .i64 kk) (.int .u32 t) (.int .u32 0) (.int .i64 0) (.int .i64 0)
    exact bodyPost_ret (results_cell_row rfl _ _ (w.heap.size + 1) 25 _ (0, 0) _ rfl r1 Tryz.underlying25 rfl (by kernel_rfl)) rfl ⟨rfl, gn_own HG.out r2 (by omega)⟩
  refine AllReadyH.cons rfl (fun K hK => ?_) ?_
  · skip
    go_simp
    refine hK.out _ _ ?_ (fun hHeld => ?_)
    · ((try dsimp only); first | with_reducible assumption | exact HSo.out _ (gn_alloc (grown_drew _ none) _))
    clear hK K
    try simp only [Act.put, List.setIfInBounds_toArray, List.set_cons_zero, List.set_cons_succ]
    refine rdH (i := 2) rfl (fun K hK => ?_)
    go_simp
    refine (HP10.out _).mono ?_
    rintro e wx ⟨rfl, hwx⟩
    obtain rfl := hwx.symm
    go_wp2_with fail
    refine hK.out _ _ ?_ (fun hHeld => ?_)
    · ((try dsimp only); first | with_reducible assumption | exact HSo.out _ (gn_alloc (grown_drew _ none) _))
    clear hK K
    try simp only [Act.put, List.setIfInBounds_toArray, List.set_cons_zero, List.set_cons_succ]
    refine tkH (i := 3) (v := ?_) rfl ?_ ?_
    rotate_left
    · (intro w hSw; (try dsimp only at hSw); (go_simp <;> with_reducible rfl))
    try simp only [Act.put, List.setIfInBounds_toArray]
    refine tkH (i := 6) (v := ?_) rfl ?_ ?_
    rotate_left
    · (intro w hSw; (try dsimp only at hSw); (go_simp <;> with_reducible rfl))
    try simp only [Act.put]
    refine rdH (i := 8) rfl (fun K hK => ?_)
    go_simp
    refine hK.out _ _ ?_ (fun hHeld => ?_)
    · ((try dsimp only); first | with_reducible assumption | exact HSo.out _ (gn_alloc (grown_drew _ none) _))
    clear hK K
    try simp only [Act.put, List.setIfInBounds_toArray, List.set_cons_zero, List.set_cons_succ]
    refine wpAnyH_done (by kernel_rfl) ?_ _
    have b0 := hide (drew_at (box_to HA0.out (grown_alloc w1 (.cells [Value.int .i64 kk, .int .u32 t, .int .u32 0, .int .i64 0, .int .i64 0].toArray 25))))
    have b1 := hide (drew_at (box_to HA1.out (grown_alloc w1 (.cells [Value.int .i64 kk, .int .u32 t, .int .u32 0, .int .i64 0, .int .i64 0].toArray 25))))
    have b2 := hide (drew_at (heap_alloc_new w1 (.cells [Value.int .i64 kk, .int .u32 t, .int .u32 0, .int .i64 0, .int .i64 0].toArray 25)))
    have HG := hide (grown_trans (gn_alloc HG0.out (.cells [Value.int .i64 kk, .int .u32 t, .int .u32 0, .int .i64 0, .int .i64 0].toArray 25)) (grown_drew _ none))
    have HSz := hide (row_lt HA1.out)
    clear HSo HA0 HA1 HG0 a0 a1 a2 a3 a4 hHeld
    generalize hX : w1.heap.size = X at *
    clear hX
    generalize World.drew (World.alloc w1 (.cells [Value.int .i64 kk, .int .u32 t, .int .u32 0, .int .i64 0, .int .i64 0].toArray 25)) = v0 at *
    obtain ⟨a0, a1, a2, a3, a4⟩ := bx5 b0.out
    obtain ⟨⟨y0, y1, y2, y3, y4⟩, y5⟩ := bxf5 b2.out
    go_wp2_with fail
    refine (HH.out _).mono ?_
    rintro e wx ⟨rfl, hwx⟩
    obtain rfl := hwx.symm
    clear hwx
    clear a0 a1 a2 a3 a4
    obtain ⟨⟨x0, x1, x2, x3, x4⟩, x5⟩ := bxf5 b1.out
    go_wp2
    obtain ⟨r1, r2⟩ := set5w v0 rfl b1.out (.int .i64 kk) (.int .u32 t) (.int .u32 0) (.int .i64 0) (.int .i64 0)
    exact bodyPost_ret (results_cell_row rfl _ _ (w.heap.size + 1) 25 _ (0, 0) _ rfl r1 Tryz.underlying25 rfl (by kernel_rfl)) rfl ⟨rfl, gn_own HG.out r2 (by omega)⟩
  exact AllReadyH.nil
end Go.Proofs.YtjfhilignbeboaaGreatDoor
namespace Go.Proofs.YtjfhilignbeboaaGreatDoor
/- Requests out of plain numbers. -/
open Go.RowKit
theorem request_any (a : Ak) (w : World) : Calls Tryz.prog 18 #[akV a] w fun e w' => e = .returned (Rs.rqV (akQ a)) ∧ w.grownBy w' none := by
  obtain ⟨k, i, s, u, t⟩ := a
  obtain ⟨kk, hk⟩ : ∃ kk, 1 + k % 10 = kk := ⟨_, rfl⟩
  have e : Rs.rqV (akQ ⟨k, i, s, u, t⟩) = .agg #[.int .i64 kk, .int .u32 t, .int .u32 (if Rs.hI kk then i % 12 else 0), .int .i64 (if Rs.hS kk then s % 14 else 0), .int .i64 (if Rs.hL kk then u % 9 else 0)] := by unfold Rs.rqV akQ; simp only [hk]
  rw [e]
  have hc : (Rs.hI kk = false ∧ Rs.hS kk = true ∧ Rs.hL kk = true) ∨ (Rs.hI kk = true ∧ Rs.hS kk = false ∧ Rs.hL kk = false) ∨ (Rs.hI kk = true ∧ Rs.hS kk = true ∧ Rs.hL kk = false) ∨ (Rs.hI kk = false ∧ Rs.hS kk = true ∧ Rs.hL kk = false) ∨ (Rs.hI kk = false ∧ Rs.hS kk = false ∧ Rs.hL kk = true) ∨ (Rs.hI kk = false ∧ Rs.hS kk = false ∧ Rs.hL kk = false) := by
    unfold Rs.hI Rs.hS Rs.hL
    simp only [decide_eq_true_eq, decide_eq_false_iff_not]
    omega
  rcases hc with ⟨h1, h2, h3⟩ | ⟨h1, h2, h3⟩ | ⟨h1, h2, h3⟩ | ⟨h1, h2, h3⟩ | ⟨h1, h2, h3⟩ | ⟨h1, h2, h3⟩
  all_goals simp only [h1, h2, h3, if_true, Bool.false_eq_true, if_false]
  · exact request_011 k i s u t kk hk h1 h2 h3 w
  · exact request_100 k i s u t kk hk h1 h2 h3 w
  · exact request_110 k i s u t kk hk h1 h2 h3 w
  · exact request_010 k i s u t kk hk h1 h2 h3 w
  · exact request_001 k i s u t kk hk h1 h2 h3 w
  · exact request_000 k i s u t kk hk h1 h2 h3 w
end Go.Proofs.YtjfhilignbeboaaGreatDoor
namespace Go.Proofs.YtjfhilignbeboaaGreatDoor
/- Arguments that are an ask, a flight. -/
open Go.ChangeShapes Go.WideShapes Go.ChangeAt Go.RowKit Go.Deep
section
variable {H : Type} {enc : TypeId × Value → H}
theorem cellsOf65 : Tryz.prog.cellsOf 65 = 5 := by kernel_rfl
theorem cellsOf55 : Tryz.prog.cellsOf 55 = 4 := by kernel_rfl
theorem cellsOf53 : Tryz.prog.cellsOf 53 = 1 := by kernel_rfl
set_option maxRecDepth 20000 in
theorem open_askArg {w : World} {base : Nat} {spare : Nat → Bool} {held : Bool} {r : Reach} {b0 : Nat} {v : Value} {d : DataW H} {ps : List MemPlace} (hval : Value.okWide Tryz.prog w r b0 65 v) (hd : DataW.Trod enc Tryz.prog w base spare held 65 v d ps) :
    ∃ a : Ak, v = akV a ∧ 0 ≤ a.t ∧ a.t < 4294967296 := by
  obtain ⟨cs, rfl, _⟩ := okWide_struct Tryz.underlying65 hval
  obtain ⟨fuel, h⟩ := hd
  have h : DataW.trod enc Tryz.prog w base spare held fuel 65 cs.toList = some (d, ps) := h
  obtain ⟨xs, n, _, hx, hl, hsz, hf⟩ := DataW.trod_struct Tryz.underlying65 h
  rw [cellsOf65] at hl
  obtain ⟨v0, v1, v2, v3, v4, hc⟩ := listOf5 hl
  obtain ⟨y0, y1, y2, y3, y4, rfl⟩ := listOf5 (show xs.length = 5 from hsz)
  rw [hc] at hf
  have f0 : DataW.trod enc Tryz.prog w base spare held n 3 [v0] = some y0 := by simpa [cellsOf3] using hf 0 _ rfl
  have f1 : DataW.trod enc Tryz.prog w base spare held n 3 [v1] = some y1 := by simpa [cellsOf3] using hf 1 _ rfl
  have f2 : DataW.trod enc Tryz.prog w base spare held n 3 [v2] = some y2 := by simpa [cellsOf3] using hf 2 _ rfl
  have f3 : DataW.trod enc Tryz.prog w base spare held n 3 [v3] = some y3 := by simpa [cellsOf3] using hf 3 _ rfl
  have f4 : DataW.trod enc Tryz.prog w base spare held n 23 [v4] = some y4 := by simpa [cellsOf24] using hf 4 _ rfl
  obtain ⟨a, e0, rfl, _⟩ := DataW.trod_int Tryz.underlying3 f0
  obtain ⟨b, e1, rfl, _⟩ := DataW.trod_int Tryz.underlying3 f1
  obtain ⟨c, e2, rfl, _⟩ := DataW.trod_int Tryz.underlying3 f2
  obtain ⟨e, e3, rfl, _⟩ := DataW.trod_int Tryz.underlying3 f3
  obtain ⟨f, e4, rfl, wf⟩ := DataW.trod_int Tryz.underlying23 f4
  simp only [List.cons.injEq, and_true] at e0 e1 e2 e3 e4
  have bf := bounds_u32 wf
  refine ⟨⟨a, b, c, e, f⟩, ?_, by simp only; omega, by simp only; omega⟩
  rw [e0, e1, e2, e3, e4] at hc
  unfold akV
  congr 1
  cases cs
  simpa using hc
set_option maxRecDepth 20000 in
theorem open_flightArg {w : World} {r : Reach} {b0 : Nat} {v : Value} {d : DataW H} {ps : List MemPlace} (hval : Value.okWide Tryz.prog w r b0 55 v) (hd : DataW.Trod enc Tryz.prog w 0 (fun _ => true) true 55 v d ps) :
    ∃ (x : Int) (ao : Option Addr) (cap : Nat) (l : List Cg) (nx ck : Int), v = .agg #[.int .i64 x, .slice ao l.length cap, .int .u32 nx, .int .i64 ck] ∧ CgsAt w ao l ∧ l.length ≤ cap ∧ (-9223372036854775808 ≤ x ∧ x ≤ 9223372036854775807) ∧ (0 ≤ nx ∧ nx < 4294967296) ∧ (-9223372036854775808 ≤ ck ∧ ck ≤ 9223372036854775807) := by
  obtain ⟨cs, rfl, _⟩ := okWide_struct Tryz.underlying55 hval
  obtain ⟨fuel, h⟩ := hd
  have h : DataW.trod enc Tryz.prog w 0 (fun _ => true) true fuel 55 cs.toList = some (d, ps) := h
  obtain ⟨xs, n, _, hx, hl, hsz, hf⟩ := DataW.trod_struct Tryz.underlying55 h
  rw [cellsOf55] at hl
  obtain ⟨v0, v1, v2, v3, hc⟩ := listOf4 hl
  obtain ⟨y0, y1, y2, y3, rfl⟩ := listOf4 (show xs.length = 4 from hsz)
  rw [hc] at hf
  have f0 : DataW.trod enc Tryz.prog w 0 (fun _ => true) true n 3 [v0] = some y0 := by simpa [cellsOf3] using hf 0 _ rfl
  have f1 : DataW.trod enc Tryz.prog w 0 (fun _ => true) true n 53 [v1] = some y1 := by simpa [cellsOf53] using hf 1 _ rfl
  have f2 : DataW.trod enc Tryz.prog w 0 (fun _ => true) true n 23 [v2] = some y2 := by simpa [cellsOf24] using hf 2 _ rfl
  have f3 : DataW.trod enc Tryz.prog w 0 (fun _ => true) true n 2 [v3] = some y3 := by simpa [cellsOf2] using hf 3 _ rfl
  obtain ⟨a, e0, rfl, wa⟩ := DataW.trod_int Tryz.underlying3 f0
  obtain ⟨b, e2, rfl, wb⟩ := DataW.trod_int Tryz.underlying23 f2
  obtain ⟨c, e3, rfl, wc⟩ := DataW.trod_int Tryz.underlying2 f3
  simp only [List.cons.injEq, and_true] at e0 e2 e3
  have ba := bounds_i64 wa
  have bb := bounds_u32 wb
  have bc := bounds_i64 wc
  have key : ∃ (ao : Option Addr) (cap : Nat) (l : List Cg), v1 = .slice ao l.length cap ∧ CgsAt w ao l ∧ l.length ≤ cap := by
    rcases open_slice Tryz.underlying53 f1 with ⟨hcs, _⟩ | ⟨a', len, cap, m, n', D, Pl, hcs, _, hl', hm, hmm, hx', hel⟩
    · simp only [List.cons.injEq, and_true] at hcs
      exact ⟨none, 0, [], hcs, (fun j o h => by simp at h), Nat.le_refl _⟩
    · simp only [List.cons.injEq, and_true] at hcs
      have hlm : len ≤ m := by rw [hmm]; split <;> omega
      rw [cellsOf73] at hel
      obtain ⟨os, h1, h2⟩ := open_cgsB (len := len) (fun i hi => hel i (by omega))
      exact ⟨_, cap, os, by rw [h1]; exact hcs, h2, by rw [h1]; exact hl'⟩
  obtain ⟨ao, cap, l, e1, hC, hle⟩ := key
  refine ⟨a, ao, cap, l, b, c, ?_, hC, hle, by omega, by omega, by omega⟩
  rw [e0, e1, e2, e3] at hc
  congr 1
  cases cs
  simpa using hc
end
end Go.Proofs.YtjfhilignbeboaaGreatDoor
namespace Go.Proofs.YtjfhilignbeboaaGreatDoor
/- The document's answer: has, on. -/
open Go.RowKit
attribute [local go_sem ↓] Go.wp_at_zero Go.wp_at_succ
attribute [local go_sem] Oper.semAt_some
set_option maxHeartbeats 4000000 in
theorem has_any {w : World} {lo d : Nat} {v : Value} {S : Sb} (h : Db w lo d v S) (ho : S.Ok) (i : Nat) : Calls Tryz.prog 55 #[.pointer (some ⟨d, 0, none⟩), .int .u32 (i : Int)] w fun e w' => e = .returned (.tuple #[bgV ((fnd S.L i).getD ⟨0, 0, 0⟩), .bool (fnd S.L i).isSome]) ∧ w.grownBy w' none := by
  have hL : S.L.length ≤ 65536 := by have := ho.few; have := ho.b1; omega
  have hN : Hid ((∀ m, m < S.L.length → ¬ ((rd S.L m).i : Int) = (i : Int)) → fnd S.L i = none) := fun hh => fnd_none.2 (fun x hx e => (all_not (q := fun x => (x.i : Int) = (i : Int)) hh) x hx (by rw [e]))
  have hS : Hid (∀ m, m < S.L.length → ((rd S.L m).i : Int) = (i : Int) → fnd S.L i = some (rd S.L m)) := fun m hm e => (fnd_some ho.asc).2 ⟨List.mem_of_getElem? (rd_get hm), by omega⟩
  have g0 := grown_alloc w (.cells [Value.int .u32 0, .int .i64 0, .int .i64 0].toArray 51)
  have h0 := h.then g0
  obtain ⟨ao, cap, rfl, hb⟩ := h0.bga.ex
  have c4 := h0.cell (j := 4) rfl
  have HB := hide hb
  have HL := hide hL
  have HG := hide g0
  have HX := hide (heap_alloc_new w (.cells [Value.int .u32 0, .int .i64 0, .int .i64 0].toArray 51))
  generalize hw1 : w.alloc (.cells [Value.int .u32 0, .int .i64 0, .int .i64 0].toArray 51) = w1 at HB c4 HG HX
  obtain ⟨res, hres⟩ : ∃ res, res = fnd S.L i := ⟨_, rfl⟩
  rw [← hres] at hN hS ⊢
  clear h h0 hb hL ho hres g0
  have HW1 := hide hw1
  go_enter Tryz.func55, Tryz.ntmps55
  go_wp2
  clear hw1 HW1
  go_loopg [6] S.L.length (fun k q wr => ∃ j : Nat, k + j = S.L.length ∧ q = .int .i64 (j : Int) ∧ wr = w1 ∧ Hid (∀ m, m < j → ¬ ((rd S.L m).i : Int) = (i : Int)))
  case atStart => exact ⟨0, by omega, rfl, rfl, fun m hm => by omega⟩
  case round =>
    obtain ⟨j, hkj, rfl, rfl, HN⟩ := hrel
    by_cases hk : 0 < gk
    · have hj : j < S.L.length := by omega
      have h1 : (j : Int) < (S.L.length : Int) := by omega
      have h0 : (0 : Int) ≤ (j : Int) := by omega
      obtain ⟨g, rfl, e0, e1, e2⟩ := HB.out j hj
      by_cases hx : ((rd S.L j).i : Int) = (i : Int)
      · have HP := hide (hS.out j hj hx)
        have f1 : (((rd S.L j).i : Int) == (i : Int)) = true := by simpa using hx
        have f2 : decide (((rd S.L j).i : Int) = (i : Int)) = true := by simpa using hx
        clear hx hS hN
        obtain ⟨z0, z1, z2, z3⟩ := box3 HX.out
        generalize rd S.L j = x at *
        obtain ⟨xi, xs, xu⟩ := x
        simp only at *
        go_wp2
        obtain ⟨r1, r2⟩ := row3 _ HX.out (.int .u32 (xi : Int)) (.int .i64 (xs : Int)) (.int .i64 xu)
        exact bodyPost_ret (results_bg rfl _ _ w.heap.size ⟨xi, xs, xu⟩ (.bool true) rfl r1 rfl) rfl ⟨by rw [HP.out]; rfl, gn_own HG.out r2 (Nat.le_refl _)⟩
      · have f1 : (((rd S.L j).i : Int) == (i : Int)) = false := by simpa using hx
        have f2 : decide (((rd S.L j).i : Int) = (i : Int)) = false := by simpa using hx
        have HN2 : Hid (∀ m, m < j + 1 → ¬ ((rd S.L m).i : Int) = (i : Int)) := fun m hm => by
          by_cases hmj : m < j
          · exact HN.out m hmj
          · obtain rfl : m = j := by omega
            exact hx
        clear hx
        have hL' := HL.out
        go_wp2
        go_roundg (gk - 1)
        case measure => omega
        case rel => exact ⟨j + 1, by omega, by go_num, rfl, HN2.out⟩
    · have hj : j = S.L.length := by omega
      subst hj
      have HP := hide (hN.out HN.out)
      clear hN hS HN
      obtain ⟨z0, z1, z2, z3⟩ := box3 HX.out
      go_wp2
      obtain ⟨r1, r2⟩ := row3 _ HX.out (.int .u32 0) (.int .i64 0) (.int .i64 0)
      exact bodyPost_ret (results_bg rfl _ _ w.heap.size ⟨0, 0, 0⟩ (.bool false) rfl r1 rfl) rfl ⟨by rw [HP.out]; rfl, gn_own HG.out r2 (Nat.le_refl _)⟩
set_option maxHeartbeats 4000000 in
theorem on_any {w : World} {lo d : Nat} {v : Value} {S : Sb} (h : Db w lo d v S) (ho : S.Ok) (i : Nat) : Calls Tryz.prog 56 #[.pointer (some ⟨d, 0, none⟩), .int .i64 (i : Int)] w fun e w' => e = .returned (.tuple #[bgV ((sat S.L i).getD ⟨0, 0, 0⟩), .bool (sat S.L i).isSome]) ∧ w.grownBy w' none := by
  have hL : S.L.length ≤ 65536 := by have := ho.few; have := ho.b1; omega
  have hN : Hid ((∀ m, m < S.L.length → ¬ ((rd S.L m).s : Int) = (i : Int)) → sat S.L i = none) := fun hh => sat_none.2 (fun x hx e => (all_not (q := fun x => (x.s : Int) = (i : Int)) hh) x hx (by rw [e]))
  have hS : Hid (∀ m, m < S.L.length → ((rd S.L m).s : Int) = (i : Int) → sat S.L i = some (rd S.L m)) := fun m hm e => (sat_some ho.one).2 ⟨List.mem_of_getElem? (rd_get hm), by omega⟩
  have g0 := grown_alloc w (.cells [Value.int .u32 0, .int .i64 0, .int .i64 0].toArray 51)
  have h0 := h.then g0
  obtain ⟨ao, cap, rfl, hb⟩ := h0.bga.ex
  have c4 := h0.cell (j := 4) rfl
  have HB := hide hb
  have HL := hide hL
  have HG := hide g0
  have HX := hide (heap_alloc_new w (.cells [Value.int .u32 0, .int .i64 0, .int .i64 0].toArray 51))
  generalize hw1 : w.alloc (.cells [Value.int .u32 0, .int .i64 0, .int .i64 0].toArray 51) = w1 at HB c4 HG HX
  obtain ⟨res, hres⟩ : ∃ res, res = sat S.L i := ⟨_, rfl⟩
  rw [← hres] at hN hS ⊢
  clear h h0 hb hL ho hres g0
  have HW1 := hide hw1
  go_enter Tryz.func56, Tryz.ntmps56
  go_wp2
  clear hw1 HW1
  go_loopg [6] S.L.length (fun k q wr => ∃ j : Nat, k + j = S.L.length ∧ q = .int .i64 (j : Int) ∧ wr = w1 ∧ Hid (∀ m, m < j → ¬ ((rd S.L m).s : Int) = (i : Int)))
  case atStart => exact ⟨0, by omega, rfl, rfl, fun m hm => by omega⟩
  case round =>
    obtain ⟨j, hkj, rfl, rfl, HN⟩ := hrel
    by_cases hk : 0 < gk
    · have hj : j < S.L.length := by omega
      have h1 : (j : Int) < (S.L.length : Int) := by omega
      have h0 : (0 : Int) ≤ (j : Int) := by omega
      obtain ⟨g, rfl, e0, e1, e2⟩ := HB.out j hj
      by_cases hx : ((rd S.L j).s : Int) = (i : Int)
      · have HP := hide (hS.out j hj hx)
        have f1 : (((rd S.L j).s : Int) == (i : Int)) = true := by simpa using hx
        have f2 : decide (((rd S.L j).s : Int) = (i : Int)) = true := by simpa using hx
        clear hx hS hN
        obtain ⟨z0, z1, z2, z3⟩ := box3 HX.out
        generalize rd S.L j = x at *
        obtain ⟨xi, xs, xu⟩ := x
        simp only at *
        go_wp2
        obtain ⟨r1, r2⟩ := row3 _ HX.out (.int .u32 (xi : Int)) (.int .i64 (xs : Int)) (.int .i64 xu)
        exact bodyPost_ret (results_bg rfl _ _ w.heap.size ⟨xi, xs, xu⟩ (.bool true) rfl r1 rfl) rfl ⟨by rw [HP.out]; rfl, gn_own HG.out r2 (Nat.le_refl _)⟩
      · have f1 : (((rd S.L j).s : Int) == (i : Int)) = false := by simpa using hx
        have f2 : decide (((rd S.L j).s : Int) = (i : Int)) = false := by simpa using hx
        have HN2 : Hid (∀ m, m < j + 1 → ¬ ((rd S.L m).s : Int) = (i : Int)) := fun m hm => by
          by_cases hmj : m < j
          · exact HN.out m hmj
          · obtain rfl : m = j := by omega
            exact hx
        clear hx
        have hL' := HL.out
        go_wp2
        go_roundg (gk - 1)
        case measure => omega
        case rel => exact ⟨j + 1, by omega, by go_num, rfl, HN2.out⟩
    · have hj : j = S.L.length := by omega
      subst hj
      have HP := hide (hN.out HN.out)
      clear hN hS HN
      obtain ⟨z0, z1, z2, z3⟩ := box3 HX.out
      go_wp2
      obtain ⟨r1, r2⟩ := row3 _ HX.out (.int .u32 0) (.int .i64 0) (.int .i64 0)
      exact bodyPost_ret (results_bg rfl _ _ w.heap.size ⟨0, 0, 0⟩ (.bool false) rfl r1 rfl) rfl ⟨by rw [HP.out]; rfl, gn_own HG.out r2 (Nat.le_refl _)⟩
end Go.Proofs.YtjfhilignbeboaaGreatDoor
namespace Go.Proofs.YtjfhilignbeboaaGreatDoor
/- The document's answer: Record, Refused. -/
open Go.RowKit
attribute [local go_sem ↓] Go.wp_at_zero Go.wp_at_succ
attribute [local go_sem] Oper.semAt_some
def tuW (S : Sb) (q : Rs.Rq) : Int := IntKind.i64.wrap (S.t + q.u)
/-- The record, its time not held against any bound. -/
def recW (S : Sb) (q : Rs.Rq) : Rc :=
  if q.k = 1 then ⟨1, (S.n : Int), q.s, tuW S q, 0⟩ else if q.k = 2 then ⟨2, q.i, 0, 0, 0⟩ else if q.k = 3 then ⟨3, q.i, 0, 0, 0⟩ else if q.k = 4 then ⟨4, q.i, q.s, 0, 0⟩ else ⟨5, 0, 0, 0, tuW S q⟩
section
variable {w : World} {lo d : Nat} {v : Value} {S : Sb}
set_option maxHeartbeats 4000000 in
theorem rrec_2 (_h : Db w lo d v S) (t i s u : Int) : Calls Tryz.prog 49 #[.pointer (some ⟨d, 0, none⟩), .agg #[.int .i64 2, .int .u32 t, .int .u32 i, .int .i64 s, .int .i64 u]] w fun e w' => e = .returned (Rk.rcV (recW S ⟨2, t, i, s, u⟩)) ∧ w.grownBy w' none := by
  rw [show recW S ⟨2, t, i, s, u⟩ = ⟨2, i, 0, 0, 0⟩ from by simp [recW]]
  unfold Rk.rcV
  go_enter Tryz.func49, Tryz.ntmps49
  go_wp2
  exact bodyPost_ret (results_cell_row rfl _ _ (w.heap.size + 1) 28 _ (0, 0) _ rfl (new2 w _ _) Tryz.underlying28 rfl (by kernel_rfl)) rfl ⟨rfl, grown_alloc2 w _ _⟩
set_option maxHeartbeats 4000000 in
theorem rrec_3 (_h : Db w lo d v S) (t i s u : Int) : Calls Tryz.prog 49 #[.pointer (some ⟨d, 0, none⟩), .agg #[.int .i64 3, .int .u32 t, .int .u32 i, .int .i64 s, .int .i64 u]] w fun e w' => e = .returned (Rk.rcV (recW S ⟨3, t, i, s, u⟩)) ∧ w.grownBy w' none := by
  rw [show recW S ⟨3, t, i, s, u⟩ = ⟨3, i, 0, 0, 0⟩ from by simp [recW]]
  unfold Rk.rcV
  go_enter Tryz.func49, Tryz.ntmps49
  go_wp2
  exact bodyPost_ret (results_cell_row rfl _ _ (w.heap.size + 1) 28 _ (0, 0) _ rfl (new2 w _ _) Tryz.underlying28 rfl (by kernel_rfl)) rfl ⟨rfl, grown_alloc2 w _ _⟩
set_option maxHeartbeats 4000000 in
theorem rrec_4 (_h : Db w lo d v S) (t i s u : Int) : Calls Tryz.prog 49 #[.pointer (some ⟨d, 0, none⟩), .agg #[.int .i64 4, .int .u32 t, .int .u32 i, .int .i64 s, .int .i64 u]] w fun e w' => e = .returned (Rk.rcV (recW S ⟨4, t, i, s, u⟩)) ∧ w.grownBy w' none := by
  rw [show recW S ⟨4, t, i, s, u⟩ = ⟨4, i, s, 0, 0⟩ from by simp [recW]]
  unfold Rk.rcV
  go_enter Tryz.func49, Tryz.ntmps49
  go_wp2
  exact bodyPost_ret (results_cell_row rfl _ _ (w.heap.size + 1) 28 _ (0, 0) _ rfl (new2 w _ _) Tryz.underlying28 rfl (by kernel_rfl)) rfl ⟨rfl, grown_alloc2 w _ _⟩
set_option maxHeartbeats 4000000 in
theorem rrec_1 (h : Db w lo d v S) (t i s u : Int) : Calls Tryz.prog 49 #[.pointer (some ⟨d, 0, none⟩), .agg #[.int .i64 1, .int .u32 t, .int .u32 i, .int .i64 s, .int .i64 u]] w fun e w' => e = .returned (Rk.rcV (recW S ⟨1, t, i, s, u⟩)) ∧ w.grownBy w' none := by
  rw [show recW S ⟨1, t, i, s, u⟩ = ⟨1, (S.n : Int), s, tuW S ⟨1, t, i, s, u⟩, 0⟩ from by simp [recW]]
  unfold tuW
  have g0 := grown_alloc2 w (.cells [Value.int .i64 1, .int .u32 t, .int .u32 i, .int .i64 s, .int .i64 u].toArray 25) (.cells [Value.int .i64 0, .int .u32 0, .int .i64 0, .int .i64 0, .int .i64 0].toArray 28)
  have h0 := h.then g0
  have HD : Hid (d < w.heap.size) := row_lt h.head
  have c5 := h0.cell (j := 5) rfl
  have c6 := h0.cell (j := 6) rfl
  have HB := hide (new2 w (.cells [Value.int .i64 1, .int .u32 t, .int .u32 i, .int .i64 s, .int .i64 u].toArray 25) (.cells [Value.int .i64 0, .int .u32 0, .int .i64 0, .int .i64 0, .int .i64 0].toArray 28))
  obtain ⟨q0, q1, q2, q3, q4⟩ := bx5 (new2a w (.cells [Value.int .i64 1, .int .u32 t, .int .u32 i, .int .i64 s, .int .i64 u].toArray 25) (.cells [Value.int .i64 0, .int .u32 0, .int .i64 0, .int .i64 0, .int .i64 0].toArray 28))
  obtain ⟨⟨d0, d1, d2, d3, d4⟩, d5⟩ := bxf5 HB.out
  have HG := hide g0
  clear h h0 g0
  simp only at *
  generalize (S.n : Int) = n at *
  generalize S.t = st at *
  obtain ⟨tu, htu⟩ : ∃ tu, tu = IntKind.i64.wrap (st + u) := ⟨_, rfl⟩
  rw [← htu]
  have htu2 := htu.symm
  clear htu
  unfold Rk.rcV
  go_enter Tryz.func49, Tryz.ntmps49
  go_wp2
  generalize World.alloc (World.alloc w _) _ = w1 at *
  have HE := hide (drew_at HB.out)
  clear d0 d1 d2 d3 d4 d5
  obtain ⟨⟨d0, d1, d2, d3, d4⟩, d5⟩ := bxf5 HE.out
  have hS0 : w1.drew.cell? ⟨d, 5, none⟩ = some (.int .u32 n) ∧ w1.drew.cell? ⟨d, 6, none⟩ = some (.int .i64 st) ∧ w1.drew.cell? ⟨w.heap.size, 3, none⟩ = some (.int .i64 s) ∧ w1.drew.cell? ⟨w.heap.size, 4, none⟩ = some (.int .i64 u) := ⟨c5, c6, q3, q4⟩
  have HGd := hide (grown_trans HG.out (grown_drew w1 none))
  have n1 : Hid (w.heap.size + 1 ≠ d) := fun e => by have := HD.out; omega
  have n2 : Hid (w.heap.size + 1 ≠ w.heap.size) := fun e => by omega
  refine wp_region_held_drew (S := (fun W => W.cell? ⟨d, 5, none⟩ = some (.int .u32 n) ∧ W.cell? ⟨d, 6, none⟩ = some (.int .i64 st) ∧ W.cell? ⟨w.heap.size, 3, none⟩ = some (.int .i64 s) ∧ W.cell? ⟨w.heap.size, 4, none⟩ = some (.int .i64 u))) (by kernel_rfl) ?_ (fun hHeld => ?_)
  · (exact hS0)
  generalize World.drew w1 = wd at *
  refine tkH (i := 0) (v := ?_) rfl ?_ ?_
  rotate_left
  · (intro w hSw; (try dsimp only at hSw); (go_simp <;> with_reducible rfl))
  try simp only [Act.put, List.setIfInBounds_toArray]
  refine tkH (i := 1) (v := ?_) rfl ?_ ?_
  rotate_left
  · (intro w hSw; (try dsimp only at hSw); (go_simp <;> with_reducible rfl))
  try simp only [Act.put]
  refine tkH (i := 2) (v := ?_) rfl ?_ ?_
  rotate_left
  · (intro w hSw; (try dsimp only at hSw); (go_simp <;> with_reducible rfl))
  try simp only [Act.put]
  refine tkH (i := 3) (v := ?_) rfl ?_ ?_
  rotate_left
  · (intro w hSw; (try dsimp only at hSw); (go_simp <;> with_reducible rfl))
  try simp only [Act.put]
  refine tkH (i := 4) (v := ?_) rfl ?_ ?_
  rotate_left
  · (intro w hSw; (try dsimp only at hSw); (go_simp <;> with_reducible rfl))
  try simp only [Act.put]
  refine tkH (i := 5) (v := ?_) rfl ?_ ?_
  rotate_left
  · (intro w hSw; (try dsimp only at hSw); (go_simp <;> with_reducible rfl))
  try simp only [Act.put]
  refine tkH (i := 6) (v := ?_) rfl ?_ ?_
  rotate_left
  · (intro w hSw; (try dsimp only at hSw); (go_simp <;> with_reducible rfl))
  try simp only [Act.put]
  refine tkH (i := 7) (v := ?_) rfl ?_ ?_
  rotate_left
  · (intro w hSw; (try dsimp only at hSw); (go_simp <;> with_reducible rfl))
  try simp only [Act.put]
  refine tkH (i := 8) (v := ?_) rfl ?_ ?_
  rotate_left
  · (intro w hSw; (try dsimp only at hSw); (go_simp <;> with_reducible rfl))
  try simp only [Act.put]
  refine tkH (i := 9) (v := ?_) rfl ?_ ?_
  rotate_left
  · (intro w hSw; (try dsimp only at hSw); (go_simp <;> with_reducible rfl))
  try simp only [Act.put]
  refine tkH (i := 10) (v := ?_) rfl ?_ ?_
  rotate_left
  · (intro w hSw; (try dsimp only at hSw); (go_simp <;> with_reducible rfl))
  try simp only [Act.put]
  refine tkH (i := 11) (v := ?_) rfl ?_ ?_
  rotate_left
  · (intro w hSw; (try dsimp only at hSw); (go_simp <;> with_reducible rfl))
  try simp only [Act.put]
  refine tkH (i := 12) (v := ?_) rfl ?_ ?_
  rotate_left
  · (intro w hSw; (try dsimp only at hSw); (go_simp <;> with_reducible rfl))
  try simp only [Act.put]
  refine tkH (i := 13) (v := ?_) rfl ?_ ?_
  rotate_left
  · (intro w hSw; (try dsimp only at hSw); (go_simp <;> with_reducible rfl))
  try simp only [Act.put]
  refine rdH (i := 14) rfl (fun K hK => ?_)
  go_simp
  refine hK.out _ _ ?_ (fun hHeld => ?_)
  · ((try dsimp only); with_reducible exact ⟨cell_set5 hS0.1 n1.out _ _ _ _ _, cell_set5 hS0.2.1 n1.out _ _ _ _ _, cell_set5 hS0.2.2.1 n2.out _ _ _ _ _, cell_set5 hS0.2.2.2 n2.out _ _ _ _ _⟩)
  clear hK K
  try simp only [Act.put, List.setIfInBounds_toArray, List.set_cons_zero, List.set_cons_succ]
  refine wpAnyH_done (by kernel_rfl) ?_ _
  go_wp2
  obtain ⟨r1, r2⟩ := set5w wd rfl HE.out (.int .i64 1) (.int .u32 n) (.int .i64 s) (.int .i64 tu) (.int .i64 0)
  exact bodyPost_ret (results_cell_row rfl _ _ (w.heap.size + 1) 28 _ (0, 0) _ rfl r1 Tryz.underlying28 rfl (by kernel_rfl)) rfl ⟨rfl, gn_own HGd.out r2 (by omega)⟩
set_option maxHeartbeats 4000000 in
theorem rrec_7 (h : Db w lo d v S) (t i s u : Int) : Calls Tryz.prog 49 #[.pointer (some ⟨d, 0, none⟩), .agg #[.int .i64 7, .int .u32 t, .int .u32 i, .int .i64 s, .int .i64 u]] w fun e w' => e = .returned (Rk.rcV (recW S ⟨7, t, i, s, u⟩)) ∧ w.grownBy w' none := by
  rw [show recW S ⟨7, t, i, s, u⟩ = ⟨5, 0, 0, 0, tuW S ⟨7, t, i, s, u⟩⟩ from by simp [recW]]
  unfold tuW
  have g0 := grown_alloc2 w (.cells [Value.int .i64 7, .int .u32 t, .int .u32 i, .int .i64 s, .int .i64 u].toArray 25) (.cells [Value.int .i64 0, .int .u32 0, .int .i64 0, .int .i64 0, .int .i64 0].toArray 28)
  have h0 := h.then g0
  have HD : Hid (d < w.heap.size) := row_lt h.head
  have c5 := h0.cell (j := 5) rfl
  have c6 := h0.cell (j := 6) rfl
  have HB := hide (new2 w (.cells [Value.int .i64 7, .int .u32 t, .int .u32 i, .int .i64 s, .int .i64 u].toArray 25) (.cells [Value.int .i64 0, .int .u32 0, .int .i64 0, .int .i64 0, .int .i64 0].toArray 28))
  obtain ⟨q0, q1, q2, q3, q4⟩ := bx5 (new2a w (.cells [Value.int .i64 7, .int .u32 t, .int .u32 i, .int .i64 s, .int .i64 u].toArray 25) (.cells [Value.int .i64 0, .int .u32 0, .int .i64 0, .int .i64 0, .int .i64 0].toArray 28))
  obtain ⟨⟨d0, d1, d2, d3, d4⟩, d5⟩ := bxf5 HB.out
  have HG := hide g0
  clear h h0 g0
  simp only at *
  generalize (S.n : Int) = n at *
  generalize S.t = st at *
  obtain ⟨tu, htu⟩ : ∃ tu, tu = IntKind.i64.wrap (st + u) := ⟨_, rfl⟩
  rw [← htu]
  have htu2 := htu.symm
  clear htu
  unfold Rk.rcV
  go_enter Tryz.func49, Tryz.ntmps49
  go_wp2
  generalize World.alloc (World.alloc w _) _ = w1 at *
  have HE := hide (drew_at HB.out)
  clear d0 d1 d2 d3 d4 d5
  obtain ⟨⟨d0, d1, d2, d3, d4⟩, d5⟩ := bxf5 HE.out
  have hS0 : w1.drew.cell? ⟨d, 5, none⟩ = some (.int .u32 n) ∧ w1.drew.cell? ⟨d, 6, none⟩ = some (.int .i64 st) ∧ w1.drew.cell? ⟨w.heap.size, 3, none⟩ = some (.int .i64 s) ∧ w1.drew.cell? ⟨w.heap.size, 4, none⟩ = some (.int .i64 u) := ⟨c5, c6, q3, q4⟩
  have HGd := hide (grown_trans HG.out (grown_drew w1 none))
  have n1 : Hid (w.heap.size + 1 ≠ d) := fun e => by have := HD.out; omega
  have n2 : Hid (w.heap.size + 1 ≠ w.heap.size) := fun e => by omega
  refine wp_region_held_drew (S := (fun W => W.cell? ⟨d, 5, none⟩ = some (.int .u32 n) ∧ W.cell? ⟨d, 6, none⟩ = some (.int .i64 st) ∧ W.cell? ⟨w.heap.size, 3, none⟩ = some (.int .i64 s) ∧ W.cell? ⟨w.heap.size, 4, none⟩ = some (.int .i64 u))) (by kernel_rfl) ?_ (fun hHeld => ?_)
  · (exact hS0)
  generalize World.drew w1 = wd at *
  refine tkH (i := 0) (v := ?_) rfl ?_ ?_
  rotate_left
  · (intro w hSw; (try dsimp only at hSw); (go_simp <;> with_reducible rfl))
  try simp only [Act.put, List.setIfInBounds_toArray]
  refine tkH (i := 1) (v := ?_) rfl ?_ ?_
  rotate_left
  · (intro w hSw; (try dsimp only at hSw); (go_simp <;> with_reducible rfl))
  try simp only [Act.put]
  refine tkH (i := 2) (v := ?_) rfl ?_ ?_
  rotate_left
  · (intro w hSw; (try dsimp only at hSw); (go_simp <;> with_reducible rfl))
  try simp only [Act.put]
  refine tkH (i := 3) (v := ?_) rfl ?_ ?_
  rotate_left
  · (intro w hSw; (try dsimp only at hSw); (go_simp <;> with_reducible rfl))
  try simp only [Act.put]
  refine tkH (i := 4) (v := ?_) rfl ?_ ?_
  rotate_left
  · (intro w hSw; (try dsimp only at hSw); (go_simp <;> with_reducible rfl))
  try simp only [Act.put]
  refine tkH (i := 5) (v := ?_) rfl ?_ ?_
  rotate_left
  · (intro w hSw; (try dsimp only at hSw); (go_simp <;> with_reducible rfl))
  try simp only [Act.put]
  refine tkH (i := 6) (v := ?_) rfl ?_ ?_
  rotate_left
  · (intro w hSw; (try dsimp only at hSw); (go_simp <;> with_reducible rfl))
  try simp only [Act.put]
  refine tkH (i := 7) (v := ?_) rfl ?_ ?_
  rotate_left
  · (intro w hSw; (try dsimp only at hSw); (go_simp <;> with_reducible rfl))
  try simp only [Act.put]
  refine rdH (i := 8) rfl (fun K hK => ?_)
  go_simp
  refine hK.out _ _ ?_ (fun hHeld => ?_)
  · ((try dsimp only); with_reducible exact ⟨cell_set5 hS0.1 n1.out _ _ _ _ _, cell_set5 hS0.2.1 n1.out _ _ _ _ _, cell_set5 hS0.2.2.1 n2.out _ _ _ _ _, cell_set5 hS0.2.2.2 n2.out _ _ _ _ _⟩)
  clear hK K
  try simp only [Act.put, List.setIfInBounds_toArray, List.set_cons_zero, List.set_cons_succ]
  refine wpAnyH_done (by kernel_rfl) ?_ _
  go_wp2
  obtain ⟨r1, r2⟩ := set5w wd rfl HE.out (.int .i64 5) (.int .u32 0) (.int .i64 0) (.int .i64 0) (.int .i64 tu)
  exact bodyPost_ret (results_cell_row rfl _ _ (w.heap.size + 1) 28 _ (0, 0) _ rfl r1 Tryz.underlying28 rfl (by kernel_rfl)) rfl ⟨rfl, gn_own HGd.out r2 (by omega)⟩
end
end Go.Proofs.YtjfhilignbeboaaGreatDoor
namespace Go.Proofs.YtjfhilignbeboaaGreatDoor
/- What each check answers, case by case. -/
section
variable {S : Sb} {k t u : Int} {i s : Nat} {Q : Rs.Rq}
theorem stE_0 (h : (s : Int) < (S.a : Int)) : stE S ⟨k, t, (i : Int), (s : Int), u⟩ = 0 := if_pos h
theorem stE_140 (h : ¬ (s : Int) < (S.a : Int)) : stE S ⟨k, t, (i : Int), (s : Int), u⟩ = 140 := if_neg h
theorem ttE_0 (h : 1 ≤ u) (h2 : u ≤ 1073741824) : ttE ⟨k, t, (i : Int), (s : Int), u⟩ = 0 := if_pos ⟨h, h2⟩
theorem ttE_2 (h : u < 1 ∨ 1073741824 < u) : ttE ⟨k, t, (i : Int), (s : Int), u⟩ = 2 := if_neg (fun x => by have := x.1; have := x.2; unfold mxT at this; simp only at *; omega)
theorem clE_172 (h : mxC < S.t + u) : clE S ⟨k, t, (i : Int), (s : Int), u⟩ = 172 := if_pos h
theorem clE_0 (h : ¬ mxC < S.t + u) : clE S ⟨k, t, (i : Int), (s : Int), u⟩ = 0 := if_neg h
theorem rmE_6 (h : (S.b : Int) ≤ (S.L.length : Int) ∨ (S.n : Int) = 4294967295) : rmE S = 6 := if_pos (by omega)
theorem rmE_0 (h : ¬ ((S.b : Int) ≤ (S.L.length : Int) ∨ (S.n : Int) = 4294967295)) : rmE S = 0 := if_neg (by omega)
theorem idE_0 (h : (fnd S.L i).isSome = true) : idE S ⟨k, t, (i : Int), (s : Int), u⟩ = 0 := if_pos h
theorem idE_171 (h : (fnd S.L i).isSome = false) : idE S ⟨k, t, (i : Int), (s : Int), u⟩ = 171 := if_neg (by show ¬ (fnd S.L i).isSome = true; rw [h]; decide)
theorem atE_nat : atE S (s : Int) = if (s : Int) < (S.a : Int) then (if (sat S.L s).isSome then 0 else 171) else 140 := by
  unfold atE
  by_cases h : (s : Int) < (S.a : Int)
  · rw [if_pos ⟨by omega, h⟩, if_pos h, Int.toNat_natCast]
  · rw [if_neg (fun x => h x.2), if_neg h]
theorem atX_nat (h : (s : Int) < (S.a : Int)) : atX S (s : Int) = (sat S.L s).getD ⟨0, 0, 0⟩ := by unfold atX; rw [if_pos ⟨by omega, h⟩, Int.toNat_natCast]
theorem frE_170 (h : (s : Int) < (S.a : Int)) (h2 : (sat S.L s).isSome = true) (h3 : ¬ (((sat S.L s).getD ⟨0, 0, 0⟩).i : Int) = (i : Int)) : frE S ⟨k, t, (i : Int), (s : Int), u⟩ = 170 := if_pos (by show atE S (s : Int) = 0 ∧ ((atX S (s : Int)).i : Int) ≠ (i : Int); rw [atE_nat, if_pos h, if_pos h2, atX_nat h]; exact ⟨rfl, h3⟩)
theorem frE_no (h : (s : Int) < (S.a : Int)) (h2 : (sat S.L s).isSome = false) : frE S ⟨k, t, (i : Int), (s : Int), u⟩ = 0 := if_neg (by show ¬ (atE S (s : Int) = 0 ∧ _); rw [atE_nat, if_pos h, if_neg (by rw [h2]; decide)]; exact fun x => by cases x.1)
theorem frE_own (h : (s : Int) < (S.a : Int)) (h3 : (((sat S.L s).getD ⟨0, 0, 0⟩).i : Int) = (i : Int)) : frE S ⟨k, t, (i : Int), (s : Int), u⟩ = 0 := if_neg (by show ¬ (_ ∧ ((atX S (s : Int)).i : Int) ≠ (i : Int)); rw [atX_nat h]; exact fun x => x.2 h3)
theorem sat_id (ho : S.Ok) (h2 : (sat S.L s).isSome = true) : 1 ≤ ((sat S.L s).getD ⟨0, 0, 0⟩).i := by
  cases hq : sat S.L s with
  | none => rw [hq] at h2; cases h2
  | some z => exact (ho.id z ((sat_some ho.one).1 hq).1).1
end
end Go.Proofs.YtjfhilignbeboaaGreatDoor
namespace Go.Proofs.YtjfhilignbeboaaGreatDoor
/- The document's answer: Refused. -/
open Go.RowKit
attribute [local go_sem ↓] Go.wp_at_zero Go.wp_at_succ
attribute [local go_sem] Oper.semAt_some
/-- What lies there while a change is held against the document's book. -/
structure Rx (w W : World) (lo d : Nat) (v : Value) (S : Sb) (q : Rs.Rq) (B : Nat) (y : Bg) : Prop where
  db : Db W lo d v S
  gr : w.grownBy W none
  bq : W.heap[w.heap.size]? = some (.cells [Value.int .i64 q.k, .int .u32 q.t, .int .u32 q.i, .int .i64 q.s, .int .i64 q.u].toArray 25 (0, 0))
  bs : W.heap[B]? = some (.cells [Value.int .u32 (y.i : Int), .int .i64 (y.s : Int), .int .i64 y.u].toArray 51 (0, 0))
section
variable {w W W' : World} {lo d : Nat} {v : Value} {S : Sb} {q : Rs.Rq} {B : Nat} {y : Bg}
theorem Rx.then (h : Rx w W lo d v S q B y) (g : W.grownBy W' none) : Rx w W' lo d v S q B y := ⟨h.db.then g, grown_trans h.gr g, box_to h.bq g, box_to h.bs g⟩
/-- The cells that are read. -/
theorem Rx.ff (h : Rx w W lo d v S q B y) : (W.cell? ⟨d, 1, none⟩ = some (.int .i64 (S.a : Int)) ∧ W.cell? ⟨d, 2, none⟩ = some (.int .i64 (S.b : Int)) ∧ W.cell? ⟨d, 4, none⟩ = some v ∧ W.cell? ⟨d, 5, none⟩ = some (.int .u32 (S.n : Int)) ∧ W.cell? ⟨d, 6, none⟩ = some (.int .i64 S.t)) ∧ (W.cell? ⟨w.heap.size, 0, none⟩ = some (.int .i64 q.k) ∧ W.cell? ⟨w.heap.size, 1, none⟩ = some (.int .u32 q.t) ∧ W.cell? ⟨w.heap.size, 2, none⟩ = some (.int .u32 q.i) ∧ W.cell? ⟨w.heap.size, 3, none⟩ = some (.int .i64 q.s) ∧ W.cell? ⟨w.heap.size, 4, none⟩ = some (.int .i64 q.u)) ∧ W.cell? ⟨B, 0, none⟩ = some (.int .u32 (y.i : Int)) :=
  ⟨⟨h.db.cell rfl, h.db.cell rfl, h.db.cell rfl, h.db.cell rfl, h.db.cell rfl⟩, bx5 h.bq, by rw [cell_row h.bs]; rfl⟩
end
end Go.Proofs.YtjfhilignbeboaaGreatDoor
