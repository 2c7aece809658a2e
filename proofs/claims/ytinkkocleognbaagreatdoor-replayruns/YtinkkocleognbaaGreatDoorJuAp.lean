/- Texts joined: JnAq, JnAr. -/
import Derived.Test.YtinkkocleognbaaGreatDoorJuAo
/- Texts joined: Rp4. -/
namespace Go.Proofs.YtinkkocleognbaaGreatDoor
/- Books that are the same, and that are not. -/
open Go.RowKit
attribute [local go_sem ↓] Go.wp_at_zero Go.wp_at_succ
attribute [local go_sem] Oper.semAt_some
set_option maxRecDepth 20000 in
set_option maxHeartbeats 8000000 in
theorem same_n {w : World} {p q : Bp} {S S' : Sb} {K K' : Nat} (hp : BkAt w p S K) (hq : BkAt w q S' K') (hw : S.Wk) (hw' : S'.Wk) (ha : S'.a = S.a) (hb : S'.b = S.b) (hn : S.n ≠ S'.n) : Calls Tryz.prog 34 #[.pointer (some ⟨p.b, 0, none⟩), .pointer (some ⟨q.b, 0, none⟩)] w fun e w' => e = .returned (.bool false) ∧ w.grownBy w' none := by
  have HN1 := hide hp.isNone
  have HN2 := hide hq.isNone
  have HL : Hid (∀ W, Calls Tryz.prog 65 #[limV S.a S.b S.c, limV S.a S.b S'.c] W fun e w' => e = .returned (.bool true) ∧ W.grownBy w' none) := fun W => isLike_eq _ _ _ _ W
  have HB1 : Hid (∀ W, w.grownBy W none → Calls Tryz.prog 67 #[.pointer (some ⟨p.b, 0, none⟩)] W fun e w' => ∃ v, e = .returned v ∧ BgA w' v S.L ∧ W.grownBy w' none) := by
    intro W hW
    refine (bookings_any (hp.then hW) hw).mono ?_
    rintro e w' ⟨v, rfl, h1, h2⟩
    exact ⟨v, rfl, BgA.own h1, h2⟩
  have HB2 : Hid (∀ W, w.grownBy W none → Calls Tryz.prog 67 #[.pointer (some ⟨q.b, 0, none⟩)] W fun e w' => ∃ v, e = .returned v ∧ BgA w' v S'.L ∧ W.grownBy w' none) := by
    intro W hW
    refine (bookings_any (hq.then hW) hw').mono ?_
    rintro e w' ⟨v, rfl, h1, h2⟩
    exact ⟨v, rfl, BgA.own h1, h2⟩
  obtain ⟨res, hres⟩ : ∃ res, res = decide (S.L = S'.L) := ⟨_, rfl⟩
  have HE : Hid (∀ W v u, BgA W v S.L → BgA W u S'.L → Calls Tryz.prog 66 #[v, u] W fun e w' => e = .returned (.bool res) ∧ W.grownBy w' none) := by
    intro W v u h1 h2
    rw [hres]
    exact equal_any h1 h2 (by have := hw.few; have := hw.b1; omega)
  have HK : Hid (∀ W, w.grownBy W none → (W.cell? ⟨p.b, 0, none⟩ = some (.int .i64 (S.a : Int)) ∧ W.cell? ⟨p.b, 1, none⟩ = some (.int .i64 (S.b : Int)) ∧ W.cell? ⟨p.b, 2, none⟩ = some (.int .i64 (S.c : Int)) ∧ W.cell? ⟨p.b, 4, none⟩ = some (.int .u32 (S.n : Int)) ∧ W.cell? ⟨p.b, 5, none⟩ = some (.int .i64 S.t)) ∧ W.cell? ⟨q.b, 0, none⟩ = some (.int .i64 (S.a : Int)) ∧ W.cell? ⟨q.b, 1, none⟩ = some (.int .i64 (S.b : Int)) ∧ W.cell? ⟨q.b, 2, none⟩ = some (.int .i64 (S'.c : Int)) ∧ W.cell? ⟨q.b, 4, none⟩ = some (.int .u32 (S'.n : Int)) ∧ W.cell? ⟨q.b, 5, none⟩ = some (.int .i64 S'.t)) := fun W hW =>
    ⟨⟨(hp.then hW).cells 0 _ rfl, (hp.then hW).cells 1 _ rfl, (hp.then hW).cells 2 _ rfl, (hp.then hW).cells 4 _ rfl, (hp.then hW).cells 5 _ rfl⟩, by have := (hq.then hW).cells 0 _ rfl; rw [ha] at this; exact this, by have := (hq.then hW).cells 1 _ rfl; rw [hb] at this; exact this, (hq.then hW).cells 2 _ rfl, (hq.then hW).cells 4 _ rfl, (hq.then hW).cells 5 _ rfl⟩
  have hK0 := HK.out w (grown_refl _ _)
  have hnn : ¬ (S.n : Int) = (S'.n : Int) := by omega
  clear hp hq hw hw' ha hb hn hres HE HB1 HB2
  unfold limV at HL
  generalize (S.n : Int) = n at *
  generalize (S'.n : Int) = n' at *
  generalize S.t = t at *
  generalize S'.t = t' at *
  have f1 : (n == n') = false := by simpa using hnn
  have f2 : decide (n = n') = false := by simpa using hnn
  clear hnn
  generalize (S.a : Int) = a at *
  generalize (S.b : Int) = b at *
  generalize (S.c : Int) = c at *
  generalize (S'.c : Int) = c' at *
  go_enter Tryz.func34, Tryz.ntmps34
  go_wp2_with fail
  refine HN1.out.mono ?_
  rintro e w1 ⟨rfl, rfl⟩
  go_wp2_with fail
  refine HN2.out.mono ?_
  rintro e w2 ⟨rfl, rfl⟩
  go_wp2
  refine wp_region_held_drew (S := (fun W => (W.cell? ⟨p.b, 0, none⟩ = some (.int .i64 a) ∧ W.cell? ⟨p.b, 1, none⟩ = some (.int .i64 b) ∧ W.cell? ⟨p.b, 2, none⟩ = some (.int .i64 c) ∧ W.cell? ⟨p.b, 4, none⟩ = some (.int .u32 n) ∧ W.cell? ⟨p.b, 5, none⟩ = some (.int .i64 t)) ∧ W.cell? ⟨q.b, 0, none⟩ = some (.int .i64 a) ∧ W.cell? ⟨q.b, 1, none⟩ = some (.int .i64 b) ∧ W.cell? ⟨q.b, 2, none⟩ = some (.int .i64 c') ∧ W.cell? ⟨q.b, 4, none⟩ = some (.int .u32 n') ∧ W.cell? ⟨q.b, 5, none⟩ = some (.int .i64 t'))) (by kernel_rfl) ?_ (fun hHeld => ?_)
  · (exact hK0)
  refine tkQ 0 (oi := ⟨some 11, .move (.tmp 0), 27, "book.go:177", #[], none⟩) rfl ?_
  try simp only [Act.put, pA, pB, pC]
  refine tkQ 1 (oi := ⟨some 12, .nilCheck (.tmp 11), 0, "book.go:177", #[⟨0, .data⟩], none⟩) rfl ?_
  try simp only [Act.put, pA, pB, pC]
  refine tkQ 2 (oi := ⟨some 13, .fieldAddr 37 (.tmp 12) 0, 0, "book.go:177", #[⟨1, .data⟩], none⟩) rfl ?_
  try simp only [Act.put, pA, pB, pC]
  refine tkQ 3 (oi := ⟨some 14, .load 29 (.tmp 13), 29, "book.go:177", #[⟨2, .data⟩], none⟩) rfl ?_
  try simp only [Act.put, pA, pB, pC]
  refine tkQ 4 (oi := ⟨some 15, .move (.tmp 1), 27, "book.go:177", #[], none⟩) rfl ?_
  try simp only [Act.put, pA, pB, pC]
  refine tkQ 5 (oi := ⟨some 16, .nilCheck (.tmp 15), 0, "book.go:177", #[⟨4, .data⟩], none⟩) rfl ?_
  try simp only [Act.put, pA, pB, pC]
  refine tkQ 6 (oi := ⟨some 17, .fieldAddr 37 (.tmp 16) 0, 0, "book.go:177", #[⟨5, .data⟩], none⟩) rfl ?_
  try simp only [Act.put, pA, pB, pC]
  refine tkQ 7 (oi := ⟨some 18, .load 29 (.tmp 17), 29, "book.go:177", #[⟨6, .data⟩], none⟩) rfl ?_
  try simp only [Act.put, pA, pB, pC]
  refine rdH (i := 8) rfl (fun K hK => ?_)
  go_simp
  refine (HL.out _).mono ?_
  rintro e w3 ⟨rfl, hg3⟩
  have g3 := grown_trans (grown_drew _ none) hg3
  have hK3 := HK.out _ g3
  go_wp2_with fail
  refine hK.out _ _ ?_ (fun hHeld => ?_)
  · ((try dsimp only); first | exact hK3 | assumption)
  clear hK K
  try simp only [Act.put, pA, pB, pC]
  refine tkQ 9 (oi := ⟨some 20, .move (.tmp 19), 4, "book.go:177", #[⟨8, .data⟩, ⟨8, .chain⟩], none⟩) rfl ?_
  try simp only [Act.put, pA, pB, pC]
  refine tkQ 10 (oi := ⟨some 21, .move (.tmp 0), 27, "book.go:177", #[⟨9, .guard⟩], some (9, true)⟩) rfl ?_
  try simp only [Act.put, pA, pB, pC]
  refine tkQ 11 (oi := ⟨some 22, .nilCheck (.tmp 21), 0, "book.go:177", #[⟨10, .data⟩, ⟨9, .guard⟩], some (9, true)⟩) rfl ?_
  try simp only [Act.put, pA, pB, pC]
  refine tkQ 12 (oi := ⟨some 23, .fieldAddr 37 (.tmp 22) 2, 0, "book.go:177", #[⟨11, .data⟩, ⟨9, .guard⟩], some (9, true)⟩) rfl ?_
  try simp only [Act.put, pA, pB, pC]
  refine tkQ 13 (oi := ⟨some 24, .load 30 (.tmp 23), 30, "book.go:177", #[⟨12, .data⟩, ⟨9, .guard⟩], some (9, true)⟩) rfl ?_
  try simp only [Act.put, pA, pB, pC]
  refine tkQ 14 (oi := ⟨some 25, .move (.tmp 1), 27, "book.go:177", #[⟨9, .guard⟩], some (9, true)⟩) rfl ?_
  try simp only [Act.put, pA, pB, pC]
  refine tkQ 15 (oi := ⟨some 26, .nilCheck (.tmp 25), 0, "book.go:177", #[⟨14, .data⟩, ⟨9, .guard⟩], some (9, true)⟩) rfl ?_
  try simp only [Act.put, pA, pB, pC]
  refine tkQ 16 (oi := ⟨some 27, .fieldAddr 37 (.tmp 26) 2, 0, "book.go:177", #[⟨15, .data⟩, ⟨9, .guard⟩], some (9, true)⟩) rfl ?_
  try simp only [Act.put, pA, pB, pC]
  refine tkQ 17 (oi := ⟨some 28, .load 30 (.tmp 27), 30, "book.go:177", #[⟨16, .data⟩, ⟨9, .guard⟩], some (9, true)⟩) rfl ?_
  try simp only [Act.put, pA, pB, pC]
  refine tkQ 18 (oi := ⟨some 29, .binOp .eql 30 (.tmp 24) (.tmp 28) 30, 4, "book.go:177", #[⟨13, .data⟩, ⟨17, .data⟩, ⟨9, .guard⟩], some (9, true)⟩) rfl ?_
  try simp only [Act.put, pA, pB, pC]
  refine tkQ 19 (oi := ⟨some 30, .pick (.tmp 20) (.tmp 29) (.const (.bool false)), 4, "book.go:177", #[⟨9, .data⟩, ⟨18, .data⟩], none⟩) rfl ?_
  try simp only [Act.put, pA, pB, pC]
  refine tkQ 20 (oi := ⟨some 31, .move (.tmp 30), 4, "book.go:177", #[⟨19, .data⟩, ⟨9, .chain⟩], none⟩) rfl ?_
  try simp only [Act.put, pA, pB, pC]
  refine skH 21 (oi := ⟨some 32, .move (.tmp 0), 27, "book.go:177", #[⟨20, .guard⟩], some (20, true)⟩) rfl ?_
  try simp only [Act.put, pA, pB, pC]
  refine skH 22 (oi := ⟨some 33, .nilCheck (.tmp 32), 0, "book.go:177", #[⟨21, .data⟩, ⟨20, .guard⟩], some (20, true)⟩) rfl ?_
  try simp only [Act.put, pA, pB, pC]
  refine skH 23 (oi := ⟨some 34, .fieldAddr 37 (.tmp 33) 3, 0, "book.go:177", #[⟨22, .data⟩, ⟨20, .guard⟩], some (20, true)⟩) rfl ?_
  try simp only [Act.put, pA, pB, pC]
  refine skH 24 (oi := ⟨some 35, .load 2 (.tmp 34), 2, "book.go:177", #[⟨23, .data⟩, ⟨20, .guard⟩], some (20, true)⟩) rfl ?_
  try simp only [Act.put, pA, pB, pC]
  refine skH 25 (oi := ⟨some 36, .move (.tmp 1), 27, "book.go:177", #[⟨20, .guard⟩], some (20, true)⟩) rfl ?_
  try simp only [Act.put, pA, pB, pC]
  refine skH 26 (oi := ⟨some 37, .nilCheck (.tmp 36), 0, "book.go:177", #[⟨25, .data⟩, ⟨20, .guard⟩], some (20, true)⟩) rfl ?_
  try simp only [Act.put, pA, pB, pC]
  refine skH 27 (oi := ⟨some 38, .fieldAddr 37 (.tmp 37) 3, 0, "book.go:177", #[⟨26, .data⟩, ⟨20, .guard⟩], some (20, true)⟩) rfl ?_
  try simp only [Act.put, pA, pB, pC]
  refine skH 28 (oi := ⟨some 39, .load 2 (.tmp 38), 2, "book.go:177", #[⟨27, .data⟩, ⟨20, .guard⟩], some (20, true)⟩) rfl ?_
  try simp only [Act.put, pA, pB, pC]
  refine skH 29 (oi := ⟨some 40, .binOp .eql 2 (.tmp 35) (.tmp 39) 2, 4, "book.go:177", #[⟨24, .data⟩, ⟨28, .data⟩, ⟨20, .guard⟩], some (20, true)⟩) rfl ?_
  try simp only [Act.put, pA, pB, pC]
  refine tkQ 30 (oi := ⟨some 41, .pick (.tmp 31) (.tmp 40) (.const (.bool false)), 4, "book.go:177", #[⟨20, .data⟩, ⟨29, .data⟩], none⟩) rfl ?_
  try simp only [Act.put, pA, pB, pC]
  refine tkQ 31 (oi := ⟨some 42, .move (.tmp 41), 4, "book.go:177", #[⟨30, .data⟩, ⟨20, .chain⟩], none⟩) rfl ?_
  try simp only [Act.put, pA, pB, pC]
  refine skH 32 (oi := ⟨some 43, .move (.tmp 0), 27, "book.go:177", #[⟨31, .guard⟩], some (31, true)⟩) rfl ?_
  try simp only [Act.put, pA, pB, pC]
  refine skH 33 (oi := ⟨some 44, .call { callee := .value (.func 67), args := #[.tmp 43], argTypes := #[27] }, 32, "book.go:177", #[⟨32, .data⟩, ⟨31, .chain⟩, ⟨31, .guard⟩], some (31, true)⟩) rfl ?_
  try simp only [Act.put, pA, pB, pC]
  refine skH 34 (oi := ⟨some 45, .move (.tmp 1), 27, "book.go:177", #[⟨31, .guard⟩], some (31, true)⟩) rfl ?_
  try simp only [Act.put, pA, pB, pC]
  refine skH 35 (oi := ⟨some 46, .call { callee := .value (.func 67), args := #[.tmp 45], argTypes := #[27] }, 32, "book.go:177", #[⟨34, .data⟩, ⟨33, .chain⟩, ⟨31, .guard⟩], some (31, true)⟩) rfl ?_
  try simp only [Act.put, pA, pB, pC]
  refine skH 36 (oi := ⟨some 47, .call { callee := .value (.func 66), args := #[.tmp 44, .tmp 46], argTypes := #[32, 32] }, 4, "book.go:177", #[⟨33, .data⟩, ⟨35, .data⟩, ⟨35, .chain⟩, ⟨31, .guard⟩], some (31, true)⟩) rfl ?_
  try simp only [Act.put, pA, pB, pC]
  refine tkQ 37 (oi := ⟨some 48, .pick (.tmp 42) (.tmp 47) (.const (.bool false)), 4, "book.go:177", #[⟨31, .data⟩, ⟨36, .data⟩], none⟩) rfl ?_
  try simp only [Act.put, pA, pB, pC]
  refine tkQ 38 (oi := ⟨some 4, .assign (.tmp 48), 4, "book.go:177", #[⟨37, .data⟩, ⟨36, .chain⟩, ⟨0, .phase⟩, ⟨1, .phase⟩, ⟨2, .phase⟩, ⟨3, .phase⟩, ⟨4, .phase⟩, ⟨5, .phase⟩, ⟨6, .phase⟩, ⟨7, .phase⟩, ⟨8, .phase⟩, ⟨9, .phase⟩, ⟨10, .phase⟩, ⟨11, .phase⟩, ⟨12, .phase⟩, ⟨13, .phase⟩, ⟨14, .phase⟩, ⟨15, .phase⟩, ⟨16, .phase⟩, ⟨17, .phase⟩, ⟨18, .phase⟩, ⟨19, .phase⟩, ⟨20, .phase⟩, ⟨21, .phase⟩, ⟨22, .phase⟩, ⟨23, .phase⟩, ⟨24, .phase⟩, ⟨25, .phase⟩, ⟨26, .phase⟩, ⟨27, .phase⟩, ⟨28, .phase⟩, ⟨29, .phase⟩, ⟨30, .phase⟩, ⟨31, .phase⟩, ⟨32, .phase⟩, ⟨33, .phase⟩, ⟨34, .phase⟩, ⟨35, .phase⟩, ⟨36, .phase⟩, ⟨37, .phase⟩], none⟩) rfl ?_
  try simp only [Act.put, pA, pB, pC]
  refine wpAnyH_done (by kernel_rfl) ?_ _
  go_wp2
  go_ret
  exact ⟨rfl, g3⟩
set_option maxRecDepth 20000 in
set_option maxHeartbeats 8000000 in
theorem same_t {w : World} {p q : Bp} {S S' : Sb} {K K' : Nat} (hp : BkAt w p S K) (hq : BkAt w q S' K') (hw : S.Wk) (hw' : S'.Wk) (ha : S'.a = S.a) (hb : S'.b = S.b) (hn : S.n = S'.n) (ht : S.t ≠ S'.t) : Calls Tryz.prog 34 #[.pointer (some ⟨p.b, 0, none⟩), .pointer (some ⟨q.b, 0, none⟩)] w fun e w' => e = .returned (.bool false) ∧ w.grownBy w' none := by
  have HN1 := hide hp.isNone
  have HN2 := hide hq.isNone
  have HL : Hid (∀ W, Calls Tryz.prog 65 #[limV S.a S.b S.c, limV S.a S.b S'.c] W fun e w' => e = .returned (.bool true) ∧ W.grownBy w' none) := fun W => isLike_eq _ _ _ _ W
  have HB1 : Hid (∀ W, w.grownBy W none → Calls Tryz.prog 67 #[.pointer (some ⟨p.b, 0, none⟩)] W fun e w' => ∃ v, e = .returned v ∧ BgA w' v S.L ∧ W.grownBy w' none) := by
    intro W hW
    refine (bookings_any (hp.then hW) hw).mono ?_
    rintro e w' ⟨v, rfl, h1, h2⟩
    exact ⟨v, rfl, BgA.own h1, h2⟩
  have HB2 : Hid (∀ W, w.grownBy W none → Calls Tryz.prog 67 #[.pointer (some ⟨q.b, 0, none⟩)] W fun e w' => ∃ v, e = .returned v ∧ BgA w' v S'.L ∧ W.grownBy w' none) := by
    intro W hW
    refine (bookings_any (hq.then hW) hw').mono ?_
    rintro e w' ⟨v, rfl, h1, h2⟩
    exact ⟨v, rfl, BgA.own h1, h2⟩
  obtain ⟨res, hres⟩ : ∃ res, res = decide (S.L = S'.L) := ⟨_, rfl⟩
  have HE : Hid (∀ W v u, BgA W v S.L → BgA W u S'.L → Calls Tryz.prog 66 #[v, u] W fun e w' => e = .returned (.bool res) ∧ W.grownBy w' none) := by
    intro W v u h1 h2
    rw [hres]
    exact equal_any h1 h2 (by have := hw.few; have := hw.b1; omega)
  have HK : Hid (∀ W, w.grownBy W none → (W.cell? ⟨p.b, 0, none⟩ = some (.int .i64 (S.a : Int)) ∧ W.cell? ⟨p.b, 1, none⟩ = some (.int .i64 (S.b : Int)) ∧ W.cell? ⟨p.b, 2, none⟩ = some (.int .i64 (S.c : Int)) ∧ W.cell? ⟨p.b, 4, none⟩ = some (.int .u32 (S.n : Int)) ∧ W.cell? ⟨p.b, 5, none⟩ = some (.int .i64 S.t)) ∧ W.cell? ⟨q.b, 0, none⟩ = some (.int .i64 (S.a : Int)) ∧ W.cell? ⟨q.b, 1, none⟩ = some (.int .i64 (S.b : Int)) ∧ W.cell? ⟨q.b, 2, none⟩ = some (.int .i64 (S'.c : Int)) ∧ W.cell? ⟨q.b, 4, none⟩ = some (.int .u32 (S'.n : Int)) ∧ W.cell? ⟨q.b, 5, none⟩ = some (.int .i64 S'.t)) := fun W hW =>
    ⟨⟨(hp.then hW).cells 0 _ rfl, (hp.then hW).cells 1 _ rfl, (hp.then hW).cells 2 _ rfl, (hp.then hW).cells 4 _ rfl, (hp.then hW).cells 5 _ rfl⟩, by have := (hq.then hW).cells 0 _ rfl; rw [ha] at this; exact this, by have := (hq.then hW).cells 1 _ rfl; rw [hb] at this; exact this, (hq.then hW).cells 2 _ rfl, (hq.then hW).cells 4 _ rfl, (hq.then hW).cells 5 _ rfl⟩
  have hK0 := HK.out w (grown_refl _ _)
  rw [← hn] at HK hK0
  clear hp hq hw hw' ha hb hn hres HE HB1 HB2
  unfold limV at HL
  generalize (S.n : Int) = n at *
  generalize S.t = t at *
  generalize S'.t = t' at *
  have f1 : (t == t') = false := by simpa using ht
  have f2 : decide (t = t') = false := by simpa using ht
  clear ht
  generalize (S.a : Int) = a at *
  generalize (S.b : Int) = b at *
  generalize (S.c : Int) = c at *
  generalize (S'.c : Int) = c' at *
  go_enter Tryz.func34, Tryz.ntmps34
  go_wp2_with fail
  refine HN1.out.mono ?_
  rintro e w1 ⟨rfl, rfl⟩
  go_wp2_with fail
  refine HN2.out.mono ?_
  rintro e w2 ⟨rfl, rfl⟩
  go_wp2
  refine wp_region_held_drew (S := (fun W => (W.cell? ⟨p.b, 0, none⟩ = some (.int .i64 a) ∧ W.cell? ⟨p.b, 1, none⟩ = some (.int .i64 b) ∧ W.cell? ⟨p.b, 2, none⟩ = some (.int .i64 c) ∧ W.cell? ⟨p.b, 4, none⟩ = some (.int .u32 n) ∧ W.cell? ⟨p.b, 5, none⟩ = some (.int .i64 t)) ∧ W.cell? ⟨q.b, 0, none⟩ = some (.int .i64 a) ∧ W.cell? ⟨q.b, 1, none⟩ = some (.int .i64 b) ∧ W.cell? ⟨q.b, 2, none⟩ = some (.int .i64 c') ∧ W.cell? ⟨q.b, 4, none⟩ = some (.int .u32 n) ∧ W.cell? ⟨q.b, 5, none⟩ = some (.int .i64 t'))) (by kernel_rfl) ?_ (fun hHeld => ?_)
  · (exact hK0)
  refine tkQ 0 (oi := ⟨some 11, .move (.tmp 0), 27, "book.go:177", #[], none⟩) rfl ?_
  try simp only [Act.put, pA, pB, pC]
  refine tkQ 1 (oi := ⟨some 12, .nilCheck (.tmp 11), 0, "book.go:177", #[⟨0, .data⟩], none⟩) rfl ?_
  try simp only [Act.put, pA, pB, pC]
  refine tkQ 2 (oi := ⟨some 13, .fieldAddr 37 (.tmp 12) 0, 0, "book.go:177", #[⟨1, .data⟩], none⟩) rfl ?_
  try simp only [Act.put, pA, pB, pC]
  refine tkQ 3 (oi := ⟨some 14, .load 29 (.tmp 13), 29, "book.go:177", #[⟨2, .data⟩], none⟩) rfl ?_
  try simp only [Act.put, pA, pB, pC]
  refine tkQ 4 (oi := ⟨some 15, .move (.tmp 1), 27, "book.go:177", #[], none⟩) rfl ?_
  try simp only [Act.put, pA, pB, pC]
  refine tkQ 5 (oi := ⟨some 16, .nilCheck (.tmp 15), 0, "book.go:177", #[⟨4, .data⟩], none⟩) rfl ?_
  try simp only [Act.put, pA, pB, pC]
  refine tkQ 6 (oi := ⟨some 17, .fieldAddr 37 (.tmp 16) 0, 0, "book.go:177", #[⟨5, .data⟩], none⟩) rfl ?_
  try simp only [Act.put, pA, pB, pC]
  refine tkQ 7 (oi := ⟨some 18, .load 29 (.tmp 17), 29, "book.go:177", #[⟨6, .data⟩], none⟩) rfl ?_
  try simp only [Act.put, pA, pB, pC]
  refine rdH (i := 8) rfl (fun K hK => ?_)
  go_simp
  refine (HL.out _).mono ?_
  rintro e w3 ⟨rfl, hg3⟩
  have g3 := grown_trans (grown_drew _ none) hg3
  have hK3 := HK.out _ g3
  go_wp2_with fail
  refine hK.out _ _ ?_ (fun hHeld => ?_)
  · ((try dsimp only); first | exact hK3 | assumption)
  clear hK K
  try simp only [Act.put, pA, pB, pC]
  refine tkQ 9 (oi := ⟨some 20, .move (.tmp 19), 4, "book.go:177", #[⟨8, .data⟩, ⟨8, .chain⟩], none⟩) rfl ?_
  try simp only [Act.put, pA, pB, pC]
  refine tkQ 10 (oi := ⟨some 21, .move (.tmp 0), 27, "book.go:177", #[⟨9, .guard⟩], some (9, true)⟩) rfl ?_
  try simp only [Act.put, pA, pB, pC]
  refine tkQ 11 (oi := ⟨some 22, .nilCheck (.tmp 21), 0, "book.go:177", #[⟨10, .data⟩, ⟨9, .guard⟩], some (9, true)⟩) rfl ?_
  try simp only [Act.put, pA, pB, pC]
  refine tkQ 12 (oi := ⟨some 23, .fieldAddr 37 (.tmp 22) 2, 0, "book.go:177", #[⟨11, .data⟩, ⟨9, .guard⟩], some (9, true)⟩) rfl ?_
  try simp only [Act.put, pA, pB, pC]
  refine tkQ 13 (oi := ⟨some 24, .load 30 (.tmp 23), 30, "book.go:177", #[⟨12, .data⟩, ⟨9, .guard⟩], some (9, true)⟩) rfl ?_
  try simp only [Act.put, pA, pB, pC]
  refine tkQ 14 (oi := ⟨some 25, .move (.tmp 1), 27, "book.go:177", #[⟨9, .guard⟩], some (9, true)⟩) rfl ?_
  try simp only [Act.put, pA, pB, pC]
  refine tkQ 15 (oi := ⟨some 26, .nilCheck (.tmp 25), 0, "book.go:177", #[⟨14, .data⟩, ⟨9, .guard⟩], some (9, true)⟩) rfl ?_
  try simp only [Act.put, pA, pB, pC]
  refine tkQ 16 (oi := ⟨some 27, .fieldAddr 37 (.tmp 26) 2, 0, "book.go:177", #[⟨15, .data⟩, ⟨9, .guard⟩], some (9, true)⟩) rfl ?_
  try simp only [Act.put, pA, pB, pC]
  refine tkQ 17 (oi := ⟨some 28, .load 30 (.tmp 27), 30, "book.go:177", #[⟨16, .data⟩, ⟨9, .guard⟩], some (9, true)⟩) rfl ?_
  try simp only [Act.put, pA, pB, pC]
  refine tkQ 18 (oi := ⟨some 29, .binOp .eql 30 (.tmp 24) (.tmp 28) 30, 4, "book.go:177", #[⟨13, .data⟩, ⟨17, .data⟩, ⟨9, .guard⟩], some (9, true)⟩) rfl ?_
  try simp only [Act.put, pA, pB, pC]
  refine tkQ 19 (oi := ⟨some 30, .pick (.tmp 20) (.tmp 29) (.const (.bool false)), 4, "book.go:177", #[⟨9, .data⟩, ⟨18, .data⟩], none⟩) rfl ?_
  try simp only [Act.put, pA, pB, pC]
  refine tkQ 20 (oi := ⟨some 31, .move (.tmp 30), 4, "book.go:177", #[⟨19, .data⟩, ⟨9, .chain⟩], none⟩) rfl ?_
  try simp only [Act.put, pA, pB, pC]
  refine tkQ 21 (oi := ⟨some 32, .move (.tmp 0), 27, "book.go:177", #[⟨20, .guard⟩], some (20, true)⟩) rfl ?_
  try simp only [Act.put, pA, pB, pC]
  refine tkQ 22 (oi := ⟨some 33, .nilCheck (.tmp 32), 0, "book.go:177", #[⟨21, .data⟩, ⟨20, .guard⟩], some (20, true)⟩) rfl ?_
  try simp only [Act.put, pA, pB, pC]
  refine tkQ 23 (oi := ⟨some 34, .fieldAddr 37 (.tmp 33) 3, 0, "book.go:177", #[⟨22, .data⟩, ⟨20, .guard⟩], some (20, true)⟩) rfl ?_
  try simp only [Act.put, pA, pB, pC]
  refine tkQ 24 (oi := ⟨some 35, .load 2 (.tmp 34), 2, "book.go:177", #[⟨23, .data⟩, ⟨20, .guard⟩], some (20, true)⟩) rfl ?_
  try simp only [Act.put, pA, pB, pC]
  refine tkQ 25 (oi := ⟨some 36, .move (.tmp 1), 27, "book.go:177", #[⟨20, .guard⟩], some (20, true)⟩) rfl ?_
  try simp only [Act.put, pA, pB, pC]
  refine tkQ 26 (oi := ⟨some 37, .nilCheck (.tmp 36), 0, "book.go:177", #[⟨25, .data⟩, ⟨20, .guard⟩], some (20, true)⟩) rfl ?_
  try simp only [Act.put, pA, pB, pC]
  refine tkQ 27 (oi := ⟨some 38, .fieldAddr 37 (.tmp 37) 3, 0, "book.go:177", #[⟨26, .data⟩, ⟨20, .guard⟩], some (20, true)⟩) rfl ?_
  try simp only [Act.put, pA, pB, pC]
  refine tkQ 28 (oi := ⟨some 39, .load 2 (.tmp 38), 2, "book.go:177", #[⟨27, .data⟩, ⟨20, .guard⟩], some (20, true)⟩) rfl ?_
  try simp only [Act.put, pA, pB, pC]
  refine tkQ 29 (oi := ⟨some 40, .binOp .eql 2 (.tmp 35) (.tmp 39) 2, 4, "book.go:177", #[⟨24, .data⟩, ⟨28, .data⟩, ⟨20, .guard⟩], some (20, true)⟩) rfl ?_
  try simp only [Act.put, pA, pB, pC]
  refine tkQ 30 (oi := ⟨some 41, .pick (.tmp 31) (.tmp 40) (.const (.bool false)), 4, "book.go:177", #[⟨20, .data⟩, ⟨29, .data⟩], none⟩) rfl ?_
  try simp only [Act.put, pA, pB, pC]
  refine tkQ 31 (oi := ⟨some 42, .move (.tmp 41), 4, "book.go:177", #[⟨30, .data⟩, ⟨20, .chain⟩], none⟩) rfl ?_
  try simp only [Act.put, pA, pB, pC]
  refine skH 32 (oi := ⟨some 43, .move (.tmp 0), 27, "book.go:177", #[⟨31, .guard⟩], some (31, true)⟩) rfl ?_
  try simp only [Act.put, pA, pB, pC]
  refine skH 33 (oi := ⟨some 44, .call { callee := .value (.func 67), args := #[.tmp 43], argTypes := #[27] }, 32, "book.go:177", #[⟨32, .data⟩, ⟨31, .chain⟩, ⟨31, .guard⟩], some (31, true)⟩) rfl ?_
  try simp only [Act.put, pA, pB, pC]
  refine skH 34 (oi := ⟨some 45, .move (.tmp 1), 27, "book.go:177", #[⟨31, .guard⟩], some (31, true)⟩) rfl ?_
  try simp only [Act.put, pA, pB, pC]
  refine skH 35 (oi := ⟨some 46, .call { callee := .value (.func 67), args := #[.tmp 45], argTypes := #[27] }, 32, "book.go:177", #[⟨34, .data⟩, ⟨33, .chain⟩, ⟨31, .guard⟩], some (31, true)⟩) rfl ?_
  try simp only [Act.put, pA, pB, pC]
  refine skH 36 (oi := ⟨some 47, .call { callee := .value (.func 66), args := #[.tmp 44, .tmp 46], argTypes := #[32, 32] }, 4, "book.go:177", #[⟨33, .data⟩, ⟨35, .data⟩, ⟨35, .chain⟩, ⟨31, .guard⟩], some (31, true)⟩) rfl ?_
  try simp only [Act.put, pA, pB, pC]
  refine tkQ 37 (oi := ⟨some 48, .pick (.tmp 42) (.tmp 47) (.const (.bool false)), 4, "book.go:177", #[⟨31, .data⟩, ⟨36, .data⟩], none⟩) rfl ?_
  try simp only [Act.put, pA, pB, pC]
  refine tkQ 38 (oi := ⟨some 4, .assign (.tmp 48), 4, "book.go:177", #[⟨37, .data⟩, ⟨36, .chain⟩, ⟨0, .phase⟩, ⟨1, .phase⟩, ⟨2, .phase⟩, ⟨3, .phase⟩, ⟨4, .phase⟩, ⟨5, .phase⟩, ⟨6, .phase⟩, ⟨7, .phase⟩, ⟨8, .phase⟩, ⟨9, .phase⟩, ⟨10, .phase⟩, ⟨11, .phase⟩, ⟨12, .phase⟩, ⟨13, .phase⟩, ⟨14, .phase⟩, ⟨15, .phase⟩, ⟨16, .phase⟩, ⟨17, .phase⟩, ⟨18, .phase⟩, ⟨19, .phase⟩, ⟨20, .phase⟩, ⟨21, .phase⟩, ⟨22, .phase⟩, ⟨23, .phase⟩, ⟨24, .phase⟩, ⟨25, .phase⟩, ⟨26, .phase⟩, ⟨27, .phase⟩, ⟨28, .phase⟩, ⟨29, .phase⟩, ⟨30, .phase⟩, ⟨31, .phase⟩, ⟨32, .phase⟩, ⟨33, .phase⟩, ⟨34, .phase⟩, ⟨35, .phase⟩, ⟨36, .phase⟩, ⟨37, .phase⟩], none⟩) rfl ?_
  try simp only [Act.put, pA, pB, pC]
  refine wpAnyH_done (by kernel_rfl) ?_ _
  go_wp2
  go_ret
  exact ⟨rfl, g3⟩
set_option maxRecDepth 20000 in
set_option maxHeartbeats 8000000 in
theorem same_l {w : World} {p q : Bp} {S S' : Sb} {K K' : Nat} (hp : BkAt w p S K) (hq : BkAt w q S' K') (hw : S.Wk) (hw' : S'.Wk) (ha : S'.a = S.a) (hb : S'.b = S.b) (hn : S.n = S'.n) (ht : S.t = S'.t) : Calls Tryz.prog 34 #[.pointer (some ⟨p.b, 0, none⟩), .pointer (some ⟨q.b, 0, none⟩)] w fun e w' => e = .returned (.bool (decide (S.L = S'.L))) ∧ w.grownBy w' none := by
  have HN1 := hide hp.isNone
  have HN2 := hide hq.isNone
  have HL : Hid (∀ W, Calls Tryz.prog 65 #[limV S.a S.b S.c, limV S.a S.b S'.c] W fun e w' => e = .returned (.bool true) ∧ W.grownBy w' none) := fun W => isLike_eq _ _ _ _ W
  have HB1 : Hid (∀ W, w.grownBy W none → Calls Tryz.prog 67 #[.pointer (some ⟨p.b, 0, none⟩)] W fun e w' => ∃ v, e = .returned v ∧ BgA w' v S.L ∧ W.grownBy w' none) := by
    intro W hW
    refine (bookings_any (hp.then hW) hw).mono ?_
    rintro e w' ⟨v, rfl, h1, h2⟩
    exact ⟨v, rfl, BgA.own h1, h2⟩
  have HB2 : Hid (∀ W, w.grownBy W none → Calls Tryz.prog 67 #[.pointer (some ⟨q.b, 0, none⟩)] W fun e w' => ∃ v, e = .returned v ∧ BgA w' v S'.L ∧ W.grownBy w' none) := by
    intro W hW
    refine (bookings_any (hq.then hW) hw').mono ?_
    rintro e w' ⟨v, rfl, h1, h2⟩
    exact ⟨v, rfl, BgA.own h1, h2⟩
  obtain ⟨res, hres⟩ : ∃ res, res = decide (S.L = S'.L) := ⟨_, rfl⟩
  have HE : Hid (∀ W v u, BgA W v S.L → BgA W u S'.L → Calls Tryz.prog 66 #[v, u] W fun e w' => e = .returned (.bool res) ∧ W.grownBy w' none) := by
    intro W v u h1 h2
    rw [hres]
    exact equal_any h1 h2 (by have := hw.few; have := hw.b1; omega)
  have HK : Hid (∀ W, w.grownBy W none → (W.cell? ⟨p.b, 0, none⟩ = some (.int .i64 (S.a : Int)) ∧ W.cell? ⟨p.b, 1, none⟩ = some (.int .i64 (S.b : Int)) ∧ W.cell? ⟨p.b, 2, none⟩ = some (.int .i64 (S.c : Int)) ∧ W.cell? ⟨p.b, 4, none⟩ = some (.int .u32 (S.n : Int)) ∧ W.cell? ⟨p.b, 5, none⟩ = some (.int .i64 S.t)) ∧ W.cell? ⟨q.b, 0, none⟩ = some (.int .i64 (S.a : Int)) ∧ W.cell? ⟨q.b, 1, none⟩ = some (.int .i64 (S.b : Int)) ∧ W.cell? ⟨q.b, 2, none⟩ = some (.int .i64 (S'.c : Int)) ∧ W.cell? ⟨q.b, 4, none⟩ = some (.int .u32 (S'.n : Int)) ∧ W.cell? ⟨q.b, 5, none⟩ = some (.int .i64 S'.t)) := fun W hW =>
    ⟨⟨(hp.then hW).cells 0 _ rfl, (hp.then hW).cells 1 _ rfl, (hp.then hW).cells 2 _ rfl, (hp.then hW).cells 4 _ rfl, (hp.then hW).cells 5 _ rfl⟩, by have := (hq.then hW).cells 0 _ rfl; rw [ha] at this; exact this, by have := (hq.then hW).cells 1 _ rfl; rw [hb] at this; exact this, (hq.then hW).cells 2 _ rfl, (hq.then hW).cells 4 _ rfl, (hq.then hW).cells 5 _ rfl⟩
  have hK0 := HK.out w (grown_refl _ _)
  rw [← hn, ← ht] at HK hK0
  rw [← hres]
  clear hp hq hw hw' ha hb hn ht hres
  unfold limV at HL
  generalize (S.n : Int) = n at *
  generalize S.t = t at *
  generalize (S.a : Int) = a at *
  generalize (S.b : Int) = b at *
  generalize (S.c : Int) = c at *
  generalize (S'.c : Int) = c' at *
  go_enter Tryz.func34, Tryz.ntmps34
  go_wp2_with fail
  refine HN1.out.mono ?_
  rintro e w1 ⟨rfl, rfl⟩
  go_wp2_with fail
  refine HN2.out.mono ?_
  rintro e w2 ⟨rfl, rfl⟩
  go_wp2
  go_region_held3 (fun W => (W.cell? ⟨p.b, 0, none⟩ = some (.int .i64 a) ∧ W.cell? ⟨p.b, 1, none⟩ = some (.int .i64 b) ∧ W.cell? ⟨p.b, 2, none⟩ = some (.int .i64 c) ∧ W.cell? ⟨p.b, 4, none⟩ = some (.int .u32 n) ∧ W.cell? ⟨p.b, 5, none⟩ = some (.int .i64 t)) ∧ W.cell? ⟨q.b, 0, none⟩ = some (.int .i64 a) ∧ W.cell? ⟨q.b, 1, none⟩ = some (.int .i64 b) ∧ W.cell? ⟨q.b, 2, none⟩ = some (.int .i64 c') ∧ W.cell? ⟨q.b, 4, none⟩ = some (.int .u32 n) ∧ W.cell? ⟨q.b, 5, none⟩ = some (.int .i64 t)) (first | assumption | exact hK0)
    ((first
      | (go_at_call 65; refine (HL.out _).mono ?_; rintro e w3 ⟨rfl, hg3⟩; have g3 := grown_trans (grown_drew _ none) hg3; have hK3 := HK.out _ g3)
      | (go_at_call_of 67 (Value.pointer (some ⟨p.b, 0, none⟩)); refine (HB1.out _ g3).mono ?_; rintro e w4 ⟨v, rfl, hv4, hg4⟩; have g4 := grown_trans g3 hg4; have hK4 := HK.out _ g4)
      | (go_at_call_of 67 (Value.pointer (some ⟨q.b, 0, none⟩)); refine (HB2.out _ g4).mono ?_; rintro e w5 ⟨u, rfl, hu5, hg5⟩; have g5 := grown_trans g4 hg5; have hK5 := HK.out _ g5; have hv5 := hv4.then hg5)
      | (go_at_call 66; refine (HE.out _ _ _ hv5 hu5).mono ?_; rintro e w6 ⟨rfl, hg6⟩; have g6 := grown_trans g5 hg6; have hK6 := HK.out _ g6)))
  go_wp2
  go_ret
  exact ⟨rfl, g6⟩
/-- Are they the same? -/
def sameS (S S' : Sb) : Bool := decide (S.n = S'.n ∧ S.t = S'.t ∧ S.L = S'.L)
theorem same_any {w : World} {p q : Bp} {S S' : Sb} {K K' : Nat} (hp : BkAt w p S K) (hq : BkAt w q S' K') (hw : S.Wk) (hw' : S'.Wk) (ha : S'.a = S.a) (hb : S'.b = S.b) : Calls Tryz.prog 34 #[.pointer (some ⟨p.b, 0, none⟩), .pointer (some ⟨q.b, 0, none⟩)] w fun e w' => e = .returned (.bool (sameS S S')) ∧ w.grownBy w' none := by
  unfold sameS
  by_cases hn : S.n = S'.n
  · by_cases ht : S.t = S'.t
    · have := same_l hp hq hw hw' ha hb hn ht
      rw [show decide (S.n = S'.n ∧ S.t = S'.t ∧ S.L = S'.L) = decide (S.L = S'.L) by simp [hn, ht]]
      exact this
    · rw [show decide (S.n = S'.n ∧ S.t = S'.t ∧ S.L = S'.L) = false by simp [ht]]
      exact same_t hp hq hw hw' ha hb hn ht
  · rw [show decide (S.n = S'.n ∧ S.t = S'.t ∧ S.L = S'.L) = false by simp [hn]]
    exact same_n hp hq hw hw' ha hb hn
end Go.Proofs.YtinkkocleognbaaGreatDoor
/- Texts joined: Rp5, Rp6, Rp7, Rn. -/
namespace Go.Proofs.YtinkkocleognbaaGreatDoor
/- Find. -/
open Go.RowKit Go.Shelf
attribute [local go_sem ↓] Go.wp_at_zero Go.wp_at_succ
attribute [local go_sem] Oper.semAt_some
/-- The first of the numbers up to n, not below fr, of which g is so. -/
def fiR (g : Nat → Bool) (fr : Int) (n : Nat) : Option Nat := (List.range (n + 1)).find? fun k => decide (fr ≤ (k : Int)) && g k
def fiV : Option Nat → Value
  | some k => .tuple #[.int .i64 (k : Int), .bool true]
  | none => .tuple #[.int .i64 0, .bool false]
theorem find_range {n : Nat} {q : Nat → Bool} {k : Nat} (hk : k < n) (hq : q k = true) (hn : ∀ j, j < k → q j = false) : (List.range n).find? q = some k := by
  induction n with
  | zero => omega
  | succ n ih =>
    rw [List.range_succ, List.find?_append]
    by_cases h : k < n
    · rw [ih h]; rfl
    · obtain rfl : k = n := by omega
      have : (List.range k).find? q = none := by
        rw [List.find?_eq_none]
        intro x hx
        rw [hn x (by simpa using hx)]
        simp
      rw [this]
      simp [hq]
theorem fiR_some {g : Nat → Bool} {fr : Int} {n k : Nat} (hk : k ≤ n) (h1 : fr ≤ (k : Int)) (h2 : g k = true) (hn : ∀ j, j < k → ¬ (fr ≤ (j : Int) ∧ g j = true)) : fiR g fr n = some k := by
  refine find_range (by omega) (by simp [h1, h2]) (fun j hj => ?_)
  have := hn j hj
  cases hg : g j with
  | false => simp
  | true => simp only [Bool.and_true, decide_eq_false_iff_not]; exact fun e => this ⟨e, hg⟩
theorem fiR_none {g : Nat → Bool} {fr : Int} {n : Nat} (hn : ∀ j, j ≤ n → ¬ (fr ≤ (j : Int) ∧ g j = true)) : fiR g fr n = none := by
  unfold fiR
  rw [List.find?_eq_none]
  intro j hj
  have := hn j (by have := List.mem_range.1 hj; omega)
  simp only [Bool.and_eq_true, decide_eq_true_eq]
  exact this
theorem results_find (tmps : Array Value) (w : World) (g1 g2 : Nat) (v v' : Value) (hp : tmps.getD 8 undef = .pointer (some ⟨g1, 0, none⟩)) (hu : tmps.getD 9 undef = .pointer (some ⟨g2, 0, none⟩)) (hc : w.cell? ⟨g1, 0, none⟩ = some v) (hd : w.cell? ⟨g2, 0, none⟩ = some v') :
    (results Tryz.f11 tmps).run Tryz.prog w = .ok (.tuple #[v, v']) w := by
  have hp' : tmps[8]?.getD undef = .pointer (some ⟨g1, 0, none⟩) := by simpa using hp
  have hu' : tmps[9]?.getD undef = .pointer (some ⟨g2, 0, none⟩) := by simpa using hu
  simp [results, hp', hu', asAddr]
  go_simp
theorem keep1 (w : World) (o : Obj) {i : Nat} {x : Obj} (h : w.heap[i]? = some x) : (w.alloc o).heap[i]? = some x := ((grown_alloc w o).block _ (row_lt h) (by simp)).trans h
/-- Boxes, one behind the other. -/
theorem boxes5 (w : World) (o0 o1 o2 o3 o4 : Obj) : ∃ W, ((((w.alloc o0).alloc o1).alloc o2).alloc o3).alloc o4 = W ∧ w.grownBy W none ∧ W.heap.size = w.heap.size + 5 ∧ W.heap[w.heap.size]? = some o0 ∧ W.heap[w.heap.size + 1]? = some o1 ∧ W.heap[w.heap.size + 2]? = some o2 ∧ W.heap[w.heap.size + 3]? = some o3 ∧ W.heap[w.heap.size + 4]? = some o4 := by
  refine ⟨_, rfl, gn_alloc (gn_alloc (gn_alloc (gn_alloc (grown_alloc w _) _) _) _) _, ?_, ?_, ?_, ?_, ?_, ?_⟩
  · simp only [World.size_alloc]
  · exact keep1 _ _ (keep1 _ _ (keep1 _ _ (keep1 _ _ (heap_alloc_new w o0))))
  · have := heap_alloc_new (w.alloc o0) o1; rw [World.size_alloc] at this; exact keep1 _ _ (keep1 _ _ (keep1 _ _ this))
  · have := heap_alloc_new ((w.alloc o0).alloc o1) o2; rw [World.size_alloc, World.size_alloc] at this; exact keep1 _ _ (keep1 _ _ this)
  · have := heap_alloc_new (((w.alloc o0).alloc o1).alloc o2) o3; rw [World.size_alloc, World.size_alloc, World.size_alloc] at this; exact keep1 _ _ this
  · have := heap_alloc_new ((((w.alloc o0).alloc o1).alloc o2).alloc o3) o4; rw [World.size_alloc, World.size_alloc, World.size_alloc, World.size_alloc] at this; exact this
/-- Inside Find, between two states. -/
structure FiI (w6 W : World) (g : Nat → Bool) (fr : Int) (pre : List (Nat × Bp)) (O : Nat → Prop) : Prop where
  gr : w6.grownBy W none
  no : ∀ i, O i → w6.heap.size ≤ i
  ne : ∀ j, j < pre.length → ¬ (fr ≤ (j : Int) ∧ g j = true)
theorem kept_grown {w6 A B : World} {O : Nat → Prop} (h : w6.grownBy A none) (k : Kept A B O) (hO : ∀ i, O i → w6.heap.size ≤ i) : w6.grownBy B none :=
  ((Kept.new h (fun i => w6.heap.size ≤ i)).trans k (fun i _ e => hO i e)).grown (fun i hi e => by omega)
theorem own_from {w6 A : World} {O O' : Nat → Prop} (h : w6.grownBy A none) (hO : ∀ i, O i → w6.heap.size ≤ i) (hOO : ∀ i, O' i → O i ∨ A.heap.size ≤ i) : ∀ i, O' i → w6.heap.size ≤ i := fun i hi => by
  rcases hOO i hi with e | e
  · exact hO i e
  · exact Nat.le_trans h.size e
theorem FiI.goes (w6 : World) (g : Nat → Bool) (fr : Int) : Goes (fun pre O W => FiI w6 W g fr pre O) := fun _ _ _ _ _ h k hOO => ⟨kept_grown h.gr k h.no, own_from h.gr h.no hOO, h.ne⟩
/-- Behind one that was found. -/
structure FiX (w w6 W : World) (B3 B4 : Nat) (g : Nat → Bool) (fr : Int) (n : Nat) (c : Code) (O : Nat → Prop) : Prop where
  cd : c = .ret
  fd : ∃ k, fiR g fr n = some k ∧ W.heap[B3]? = some (.cells [Value.int .i64 (k : Int)].toArray 3 (0, 0)) ∧ W.heap[B4]? = some (.cells [Value.bool true].toArray 4 (0, 0))
  gr : w.grownBy W none
  no : ∀ i, O i → w6.heap.size ≤ i
  sz : w6.heap.size ≤ W.heap.size
theorem FiX.goes {w w6 : World} {B3 B4 : Nat} {g : Nat → Bool} {fr : Int} {n : Nat} (h3 : B3 < w6.heap.size) (h4 : B4 < w6.heap.size) (hw : w.heap.size ≤ w6.heap.size) (c : Code) : Goes (fun (_ : List (Nat × Bp)) O W => FiX w w6 W B3 B4 g fr n c O) := fun _ O O' A B h k hOO => by
  obtain ⟨j, e, e1, e2⟩ := h.fd
  refine ⟨h.cd, ⟨j, e, k.at e1 (fun x => by have := h.no _ x; omega), k.at e2 (fun x => by have := h.no _ x; omega)⟩, kept_grown h.gr k (fun i hi => Nat.le_trans hw (h.no i hi)), fun i hi => ?_, Nat.le_trans h.sz k.size⟩
  rcases hOO i hi with e | e
  · exact h.no i e
  · exact Nat.le_trans h.sz e
set_option maxRecDepth 100000 in
set_option maxHeartbeats 16000000 in
theorem rfind_any {w : World} {a b c : Nat} (ho : Gx.OkS a b c) {ao : Option Addr} {cap : Nat} {rs : List Rc} (hR : RecsAt w ao rs) (hO : ∀ r ∈ rs, r.Ok) (hl : rs.length ≤ 10000) (hT : Rk.Tab w) (fr : Int) (bv : Option Addr) (g : Nat → Bool)
    (hS : ∀ W k p, w.grownBy W none → k ≤ rn (nS a b c) rs → BkAt W p (fo (nS a b c) rs k) 4096 → Calls Tryz.prog 34 #[.pointer (some ⟨p.b, 0, none⟩), .pointer bv] W fun e w' => e = .returned (.bool (g k)) ∧ W.grownBy w' none) :
    Calls Tryz.prog 11 #[limV a b c, .slice ao rs.length cap, .int .i64 fr, .pointer bv] w fun e w' => e = .returned (fiV (fiR g fr (rn (nS a b c) rs))) ∧ w.grownBy w' none := by
  obtain ⟨w5, hw5, g5, z5, b0, b1, b2, b3, b4⟩ := boxes5 w (.cells #[.int .i64 (a : Int), .int .i64 (b : Int), .int .i64 (c : Int)] 23) (.cells #[.int .i64 fr] 3) (.cells #[.pointer bv] 27) (.cells #[.int .i64 0] 3) (.cells #[.bool false] 4)
  have HSt := hide (states_any (a := (a : Int)) (b := (b : Int)) (c := (c : Int)) (cap := cap) (hR.grown g5) hO hl (hT.new g5))
  have HS := hide hS
  have HW5 := hide hw5
  have c0 := Ge.cell3 b0
  have HG5 := hide (And.intro g5 (And.intro b1 (And.intro b2 (And.intro b3 b4))))
  have s0 := c0 0
  have s1 := c0 1
  have s2 := c0 2
  simp only [Ge.getElem?_v0, Ge.getElem?_v1, Ge.getElem?_v2] at s0 s1 s2
  clear hR hO hT hS hw5 b0 b1 b2 b3 b4 g5 c0
  unfold limV
  refine (callsIn_wide (n := 6)).1 (callsIn_of_wp_marks Tryz.func11 rfl trivial ?_ rfl)
  simp only [Tryz.ntmps11, List.size_toArray, List.length_cons, List.length_nil, Nat.reduceAdd, Nat.reduceSub, Array.replicate_succ, Array.replicate_zero, List.push_toArray, List.append_toArray, List.nil_append, List.cons_append]
  refine wpIn_wide.2 ?_
  have HSt2 := HSt
  rw [← HW5.out] at HSt
  go_wp2_with fail
  refine HSt.out.mono ?_
  rw [HW5.out]
  rintro e w6 ⟨v, rfl, ⟨Bs, Bl, so, cap', rfl, hI, hB⟩, g6⟩
  clear HSt HSt2 s0 s1 s2
  have z6 := g6.size
  have k1 : w6.heap[w.heap.size + 1]? = some (.cells [Value.int .i64 fr].toArray 3 (0, 0)) := (g6.block _ (row_lt HG5.out.2.1) (by simp)).trans HG5.out.2.1
  have k2 : w6.heap[w.heap.size + 2]? = some (.cells [Value.pointer bv].toArray 27 (0, 0)) := (g6.block _ (row_lt HG5.out.2.2.1) (by simp)).trans HG5.out.2.2.1
  have k3 : w6.heap[w.heap.size + 3]? = some (.cells [Value.int .i64 0].toArray 3 (0, 0)) := (g6.block _ (row_lt HG5.out.2.2.2.1) (by simp)).trans HG5.out.2.2.2.1
  have k4 : w6.heap[w.heap.size + 4]? = some (.cells [Value.bool false].toArray 4 (0, 0)) := (g6.block _ (row_lt HG5.out.2.2.2.2) (by simp)).trans HG5.out.2.2.2.2
  have gw6 := grown_trans HG5.out.1 g6
  have HK := hide (And.intro k1 (And.intro k2 (And.intro k3 (And.intro k4 gw6))))
  have HI := hide (And.intro hI hB)
  have hz6 : w.heap.size + 5 ≤ w6.heap.size := by omega
  clear k1 k2 k3 k4 gw6 hI hB g6 HG5 HW5
  go_wp2
  refine (wpIn_wide (n := 6)).1 (wpIn_range_F (w := w6) rfl (by decide) (gf := 41) (lb := #[.pointer (some ⟨Bs, 0, none⟩), .pointer (some ⟨Bl, 0, none⟩)]) rfl trivial (enters_of Tryz.func41 (by kernel_rfl) rfl)
    (encs := encS) (R := stR Bs Bl so rs.length) (E := fun x => x.2.own) (V := StV (nS a b c) rs) (S := fun xs => xs.length = rn (nS a b c) rs + 1)
    HI.out.1.lt (fun W hW => st_seq 5 (by decide) Bs Bl a b c ho so cap' rs W (HI.out.1.grown hW)) (fun _ => rfl) (fun pre x A B h k => StV.keep h k)
    (fun pre O W => FiI w6 W g fr pre O) (fun cd _ O W => FiX w w6 W (w.heap.size + 3) (w.heap.size + 4) g fr (rn (nS a b c) rs) cd O)
    (FiI.goes w6 g fr) (fun c => FiX.goes (by omega) (by omega) (by omega) c) ⟨grown_refl _ _, fun _ e => e.elim, fun j hj => by simp at hj⟩
    ?fr ?assign ?body ?done ?stop)
  case assign =>
    intro l x W K hK
    simp only [encS]
    gi_wp2
    exact hK
  case body =>
    rintro l pre x O W hI hV hsz hE hO
    have gW := grown_trans HK.out.2.2.2.2 hI.gr
    have hc1 : W.cell? ⟨w.heap.size + 1, 0, none⟩ = some (.int .i64 fr) := by have := cell_row ((hI.gr.block _ (row_lt HK.out.1) (by simp)).trans HK.out.1) 0; simpa using this
    have hc2 : W.cell? ⟨w.heap.size + 1 + 1, 0, none⟩ = some (.pointer bv) := by have := cell_row ((hI.gr.block _ (row_lt HK.out.2.1) (by simp)).trans HK.out.2.1) 0; simpa using this
    have b3 : W.heap[w.heap.size + 3]? = some (.cells [Value.int .i64 0].toArray 3 (0, 0)) := (hI.gr.block _ (row_lt HK.out.2.2.1) (by simp)).trans HK.out.2.2.1
    have b4 : W.heap[w.heap.size + 4]? = some (.cells [Value.bool false].toArray 4 (0, 0)) := (hI.gr.block _ (row_lt HK.out.2.2.2.1) (by simp)).trans HK.out.2.2.2.1
    have HC := hide (HS.out W x.1 x.2 gW hV.2.1 hV.2.2)
    have hx : x.1 = pre.length := hV.1
    have hxn := hV.2.1
    obtain ⟨PQ, hPQ⟩ : ∃ PQ, PQ = postW (fun i => O i ∨ stR Bs Bl so rs.length i) O (fun pre O W => FiI w6 W g fr pre O) (fun cd _ O W => FiX w w6 W (w.heap.size + 3) (w.heap.size + 4) g fr (rn (nS a b c) rs) cd O) (pre ++ [x]) W := ⟨_, rfl⟩
    rw [← hPQ]
    have HPn : Hid (∀ (a' : Act) (W' : World), W.grownBy W' none → ¬ (fr ≤ (x.1 : Int) ∧ g x.1 = true) → PQ .normal a' W') := by
      intro a' W' h1 h2
      rw [hPQ]
      refine ⟨Kept.new h1 _, grown_trans hI.gr h1, hI.no, fun j hj => ?_⟩
      rw [List.length_append] at hj
      by_cases hjp : j < pre.length
      · exact hI.ne j hjp
      · obtain rfl : j = x.1 := by simp at hj; omega
        exact h2
    have HPr : Hid (∀ (a' : Act) (W' : World), W.grownBy W' none → fr ≤ (x.1 : Int) → g x.1 = true → PQ .ret a' ((W'.setCell ⟨w.heap.size + 1 + 1 + 1, 0, none⟩ (.int .i64 (x.1 : Int))).setCell ⟨w.heap.size + 1 + 1 + 1 + 1, 0, none⟩ (.bool true))) := by
      intro a' W' h1 h2 h3
      rw [hPQ]
      have b3' := (h1.block _ (row_lt b3) (by simp)).trans b3
      have b4' := (h1.block _ (row_lt b4) (by simp)).trans b4
      have ks1 := kept_setCell W' (w.heap.size + 3) 0 (.int .i64 (x.1 : Int))
      have ks2 := kept_setCell (W'.setCell ⟨w.heap.size + 3, 0, none⟩ (.int .i64 (x.1 : Int))) (w.heap.size + 4) 0 (.bool true)
      have hno : ∀ i, (i = w.heap.size + 3 ∨ i = w.heap.size + 4) → ¬ (O i ∨ stR Bs Bl so rs.length i) := by
        rintro i hi (e | e)
        · have := (hO i e).1; omega
        · rcases HI.out.2 i e with e | e <;> omega
      have kk : Kept W ((W'.setCell ⟨w.heap.size + 3, 0, none⟩ (.int .i64 (x.1 : Int))).setCell ⟨w.heap.size + 4, 0, none⟩ (.bool true)) (fun i => i = w.heap.size + 3 ∨ i = w.heap.size + 4) := ((Kept.new h1 _).trans ks1 (fun i _ e => .inl e)).trans ks2 (fun i _ e => .inr e)
      refine ⟨kk.mono (fun i _ e => hno i e), rfl, ⟨x.1, fiR_some hxn h2 h3 (fun j hj => hI.ne j (by omega)), ?_, ?_⟩, ?_, hI.no, ?_⟩
      · have := row_setCell b3' 0 (.int .i64 (x.1 : Int))
        exact ks2.at (by simpa using this) (by omega)
      · have := row_setCell (ks1.at b4' (by omega)) 0 (.bool true)
        simpa using this
      · exact kept_grown gW kk (fun i e => by omega)
      · exact Nat.le_trans hI.gr.size kk.size
    have hc3 : ∀ W', W.grownBy W' none → W'.cell? ⟨w.heap.size + 1 + 1 + 1, 0, none⟩ = some (.int .i64 0) ∧ W'.frozen? ⟨w.heap.size + 1 + 1 + 1, 0, none⟩ = false ∧ W'.cell? ⟨w.heap.size + 1 + 1 + 1 + 1, 0, none⟩ = some (.bool false) ∧ W'.frozen? ⟨w.heap.size + 1 + 1 + 1 + 1, 0, none⟩ = false := by
      intro W' h1
      have b3' := (h1.block _ (row_lt b3) (by simp)).trans b3
      have b4' := (h1.block _ (row_lt b4) (by simp)).trans b4
      refine ⟨?_, free_row b3' 0, ?_, free_row b4' 0⟩
      · have := cell_row b3' 0; simpa using this
      · have := cell_row b4' 0; simpa using this
    have HC3 := hide hc3
    clear hc3 hPQ hV hI hE hO b3 b4 gW hx hxn hsz
    generalize hk : x.1 = k at *
    generalize hq : x.2.b = xb at *
    clear hk hq
    by_cases hfr : fr ≤ (k : Int)
    · gi_wp2_with fail
      refine ⟨trivial, ?_⟩
      refine (CallsIn.inRound l (callsIn_wide.2 HC.out)).mono ?_
      rintro e w7 ⟨rfl, g7⟩
      obtain ⟨d1, d2, d3, d4⟩ := HC3.out w7 g7
      cases hg : g k with
      | true =>
        have HF := hide (fun a' => HPr.out a' w7 g7 hfr hg)
        clear HPr HPn g7 hg HC
        gi_wp2
        exact HF.out _
      | false =>
        have HF := hide (fun a' => HPn.out a' w7 g7 (fun e => by rw [hg] at e; exact absurd e.2 (by decide)))
        clear HPr HPn g7 hg HC
        gi_wp2
        exact HF.out _
    · have HF := hide (fun a' => HPn.out a' W (grown_refl _ _) (fun e => hfr e.1))
      clear HPr HPn HC
      gi_wp2
      refine ⟨trivial, ?_⟩
      gi_wp2
      exact HF.out _
  case done =>
    rintro D xs O W hD hS hI hOD hK
    have hR : fiR g fr (rn (nS a b c) rs) = none := fiR_none (fun j hj => hI.ne j (by omega))
    have b3 : W.heap[w.heap.size + 1 + 1 + 1]? = some (.cells [Value.int .i64 0].toArray 3 (0, 0)) := (hI.gr.block _ (row_lt HK.out.2.2.1) (by simp)).trans HK.out.2.2.1
    have b4 : W.heap[w.heap.size + 1 + 1 + 1 + 1]? = some (.cells [Value.bool false].toArray 4 (0, 0)) := (hI.gr.block _ (row_lt HK.out.2.2.2.1) (by simp)).trans HK.out.2.2.2.1
    have c3 : W.cell? ⟨w.heap.size + 1 + 1 + 1, 0, none⟩ = some (.int .i64 0) := by have := cell_row b3 0; simpa using this
    have f3 := free_row b3 0
    have c4 : W.cell? ⟨w.heap.size + 1 + 1 + 1 + 1, 0, none⟩ = some (.bool false) := by have := cell_row b4 0; simpa using this
    have f4 := free_row b4 0
    have ks1 := kept_setCell W (w.heap.size + 1 + 1 + 1) 0 (.int .i64 0)
    have ks2 := kept_setCell (W.setCell ⟨w.heap.size + 1 + 1 + 1, 0, none⟩ (.int .i64 0)) (w.heap.size + 1 + 1 + 1 + 1) 0 (.bool false)
    have kk : Kept W ((W.setCell ⟨w.heap.size + 1 + 1 + 1, 0, none⟩ (.int .i64 0)).setCell ⟨w.heap.size + 1 + 1 + 1 + 1, 0, none⟩ (.bool false)) (fun i => i = w.heap.size + 3 ∨ i = w.heap.size + 4) := ((Kept.refl W _).trans ks1 (fun i _ e => .inl e)).trans ks2 (fun i _ e => .inr e)
    have e3 := ks2.at (row_setCell b3 0 (.int .i64 0)) (by omega)
    have e4 := row_setCell (ks1.at b4 (by omega)) 0 (.bool false)
    have hK2 := kk.at hK (by omega)
    have HX := hide (And.intro hR (And.intro (kept_grown (grown_trans HK.out.2.2.2.2 hI.gr) kk (fun i e => by omega)) (And.intro hK2 (And.intro e3 e4))))
    clear hR b3 b4 ks1 ks2 kk e3 e4 hK2 hI hK hOD HS HK
    go_wp2
    obtain ⟨hR, x1, x2, x3, x4⟩ := HX.out
    refine ⟨by simp, .inl ⟨_, _, rfl, run_takeDeferred x2, ?_⟩⟩
    have kp := Kept.of (grownBy_putObj' ((W.setCell ⟨w.heap.size + 1 + 1 + 1, 0, none⟩ (.int .i64 0)).setCell ⟨w.heap.size + 1 + 1 + 1 + 1, 0, none⟩ (.bool false)) D (.deferred none)) (S := fun i => i = D) (fun j e _ => (Option.some.inj e).symm)
    have y3 := cell_row (kp.at x3 (by omega)) 0
    have y4 := cell_row (kp.at x4 (by omega)) 0
    refine ⟨_, results_find _ _ (w.heap.size + 1 + 1 + 1) (w.heap.size + 1 + 1 + 1 + 1) (.int .i64 0) (.bool false) rfl rfl (by simpa using y3) (by simpa using y4), ?_, ?_⟩
    · rw [hR]; rfl
    · exact kept_grown x1 kp (fun i e => by omega)
  case stop =>
    rintro D cd pre O W hD hX hOD hK
    obtain ⟨rfl, ⟨k, e, b3, b4⟩, gr, -, -⟩ := hX
    have HX := hide (And.intro e (And.intro gr (And.intro hK (And.intro b3 b4))))
    clear e b3 b4 gr hOD hK HS HK
    refine wpIn_wide.2 ?_
    go_wp2
    obtain ⟨hR, x1, x2, x3, x4⟩ := HX.out
    refine ⟨by simp, .inl ⟨_, _, rfl, run_takeDeferred x2, ?_⟩⟩
    have kp := Kept.of (grownBy_putObj' W D (.deferred none)) (S := fun i => i = D) (fun j e _ => (Option.some.inj e).symm)
    have y3 := cell_row (kp.at x3 (by omega)) 0
    have y4 := cell_row (kp.at x4 (by omega)) 0
    refine ⟨_, results_find _ _ (w.heap.size + 1 + 1 + 1) (w.heap.size + 1 + 1 + 1 + 1) (.int .i64 (k : Int)) (.bool true) rfl rfl (by simpa using y3) (by simpa using y4), ?_, ?_⟩
    · rw [hR]; rfl
    · exact kept_grown x1 kp (fun i e => by omega)
end Go.Proofs.YtinkkocleognbaaGreatDoor
namespace Go.Proofs.YtinkkocleognbaaGreatDoor
/- Books that aren't there; shapes that may not be. -/
open Go.RowKit Go.Shelf
attribute [local go_sem ↓] Go.wp_at_zero Go.wp_at_succ
attribute [local go_sem] Oper.semAt_some
/-- No book, whatever is made behind. -/
def NoB (w : World) (v : Value) : Prop := ∀ W, w.grownBy W none → Calls Tryz.prog 64 #[v] W fun e w' => e = .returned (.bool true) ∧ w' = W
theorem NoB.then {w w' : World} {v : Value} (h : NoB w v) (g : w.grownBy w' none) : NoB w' v := fun W k => h W (grown_trans g k)
section
variable {w : World} {v : Value}
end

set_option maxHeartbeats 4000000 in
theorem isNone_no {w : World} {p : Bp} {S : Sb} {K : Nat} (h : BkAt w p S K) (ha : 1 ≤ S.a) : Calls Tryz.prog 36 #[.pointer (some ⟨p.b, 0, none⟩)] w fun e w' => e = .returned (.bool false) ∧ w.grownBy w' none := by
  have HC := hide (shape_any h)
  have f0 : ((S.a : Int) == 0) = false := by simp; omega
  have f1 : decide ((S.a : Int) = 0) = false := by simp; omega
  clear h
  unfold limV at HC
  generalize (S.a : Int) = a at *
  generalize (S.b : Int) = b at *
  generalize (S.c : Int) = c at *
  go_enter Tryz.func36, Tryz.ntmps36
  go_wp2_with fail
  refine HC.out.mono ?_
  rintro e w1 ⟨rfl, g1⟩
  have HG := hide g1
  clear g1 HC
  go_wp2
  go_ret
  exact ⟨rfl, HG.out⟩
end Go.Proofs.YtinkkocleognbaaGreatDoor
namespace Go.Proofs.YtinkkocleognbaaGreatDoor
/- A history whose third record can't be applied; Run of no book. -/
open Go.RowKit Go.Shelf
attribute [local go_sem ↓] Go.wp_at_zero Go.wp_at_succ
attribute [local go_sem] Oper.semAt_some
theorem recs_row {w : World} {B : Nat} {rs : List Rc} (h : w.heap[B]? = some (.cells (rcs rs).toArray 47 (0, 0))) : RecsAt w (some ⟨B, 0, none⟩) rs := by
  intro j r hj
  have key : ∀ o u, o < 5 → (rcc r)[o]? = some u → w.cell? ⟨B, 0 + j * 5 + o, none⟩ = some u := fun o u ho hu => by
    rw [Nat.zero_add, cell_row h]
    exact (rcs_at hj ho).trans hu
  exact ⟨B, 0, rfl, key 0 _ (by decide) rfl, key 1 _ (by decide) rfl, key 2 _ (by decide) rfl, key 3 _ (by decide) rfl, key 4 _ (by decide) rfl⟩
/-- The states of a history, as Find sees them. -/
theorem find_hs {w w2 : World} {a b c d : Nat} (ho : Gx.OkS a b c) {rs : List Rc} {S' : Sb} {K : Nat} {p' : Bp} {Bs : List (Nat × List Value × TypeId)} (h : Lk w w2 d S' K p' Bs) (hw : S'.Wk) (ha : S'.a = a) (hb : S'.b = b) : ∀ W k p, w2.grownBy W none → k ≤ rn (nS a b c) rs → BkAt W p (fo (nS a b c) rs k) 4096 → Calls Tryz.prog 34 #[.pointer (some ⟨p.b, 0, none⟩), .pointer (some ⟨d, 0, none⟩)] W fun e w' => e = .returned (.bool (sameS (fo (nS a b c) rs k) S')) ∧ W.grownBy w' none := by
  intro W k p hW _ hp
  have := same_any hp (h.bk.then hW) (fo_ok (nS_ok ho) rs k).wk hw (by rw [(fo_abc _ rs k).1]; exact ha) (by rw [(fo_abc _ rs k).2.1]; exact hb)
  rw [h.eb] at this
  exact this
def awR : List Rc := [⟨1, 1, 0, 5, 0⟩, ⟨2, 1, 0, 0, 0⟩, ⟨1, 2, 0, 5, 0⟩]
theorem aw1 : rn (nS 2 2 1) awR = 2 := by decide
theorem aw2 : rE (nS 2 2 1) awR = 170 := by decide
theorem aw3 : (fo (nS 2 2 1) awR 2).L.length = 1 := by decide
theorem aw4 : fiR (fun k => sameS (fo (nS 2 2 1) awR k) (fo (nS 2 2 1) awR 2)) 0 2 = some 2 := by decide
theorem aw5 : ∀ r ∈ awR, r.Ok := by
  intro r hr
  simp only [awR, List.mem_cons, List.not_mem_nil, or_false] at hr
  rcases hr with rfl | rfl | rfl <;> constructor <;> decide
set_option maxRecDepth 20000 in
set_option maxHeartbeats 8000000 in
theorem awake_any (w : World) (hT : Rk.Tab w) : Calls Tryz.prog 13 #[] w fun e w' => e = .returned (.bool true) ∧ w.grownBy w' none := by
  have hos : Gx.OkS ((2 : Nat) : Int) ((2 : Nat) : Int) ((1 : Nat) : Int) := by decide
  obtain ⟨w1, hw1⟩ : ∃ w1, w.alloc (.cells (rcs awR).toArray 47) = w1 := ⟨_, rfl⟩
  have g1 : w.grownBy w1 none := by rw [← hw1]; exact grown_alloc _ _
  have hr : RecsAt w1 (some ⟨w.heap.size, 0, none⟩) awR := recs_row (by rw [← hw1]; exact heap_alloc_new w _)
  have HO := hide (of_any (cap := 3) hos (rs := awR) (len := 3) rfl (by decide) hr aw5 (hT.new g1))
  rw [aw1, aw2] at HO
  have HX : Hid (∀ w2 d p, Lk w1 w2 d (fo (nS 2 2 1) awR 2) 10000 p [] → (Calls Tryz.prog 43 #[.pointer (some ⟨d, 0, none⟩)] w2 fun e w' => e = .returned (.int .i64 1) ∧ w' = w2) ∧ (Calls Tryz.prog 44 #[.pointer (some ⟨d, 0, none⟩)] w2 fun e w' => e = .returned (.agg #[.int .i64 2, .int .i64 2, .int .i64 1]) ∧ w2.grownBy w' none) ∧ w.grownBy w2 none ∧ ∀ W, w2.grownBy W none → Calls Tryz.prog 11 #[.agg #[.int .i64 2, .int .i64 2, .int .i64 1], .slice (some ⟨w.heap.size, 0, none⟩) 3 3, .int .i64 0, .pointer (some ⟨d, 0, none⟩)] W fun e w' => e = .returned (.tuple #[.int .i64 2, .bool true]) ∧ W.grownBy w' none) := by
    intro w2 d p h
    refine ⟨?_, ?_, grown_trans g1 h.gr, fun W hW => ?_⟩
    · have := h.len
      rw [aw3] at this
      exact this
    · have := shape_any h.bk
      rw [h.eb] at this
      exact this
    · have h2 := h.then hW
      have := rfind_any (cap := 3) hos (rs := awR) (hr.grown h2.gr) aw5 (by decide) (((hT.new g1).new h2.gr)) 0 (some ⟨d, 0, none⟩) (fun k => sameS (fo (nS 2 2 1) awR k) (fo (nS 2 2 1) awR 2)) (find_hs hos h2 (fo_ok (nS_ok hos) awR 2).wk rfl rfl)
      rw [aw1, aw4] at this
      exact this
  unfold limV at HO
  have HW := hide hw1
  clear hr g1 hT hw1 hos
  rw [← HW.out] at HO HX
  unfold awR rcs at HO HX
  simp only [List.flatMap_cons, List.flatMap_nil, rcc, List.append_nil, List.cons_append, List.nil_append] at HO HX
  clear HW
  go_enter Tryz.func13, Tryz.ntmps13
  go_wp2_with fail
  refine HO.out.mono ?_
  rintro e w2 ⟨d, p, rfl, h2⟩
  obtain ⟨x1, x2, x3, x4⟩ := HX.out w2 d p h2
  have HL := hide x1
  have HS := hide x2
  have HG := hide x3
  have HF := hide x4
  clear x1 x2 x3 x4 h2 HX HO
  go_wp2_with fail
  refine HL.out.mono ?_
  rintro e w3 ⟨rfl, rfl⟩
  go_wp2_with fail
  refine HS.out.mono ?_
  rintro e w4 ⟨rfl, g4⟩
  have HF4 := hide (HF.out _ g4)
  have HG4 := hide (grown_trans HG.out g4)
  clear g4 HS HL HF
  go_wp2_with fail
  refine HF4.out.mono ?_
  rintro e w5 ⟨rfl, g5⟩
  have HG5 := hide (grown_trans HG4.out g5)
  clear g5 HF4
  go_wp2
  go_ret
  exact ⟨rfl, HG5.out⟩
end Go.Proofs.YtinkkocleognbaaGreatDoor
namespace Go.Proofs.YtinkkocleognbaaGreatDoor
/- ReplayNumbers, walked. -/
open Go.RowKit Go.Shelf
attribute [local go_sem ↓] Go.wp_at_zero Go.wp_at_succ
attribute [local go_sem] Oper.semAt_some
/-- Beside a range whose body keeps all that lay ahead of it. -/
structure GrI (w6 W : World) (O : Nat → Prop) : Prop where
  gr : w6.grownBy W none
  no : ∀ i, O i → w6.heap.size ≤ i
theorem GrI.goes (w6 : World) : Goes (fun (_ : List (Nat × Bp)) O W => GrI w6 W O) := fun _ _ _ _ _ h k hOO => ⟨kept_grown h.gr k h.no, own_from h.gr h.no hOO⟩
end Go.Proofs.YtinkkocleognbaaGreatDoor
