/- Texts joined: Rp4, P1, Vf. -/
import Derived.Test.YtcbiloomnkbalaaGreatDoorJyAn
import Derived.Test.YtcbiloomnkbalaaGreatDoorJyAo
import Derived.Test.YtcbiloomnkbalaaGreatDoorJyAt
namespace Go.Proofs.YtcbiloomnkbalaaGreatDoor
/- Books that are the same, and that are not. -/
open Go.RowKit
attribute [local go_sem ↓] Go.wp_at_zero Go.wp_at_succ
attribute [local go_sem] Oper.semAt_some
set_option maxRecDepth 20000 in
set_option maxHeartbeats 8000000 in
theorem same_n {w : World} {p q : Bp} {S S' : Sb} {K K' : Nat} (hp : BkAt w p S K) (hq : BkAt w q S' K') (hw : S.Wk) (hw' : S'.Wk) (ha : S'.a = S.a) (hb : S'.b = S.b) (hn : S.n ≠ S'.n) : Calls Tryz.prog 20 #[.pointer (some ⟨p.b, 0, none⟩), .pointer (some ⟨q.b, 0, none⟩)] w fun e w' => e = .returned (.bool false) ∧ w.grownBy w' none := by
  have HN1 := hide hp.isNone
  have HN2 := hide hq.isNone
  have HL : Hid (∀ W, Calls Tryz.prog 48 #[limV S.a S.b S.c, limV S.a S.b S'.c] W fun e w' => e = .returned (.bool true) ∧ W.grownBy w' none) := fun W => isLike_eq _ _ _ _ W
  have HB1 : Hid (∀ W, w.grownBy W none → Calls Tryz.prog 50 #[.pointer (some ⟨p.b, 0, none⟩)] W fun e w' => ∃ v, e = .returned v ∧ BgA w' v S.L ∧ W.grownBy w' none) := by
    intro W hW
    refine (bookings_any (hp.then hW) hw).mono ?_
    rintro e w' ⟨v, rfl, h1, h2⟩
    exact ⟨v, rfl, BgA.own h1, h2⟩
  have HB2 : Hid (∀ W, w.grownBy W none → Calls Tryz.prog 50 #[.pointer (some ⟨q.b, 0, none⟩)] W fun e w' => ∃ v, e = .returned v ∧ BgA w' v S'.L ∧ W.grownBy w' none) := by
    intro W hW
    refine (bookings_any (hq.then hW) hw').mono ?_
    rintro e w' ⟨v, rfl, h1, h2⟩
    exact ⟨v, rfl, BgA.own h1, h2⟩
  obtain ⟨res, hres⟩ : ∃ res, res = decide (S.L = S'.L) := ⟨_, rfl⟩
  have HE : Hid (∀ W v u, BgA W v S.L → BgA W u S'.L → Calls Tryz.prog 49 #[v, u] W fun e w' => e = .returned (.bool res) ∧ W.grownBy w' none) := by
    intro W v u h1 h2
    rw [hres]
    exact equal_any h1 h2 (by have := hw.few; have := hw.b1; omega)
  have HK : Hid (∀ W, w.grownBy W none → (W.cell? ⟨p.b, 0, none⟩ = some (.int .i64 (S.a : Int)) ∧ W.cell? ⟨p.b, 1, none⟩ = some (.int .i64 (S.b : Int)) ∧ W.cell? ⟨p.b, 2, none⟩ = some (.int .i64 (S.c : Int)) ∧ W.cell? ⟨p.b, 4, none⟩ = some (.int .u32 (S.n : Int)) ∧ W.cell? ⟨p.b, 5, none⟩ = some (.int .i64 S.t)) ∧ W.cell? ⟨q.b, 0, none⟩ = some (.int .i64 (S.a : Int)) ∧ W.cell? ⟨q.b, 1, none⟩ = some (.int .i64 (S.b : Int)) ∧ W.cell? ⟨q.b, 2, none⟩ = some (.int .i64 (S'.c : Int)) ∧ W.cell? ⟨q.b, 4, none⟩ = some (.int .u32 (S'.n : Int)) ∧ W.cell? ⟨q.b, 5, none⟩ = some (.int .i64 S'.t)) := fun W hW =>
    ⟨⟨(hp.then hW).cells 0 _ rfl, (hp.then hW).cells 1 _ rfl, (hp.then hW).cells 2 _ rfl, (hp.then hW).cells 4 _ rfl, (hp.then hW).cells 5 _ rfl⟩, by have := (hq.then hW).cells 0 _ rfl; rw [ha] at this; exact this, by have := (hq.then hW).cells 1 _ rfl; rw [hb] at this; exact this, (hq.then hW).cells 2 _ rfl, (hq.then hW).cells 4 _ rfl, (hq.then hW).cells 5 _ rfl⟩
  have hK0 := HK.out w (grown_refl _ _)
  have hnn : ¬ (S.n : Int) = (S'.n : Int) := by omega
  clear hp hq hw hw' ha hb hn hres HE HB1 HB2
  unfold limV at HL
  generalize (S.n : Int) = n at *
  generalize (S'.n : Int) = n' at *
  generalize S.t = t at *
  generalize S'.t = t' at *
  have f1 : (n == n') = false := by simpa using hnn
  have f2 : decide (n = n') = false := by simpa using hnn
  clear hnn
  generalize (S.a : Int) = a at *
  generalize (S.b : Int) = b at *
  generalize (S.c : Int) = c at *
  generalize (S'.c : Int) = c' at *
  go_enter Tryz.func20, Tryz.ntmps20
  go_wp2_with fail
  refine HN1.out.mono ?_
  rintro e w1 ⟨rfl, rfl⟩
  go_wp2_with fail
  refine HN2.out.mono ?_
  rintro e w2 ⟨rfl, rfl⟩
  go_wp2
  refine wp_region_held_drew (S := (fun W => (W.cell? ⟨p.b, 0, none⟩ = some (.int .i64 a) ∧ W.cell? ⟨p.b, 1, none⟩ = some (.int .i64 b) ∧ W.cell? ⟨p.b, 2, none⟩ = some (.int .i64 c) ∧ W.cell? ⟨p.b, 4, none⟩ = some (.int .u32 n) ∧ W.cell? ⟨p.b, 5, none⟩ = some (.int .i64 t)) ∧ W.cell? ⟨q.b, 0, none⟩ = some (.int .i64 a) ∧ W.cell? ⟨q.b, 1, none⟩ = some (.int .i64 b) ∧ W.cell? ⟨q.b, 2, none⟩ = some (.int .i64 c') ∧ W.cell? ⟨q.b, 4, none⟩ = some (.int .u32 n') ∧ W.cell? ⟨q.b, 5, none⟩ = some (.int .i64 t'))) (by kernel_rfl) ?_ (fun hHeld => ?_)
  · (exact hK0)
  refine tkQ 0 (oi := ⟨some 11, .move (.tmp 0), 31, "book.go:177", #[], none⟩) rfl ?_
  try simp only [Act.put, pA, pB, pC]
  refine tkQ 1 (oi := ⟨some 12, .nilCheck (.tmp 11), 0, "book.go:177", #[⟨0, .data⟩], none⟩) rfl ?_
  try simp only [Act.put, pA, pB, pC]
  refine tkQ 2 (oi := ⟨some 13, .fieldAddr 66 (.tmp 12) 0, 0, "book.go:177", #[⟨1, .data⟩], none⟩) rfl ?_
  try simp only [Act.put, pA, pB, pC]
  refine tkQ 3 (oi := ⟨some 14, .load 60 (.tmp 13), 60, "book.go:177", #[⟨2, .data⟩], none⟩) rfl ?_
  try simp only [Act.put, pA, pB, pC]
  refine tkQ 4 (oi := ⟨some 15, .move (.tmp 1), 31, "book.go:177", #[], none⟩) rfl ?_
  try simp only [Act.put, pA, pB, pC]
  refine tkQ 5 (oi := ⟨some 16, .nilCheck (.tmp 15), 0, "book.go:177", #[⟨4, .data⟩], none⟩) rfl ?_
  try simp only [Act.put, pA, pB, pC]
  refine tkQ 6 (oi := ⟨some 17, .fieldAddr 66 (.tmp 16) 0, 0, "book.go:177", #[⟨5, .data⟩], none⟩) rfl ?_
  try simp only [Act.put, pA, pB, pC]
  refine tkQ 7 (oi := ⟨some 18, .load 60 (.tmp 17), 60, "book.go:177", #[⟨6, .data⟩], none⟩) rfl ?_
  try simp only [Act.put, pA, pB, pC]
  refine rdH (i := 8) rfl (fun K hK => ?_)
  go_simp
  refine (HL.out _).mono ?_
  rintro e w3 ⟨rfl, hg3⟩
  have g3 := grown_trans (grown_drew _ none) hg3
  have hK3 := HK.out _ g3
  go_wp2_with fail
  refine hK.out _ _ ?_ (fun hHeld => ?_)
  · ((try dsimp only); first | exact hK3 | assumption)
  clear hK K
  try simp only [Act.put, pA, pB, pC]
  refine tkQ 9 (oi := ⟨some 20, .move (.tmp 19), 4, "book.go:177", #[⟨8, .data⟩, ⟨8, .chain⟩], none⟩) rfl ?_
  try simp only [Act.put, pA, pB, pC]
  refine tkQ 10 (oi := ⟨some 21, .move (.tmp 0), 31, "book.go:177", #[⟨9, .guard⟩], some (9, true)⟩) rfl ?_
  try simp only [Act.put, pA, pB, pC]
  refine tkQ 11 (oi := ⟨some 22, .nilCheck (.tmp 21), 0, "book.go:177", #[⟨10, .data⟩, ⟨9, .guard⟩], some (9, true)⟩) rfl ?_
  try simp only [Act.put, pA, pB, pC]
  refine tkQ 12 (oi := ⟨some 23, .fieldAddr 66 (.tmp 22) 2, 0, "book.go:177", #[⟨11, .data⟩, ⟨9, .guard⟩], some (9, true)⟩) rfl ?_
  try simp only [Act.put, pA, pB, pC]
  refine tkQ 13 (oi := ⟨some 24, .load 24 (.tmp 23), 24, "book.go:177", #[⟨12, .data⟩, ⟨9, .guard⟩], some (9, true)⟩) rfl ?_
  try simp only [Act.put, pA, pB, pC]
  refine tkQ 14 (oi := ⟨some 25, .move (.tmp 1), 31, "book.go:177", #[⟨9, .guard⟩], some (9, true)⟩) rfl ?_
  try simp only [Act.put, pA, pB, pC]
  refine tkQ 15 (oi := ⟨some 26, .nilCheck (.tmp 25), 0, "book.go:177", #[⟨14, .data⟩, ⟨9, .guard⟩], some (9, true)⟩) rfl ?_
  try simp only [Act.put, pA, pB, pC]
  refine tkQ 16 (oi := ⟨some 27, .fieldAddr 66 (.tmp 26) 2, 0, "book.go:177", #[⟨15, .data⟩, ⟨9, .guard⟩], some (9, true)⟩) rfl ?_
  try simp only [Act.put, pA, pB, pC]
  refine tkQ 17 (oi := ⟨some 28, .load 24 (.tmp 27), 24, "book.go:177", #[⟨16, .data⟩, ⟨9, .guard⟩], some (9, true)⟩) rfl ?_
  try simp only [Act.put, pA, pB, pC]
  refine tkQ 18 (oi := ⟨some 29, .binOp .eql 24 (.tmp 24) (.tmp 28) 24, 4, "book.go:177", #[⟨13, .data⟩, ⟨17, .data⟩, ⟨9, .guard⟩], some (9, true)⟩) rfl ?_
  try simp only [Act.put, pA, pB, pC]
  refine tkQ 19 (oi := ⟨some 30, .pick (.tmp 20) (.tmp 29) (.const (.bool false)), 4, "book.go:177", #[⟨9, .data⟩, ⟨18, .data⟩], none⟩) rfl ?_
  try simp only [Act.put, pA, pB, pC]
  refine tkQ 20 (oi := ⟨some 31, .move (.tmp 30), 4, "book.go:177", #[⟨19, .data⟩, ⟨9, .chain⟩], none⟩) rfl ?_
  try simp only [Act.put, pA, pB, pC]
  refine skH 21 (oi := ⟨some 32, .move (.tmp 0), 31, "book.go:177", #[⟨20, .guard⟩], some (20, true)⟩) rfl ?_
  try simp only [Act.put, pA, pB, pC]
  refine skH 22 (oi := ⟨some 33, .nilCheck (.tmp 32), 0, "book.go:177", #[⟨21, .data⟩, ⟨20, .guard⟩], some (20, true)⟩) rfl ?_
  try simp only [Act.put, pA, pB, pC]
  refine skH 23 (oi := ⟨some 34, .fieldAddr 66 (.tmp 33) 3, 0, "book.go:177", #[⟨22, .data⟩, ⟨20, .guard⟩], some (20, true)⟩) rfl ?_
  try simp only [Act.put, pA, pB, pC]
  refine skH 24 (oi := ⟨some 35, .load 2 (.tmp 34), 2, "book.go:177", #[⟨23, .data⟩, ⟨20, .guard⟩], some (20, true)⟩) rfl ?_
  try simp only [Act.put, pA, pB, pC]
  refine skH 25 (oi := ⟨some 36, .move (.tmp 1), 31, "book.go:177", #[⟨20, .guard⟩], some (20, true)⟩) rfl ?_
  try simp only [Act.put, pA, pB, pC]
  refine skH 26 (oi := ⟨some 37, .nilCheck (.tmp 36), 0, "book.go:177", #[⟨25, .data⟩, ⟨20, .guard⟩], some (20, true)⟩) rfl ?_
  try simp only [Act.put, pA, pB, pC]
  refine skH 27 (oi := ⟨some 38, .fieldAddr 66 (.tmp 37) 3, 0, "book.go:177", #[⟨26, .data⟩, ⟨20, .guard⟩], some (20, true)⟩) rfl ?_
  try simp only [Act.put, pA, pB, pC]
  refine skH 28 (oi := ⟨some 39, .load 2 (.tmp 38), 2, "book.go:177", #[⟨27, .data⟩, ⟨20, .guard⟩], some (20, true)⟩) rfl ?_
  try simp only [Act.put, pA, pB, pC]
  refine skH 29 (oi := ⟨some 40, .binOp .eql 2 (.tmp 35) (.tmp 39) 2, 4, "book.go:177", #[⟨24, .data⟩, ⟨28, .data⟩, ⟨20, .guard⟩], some (20, true)⟩) rfl ?_
  try simp only [Act.put, pA, pB, pC]
  refine tkQ 30 (oi := ⟨some 41, .pick (.tmp 31) (.tmp 40) (.const (.bool false)), 4, "book.go:177", #[⟨20, .data⟩, ⟨29, .data⟩], none⟩) rfl ?_
  try simp only [Act.put, pA, pB, pC]
  refine tkQ 31 (oi := ⟨some 42, .move (.tmp 41), 4, "book.go:177", #[⟨30, .data⟩, ⟨20, .chain⟩], none⟩) rfl ?_
  try simp only [Act.put, pA, pB, pC]
  refine skH 32 (oi := ⟨some 43, .move (.tmp 0), 31, "book.go:177", #[⟨31, .guard⟩], some (31, true)⟩) rfl ?_
  try simp only [Act.put, pA, pB, pC]
  refine skH 33 (oi := ⟨some 44, .call { callee := .value (.func 50), args := #[.tmp 43], argTypes := #[31] }, 25, "book.go:177", #[⟨32, .data⟩, ⟨31, .chain⟩, ⟨31, .guard⟩], some (31, true)⟩) rfl ?_
  try simp only [Act.put, pA, pB, pC]
  refine skH 34 (oi := ⟨some 45, .move (.tmp 1), 31, "book.go:177", #[⟨31, .guard⟩], some (31, true)⟩) rfl ?_
  try simp only [Act.put, pA, pB, pC]
  refine skH 35 (oi := ⟨some 46, .call { callee := .value (.func 50), args := #[.tmp 45], argTypes := #[31] }, 25, "book.go:177", #[⟨34, .data⟩, ⟨33, .chain⟩, ⟨31, .guard⟩], some (31, true)⟩) rfl ?_
  try simp only [Act.put, pA, pB, pC]
  refine skH 36 (oi := ⟨some 47, .call { callee := .value (.func 49), args := #[.tmp 44, .tmp 46], argTypes := #[25, 25] }, 4, "book.go:177", #[⟨33, .data⟩, ⟨35, .data⟩, ⟨35, .chain⟩, ⟨31, .guard⟩], some (31, true)⟩) rfl ?_
  try simp only [Act.put, pA, pB, pC]
  refine tkQ 37 (oi := ⟨some 48, .pick (.tmp 42) (.tmp 47) (.const (.bool false)), 4, "book.go:177", #[⟨31, .data⟩, ⟨36, .data⟩], none⟩) rfl ?_
  try simp only [Act.put, pA, pB, pC]
  refine tkQ 38 (oi := ⟨some 4, .assign (.tmp 48), 4, "book.go:177", #[⟨37, .data⟩, ⟨36, .chain⟩, ⟨0, .phase⟩, ⟨1, .phase⟩, ⟨2, .phase⟩, ⟨3, .phase⟩, ⟨4, .phase⟩, ⟨5, .phase⟩, ⟨6, .phase⟩, ⟨7, .phase⟩, ⟨8, .phase⟩, ⟨9, .phase⟩, ⟨10, .phase⟩, ⟨11, .phase⟩, ⟨12, .phase⟩, ⟨13, .phase⟩, ⟨14, .phase⟩, ⟨15, .phase⟩, ⟨16, .phase⟩, ⟨17, .phase⟩, ⟨18, .phase⟩, ⟨19, .phase⟩, ⟨20, .phase⟩, ⟨21, .phase⟩, ⟨22, .phase⟩, ⟨23, .phase⟩, ⟨24, .phase⟩, ⟨25, .phase⟩, ⟨26, .phase⟩, ⟨27, .phase⟩, ⟨28, .phase⟩, ⟨29, .phase⟩, ⟨30, .phase⟩, ⟨31, .phase⟩, ⟨32, .phase⟩, ⟨33, .phase⟩, ⟨34, .phase⟩, ⟨35, .phase⟩, ⟨36, .phase⟩, ⟨37, .phase⟩], none⟩) rfl ?_
  try simp only [Act.put, pA, pB, pC]
  refine wpAnyH_done (by kernel_rfl) ?_ _
  go_wp2
  go_ret
  exact ⟨rfl, g3⟩
set_option maxRecDepth 20000 in
set_option maxHeartbeats 8000000 in
theorem same_t {w : World} {p q : Bp} {S S' : Sb} {K K' : Nat} (hp : BkAt w p S K) (hq : BkAt w q S' K') (hw : S.Wk) (hw' : S'.Wk) (ha : S'.a = S.a) (hb : S'.b = S.b) (hn : S.n = S'.n) (ht : S.t ≠ S'.t) : Calls Tryz.prog 20 #[.pointer (some ⟨p.b, 0, none⟩), .pointer (some ⟨q.b, 0, none⟩)] w fun e w' => e = .returned (.bool false) ∧ w.grownBy w' none := by
  have HN1 := hide hp.isNone
  have HN2 := hide hq.isNone
  have HL : Hid (∀ W, Calls Tryz.prog 48 #[limV S.a S.b S.c, limV S.a S.b S'.c] W fun e w' => e = .returned (.bool true) ∧ W.grownBy w' none) := fun W => isLike_eq _ _ _ _ W
  have HB1 : Hid (∀ W, w.grownBy W none → Calls Tryz.prog 50 #[.pointer (some ⟨p.b, 0, none⟩)] W fun e w' => ∃ v, e = .returned v ∧ BgA w' v S.L ∧ W.grownBy w' none) := by
    intro W hW
    refine (bookings_any (hp.then hW) hw).mono ?_
    rintro e w' ⟨v, rfl, h1, h2⟩
    exact ⟨v, rfl, BgA.own h1, h2⟩
  have HB2 : Hid (∀ W, w.grownBy W none → Calls Tryz.prog 50 #[.pointer (some ⟨q.b, 0, none⟩)] W fun e w' => ∃ v, e = .returned v ∧ BgA w' v S'.L ∧ W.grownBy w' none) := by
    intro W hW
    refine (bookings_any (hq.then hW) hw').mono ?_
    rintro e w' ⟨v, rfl, h1, h2⟩
    exact ⟨v, rfl, BgA.own h1, h2⟩
  obtain ⟨res, hres⟩ : ∃ res, res = decide (S.L = S'.L) := ⟨_, rfl⟩
  have HE : Hid (∀ W v u, BgA W v S.L → BgA W u S'.L → Calls Tryz.prog 49 #[v, u] W fun e w' => e = .returned (.bool res) ∧ W.grownBy w' none) := by
    intro W v u h1 h2
    rw [hres]
    exact equal_any h1 h2 (by have := hw.few; have := hw.b1; omega)
  have HK : Hid (∀ W, w.grownBy W none → (W.cell? ⟨p.b, 0, none⟩ = some (.int .i64 (S.a : Int)) ∧ W.cell? ⟨p.b, 1, none⟩ = some (.int .i64 (S.b : Int)) ∧ W.cell? ⟨p.b, 2, none⟩ = some (.int .i64 (S.c : Int)) ∧ W.cell? ⟨p.b, 4, none⟩ = some (.int .u32 (S.n : Int)) ∧ W.cell? ⟨p.b, 5, none⟩ = some (.int .i64 S.t)) ∧ W.cell? ⟨q.b, 0, none⟩ = some (.int .i64 (S.a : Int)) ∧ W.cell? ⟨q.b, 1, none⟩ = some (.int .i64 (S.b : Int)) ∧ W.cell? ⟨q.b, 2, none⟩ = some (.int .i64 (S'.c : Int)) ∧ W.cell? ⟨q.b, 4, none⟩ = some (.int .u32 (S'.n : Int)) ∧ W.cell? ⟨q.b, 5, none⟩ = some (.int .i64 S'.t)) := fun W hW =>
    ⟨⟨(hp.then hW).cells 0 _ rfl, (hp.then hW).cells 1 _ rfl, (hp.then hW).cells 2 _ rfl, (hp.then hW).cells 4 _ rfl, (hp.then hW).cells 5 _ rfl⟩, by have := (hq.then hW).cells 0 _ rfl; rw [ha] at this; exact this, by have := (hq.then hW).cells 1 _ rfl; rw [hb] at this; exact this, (hq.then hW).cells 2 _ rfl, (hq.then hW).cells 4 _ rfl, (hq.then hW).cells 5 _ rfl⟩
  have hK0 := HK.out w (grown_refl _ _)
  rw [← hn] at HK hK0
  clear hp hq hw hw' ha hb hn hres HE HB1 HB2
  unfold limV at HL
  generalize (S.n : Int) = n at *
  generalize S.t = t at *
  generalize S'.t = t' at *
  have f1 : (t == t') = false := by simpa using ht
  have f2 : decide (t = t') = false := by simpa using ht
  clear ht
  generalize (S.a : Int) = a at *
  generalize (S.b : Int) = b at *
  generalize (S.c : Int) = c at *
  generalize (S'.c : Int) = c' at *
  go_enter Tryz.func20, Tryz.ntmps20
  go_wp2_with fail
  refine HN1.out.mono ?_
  rintro e w1 ⟨rfl, rfl⟩
  go_wp2_with fail
  refine HN2.out.mono ?_
  rintro e w2 ⟨rfl, rfl⟩
  go_wp2
  refine wp_region_held_drew (S := (fun W => (W.cell? ⟨p.b, 0, none⟩ = some (.int .i64 a) ∧ W.cell? ⟨p.b, 1, none⟩ = some (.int .i64 b) ∧ W.cell? ⟨p.b, 2, none⟩ = some (.int .i64 c) ∧ W.cell? ⟨p.b, 4, none⟩ = some (.int .u32 n) ∧ W.cell? ⟨p.b, 5, none⟩ = some (.int .i64 t)) ∧ W.cell? ⟨q.b, 0, none⟩ = some (.int .i64 a) ∧ W.cell? ⟨q.b, 1, none⟩ = some (.int .i64 b) ∧ W.cell? ⟨q.b, 2, none⟩ = some (.int .i64 c') ∧ W.cell? ⟨q.b, 4, none⟩ = some (.int .u32 n) ∧ W.cell? ⟨q.b, 5, none⟩ = some (.int .i64 t'))) (by kernel_rfl) ?_ (fun hHeld => ?_)
  · (exact hK0)
  refine tkQ 0 (oi := ⟨some 11, .move (.tmp 0), 31, "book.go:177", #[], none⟩) rfl ?_
  try simp only [Act.put, pA, pB, pC]
  refine tkQ 1 (oi := ⟨some 12, .nilCheck (.tmp 11), 0, "book.go:177", #[⟨0, .data⟩], none⟩) rfl ?_
  try simp only [Act.put, pA, pB, pC]
  refine tkQ 2 (oi := ⟨some 13, .fieldAddr 66 (.tmp 12) 0, 0, "book.go:177", #[⟨1, .data⟩], none⟩) rfl ?_
  try simp only [Act.put, pA, pB, pC]
  refine tkQ 3 (oi := ⟨some 14, .load 60 (.tmp 13), 60, "book.go:177", #[⟨2, .data⟩], none⟩) rfl ?_
  try simp only [Act.put, pA, pB, pC]
  refine tkQ 4 (oi := ⟨some 15, .move (.tmp 1), 31, "book.go:177", #[], none⟩) rfl ?_
  try simp only [Act.put, pA, pB, pC]
  refine tkQ 5 (oi := ⟨some 16, .nilCheck (.tmp 15), 0, "book.go:177", #[⟨4, .data⟩], none⟩) rfl ?_
  try simp only [Act.put, pA, pB, pC]
  refine tkQ 6 (oi := ⟨some 17, .fieldAddr 66 (.tmp 16) 0, 0, "book.go:177", #[⟨5, .data⟩], none⟩) rfl ?_
  try simp only [Act.put, pA, pB, pC]
  refine tkQ 7 (oi := ⟨some 18, .load 60 (.tmp 17), 60, "book.go:177", #[⟨6, .data⟩], none⟩) rfl ?_
  try simp only [Act.put, pA, pB, pC]
  refine rdH (i := 8) rfl (fun K hK => ?_)
  go_simp
  refine (HL.out _).mono ?_
  rintro e w3 ⟨rfl, hg3⟩
  have g3 := grown_trans (grown_drew _ none) hg3
  have hK3 := HK.out _ g3
  go_wp2_with fail
  refine hK.out _ _ ?_ (fun hHeld => ?_)
  · ((try dsimp only); first | exact hK3 | assumption)
  clear hK K
  try simp only [Act.put, pA, pB, pC]
  refine tkQ 9 (oi := ⟨some 20, .move (.tmp 19), 4, "book.go:177", #[⟨8, .data⟩, ⟨8, .chain⟩], none⟩) rfl ?_
  try simp only [Act.put, pA, pB, pC]
  refine tkQ 10 (oi := ⟨some 21, .move (.tmp 0), 31, "book.go:177", #[⟨9, .guard⟩], some (9, true)⟩) rfl ?_
  try simp only [Act.put, pA, pB, pC]
  refine tkQ 11 (oi := ⟨some 22, .nilCheck (.tmp 21), 0, "book.go:177", #[⟨10, .data⟩, ⟨9, .guard⟩], some (9, true)⟩) rfl ?_
  try simp only [Act.put, pA, pB, pC]
  refine tkQ 12 (oi := ⟨some 23, .fieldAddr 66 (.tmp 22) 2, 0, "book.go:177", #[⟨11, .data⟩, ⟨9, .guard⟩], some (9, true)⟩) rfl ?_
  try simp only [Act.put, pA, pB, pC]
  refine tkQ 13 (oi := ⟨some 24, .load 24 (.tmp 23), 24, "book.go:177", #[⟨12, .data⟩, ⟨9, .guard⟩], some (9, true)⟩) rfl ?_
  try simp only [Act.put, pA, pB, pC]
  refine tkQ 14 (oi := ⟨some 25, .move (.tmp 1), 31, "book.go:177", #[⟨9, .guard⟩], some (9, true)⟩) rfl ?_
  try simp only [Act.put, pA, pB, pC]
  refine tkQ 15 (oi := ⟨some 26, .nilCheck (.tmp 25), 0, "book.go:177", #[⟨14, .data⟩, ⟨9, .guard⟩], some (9, true)⟩) rfl ?_
  try simp only [Act.put, pA, pB, pC]
  refine tkQ 16 (oi := ⟨some 27, .fieldAddr 66 (.tmp 26) 2, 0, "book.go:177", #[⟨15, .data⟩, ⟨9, .guard⟩], some (9, true)⟩) rfl ?_
  try simp only [Act.put, pA, pB, pC]
  refine tkQ 17 (oi := ⟨some 28, .load 24 (.tmp 27), 24, "book.go:177", #[⟨16, .data⟩, ⟨9, .guard⟩], some (9, true)⟩) rfl ?_
  try simp only [Act.put, pA, pB, pC]
  refine tkQ 18 (oi := ⟨some 29, .binOp .eql 24 (.tmp 24) (.tmp 28) 24, 4, "book.go:177", #[⟨13, .data⟩, ⟨17, .data⟩, ⟨9, .guard⟩], some (9, true)⟩) rfl ?_
  try simp only [Act.put, pA, pB, pC]
  refine tkQ 19 (oi := ⟨some 30, .pick (.tmp 20) (.tmp 29) (.const (.bool false)), 4, "book.go:177", #[⟨9, .data⟩, ⟨18, .data⟩], none⟩) rfl ?_
  try simp only [Act.put, pA, pB, pC]
  refine tkQ 20 (oi := ⟨some 31, .move (.tmp 30), 4, "book.go:177", #[⟨19, .data⟩, ⟨9, .chain⟩], none⟩) rfl ?_
  try simp only [Act.put, pA, pB, pC]
  refine tkQ 21 (oi := ⟨some 32, .move (.tmp 0), 31, "book.go:177", #[⟨20, .guard⟩], some (20, true)⟩) rfl ?_
  try simp only [Act.put, pA, pB, pC]
  refine tkQ 22 (oi := ⟨some 33, .nilCheck (.tmp 32), 0, "book.go:177", #[⟨21, .data⟩, ⟨20, .guard⟩], some (20, true)⟩) rfl ?_
  try simp only [Act.put, pA, pB, pC]
  refine tkQ 23 (oi := ⟨some 34, .fieldAddr 66 (.tmp 33) 3, 0, "book.go:177", #[⟨22, .data⟩, ⟨20, .guard⟩], some (20, true)⟩) rfl ?_
  try simp only [Act.put, pA, pB, pC]
  refine tkQ 24 (oi := ⟨some 35, .load 2 (.tmp 34), 2, "book.go:177", #[⟨23, .data⟩, ⟨20, .guard⟩], some (20, true)⟩) rfl ?_
  try simp only [Act.put, pA, pB, pC]
  refine tkQ 25 (oi := ⟨some 36, .move (.tmp 1), 31, "book.go:177", #[⟨20, .guard⟩], some (20, true)⟩) rfl ?_
  try simp only [Act.put, pA, pB, pC]
  refine tkQ 26 (oi := ⟨some 37, .nilCheck (.tmp 36), 0, "book.go:177", #[⟨25, .data⟩, ⟨20, .guard⟩], some (20, true)⟩) rfl ?_
  try simp only [Act.put, pA, pB, pC]
  refine tkQ 27 (oi := ⟨some 38, .fieldAddr 66 (.tmp 37) 3, 0, "book.go:177", #[⟨26, .data⟩, ⟨20, .guard⟩], some (20, true)⟩) rfl ?_
  try simp only [Act.put, pA, pB, pC]
  refine tkQ 28 (oi := ⟨some 39, .load 2 (.tmp 38), 2, "book.go:177", #[⟨27, .data⟩, ⟨20, .guard⟩], some (20, true)⟩) rfl ?_
  try simp only [Act.put, pA, pB, pC]
  refine tkQ 29 (oi := ⟨some 40, .binOp .eql 2 (.tmp 35) (.tmp 39) 2, 4, "book.go:177", #[⟨24, .data⟩, ⟨28, .data⟩, ⟨20, .guard⟩], some (20, true)⟩) rfl ?_
  try simp only [Act.put, pA, pB, pC]
  refine tkQ 30 (oi := ⟨some 41, .pick (.tmp 31) (.tmp 40) (.const (.bool false)), 4, "book.go:177", #[⟨20, .data⟩, ⟨29, .data⟩], none⟩) rfl ?_
  try simp only [Act.put, pA, pB, pC]
  refine tkQ 31 (oi := ⟨some 42, .move (.tmp 41), 4, "book.go:177", #[⟨30, .data⟩, ⟨20, .chain⟩], none⟩) rfl ?_
  try simp only [Act.put, pA, pB, pC]
  refine skH 32 (oi := ⟨some 43, .move (.tmp 0), 31, "book.go:177", #[⟨31, .guard⟩], some (31, true)⟩) rfl ?_
  try simp only [Act.put, pA, pB, pC]
  refine skH 33 (oi := ⟨some 44, .call { callee := .value (.func 50), args := #[.tmp 43], argTypes := #[31] }, 25, "book.go:177", #[⟨32, .data⟩, ⟨31, .chain⟩, ⟨31, .guard⟩], some (31, true)⟩) rfl ?_
  try simp only [Act.put, pA, pB, pC]
  refine skH 34 (oi := ⟨some 45, .move (.tmp 1), 31, "book.go:177", #[⟨31, .guard⟩], some (31, true)⟩) rfl ?_
  try simp only [Act.put, pA, pB, pC]
  refine skH 35 (oi := ⟨some 46, .call { callee := .value (.func 50), args := #[.tmp 45], argTypes := #[31] }, 25, "book.go:177", #[⟨34, .data⟩, ⟨33, .chain⟩, ⟨31, .guard⟩], some (31, true)⟩) rfl ?_
  try simp only [Act.put, pA, pB, pC]
  refine skH 36 (oi := ⟨some 47, .call { callee := .value (.func 49), args := #[.tmp 44, .tmp 46], argTypes := #[25, 25] }, 4, "book.go:177", #[⟨33, .data⟩, ⟨35, .data⟩, ⟨35, .chain⟩, ⟨31, .guard⟩], some (31, true)⟩) rfl ?_
  try simp only [Act.put, pA, pB, pC]
  refine tkQ 37 (oi := ⟨some 48, .pick (.tmp 42) (.tmp 47) (.const (.bool false)), 4, "book.go:177", #[⟨31, .data⟩, ⟨36, .data⟩], none⟩) rfl ?_
  try simp only [Act.put, pA, pB, pC]
  refine tkQ 38 (oi := ⟨some 4, .assign (.tmp 48), 4, "book.go:177", #[⟨37, .data⟩, ⟨36, .chain⟩, ⟨0, .phase⟩, ⟨1, .phase⟩, ⟨2, .phase⟩, ⟨3, .phase⟩, ⟨4, .phase⟩, ⟨5, .phase⟩, ⟨6, .phase⟩, ⟨7, .phase⟩, ⟨8, .phase⟩, ⟨9, .phase⟩, ⟨10, .phase⟩, ⟨11, .phase⟩, ⟨12, .phase⟩, ⟨13, .phase⟩, ⟨14, .phase⟩, ⟨15, .phase⟩, ⟨16, .phase⟩, ⟨17, .phase⟩, ⟨18, .phase⟩, ⟨19, .phase⟩, ⟨20, .phase⟩, ⟨21, .phase⟩, ⟨22, .phase⟩, ⟨23, .phase⟩, ⟨24, .phase⟩, ⟨25, .phase⟩, ⟨26, .phase⟩, ⟨27, .phase⟩, ⟨28, .phase⟩, ⟨29, .phase⟩, ⟨30, .phase⟩, ⟨31, .phase⟩, ⟨32, .phase⟩, ⟨33, .phase⟩, ⟨34, .phase⟩, ⟨35, .phase⟩, ⟨36, .phase⟩, ⟨37, .phase⟩], none⟩) rfl ?_
  try simp only [Act.put, pA, pB, pC]
  refine wpAnyH_done (by kernel_rfl) ?_ _
  go_wp2
  go_ret
  exact ⟨rfl, g3⟩
set_option maxRecDepth 20000 in
set_option maxHeartbeats 8000000 in
theorem same_l {w : World} {p q : Bp} {S S' : Sb} {K K' : Nat} (hp : BkAt w p S K) (hq : BkAt w q S' K') (hw : S.Wk) (hw' : S'.Wk) (ha : S'.a = S.a) (hb : S'.b = S.b) (hn : S.n = S'.n) (ht : S.t = S'.t) : Calls Tryz.prog 20 #[.pointer (some ⟨p.b, 0, none⟩), .pointer (some ⟨q.b, 0, none⟩)] w fun e w' => e = .returned (.bool (decide (S.L = S'.L))) ∧ w.grownBy w' none := by
  have HN1 := hide hp.isNone
  have HN2 := hide hq.isNone
  have HL : Hid (∀ W, Calls Tryz.prog 48 #[limV S.a S.b S.c, limV S.a S.b S'.c] W fun e w' => e = .returned (.bool true) ∧ W.grownBy w' none) := fun W => isLike_eq _ _ _ _ W
  have HB1 : Hid (∀ W, w.grownBy W none → Calls Tryz.prog 50 #[.pointer (some ⟨p.b, 0, none⟩)] W fun e w' => ∃ v, e = .returned v ∧ BgA w' v S.L ∧ W.grownBy w' none) := by
    intro W hW
    refine (bookings_any (hp.then hW) hw).mono ?_
    rintro e w' ⟨v, rfl, h1, h2⟩
    exact ⟨v, rfl, BgA.own h1, h2⟩
  have HB2 : Hid (∀ W, w.grownBy W none → Calls Tryz.prog 50 #[.pointer (some ⟨q.b, 0, none⟩)] W fun e w' => ∃ v, e = .returned v ∧ BgA w' v S'.L ∧ W.grownBy w' none) := by
    intro W hW
    refine (bookings_any (hq.then hW) hw').mono ?_
    rintro e w' ⟨v, rfl, h1, h2⟩
    exact ⟨v, rfl, BgA.own h1, h2⟩
  obtain ⟨res, hres⟩ : ∃ res, res = decide (S.L = S'.L) := ⟨_, rfl⟩
  have HE : Hid (∀ W v u, BgA W v S.L → BgA W u S'.L → Calls Tryz.prog 49 #[v, u] W fun e w' => e = .returned (.bool res) ∧ W.grownBy w' none) := by
    intro W v u h1 h2
    rw [hres]
    exact equal_any h1 h2 (by have := hw.few; have := hw.b1; omega)
  have HK : Hid (∀ W, w.grownBy W none → (W.cell? ⟨p.b, 0, none⟩ = some (.int .i64 (S.a : Int)) ∧ W.cell? ⟨p.b, 1, none⟩ = some (.int .i64 (S.b : Int)) ∧ W.cell? ⟨p.b, 2, none⟩ = some (.int .i64 (S.c : Int)) ∧ W.cell? ⟨p.b, 4, none⟩ = some (.int .u32 (S.n : Int)) ∧ W.cell? ⟨p.b, 5, none⟩ = some (.int .i64 S.t)) ∧ W.cell? ⟨q.b, 0, none⟩ = some (.int .i64 (S.a : Int)) ∧ W.cell? ⟨q.b, 1, none⟩ = some (.int .i64 (S.b : Int)) ∧ W.cell? ⟨q.b, 2, none⟩ = some (.int .i64 (S'.c : Int)) ∧ W.cell? ⟨q.b, 4, none⟩ = some (.int .u32 (S'.n : Int)) ∧ W.cell? ⟨q.b, 5, none⟩ = some (.int .i64 S'.t)) := fun W hW =>
    ⟨⟨(hp.then hW).cells 0 _ rfl, (hp.then hW).cells 1 _ rfl, (hp.then hW).cells 2 _ rfl, (hp.then hW).cells 4 _ rfl, (hp.then hW).cells 5 _ rfl⟩, by have := (hq.then hW).cells 0 _ rfl; rw [ha] at this; exact this, by have := (hq.then hW).cells 1 _ rfl; rw [hb] at this; exact this, (hq.then hW).cells 2 _ rfl, (hq.then hW).cells 4 _ rfl, (hq.then hW).cells 5 _ rfl⟩
  have hK0 := HK.out w (grown_refl _ _)
  rw [← hn, ← ht] at HK hK0
  rw [← hres]
  clear hp hq hw hw' ha hb hn ht hres
  unfold limV at HL
  generalize (S.n : Int) = n at *
  generalize S.t = t at *
  generalize (S.a : Int) = a at *
  generalize (S.b : Int) = b at *
  generalize (S.c : Int) = c at *
  generalize (S'.c : Int) = c' at *
  go_enter Tryz.func20, Tryz.ntmps20
  go_wp2_with fail
  refine HN1.out.mono ?_
  rintro e w1 ⟨rfl, rfl⟩
  go_wp2_with fail
  refine HN2.out.mono ?_
  rintro e w2 ⟨rfl, rfl⟩
  go_wp2
  go_region_held3 (fun W => (W.cell? ⟨p.b, 0, none⟩ = some (.int .i64 a) ∧ W.cell? ⟨p.b, 1, none⟩ = some (.int .i64 b) ∧ W.cell? ⟨p.b, 2, none⟩ = some (.int .i64 c) ∧ W.cell? ⟨p.b, 4, none⟩ = some (.int .u32 n) ∧ W.cell? ⟨p.b, 5, none⟩ = some (.int .i64 t)) ∧ W.cell? ⟨q.b, 0, none⟩ = some (.int .i64 a) ∧ W.cell? ⟨q.b, 1, none⟩ = some (.int .i64 b) ∧ W.cell? ⟨q.b, 2, none⟩ = some (.int .i64 c') ∧ W.cell? ⟨q.b, 4, none⟩ = some (.int .u32 n) ∧ W.cell? ⟨q.b, 5, none⟩ = some (.int .i64 t)) (first | assumption | exact hK0)
    ((first
      | (go_at_call 48; refine (HL.out _).mono ?_; rintro e w3 ⟨rfl, hg3⟩; have g3 := grown_trans (grown_drew _ none) hg3; have hK3 := HK.out _ g3)
      | (go_at_call_of 50 (Value.pointer (some ⟨p.b, 0, none⟩)); refine (HB1.out _ g3).mono ?_; rintro e w4 ⟨v, rfl, hv4, hg4⟩; have g4 := grown_trans g3 hg4; have hK4 := HK.out _ g4)
      | (go_at_call_of 50 (Value.pointer (some ⟨q.b, 0, none⟩)); refine (HB2.out _ g4).mono ?_; rintro e w5 ⟨u, rfl, hu5, hg5⟩; have g5 := grown_trans g4 hg5; have hK5 := HK.out _ g5; have hv5 := hv4.then hg5)
      | (go_at_call 49; refine (HE.out _ _ _ hv5 hu5).mono ?_; rintro e w6 ⟨rfl, hg6⟩; have g6 := grown_trans g5 hg6; have hK6 := HK.out _ g6)))
  go_wp2
  go_ret
  exact ⟨rfl, g6⟩
/-- Are they the same? -/
def sameS (S S' : Sb) : Bool := decide (S.n = S'.n ∧ S.t = S'.t ∧ S.L = S'.L)
theorem same_any {w : World} {p q : Bp} {S S' : Sb} {K K' : Nat} (hp : BkAt w p S K) (hq : BkAt w q S' K') (hw : S.Wk) (hw' : S'.Wk) (ha : S'.a = S.a) (hb : S'.b = S.b) : Calls Tryz.prog 20 #[.pointer (some ⟨p.b, 0, none⟩), .pointer (some ⟨q.b, 0, none⟩)] w fun e w' => e = .returned (.bool (sameS S S')) ∧ w.grownBy w' none := by
  unfold sameS
  by_cases hn : S.n = S'.n
  · by_cases ht : S.t = S'.t
    · have := same_l hp hq hw hw' ha hb hn ht
      rw [show decide (S.n = S'.n ∧ S.t = S'.t ∧ S.L = S'.L) = decide (S.L = S'.L) by simp [hn, ht]]
      exact this
    · rw [show decide (S.n = S'.n ∧ S.t = S'.t ∧ S.L = S'.L) = false by simp [ht]]
      exact same_t hp hq hw hw' ha hb hn ht
  · rw [show decide (S.n = S'.n ∧ S.t = S'.t ∧ S.L = S'.L) = false by simp [hn]]
    exact same_n hp hq hw hw' ha hb hn
end Go.Proofs.YtcbiloomnkbalaaGreatDoor
/- The document's books: Same. -/
namespace Go.Proofs.YtcbiloomnkbalaaGreatDoor
open Go.RowKit Go.Shelf
attribute [local go_sem ↓] Go.wp_at_zero Go.wp_at_succ
attribute [local go_sem] Oper.semAt_some
set_option maxRecDepth 100000 in
set_option maxHeartbeats 40000000 in
theorem dsame_any {w : World} {lo d lo' d' : Nat} {v v' : Value} {S S' : Sb} (h : Db w lo d v S) (h' : Db w lo' d' v' S') (ha : S'.a = S.a) (hb : S'.b = S.b) (hX : S.L.length ≤ 65536) : Calls Tryz.prog 21 #[.pointer (some ⟨d, 0, none⟩), .pointer (some ⟨d', 0, none⟩)] w fun e w' => e = .returned (.bool (sameS S S')) ∧ w.grownBy w' none := by
  obtain ⟨res, hres⟩ : ∃ res, res = sameS S S' := ⟨_, rfl⟩
  rw [← hres]
  have HRS : Hid (res = decide (S.n = S'.n ∧ S.t = S'.t ∧ S.L = S'.L)) := hres
  obtain ⟨ao, c, rfl, hx⟩ := h.bga.ex
  obtain ⟨bo, c', rfl, hy⟩ := h'.bga.ex
  have HC : Hid (∀ W, w.grownBy W none → (W.cell? ⟨d, 0, none⟩ = some (.bool true) ∧ W.cell? ⟨d, 1, none⟩ = some (.int .i64 (S.a : Int)) ∧ W.cell? ⟨d, 2, none⟩ = some (.int .i64 (S.b : Int)) ∧ W.cell? ⟨d, 4, none⟩ = some (.slice ao S.L.length c) ∧ W.cell? ⟨d, 5, none⟩ = some (.int .u32 (S.n : Int)) ∧ W.cell? ⟨d, 6, none⟩ = some (.int .i64 S.t)) ∧ (W.cell? ⟨d', 0, none⟩ = some (.bool true) ∧ W.cell? ⟨d', 1, none⟩ = some (.int .i64 (S.a : Int)) ∧ W.cell? ⟨d', 2, none⟩ = some (.int .i64 (S.b : Int)) ∧ W.cell? ⟨d', 4, none⟩ = some (.slice bo S'.L.length c') ∧ W.cell? ⟨d', 5, none⟩ = some (.int .u32 (S'.n : Int)) ∧ W.cell? ⟨d', 6, none⟩ = some (.int .i64 S'.t))) := fun W gW => ⟨⟨(h.then gW).cell rfl, (h.then gW).cell rfl, (h.then gW).cell rfl, (h.then gW).cell rfl, (h.then gW).cell rfl, (h.then gW).cell rfl⟩, (h'.then gW).cell rfl, by rw [← ha]; exact (h'.then gW).cell rfl, by rw [← hb]; exact (h'.then gW).cell rfl, (h'.then gW).cell rfl, (h'.then gW).cell rfl, (h'.then gW).cell rfl⟩
  obtain ⟨⟨a0, a1, a2, a4, a5, a6⟩, b0, b1, b2, b4, b5, b6⟩ := HC.out w (grown_refl _ _)
  have HA := hide (And.intro hx hy)
  have HXX := hide hX
  clear h h' ha hb hres hx hy hX
  generalize (S.a : Int) = A at *
  generalize (S.b : Int) = Bb at *
  by_cases hn : S.n = S'.n
  case neg =>
    have HZ : Hid (res = false) := HRS.out.trans (decide_eq_false (fun e => hn e.1))
    have hni : ¬ (S.n : Int) = (S'.n : Int) := by omega
    have hni1 : ((S.n : Int) == (S'.n : Int)) = false := by simpa using hni
    have hni2 : ((S.n : Int) != (S'.n : Int)) = true := by simpa using hni
    have hni3 : decide ((S.n : Int) = (S'.n : Int)) = false := by simpa using hni
    clear hn hni HC
    generalize (S.n : Int) = N1 at *
    generalize (S'.n : Int) = N2 at *
    go_enter Tryz.func21, Tryz.ntmps21
    go_wp2_with fail
    refine wp_region_quiet_lit (by kernel_rfl) (by kernel_rfl) ?_
    simp only [List.append]
    repeat (go_big_quiet_step (fail))
    refine wpQuiet_nil ?_
    intro _ hw'
    obtain ⟨nq, hw''⟩ := hw'
    subst hw''
    go_wp2
    go_ret
    exact ⟨by rw [HZ.out]; rfl, grown_drewN _ _ _⟩
  rw [← hn] at b5 HC
  by_cases ht : S.t = S'.t
  case neg =>
    have HZ : Hid (res = false) := HRS.out.trans (decide_eq_false (fun e => ht e.2.1))
    have ht1 : (S.t == S'.t) = false := by simpa using ht
    have ht2 : (S.t != S'.t) = true := by simpa using ht
    have ht3 : decide (S.t = S'.t) = false := by simpa using ht
    clear hn ht HC
    generalize S.t = N1 at *
    generalize S'.t = N2 at *
    generalize (S.n : Int) = N3 at *
    go_enter Tryz.func21, Tryz.ntmps21
    go_wp2_with fail
    refine wp_region_quiet_lit (by kernel_rfl) (by kernel_rfl) ?_
    simp only [List.append]
    repeat (go_big_quiet_step (fail))
    refine wpQuiet_nil ?_
    intro _ hw'
    obtain ⟨nq, hw''⟩ := hw'
    subst hw''
    go_wp2
    go_ret
    exact ⟨by rw [HZ.out]; rfl, grown_drewN _ _ _⟩
  rw [← ht] at b6 HC
  have HRL : Hid (res = decide (S.L = S'.L)) := by rw [HRS.out]; exact decide_eq_decide.2 ⟨fun e => e.2.2, fun e => ⟨hn, ht, e⟩⟩
  clear HRS
  generalize hX1 : S.L = X at *
  generalize hY1 : S'.L = Y at *
  clear hX1 hY1 hn ht
  generalize (S.n : Int) = N3 at *
  generalize S.t = N4 at *
  by_cases hl : X.length = Y.length
  case neg =>
    have HZ : Hid (res = false) := HRL.out.trans (decide_eq_false (fun e => hl (by rw [e])))
    have hli : ¬ (X.length : Int) = (Y.length : Int) := by omega
    have hli1 : ((X.length : Int) == (Y.length : Int)) = false := by simpa using hli
    have hli2 : ((X.length : Int) != (Y.length : Int)) = true := by simpa using hli
    have hli3 : decide ((X.length : Int) = (Y.length : Int)) = false := by simpa using hli
    have hl1 : (X.length == Y.length) = false := by simpa using hl
    have hl2 : (X.length != Y.length) = true := by simpa using hl
    have hl3 : decide (X.length = Y.length) = false := by simpa using hl
    clear hl hli HC HA
    generalize X.length = L1 at *
    generalize Y.length = L2 at *
    go_enter Tryz.func21, Tryz.ntmps21
    go_wp2_with fail
    refine wp_region_quiet_lit (by kernel_rfl) (by kernel_rfl) ?_
    simp only [List.append]
    repeat (go_big_quiet_step (fail))
    refine wpQuiet_nil ?_
    intro _ hw'
    obtain ⟨nq, hw''⟩ := hw'
    subst hw''
    go_wp2
    go_ret
    exact ⟨by rw [HZ.out]; rfl, grown_drewN _ _ _⟩
  have HY := hide hl
  rw [← hl] at b4 HC
  clear hl
  generalize hn : X.length = n at *
  have HN := hide hn
  clear hn
  go_enter Tryz.func21, Tryz.ntmps21
  go_wp2_with fail
  refine wp_region_quiet_lit (by kernel_rfl) (by kernel_rfl) ?_
  simp only [List.append]
  repeat (go_big_quiet_step (fail))
  refine wpQuiet_nil ?_
  intro _ hw'
  obtain ⟨nq, hw''⟩ := hw'
  subst hw''
  clear a0 a1 a2 a4 a5 a6 b0 b1 b2 b4 b5 b6
  go_wp2
  go_loopg [5] n (fun k i wr => ∃ j : Nat, k + j = n ∧ i = .int .i64 j ∧ Hid (w.grownBy wr none ∧ X.take j = Y.take j))
  case atStart => exact ⟨0, by omega, rfl, grown_drewN _ _ _, rfl⟩
  case round =>
    obtain ⟨j, hkj, rfl, HW⟩ := hrel
    obtain ⟨⟨-, -, -, a4, -, -⟩, -, -, -, b4, -, -⟩ := HC.out wr HW.out.1
    have hnb := HXX.out
    by_cases hk : 0 < gk
    · have hj : j < X.length := by have := HN.out; omega
      have hjn : j < n := by omega
      have hjy : j < Y.length := by have := HY.out; omega
      obtain ⟨a, rfl, x0, x1, x2⟩ := HA.out.1 j hjn
      obtain ⟨b, rfl, y0, y1, y2⟩ := HA.out.2 j hjy
      have g := HW.out.1
      have x0 := g.cell x0 (by simp)
      have x1 := g.cell x1 (by simp)
      have x2 := g.cell x2 (by simp)
      have y0 := g.cell y0 (by simp)
      have y1 := g.cell y1 (by simp)
      have y2 := g.cell y2 (by simp)
      have HG := hide g
      have h1 : (0 : Int) ≤ (j : Int) := by omega
      have h2 : (j : Int) < (n : Int) := by omega
      by_cases e : rd X j = rd Y j
      · have HT := hide (take_next hj hjy HW.out.2 e)
        rw [← e] at y0 y1 y2
        clear e g HW hj hjy hjn
        generalize ((rd X j).i : Int) = p at *
        generalize ((rd X j).s : Int) = q at *
        generalize (rd X j).u = r at *
        go_wp2
        go_quiet (fail)
        go_wp2
        go_roundg (gk - 1)
        case measure => omega
        case rel => exact ⟨j + 1, by omega, by go_num, grown_trans HG.out (grown_drewN _ _ _), HT.out⟩
      · have HD : Hid (res = false) := HRL.out.trans (decide_eq_false (rd_ne e))
        have hne : ¬ ((rd X j).i = (rd Y j).i ∧ (rd X j).s = (rd Y j).s ∧ (rd X j).u = (rd Y j).u) := fun h => e (Bg.ext' h.1 h.2.1 h.2.2)
        clear e g HW hj hjy hjn
        generalize (rd X j).i = p at *
        generalize (rd X j).s = q at *
        generalize (rd X j).u = r at *
        generalize (rd Y j).i = p' at *
        generalize (rd Y j).s = q' at *
        generalize (rd Y j).u = r' at *
        by_cases e1 : p = p'
        · subst e1
          by_cases e2 : q = q'
          · subst e2
            have e3 : ¬ r = r' := fun e3 => hne ⟨rfl, rfl, e3⟩
            have f1 : (r == r') = false := by simpa using e3
            have f2 : decide (r = r') = false := by simpa using e3
            clear hne
            go_wp2
            go_quiet (fail)
            go_wp2
            go_ret
            exact ⟨by rw [HD.out]; rfl, grown_trans HG.out (grown_drewN _ _ _)⟩
          · have f1 : ((q : Int) == (q' : Int)) = false := by simp; omega
            have f2 : decide ((q : Int) = (q' : Int)) = false := by simp; omega
            have f3 : (q == q') = false := by simpa using e2
            have f4 : decide (q = q') = false := by simpa using e2
            clear hne
            go_wp2
            go_quiet (fail)
            go_wp2
            go_ret
            exact ⟨by rw [HD.out]; rfl, grown_trans HG.out (grown_drewN _ _ _)⟩
        · have f1 : ((p : Int) == (p' : Int)) = false := by simp; omega
          have f2 : decide ((p : Int) = (p' : Int)) = false := by simp; omega
          have f3 : (p == p') = false := by simpa using e1
          have f4 : decide (p = p') = false := by simpa using e1
          clear hne
          go_wp2
          go_quiet (fail)
          go_wp2
          go_ret
          exact ⟨by rw [HD.out]; rfl, grown_trans HG.out (grown_drewN _ _ _)⟩
    · obtain rfl : j = n := by omega
      have HD : Hid (res = true) := by
        refine HRL.out.trans (decide_eq_true ?_)
        have := HW.out.2
        rw [List.take_of_length_le (by have := HN.out; omega), List.take_of_length_le (by have := HY.out; omega)] at this
        exact this
      have HG := hide HW.out.1
      clear HW hkj hk
      go_wp2
      go_ret
      exact ⟨by rw [HD.out]; rfl, HG.out⟩
end Go.Proofs.YtcbiloomnkbalaaGreatDoor
/- A book beside the document's: is. -/
namespace Go.Proofs.YtcbiloomnkbalaaGreatDoor
open Go.RowKit
attribute [local go_sem ↓] Go.wp_at_zero Go.wp_at_succ
attribute [local go_sem] Oper.semAt_some
/-- A book beside the document's. -/
structure Pw (W : World) (p : Bp) (lo d : Nat) (v : Value) (S T : Sb) (K : Nat) : Prop where
  bk : BkAt W p S K
  db : Db W lo d v T
  ap : ∀ i, p.own i → ¬ dbo d v i
def Po (p : Bp) (d : Nat) (v : Value) (i : Nat) : Prop := p.own i ∨ dbo d v i
/-- What a call on either of them does. -/
structure Pst (W W' : World) (p q : Bp) (d : Nat) (v v' : Value) : Prop where
  b : q.b = p.b
  kept : Kept W W' (Po p d v)
  own : ∀ i, Po q d v' i → Po p d v i ∨ W.heap.size ≤ i
section
variable {w W W' W'' : World} {p q r : Bp} {lo d : Nat} {v v' v'' : Value} {S S' T T' : Sb} {K K' X : Nat} {cs : List Value} {ty : TypeId} {p0 : Bp} {v0 : Value}
theorem Pw.lt (h : Pw W p lo d v S T K) : ∀ i, Po p d v i → i < W.heap.size := by
  rintro i (e | e)
  · exact h.bk.lt i e
  · exact h.db.lt i e
theorem Pw.then (h : Pw W p lo d v S T K) (g : W.grownBy W' none) : Pw W' p lo d v S T K := ⟨h.bk.then g, h.db.then g, h.ap⟩
theorem Pw.far {Y : Nat → Prop} (h : Pw W p lo d v S T K) (k : Kept W W' Y) (hY : ∀ i, Po p d v i → ¬ Y i) : Pw W' p lo d v S T K :=
  ⟨h.bk.far k (fun i e => hY i (.inl e)), h.db.far k (fun i e => hY i (.inr e)), h.ap⟩
theorem Pst.refl (W : World) (p : Bp) (d : Nat) (v : Value) : Pst W W p p d v v := ⟨rfl, Kept.refl _ _, fun _ e => .inl e⟩
theorem Pst.new (g : W.grownBy W' none) (p : Bp) (d : Nat) (v : Value) : Pst W W' p p d v v := ⟨rfl, Kept.new g _, fun _ e => .inl e⟩
theorem Pst.trans (h : Pst W W' p q d v v') (k : Pst W' W'' q r d v' v'') : Pst W W'' p r d v v'' := by
  refine ⟨k.b.trans h.b, h.kept.trans k.kept (fun i hi e => ?_), fun i e => ?_⟩
  · rcases h.own i e with e | e
    · exact e
    · omega
  · rcases k.own i e with e | e
    · exact h.own i e
    · exact .inr (Nat.le_trans h.kept.size e)
theorem Pw.book (h : Pw W p lo d v S T K) (hb : BkAt W' q S' K') (k : Bst W W' p q) : Pw W' q lo d v S' T K' ∧ Pst W W' p q d v v := by
  refine ⟨⟨hb, h.db.far k.kept (fun i hi e => h.ap i e hi), fun i e hi => ?_⟩, ⟨k.b, k.kept.mono (fun i _ e => .inl e), ?_⟩⟩
  · rcases k.own i e with e | e
    · exact h.ap i e hi
    · have := h.db.lt i hi; omega
  · rintro i (e | e)
    · rcases k.own i e with e | e
      · exact .inl (.inl e)
      · exact .inr e
    · exact .inl (.inr e)
theorem Pw.docs (h : Pw W p lo d v S T K) (hd : Db W' lo d v' T') (k : Dst W W' d v v') : Pw W' p lo d v' S T' K ∧ Pst W W' p p d v v' := by
  have hn : ∀ i, dbo d v' i → dbo d v i ∨ W.heap.size ≤ i := by
    rintro i (e | e)
    · exact .inl (.inl e)
    · rcases k.own i e with e | e
      · exact .inl (.inr e)
      · exact .inr e
  refine ⟨⟨h.bk.far k.kept (fun i hi e => h.ap i hi e), hd, fun i e hi => ?_⟩, ⟨rfl, k.kept.mono (fun i _ e => .inr e), ?_⟩⟩
  · rcases hn i hi with e2 | e2
    · exact h.ap i e e2
    · have := h.bk.lt i e; omega
  · rintro i (e | e)
    · exact .inl (.inl e)
    · rcases hn i e with e | e
      · exact .inl (.inr e)
      · exact .inr e
end
/-- Both in the midst of a law's call, with a box of its own. -/
structure Pm (w W : World) (X : Nat) (cs : List Value) (ty : TypeId) (p0 p : Bp) (lo d : Nat) (v0 v : Value) (S T : Sb) (K : Nat) : Prop where
  pw : Pw W p lo d v S T K
  st : Pst w W p0 p d v0 v
  bx : W.heap[X]? = some (.cells cs.toArray ty (0, 0))
  ge : w.heap.size ≤ X
  off : ¬ Po p d v X
section
variable {w W W' : World} {p q p0 : Bp} {lo d : Nat} {v v' v0 : Value} {S S' T T' : Sb} {K K' X : Nat} {cs : List Value} {ty : TypeId}
theorem Pm.start (h : Pw w p lo d v S T K) (cs : List Value) (ty : TypeId) : Pm w (w.alloc (.cells cs.toArray ty)) w.heap.size cs ty p p lo d v v S T K :=
  ⟨h.then (grown_alloc w _), Pst.new (grown_alloc w _) p d v, heap_alloc_new w _, Nat.le_refl _, fun e => Nat.lt_irrefl _ (h.lt _ e)⟩
theorem Pm.moved (h : Pm w W X cs ty p0 p lo d v0 v S T K) (hp : Pw W' q lo d v' S' T' K') (k : Pst W W' p q d v v') : Pm w W' X cs ty p0 q lo d v0 v' S' T' K' :=
  ⟨hp, h.st.trans k, k.kept.at h.bx h.off, h.ge, fun e => by
    rcases k.own X e with e | e
    · exact h.off e
    · have := row_lt h.bx; omega⟩
theorem Pm.then (h : Pm w W X cs ty p0 p lo d v0 v S T K) (g : W.grownBy W' none) : Pm w W' X cs ty p0 p lo d v0 v S T K := h.moved (h.pw.then g) (Pst.new g p d v)
theorem Pm.book (h : Pm w W X cs ty p0 p lo d v0 v S T K) (hb : BkAt W' q S' K') (k : Bst W W' p q) : Pm w W' X cs ty p0 q lo d v0 v S' T K' := h.moved (h.pw.book hb k).1 (h.pw.book hb k).2
theorem Pm.docs (h : Pm w W X cs ty p0 p lo d v0 v S T K) (hd : Db W' lo d v' T') (k : Dst W W' d v v') : Pm w W' X cs ty p0 p lo d v0 v' S T' K := h.moved (h.pw.docs hd k).1 (h.pw.docs hd k).2
theorem Pm.cell (h : Pm w W X cs ty p0 p lo d v0 v S T K) (j : Nat) (u : Value) (hu : cs[j]? = some u) : W.cell? ⟨X, j, none⟩ = some u := by rw [cell_row h.bx]; exact hu
theorem Pm.eb (h : Pm w W X cs ty p0 p lo d v0 v S T K) : p.b = p0.b := h.st.b
end
set_option maxRecDepth 20000 in
set_option maxHeartbeats 8000000 in
theorem is_yes {w : World} {p : Bp} {lo d : Nat} {v : Value} {S : Sb} {K : Nat} (h : Pw w p lo d v S S K) (ho : S.Ok) : Calls Tryz.prog 24 #[.pointer (some ⟨p.b, 0, none⟩), .pointer (some ⟨d, 0, none⟩)] w fun e w' => e = .returned (.bool true) ∧ Pw w' p lo d v S S K ∧ Kept w w' p.own := by
  have hL : S.L.length ≤ 65536 := by have := ho.few; have := ho.b1; omega
  have HA := hide (all_any h.bk ho.wk)
  have HD : Hid (∀ W, w.grownBy W none → Calls Tryz.prog 33 #[.pointer (some ⟨p.b, 0, none⟩)] W fun e w' => ∃ x c, e = .returned (.tuple #[.int .i64 x.u, .bool c]) ∧ Fst S x c ∧ BkAt w' p S K ∧ Kept W w' p.own) := fun W g => due_any (h.bk.then g) ho.wk
  have HRd : Hid (∀ W x c, Fst S x c → Db W lo d v S → Calls Tryz.prog 51 #[.pointer (some ⟨d, 0, none⟩)] W fun e w' => e = .returned (.tuple #[.int .i64 x.u, .bool c]) ∧ w' = W) := fun W x c hF hd => by
    obtain ⟨e1, e2⟩ := du_fst hF (fun y hy => by have := ho.til y hy; have := ho.t0; omega)
    have := ddue_any hd hL
    rw [← e2, ← e1] at this
    exact this
  have HM : Hid (∀ W u z, BgA W u S.L → BgA W z S.L → Calls Tryz.prog 37 #[u, z] W fun e w' => e = .returned (.bool true) ∧ W.grownBy w' none) := by
    intro W u z hu hz
    have := sameBk_any hu hz hL
    rw [decide_eq_true rfl] at this
    exact this
  have HLt := hide h.bk.lt
  have HLn := hide (And.intro hL ho)
  have HP := hide h
  clear h ho hL
  go_enter Tryz.func24, Tryz.ntmps24
  go_wp2_with fail
  refine HA.out.mono ?_
  rintro e w1 ⟨u, rfl, hv, hg1⟩
  have H1 := hide (And.intro hv hg1)
  clear hv hg1 HA
  go_wp2_with fail
  refine (told_any H1.out.1 HLn.out.1).mono ?_
  rintro e w2 ⟨z, rfl, hr, hg2⟩
  have H2 := hide (And.intro hr (grown_trans H1.out.2 hg2))
  have HS1 : Hid (w.heap.size ≤ w1.heap.size) := H1.out.2.size
  clear H1 hr hg2
  go_wp2_with fail
  refine (HD.out _ H2.out.2).mono ?_
  rintro e w3 ⟨x, c, rfl, hF, hb3, hk3⟩
  have hP3 := (((HP.out.then H2.out.2).book hb3 (Bst.keep hk3)).1)
  have hz3 : BgA w3 z S.L := BgA.own (Ix.row_keep H2.out.1 (fun q hq => by
    obtain ⟨h1, cur, h2⟩ := Ix.own_block H2.out.1 hq
    exact hk3.block q (row_lt h2) (fun e => by have := HLt.out q e; have := HS1.out; omega)))
  have H3 := hide (And.intro hF (And.intro hP3 (And.intro hz3 ((Kept.new H2.out.2 p.own).trans hk3 (fun i _ e => e)))))
  clear hF hb3 hk3 hP3 hz3 HD H2 HP
  go_wp2_with fail
  refine (HRd.out _ _ _ H3.out.1 H3.out.2.1.db).mono ?_
  rintro e w4 ⟨rfl, rfl⟩
  have HL : Hid (∀ W, w4.grownBy W none → Calls Tryz.prog 28 #[.pointer (some ⟨p.b, 0, none⟩)] W fun e w' => e = .returned (.int .i64 (S.L.length : Int)) ∧ w' = W) := fun W g => len_any (H3.out.2.1.bk.then g)
  have HN : Hid (∀ W, w4.grownBy W none → Calls Tryz.prog 31 #[.pointer (some ⟨p.b, 0, none⟩)] W fun e w' => e = .returned (.int .u32 (S.n : Int)) ∧ w' = W) := fun W g => next_any (H3.out.2.1.bk.then g)
  have HC : Hid (∀ W, w4.grownBy W none → Calls Tryz.prog 32 #[.pointer (some ⟨p.b, 0, none⟩)] W fun e w' => e = .returned (.int .i64 S.t) ∧ w' = W) := fun W g => clock_any (H3.out.2.1.bk.then g)
  have HS : Hid (∀ W, w4.grownBy W none → Calls Tryz.prog 34 #[.pointer (some ⟨p.b, 0, none⟩)] W fun e w' => e = .returned (.agg #[.int .i64 (S.a : Int), .int .i64 (S.b : Int), .int .i64 (S.c : Int)]) ∧ W.grownBy w' none) := fun W g => shape_any (H3.out.2.1.bk.then g)
  obtain ⟨so, cap, rfl, -⟩ := H3.out.2.1.db.bga.ex
  have HM2 : Hid (∀ W, w4.grownBy W none → Calls Tryz.prog 37 #[z, .slice so S.L.length cap] W fun e w' => e = .returned (.bool true) ∧ W.grownBy w' none) := fun W g => HM.out W _ _ (H3.out.2.2.1.then g) (H3.out.2.1.then g).db.bga
  have HK : Hid (∀ W, w4.grownBy W none → W.cell? ⟨d, 1, none⟩ = some (.int .i64 (S.a : Int)) ∧ W.cell? ⟨d, 2, none⟩ = some (.int .i64 (S.b : Int)) ∧ W.cell? ⟨d, 3, none⟩ = some (.int .i64 (S.c : Int)) ∧ W.cell? ⟨d, 4, none⟩ = some (.slice so S.L.length cap) ∧ W.cell? ⟨d, 5, none⟩ = some (.int .u32 (S.n : Int)) ∧ W.cell? ⟨d, 6, none⟩ = some (.int .i64 S.t)) := fun W g =>
    ⟨(H3.out.2.1.then g).db.cell (j := 1) rfl, (H3.out.2.1.then g).db.cell (j := 2) rfl, (H3.out.2.1.then g).db.cell (j := 3) rfl, (H3.out.2.1.then g).db.cell (j := 4) rfl, (H3.out.2.1.then g).db.cell (j := 5) rfl, (H3.out.2.1.then g).db.cell (j := 6) rfl⟩
  have hK0 := HK.out _ (grown_refl _ _)
  have g2d := grown_drew w4 none
  clear HM HRd HLt HS1
  generalize (S.a : Int) = sa at *
  generalize (S.b : Int) = sb at *
  generalize (S.c : Int) = sc at *
  generalize (S.n : Int) = sn at *
  generalize S.t = st at *
  generalize x.u = xu at *
  go_wp2
  go_region_held3 (fun W => W.cell? ⟨d, 1, none⟩ = some (.int .i64 sa) ∧ W.cell? ⟨d, 2, none⟩ = some (.int .i64 sb) ∧ W.cell? ⟨d, 3, none⟩ = some (.int .i64 sc) ∧ W.cell? ⟨d, 4, none⟩ = some (.slice so S.L.length cap) ∧ W.cell? ⟨d, 5, none⟩ = some (.int .u32 sn) ∧ W.cell? ⟨d, 6, none⟩ = some (.int .i64 st)) (first | assumption | exact hK0)
    ((first
      | (go_at_call 37; refine (HM2.out _ g2d).mono ?_; rintro e w5 ⟨rfl, hg5⟩; have g5 := grown_trans g2d hg5; have hK5 := HK.out _ g5)
      | (go_at_call 28; refine (HL.out _ g5).mono ?_; rintro e w6 ⟨rfl, rfl⟩)
      | (go_at_call 31; refine (HN.out _ g5).mono ?_; rintro e w6 ⟨rfl, rfl⟩)
      | (go_at_call 32; refine (HC.out _ g5).mono ?_; rintro e w6 ⟨rfl, rfl⟩)
      | (go_at_call 34; refine (HS.out _ g5).mono ?_; rintro e w7 ⟨rfl, hg7⟩; have g7 := grown_trans g5 hg7; have hK7 := HK.out _ g7)))
  go_wp2
  go_ret
  exact ⟨rfl, H3.out.2.1.then g7, H3.out.2.2.2.trans (Kept.new g7 p.own) (fun i _ e => e)⟩
end Go.Proofs.YtcbiloomnkbalaaGreatDoor
