/- Texts joined: O2, O3, O4, O5, O6, Q0. -/
import Derived.Test.YtinkkocleognbaaGreatDoorJuAw
import Derived.Deep.CutRange
import Derived.Deep.DeepCutAuto
/- A book is the document's. -/
namespace Go.Proofs.YtinkkocleognbaaGreatDoor
open Go.RowKit Go.Shelf
attribute [local go_sem ↓] Go.wp_at_zero Go.wp_at_succ
attribute [local go_sem] Oper.semAt_some
theorem eqS_op {a : Act} {o : Oper} {x y : Operand} {p q r : Int} (ho : o.op = .binOp .eql 23 x y 23) (hx : a.eval x = .agg #[.int .i64 p, .int .i64 q, .int .i64 r]) (hy : a.eval y = .agg #[.int .i64 p, .int .i64 q, .int .i64 r]) (w : World) : (execOp a.eval o).run Tryz.prog w = .ok (.value (.bool true)) w := by
  unfold execOp
  simp only [ho, hx, hy]
  go_simp
set_option maxRecDepth 100000 in
set_option maxHeartbeats 16000000 in
theorem is_any {w : World} {p : Bp} {S : Sb} {K : Nat} (h : BkAt w p S K) (hw : S.Wk) {lo d : Nat} {v : Value} (hd : Db w lo d v S) : Calls Tryz.prog 18 #[.pointer (some ⟨p.b, 0, none⟩), .pointer (some ⟨d, 0, none⟩)] w fun e w' => e = .returned (.bool true) ∧ w.grownBy w' none := by
  have hX : S.L.length ≤ 65536 := by have := hw.few; have := hw.b1; omega
  have HS : Hid (∀ W, w.grownBy W none → Calls Tryz.prog 44 #[.pointer (some ⟨p.b, 0, none⟩)] W fun e w' => e = .returned (.agg #[.int .i64 (S.a : Int), .int .i64 (S.b : Int), .int .i64 (S.c : Int)]) ∧ W.grownBy w' none) := fun W hW => shape_any (h.then hW)
  have HN : Hid (∀ W, w.grownBy W none → Calls Tryz.prog 47 #[.pointer (some ⟨p.b, 0, none⟩)] W fun e w' => e = .returned (.int .u32 (S.n : Int)) ∧ w' = W) := fun W hW => next_any (h.then hW)
  have HC : Hid (∀ W, w.grownBy W none → Calls Tryz.prog 48 #[.pointer (some ⟨p.b, 0, none⟩)] W fun e w' => e = .returned (.int .i64 S.t) ∧ w' = W) := fun W hW => clock_any (h.then hW)
  have HL : Hid (∀ W, w.grownBy W none → Calls Tryz.prog 43 #[.pointer (some ⟨p.b, 0, none⟩)] W fun e w' => e = .returned (.int .i64 (S.L.length : Int)) ∧ w' = W) := fun W hW => len_any (h.then hW)
  have HB : Hid (∀ W, w.grownBy W none → Calls Tryz.prog 50 #[.pointer (some ⟨p.b, 0, none⟩)] W fun e w' => ∃ v, e = .returned v ∧ w'.ownsRow W.heap.size 108 3 v S.L.length (bgs S.L) ∧ W.grownBy w' none) := fun W hW => lbk_any (h.then hW) hw
  obtain ⟨vo, vcap, rfl, -⟩ := Ix.own_form hd.row
  have HQ : Hid (∀ (W : World) (lo' : Nat) (vb : Value), W.ownsRow lo' 108 3 vb S.L.length (bgs S.L) → w.grownBy W none → Calls Tryz.prog 49 #[vb, .slice vo S.L.length vcap] W fun e w' => e = .returned (.bool true) ∧ W.grownBy w' none) := fun W lo' vb hvb hW => by
    have := sameBk_any (BgA.own hvb) (hd.then hW).bga hX
    rw [decide_eq_true rfl] at this
    exact this
  have HK : Hid (∀ W, w.grownBy W none → W.cell? ⟨d, 1, none⟩ = some (.int .i64 (S.a : Int)) ∧ W.cell? ⟨d, 2, none⟩ = some (.int .i64 (S.b : Int)) ∧ W.cell? ⟨d, 3, none⟩ = some (.int .i64 (S.c : Int)) ∧ W.cell? ⟨d, 4, none⟩ = some (.slice vo S.L.length vcap) ∧ W.cell? ⟨d, 5, none⟩ = some (.int .u32 (S.n : Int)) ∧ W.cell? ⟨d, 6, none⟩ = some (.int .i64 S.t)) := fun W hW => ⟨(hd.then hW).cell rfl, (hd.then hW).cell rfl, (hd.then hW).cell rfl, (hd.then hW).cell rfl, (hd.then hW).cell rfl, (hd.then hW).cell rfl⟩
  clear h hw hd hX
  generalize hnn : S.L.length = LN at *
  clear hnn
  generalize bgs S.L = XB at *
  generalize (S.a : Int) = A at *
  generalize (S.b : Int) = Bb at *
  generalize (S.c : Int) = Cc at *
  generalize (S.n : Int) = Nx at *
  generalize S.t = Tt at *
  have hK0 := HK.out _ (grown_drew w none)
  go_enter Tryz.func18, Tryz.ntmps18
  go_wp2
  refine wp_region_held_drew (S := (fun W => W.cell? ⟨d, 1, none⟩ = some (.int .i64 A) ∧ W.cell? ⟨d, 2, none⟩ = some (.int .i64 Bb) ∧ W.cell? ⟨d, 3, none⟩ = some (.int .i64 Cc) ∧ W.cell? ⟨d, 4, none⟩ = some (.slice vo LN vcap) ∧ W.cell? ⟨d, 5, none⟩ = some (.int .u32 Nx) ∧ W.cell? ⟨d, 6, none⟩ = some (.int .i64 Tt))) (by kernel_rfl) ?_ (fun hHeld => ?_)
  · (exact hK0)
  refine tkQ 0 (oi := ⟨some 5, .move (.tmp 0), 27, "law.go:45", #[], none⟩) rfl ?_
  try simp only [Act.put, pA, pB, pC]
  refine tkQ 1 (oi := ⟨some 6, .binOp .neq 27 (.tmp 5) (.const (.pointer none)) 27, 4, "law.go:45", #[⟨0, .data⟩], none⟩) rfl ?_
  try simp only [Act.put, pA, pB, pC]
  refine tkQ 2 (oi := ⟨some 7, .move (.tmp 6), 4, "law.go:45", #[⟨1, .data⟩], none⟩) rfl ?_
  try simp only [Act.put, pA, pB, pC]
  refine tkQ 3 (oi := ⟨some 8, .move (.tmp 0), 27, "law.go:45", #[⟨2, .guard⟩], some (2, true)⟩) rfl ?_
  try simp only [Act.put, pA, pB, pC]
  refine tkQ 5 (oi := ⟨some 10, .move (.tmp 1), 61, "law.go:45", #[⟨2, .guard⟩], some (2, true)⟩) rfl ?_
  try simp only [Act.put, pA, pB, pC]
  refine tkQ 6 (oi := ⟨some 11, .nilCheck (.tmp 10), 0, "law.go:45", #[⟨5, .data⟩, ⟨2, .guard⟩], some (2, true)⟩) rfl ?_
  try simp only [Act.put, pA, pB, pC]
  refine tkQ 7 (oi := ⟨some 12, .fieldAddr 76 (.tmp 11) 1, 0, "law.go:45", #[⟨6, .data⟩, ⟨2, .guard⟩], some (2, true)⟩) rfl ?_
  try simp only [Act.put, pA, pB, pC]
  refine tkQ 8 (oi := ⟨some 13, .load 23 (.tmp 12), 23, "law.go:45", #[⟨7, .data⟩, ⟨2, .guard⟩], some (2, true)⟩) rfl ?_
  try simp only [Act.put, pA, pB, pC]
  refine rdH (i := 4) rfl (fun K hK => ?_)
  go_simp
  refine (HS.out _ (grown_drew w none)).mono ?_
  rintro e w1 ⟨rfl, hg1⟩
  have HG1 := hide (grown_trans (grown_drew w none) hg1)
  have hK1 := HK.out _ HG1.out
  clear hg1
  go_wp2_with fail
  refine hK.out _ _ ?_ (fun hHeld => ?_)
  · ((try dsimp only); first | with_reducible assumption | exact hK4 | exact hK3 | exact hK1 | exact hK0)
  clear hK K
  try simp only [Act.put, pA, pB, pC]
  refine tkH (i := 9) (oi := ⟨some 14, .binOp .eql 23 (.tmp 9) (.tmp 13) 23, 4, "law.go:45", #[⟨4, .data⟩, ⟨8, .data⟩, ⟨2, .guard⟩], some (2, true)⟩) (v := ?_) rfl ?_ ?_
  rotate_left
  · (intro w hSw; refine eqS_op (x := .tmp 9) (y := .tmp 13) (p := A) (q := Bb) (r := Cc) ?_ ?_ ?_ w <;> rfl)
  try simp only [Act.put, pA, pB, pC]
  refine tkQ 10 (oi := ⟨some 15, .pick (.tmp 7) (.tmp 14) (.const (.bool false)), 4, "law.go:45", #[⟨2, .data⟩, ⟨9, .data⟩], none⟩) rfl ?_
  try simp only [Act.put, pA, pB, pC]
  refine tkQ 11 (oi := ⟨some 16, .move (.tmp 15), 4, "law.go:45", #[⟨10, .data⟩, ⟨4, .chain⟩], none⟩) rfl ?_
  try simp only [Act.put, pA, pB, pC]
  refine tkQ 12 (oi := ⟨some 17, .move (.tmp 0), 27, "law.go:45", #[⟨11, .guard⟩], some (11, true)⟩) rfl ?_
  try simp only [Act.put, pA, pB, pC]
  refine tkQ 14 (oi := ⟨some 19, .move (.tmp 1), 61, "law.go:45", #[⟨11, .guard⟩], some (11, true)⟩) rfl ?_
  try simp only [Act.put, pA, pB, pC]
  refine tkQ 15 (oi := ⟨some 20, .nilCheck (.tmp 19), 0, "law.go:45", #[⟨14, .data⟩, ⟨11, .guard⟩], some (11, true)⟩) rfl ?_
  try simp only [Act.put, pA, pB, pC]
  refine tkQ 16 (oi := ⟨some 21, .fieldAddr 76 (.tmp 20) 3, 0, "law.go:45", #[⟨15, .data⟩, ⟨11, .guard⟩], some (11, true)⟩) rfl ?_
  try simp only [Act.put, pA, pB, pC]
  refine tkQ 17 (oi := ⟨some 22, .load 30 (.tmp 21), 30, "law.go:45", #[⟨16, .data⟩, ⟨11, .guard⟩], some (11, true)⟩) rfl ?_
  try simp only [Act.put, pA, pB, pC]
  refine rdH (i := 13) rfl (fun K hK => ?_)
  go_simp
  refine (HN.out _ HG1.out).mono ?_
  rintro e w2 ⟨rfl, rfl⟩
  go_wp2_with fail
  refine hK.out _ _ ?_ (fun hHeld => ?_)
  · ((try dsimp only); first | with_reducible assumption | exact hK4 | exact hK3 | exact hK1 | exact hK0)
  clear hK K
  try simp only [Act.put, pA, pB, pC]
  refine tkQ 18 (oi := ⟨some 23, .binOp .eql 30 (.tmp 18) (.tmp 22) 30, 4, "law.go:45", #[⟨13, .data⟩, ⟨17, .data⟩, ⟨11, .guard⟩], some (11, true)⟩) rfl ?_
  try simp only [Act.put, pA, pB, pC]
  refine tkQ 19 (oi := ⟨some 24, .pick (.tmp 16) (.tmp 23) (.const (.bool false)), 4, "law.go:45", #[⟨11, .data⟩, ⟨18, .data⟩], none⟩) rfl ?_
  try simp only [Act.put, pA, pB, pC]
  refine tkQ 20 (oi := ⟨some 25, .move (.tmp 24), 4, "law.go:45", #[⟨19, .data⟩, ⟨13, .chain⟩], none⟩) rfl ?_
  try simp only [Act.put, pA, pB, pC]
  refine tkQ 21 (oi := ⟨some 26, .move (.tmp 0), 27, "law.go:45", #[⟨20, .guard⟩], some (20, true)⟩) rfl ?_
  try simp only [Act.put, pA, pB, pC]
  refine tkQ 23 (oi := ⟨some 28, .move (.tmp 1), 61, "law.go:45", #[⟨20, .guard⟩], some (20, true)⟩) rfl ?_
  try simp only [Act.put, pA, pB, pC]
  refine tkQ 24 (oi := ⟨some 29, .nilCheck (.tmp 28), 0, "law.go:45", #[⟨23, .data⟩, ⟨20, .guard⟩], some (20, true)⟩) rfl ?_
  try simp only [Act.put, pA, pB, pC]
  refine tkQ 25 (oi := ⟨some 30, .fieldAddr 76 (.tmp 29) 4, 0, "law.go:45", #[⟨24, .data⟩, ⟨20, .guard⟩], some (20, true)⟩) rfl ?_
  try simp only [Act.put, pA, pB, pC]
  refine tkQ 26 (oi := ⟨some 31, .load 2 (.tmp 30), 2, "law.go:45", #[⟨25, .data⟩, ⟨20, .guard⟩], some (20, true)⟩) rfl ?_
  try simp only [Act.put, pA, pB, pC]
  refine rdH (i := 22) rfl (fun K hK => ?_)
  go_simp
  refine (HC.out _ HG1.out).mono ?_
  rintro e w2 ⟨rfl, rfl⟩
  go_wp2_with fail
  refine hK.out _ _ ?_ (fun hHeld => ?_)
  · ((try dsimp only); first | with_reducible assumption | exact hK4 | exact hK3 | exact hK1 | exact hK0)
  clear hK K
  try simp only [Act.put, pA, pB, pC]
  refine tkQ 27 (oi := ⟨some 32, .binOp .eql 2 (.tmp 27) (.tmp 31) 2, 4, "law.go:45", #[⟨22, .data⟩, ⟨26, .data⟩, ⟨20, .guard⟩], some (20, true)⟩) rfl ?_
  try simp only [Act.put, pA, pB, pC]
  refine tkQ 28 (oi := ⟨some 33, .pick (.tmp 25) (.tmp 32) (.const (.bool false)), 4, "law.go:45", #[⟨20, .data⟩, ⟨27, .data⟩], none⟩) rfl ?_
  try simp only [Act.put, pA, pB, pC]
  refine tkQ 29 (oi := ⟨some 34, .move (.tmp 33), 4, "law.go:45", #[⟨28, .data⟩, ⟨22, .chain⟩], none⟩) rfl ?_
  try simp only [Act.put, pA, pB, pC]
  refine tkQ 30 (oi := ⟨some 35, .move (.tmp 0), 27, "law.go:45", #[⟨29, .guard⟩], some (29, true)⟩) rfl ?_
  try simp only [Act.put, pA, pB, pC]
  refine tkQ 32 (oi := ⟨some 37, .move (.tmp 1), 61, "law.go:45", #[⟨29, .guard⟩], some (29, true)⟩) rfl ?_
  try simp only [Act.put, pA, pB, pC]
  refine tkQ 33 (oi := ⟨some 38, .nilCheck (.tmp 37), 0, "law.go:45", #[⟨32, .data⟩, ⟨29, .guard⟩], some (29, true)⟩) rfl ?_
  try simp only [Act.put, pA, pB, pC]
  refine tkQ 34 (oi := ⟨some 39, .fieldAddr 76 (.tmp 38) 2, 0, "law.go:45", #[⟨33, .data⟩, ⟨29, .guard⟩], some (29, true)⟩) rfl ?_
  try simp only [Act.put, pA, pB, pC]
  refine tkQ 35 (oi := ⟨some 40, .load 32 (.tmp 39), 32, "law.go:45", #[⟨34, .data⟩, ⟨29, .guard⟩], some (29, true)⟩) rfl ?_
  try simp only [Act.put, pA, pB, pC]
  refine tkQ 36 (oi := ⟨some 41, .call { callee := .builtin .len, args := #[.tmp 40], argTypes := #[32] }, 3, "law.go:45", #[⟨35, .data⟩, ⟨29, .guard⟩], some (29, true)⟩) rfl ?_
  try simp only [Act.put, pA, pB, pC]
  refine rdH (i := 31) rfl (fun K hK => ?_)
  go_simp
  refine (HL.out _ HG1.out).mono ?_
  rintro e w2 ⟨rfl, rfl⟩
  go_wp2_with fail
  refine hK.out _ _ ?_ (fun hHeld => ?_)
  · ((try dsimp only); first | with_reducible assumption | exact hK4 | exact hK3 | exact hK1 | exact hK0)
  clear hK K
  try simp only [Act.put, pA, pB, pC]
  refine tkQ 37 (oi := ⟨some 42, .binOp .eql 3 (.tmp 36) (.tmp 41) 3, 4, "law.go:45", #[⟨31, .data⟩, ⟨36, .data⟩, ⟨29, .guard⟩], some (29, true)⟩) rfl ?_
  try simp only [Act.put, pA, pB, pC]
  refine tkQ 38 (oi := ⟨some 43, .pick (.tmp 34) (.tmp 42) (.const (.bool false)), 4, "law.go:45", #[⟨29, .data⟩, ⟨37, .data⟩], none⟩) rfl ?_
  try simp only [Act.put, pA, pB, pC]
  refine tkQ 39 (oi := ⟨some 44, .move (.tmp 43), 4, "law.go:45", #[⟨38, .data⟩, ⟨31, .chain⟩], none⟩) rfl ?_
  try simp only [Act.put, pA, pB, pC]
  refine tkQ 40 (oi := ⟨some 45, .move (.tmp 0), 27, "law.go:45", #[⟨39, .guard⟩], some (39, true)⟩) rfl ?_
  try simp only [Act.put, pA, pB, pC]
  refine tkQ 42 (oi := ⟨some 47, .move (.tmp 1), 61, "law.go:45", #[⟨39, .guard⟩], some (39, true)⟩) rfl ?_
  try simp only [Act.put, pA, pB, pC]
  refine tkQ 43 (oi := ⟨some 48, .nilCheck (.tmp 47), 0, "law.go:45", #[⟨42, .data⟩, ⟨39, .guard⟩], some (39, true)⟩) rfl ?_
  try simp only [Act.put, pA, pB, pC]
  refine tkQ 44 (oi := ⟨some 49, .fieldAddr 76 (.tmp 48) 2, 0, "law.go:45", #[⟨43, .data⟩, ⟨39, .guard⟩], some (39, true)⟩) rfl ?_
  try simp only [Act.put, pA, pB, pC]
  refine tkQ 45 (oi := ⟨some 50, .load 32 (.tmp 49), 32, "law.go:45", #[⟨44, .data⟩, ⟨39, .guard⟩], some (39, true)⟩) rfl ?_
  try simp only [Act.put, pA, pB, pC]
  refine rdH (i := 41) rfl (fun K hK => ?_)
  go_simp
  refine (HB.out _ HG1.out).mono ?_
  rintro e w3 ⟨vb, rfl, hvb, hg3⟩
  have HG3 := hide (grown_trans HG1.out hg3)
  have hK3 := HK.out _ HG3.out
  have HVB := hide hvb
  clear hg3 hvb
  go_wp2_with fail
  refine hK.out _ _ ?_ (fun hHeld => ?_)
  · ((try dsimp only); first | with_reducible assumption | exact hK4 | exact hK3 | exact hK1 | exact hK0)
  clear hK K
  try simp only [Act.put, pA, pB, pC]
  refine rdH (i := 46) rfl (fun K hK => ?_)
  go_simp
  refine (HQ.out _ _ _ HVB.out HG3.out).mono ?_
  rintro e w4 ⟨rfl, hg4⟩
  have HG4 := hide (grown_trans HG3.out hg4)
  have hK4 := HK.out _ HG4.out
  clear hg4
  go_wp2_with fail
  refine hK.out _ _ ?_ (fun hHeld => ?_)
  · ((try dsimp only); first | with_reducible assumption | exact hK4 | exact hK3 | exact hK1 | exact hK0)
  clear hK K
  try simp only [Act.put, pA, pB, pC]
  refine tkQ 47 (oi := ⟨some 52, .pick (.tmp 44) (.tmp 51) (.const (.bool false)), 4, "law.go:45", #[⟨39, .data⟩, ⟨46, .data⟩], none⟩) rfl ?_
  try simp only [Act.put, pA, pB, pC]
  refine tkQ 48 (oi := ⟨some 4, .assign (.tmp 52), 4, "law.go:45", #[⟨47, .data⟩, ⟨46, .chain⟩, ⟨0, .phase⟩, ⟨1, .phase⟩, ⟨2, .phase⟩, ⟨3, .phase⟩, ⟨4, .phase⟩, ⟨5, .phase⟩, ⟨6, .phase⟩, ⟨7, .phase⟩, ⟨8, .phase⟩, ⟨9, .phase⟩, ⟨10, .phase⟩, ⟨11, .phase⟩, ⟨12, .phase⟩, ⟨13, .phase⟩, ⟨14, .phase⟩, ⟨15, .phase⟩, ⟨16, .phase⟩, ⟨17, .phase⟩, ⟨18, .phase⟩, ⟨19, .phase⟩, ⟨20, .phase⟩, ⟨21, .phase⟩, ⟨22, .phase⟩, ⟨23, .phase⟩, ⟨24, .phase⟩, ⟨25, .phase⟩, ⟨26, .phase⟩, ⟨27, .phase⟩, ⟨28, .phase⟩, ⟨29, .phase⟩, ⟨30, .phase⟩, ⟨31, .phase⟩, ⟨32, .phase⟩, ⟨33, .phase⟩, ⟨34, .phase⟩, ⟨35, .phase⟩, ⟨36, .phase⟩, ⟨37, .phase⟩, ⟨38, .phase⟩, ⟨39, .phase⟩, ⟨40, .phase⟩, ⟨41, .phase⟩, ⟨42, .phase⟩, ⟨43, .phase⟩, ⟨44, .phase⟩, ⟨45, .phase⟩, ⟨46, .phase⟩, ⟨47, .phase⟩], none⟩) rfl ?_
  try simp only [Act.put, pA, pB, pC]
  refine wpAnyH_done (by kernel_rfl) ?_ _
  go_wp2
  go_ret
  exact ⟨rfl, HG4.out⟩
end Go.Proofs.YtinkkocleognbaaGreatDoor
/- The document's book: Copy. -/
namespace Go.Proofs.YtinkkocleognbaaGreatDoor
open Go.RowKit Go.Shelf
attribute [local go_sem ↓] Go.wp_at_zero Go.wp_at_succ
attribute [local go_sem] Oper.semAt_some
theorem own_src {w : World} {lo : Nat} {v : Value} {X : List Bg} (h : w.ownsRow lo 108 3 v X.length (bgs X)) : v = .slice none 0 0 ∧ X = [] ∨ ∃ ad cap, v = .slice (some ad) X.length cap ∧ ∀ j u, (bgs X)[j]? = some u → w.cell? (Addr.add ad j) = some u := by
  by_cases hn : 0 < X.length
  · obtain ⟨g, cap, cur, rfl, -, hg, -, -, -, ht⟩ := Ix.own_row h hn
    refine Or.inr ⟨⟨g, 0, none⟩, cap, rfl, fun j u hj => ?_⟩
    rw [Addr.add_lit, Nat.zero_add]
    exact Ix.own_cell hg ht hj
  · have hX : X = [] := List.eq_nil_of_length_eq_zero (by omega)
    subst hX
    rcases h.2 with ⟨hv, -⟩ | ⟨g, cap, cur, hv, -⟩
    · exact Or.inl ⟨hv, rfl⟩
    · exact Or.inr ⟨_, cap, hv, fun j u hj => by simp [bgs] at hj⟩
set_option maxRecDepth 20000 in
set_option maxHeartbeats 8000000 in
theorem dcopy_any {w : World} {lo d : Nat} {v : Value} {S : Sb} (h : Db w lo d v S) (hX : S.L.length ≤ 65536) : Calls Tryz.prog 24 #[.pointer (some ⟨d, 0, none⟩)] w fun e w' => ∃ d' v', e = .returned (.pointer (some ⟨d', 0, none⟩)) ∧ Db w' w.heap.size d' v' S ∧ w.grownBy w' none := by
  have hsrc := own_src h.row
  obtain ⟨w1, hw1⟩ : ∃ w1, w1 = w.alloc (.cells (dbc S v).toArray 76) := ⟨_, rfl⟩
  have g1 : w.grownBy w1 none := by rw [hw1]; exact grown_alloc _ _
  have b1 : w1.heap[w.heap.size]? = some (.cells (dbc S v).toArray 76 (0, 0)) := by rw [hw1]; exact heap_alloc_new w _
  have s1 : w1.heap.size = w.heap.size + 1 := by rw [hw1]; simp
  obtain ⟨w2, hw2⟩ : ∃ w2, w2 = w1.alloc (.cells #[] 108) := ⟨_, rfl⟩
  have g2 : w1.grownBy w2 none := by rw [hw2]; exact grown_alloc _ _
  have b2 : w2.heap[w.heap.size + 1]? = some (.cells #[] 108 (0, 0)) := by rw [hw2, ← s1]; exact heap_alloc_new w1 _
  have hr2 : w2.ownsRow (w.heap.size + 1) 108 3 (.slice (some ⟨w.heap.size + 1, 0, none⟩) 0 0) 0 [] := ⟨rfl, Or.inr ⟨w.heap.size + 1, 0, #[], rfl, Nat.le_refl _, b2, Nat.le_refl _, by unfold maxLen; omega, rfl, rfl⟩⟩
  have c0 := h.cell (j := 0) rfl
  have c1 := h.cell (j := 1) rfl
  have c2 := h.cell (j := 2) rfl
  have c3 := h.cell (j := 3) rfl
  have c4 := h.cell (j := 4) rfl
  have c5 := h.cell (j := 5) rfl
  have c6 := h.cell (j := 6) rfl
  have d4 : w2.cell? ⟨d, 4, none⟩ = some v := (h.then (grown_trans g1 g2)).cell rfl
  have HE := hide hw1
  have HD := hide (And.intro g1 (And.intro g2 (And.intro b1 (And.intro hr2 s1))))
  obtain ⟨i0, hi0, hz0, hz1, hz2⟩ := info_parts Tryz.info108
  have HI0 := hide (And.intro hi0 (And.intro hz0 (And.intro hz1 hz2)))
  have hsz2 : Hid (w.heap.size + 1 ≤ w2.heap.size) := by rw [← s1]; exact g2.size
  have hsrc2 : v = .slice none 0 0 ∧ S.L = [] ∨ ∃ ad cap, v = .slice (some ad) S.L.length cap ∧ ∀ j u, (bgs S.L)[j]? = some u → w2.cell? (Addr.add ad j) = some u := by
    rcases hsrc with h1 | ⟨ad, cap, h1, h2⟩
    · exact Or.inl h1
    · exact Or.inr ⟨ad, cap, h1, fun j u hj => (grown_trans g1 g2).cell (h2 j u hj) (by simp)⟩
  have HX := hide hX
  have KEY : Hid (∀ (w3 : World) (v' : Value), w3.ownsRow (w.heap.size + 1) 108 3 v' S.L.length (bgs S.L) → w2.grownBy w3 (some (w.heap.size + 1)) → w3.heap[w.heap.size]? = some (.cells (dbc S v).toArray 76 (0, 0)) ∧ Db (w3.setCell ⟨w.heap.size, 4, none⟩ v') w.heap.size w.heap.size v' S ∧ w.grownBy (w3.setCell ⟨w.heap.size, 4, none⟩ v') none) := fun w3 v' ho hg => by
    have hb : w3.heap[w.heap.size]? = some (.cells (dbc S v).toArray 76 (0, 0)) := (hg.block _ (row_lt (by rw [g2.block _ (row_lt b1) (by simp)]; exact b1)) (by simp)).trans ((g2.block _ (row_lt b1) (by simp)).trans b1)
    have hs := row_setCell hb 4 v'
    have hgs := grown_setCell w3 w.heap.size 4 v'
    refine ⟨hb, ⟨hs, ?_, Nat.le_refl _⟩, ?_⟩
    · refine Ix.row_keep (own_base ho (Nat.le_succ _)) (fun k hk => ?_)
      have := (Ix.own_block ho hk)
      obtain ⟨h1, cur, h2⟩ := this
      exact hgs.block k (row_lt h2) (fun e => by simp at e; omega)
    · exact grown_then (grown_then (grown_trans g1 g2) hg (fun j e => by cases e; exact Or.inl (Nat.le_succ _))) hgs (fun j e => by cases e; exact Or.inl (Nat.le_refl _))
  subst hw2
  clear h hsrc hw1 g1 b1 s1 g2 b2 hr2 hX hi0 hz0 hz1 hz2
  unfold dbc at c0 c1 c2 c3 c4 c5 c6
  have hs1 : w1.heap.size = w.heap.size + 1 := HD.out.2.2.2.2
  rcases hsrc2 with ⟨rfl, hL⟩ | ⟨ad, cap, rfl, hn⟩
  · have hkey := KEY.out _ (.slice (some ⟨w.heap.size + 1, 0, none⟩) 0 0) (by rw [hL]; exact HD.out.2.2.2.1) (grown_refl _ _)
    rw [World.setCell_alloc_past _ _ _ _ (by rw [HD.out.2.2.2.2]; exact Nat.lt_succ_self _)] at hkey
    have HKY := hide hkey
    have z4 := free_row HKY.out.1 4
    have y4 : (w1.alloc (.cells #[] 108)).cell? ⟨w.heap.size, 4, none⟩ = some (.slice none 0 0) := by rw [cell_row HKY.out.1]; rfl
    clear hkey
    go_enter Tryz.func24, Tryz.ntmps24
    go_upto_region 2 with fail
    rw [show World.alloc w (.cells #[.bool true, .int .i64 (S.a : Int), .int .i64 (S.b : Int), .int .i64 (S.c : Int), .slice none 0 0, .int .u32 (S.n : Int), .int .i64 S.t] 76) = w1 from HE.out.symm]
    go_wp2
    go_ret
    exact ⟨_, _, rfl, HKY.out.2.1, HKY.out.2.2⟩
  · have HN := hide hn
    clear hn
    go_enter Tryz.func24, Tryz.ntmps24
    go_upto_region 2 with fail
    rw [show World.alloc w (.cells #[.bool true, .int .i64 (S.a : Int), .int .i64 (S.b : Int), .int .i64 (S.c : Int), .slice (some ad) S.L.length cap, .int .u32 (S.n : Int), .int .i64 S.t] 76) = w1 from HE.out.symm]
    go_wp2_with (at_builtin; refine wpList_append_own _ rfl (.tmp 7) (.tmp 11) 32 rfl (w.heap.size + 1) 108 i0 (.agg #[.int .u32 0, .int .i64 0, .int .i64 0]) 3 24 Tryz.underlying32 HI0.out.1 HI0.out.2.1 HI0.out.2.2.1 HI0.out.2.2.2 rfl (by decide) (.slice (some ⟨w.heap.size + 1, 0, none⟩) 0 0) 0 [] rfl HD.out.2.2.2.1 ad S.L.length cap (bgs S.L) rfl (bgs_length _) HN.out (bgs_one _) (by have := HX.out; unfold maxLen; omega) (by have := HX.out; omega) hsz2.out ?_)
    intro v' w3 ho hg hv
    clear hv
    have hkey := KEY.out w3 v' ho hg
    obtain ⟨so, c2, rfl, -⟩ := Ix.own_form ho
    have HKY := hide hkey
    have z4 := free_row HKY.out.1 4
    have y4 : w3.cell? ⟨w.heap.size, 4, none⟩ = some (.slice (some ad) S.L.length cap) := by rw [cell_row HKY.out.1]; rfl
    clear hkey ho hg
    go_wp2
    go_ret
    exact ⟨_, _, rfl, HKY.out.2.1, HKY.out.2.2⟩
end Go.Proofs.YtinkkocleognbaaGreatDoor
/- The document's states of a history. -/
namespace Go.Proofs.YtinkkocleognbaaGreatDoor
open Go.RowKit Go.Shelf
attribute [local go_sem ↓] Go.wp_at_zero Go.wp_at_succ
attribute [local go_sem] Oper.semAt_some
theorem info61 : (Tryz.prog.info? 61).map (fun i => (i.zero, i.size, i.bytes)) = some (some (.pointer none), 1, 8) := by kernel_rfl
/-- Pointers to the document's books. -/
def dps (ds : List (Nat × Value)) : List Value := ds.map fun x => .pointer (some ⟨x.1, 0, none⟩)
/-- A row of the document's books, the k-th in the state f k. -/
structure Dl (w : World) (lo : Nat) (v : Value) (f : Nat → Sb) (n : Nat) (ds : List (Nat × Value)) : Prop where
  len : ds.length = n
  row : w.ownsRow lo 61 1 v n (dps ds)
  bk : ∀ (k : Nat) (x : Nat × Value), ds[k]? = some x → Db w lo x.1 x.2 (f k)
theorem own_keepN {w w' : World} {b n sz : Nat} {t : TypeId} {v : Value} {xs : List Value} (h : w.ownsRow b t sz v n xs) (hg : w.grownBy w' none) : w'.ownsRow b t sz v n xs := h.kept hg (by cases hv : v.ownBlock with | none => exact Or.inl rfl | some k => exact Or.inr (by simp))
theorem Dl.then {w w' : World} {lo n : Nat} {v : Value} {f : Nat → Sb} {ds : List (Nat × Value)} (h : Dl w lo v f n ds) (hg : w.grownBy w' none) : Dl w' lo v f n ds := ⟨h.len, own_keepN h.row hg, fun k x hk => (h.bk k x hk).then hg⟩
theorem Db.lower {w : World} {lo lo' d : Nat} {v : Value} {S : Sb} (h : Db w lo d v S) (hl : lo' ≤ lo) : Db w lo' d v S := ⟨h.head, own_base h.row hl, Nat.le_trans hl h.ge⟩
/-- A row of pointers is none of a book's. -/
theorem Db.rowfar {w : World} {lo lo2 d n : Nat} {v u : Value} {S : Sb} {xs : List Value} (h : Db w lo d v S) (hr : w.ownsRow lo2 61 1 u n xs) : ∀ i, dbo d v i → ¬ u.ownBlock = some i := by
  rintro i hi hu
  obtain ⟨-, cur, hc⟩ := Ix.own_block hr hu
  rcases hi with rfl | hi
  · rw [h.head] at hc; cases hc
  · obtain ⟨-, cur2, hc2⟩ := Ix.own_block h.row hi; rw [hc2] at hc; cases hc
theorem Dl.snoc {w w' : World} {lo n d : Nat} {v v' u : Value} {f : Nat → Sb} {ds : List (Nat × Value)} (h : Dl w lo v f n ds) (hb : Db w lo d u (f n)) (ho : w'.ownsRow lo 61 1 v' (n + 1) (dps ds ++ [.pointer (some ⟨d, 0, none⟩)])) (hg : w.grownBy w' v.ownBlock) : Dl w' lo v' f (n + 1) (ds ++ [(d, u)]) := by
  have hk : Kept w w' (fun i => v.ownBlock = some i) := Kept.of hg (fun j e _ => e)
  refine ⟨by rw [List.length_append, h.len]; rfl, by unfold dps at *; rw [List.map_append]; exact ho, fun k x hx => ?_⟩
  by_cases hkn : k < n
  · rw [List.getElem?_append_left (by rw [h.len]; exact hkn)] at hx
    exact (h.bk k x hx).far hk ((h.bk k x hx).rowfar h.row)
  · rw [List.getElem?_append_right (by rw [h.len]; omega), h.len] at hx
    have hkl := (List.getElem?_eq_some_iff.1 hx).1
    simp at hkl
    obtain rfl : k = n := by omega
    simp at hx
    subst hx
    exact hb.far hk (hb.rowfar h.row)
/-- What the document's States answers. -/
def DsP (w w' : World) (v : Value) (f : Nat → Sb) (n : Nat) : Prop := ∃ ds, Dl w' w.heap.size v f n ds ∧ w.grownBy w' none
set_option maxRecDepth 20000 in
set_option maxHeartbeats 16000000 in
theorem dstates_any {w : World} {a b c : Nat} (ho : Gx.OkS a b c) {ao : Option Addr} {len cap : Nat} {rs : List Rc} (hl : rs.length = len) (hlen : len ≤ 10000) (hR : RecsAt w ao rs) (hO : ∀ r ∈ rs, r.Ok) : Calls Tryz.prog 16 #[limV a b c, .slice ao len cap] w fun e w' => ∃ v, e = .returned (.tuple #[v, .int .i64 (rE (nS a b c) rs)]) ∧ DsP w w' v (fo (nS a b c) rs) (rn (nS a b c) rs + 1) := by
  have HRan := hide (ran_is (nS a b c) rs)
  have HN := dnew_any ho (w.alloc (.cells #[.int .i64 (a : Int), .int .i64 (b : Int), .int .i64 (c : Int)] 23))
  have g0 := grown_alloc w (.cells #[.int .i64 (a : Int), .int .i64 (b : Int), .int .i64 (c : Int)] 23)
  have HG0 := hide g0
  have HD := hide (And.intro hl (And.intro hR hO))
  have HW : Hid (∀ j, (fo (nS a b c) rs j).Ok) := fun j => fo_ok (nS_ok ho) rs j
  have HF : Hid (∀ j r, rs[j]? = some r → fo (nS a b c) rs (j + 1) = app (fo (nS a b c) rs j) r) := fun j r h => fo_succ h
  have H00 : Hid (fo (nS a b c) rs 0 = nS a b c) := rfl
  obtain ⟨f, hf⟩ : ∃ f : Nat → Sb, f = fo (nS a b c) rs := ⟨_, rfl⟩
  have HRs : Hid ((∀ j r, rs[j]? = some r → j ≤ rn (nS a b c) rs → appE (f j) r = 0 → j + 1 ≤ rn (nS a b c) rs) ∧ (∀ j r, rs[j]? = some r → j ≤ rn (nS a b c) rs → appE (f j) r ≠ 0 → rn (nS a b c) rs = j ∧ rE (nS a b c) rs = appE (f j) r) ∧ (∀ j, j ≤ rn (nS a b c) rs → j = rs.length → rn (nS a b c) rs = j ∧ rE (nS a b c) rs = 0)) := by
    rw [hf]
    exact ⟨fun j r h h1 h2 => HRan.out.step h1 h h2, fun j r h h1 h2 => HRan.out.stop h1 h h2, fun j h1 h2 => HRan.out.end_ h1 h2⟩
  rw [← hf] at HW HF H00 ⊢
  clear hf HRan hR hO hl ho
  have HNs := HN
  unfold limV at HNs
  unfold limV
  rw [← H00.out] at HNs
  clear HN
  generalize rn (nS a b c) rs = n at *
  generalize rE (nS a b c) rs = er at *
  clear H00
  obtain ⟨c0, c1, c2, -⟩ := box3 (heap_alloc_new w (.cells [Value.int .i64 (a : Int), .int .i64 (b : Int), .int .i64 (c : Int)].toArray 23))
  generalize (a : Int) = a at *
  generalize (b : Int) = b at *
  generalize (c : Int) = c at *
  clear g0
  go_enter Tryz.func16, Tryz.ntmps16
  go_wp2_with fail
  generalize w.alloc (.cells #[.int .i64 a, .int .i64 b, .int .i64 c] 23) = w0 at *
  refine HNs.mono ?_
  clear HNs c0 c1 c2
  rintro e w1 ⟨d, rfl, hdb, hg⟩
  have G1 := hide (grown_trans HG0.out hg)
  have g2 := grown_alloc w1 (.cells #[.pointer (some ⟨d, 0, none⟩)] 61)
  have hd1 := (hdb.lower HG0.out.size).then g2
  have hr2 : (w1.alloc (.cells #[.pointer (some ⟨d, 0, none⟩)] 61)).ownsRow w.heap.size 61 1 (.slice (some ⟨w1.heap.size, 0, none⟩) 1 1) 1 [.pointer (some ⟨d, 0, none⟩)] := ⟨rfl, Or.inr ⟨w1.heap.size, 1, #[.pointer (some ⟨d, 0, none⟩)], rfl, G1.out.size, heap_alloc_new w1 _, Nat.le_refl _, by unfold maxLen; omega, rfl, rfl⟩⟩
  have D1 : Hid (Dl (w1.alloc (.cells #[.pointer (some ⟨d, 0, none⟩)] 61)) w.heap.size (.slice (some ⟨w1.heap.size, 0, none⟩) 1 1) f 1 [(d, .slice none 0 0)] ∧ w.grownBy (w1.alloc (.cells #[.pointer (some ⟨d, 0, none⟩)] 61)) none) := ⟨⟨rfl, hr2, fun k x hx => by
    have hk := (List.getElem?_eq_some_iff.1 hx).1
    simp at hk
    subst hk
    simp at hx
    subst hx
    exact hd1⟩, grown_trans G1.out g2⟩
  clear hdb hg G1 g2 hd1 hr2 HG0
  obtain ⟨i0, hi0, hz0, hz1, hz2⟩ := info_parts info61
  have HI0 := hide (And.intro hi0 (And.intro hz0 (And.intro hz1 hz2)))
  clear hi0 hz0 hz1 hz2
  go_wp2
  generalize w1.alloc (.cells #[.pointer (some ⟨d, 0, none⟩)] 61) = w2 at *
  go_loopg [6, 8, 9] len (fun k pd v i wr => ∃ j : Nat, k + j = len ∧ i = .int .i64 j ∧ ∃ ds d u, pd = .pointer (some ⟨d, 0, none⟩) ∧ Hid (Dl wr w.heap.size v f (j + 1) ds ∧ w.grownBy wr none ∧ j ≤ n ∧ ds[j]? = some (d, u)))
  case atStart => exact ⟨0, by omega, rfl, _, d, _, rfl, D1.out.1, D1.out.2, Nat.zero_le _, rfl⟩
  case round =>
    clear D1
    obtain ⟨j, hkj, rfl, ds, dj, uj, rfl, HL⟩ := hrel
    by_cases hk : 0 < gk
    · have h1 : (0 : Int) ≤ (j : Int) := by omega
      have h2 : (j : Int) < (len : Int) := by omega
      obtain ⟨r, hr⟩ : ∃ r, rs[j]? = some r := ⟨rs[j]'(by have := HD.out.1; omega), List.getElem?_eq_getElem _⟩
      have hjl : Hid (j < 10000) := by unfold Hid; omega
      have HR := hide (And.intro hr (HD.out.2.2 r (List.mem_of_getElem? hr)))
      have hdbj := HL.out.1.bk j _ HL.out.2.2.2
      have hwk := (HW.out j).wk
      have hX : (f j).L.length ≤ 65536 := by have := hwk.few; have := hwk.b1; omega
      have qc := dcopy_any hdbj hX
      have HGK := hide hk
      clear hdbj hwk hX hk
      dsimp only at qc
      obtain ⟨vo, vcap, rfl, -⟩ := Ix.own_form HL.out.1.row
      go_wp2_with fail
      refine qc.mono ?_
      clear qc
      rintro e w3 ⟨d', v', rfl, hdb, hg3⟩
      have G3 := hide hg3
      obtain ⟨bk, off, rfl, x0, x1, x2, x3, x4⟩ := (HD.out.2.1.grown (grown_trans HL.out.2.1 hg3)) j r HR.out.1
      have qa := dapply_any hdb (HW.out j) r HR.out.2
      unfold Rk.rcV at qa
      have HDB := hide hdb
      have hcode := HRs.out.1 j r HR.out.1 HL.out.2.2.1
      have hstop := HRs.out.2.1 j r HR.out.1 HL.out.2.2.1
      have hnx := HF.out j r HR.out.1
      have HC := hide (And.intro hcode (And.intro hstop hnx))
      clear hdb hg3 hcode hstop hnx hr
      generalize appE (f j) r = code at *
      generalize app (f j) r = S' at *
      obtain ⟨rk, ri, rs', ru, rc⟩ := r
      dsimp only at *
      go_wp2_with fail
      refine qa.mono ?_
      clear qa x0 x1 x2 x3 x4
      rintro e w4 ⟨v4, rfl, hdb4, hst⟩
      have G4 : Hid (wr.grownBy w4 none) := Kept.grown ((Kept.new G3.out (dbo d' v')).trans hst.kept (fun _ _ e => e)) (fun i hi e => by have := HDB.out.lows i e; omega)
      have HD4 := hide hdb4
      clear hdb4 hst HDB G3
      by_cases hc : code = 0
      · subst hc
        have D4 := hide (HL.out.1.then G4.out)
        have HX2 := hide (And.intro (grown_trans HL.out.2.1 G4.out) (And.intro (HC.out.1 rfl) HC.out.2.2))
        have hb4 : Db w4 w.heap.size d' v4 (f (j + 1)) := by rw [HX2.out.2.2]; exact HD4.out.lower HL.out.2.1.size
        have HB4 := hide hb4
        clear hb4 HL HC HD4
        have ga := grown_alloc w4 (.cells #[.pointer (some ⟨d', 0, none⟩)] 61)
        have D5 := hide (D4.out.then ga)
        have B5 := hide (HB4.out.then ga)
        have G5 := hide (grown_trans HX2.out.1 ga)
        have HCl : Hid (∀ (x : Nat) (u : Value), [Value.pointer (some ⟨d', 0, none⟩)][x]? = some u → (w4.alloc (.cells #[.pointer (some ⟨d', 0, none⟩)] 61)).cell? (Addr.add ⟨w4.heap.size, 0, none⟩ x) = some u) := fun x u hx => by
          rw [Addr.add_lit, Nat.zero_add, cell_row (heap_alloc_new w4 (.cells [Value.pointer (some ⟨d', 0, none⟩)].toArray 61))]
          exact hx
        clear ga D4 HB4
        go_wp2_with (at_builtin; refine wpList_append_own _ rfl (.tmp 38) (.tmp 40) 56 rfl w.heap.size 61 i0 (.pointer none) 1 8 Tryz.underlying56 HI0.out.1 HI0.out.2.1 HI0.out.2.2.1 HI0.out.2.2.2 rfl (by decide) (.slice vo (j + 1) vcap) (j + 1) (dps ds) rfl D5.out.row ⟨w4.heap.size, 0, none⟩ 1 1 [.pointer (some ⟨d', 0, none⟩)] rfl rfl HCl.out (by simp [Value.oneCell']) (by unfold maxLen; have := hjl.out; omega) (by have := hjl.out; omega) G5.out.size ?_)
        intro v6 w6 ho6 hg6 hv6
        clear hv6
        have D6 : Hid (Dl w6 w.heap.size v6 f (j + 2) (ds ++ [(d', v4)]) ∧ w.grownBy w6 none ∧ j + 1 ≤ n ∧ (ds ++ [(d', v4)])[j + 1]? = some (d', v4)) := ⟨D5.out.snoc B5.out ho6 hg6, grown_then G5.out hg6 (fun k e => Or.inl (Ix.own_block D5.out.row e).1), HX2.out.2.1, by rw [List.getElem?_append_right (by rw [D5.out.len]; exact Nat.le_refl _), D5.out.len, Nat.sub_self]; rfl⟩
        clear ho6 hg6 D5 B5 G5
        go_wp2
        go_roundg (gk - 1)
        case measure => have := HGK.out; omega
        case rel => exact ⟨j + 1, by have := HGK.out; omega, by have := hjl.out; go_num, _, _, _, rfl, D6.out⟩
      · have hs := HC.out.2.1 hc
        have HZ : Hid (DsP w w4 (.slice vo (j + 1) vcap) f (n + 1) ∧ er = code) := ⟨⟨ds, by rw [hs.1]; exact HL.out.1.then G4.out, grown_trans HL.out.2.1 G4.out⟩, hs.2⟩
        have e1 : (code == 0) = false := by simpa using hc
        have e2 : (code != 0) = true := by simpa using hc
        have e3 : decide (code = 0) = false := by simpa using hc
        clear hs hc HC HL
        go_wp2
        go_ret2
        exact ⟨_, by rw [HZ.out.2]; rfl, HZ.out.1⟩
    · obtain rfl : j = len := by omega
      have hs := HRs.out.2.2 j HL.out.2.2.1 HD.out.1.symm
      obtain ⟨vo, vcap, rfl, -⟩ := Ix.own_form HL.out.1.row
      have HZ : Hid (DsP w wr (.slice vo (j + 1) vcap) f (n + 1) ∧ er = 0) := ⟨⟨ds, by rw [hs.1]; exact HL.out.1, HL.out.2.1⟩, hs.2⟩
      clear hs HL
      go_wp2
      go_ret2
      exact ⟨_, by rw [HZ.out.2]; rfl, HZ.out.1⟩
end Go.Proofs.YtinkkocleognbaaGreatDoor
/- Records that are lent: marks, LentRecords, cut. -/
namespace Go.Proofs.YtinkkocleognbaaGreatDoor
open Go.RowKit Go.Shelf
attribute [local go_sem ↓] Go.wp_at_zero Go.wp_at_succ
attribute [local go_sem] Oper.semAt_some
def mkI (k i : Int) : Int := 1000003 * (k + 7) + i
/-- The mark of a place among records. -/
def mkR (k : Int) (i : Nat) : Rc := ⟨0, 0, 0, mkI k i, 0⟩
theorem mk81_any (k i : Int) (w : World) (hk0 : 0 ≤ k) (hk : k ≤ 1000) (hi0 : 0 ≤ i) (hi : i ≤ 100000000) : Calls Tryz.prog 81 #[.int .i64 k, .int .i64 i] w fun e w' => e = .returned (.int .i64 (mkI k i)) ∧ w' = w := by
  have W1 : IntKind.i64.wrap (k + 7) = k + 7 := by rw [IntKind.wrap_i64]; omega
  have W2 : IntKind.i64.wrap (1000003 * (k + 7)) = 1000003 * (k + 7) := by rw [IntKind.wrap_i64]; omega
  have W3 : IntKind.i64.wrap (1000003 * (k + 7) + i) = mkI k i := by rw [IntKind.wrap_i64]; unfold mkI; omega
  clear hk0 hk hi0 hi
  go_enter Tryz.func81, Tryz.ntmps81
  go_wp2
  go_ret
  exact ⟨rfl, rfl⟩
theorem results_cell1 {fn : Func} {p : Tmp} {ty : TypeId} (h : fn.results = #[.cell p ty]) (tmps : Array Value) (P : Program) (w : World) :
    (results fn tmps).run P w = ((asAddr (tmps.getD p undef)).run P w).andThen fun a w₁ => (loadVar ty a).run P w₁ := by
  simp only [results, h]
  simp [Sem.run_bind, Result.andThen]
theorem slice_toR (ao : Option Addr) (len cap n : Nat) (h : n ≤ cap) (w : World) : (Instr.slice 48 (.slice ao len cap) none (some (.int .i64 (n : Int))) none).run Tryz.prog w = .ok (.slice ao n cap) w := by
  simp [Instr.slice, run_underlying Tryz.underlying48, Instr.sliceBounds, Instr.sliceBound, asIntOf, h]
  intro _; cases ao <;> simp [Addr.add]
/-- The first records of many. -/
theorem cut_any (ao : Option Addr) (n cap : Nat) (hc : n ≤ cap) (w : World) : Calls Tryz.prog 14 #[.slice ao n cap] w fun e w' => e = .returned (.slice ao (min n 120) cap) ∧ w' = w := by
  by_cases h : 120 < n
  · have hs := slice_toR ao n cap 120 (by omega)
    have hs : ∀ w, (Instr.slice 48 (.slice ao n cap) none (some (.int .i64 120)) none).run Tryz.prog w = .ok (.slice ao 120 cap) w := hs
    have h1 : (120 : Int) < (n : Int) := by omega
    rw [Nat.min_eq_right (by omega)]
    clear h hc
    go_enter Tryz.func14, Tryz.ntmps14
    go_wp2
    go_ret
    exact ⟨rfl, rfl⟩
  · have h1 : (n : Int) ≤ 120 := by omega
    rw [Nat.min_eq_left (by omega)]
    clear h hc
    go_enter Tryz.func14, Tryz.ntmps14
    go_wp2
    go_ret
    exact ⟨rfl, rfl⟩
def mks (k : Int) (j : Nat) : List Rc := (List.range j).map fun i => mkR k i
theorem mks_length (k : Int) (j : Nat) : (mks k j).length = j := by simp [mks]
/-- Records that were lent: they, and twelve marks behind their end. -/
structure LentR (w : World) (B g cap : Nat) (rs : List Rc) : Prop where
  own : w.ownsRow B 47 5 (.slice (some ⟨g, 0, none⟩) (rs.length + 12) cap) (rs.length + 12) (rcs (rs ++ mks 1 12))
end Go.Proofs.YtinkkocleognbaaGreatDoor
/- Records that are lent: KeptRecords, OverRecords. -/
namespace Go.Proofs.YtinkkocleognbaaGreatDoor
open Go.RowKit Go.Shelf
attribute [local go_sem ↓] Go.wp_at_zero Go.wp_at_succ
attribute [local go_sem] Oper.semAt_some
theorem geqF_op {a : Act} {o : Oper} {x y : Operand} {t : TypeId} {k : IntKind} {p q : Int} (ho : o.op = .binOp .geq t x y t) (hx : a.eval x = .int k p) (hy : a.eval y = .int k q) (h : p < q) (w : World) : (execOp a.eval o).run Tryz.prog w = .ok (.value (.bool false)) w := by
  have hd : decide (p ≥ q) = false := by rw [decide_eq_false_iff_not]; omega
  unfold execOp
  simp only [ho, hx, hy]
  go_simp
theorem geqT_op {a : Act} {o : Oper} {x y : Operand} {t : TypeId} {k : IntKind} {p q : Int} (ho : o.op = .binOp .geq t x y t) (hx : a.eval x = .int k p) (hy : a.eval y = .int k q) (h : q ≤ p) (w : World) : (execOp a.eval o).run Tryz.prog w = .ok (.value (.bool true)) w := by
  have hd : decide (p ≥ q) = true := by rw [decide_eq_true_iff]; omega
  unfold execOp
  simp only [ho, hx, hy]
  go_simp
theorem lssF_op {a : Act} {o : Oper} {x y : Operand} {t : TypeId} {k : IntKind} {p q : Int} (ho : o.op = .binOp .lss t x y t) (hx : a.eval x = .int k p) (hy : a.eval y = .int k q) (h : q ≤ p) (w : World) : (execOp a.eval o).run Tryz.prog w = .ok (.value (.bool false)) w := by
  have hd : decide (p < q) = false := by rw [decide_eq_false_iff_not]; omega
  unfold execOp
  simp only [ho, hx, hy]
  go_simp
theorem LentR.all {w : World} {B g cap : Nat} {rs : List Rc} (h : LentR w B g cap rs) : RecsAt w (some ⟨g, 0, none⟩) (rs ++ mks 1 12) := by
  have h1 := h.own
  have e : (rs ++ mks 1 12).length = rs.length + 12 := by rw [List.length_append, mks_length]
  rw [← e] at h1
  exact (recs_own h1).1
theorem LentR.cap {w : World} {B g cap : Nat} {rs : List Rc} (h : LentR w B g cap rs) : rs.length + 12 ≤ cap := by
  obtain ⟨vo, cc, e, hh⟩ := Ix.own_form h.own
  cases e
  exact hh
theorem LentR.then {w w' : World} {B g cap : Nat} {rs : List Rc} (h : LentR w B g cap rs) (hg : w.grownBy w' none) : LentR w' B g cap rs := ⟨own_keep h.own hg⟩
theorem cell_at {w : World} {g o : Nat} {t : TypeId} {cur : List Value} (h : w.heap[g]? = some (.cells cur.toArray t (0, 0))) (ho : o < cur.length) : ∃ v, w.cell? ⟨g, o, none⟩ = some v := ⟨cur[o], by rw [cell_row h, List.getElem?_eq_getElem ho]⟩
end Go.Proofs.YtinkkocleognbaaGreatDoor
/- Frames one by one: lent, kept, written over. -/
namespace Go.Proofs.YtinkkocleognbaaGreatDoor.Oc
open Go.Proofs.YtinkkocleognbaaGreatDoor
open Go.RowKit
attribute [local go_sem ↓] Go.wp_at_zero Go.wp_at_succ

def frV (e s : Int) (v : Value) : Value := .agg #[.int .u64 e, .int .u64 s, v]
theorem set3 {w : World} {g : Nat} {x y z : Value} (h : w.heap[g]? = some (.cells [x, y, z].toArray 41 (0, 0))) (a b c : Value) :
    (((w.setCell ⟨g, 0, none⟩ a).setCell ⟨g, 1, none⟩ b).setCell ⟨g, 2, none⟩ c).heap[g]? = some (.cells [a, b, c].toArray 41 (0, 0)) ∧ w.grownBy (((w.setCell ⟨g, 0, none⟩ a).setCell ⟨g, 1, none⟩ b).setCell ⟨g, 2, none⟩ c) (some g) :=
  ⟨row_setCell (row_setCell (row_setCell h 0 a) 1 b) 2 c, grown_trans (grown_trans (grown_setCell w g 0 a) (grown_setCell _ g 1 b)) (grown_setCell _ g 2 c)⟩
theorem box_cells {w : World} {g : Nat} {x y z : Value} (h : w.heap[g]? = some (.cells [x, y, z].toArray 41 (0, 0))) : w.cell? ⟨g, 0, none⟩ = some x ∧ w.cell? ⟨g, 1, none⟩ = some y ∧ w.cell? ⟨g, 2, none⟩ = some z :=
  ⟨cell_row h 0, cell_row h 1, cell_row h 2⟩
theorem ownK {w w' : World} {base n size : Nat} {e t : TypeId} {v : Value} {xs : List Value} {k : Nat} {c : Array Value} {fr : Nat × Nat} (h : w.ownsRow base e size v n xs) (hg : w.grownBy w' (some k)) (hk : w.heap[k]? = some (.cells c t fr)) (hne : t ≠ e) : w'.ownsRow base e size v n xs := by
  refine h.kept hg ?_
  rcases h.2 with ⟨rfl, _⟩ | ⟨g, cap, cur, rfl, _, hgg, _⟩
  · exact Or.inl rfl
  · refine Or.inr (fun e' => ?_)
    simp [Value.ownBlock] at e'
    subst e'
    rw [hk] at hgg
    simp [hne] at hgg
theorem ownG {w w' : World} {base n size : Nat} {e : TypeId} {v : Value} {xs : List Value} (h : w.ownsRow base e size v n xs) (hg : w.grownBy w' none) : w'.ownsRow base e size v n xs :=
  h.kept hg (by cases v.ownBlock <;> simp)
set_option maxHeartbeats 1000000 in
theorem sameFr (e s : Int) (ao bo : Option Addr) (n c d : Nat) (xs : List Int) (w : World) (hn : xs.length = n) (ha : At w ao xs) (hb : At w bo xs) (hm : n ≤ 4611686018427387904) :
    Calls Tryz.prog 62 #[frV e s (.slice ao n c), frV e s (.slice bo n d)] w fun r w' => r = .returned (.bool true) ∧ w.grownBy w' none := by
  unfold frV
  have HA := hide (And.intro hn (And.intro ha hb))
  clear hn ha hb
  go_enter Tryz.func62, Tryz.ntmps62
  go_wp2_with fail
  have g := grown_trans (World.grownBy_alloc w (.cells #[.int .u64 e, .int .u64 s, .slice ao n c] 41) none) (World.grownBy_alloc _ (.cells #[.int .u64 e, .int .u64 s, .slice bo n d] 41) none)
  refine (same_eq ao bo n c d xs _ HA.out.1 (HA.out.2.1.kept g (fun _ _ e => by cases e)) (HA.out.2.2.kept g (fun _ _ e => by cases e)) hm).mono ?_
  rintro r w1 ⟨rfl, hg⟩
  have G := hide (grown_trans g hg)
  clear g hg
  go_wp2
  go_ret
  exact ⟨rfl, G.out⟩

theorem LentAt.kept {w w' : World} {B k : Nat} {v : Value} {xs : List Int} {c : Array Value} {t : TypeId} {fr : Nat × Nat} (h : LentAt w B v xs) (hg : w.grownBy w' (some k)) (hk : w.heap[k]? = some (.cells c t fr)) (hne : t ≠ 5) : LentAt w' B v xs := by
  obtain ⟨g, cap, hv, ho⟩ := h
  exact ⟨g, cap, hv, ownK ho hg hk hne⟩
theorem LentAt.grown {w w' : World} {B : Nat} {v : Value} {xs : List Int} (h : LentAt w B v xs) (hg : w.grownBy w' none) : LentAt w' B v xs := by
  obtain ⟨g, cap, hv, ho⟩ := h
  exact ⟨g, cap, hv, ownG ho hg⟩
theorem LentAt.base {w : World} {B B' : Nat} {v : Value} {xs : List Int} (h : LentAt w B v xs) (hb : B' ≤ B) : LentAt w B' v xs := by
  obtain ⟨g, cap, hv, ho⟩ := h
  exact ⟨g, cap, hv, own_base ho hb⟩

set_option maxHeartbeats 1000000 in
theorem lentFr (e s : Int) (ao : Option Addr) (n cap : Nat) (xs : List Int) (w : World) (hn : xs.length = n) (hat : At w ao xs) (hnil : ao = none → n = 0 ∧ cap = 0) (hb : n ≤ 140737488355000) :
    Calls Tryz.prog 58 #[frV e s (.slice ao n cap)] w fun r w' => ∃ v, r = .returned (frV e s v) ∧ LentAt w' w.heap.size v xs ∧ w.grownBy w' none := by
  unfold frV
  have HA := hide (And.intro hn (And.intro hat hnil))
  clear hn hat hnil
  go_enter Tryz.func58, Tryz.ntmps58
  go_wp2_with fail
  have g := grown_trans (World.grownBy_alloc w (.cells #[.int .u64 e, .int .u64 s, .slice ao n cap] 41) none) (World.grownBy_alloc _ (.cells #[.int .u64 0, .int .u64 0, .slice none 0 0] 41) none)
  have bx : ((w.alloc (.cells #[.int .u64 e, .int .u64 s, .slice ao n cap] 41)).alloc (.cells #[.int .u64 0, .int .u64 0, .slice none 0 0] 41)).heap[w.heap.size]? = some (.cells [Value.int .u64 e, .int .u64 s, .slice ao n cap].toArray 41 (0, 0)) := (Below.heap_alloc _ _ _ (by simp)).trans (heap_alloc_new w _)
  have by' : ((w.alloc (.cells #[.int .u64 e, .int .u64 s, .slice ao n cap] 41)).alloc (.cells #[.int .u64 0, .int .u64 0, .slice none 0 0] 41)).heap[w.heap.size + 1]? = some (.cells [Value.int .u64 0, .int .u64 0, .slice none 0 0].toArray 41 (0, 0)) := by
    have := heap_alloc_new (w.alloc (.cells #[.int .u64 e, .int .u64 s, .slice ao n cap] 41)) (.cells [Value.int .u64 0, .int .u64 0, .slice none 0 0].toArray 41)
    rwa [World.size_alloc] at this
  refine (lent_any ao n cap xs _ HA.out.1 (HA.out.2.1.kept g (fun _ _ e => by cases e)) HA.out.2.2 hb).mono ?_
  rintro r w1 ⟨v, rfl, hl, hg⟩
  obtain ⟨gv, vc, rfl, l1, l2, l3, l4, l5, l6⟩ := hl.all
  have HL := hide (And.intro hl (And.intro g (And.intro hg l3)))
  have BX := hide ((hg.block _ (row_lt bx) (by simp)).trans bx)
  have BY := hide ((hg.block _ (row_lt by') (by simp)).trans by')
  clear hl g hg bx by' l1 l2 l3 l4 l5 l6
  obtain ⟨c0, c1, c2⟩ := box_cells BX.out
  obtain ⟨d0, d1, d2⟩ := box_cells BY.out
  have f2 := free_row BX.out 2
  have k0 := free_row BY.out 0
  have k1 := free_row BY.out 1
  have k2 := free_row BY.out 2
  go_wp2
  obtain ⟨hl, g, hg, l3⟩ := HL.out
  have hs1 := grown_setCell w1 w.heap.size 2 (.slice (some ⟨gv, 0, none⟩) xs.length vc)
  have hl1 := hl.kept hs1 BX.out (by decide)
  have hy1 := (hs1.block _ (row_lt BY.out) (by simp)).trans BY.out
  obtain ⟨eb, eg⟩ := set3 hy1 (.int .u64 e) (.int .u64 s) (.slice (some ⟨gv, 0, none⟩) xs.length vc)
  have hl2 := hl1.kept eg hy1 (by decide)
  obtain ⟨e0, e1, e2⟩ := box_cells eb
  have HZ : Hid (_ ∧ _) := And.intro (hl2.base (B' := w.heap.size) (by simp; omega)) (grown_then (grown_then (grown_trans g hg) hs1 (fun j e => by cases e; exact Or.inl (Nat.le_refl _))) eg (fun j e => by cases e; exact Or.inl (by omega)))
  clear hl g hg l3 hs1 hl1 hy1 eb eg hl2 HL BX BY c0 c1 c2 d0 d1 d2 f2 k0 k1 k2
  generalize (((w1.setCell ⟨w.heap.size, 2, none⟩ (.slice (some ⟨gv, 0, none⟩) xs.length vc)).setCell ⟨w.heap.size + 1, 0, none⟩ (.int .u64 e)).setCell ⟨w.heap.size + 1, 1, none⟩ (.int .u64 s)).setCell ⟨w.heap.size + 1, 2, none⟩ (.slice (some ⟨gv, 0, none⟩) xs.length vc) = w2 at *
  refine bodyPost_ret (v := .agg #[.int .u64 e, .int .u64 s, .slice (some ⟨gv, 0, none⟩) xs.length vc]) ?_ rfl ?_
  · rw [results_cell1 rfl]; go_simp
  exact ⟨_, rfl, HZ.out.1, HZ.out.2⟩

set_option maxHeartbeats 1000000 in
theorem keptFr (e s : Int) (g cap : Nat) (bo : Option Addr) (n d : Nat) (xs : List Int) (w : World) (hn : xs.length = n) (hc1 : n + 12 ≤ cap) (hc2 : cap ≤ maxLen) (ha : At w (some ⟨g, 0, none⟩) (xs ++ marks 1 12)) (hb : At w bo xs) (hm : n ≤ 140737488355328) :
    Calls Tryz.prog 61 #[frV e s (.slice (some ⟨g, 0, none⟩) n cap), frV e s (.slice bo n d)] w fun r w' => r = .returned (.bool true) ∧ w.grownBy w' none := by
  unfold frV
  have HA := hide (And.intro hn (And.intro ha hb))
  have HC := hide (And.intro hc1 hc2)
  clear hn ha hb hc1 hc2
  have g1 := grown_trans (World.grownBy_alloc w (.cells #[.int .u64 e, .int .u64 s, .slice (some ⟨g, 0, none⟩) n cap] 41) none) (World.grownBy_alloc _ (.cells #[.int .u64 e, .int .u64 s, .slice bo n d] 41) none)
  have bx : ((w.alloc (.cells #[.int .u64 e, .int .u64 s, .slice (some ⟨g, 0, none⟩) n cap] 41)).alloc (.cells #[.int .u64 e, .int .u64 s, .slice bo n d] 41)).heap[w.heap.size]? = some (.cells [Value.int .u64 e, .int .u64 s, .slice (some ⟨g, 0, none⟩) n cap].toArray 41 (0, 0)) := (Below.heap_alloc _ _ _ (by simp)).trans (heap_alloc_new w _)
  have by' : ((w.alloc (.cells #[.int .u64 e, .int .u64 s, .slice (some ⟨g, 0, none⟩) n cap] 41)).alloc (.cells #[.int .u64 e, .int .u64 s, .slice bo n d] 41)).heap[w.heap.size + 1]? = some (.cells [Value.int .u64 e, .int .u64 s, .slice bo n d].toArray 41 (0, 0)) := by
    have := heap_alloc_new (w.alloc (.cells #[.int .u64 e, .int .u64 s, .slice (some ⟨g, 0, none⟩) n cap] 41)) (.cells [Value.int .u64 e, .int .u64 s, .slice bo n d].toArray 41)
    rwa [World.size_alloc] at this
  have HG := hide (And.intro g1 (And.intro bx by'))
  clear g1 bx by'
  go_enter Tryz.func61, Tryz.ntmps61
  go_wp2_with fail
  generalize (w.alloc (.cells #[.int .u64 e, .int .u64 s, .slice (some ⟨g, 0, none⟩) n cap] 41)).alloc (.cells #[.int .u64 e, .int .u64 s, .slice bo n d] 41) = w1 at *
  refine (sameFr e s (some ⟨g, 0, none⟩) bo n cap d xs w1 HA.out.1 ?_ (HA.out.2.2.kept HG.out.1 (fun _ _ e => by cases e)) (by omega)).mono ?_
  · have := (HA.out.2.1.kept HG.out.1 (fun _ _ e => by cases e)).take n
    rwa [List.take_left' HA.out.1] at this
  rintro r w2 ⟨rfl, hg⟩
  have HG2 := hide (grown_trans HG.out.1 hg)
  have BX := hide ((hg.block _ (row_lt HG.out.2.1) (by simp)).trans HG.out.2.1)
  have BY := hide ((hg.block _ (row_lt HG.out.2.2) (by simp)).trans HG.out.2.2)
  obtain ⟨c0, c1, c2⟩ := box_cells BX.out
  obtain ⟨d0, d1, d2⟩ := box_cells BY.out
  clear hg HG
  go_wp2_with fail
  refine (kept_any g cap bo n d xs w2 HA.out.1 HC.out.1 HC.out.2 (HA.out.2.1.kept HG2.out (fun _ _ e => by cases e)) (HA.out.2.2.kept HG2.out (fun _ _ e => by cases e)) hm).mono ?_
  rintro r w3 ⟨rfl, hg⟩
  have HG3 := hide (grown_trans HG2.out hg)
  clear hg
  go_wp2
  go_ret
  exact ⟨rfl, HG3.out⟩

set_option maxHeartbeats 1000000 in
theorem overFr (e s : Int) (g cap n : Nat) (w : World) (hb : ∃ cur, w.heap[g]? = some (.cells cur 5 (0, 0)) ∧ cur.size = cap) (hc1 : n + 12 ≤ cap) (hc2 : cap ≤ maxLen) (hm : n ≤ 140737488355328) :
    Calls Tryz.prog 63 #[frV e s (.slice (some ⟨g, 0, none⟩) n cap)] w fun r w' => r = .returned (.tuple #[]) ∧ w.grownBy w' (some g) := by
  unfold frV
  have HA := hide (And.intro hb (And.intro hc1 hc2))
  clear hb hc1 hc2
  go_enter Tryz.func63, Tryz.ntmps63
  go_wp2_with fail
  have g1 := World.grownBy_alloc w (.cells #[.int .u64 e, .int .u64 s, .slice (some ⟨g, 0, none⟩) n cap] 41) none
  refine (over_any g cap n _ ?_ HA.out.2.1 HA.out.2.2 hm).mono ?_
  · obtain ⟨cur, hc, hs⟩ := HA.out.1
    exact ⟨cur, (g1.block _ (row_lt hc) (by simp)).trans hc, hs⟩
  rintro r w1 ⟨rfl, hg⟩
  have G := hide (grown_trans (grown_none g1 (some g)) hg)
  clear g1 hg
  go_wp2
  go_end0
  exact ⟨rfl, G.out⟩
end Go.Proofs.YtinkkocleognbaaGreatDoor.Oc
