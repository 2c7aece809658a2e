/- Texts joined: Im1. -/
import Derived.Test.YtcbiloomnkbalaaGreatDoorJyAp
/- What a book may not have; Of refused. -/
namespace Go.Proofs.YtcbiloomnkbalaaGreatDoor
open Go.RowKit
attribute [local go_sem ↓] Go.wp_at_zero Go.wp_at_succ
attribute [local go_sem] Oper.semAt_some
def bwV (x : Bw) : Value := .agg #[.int .u32 (x.i : Int), .int .i64 x.s, .int .i64 x.u]
/-- Bookings as they are told, that lie somewhere. -/
structure BwA (w : World) (v : Value) (X : List Bw) : Prop where
  ex : ∃ ao cap, v = .slice ao X.length cap ∧ ∀ i, i < X.length → ∃ g, ao = some ⟨g, 0, none⟩ ∧ w.cell? ⟨g, i * 3, none⟩ = some (.int .u32 ((rdw X i).i : Int)) ∧ w.cell? ⟨g, i * 3 + 1, none⟩ = some (.int .i64 (rdw X i).s) ∧ w.cell? ⟨g, i * 3 + 2, none⟩ = some (.int .i64 (rdw X i).u)
theorem BwA.then {w w' : World} {v : Value} {X : List Bw} (h : BwA w v X) (g : w.grownBy w' none) : BwA w' v X := by
  obtain ⟨ao, cap, e, hx⟩ := h.ex
  refine ⟨ao, cap, e, fun i hi => ?_⟩
  obtain ⟨b, e2, h1, h2, h3⟩ := hx i hi
  exact ⟨b, e2, g.cell h1 (by simp), g.cell h2 (by simp), g.cell h3 (by simp)⟩
theorem rd_bg {X : List Bw} {i : Nat} (hi : i < X.length) : rd (X.map Bw.bg) i = (rdw X i).bg := by
  unfold rd rdw
  rw [List.getElem?_map, List.getElem?_eq_getElem hi]; rfl
theorem BwA.bg {w : World} {v : Value} {X : List Bw} (h : BwA w v X) (hs : ∀ i, i < X.length → 0 ≤ (rdw X i).s) : BgA w v (X.map Bw.bg) := by
  obtain ⟨ao, cap, e, hx⟩ := h.ex
  refine ⟨ao, cap, by rw [e, List.length_map], fun i hi => ?_⟩
  rw [List.length_map] at hi
  obtain ⟨b, e2, h1, h2, h3⟩ := hx i hi
  have := hs i hi
  rw [rd_bg hi]
  refine ⟨b, e2, h1, ?_, h3⟩
  rw [h2]
  simp only [Bw.bg]
  rw [Int.toNat_of_nonneg this]
theorem BgA.bw {w : World} {v : Value} {X : List Bg} (h : BgA w v X) : BwA w v (X.map Bg.bw) := by
  obtain ⟨ao, cap, e, hx⟩ := h.ex
  refine ⟨ao, cap, by rw [e, List.length_map], fun i hi => ?_⟩
  rw [List.length_map] at hi
  obtain ⟨b, e2, h1, h2, h3⟩ := hx i hi
  have : rdw (X.map Bg.bw) i = (rd X i).bw := by
    unfold rd rdw
    rw [List.getElem?_map, List.getElem?_eq_getElem hi]; rfl
  rw [this]
  exact ⟨b, e2, h1, h2, h3⟩
set_option maxHeartbeats 4000000 in
theorem mayLast_no {w : World} {p : Bp} {S : Sb} {K : Nat} (h : BkAt w p S K) {u : Int} (hu : ¬ (u = 0 ∨ (S.t < u ∧ u ≤ mxC))) : Calls Tryz.prog 72 #[.pointer (some ⟨p.b, 0, none⟩), .int .i64 u] w fun e w' => e = .returned (.bool false) ∧ w' = w := by
  have c5 := h.cells 5 _ rfl
  clear h
  simp only [mxC] at hu
  have hz1 : (u == 0) = false := by simp; omega
  have hz2 : decide (u = 0) = false := by simp; omega
  by_cases h1 : S.t < u
  · have h2 : ¬ u ≤ 1099511627776 := by omega
    clear hu
    go_enter Tryz.func72, Tryz.ntmps72
    go_wp2
    go_ret
    exact ⟨rfl, rfl⟩
  · clear hu
    go_enter Tryz.func72, Tryz.ntmps72
    go_wp2
    go_ret
    exact ⟨rfl, rfl⟩
set_option maxRecDepth 20000 in
set_option maxHeartbeats 8000000 in
theorem mayHave_id {w : World} {p : Bp} {S : Sb} {K : Nat} (h : BkAt w p S K) (xi : Nat) (xs xu : Int) (hi : S.n ≤ xi) : Calls Tryz.prog 41 #[.pointer (some ⟨p.b, 0, none⟩), bwV ⟨xi, xs, xu⟩] w fun e w' => e = .returned (.bool false) ∧ w.grownBy w' none := by
  have m0 := Bm.start h [.int .u32 (xi : Int), .int .i64 xs, .int .i64 xu] 78
  have HK : Hid (∀ W, Bm w W w.heap.size [.int .u32 (xi : Int), .int .i64 xs, .int .i64 xu] 78 p S K → W.cell? ⟨p.b, 0, none⟩ = some (.int .i64 (S.a : Int)) ∧ W.cell? ⟨p.b, 1, none⟩ = some (.int .i64 (S.b : Int)) ∧ W.cell? ⟨p.b, 2, none⟩ = some (.int .i64 (S.c : Int)) ∧ W.cell? ⟨p.b, 4, none⟩ = some (.int .u32 (S.n : Int)) ∧ W.cell? ⟨p.b, 6, none⟩ = some (.pointer (some ⟨p.tb, 0, none⟩)) ∧ W.cell? ⟨p.b, 8, none⟩ = some (.pointer (some ⟨p.ip.x, 0, none⟩)) ∧ W.cell? ⟨w.heap.size, 0, none⟩ = some (.int .u32 (xi : Int)) ∧ W.cell? ⟨w.heap.size, 1, none⟩ = some (.int .i64 xs) ∧ W.cell? ⟨w.heap.size, 2, none⟩ = some (.int .i64 xu)) := fun W m => ⟨m.ff.a0, m.ff.a1, m.ff.a2, m.ff.a4, m.ff.a6, m.ff.a8, m.ff.bx 0 _ rfl, m.ff.bx 1 _ rfl, m.ff.bx 2 _ rfl⟩
  have hK0 := HK.out _ m0
  have h1 : ¬ (xi : Int) < (S.n : Int) := by omega
  have h2 : decide ((xi : Int) < (S.n : Int)) = false := by simpa using hi
  have h3 : decide (xi < S.n) = false := by simpa using hi
  clear h hi
  unfold bwV
  go_enter Tryz.func41, Tryz.ntmps41
  go_wp2
  generalize World.alloc w _ = w0 at *
  refine wp_region_held_drew (S := (fun W => W.cell? ⟨p.b, 0, none⟩ = some (.int .i64 (S.a : Int)) ∧ W.cell? ⟨p.b, 1, none⟩ = some (.int .i64 (S.b : Int)) ∧ W.cell? ⟨p.b, 2, none⟩ = some (.int .i64 (S.c : Int)) ∧ W.cell? ⟨p.b, 4, none⟩ = some (.int .u32 (S.n : Int)) ∧ W.cell? ⟨p.b, 6, none⟩ = some (.pointer (some ⟨p.tb, 0, none⟩)) ∧ W.cell? ⟨p.b, 8, none⟩ = some (.pointer (some ⟨p.ip.x, 0, none⟩)) ∧ W.cell? ⟨w.heap.size, 0, none⟩ = some (.int .u32 (xi : Int)) ∧ W.cell? ⟨w.heap.size, 1, none⟩ = some (.int .i64 xs) ∧ W.cell? ⟨w.heap.size, 2, none⟩ = some (.int .i64 xu))) (by kernel_rfl) ?_ (fun hHeld => ?_)
  · (exact hK0)
  refine tkQ 0 (oi := ⟨some 5, .fieldAddr 78 (.tmp 3) 0, 0, "book.go:259", #[], none⟩) rfl ?_
  try simp only [Act.put, pA, pB, pC]
  refine tkQ 1 (oi := ⟨some 6, .load 24 (.tmp 5), 24, "book.go:259", #[⟨0, .data⟩], none⟩) rfl ?_
  try simp only [Act.put, pA, pB, pC]
  refine tkQ 2 (oi := ⟨some 7, .move (.tmp 0), 31, "book.go:259", #[], none⟩) rfl ?_
  try simp only [Act.put, pA, pB, pC]
  refine tkQ 3 (oi := ⟨some 8, .nilCheck (.tmp 7), 0, "book.go:259", #[⟨2, .data⟩], none⟩) rfl ?_
  try simp only [Act.put, pA, pB, pC]
  refine tkQ 4 (oi := ⟨some 9, .fieldAddr 66 (.tmp 8) 2, 0, "book.go:259", #[⟨3, .data⟩], none⟩) rfl ?_
  try simp only [Act.put, pA, pB, pC]
  refine tkQ 5 (oi := ⟨some 10, .load 24 (.tmp 9), 24, "book.go:259", #[⟨4, .data⟩], none⟩) rfl ?_
  try simp only [Act.put, pA, pB, pC]
  refine tkQ 6 (oi := ⟨some 11, .binOp .lss 24 (.tmp 6) (.tmp 10) 24, 4, "book.go:259", #[⟨1, .data⟩, ⟨5, .data⟩], none⟩) rfl ?_
  try simp only [Act.put, pA, pB, pC]
  refine tkQ 7 (oi := ⟨some 12, .move (.tmp 11), 4, "book.go:259", #[⟨6, .data⟩], none⟩) rfl ?_
  try simp only [Act.put, pA, pB, pC]
  refine skH 8 (oi := ⟨some 13, .move (.tmp 0), 31, "book.go:259", #[⟨7, .guard⟩], some (7, true)⟩) rfl ?_
  try simp only [Act.put, pA, pB, pC]
  refine skH 9 (oi := ⟨some 14, .nilCheck (.tmp 13), 0, "book.go:259", #[⟨8, .data⟩, ⟨7, .guard⟩], some (7, true)⟩) rfl ?_
  try simp only [Act.put, pA, pB, pC]
  refine skH 10 (oi := ⟨some 15, .fieldAddr 66 (.tmp 14) 0, 0, "book.go:259", #[⟨9, .data⟩, ⟨7, .guard⟩], some (7, true)⟩) rfl ?_
  try simp only [Act.put, pA, pB, pC]
  refine skH 11 (oi := ⟨some 16, .load 60 (.tmp 15), 60, "book.go:259", #[⟨10, .data⟩, ⟨7, .guard⟩], some (7, true)⟩) rfl ?_
  try simp only [Act.put, pA, pB, pC]
  refine skH 12 (oi := ⟨some 17, .fieldAddr 78 (.tmp 3) 1, 0, "book.go:259", #[⟨7, .guard⟩], some (7, true)⟩) rfl ?_
  try simp only [Act.put, pA, pB, pC]
  refine skH 13 (oi := ⟨some 18, .load 3 (.tmp 17), 3, "book.go:259", #[⟨12, .data⟩, ⟨7, .guard⟩], some (7, true)⟩) rfl ?_
  try simp only [Act.put, pA, pB, pC]
  refine skH 14 (oi := ⟨some 19, .call { callee := .value (.func 55), args := #[.tmp 16, .tmp 18], argTypes := #[60, 3] }, 4, "book.go:259", #[⟨11, .data⟩, ⟨13, .data⟩, ⟨7, .chain⟩, ⟨7, .guard⟩], some (7, true)⟩) rfl ?_
  try simp only [Act.put, pA, pB, pC]
  refine tkQ 15 (oi := ⟨some 20, .pick (.tmp 12) (.tmp 19) (.const (.bool false)), 4, "book.go:259", #[⟨7, .data⟩, ⟨14, .data⟩], none⟩) rfl ?_
  try simp only [Act.put, pA, pB, pC]
  refine tkQ 16 (oi := ⟨some 21, .move (.tmp 20), 4, "book.go:259", #[⟨15, .data⟩, ⟨14, .chain⟩], none⟩) rfl ?_
  try simp only [Act.put, pA, pB, pC]
  refine skH 17 (oi := ⟨some 22, .move (.tmp 0), 31, "book.go:259", #[⟨16, .guard⟩], some (16, true)⟩) rfl ?_
  try simp only [Act.put, pA, pB, pC]
  refine skH 18 (oi := ⟨some 23, .nilCheck (.tmp 22), 0, "book.go:259", #[⟨17, .data⟩, ⟨16, .guard⟩], some (16, true)⟩) rfl ?_
  try simp only [Act.put, pA, pB, pC]
  refine skH 19 (oi := ⟨some 24, .fieldAddr 66 (.tmp 23) 4, 0, "book.go:259", #[⟨18, .data⟩, ⟨16, .guard⟩], some (16, true)⟩) rfl ?_
  try simp only [Act.put, pA, pB, pC]
  refine skH 20 (oi := ⟨some 25, .load 61 (.tmp 24), 61, "book.go:259", #[⟨19, .data⟩, ⟨16, .guard⟩], some (16, true)⟩) rfl ?_
  try simp only [Act.put, pA, pB, pC]
  refine skH 21 (oi := ⟨some 26, .fieldAddr 78 (.tmp 3) 1, 0, "book.go:259", #[⟨16, .guard⟩], some (16, true)⟩) rfl ?_
  try simp only [Act.put, pA, pB, pC]
  refine skH 22 (oi := ⟨some 27, .load 3 (.tmp 26), 3, "book.go:259", #[⟨21, .data⟩, ⟨16, .guard⟩], some (16, true)⟩) rfl ?_
  try simp only [Act.put, pA, pB, pC]
  refine skH 23 (oi := ⟨some 28, .call { callee := .value (.func 56), args := #[.tmp 25, .tmp 27], argTypes := #[61, 3] }, 4, "book.go:259", #[⟨20, .data⟩, ⟨22, .data⟩, ⟨16, .chain⟩, ⟨16, .guard⟩], some (16, true)⟩) rfl ?_
  try simp only [Act.put, pA, pB, pC]
  refine skH 24 (oi := ⟨some 29, .unOp .not 4 (.tmp 28), 4, "book.go:259", #[⟨23, .data⟩, ⟨16, .guard⟩], some (16, true)⟩) rfl ?_
  try simp only [Act.put, pA, pB, pC]
  refine tkQ 25 (oi := ⟨some 30, .pick (.tmp 21) (.tmp 29) (.const (.bool false)), 4, "book.go:259", #[⟨16, .data⟩, ⟨24, .data⟩], none⟩) rfl ?_
  try simp only [Act.put, pA, pB, pC]
  refine tkQ 26 (oi := ⟨some 31, .move (.tmp 30), 4, "book.go:259", #[⟨25, .data⟩, ⟨23, .chain⟩], none⟩) rfl ?_
  try simp only [Act.put, pA, pB, pC]
  refine skH 27 (oi := ⟨some 32, .move (.tmp 0), 31, "book.go:259", #[⟨26, .guard⟩], some (26, true)⟩) rfl ?_
  try simp only [Act.put, pA, pB, pC]
  refine skH 28 (oi := ⟨some 33, .nilCheck (.tmp 32), 0, "book.go:259", #[⟨27, .data⟩, ⟨26, .guard⟩], some (26, true)⟩) rfl ?_
  try simp only [Act.put, pA, pB, pC]
  refine skH 29 (oi := ⟨some 34, .fieldAddr 66 (.tmp 33) 0, 0, "book.go:259", #[⟨28, .data⟩, ⟨26, .guard⟩], some (26, true)⟩) rfl ?_
  try simp only [Act.put, pA, pB, pC]
  refine skH 30 (oi := ⟨some 35, .load 60 (.tmp 34), 60, "book.go:259", #[⟨29, .data⟩, ⟨26, .guard⟩], some (26, true)⟩) rfl ?_
  try simp only [Act.put, pA, pB, pC]
  refine skH 31 (oi := ⟨some 36, .move (.tmp 0), 31, "book.go:259", #[⟨26, .guard⟩], some (26, true)⟩) rfl ?_
  try simp only [Act.put, pA, pB, pC]
  refine skH 32 (oi := ⟨some 37, .nilCheck (.tmp 36), 0, "book.go:259", #[⟨31, .data⟩, ⟨26, .guard⟩], some (26, true)⟩) rfl ?_
  try simp only [Act.put, pA, pB, pC]
  refine skH 33 (oi := ⟨some 38, .fieldAddr 66 (.tmp 37) 6, 0, "book.go:259", #[⟨32, .data⟩, ⟨26, .guard⟩], some (26, true)⟩) rfl ?_
  try simp only [Act.put, pA, pB, pC]
  refine skH 34 (oi := ⟨some 39, .load 62 (.tmp 38), 62, "book.go:259", #[⟨33, .data⟩, ⟨26, .guard⟩], some (26, true)⟩) rfl ?_
  try simp only [Act.put, pA, pB, pC]
  refine skH 35 (oi := ⟨some 40, .call { callee := .value (.func 53), args := #[.tmp 39], argTypes := #[62] }, 3, "book.go:259", #[⟨34, .data⟩, ⟨26, .chain⟩, ⟨26, .guard⟩], some (26, true)⟩) rfl ?_
  try simp only [Act.put, pA, pB, pC]
  refine skH 36 (oi := ⟨some 41, .call { callee := .value (.func 71), args := #[.tmp 35, .tmp 40], argTypes := #[60, 3] }, 4, "book.go:259", #[⟨30, .data⟩, ⟨35, .data⟩, ⟨35, .chain⟩, ⟨26, .guard⟩], some (26, true)⟩) rfl ?_
  try simp only [Act.put, pA, pB, pC]
  refine tkQ 37 (oi := ⟨some 42, .pick (.tmp 31) (.tmp 41) (.const (.bool false)), 4, "book.go:259", #[⟨26, .data⟩, ⟨36, .data⟩], none⟩) rfl ?_
  try simp only [Act.put, pA, pB, pC]
  refine tkQ 38 (oi := ⟨some 43, .move (.tmp 42), 4, "book.go:259", #[⟨37, .data⟩, ⟨36, .chain⟩], none⟩) rfl ?_
  try simp only [Act.put, pA, pB, pC]
  refine skH 39 (oi := ⟨some 44, .move (.tmp 0), 31, "book.go:259", #[⟨38, .guard⟩], some (38, true)⟩) rfl ?_
  try simp only [Act.put, pA, pB, pC]
  refine skH 40 (oi := ⟨some 45, .fieldAddr 78 (.tmp 3) 2, 0, "book.go:259", #[⟨38, .guard⟩], some (38, true)⟩) rfl ?_
  try simp only [Act.put, pA, pB, pC]
  refine skH 41 (oi := ⟨some 46, .load 2 (.tmp 45), 2, "book.go:259", #[⟨40, .data⟩, ⟨38, .guard⟩], some (38, true)⟩) rfl ?_
  try simp only [Act.put, pA, pB, pC]
  refine skH 42 (oi := ⟨some 47, .call { callee := .value (.func 72), args := #[.tmp 44, .tmp 46], argTypes := #[31, 2] }, 4, "book.go:259", #[⟨39, .data⟩, ⟨41, .data⟩, ⟨38, .chain⟩, ⟨38, .guard⟩], some (38, true)⟩) rfl ?_
  try simp only [Act.put, pA, pB, pC]
  refine tkQ 43 (oi := ⟨some 48, .pick (.tmp 43) (.tmp 47) (.const (.bool false)), 4, "book.go:259", #[⟨38, .data⟩, ⟨42, .data⟩], none⟩) rfl ?_
  try simp only [Act.put, pA, pB, pC]
  refine tkQ 44 (oi := ⟨some 4, .assign (.tmp 48), 4, "book.go:259", #[⟨43, .data⟩, ⟨42, .chain⟩, ⟨0, .phase⟩, ⟨1, .phase⟩, ⟨2, .phase⟩, ⟨3, .phase⟩, ⟨4, .phase⟩, ⟨5, .phase⟩, ⟨6, .phase⟩, ⟨7, .phase⟩, ⟨8, .phase⟩, ⟨9, .phase⟩, ⟨10, .phase⟩, ⟨11, .phase⟩, ⟨12, .phase⟩, ⟨13, .phase⟩, ⟨14, .phase⟩, ⟨15, .phase⟩, ⟨16, .phase⟩, ⟨17, .phase⟩, ⟨18, .phase⟩, ⟨19, .phase⟩, ⟨20, .phase⟩, ⟨21, .phase⟩, ⟨22, .phase⟩, ⟨23, .phase⟩, ⟨24, .phase⟩, ⟨25, .phase⟩, ⟨26, .phase⟩, ⟨27, .phase⟩, ⟨28, .phase⟩, ⟨29, .phase⟩, ⟨30, .phase⟩, ⟨31, .phase⟩, ⟨32, .phase⟩, ⟨33, .phase⟩, ⟨34, .phase⟩, ⟨35, .phase⟩, ⟨36, .phase⟩, ⟨37, .phase⟩, ⟨38, .phase⟩, ⟨39, .phase⟩, ⟨40, .phase⟩, ⟨41, .phase⟩, ⟨42, .phase⟩, ⟨43, .phase⟩], none⟩) rfl ?_
  try simp only [Act.put, pA, pB, pC]
  refine wpAnyH_done (by kernel_rfl) ?_ _
  go_wp2
  go_ret
  exact ⟨rfl, gn_drew m0.gr⟩
set_option maxRecDepth 20000 in
set_option maxHeartbeats 8000000 in
theorem mayHave_seat {w : World} {p : Bp} {S : Sb} {K : Nat} (h : BkAt w p S K) (xi : Nat) (xs xu : Int) (hi : xi < S.n) (hs : ¬ (0 ≤ xs ∧ xs < (S.a : Int))) : Calls Tryz.prog 41 #[.pointer (some ⟨p.b, 0, none⟩), bwV ⟨xi, xs, xu⟩] w fun e w' => e = .returned (.bool false) ∧ w.grownBy w' none := by
  have m0 := Bm.start h [.int .u32 (xi : Int), .int .i64 xs, .int .i64 xu] 78
  have HS : Hid (∀ W, Calls Tryz.prog 55 #[limV S.a S.b S.c, .int .i64 xs] W fun e w' => e = .returned (.bool false) ∧ W.grownBy w' none) := by
    intro W
    have := hasSeat_any S.a S.b S.c xs W
    rw [decide_eq_false hs] at this
    exact this
  have HK : Hid (∀ W, Bm w W w.heap.size [.int .u32 (xi : Int), .int .i64 xs, .int .i64 xu] 78 p S K → W.cell? ⟨p.b, 0, none⟩ = some (.int .i64 (S.a : Int)) ∧ W.cell? ⟨p.b, 1, none⟩ = some (.int .i64 (S.b : Int)) ∧ W.cell? ⟨p.b, 2, none⟩ = some (.int .i64 (S.c : Int)) ∧ W.cell? ⟨p.b, 4, none⟩ = some (.int .u32 (S.n : Int)) ∧ W.cell? ⟨p.b, 6, none⟩ = some (.pointer (some ⟨p.tb, 0, none⟩)) ∧ W.cell? ⟨p.b, 8, none⟩ = some (.pointer (some ⟨p.ip.x, 0, none⟩)) ∧ W.cell? ⟨w.heap.size, 0, none⟩ = some (.int .u32 (xi : Int)) ∧ W.cell? ⟨w.heap.size, 1, none⟩ = some (.int .i64 xs) ∧ W.cell? ⟨w.heap.size, 2, none⟩ = some (.int .i64 xu)) := fun W m => ⟨m.ff.a0, m.ff.a1, m.ff.a2, m.ff.a4, m.ff.a6, m.ff.a8, m.ff.bx 0 _ rfl, m.ff.bx 1 _ rfl, m.ff.bx 2 _ rfl⟩
  unfold limV at HS
  have hK0 := HK.out _ m0
  have h1 : (xi : Int) < (S.n : Int) := by omega
  have h2 : decide ((xi : Int) < (S.n : Int)) = true := by simpa using hi
  have h3 : decide (xi < S.n) = true := by simpa using hi
  clear h hi hs
  unfold bwV
  go_enter Tryz.func41, Tryz.ntmps41
  go_wp2
  generalize World.alloc w _ = w0 at *
  refine wp_region_held_drew (S := (fun W => W.cell? ⟨p.b, 0, none⟩ = some (.int .i64 (S.a : Int)) ∧ W.cell? ⟨p.b, 1, none⟩ = some (.int .i64 (S.b : Int)) ∧ W.cell? ⟨p.b, 2, none⟩ = some (.int .i64 (S.c : Int)) ∧ W.cell? ⟨p.b, 4, none⟩ = some (.int .u32 (S.n : Int)) ∧ W.cell? ⟨p.b, 6, none⟩ = some (.pointer (some ⟨p.tb, 0, none⟩)) ∧ W.cell? ⟨p.b, 8, none⟩ = some (.pointer (some ⟨p.ip.x, 0, none⟩)) ∧ W.cell? ⟨w.heap.size, 0, none⟩ = some (.int .u32 (xi : Int)) ∧ W.cell? ⟨w.heap.size, 1, none⟩ = some (.int .i64 xs) ∧ W.cell? ⟨w.heap.size, 2, none⟩ = some (.int .i64 xu))) (by kernel_rfl) ?_ (fun hHeld => ?_)
  · (exact hK0)
  refine tkQ 0 (oi := ⟨some 5, .fieldAddr 78 (.tmp 3) 0, 0, "book.go:259", #[], none⟩) rfl ?_
  try simp only [Act.put, pA, pB, pC]
  refine tkQ 1 (oi := ⟨some 6, .load 24 (.tmp 5), 24, "book.go:259", #[⟨0, .data⟩], none⟩) rfl ?_
  try simp only [Act.put, pA, pB, pC]
  refine tkQ 2 (oi := ⟨some 7, .move (.tmp 0), 31, "book.go:259", #[], none⟩) rfl ?_
  try simp only [Act.put, pA, pB, pC]
  refine tkQ 3 (oi := ⟨some 8, .nilCheck (.tmp 7), 0, "book.go:259", #[⟨2, .data⟩], none⟩) rfl ?_
  try simp only [Act.put, pA, pB, pC]
  refine tkQ 4 (oi := ⟨some 9, .fieldAddr 66 (.tmp 8) 2, 0, "book.go:259", #[⟨3, .data⟩], none⟩) rfl ?_
  try simp only [Act.put, pA, pB, pC]
  refine tkQ 5 (oi := ⟨some 10, .load 24 (.tmp 9), 24, "book.go:259", #[⟨4, .data⟩], none⟩) rfl ?_
  try simp only [Act.put, pA, pB, pC]
  refine tkQ 6 (oi := ⟨some 11, .binOp .lss 24 (.tmp 6) (.tmp 10) 24, 4, "book.go:259", #[⟨1, .data⟩, ⟨5, .data⟩], none⟩) rfl ?_
  try simp only [Act.put, pA, pB, pC]
  refine tkQ 7 (oi := ⟨some 12, .move (.tmp 11), 4, "book.go:259", #[⟨6, .data⟩], none⟩) rfl ?_
  try simp only [Act.put, pA, pB, pC]
  refine tkQ 8 (oi := ⟨some 13, .move (.tmp 0), 31, "book.go:259", #[⟨7, .guard⟩], some (7, true)⟩) rfl ?_
  try simp only [Act.put, pA, pB, pC]
  refine tkQ 9 (oi := ⟨some 14, .nilCheck (.tmp 13), 0, "book.go:259", #[⟨8, .data⟩, ⟨7, .guard⟩], some (7, true)⟩) rfl ?_
  try simp only [Act.put, pA, pB, pC]
  refine tkQ 10 (oi := ⟨some 15, .fieldAddr 66 (.tmp 14) 0, 0, "book.go:259", #[⟨9, .data⟩, ⟨7, .guard⟩], some (7, true)⟩) rfl ?_
  try simp only [Act.put, pA, pB, pC]
  refine tkQ 11 (oi := ⟨some 16, .load 60 (.tmp 15), 60, "book.go:259", #[⟨10, .data⟩, ⟨7, .guard⟩], some (7, true)⟩) rfl ?_
  try simp only [Act.put, pA, pB, pC]
  refine tkQ 12 (oi := ⟨some 17, .fieldAddr 78 (.tmp 3) 1, 0, "book.go:259", #[⟨7, .guard⟩], some (7, true)⟩) rfl ?_
  try simp only [Act.put, pA, pB, pC]
  refine tkQ 13 (oi := ⟨some 18, .load 3 (.tmp 17), 3, "book.go:259", #[⟨12, .data⟩, ⟨7, .guard⟩], some (7, true)⟩) rfl ?_
  try simp only [Act.put, pA, pB, pC]
  refine rdH (i := 14) rfl (fun K hK => ?_)
  go_simp
  refine (HS.out _).mono ?_
  rintro e w2 ⟨rfl, hg2⟩
  have m2 := (Bm.then m0 (grown_drew _ none)).then hg2
  have hK2 := HK.out _ m2
  go_wp2_with fail
  refine hK.out _ _ ?_ (fun hHeld => ?_)
  · ((try dsimp only); first | assumption | exact hK5 | exact hK3 | exact hK2 | exact hK0)
  clear hK K
  try simp only [Act.put, pA, pB, pC]
  refine tkQ 15 (oi := ⟨some 20, .pick (.tmp 12) (.tmp 19) (.const (.bool false)), 4, "book.go:259", #[⟨7, .data⟩, ⟨14, .data⟩], none⟩) rfl ?_
  try simp only [Act.put, pA, pB, pC]
  refine tkQ 16 (oi := ⟨some 21, .move (.tmp 20), 4, "book.go:259", #[⟨15, .data⟩, ⟨14, .chain⟩], none⟩) rfl ?_
  try simp only [Act.put, pA, pB, pC]
  refine skH 17 (oi := ⟨some 22, .move (.tmp 0), 31, "book.go:259", #[⟨16, .guard⟩], some (16, true)⟩) rfl ?_
  try simp only [Act.put, pA, pB, pC]
  refine skH 18 (oi := ⟨some 23, .nilCheck (.tmp 22), 0, "book.go:259", #[⟨17, .data⟩, ⟨16, .guard⟩], some (16, true)⟩) rfl ?_
  try simp only [Act.put, pA, pB, pC]
  refine skH 19 (oi := ⟨some 24, .fieldAddr 66 (.tmp 23) 4, 0, "book.go:259", #[⟨18, .data⟩, ⟨16, .guard⟩], some (16, true)⟩) rfl ?_
  try simp only [Act.put, pA, pB, pC]
  refine skH 20 (oi := ⟨some 25, .load 61 (.tmp 24), 61, "book.go:259", #[⟨19, .data⟩, ⟨16, .guard⟩], some (16, true)⟩) rfl ?_
  try simp only [Act.put, pA, pB, pC]
  refine skH 21 (oi := ⟨some 26, .fieldAddr 78 (.tmp 3) 1, 0, "book.go:259", #[⟨16, .guard⟩], some (16, true)⟩) rfl ?_
  try simp only [Act.put, pA, pB, pC]
  refine skH 22 (oi := ⟨some 27, .load 3 (.tmp 26), 3, "book.go:259", #[⟨21, .data⟩, ⟨16, .guard⟩], some (16, true)⟩) rfl ?_
  try simp only [Act.put, pA, pB, pC]
  refine skH 23 (oi := ⟨some 28, .call { callee := .value (.func 56), args := #[.tmp 25, .tmp 27], argTypes := #[61, 3] }, 4, "book.go:259", #[⟨20, .data⟩, ⟨22, .data⟩, ⟨16, .chain⟩, ⟨16, .guard⟩], some (16, true)⟩) rfl ?_
  try simp only [Act.put, pA, pB, pC]
  refine skH 24 (oi := ⟨some 29, .unOp .not 4 (.tmp 28), 4, "book.go:259", #[⟨23, .data⟩, ⟨16, .guard⟩], some (16, true)⟩) rfl ?_
  try simp only [Act.put, pA, pB, pC]
  refine tkQ 25 (oi := ⟨some 30, .pick (.tmp 21) (.tmp 29) (.const (.bool false)), 4, "book.go:259", #[⟨16, .data⟩, ⟨24, .data⟩], none⟩) rfl ?_
  try simp only [Act.put, pA, pB, pC]
  refine tkQ 26 (oi := ⟨some 31, .move (.tmp 30), 4, "book.go:259", #[⟨25, .data⟩, ⟨23, .chain⟩], none⟩) rfl ?_
  try simp only [Act.put, pA, pB, pC]
  refine skH 27 (oi := ⟨some 32, .move (.tmp 0), 31, "book.go:259", #[⟨26, .guard⟩], some (26, true)⟩) rfl ?_
  try simp only [Act.put, pA, pB, pC]
  refine skH 28 (oi := ⟨some 33, .nilCheck (.tmp 32), 0, "book.go:259", #[⟨27, .data⟩, ⟨26, .guard⟩], some (26, true)⟩) rfl ?_
  try simp only [Act.put, pA, pB, pC]
  refine skH 29 (oi := ⟨some 34, .fieldAddr 66 (.tmp 33) 0, 0, "book.go:259", #[⟨28, .data⟩, ⟨26, .guard⟩], some (26, true)⟩) rfl ?_
  try simp only [Act.put, pA, pB, pC]
  refine skH 30 (oi := ⟨some 35, .load 60 (.tmp 34), 60, "book.go:259", #[⟨29, .data⟩, ⟨26, .guard⟩], some (26, true)⟩) rfl ?_
  try simp only [Act.put, pA, pB, pC]
  refine skH 31 (oi := ⟨some 36, .move (.tmp 0), 31, "book.go:259", #[⟨26, .guard⟩], some (26, true)⟩) rfl ?_
  try simp only [Act.put, pA, pB, pC]
  refine skH 32 (oi := ⟨some 37, .nilCheck (.tmp 36), 0, "book.go:259", #[⟨31, .data⟩, ⟨26, .guard⟩], some (26, true)⟩) rfl ?_
  try simp only [Act.put, pA, pB, pC]
  refine skH 33 (oi := ⟨some 38, .fieldAddr 66 (.tmp 37) 6, 0, "book.go:259", #[⟨32, .data⟩, ⟨26, .guard⟩], some (26, true)⟩) rfl ?_
  try simp only [Act.put, pA, pB, pC]
  refine skH 34 (oi := ⟨some 39, .load 62 (.tmp 38), 62, "book.go:259", #[⟨33, .data⟩, ⟨26, .guard⟩], some (26, true)⟩) rfl ?_
  try simp only [Act.put, pA, pB, pC]
  refine skH 35 (oi := ⟨some 40, .call { callee := .value (.func 53), args := #[.tmp 39], argTypes := #[62] }, 3, "book.go:259", #[⟨34, .data⟩, ⟨26, .chain⟩, ⟨26, .guard⟩], some (26, true)⟩) rfl ?_
  try simp only [Act.put, pA, pB, pC]
  refine skH 36 (oi := ⟨some 41, .call { callee := .value (.func 71), args := #[.tmp 35, .tmp 40], argTypes := #[60, 3] }, 4, "book.go:259", #[⟨30, .data⟩, ⟨35, .data⟩, ⟨35, .chain⟩, ⟨26, .guard⟩], some (26, true)⟩) rfl ?_
  try simp only [Act.put, pA, pB, pC]
  refine tkQ 37 (oi := ⟨some 42, .pick (.tmp 31) (.tmp 41) (.const (.bool false)), 4, "book.go:259", #[⟨26, .data⟩, ⟨36, .data⟩], none⟩) rfl ?_
  try simp only [Act.put, pA, pB, pC]
  refine tkQ 38 (oi := ⟨some 43, .move (.tmp 42), 4, "book.go:259", #[⟨37, .data⟩, ⟨36, .chain⟩], none⟩) rfl ?_
  try simp only [Act.put, pA, pB, pC]
  refine skH 39 (oi := ⟨some 44, .move (.tmp 0), 31, "book.go:259", #[⟨38, .guard⟩], some (38, true)⟩) rfl ?_
  try simp only [Act.put, pA, pB, pC]
  refine skH 40 (oi := ⟨some 45, .fieldAddr 78 (.tmp 3) 2, 0, "book.go:259", #[⟨38, .guard⟩], some (38, true)⟩) rfl ?_
  try simp only [Act.put, pA, pB, pC]
  refine skH 41 (oi := ⟨some 46, .load 2 (.tmp 45), 2, "book.go:259", #[⟨40, .data⟩, ⟨38, .guard⟩], some (38, true)⟩) rfl ?_
  try simp only [Act.put, pA, pB, pC]
  refine skH 42 (oi := ⟨some 47, .call { callee := .value (.func 72), args := #[.tmp 44, .tmp 46], argTypes := #[31, 2] }, 4, "book.go:259", #[⟨39, .data⟩, ⟨41, .data⟩, ⟨38, .chain⟩, ⟨38, .guard⟩], some (38, true)⟩) rfl ?_
  try simp only [Act.put, pA, pB, pC]
  refine tkQ 43 (oi := ⟨some 48, .pick (.tmp 43) (.tmp 47) (.const (.bool false)), 4, "book.go:259", #[⟨38, .data⟩, ⟨42, .data⟩], none⟩) rfl ?_
  try simp only [Act.put, pA, pB, pC]
  refine tkQ 44 (oi := ⟨some 4, .assign (.tmp 48), 4, "book.go:259", #[⟨43, .data⟩, ⟨42, .chain⟩, ⟨0, .phase⟩, ⟨1, .phase⟩, ⟨2, .phase⟩, ⟨3, .phase⟩, ⟨4, .phase⟩, ⟨5, .phase⟩, ⟨6, .phase⟩, ⟨7, .phase⟩, ⟨8, .phase⟩, ⟨9, .phase⟩, ⟨10, .phase⟩, ⟨11, .phase⟩, ⟨12, .phase⟩, ⟨13, .phase⟩, ⟨14, .phase⟩, ⟨15, .phase⟩, ⟨16, .phase⟩, ⟨17, .phase⟩, ⟨18, .phase⟩, ⟨19, .phase⟩, ⟨20, .phase⟩, ⟨21, .phase⟩, ⟨22, .phase⟩, ⟨23, .phase⟩, ⟨24, .phase⟩, ⟨25, .phase⟩, ⟨26, .phase⟩, ⟨27, .phase⟩, ⟨28, .phase⟩, ⟨29, .phase⟩, ⟨30, .phase⟩, ⟨31, .phase⟩, ⟨32, .phase⟩, ⟨33, .phase⟩, ⟨34, .phase⟩, ⟨35, .phase⟩, ⟨36, .phase⟩, ⟨37, .phase⟩, ⟨38, .phase⟩, ⟨39, .phase⟩, ⟨40, .phase⟩, ⟨41, .phase⟩, ⟨42, .phase⟩, ⟨43, .phase⟩], none⟩) rfl ?_
  try simp only [Act.put, pA, pB, pC]
  refine wpAnyH_done (by kernel_rfl) ?_ _
  go_wp2
  go_ret
  exact ⟨rfl, m2.gr⟩
set_option maxRecDepth 20000 in
set_option maxHeartbeats 8000000 in
theorem mayHave_took {w : World} {p : Bp} {S : Sb} {K : Nat} (h : BkAt w p S K) (xi : Nat) (xs xu : Int) (hi : xi < S.n) (hs : 0 ≤ xs ∧ xs < (S.a : Int)) (hn : (sat S.L xs.toNat).isSome = true) : Calls Tryz.prog 41 #[.pointer (some ⟨p.b, 0, none⟩), bwV ⟨xi, xs, xu⟩] w fun e w' => e = .returned (.bool false) ∧ w.grownBy w' none := by
  have m0 := Bm.start h [.int .u32 (xi : Int), .int .i64 xs, .int .i64 xu] 78
  have HS : Hid (∀ W, Calls Tryz.prog 55 #[limV S.a S.b S.c, .int .i64 xs] W fun e w' => e = .returned (.bool true) ∧ W.grownBy w' none) := by
    intro W
    have := hasSeat_any S.a S.b S.c xs W
    rw [decide_eq_true hs] at this
    exact this
  have HH : Hid (∀ W, Bm w W w.heap.size [.int .u32 (xi : Int), .int .i64 xs, .int .i64 xu] 78 p S K → Calls Tryz.prog 56 #[.pointer (some ⟨p.tb, 0, none⟩), .int .i64 xs] W fun e w' => e = .returned (.bool true) ∧ W.grownBy w' none) := by
    intro W hW
    have := hW.bk.has xs.toNat (by omega)
    rw [hn] at this
    rw [Int.toNat_of_nonneg hs.1] at this
    exact this
  have HK : Hid (∀ W, Bm w W w.heap.size [.int .u32 (xi : Int), .int .i64 xs, .int .i64 xu] 78 p S K → W.cell? ⟨p.b, 0, none⟩ = some (.int .i64 (S.a : Int)) ∧ W.cell? ⟨p.b, 1, none⟩ = some (.int .i64 (S.b : Int)) ∧ W.cell? ⟨p.b, 2, none⟩ = some (.int .i64 (S.c : Int)) ∧ W.cell? ⟨p.b, 4, none⟩ = some (.int .u32 (S.n : Int)) ∧ W.cell? ⟨p.b, 6, none⟩ = some (.pointer (some ⟨p.tb, 0, none⟩)) ∧ W.cell? ⟨p.b, 8, none⟩ = some (.pointer (some ⟨p.ip.x, 0, none⟩)) ∧ W.cell? ⟨w.heap.size, 0, none⟩ = some (.int .u32 (xi : Int)) ∧ W.cell? ⟨w.heap.size, 1, none⟩ = some (.int .i64 xs) ∧ W.cell? ⟨w.heap.size, 2, none⟩ = some (.int .i64 xu)) := fun W m => ⟨m.ff.a0, m.ff.a1, m.ff.a2, m.ff.a4, m.ff.a6, m.ff.a8, m.ff.bx 0 _ rfl, m.ff.bx 1 _ rfl, m.ff.bx 2 _ rfl⟩
  unfold limV at HS
  have hK0 := HK.out _ m0
  have h1 : (xi : Int) < (S.n : Int) := by omega
  have h2 : decide ((xi : Int) < (S.n : Int)) = true := by simpa using hi
  have h3 : decide (xi < S.n) = true := by simpa using hi
  clear h hi hs hn
  unfold bwV
  go_enter Tryz.func41, Tryz.ntmps41
  go_wp2
  generalize World.alloc w _ = w0 at *
  refine wp_region_held_drew (S := (fun W => W.cell? ⟨p.b, 0, none⟩ = some (.int .i64 (S.a : Int)) ∧ W.cell? ⟨p.b, 1, none⟩ = some (.int .i64 (S.b : Int)) ∧ W.cell? ⟨p.b, 2, none⟩ = some (.int .i64 (S.c : Int)) ∧ W.cell? ⟨p.b, 4, none⟩ = some (.int .u32 (S.n : Int)) ∧ W.cell? ⟨p.b, 6, none⟩ = some (.pointer (some ⟨p.tb, 0, none⟩)) ∧ W.cell? ⟨p.b, 8, none⟩ = some (.pointer (some ⟨p.ip.x, 0, none⟩)) ∧ W.cell? ⟨w.heap.size, 0, none⟩ = some (.int .u32 (xi : Int)) ∧ W.cell? ⟨w.heap.size, 1, none⟩ = some (.int .i64 xs) ∧ W.cell? ⟨w.heap.size, 2, none⟩ = some (.int .i64 xu))) (by kernel_rfl) ?_ (fun hHeld => ?_)
  · (exact hK0)
  refine tkQ 0 (oi := ⟨some 5, .fieldAddr 78 (.tmp 3) 0, 0, "book.go:259", #[], none⟩) rfl ?_
  try simp only [Act.put, pA, pB, pC]
  refine tkQ 1 (oi := ⟨some 6, .load 24 (.tmp 5), 24, "book.go:259", #[⟨0, .data⟩], none⟩) rfl ?_
  try simp only [Act.put, pA, pB, pC]
  refine tkQ 2 (oi := ⟨some 7, .move (.tmp 0), 31, "book.go:259", #[], none⟩) rfl ?_
  try simp only [Act.put, pA, pB, pC]
  refine tkQ 3 (oi := ⟨some 8, .nilCheck (.tmp 7), 0, "book.go:259", #[⟨2, .data⟩], none⟩) rfl ?_
  try simp only [Act.put, pA, pB, pC]
  refine tkQ 4 (oi := ⟨some 9, .fieldAddr 66 (.tmp 8) 2, 0, "book.go:259", #[⟨3, .data⟩], none⟩) rfl ?_
  try simp only [Act.put, pA, pB, pC]
  refine tkQ 5 (oi := ⟨some 10, .load 24 (.tmp 9), 24, "book.go:259", #[⟨4, .data⟩], none⟩) rfl ?_
  try simp only [Act.put, pA, pB, pC]
  refine tkQ 6 (oi := ⟨some 11, .binOp .lss 24 (.tmp 6) (.tmp 10) 24, 4, "book.go:259", #[⟨1, .data⟩, ⟨5, .data⟩], none⟩) rfl ?_
  try simp only [Act.put, pA, pB, pC]
  refine tkQ 7 (oi := ⟨some 12, .move (.tmp 11), 4, "book.go:259", #[⟨6, .data⟩], none⟩) rfl ?_
  try simp only [Act.put, pA, pB, pC]
  refine tkQ 8 (oi := ⟨some 13, .move (.tmp 0), 31, "book.go:259", #[⟨7, .guard⟩], some (7, true)⟩) rfl ?_
  try simp only [Act.put, pA, pB, pC]
  refine tkQ 9 (oi := ⟨some 14, .nilCheck (.tmp 13), 0, "book.go:259", #[⟨8, .data⟩, ⟨7, .guard⟩], some (7, true)⟩) rfl ?_
  try simp only [Act.put, pA, pB, pC]
  refine tkQ 10 (oi := ⟨some 15, .fieldAddr 66 (.tmp 14) 0, 0, "book.go:259", #[⟨9, .data⟩, ⟨7, .guard⟩], some (7, true)⟩) rfl ?_
  try simp only [Act.put, pA, pB, pC]
  refine tkQ 11 (oi := ⟨some 16, .load 60 (.tmp 15), 60, "book.go:259", #[⟨10, .data⟩, ⟨7, .guard⟩], some (7, true)⟩) rfl ?_
  try simp only [Act.put, pA, pB, pC]
  refine tkQ 12 (oi := ⟨some 17, .fieldAddr 78 (.tmp 3) 1, 0, "book.go:259", #[⟨7, .guard⟩], some (7, true)⟩) rfl ?_
  try simp only [Act.put, pA, pB, pC]
  refine tkQ 13 (oi := ⟨some 18, .load 3 (.tmp 17), 3, "book.go:259", #[⟨12, .data⟩, ⟨7, .guard⟩], some (7, true)⟩) rfl ?_
  try simp only [Act.put, pA, pB, pC]
  refine rdH (i := 14) rfl (fun K hK => ?_)
  go_simp
  refine (HS.out _).mono ?_
  rintro e w2 ⟨rfl, hg2⟩
  have m2 := (Bm.then m0 (grown_drew _ none)).then hg2
  have hK2 := HK.out _ m2
  go_wp2_with fail
  refine hK.out _ _ ?_ (fun hHeld => ?_)
  · ((try dsimp only); first | assumption | exact hK5 | exact hK3 | exact hK2 | exact hK0)
  clear hK K
  try simp only [Act.put, pA, pB, pC]
  refine tkQ 15 (oi := ⟨some 20, .pick (.tmp 12) (.tmp 19) (.const (.bool false)), 4, "book.go:259", #[⟨7, .data⟩, ⟨14, .data⟩], none⟩) rfl ?_
  try simp only [Act.put, pA, pB, pC]
  refine tkQ 16 (oi := ⟨some 21, .move (.tmp 20), 4, "book.go:259", #[⟨15, .data⟩, ⟨14, .chain⟩], none⟩) rfl ?_
  try simp only [Act.put, pA, pB, pC]
  refine tkQ 17 (oi := ⟨some 22, .move (.tmp 0), 31, "book.go:259", #[⟨16, .guard⟩], some (16, true)⟩) rfl ?_
  try simp only [Act.put, pA, pB, pC]
  refine tkQ 18 (oi := ⟨some 23, .nilCheck (.tmp 22), 0, "book.go:259", #[⟨17, .data⟩, ⟨16, .guard⟩], some (16, true)⟩) rfl ?_
  try simp only [Act.put, pA, pB, pC]
  refine tkQ 19 (oi := ⟨some 24, .fieldAddr 66 (.tmp 23) 4, 0, "book.go:259", #[⟨18, .data⟩, ⟨16, .guard⟩], some (16, true)⟩) rfl ?_
  try simp only [Act.put, pA, pB, pC]
  refine tkQ 20 (oi := ⟨some 25, .load 61 (.tmp 24), 61, "book.go:259", #[⟨19, .data⟩, ⟨16, .guard⟩], some (16, true)⟩) rfl ?_
  try simp only [Act.put, pA, pB, pC]
  refine tkQ 21 (oi := ⟨some 26, .fieldAddr 78 (.tmp 3) 1, 0, "book.go:259", #[⟨16, .guard⟩], some (16, true)⟩) rfl ?_
  try simp only [Act.put, pA, pB, pC]
  refine tkQ 22 (oi := ⟨some 27, .load 3 (.tmp 26), 3, "book.go:259", #[⟨21, .data⟩, ⟨16, .guard⟩], some (16, true)⟩) rfl ?_
  try simp only [Act.put, pA, pB, pC]
  refine rdH (i := 23) rfl (fun K hK => ?_)
  go_simp
  refine (HH.out _ m2).mono ?_
  rintro e w3 ⟨rfl, hg3⟩
  have m3 := Bm.then m2 hg3
  have hK3 := HK.out _ m3
  go_wp2_with fail
  refine hK.out _ _ ?_ (fun hHeld => ?_)
  · ((try dsimp only); first | assumption | exact hK5 | exact hK3 | exact hK2 | exact hK0)
  clear hK K
  try simp only [Act.put, pA, pB, pC]
  refine tkQ 24 (oi := ⟨some 29, .unOp .not 4 (.tmp 28), 4, "book.go:259", #[⟨23, .data⟩, ⟨16, .guard⟩], some (16, true)⟩) rfl ?_
  try simp only [Act.put, pA, pB, pC]
  refine tkQ 25 (oi := ⟨some 30, .pick (.tmp 21) (.tmp 29) (.const (.bool false)), 4, "book.go:259", #[⟨16, .data⟩, ⟨24, .data⟩], none⟩) rfl ?_
  try simp only [Act.put, pA, pB, pC]
  refine tkQ 26 (oi := ⟨some 31, .move (.tmp 30), 4, "book.go:259", #[⟨25, .data⟩, ⟨23, .chain⟩], none⟩) rfl ?_
  try simp only [Act.put, pA, pB, pC]
  refine skH 27 (oi := ⟨some 32, .move (.tmp 0), 31, "book.go:259", #[⟨26, .guard⟩], some (26, true)⟩) rfl ?_
  try simp only [Act.put, pA, pB, pC]
  refine skH 28 (oi := ⟨some 33, .nilCheck (.tmp 32), 0, "book.go:259", #[⟨27, .data⟩, ⟨26, .guard⟩], some (26, true)⟩) rfl ?_
  try simp only [Act.put, pA, pB, pC]
  refine skH 29 (oi := ⟨some 34, .fieldAddr 66 (.tmp 33) 0, 0, "book.go:259", #[⟨28, .data⟩, ⟨26, .guard⟩], some (26, true)⟩) rfl ?_
  try simp only [Act.put, pA, pB, pC]
  refine skH 30 (oi := ⟨some 35, .load 60 (.tmp 34), 60, "book.go:259", #[⟨29, .data⟩, ⟨26, .guard⟩], some (26, true)⟩) rfl ?_
  try simp only [Act.put, pA, pB, pC]
  refine skH 31 (oi := ⟨some 36, .move (.tmp 0), 31, "book.go:259", #[⟨26, .guard⟩], some (26, true)⟩) rfl ?_
  try simp only [Act.put, pA, pB, pC]
  refine skH 32 (oi := ⟨some 37, .nilCheck (.tmp 36), 0, "book.go:259", #[⟨31, .data⟩, ⟨26, .guard⟩], some (26, true)⟩) rfl ?_
  try simp only [Act.put, pA, pB, pC]
  refine skH 33 (oi := ⟨some 38, .fieldAddr 66 (.tmp 37) 6, 0, "book.go:259", #[⟨32, .data⟩, ⟨26, .guard⟩], some (26, true)⟩) rfl ?_
  try simp only [Act.put, pA, pB, pC]
  refine skH 34 (oi := ⟨some 39, .load 62 (.tmp 38), 62, "book.go:259", #[⟨33, .data⟩, ⟨26, .guard⟩], some (26, true)⟩) rfl ?_
  try simp only [Act.put, pA, pB, pC]
  refine skH 35 (oi := ⟨some 40, .call { callee := .value (.func 53), args := #[.tmp 39], argTypes := #[62] }, 3, "book.go:259", #[⟨34, .data⟩, ⟨26, .chain⟩, ⟨26, .guard⟩], some (26, true)⟩) rfl ?_
  try simp only [Act.put, pA, pB, pC]
  refine skH 36 (oi := ⟨some 41, .call { callee := .value (.func 71), args := #[.tmp 35, .tmp 40], argTypes := #[60, 3] }, 4, "book.go:259", #[⟨30, .data⟩, ⟨35, .data⟩, ⟨35, .chain⟩, ⟨26, .guard⟩], some (26, true)⟩) rfl ?_
  try simp only [Act.put, pA, pB, pC]
  refine tkQ 37 (oi := ⟨some 42, .pick (.tmp 31) (.tmp 41) (.const (.bool false)), 4, "book.go:259", #[⟨26, .data⟩, ⟨36, .data⟩], none⟩) rfl ?_
  try simp only [Act.put, pA, pB, pC]
  refine tkQ 38 (oi := ⟨some 43, .move (.tmp 42), 4, "book.go:259", #[⟨37, .data⟩, ⟨36, .chain⟩], none⟩) rfl ?_
  try simp only [Act.put, pA, pB, pC]
  refine skH 39 (oi := ⟨some 44, .move (.tmp 0), 31, "book.go:259", #[⟨38, .guard⟩], some (38, true)⟩) rfl ?_
  try simp only [Act.put, pA, pB, pC]
  refine skH 40 (oi := ⟨some 45, .fieldAddr 78 (.tmp 3) 2, 0, "book.go:259", #[⟨38, .guard⟩], some (38, true)⟩) rfl ?_
  try simp only [Act.put, pA, pB, pC]
  refine skH 41 (oi := ⟨some 46, .load 2 (.tmp 45), 2, "book.go:259", #[⟨40, .data⟩, ⟨38, .guard⟩], some (38, true)⟩) rfl ?_
  try simp only [Act.put, pA, pB, pC]
  refine skH 42 (oi := ⟨some 47, .call { callee := .value (.func 72), args := #[.tmp 44, .tmp 46], argTypes := #[31, 2] }, 4, "book.go:259", #[⟨39, .data⟩, ⟨41, .data⟩, ⟨38, .chain⟩, ⟨38, .guard⟩], some (38, true)⟩) rfl ?_
  try simp only [Act.put, pA, pB, pC]
  refine tkQ 43 (oi := ⟨some 48, .pick (.tmp 43) (.tmp 47) (.const (.bool false)), 4, "book.go:259", #[⟨38, .data⟩, ⟨42, .data⟩], none⟩) rfl ?_
  try simp only [Act.put, pA, pB, pC]
  refine tkQ 44 (oi := ⟨some 4, .assign (.tmp 48), 4, "book.go:259", #[⟨43, .data⟩, ⟨42, .chain⟩, ⟨0, .phase⟩, ⟨1, .phase⟩, ⟨2, .phase⟩, ⟨3, .phase⟩, ⟨4, .phase⟩, ⟨5, .phase⟩, ⟨6, .phase⟩, ⟨7, .phase⟩, ⟨8, .phase⟩, ⟨9, .phase⟩, ⟨10, .phase⟩, ⟨11, .phase⟩, ⟨12, .phase⟩, ⟨13, .phase⟩, ⟨14, .phase⟩, ⟨15, .phase⟩, ⟨16, .phase⟩, ⟨17, .phase⟩, ⟨18, .phase⟩, ⟨19, .phase⟩, ⟨20, .phase⟩, ⟨21, .phase⟩, ⟨22, .phase⟩, ⟨23, .phase⟩, ⟨24, .phase⟩, ⟨25, .phase⟩, ⟨26, .phase⟩, ⟨27, .phase⟩, ⟨28, .phase⟩, ⟨29, .phase⟩, ⟨30, .phase⟩, ⟨31, .phase⟩, ⟨32, .phase⟩, ⟨33, .phase⟩, ⟨34, .phase⟩, ⟨35, .phase⟩, ⟨36, .phase⟩, ⟨37, .phase⟩, ⟨38, .phase⟩, ⟨39, .phase⟩, ⟨40, .phase⟩, ⟨41, .phase⟩, ⟨42, .phase⟩, ⟨43, .phase⟩], none⟩) rfl ?_
  try simp only [Act.put, pA, pB, pC]
  refine wpAnyH_done (by kernel_rfl) ?_ _
  go_wp2
  go_ret
  exact ⟨rfl, m3.gr⟩
set_option maxRecDepth 20000 in
set_option maxHeartbeats 8000000 in
theorem mayHave_room {w : World} {p : Bp} {S : Sb} {K : Nat} (h : BkAt w p S K) (xi : Nat) (xs xu : Int) (hi : xi < S.n) (hs : 0 ≤ xs ∧ xs < (S.a : Int)) (hn : sat S.L xs.toNat = none) (hf : S.b ≤ S.L.length) : Calls Tryz.prog 41 #[.pointer (some ⟨p.b, 0, none⟩), bwV ⟨xi, xs, xu⟩] w fun e w' => e = .returned (.bool false) ∧ w.grownBy w' none := by
  have m0 := Bm.start h [.int .u32 (xi : Int), .int .i64 xs, .int .i64 xu] 78
  have HS : Hid (∀ W, Calls Tryz.prog 55 #[limV S.a S.b S.c, .int .i64 xs] W fun e w' => e = .returned (.bool true) ∧ W.grownBy w' none) := by
    intro W
    have := hasSeat_any S.a S.b S.c xs W
    rw [decide_eq_true hs] at this
    exact this
  have HH : Hid (∀ W, Bm w W w.heap.size [.int .u32 (xi : Int), .int .i64 xs, .int .i64 xu] 78 p S K → Calls Tryz.prog 56 #[.pointer (some ⟨p.tb, 0, none⟩), .int .i64 xs] W fun e w' => e = .returned (.bool false) ∧ W.grownBy w' none) := by
    intro W hW
    have := hW.bk.has xs.toNat (by omega)
    rw [hn] at this
    rw [Int.toNat_of_nonneg hs.1] at this
    exact this
  have HR : Hid (∀ W, Calls Tryz.prog 71 #[limV S.a S.b S.c, .int .i64 (S.L.length : Int)] W fun e w' => e = .returned (.bool false) ∧ W.grownBy w' none) := by
    intro W
    have := hasRoom_any S.a S.b S.c (S.L.length : Int) W
    rw [decide_eq_false (show ¬ (S.L.length : Int) < (S.b : Int) by omega)] at this
    exact this
  have HL : Hid (∀ W, Bm w W w.heap.size [.int .u32 (xi : Int), .int .i64 xs, .int .i64 xu] 78 p S K → Calls Tryz.prog 53 #[.pointer (some ⟨p.ip.x, 0, none⟩)] W fun e w' => e = .returned (.int .i64 (S.L.length : Int)) ∧ w' = W) := fun W hW => hW.bk.len
  have HK : Hid (∀ W, Bm w W w.heap.size [.int .u32 (xi : Int), .int .i64 xs, .int .i64 xu] 78 p S K → W.cell? ⟨p.b, 0, none⟩ = some (.int .i64 (S.a : Int)) ∧ W.cell? ⟨p.b, 1, none⟩ = some (.int .i64 (S.b : Int)) ∧ W.cell? ⟨p.b, 2, none⟩ = some (.int .i64 (S.c : Int)) ∧ W.cell? ⟨p.b, 4, none⟩ = some (.int .u32 (S.n : Int)) ∧ W.cell? ⟨p.b, 6, none⟩ = some (.pointer (some ⟨p.tb, 0, none⟩)) ∧ W.cell? ⟨p.b, 8, none⟩ = some (.pointer (some ⟨p.ip.x, 0, none⟩)) ∧ W.cell? ⟨w.heap.size, 0, none⟩ = some (.int .u32 (xi : Int)) ∧ W.cell? ⟨w.heap.size, 1, none⟩ = some (.int .i64 xs) ∧ W.cell? ⟨w.heap.size, 2, none⟩ = some (.int .i64 xu)) := fun W m => ⟨m.ff.a0, m.ff.a1, m.ff.a2, m.ff.a4, m.ff.a6, m.ff.a8, m.ff.bx 0 _ rfl, m.ff.bx 1 _ rfl, m.ff.bx 2 _ rfl⟩
  unfold limV at HS HR
  have hK0 := HK.out _ m0
  have h1 : (xi : Int) < (S.n : Int) := by omega
  have h2 : decide ((xi : Int) < (S.n : Int)) = true := by simpa using hi
  have h3 : decide (xi < S.n) = true := by simpa using hi
  clear h hi hs hn hf
  unfold bwV
  go_enter Tryz.func41, Tryz.ntmps41
  go_wp2
  generalize World.alloc w _ = w0 at *
  refine wp_region_held_drew (S := (fun W => W.cell? ⟨p.b, 0, none⟩ = some (.int .i64 (S.a : Int)) ∧ W.cell? ⟨p.b, 1, none⟩ = some (.int .i64 (S.b : Int)) ∧ W.cell? ⟨p.b, 2, none⟩ = some (.int .i64 (S.c : Int)) ∧ W.cell? ⟨p.b, 4, none⟩ = some (.int .u32 (S.n : Int)) ∧ W.cell? ⟨p.b, 6, none⟩ = some (.pointer (some ⟨p.tb, 0, none⟩)) ∧ W.cell? ⟨p.b, 8, none⟩ = some (.pointer (some ⟨p.ip.x, 0, none⟩)) ∧ W.cell? ⟨w.heap.size, 0, none⟩ = some (.int .u32 (xi : Int)) ∧ W.cell? ⟨w.heap.size, 1, none⟩ = some (.int .i64 xs) ∧ W.cell? ⟨w.heap.size, 2, none⟩ = some (.int .i64 xu))) (by kernel_rfl) ?_ (fun hHeld => ?_)
  · (exact hK0)
  refine tkQ 0 (oi := ⟨some 5, .fieldAddr 78 (.tmp 3) 0, 0, "book.go:259", #[], none⟩) rfl ?_
  try simp only [Act.put, pA, pB, pC]
  refine tkQ 1 (oi := ⟨some 6, .load 24 (.tmp 5), 24, "book.go:259", #[⟨0, .data⟩], none⟩) rfl ?_
  try simp only [Act.put, pA, pB, pC]
  refine tkQ 2 (oi := ⟨some 7, .move (.tmp 0), 31, "book.go:259", #[], none⟩) rfl ?_
  try simp only [Act.put, pA, pB, pC]
  refine tkQ 3 (oi := ⟨some 8, .nilCheck (.tmp 7), 0, "book.go:259", #[⟨2, .data⟩], none⟩) rfl ?_
  try simp only [Act.put, pA, pB, pC]
  refine tkQ 4 (oi := ⟨some 9, .fieldAddr 66 (.tmp 8) 2, 0, "book.go:259", #[⟨3, .data⟩], none⟩) rfl ?_
  try simp only [Act.put, pA, pB, pC]
  refine tkQ 5 (oi := ⟨some 10, .load 24 (.tmp 9), 24, "book.go:259", #[⟨4, .data⟩], none⟩) rfl ?_
  try simp only [Act.put, pA, pB, pC]
  refine tkQ 6 (oi := ⟨some 11, .binOp .lss 24 (.tmp 6) (.tmp 10) 24, 4, "book.go:259", #[⟨1, .data⟩, ⟨5, .data⟩], none⟩) rfl ?_
  try simp only [Act.put, pA, pB, pC]
  refine tkQ 7 (oi := ⟨some 12, .move (.tmp 11), 4, "book.go:259", #[⟨6, .data⟩], none⟩) rfl ?_
  try simp only [Act.put, pA, pB, pC]
  refine tkQ 8 (oi := ⟨some 13, .move (.tmp 0), 31, "book.go:259", #[⟨7, .guard⟩], some (7, true)⟩) rfl ?_
  try simp only [Act.put, pA, pB, pC]
  refine tkQ 9 (oi := ⟨some 14, .nilCheck (.tmp 13), 0, "book.go:259", #[⟨8, .data⟩, ⟨7, .guard⟩], some (7, true)⟩) rfl ?_
  try simp only [Act.put, pA, pB, pC]
  refine tkQ 10 (oi := ⟨some 15, .fieldAddr 66 (.tmp 14) 0, 0, "book.go:259", #[⟨9, .data⟩, ⟨7, .guard⟩], some (7, true)⟩) rfl ?_
  try simp only [Act.put, pA, pB, pC]
  refine tkQ 11 (oi := ⟨some 16, .load 60 (.tmp 15), 60, "book.go:259", #[⟨10, .data⟩, ⟨7, .guard⟩], some (7, true)⟩) rfl ?_
  try simp only [Act.put, pA, pB, pC]
  refine tkQ 12 (oi := ⟨some 17, .fieldAddr 78 (.tmp 3) 1, 0, "book.go:259", #[⟨7, .guard⟩], some (7, true)⟩) rfl ?_
  try simp only [Act.put, pA, pB, pC]
  refine tkQ 13 (oi := ⟨some 18, .load 3 (.tmp 17), 3, "book.go:259", #[⟨12, .data⟩, ⟨7, .guard⟩], some (7, true)⟩) rfl ?_
  try simp only [Act.put, pA, pB, pC]
  refine rdH (i := 14) rfl (fun K hK => ?_)
  go_simp
  refine (HS.out _).mono ?_
  rintro e w2 ⟨rfl, hg2⟩
  have m2 := (Bm.then m0 (grown_drew _ none)).then hg2
  have hK2 := HK.out _ m2
  go_wp2_with fail
  refine hK.out _ _ ?_ (fun hHeld => ?_)
  · ((try dsimp only); first | assumption | exact hK5 | exact hK3 | exact hK2 | exact hK0)
  clear hK K
  try simp only [Act.put, pA, pB, pC]
  refine tkQ 15 (oi := ⟨some 20, .pick (.tmp 12) (.tmp 19) (.const (.bool false)), 4, "book.go:259", #[⟨7, .data⟩, ⟨14, .data⟩], none⟩) rfl ?_
  try simp only [Act.put, pA, pB, pC]
  refine tkQ 16 (oi := ⟨some 21, .move (.tmp 20), 4, "book.go:259", #[⟨15, .data⟩, ⟨14, .chain⟩], none⟩) rfl ?_
  try simp only [Act.put, pA, pB, pC]
  refine tkQ 17 (oi := ⟨some 22, .move (.tmp 0), 31, "book.go:259", #[⟨16, .guard⟩], some (16, true)⟩) rfl ?_
  try simp only [Act.put, pA, pB, pC]
  refine tkQ 18 (oi := ⟨some 23, .nilCheck (.tmp 22), 0, "book.go:259", #[⟨17, .data⟩, ⟨16, .guard⟩], some (16, true)⟩) rfl ?_
  try simp only [Act.put, pA, pB, pC]
  refine tkQ 19 (oi := ⟨some 24, .fieldAddr 66 (.tmp 23) 4, 0, "book.go:259", #[⟨18, .data⟩, ⟨16, .guard⟩], some (16, true)⟩) rfl ?_
  try simp only [Act.put, pA, pB, pC]
  refine tkQ 20 (oi := ⟨some 25, .load 61 (.tmp 24), 61, "book.go:259", #[⟨19, .data⟩, ⟨16, .guard⟩], some (16, true)⟩) rfl ?_
  try simp only [Act.put, pA, pB, pC]
  refine tkQ 21 (oi := ⟨some 26, .fieldAddr 78 (.tmp 3) 1, 0, "book.go:259", #[⟨16, .guard⟩], some (16, true)⟩) rfl ?_
  try simp only [Act.put, pA, pB, pC]
  refine tkQ 22 (oi := ⟨some 27, .load 3 (.tmp 26), 3, "book.go:259", #[⟨21, .data⟩, ⟨16, .guard⟩], some (16, true)⟩) rfl ?_
  try simp only [Act.put, pA, pB, pC]
  refine rdH (i := 23) rfl (fun K hK => ?_)
  go_simp
  refine (HH.out _ m2).mono ?_
  rintro e w3 ⟨rfl, hg3⟩
  have m3 := Bm.then m2 hg3
  have hK3 := HK.out _ m3
  go_wp2_with fail
  refine hK.out _ _ ?_ (fun hHeld => ?_)
  · ((try dsimp only); first | assumption | exact hK5 | exact hK3 | exact hK2 | exact hK0)
  clear hK K
  try simp only [Act.put, pA, pB, pC]
  refine tkQ 24 (oi := ⟨some 29, .unOp .not 4 (.tmp 28), 4, "book.go:259", #[⟨23, .data⟩, ⟨16, .guard⟩], some (16, true)⟩) rfl ?_
  try simp only [Act.put, pA, pB, pC]
  refine tkQ 25 (oi := ⟨some 30, .pick (.tmp 21) (.tmp 29) (.const (.bool false)), 4, "book.go:259", #[⟨16, .data⟩, ⟨24, .data⟩], none⟩) rfl ?_
  try simp only [Act.put, pA, pB, pC]
  refine tkQ 26 (oi := ⟨some 31, .move (.tmp 30), 4, "book.go:259", #[⟨25, .data⟩, ⟨23, .chain⟩], none⟩) rfl ?_
  try simp only [Act.put, pA, pB, pC]
  refine tkQ 27 (oi := ⟨some 32, .move (.tmp 0), 31, "book.go:259", #[⟨26, .guard⟩], some (26, true)⟩) rfl ?_
  try simp only [Act.put, pA, pB, pC]
  refine tkQ 28 (oi := ⟨some 33, .nilCheck (.tmp 32), 0, "book.go:259", #[⟨27, .data⟩, ⟨26, .guard⟩], some (26, true)⟩) rfl ?_
  try simp only [Act.put, pA, pB, pC]
  refine tkQ 29 (oi := ⟨some 34, .fieldAddr 66 (.tmp 33) 0, 0, "book.go:259", #[⟨28, .data⟩, ⟨26, .guard⟩], some (26, true)⟩) rfl ?_
  try simp only [Act.put, pA, pB, pC]
  refine tkQ 30 (oi := ⟨some 35, .load 60 (.tmp 34), 60, "book.go:259", #[⟨29, .data⟩, ⟨26, .guard⟩], some (26, true)⟩) rfl ?_
  try simp only [Act.put, pA, pB, pC]
  refine tkQ 31 (oi := ⟨some 36, .move (.tmp 0), 31, "book.go:259", #[⟨26, .guard⟩], some (26, true)⟩) rfl ?_
  try simp only [Act.put, pA, pB, pC]
  refine tkQ 32 (oi := ⟨some 37, .nilCheck (.tmp 36), 0, "book.go:259", #[⟨31, .data⟩, ⟨26, .guard⟩], some (26, true)⟩) rfl ?_
  try simp only [Act.put, pA, pB, pC]
  refine tkQ 33 (oi := ⟨some 38, .fieldAddr 66 (.tmp 37) 6, 0, "book.go:259", #[⟨32, .data⟩, ⟨26, .guard⟩], some (26, true)⟩) rfl ?_
  try simp only [Act.put, pA, pB, pC]
  refine tkQ 34 (oi := ⟨some 39, .load 62 (.tmp 38), 62, "book.go:259", #[⟨33, .data⟩, ⟨26, .guard⟩], some (26, true)⟩) rfl ?_
  try simp only [Act.put, pA, pB, pC]
  refine rdH (i := 35) rfl (fun K hK => ?_)
  go_simp
  refine (HL.out _ m3).mono ?_
  rintro e w4 ⟨rfl, rfl⟩
  go_wp2_with fail
  refine hK.out _ _ ?_ (fun hHeld => ?_)
  · ((try dsimp only); first | assumption | exact hK5 | exact hK3 | exact hK2 | exact hK0)
  clear hK K
  try simp only [Act.put, pA, pB, pC]
  refine rdH (i := 36) rfl (fun K hK => ?_)
  go_simp
  refine (HR.out _).mono ?_
  rintro e w5 ⟨rfl, hg5⟩
  have m5 := Bm.then m3 hg5
  have hK5 := HK.out _ m5
  go_wp2_with fail
  refine hK.out _ _ ?_ (fun hHeld => ?_)
  · ((try dsimp only); first | assumption | exact hK5 | exact hK3 | exact hK2 | exact hK0)
  clear hK K
  try simp only [Act.put, pA, pB, pC]
  refine tkQ 37 (oi := ⟨some 42, .pick (.tmp 31) (.tmp 41) (.const (.bool false)), 4, "book.go:259", #[⟨26, .data⟩, ⟨36, .data⟩], none⟩) rfl ?_
  try simp only [Act.put, pA, pB, pC]
  refine tkQ 38 (oi := ⟨some 43, .move (.tmp 42), 4, "book.go:259", #[⟨37, .data⟩, ⟨36, .chain⟩], none⟩) rfl ?_
  try simp only [Act.put, pA, pB, pC]
  refine skH 39 (oi := ⟨some 44, .move (.tmp 0), 31, "book.go:259", #[⟨38, .guard⟩], some (38, true)⟩) rfl ?_
  try simp only [Act.put, pA, pB, pC]
  refine skH 40 (oi := ⟨some 45, .fieldAddr 78 (.tmp 3) 2, 0, "book.go:259", #[⟨38, .guard⟩], some (38, true)⟩) rfl ?_
  try simp only [Act.put, pA, pB, pC]
  refine skH 41 (oi := ⟨some 46, .load 2 (.tmp 45), 2, "book.go:259", #[⟨40, .data⟩, ⟨38, .guard⟩], some (38, true)⟩) rfl ?_
  try simp only [Act.put, pA, pB, pC]
  refine skH 42 (oi := ⟨some 47, .call { callee := .value (.func 72), args := #[.tmp 44, .tmp 46], argTypes := #[31, 2] }, 4, "book.go:259", #[⟨39, .data⟩, ⟨41, .data⟩, ⟨38, .chain⟩, ⟨38, .guard⟩], some (38, true)⟩) rfl ?_
  try simp only [Act.put, pA, pB, pC]
  refine tkQ 43 (oi := ⟨some 48, .pick (.tmp 43) (.tmp 47) (.const (.bool false)), 4, "book.go:259", #[⟨38, .data⟩, ⟨42, .data⟩], none⟩) rfl ?_
  try simp only [Act.put, pA, pB, pC]
  refine tkQ 44 (oi := ⟨some 4, .assign (.tmp 48), 4, "book.go:259", #[⟨43, .data⟩, ⟨42, .chain⟩, ⟨0, .phase⟩, ⟨1, .phase⟩, ⟨2, .phase⟩, ⟨3, .phase⟩, ⟨4, .phase⟩, ⟨5, .phase⟩, ⟨6, .phase⟩, ⟨7, .phase⟩, ⟨8, .phase⟩, ⟨9, .phase⟩, ⟨10, .phase⟩, ⟨11, .phase⟩, ⟨12, .phase⟩, ⟨13, .phase⟩, ⟨14, .phase⟩, ⟨15, .phase⟩, ⟨16, .phase⟩, ⟨17, .phase⟩, ⟨18, .phase⟩, ⟨19, .phase⟩, ⟨20, .phase⟩, ⟨21, .phase⟩, ⟨22, .phase⟩, ⟨23, .phase⟩, ⟨24, .phase⟩, ⟨25, .phase⟩, ⟨26, .phase⟩, ⟨27, .phase⟩, ⟨28, .phase⟩, ⟨29, .phase⟩, ⟨30, .phase⟩, ⟨31, .phase⟩, ⟨32, .phase⟩, ⟨33, .phase⟩, ⟨34, .phase⟩, ⟨35, .phase⟩, ⟨36, .phase⟩, ⟨37, .phase⟩, ⟨38, .phase⟩, ⟨39, .phase⟩, ⟨40, .phase⟩, ⟨41, .phase⟩, ⟨42, .phase⟩, ⟨43, .phase⟩], none⟩) rfl ?_
  try simp only [Act.put, pA, pB, pC]
  refine wpAnyH_done (by kernel_rfl) ?_ _
  go_wp2
  go_ret
  exact ⟨rfl, m5.gr⟩
set_option maxRecDepth 20000 in
set_option maxHeartbeats 8000000 in
theorem mayHave_til {w : World} {p : Bp} {S : Sb} {K : Nat} (h : BkAt w p S K) (xi : Nat) (xs xu : Int) (hi : xi < S.n) (hs : 0 ≤ xs ∧ xs < (S.a : Int)) (hn : sat S.L xs.toNat = none) (hf : S.L.length < S.b) (hu : ¬ (xu = 0 ∨ (S.t < xu ∧ xu ≤ mxC))) : Calls Tryz.prog 41 #[.pointer (some ⟨p.b, 0, none⟩), bwV ⟨xi, xs, xu⟩] w fun e w' => e = .returned (.bool false) ∧ w.grownBy w' none := by
  have m0 := Bm.start h [.int .u32 (xi : Int), .int .i64 xs, .int .i64 xu] 78
  have HS : Hid (∀ W, Calls Tryz.prog 55 #[limV S.a S.b S.c, .int .i64 xs] W fun e w' => e = .returned (.bool true) ∧ W.grownBy w' none) := by
    intro W
    have := hasSeat_any S.a S.b S.c xs W
    rw [decide_eq_true hs] at this
    exact this
  have HH : Hid (∀ W, Bm w W w.heap.size [.int .u32 (xi : Int), .int .i64 xs, .int .i64 xu] 78 p S K → Calls Tryz.prog 56 #[.pointer (some ⟨p.tb, 0, none⟩), .int .i64 xs] W fun e w' => e = .returned (.bool false) ∧ W.grownBy w' none) := by
    intro W hW
    have := hW.bk.has xs.toNat (by omega)
    rw [hn] at this
    rw [Int.toNat_of_nonneg hs.1] at this
    exact this
  have HR : Hid (∀ W, Calls Tryz.prog 71 #[limV S.a S.b S.c, .int .i64 (S.L.length : Int)] W fun e w' => e = .returned (.bool true) ∧ W.grownBy w' none) := by
    intro W
    have := hasRoom_any S.a S.b S.c (S.L.length : Int) W
    rw [decide_eq_true (show (S.L.length : Int) < (S.b : Int) by omega)] at this
    exact this
  have HL : Hid (∀ W, Bm w W w.heap.size [.int .u32 (xi : Int), .int .i64 xs, .int .i64 xu] 78 p S K → Calls Tryz.prog 53 #[.pointer (some ⟨p.ip.x, 0, none⟩)] W fun e w' => e = .returned (.int .i64 (S.L.length : Int)) ∧ w' = W) := fun W hW => hW.bk.len
  have HM : Hid (∀ W, Bm w W w.heap.size [.int .u32 (xi : Int), .int .i64 xs, .int .i64 xu] 78 p S K → Calls Tryz.prog 72 #[.pointer (some ⟨p.b, 0, none⟩), .int .i64 xu] W fun e w' => e = .returned (.bool false) ∧ w' = W) := fun W hW => mayLast_no hW.bk hu
  have HK : Hid (∀ W, Bm w W w.heap.size [.int .u32 (xi : Int), .int .i64 xs, .int .i64 xu] 78 p S K → W.cell? ⟨p.b, 0, none⟩ = some (.int .i64 (S.a : Int)) ∧ W.cell? ⟨p.b, 1, none⟩ = some (.int .i64 (S.b : Int)) ∧ W.cell? ⟨p.b, 2, none⟩ = some (.int .i64 (S.c : Int)) ∧ W.cell? ⟨p.b, 4, none⟩ = some (.int .u32 (S.n : Int)) ∧ W.cell? ⟨p.b, 6, none⟩ = some (.pointer (some ⟨p.tb, 0, none⟩)) ∧ W.cell? ⟨p.b, 8, none⟩ = some (.pointer (some ⟨p.ip.x, 0, none⟩)) ∧ W.cell? ⟨w.heap.size, 0, none⟩ = some (.int .u32 (xi : Int)) ∧ W.cell? ⟨w.heap.size, 1, none⟩ = some (.int .i64 xs) ∧ W.cell? ⟨w.heap.size, 2, none⟩ = some (.int .i64 xu)) := fun W m => ⟨m.ff.a0, m.ff.a1, m.ff.a2, m.ff.a4, m.ff.a6, m.ff.a8, m.ff.bx 0 _ rfl, m.ff.bx 1 _ rfl, m.ff.bx 2 _ rfl⟩
  unfold limV at HS HR
  have hK0 := HK.out _ m0
  have h1 : (xi : Int) < (S.n : Int) := by omega
  have h2 : decide ((xi : Int) < (S.n : Int)) = true := by simpa using hi
  have h3 : decide (xi < S.n) = true := by simpa using hi
  clear h hi hs hn hf hu
  unfold bwV
  go_enter Tryz.func41, Tryz.ntmps41
  go_wp2
  generalize World.alloc w _ = w0 at *
  refine wp_region_held_drew (S := (fun W => W.cell? ⟨p.b, 0, none⟩ = some (.int .i64 (S.a : Int)) ∧ W.cell? ⟨p.b, 1, none⟩ = some (.int .i64 (S.b : Int)) ∧ W.cell? ⟨p.b, 2, none⟩ = some (.int .i64 (S.c : Int)) ∧ W.cell? ⟨p.b, 4, none⟩ = some (.int .u32 (S.n : Int)) ∧ W.cell? ⟨p.b, 6, none⟩ = some (.pointer (some ⟨p.tb, 0, none⟩)) ∧ W.cell? ⟨p.b, 8, none⟩ = some (.pointer (some ⟨p.ip.x, 0, none⟩)) ∧ W.cell? ⟨w.heap.size, 0, none⟩ = some (.int .u32 (xi : Int)) ∧ W.cell? ⟨w.heap.size, 1, none⟩ = some (.int .i64 xs) ∧ W.cell? ⟨w.heap.size, 2, none⟩ = some (.int .i64 xu))) (by kernel_rfl) ?_ (fun hHeld => ?_)
  · (exact hK0)
  refine tkQ 0 (oi := ⟨some 5, .fieldAddr 78 (.tmp 3) 0, 0, "book.go:259", #[], none⟩) rfl ?_
  try simp only [Act.put, pA, pB, pC]
  refine tkQ 1 (oi := ⟨some 6, .load 24 (.tmp 5), 24, "book.go:259", #[⟨0, .data⟩], none⟩) rfl ?_
  try simp only [Act.put, pA, pB, pC]
  refine tkQ 2 (oi := ⟨some 7, .move (.tmp 0), 31, "book.go:259", #[], none⟩) rfl ?_
  try simp only [Act.put, pA, pB, pC]
  refine tkQ 3 (oi := ⟨some 8, .nilCheck (.tmp 7), 0, "book.go:259", #[⟨2, .data⟩], none⟩) rfl ?_
  try simp only [Act.put, pA, pB, pC]
  refine tkQ 4 (oi := ⟨some 9, .fieldAddr 66 (.tmp 8) 2, 0, "book.go:259", #[⟨3, .data⟩], none⟩) rfl ?_
  try simp only [Act.put, pA, pB, pC]
  refine tkQ 5 (oi := ⟨some 10, .load 24 (.tmp 9), 24, "book.go:259", #[⟨4, .data⟩], none⟩) rfl ?_
  try simp only [Act.put, pA, pB, pC]
  refine tkQ 6 (oi := ⟨some 11, .binOp .lss 24 (.tmp 6) (.tmp 10) 24, 4, "book.go:259", #[⟨1, .data⟩, ⟨5, .data⟩], none⟩) rfl ?_
  try simp only [Act.put, pA, pB, pC]
  refine tkQ 7 (oi := ⟨some 12, .move (.tmp 11), 4, "book.go:259", #[⟨6, .data⟩], none⟩) rfl ?_
  try simp only [Act.put, pA, pB, pC]
  refine tkQ 8 (oi := ⟨some 13, .move (.tmp 0), 31, "book.go:259", #[⟨7, .guard⟩], some (7, true)⟩) rfl ?_
  try simp only [Act.put, pA, pB, pC]
  refine tkQ 9 (oi := ⟨some 14, .nilCheck (.tmp 13), 0, "book.go:259", #[⟨8, .data⟩, ⟨7, .guard⟩], some (7, true)⟩) rfl ?_
  try simp only [Act.put, pA, pB, pC]
  refine tkQ 10 (oi := ⟨some 15, .fieldAddr 66 (.tmp 14) 0, 0, "book.go:259", #[⟨9, .data⟩, ⟨7, .guard⟩], some (7, true)⟩) rfl ?_
  try simp only [Act.put, pA, pB, pC]
  refine tkQ 11 (oi := ⟨some 16, .load 60 (.tmp 15), 60, "book.go:259", #[⟨10, .data⟩, ⟨7, .guard⟩], some (7, true)⟩) rfl ?_
  try simp only [Act.put, pA, pB, pC]
  refine tkQ 12 (oi := ⟨some 17, .fieldAddr 78 (.tmp 3) 1, 0, "book.go:259", #[⟨7, .guard⟩], some (7, true)⟩) rfl ?_
  try simp only [Act.put, pA, pB, pC]
  refine tkQ 13 (oi := ⟨some 18, .load 3 (.tmp 17), 3, "book.go:259", #[⟨12, .data⟩, ⟨7, .guard⟩], some (7, true)⟩) rfl ?_
  try simp only [Act.put, pA, pB, pC]
  refine rdH (i := 14) rfl (fun K hK => ?_)
  go_simp
  refine (HS.out _).mono ?_
  rintro e w2 ⟨rfl, hg2⟩
  have m2 := (Bm.then m0 (grown_drew _ none)).then hg2
  have hK2 := HK.out _ m2
  go_wp2_with fail
  refine hK.out _ _ ?_ (fun hHeld => ?_)
  · ((try dsimp only); first | assumption | exact hK5 | exact hK3 | exact hK2 | exact hK0)
  clear hK K
  try simp only [Act.put, pA, pB, pC]
  refine tkQ 15 (oi := ⟨some 20, .pick (.tmp 12) (.tmp 19) (.const (.bool false)), 4, "book.go:259", #[⟨7, .data⟩, ⟨14, .data⟩], none⟩) rfl ?_
  try simp only [Act.put, pA, pB, pC]
  refine tkQ 16 (oi := ⟨some 21, .move (.tmp 20), 4, "book.go:259", #[⟨15, .data⟩, ⟨14, .chain⟩], none⟩) rfl ?_
  try simp only [Act.put, pA, pB, pC]
  refine tkQ 17 (oi := ⟨some 22, .move (.tmp 0), 31, "book.go:259", #[⟨16, .guard⟩], some (16, true)⟩) rfl ?_
  try simp only [Act.put, pA, pB, pC]
  refine tkQ 18 (oi := ⟨some 23, .nilCheck (.tmp 22), 0, "book.go:259", #[⟨17, .data⟩, ⟨16, .guard⟩], some (16, true)⟩) rfl ?_
  try simp only [Act.put, pA, pB, pC]
  refine tkQ 19 (oi := ⟨some 24, .fieldAddr 66 (.tmp 23) 4, 0, "book.go:259", #[⟨18, .data⟩, ⟨16, .guard⟩], some (16, true)⟩) rfl ?_
  try simp only [Act.put, pA, pB, pC]
  refine tkQ 20 (oi := ⟨some 25, .load 61 (.tmp 24), 61, "book.go:259", #[⟨19, .data⟩, ⟨16, .guard⟩], some (16, true)⟩) rfl ?_
  try simp only [Act.put, pA, pB, pC]
  refine tkQ 21 (oi := ⟨some 26, .fieldAddr 78 (.tmp 3) 1, 0, "book.go:259", #[⟨16, .guard⟩], some (16, true)⟩) rfl ?_
  try simp only [Act.put, pA, pB, pC]
  refine tkQ 22 (oi := ⟨some 27, .load 3 (.tmp 26), 3, "book.go:259", #[⟨21, .data⟩, ⟨16, .guard⟩], some (16, true)⟩) rfl ?_
  try simp only [Act.put, pA, pB, pC]
  refine rdH (i := 23) rfl (fun K hK => ?_)
  go_simp
  refine (HH.out _ m2).mono ?_
  rintro e w3 ⟨rfl, hg3⟩
  have m3 := Bm.then m2 hg3
  have hK3 := HK.out _ m3
  go_wp2_with fail
  refine hK.out _ _ ?_ (fun hHeld => ?_)
  · ((try dsimp only); first | assumption | exact hK5 | exact hK3 | exact hK2 | exact hK0)
  clear hK K
  try simp only [Act.put, pA, pB, pC]
  refine tkQ 24 (oi := ⟨some 29, .unOp .not 4 (.tmp 28), 4, "book.go:259", #[⟨23, .data⟩, ⟨16, .guard⟩], some (16, true)⟩) rfl ?_
  try simp only [Act.put, pA, pB, pC]
  refine tkQ 25 (oi := ⟨some 30, .pick (.tmp 21) (.tmp 29) (.const (.bool false)), 4, "book.go:259", #[⟨16, .data⟩, ⟨24, .data⟩], none⟩) rfl ?_
  try simp only [Act.put, pA, pB, pC]
  refine tkQ 26 (oi := ⟨some 31, .move (.tmp 30), 4, "book.go:259", #[⟨25, .data⟩, ⟨23, .chain⟩], none⟩) rfl ?_
  try simp only [Act.put, pA, pB, pC]
  refine tkQ 27 (oi := ⟨some 32, .move (.tmp 0), 31, "book.go:259", #[⟨26, .guard⟩], some (26, true)⟩) rfl ?_
  try simp only [Act.put, pA, pB, pC]
  refine tkQ 28 (oi := ⟨some 33, .nilCheck (.tmp 32), 0, "book.go:259", #[⟨27, .data⟩, ⟨26, .guard⟩], some (26, true)⟩) rfl ?_
  try simp only [Act.put, pA, pB, pC]
  refine tkQ 29 (oi := ⟨some 34, .fieldAddr 66 (.tmp 33) 0, 0, "book.go:259", #[⟨28, .data⟩, ⟨26, .guard⟩], some (26, true)⟩) rfl ?_
  try simp only [Act.put, pA, pB, pC]
  refine tkQ 30 (oi := ⟨some 35, .load 60 (.tmp 34), 60, "book.go:259", #[⟨29, .data⟩, ⟨26, .guard⟩], some (26, true)⟩) rfl ?_
  try simp only [Act.put, pA, pB, pC]
  refine tkQ 31 (oi := ⟨some 36, .move (.tmp 0), 31, "book.go:259", #[⟨26, .guard⟩], some (26, true)⟩) rfl ?_
  try simp only [Act.put, pA, pB, pC]
  refine tkQ 32 (oi := ⟨some 37, .nilCheck (.tmp 36), 0, "book.go:259", #[⟨31, .data⟩, ⟨26, .guard⟩], some (26, true)⟩) rfl ?_
  try simp only [Act.put, pA, pB, pC]
  refine tkQ 33 (oi := ⟨some 38, .fieldAddr 66 (.tmp 37) 6, 0, "book.go:259", #[⟨32, .data⟩, ⟨26, .guard⟩], some (26, true)⟩) rfl ?_
  try simp only [Act.put, pA, pB, pC]
  refine tkQ 34 (oi := ⟨some 39, .load 62 (.tmp 38), 62, "book.go:259", #[⟨33, .data⟩, ⟨26, .guard⟩], some (26, true)⟩) rfl ?_
  try simp only [Act.put, pA, pB, pC]
  refine rdH (i := 35) rfl (fun K hK => ?_)
  go_simp
  refine (HL.out _ m3).mono ?_
  rintro e w4 ⟨rfl, rfl⟩
  go_wp2_with fail
  refine hK.out _ _ ?_ (fun hHeld => ?_)
  · ((try dsimp only); first | assumption | exact hK5 | exact hK3 | exact hK2 | exact hK0)
  clear hK K
  try simp only [Act.put, pA, pB, pC]
  refine rdH (i := 36) rfl (fun K hK => ?_)
  go_simp
  refine (HR.out _).mono ?_
  rintro e w5 ⟨rfl, hg5⟩
  have m5 := Bm.then m3 hg5
  have hK5 := HK.out _ m5
  go_wp2_with fail
  refine hK.out _ _ ?_ (fun hHeld => ?_)
  · ((try dsimp only); first | assumption | exact hK5 | exact hK3 | exact hK2 | exact hK0)
  clear hK K
  try simp only [Act.put, pA, pB, pC]
  refine tkQ 37 (oi := ⟨some 42, .pick (.tmp 31) (.tmp 41) (.const (.bool false)), 4, "book.go:259", #[⟨26, .data⟩, ⟨36, .data⟩], none⟩) rfl ?_
  try simp only [Act.put, pA, pB, pC]
  refine tkQ 38 (oi := ⟨some 43, .move (.tmp 42), 4, "book.go:259", #[⟨37, .data⟩, ⟨36, .chain⟩], none⟩) rfl ?_
  try simp only [Act.put, pA, pB, pC]
  refine tkQ 39 (oi := ⟨some 44, .move (.tmp 0), 31, "book.go:259", #[⟨38, .guard⟩], some (38, true)⟩) rfl ?_
  try simp only [Act.put, pA, pB, pC]
  refine tkQ 40 (oi := ⟨some 45, .fieldAddr 78 (.tmp 3) 2, 0, "book.go:259", #[⟨38, .guard⟩], some (38, true)⟩) rfl ?_
  try simp only [Act.put, pA, pB, pC]
  refine tkQ 41 (oi := ⟨some 46, .load 2 (.tmp 45), 2, "book.go:259", #[⟨40, .data⟩, ⟨38, .guard⟩], some (38, true)⟩) rfl ?_
  try simp only [Act.put, pA, pB, pC]
  refine rdH (i := 42) rfl (fun K hK => ?_)
  go_simp
  refine (HM.out _ m5).mono ?_
  rintro e w6 ⟨rfl, rfl⟩
  go_wp2_with fail
  refine hK.out _ _ ?_ (fun hHeld => ?_)
  · ((try dsimp only); first | assumption | exact hK5 | exact hK3 | exact hK2 | exact hK0)
  clear hK K
  try simp only [Act.put, pA, pB, pC]
  refine tkQ 43 (oi := ⟨some 48, .pick (.tmp 43) (.tmp 47) (.const (.bool false)), 4, "book.go:259", #[⟨38, .data⟩, ⟨42, .data⟩], none⟩) rfl ?_
  try simp only [Act.put, pA, pB, pC]
  refine tkQ 44 (oi := ⟨some 4, .assign (.tmp 48), 4, "book.go:259", #[⟨43, .data⟩, ⟨42, .chain⟩, ⟨0, .phase⟩, ⟨1, .phase⟩, ⟨2, .phase⟩, ⟨3, .phase⟩, ⟨4, .phase⟩, ⟨5, .phase⟩, ⟨6, .phase⟩, ⟨7, .phase⟩, ⟨8, .phase⟩, ⟨9, .phase⟩, ⟨10, .phase⟩, ⟨11, .phase⟩, ⟨12, .phase⟩, ⟨13, .phase⟩, ⟨14, .phase⟩, ⟨15, .phase⟩, ⟨16, .phase⟩, ⟨17, .phase⟩, ⟨18, .phase⟩, ⟨19, .phase⟩, ⟨20, .phase⟩, ⟨21, .phase⟩, ⟨22, .phase⟩, ⟨23, .phase⟩, ⟨24, .phase⟩, ⟨25, .phase⟩, ⟨26, .phase⟩, ⟨27, .phase⟩, ⟨28, .phase⟩, ⟨29, .phase⟩, ⟨30, .phase⟩, ⟨31, .phase⟩, ⟨32, .phase⟩, ⟨33, .phase⟩, ⟨34, .phase⟩, ⟨35, .phase⟩, ⟨36, .phase⟩, ⟨37, .phase⟩, ⟨38, .phase⟩, ⟨39, .phase⟩, ⟨40, .phase⟩, ⟨41, .phase⟩, ⟨42, .phase⟩, ⟨43, .phase⟩], none⟩) rfl ?_
  try simp only [Act.put, pA, pB, pC]
  refine wpAnyH_done (by kernel_rfl) ?_ _
  go_wp2
  go_ret
  exact ⟨rfl, m5.gr⟩
theorem mayHave_no {w : World} {p : Bp} {S : Sb} {K : Nat} (h : BkAt w p S K) (x : Bw) (hb : ¬ (x.i < S.n ∧ (0 ≤ x.s ∧ x.s < (S.a : Int)) ∧ sat S.L x.s.toNat = none ∧ S.L.length < S.b ∧ (x.u = 0 ∨ (S.t < x.u ∧ x.u ≤ mxC)))) : Calls Tryz.prog 41 #[.pointer (some ⟨p.b, 0, none⟩), bwV x] w fun e w' => e = .returned (.bool false) ∧ w.grownBy w' none := by
  obtain ⟨xi, xs, xu⟩ := x
  simp only at hb
  by_cases h1 : xi < S.n
  · by_cases h2 : 0 ≤ xs ∧ xs < (S.a : Int)
    · cases h3 : sat S.L xs.toNat with
      | some y => exact mayHave_took h xi xs xu h1 h2 (by rw [h3]; rfl)
      | none =>
        by_cases h4 : S.L.length < S.b
        · exact mayHave_til h xi xs xu h1 h2 h3 h4 (fun h5 => hb ⟨h1, h2, h3, h4, h5⟩)
        · exact mayHave_room h xi xs xu h1 h2 h3 (by omega)
    · exact mayHave_seat h xi xs xu h1 h2
  · exact mayHave_id h xi xs xu (by omega)
theorem sat_none' {X : List Bw} {j : Nat} (hj : j < X.length) (_hs : ∀ k, k < j → 0 ≤ (rdw X k).s) (_h0 : 0 ≤ (rdw X j).s) (hn : sat ((X.take j).map Bw.bg) (rdw X j).s.toNat = none) : ∀ k, k < j → (rdw X k).s ≠ (rdw X j).s := by
  intro k hk e
  rw [sat_none] at hn
  refine hn (rdw X k).bg ?_ ?_
  · refine List.mem_map.2 ⟨rdw X k, ?_, rfl⟩
    have : rdw X k = (X.take j)[k]'(by simp; omega) := by unfold rdw; rw [List.getElem?_eq_getElem (by omega)]; simp
    rw [this]; exact List.getElem_mem _
  · simp only [Bw.bg]; rw [e]
theorem sat_none2 {X : List Bw} {j : Nat} (hs : ∀ k, k < j → 0 ≤ (rdw X k).s) (h0 : 0 ≤ (rdw X j).s) (hn : ∀ k, k < j → (rdw X k).s ≠ (rdw X j).s) : sat ((X.take j).map Bw.bg) (rdw X j).s.toNat = none := by
  rw [sat_none]
  intro x hx
  obtain ⟨y, hy, rfl⟩ := List.mem_map.1 hx
  obtain ⟨k, hk, e⟩ := rdw_mem hy
  have hk' : k < j := by simp only [List.length_take] at hk; omega
  rw [rdw_take hk'] at e
  have h1 := hn k hk'; have h2 := hs k hk'
  rw [e] at h1 h2
  simp only [Bw.bg]
  omega
set_option maxRecDepth 20000 in
set_option maxHeartbeats 8000000 in
theorem of_shape {w : World} {v : Value} {a b c t : Int} {n : Nat} {X : List Bw} (h : ¬ Gx.OkS a b c) (hv : BwA w v X) : Calls Tryz.prog 11 #[.agg #[.int .i64 a, .int .i64 b, .int .i64 c], .int .u32 (n : Int), .int .i64 t, v] w fun e w' => e = .returned (.tuple #[.pointer none, .int .i64 90]) ∧ w.grownBy w' none := by
  obtain ⟨vo, cap, rfl, hx⟩ := hv.ex
  have HC1 : Hid (∀ W : World, Calls Tryz.prog 39 #[.agg #[.int .i64 a, .int .i64 b, .int .i64 c]] W fun e w' => e = .returned (.int .i64 90) ∧ W.grownBy w' none) := fun W => Ge.check_no _ _ _ h W
  clear hx hv h
  go_enter Tryz.func11, Tryz.ntmps11
  go_wp2_with fail
  refine (HC1.out _).mono ?_
  rintro e w1 ⟨rfl, hg1⟩
  have HG := hide (grown_trans (grown_alloc w _) hg1)
  clear hg1
  go_wp2
  go_ret2
  exact ⟨rfl, HG.out⟩
set_option maxRecDepth 20000 in
set_option maxHeartbeats 8000000 in
theorem of_head {w : World} {v : Value} {a b c : Int} {n : Nat} {t : Int} {X : List Bw} (h : Gx.OkS a b c) (hb : ¬ (1 ≤ n ∧ 0 ≤ t ∧ t ≤ mxC)) (hv : BwA w v X) : Calls Tryz.prog 11 #[.agg #[.int .i64 a, .int .i64 b, .int .i64 c], .int .u32 (n : Int), .int .i64 t, v] w fun e w' => e = .returned (.tuple #[.pointer none, .int .i64 180]) ∧ w.grownBy w' none := by
  obtain ⟨vo, cap, rfl, hx⟩ := hv.ex
  have HC1 : Hid (∀ W : World, Calls Tryz.prog 39 #[.agg #[.int .i64 a, .int .i64 b, .int .i64 c]] W fun e w' => e = .returned (.int .i64 0) ∧ W.grownBy w' none) := fun W => Ge.check_ok _ _ _ h W
  simp only [mxC] at hb
  clear hx hv h
  by_cases h1 : 1 ≤ n
  · have h1' : ¬ (n : Int) < 1 := by omega
    by_cases h2 : 0 ≤ t
    · have h3 : (1099511627776 : Int) < t := by omega
      have h2' : ¬ t < 0 := by omega
      clear hb h1 h2
      go_enter Tryz.func11, Tryz.ntmps11
      go_wp2_with fail
      refine (HC1.out _).mono ?_
      rintro e w1 ⟨rfl, hg1⟩
      have HG := hide (grown_trans (grown_alloc w _) hg1)
      clear hg1
      go_wp2
      go_ret2
      exact ⟨rfl, HG.out⟩
    · have h2' : t < 0 := by omega
      clear hb h1 h2
      go_enter Tryz.func11, Tryz.ntmps11
      go_wp2_with fail
      refine (HC1.out _).mono ?_
      rintro e w1 ⟨rfl, hg1⟩
      have HG := hide (grown_trans (grown_alloc w _) hg1)
      clear hg1
      go_wp2
      go_ret2
      exact ⟨rfl, HG.out⟩
  · have h1' : (n : Int) < 1 := by omega
    clear hb h1
    go_enter Tryz.func11, Tryz.ntmps11
    go_wp2_with fail
    refine (HC1.out _).mono ?_
    rintro e w1 ⟨rfl, hg1⟩
    have HG := hide (grown_trans (grown_alloc w _) hg1)
    clear hg1
    go_wp2
    go_ret2
    exact ⟨rfl, HG.out⟩
set_option maxRecDepth 20000 in
set_option maxHeartbeats 16000000 in
theorem of_row {w : World} {v : Value} {a b c n : Nat} {t : Int} {X : List Bw} {jb : Nat} (h0 : Sb.Ok ⟨a, b, c, n, t, []⟩) (hv : BwA w v X) (hz : 0 < w.heap.size) (hjb : jb < X.length) (hmay : ∀ k, k < jb → MayJ a b n t X k) (hno : ¬ MayJ a b n t X jb) : Calls Tryz.prog 11 #[limV a b c, .int .u32 (n : Int), .int .i64 t, v] w fun e w' => e = .returned (.tuple #[.pointer none, .int .i64 180]) ∧ w.grownBy w' none := by
  have hok : Gx.OkS a b c := by have h1 := h0.a0; have h2 := h0.a1; have h3 := h0.b0; have h4 := h0.b1; have h5 := h0.c0; have h6 := h0.c1; simp only at h1 h2 h3 h4 h5 h6; unfold Gx.OkS; omega
  obtain ⟨vo, cap, rfl, hx⟩ := hv.ex
  have HC1 : Hid (∀ W : World, Calls Tryz.prog 39 #[.agg #[.int .i64 (a : Int), .int .i64 (b : Int), .int .i64 (c : Int)]] W fun e w' => e = .returned (.int .i64 0) ∧ W.grownBy w' none) := fun W => Ge.check_ok _ _ _ hok W
  have HC2 : Hid (∀ W : World, w.grownBy W none → Calls Tryz.prog 40 #[.agg #[.int .i64 (a : Int), .int .i64 (b : Int), .int .i64 (c : Int)], .int .u32 (n : Int), .int .i64 t] W fun e w' => ∃ x p, e = .returned (.pointer (some ⟨x, 0, none⟩)) ∧ Lk w w' x ⟨a, b, c, n, t, []⟩ 0 p []) := by
    intro W hW
    refine (empty_any a b c n t hok W (by have := hW.size; omega)).mono ?_
    rintro e w' ⟨p, rfl, h1, h2, h3⟩
    exact ⟨p.b, p, rfl, rfl, h1, grown_trans hW h2, fun i hi => Nat.le_trans hW.size (h3 i hi), fun x hx => by cases hx⟩
  have HV := hide hv
  have HOk : Hid (∀ j, j ≤ jb → (sbX a b c n t X j).Ok) := fun j hj => sbX_ok h0 j (by omega) (fun k hk => hmay k (by omega))
  have hn1 : (1 : Int) ≤ (n : Int) := by have := h0.n0; simp only at this; omega
  have ht0 : ¬ t < 0 := by have := h0.t0; simp only at this; omega
  have ht1 : ¬ (1099511627776 : Int) < t := by have := h0.t1; simp only [mxC] at this; omega
  have hN := h0.n1
  simp only at hN
  have hjb4 : jb ≤ 4096 := by
    have hb1 := h0.b1
    simp only at hb1
    by_cases e : jb = 0
    · omega
    · have := (hmay (jb - 1) (by omega)).room; omega
  have HMay : Hid (∀ W x p j, j < jb → Lk w W x (sbX a b c n t X j) j p [] → Calls Tryz.prog 41 #[.pointer (some ⟨x, 0, none⟩), bwV (rdw X j)] W fun e w' => e = .returned (.bool true) ∧ W.grownBy w' none) := by
    intro W x p j hj h
    have hM := hmay j hj
    have hs := hM.s0
    have := mayHave_ok h.bk (rdw X j).bg hM.hi (by have := hM.s1; simp only [sbX, Bw.bg]; omega) (sat_none2 (fun k hk => (hmay k (by omega)).s0) hs hM.one) (by have := hM.room; simp only [sbX, List.length_map, List.length_take]; omega) hM.til
    rw [h.eb] at this
    simp only [bgV, Bw.bg] at this
    rw [Int.toNat_of_nonneg hs] at this
    exact this
  have HNo : Hid (∀ W x p, lst X jb ≤ (rdw X jb).i → Lk w W x (sbX a b c n t X jb) jb p [] → Calls Tryz.prog 41 #[.pointer (some ⟨x, 0, none⟩), bwV (rdw X jb)] W fun e w' => e = .returned (.bool false) ∧ W.grownBy w' none) := by
    intro W x p hl h
    have := mayHave_no h.bk (rdw X jb) (by
      rintro ⟨q1, q2, q3, q4, q5⟩
      refine hno ⟨hl, q1, q2.1, q2.2, ?_, ?_, q5⟩
      · exact sat_none' hjb (fun k hk => (hmay k hk).s0) q2.1 q3
      · simp only [sbX, List.length_map, List.length_take] at q4; omega)
    rw [h.eb] at this
    exact this
  have HAdd : Hid (∀ W x p j Bs, j < jb → Lk w W x (sbX a b c n t X j) j p Bs → Calls Tryz.prog 42 #[.pointer (some ⟨x, 0, none⟩), bwV (rdw X j)] W fun e w' => e = .returned (.tuple #[]) ∧ ∃ q, Lk w w' x (sbX a b c n t X (j + 1)) (j + 1) q Bs) := by
    intro W x p j Bs hj h
    have hM := hmay j hj
    have hs := hM.s0
    have hwk := (HOk.out j (by omega)).wk
    have hO1 := HOk.out (j + 1) (by omega)
    have hroom := hM.room
    have hb1 := h0.b1
    simp only at hb1
    have hi := hM.hi
    have hasc : ∀ y ∈ (sbX a b c n t X j).L, y.i < (rdw X j).bg.i := by
      have h1 := hO1.asc
      simp only [sbX] at h1 ⊢
      rw [take_rdw (by omega), List.map_append] at h1
      intro y hy
      exact (List.pairwise_append.1 h1).2.2 y hy _ (by simp)
    have := add_any h.bk hwk (by omega) (rdw X j).bg (by simp only [Bw.bg]; omega) (by have := hM.s1; simp only [sbX, Bw.bg]; omega) hasc (sat_none2 (fun k hk => (hmay k (by omega)).s0) hs hM.one) (by simp only [sbX, List.length_map, List.length_take]; omega)
    rw [h.eb] at this
    simp only [bgV, Bw.bg] at this
    rw [Int.toNat_of_nonneg hs] at this
    refine this.mono ?_
    rintro e w' ⟨rfl, q, h1, h2⟩
    refine ⟨rfl, q, h.step h2 ?_⟩
    have e1 : (sbX a b c n t X (j + 1)) = { sbX a b c n t X j with L := (sbX a b c n t X j).L ++ [⟨(rdw X j).i, (rdw X j).s.toNat, (rdw X j).u⟩] } := by
      simp only [sbX]; rw [take_rdw (by omega), List.map_append]; rfl
    rw [e1]
    exact h1
  have HI : Hid (∀ j, j < jb → (rdw X j).i < n ∧ lst X j ≤ (rdw X j).i) := fun j hj => ⟨(hmay j hj).hi, (hmay j hj).lo⟩
  have hb0 := heap_alloc_new w (.cells [.int .i64 (a : Int), .int .i64 (b : Int), .int .i64 (c : Int)].toArray 23)
  have HB0 := hide hb0
  clear hok hx hv hz hb0 h0 hmay hno
  unfold limV
  generalize hnn : X.length = m at *
  have HN := hide hnn
  clear hnn
  go_enter Tryz.func11, Tryz.ntmps11
  go_wp2_with fail
  refine (HC1.out _).mono ?_
  rintro e w1 ⟨rfl, hg1⟩
  have hg0 := grown_trans (grown_alloc w _) hg1
  obtain ⟨d0, d1, d2, -⟩ := box3 ((hg1.block _ (row_lt HB0.out) (by simp)).trans HB0.out)
  go_wp2_with fail
  refine (HC2.out _ hg0).mono ?_
  rintro e w2 ⟨x, p, rfl, hh⟩
  have H2 := hide hh
  clear hh d0 d1 d2 hg0 hg1 HC1 HC2 HB0
  go_wp2
  go_loopg [12, 36] m (fun k la i wr => ∃ j : Nat, k + j = m ∧ j ≤ jb ∧ i = .int .i64 j ∧ la = .int .u32 (lst X j : Int) ∧ ∃ q, Hid (Lk w wr x (sbX a b c n t X j) j q []))
  case atStart => exact ⟨0, by omega, by omega, rfl, rfl, _, H2.out⟩
  case round =>
    clear H2
    obtain ⟨j, hkj, hjb2, rfl, rfl, q, HQ⟩ := hrel
    have hj : j < X.length := by rw [HN.out]; omega
    have h1 : (0 : Int) ≤ (j : Int) := by omega
    have h2 : (j : Int) < (m : Int) := by omega
    obtain ⟨ao', cap', he, hx⟩ := (HV.out.then HQ.out.gr).ex
    cases he
    obtain ⟨g, rfl, x0, x1, x2⟩ := hx j hj
    by_cases hlast : j < jb
    · have HM' := hide (fun W h => HMay.out W x q j hlast h)
      have HA' := hide (fun W Bs h => HAdd.out W x q j Bs hlast h)
      obtain ⟨hid, hl1⟩ := HI.out j hlast
      have hid2 : ((rdw X j).i : Int) + 1 < 4294967296 := by omega
      have hl1' : ¬ ((rdw X j).i : Int) < (lst X j : Int) := by omega
      have HLs := hide (lst_asc (X := X) hj)
      generalize hll : lst X j = ll at *
      generalize hl2 : lst X (j + 1) = l2 at *
      obtain ⟨xx, hxx⟩ : ∃ xx, rdw X j = xx := ⟨_, rfl⟩
      rw [hxx] at x0 x1 x2 HM' HA' hid2 hl1' HLs
      obtain ⟨xi, xs, xu⟩ := xx
      simp only [bwV] at x0 x1 x2 HM' HA' hid2 hl1' HLs
      have HL2 := hide hl2
      clear hx hxx hl1 hid hj HMay HAdd HNo HI hll hl2
      go_wp2_with fail
      have HB := hide (HQ.out.box [.int .u32 (xi : Int), .int .i64 xs, .int .i64 xu] 78)
      refine (HM'.out _ HB.out.bare).mono ?_
      rintro e w3 ⟨rfl, hg3⟩
      have h3 := HB.out.then hg3
      have y0 := h3.cell List.mem_cons_self 0 _ rfl
      have y1 := h3.cell List.mem_cons_self 1 _ rfl
      have y2 := h3.cell List.mem_cons_self 2 _ rfl
      have H3 := hide h3
      clear h3 hg3 HB x0 x1 x2 HM' HQ
      go_wp2_with fail
      refine (HA'.out _ _ H3.out).mono ?_
      rintro e w4 ⟨rfl, q4, h4⟩
      have z0 := h4.cell List.mem_cons_self 0 _ rfl
      have H4 := hide h4.bare
      clear h4 H3 y0 y1 y2 HA'
      go_wp2
      go_roundg (gk - 1)
      case measure => omega
      case rel => exact ⟨j + 1, by omega, by omega, by go_num, by rw [HL2.out, HLs.out]; go_num, _, H4.out⟩
    · have hje : j = jb := by omega
      subst hje
      by_cases hlo : lst X j ≤ (rdw X j).i
      · have HM' := hide (fun W h => HNo.out W x q hlo h)
        have hl1' : ¬ ((rdw X j).i : Int) < (lst X j : Int) := by omega
        generalize lst X j = ll at *
        obtain ⟨xx, hxx⟩ : ∃ xx, rdw X j = xx := ⟨_, rfl⟩
        rw [hxx] at x0 x1 x2 HM' hl1'
        obtain ⟨xi, xs, xu⟩ := xx
        simp only [bwV] at x0 x1 x2 HM' hl1'
        clear hx hxx hlo hj HMay HAdd HNo HI
        go_wp2_with fail
        have HB := hide (HQ.out.box [.int .u32 (xi : Int), .int .i64 xs, .int .i64 xu] 78)
        refine (HM'.out _ HB.out.bare).mono ?_
        rintro e w3 ⟨rfl, hg3⟩
        have H3 := hide (HB.out.then hg3)
        clear hg3 HB x0 x1 x2 HM' HQ
        go_wp2
        go_ret2
        exact ⟨rfl, H3.out.gr⟩
      · have hl1' : ((rdw X j).i : Int) < (lst X j : Int) := by omega
        generalize lst X j = ll at *
        obtain ⟨xx, hxx⟩ : ∃ xx, rdw X j = xx := ⟨_, rfl⟩
        rw [hxx] at x0 x1 x2 hl1'
        obtain ⟨xi, xs, xu⟩ := xx
        simp only at x0 x1 x2 hl1'
        clear hx hxx hlo hj HMay HAdd HNo HI
        have HB := hide (HQ.out.box [.int .u32 (xi : Int), .int .i64 xs, .int .i64 xu] 78)
        go_wp2
        go_ret2
        exact ⟨rfl, HB.out.gr⟩
/-- What Of is told of may be. -/
def Right (a b c : Int) (n : Nat) (t : Int) (X : List Bw) : Prop := Gx.OkS a b c ∧ 1 ≤ n ∧ 0 ≤ t ∧ t ≤ mxC ∧ OkX a.toNat b.toNat n t X
theorem Right.ok {a b c : Int} {n : Nat} {t : Int} {X : List Bw} (h : Right a b c n t X) (hn : n < 4294967296) : Sb.Ok ⟨a.toNat, b.toNat, c.toNat, n, t, X.map Bw.bg⟩ := by
  obtain ⟨⟨h1, h2, h3, h4, h5, h6⟩, h7, h8, h9, h10⟩ := h
  have h0 : Sb.Ok ⟨a.toNat, b.toNat, c.toNat, n, t, []⟩ := ⟨by simp only; omega, by simp only; omega, by simp only; omega, by simp only; omega, by simp only; omega, by simp only; omega, h7, hn, h8, h9, List.Pairwise.nil, (fun x hx => by cases hx), (fun x hx => by cases hx), List.Pairwise.nil, (fun x hx => by cases hx), by simp⟩
  have := sbX_ok (X := X) h0 X.length (Nat.le_refl _) h10
  simpa [sbX] using this
theorem Right.nat {a b c : Int} {n : Nat} {t : Int} {X : List Bw} (h : Right a b c n t X) : ((a.toNat : Nat) : Int) = a ∧ ((b.toNat : Nat) : Int) = b ∧ ((c.toNat : Nat) : Int) = c := by
  obtain ⟨⟨h1, h2, h3, h4, h5, h6⟩, _⟩ := h
  omega
theorem first_no {P : Nat → Prop} : ∀ (m : Nat), ¬ (∀ j, j < m → P j) → ∃ j, j < m ∧ (∀ k, k < j → P k) ∧ ¬ P j := by
  intro m
  induction m with
  | zero => intro h; exact absurd (fun j hj => by omega) h
  | succ m ih =>
    intro h
    by_cases hm : ∀ j, j < m → P j
    · exact ⟨m, by omega, hm, fun hp => h (fun j hj => by
        by_cases e : j = m
        · rw [e]; exact hp
        · exact hm j (by omega))⟩
    · obtain ⟨j, h1, h2, h3⟩ := ih hm
      exact ⟨j, by omega, h2, h3⟩
/-- What Of says where it refuses. -/
noncomputable def ofE (a b c : Int) : Int := by classical exact if Gx.OkS a b c then 180 else 90
theorem of_no {w : World} {v : Value} {a b c : Int} {n : Nat} {t : Int} {X : List Bw} (hn : n < 4294967296) (hv : BwA w v X) (hz : 0 < w.heap.size) (h : ¬ Right a b c n t X) : Calls Tryz.prog 11 #[.agg #[.int .i64 a, .int .i64 b, .int .i64 c], .int .u32 (n : Int), .int .i64 t, v] w fun e w' => e = .returned (.tuple #[.pointer none, .int .i64 (ofE a b c)]) ∧ w.grownBy w' none := by
  by_cases h1 : Gx.OkS a b c
  · have e1 : ofE a b c = 180 := by unfold ofE; rw [if_pos h1]
    rw [e1]
    by_cases h2 : 1 ≤ n ∧ 0 ≤ t ∧ t ≤ mxC
    · obtain ⟨q1, q2, q3, q4, q5, q6⟩ := h1
      have h0 : Sb.Ok ⟨a.toNat, b.toNat, c.toNat, n, t, []⟩ := ⟨by simp only; omega, by simp only; omega, by simp only; omega, by simp only; omega, by simp only; omega, by simp only; omega, h2.1, hn, h2.2.1, h2.2.2, List.Pairwise.nil, (fun x hx => by cases hx), (fun x hx => by cases hx), List.Pairwise.nil, (fun x hx => by cases hx), by simp⟩
      have h3 : ¬ OkX a.toNat b.toNat n t X := fun h3 => h ⟨⟨q1, q2, q3, q4, q5, q6⟩, h2.1, h2.2.1, h2.2.2, h3⟩
      obtain ⟨j, hj, hm, hno⟩ := first_no X.length h3
      have := of_row h0 hv hz hj hm hno
      unfold limV at this
      rw [Int.toNat_of_nonneg (show 0 ≤ a by omega), Int.toNat_of_nonneg (show 0 ≤ b by omega), Int.toNat_of_nonneg (show 0 ≤ c by omega)] at this
      exact this
    · exact of_head h1 h2 hv
  · have e1 : ofE a b c = 90 := by unfold ofE; rw [if_neg h1]
    rw [e1]
    exact of_shape h1 hv
theorem of_yes {w : World} {v : Value} {a b c : Int} {n : Nat} {t : Int} {X : List Bw} (hn : n < 4294967296) (hv : BwA w v X) (hz : 0 < w.heap.size) (h : Right a b c n t X) : Calls Tryz.prog 11 #[.agg #[.int .i64 a, .int .i64 b, .int .i64 c], .int .u32 (n : Int), .int .i64 t, v] w fun e w' => ∃ x p, e = .returned (.tuple #[.pointer (some ⟨x, 0, none⟩), .int .i64 0]) ∧ Lk w w' x ⟨a.toNat, b.toNat, c.toNat, n, t, X.map Bw.bg⟩ 4096 p [] := by
  have := of_ok (h.ok hn) (hv.bg (fun i hi => (h.2.2.2.2 i hi).s0)) hz
  obtain ⟨e1, e2, e3⟩ := h.nat
  unfold limV at this
  rw [e1, e2, e3] at this
  exact this
end Go.Proofs.YtcbiloomnkbalaaGreatDoor
