/- Texts joined: Ya, Ca0, Ca1, Cp, BkX, Cs0, Cs1. -/
import Derived.Laws.ResultCell
import Derived.Laws.EntriesVeiled
import Derived.Test.YtjfhilignbeboabGreatDoorJzAa
import Derived.Test.YtjfhilignbeboabGreatDoorJzAl
import Derived.Test.YtjfhilignbeboabGreatDoorJzAb
import Derived.Test.YtjfhilignbeboabGreatDoorJzAi
import Derived.RangeFuncWrites
import Derived.Test.YtjfhilignbeboabGreatDoorJzAh
/- replies: which fields a reply has, what may stand in one. -/
namespace Go.Proofs.YtjfhilignbeboabGreatDoor.Rt
open Go.RowKit
attribute [local go_sem ↓] Go.wp_at_zero Go.wp_at_succ
def ryV (q : Ry) : Value := .agg #[.int .u32 q.t, .int .i64 q.k, .int .i64 q.e, .int .u32 q.i, .int .i64 q.s, .int .i64 q.u, .int .i64 q.c]
/-- The table of fields. -/
def tabN : List Int := [0, 5, 0, 0, 2, 6, 5, 4, 8, 8, 8]
def Tab (w : World) : Prop := ∀ j, j < 11 → w.cell? ⟨1, j, none⟩ = some (.int .u8 (tabN.getD j 0))
theorem Tab.lt {w : World} (h : Tab w) : 0 < w.heap.size := by
  have := h 0 (by decide)
  cases hb : w.heap[1]? with
  | none => simp [World.cell?, hb] at this
  | some o => exact Nat.lt_of_le_of_lt (Nat.zero_le _) (row_lt hb)
theorem Tab.grown {w w' : World} {row : Option Nat} (h : Tab w) (hg : w.grownBy w' row) (hr : row ≠ some 1) : Tab w' := fun j hj => hg.cell (h j hj) (fun e => hr e.symm)
theorem Tab.new {w w' : World} (h : Tab w) (hg : w.grownBy w' none) : Tab w' := h.grown hg (by simp)
/-- Which fields there are, as bits. -/
def fv (k e : Int) : Int := if e = 0 then (if k = 1 ∨ k = 6 then 5 else if k = 4 then 2 else if k = 5 then 6 else if k = 7 then 4 else if k = 8 ∨ k = 9 ∨ k = 10 then 8 else 0) else 0
/-- A reply in a box of the call's own. -/
structure CkS (w wr : World) (q : Ry) : Prop where
  box : wr.heap[w.heap.size]? = some (.cells [Value.int .u32 q.t, .int .i64 q.k, .int .i64 q.e, .int .u32 q.i, .int .i64 q.s, .int .i64 q.u, .int .i64 q.c].toArray 38 (0, 0))
  gr : w.grownBy wr none
theorem CkS.then {w wr wr' : World} {q : Ry} (h : CkS w wr q) (hg : wr.grownBy wr' none) : CkS w wr' q := ⟨(hg.block _ (row_lt h.box) (by simp)).trans h.box, grown_trans h.gr hg⟩
theorem CkS.begin (w : World) (q : Ry) : CkS w (w.alloc (.cells #[.int .u32 q.t, .int .i64 q.k, .int .i64 q.e, .int .u32 q.i, .int .i64 q.s, .int .i64 q.u, .int .i64 q.c] 38)) q := ⟨heap_alloc_new w _, World.grownBy_alloc w _ none⟩
end Go.Proofs.YtjfhilignbeboabGreatDoor.Rt
namespace Go.Proofs.YtjfhilignbeboabGreatDoor
/- What a request comes to, by numbers alone. -/
/-- The reply of a refusal; of a record. -/
def rfY (q : Rs.Rq) (e : Int) : Rt.Ry := ⟨q.t, q.k, e, 0, 0, 0, 0⟩
def rpY (q : Rs.Rq) (r : Rc) : Rt.Ry := ⟨q.t, q.k, 0, if q.k = 1 then r.i else 0, if q.k = 4 then r.s else 0, if q.k = 1 then r.u else if q.k = 7 then r.c else 0, 0⟩
/-- The record of a change. -/
def recQ (S : Sb) (q : Rs.Rq) : Rc :=
  if q.k = 1 then ⟨1, (S.n : Int), q.s, S.t + q.u, 0⟩ else if q.k = 2 then ⟨2, q.i, 0, 0, 0⟩ else if q.k = 3 then ⟨3, q.i, 0, 0, 0⟩ else if q.k = 4 then ⟨4, q.i, q.s, 0, 0⟩ else ⟨5, 0, 0, 0, S.t + q.u⟩
def mxT : Int := 1073741824
/-- What a check of the ttl, of the room answers. -/
def ttE (q : Rs.Rq) : Int := if 1 ≤ q.u ∧ q.u ≤ mxT then 0 else 2
def lgE (room k : Int) : Int := if room < 22 + (sz k : Int) then 220 else 0
end Go.Proofs.YtjfhilignbeboabGreatDoor
namespace Go.Proofs.YtjfhilignbeboabGreatDoor
/- Boxes of five and seven cells; a matter. -/
open Go.RowKit
attribute [local go_sem ↓] Go.wp_at_zero Go.wp_at_succ
attribute [local go_sem] Oper.semAt_some
/-- Facts of a box of five, of seven. -/
theorem bx5 {w : World} {g : Nat} {t : TypeId} {x y z u v : Value} (h : w.heap[g]? = some (.cells [x, y, z, u, v].toArray t (0, 0))) : w.cell? ⟨g, 0, none⟩ = some x ∧ w.cell? ⟨g, 1, none⟩ = some y ∧ w.cell? ⟨g, 2, none⟩ = some z ∧ w.cell? ⟨g, 3, none⟩ = some u ∧ w.cell? ⟨g, 4, none⟩ = some v :=
  ⟨by rw [cell_row h]; rfl, by rw [cell_row h]; rfl, by rw [cell_row h]; rfl, by rw [cell_row h]; rfl, by rw [cell_row h]; rfl⟩
theorem bx7 {w : World} {g : Nat} {t : TypeId} {a b c d e f k : Value} (h : w.heap[g]? = some (.cells [a, b, c, d, e, f, k].toArray t (0, 0))) : w.cell? ⟨g, 0, none⟩ = some a ∧ w.cell? ⟨g, 1, none⟩ = some b ∧ w.cell? ⟨g, 2, none⟩ = some c ∧ w.cell? ⟨g, 3, none⟩ = some d ∧ w.cell? ⟨g, 4, none⟩ = some e ∧ w.cell? ⟨g, 5, none⟩ = some f ∧ w.cell? ⟨g, 6, none⟩ = some k :=
  ⟨by rw [cell_row h]; rfl, by rw [cell_row h]; rfl, by rw [cell_row h]; rfl, by rw [cell_row h]; rfl, by rw [cell_row h]; rfl, by rw [cell_row h]; rfl, by rw [cell_row h]; rfl⟩
theorem set5w (w : World) {g : Nat} {t : TypeId} {l : List Value} (hl : l.length = 5) (h : w.heap[g]? = some (.cells l.toArray t (0, 0))) (a b c d e : Value) :
    (((((w.setCell ⟨g, 0, none⟩ a).setCell ⟨g, 1, none⟩ b).setCell ⟨g, 2, none⟩ c).setCell ⟨g, 3, none⟩ d).setCell ⟨g, 4, none⟩ e).heap[g]? = some (.cells [a, b, c, d, e].toArray t (0, 0)) ∧ w.grownBy (((((w.setCell ⟨g, 0, none⟩ a).setCell ⟨g, 1, none⟩ b).setCell ⟨g, 2, none⟩ c).setCell ⟨g, 3, none⟩ d).setCell ⟨g, 4, none⟩ e) (some g) := by
  match l, hl with
  | [x0, x1, x2, x3, x4], _ =>
    exact ⟨row_setCell (row_setCell (row_setCell (row_setCell (row_setCell h 0 a) 1 b) 2 c) 3 d) 4 e, grown_trans (grown_trans (grown_trans (grown_trans (grown_setCell w g 0 a) (grown_setCell _ g 1 b)) (grown_setCell _ g 2 c)) (grown_setCell _ g 3 d)) (grown_setCell _ g 4 e)⟩
theorem set7w (w : World) {g : Nat} {t : TypeId} {l : List Value} (hl : l.length = 7) (h : w.heap[g]? = some (.cells l.toArray t (0, 0))) (a b c d e f k : Value) :
    (((((((w.setCell ⟨g, 0, none⟩ a).setCell ⟨g, 1, none⟩ b).setCell ⟨g, 2, none⟩ c).setCell ⟨g, 3, none⟩ d).setCell ⟨g, 4, none⟩ e).setCell ⟨g, 5, none⟩ f).setCell ⟨g, 6, none⟩ k).heap[g]? = some (.cells [a, b, c, d, e, f, k].toArray t (0, 0)) ∧ w.grownBy (((((((w.setCell ⟨g, 0, none⟩ a).setCell ⟨g, 1, none⟩ b).setCell ⟨g, 2, none⟩ c).setCell ⟨g, 3, none⟩ d).setCell ⟨g, 4, none⟩ e).setCell ⟨g, 5, none⟩ f).setCell ⟨g, 6, none⟩ k) (some g) := by
  match l, hl with
  | [x0, x1, x2, x3, x4, x5, x6], _ =>
    exact ⟨row_setCell (row_setCell (row_setCell (row_setCell (row_setCell (row_setCell (row_setCell h 0 a) 1 b) 2 c) 3 d) 4 e) 5 f) 6 k, grown_trans (grown_trans (grown_trans (grown_trans (grown_trans (grown_trans (grown_setCell w g 0 a) (grown_setCell _ g 1 b)) (grown_setCell _ g 2 c)) (grown_setCell _ g 3 d)) (grown_setCell _ g 4 e)) (grown_setCell _ g 5 f)) (grown_setCell _ g 6 k)⟩
/-- What is decided: a change, the book, the room. -/
def maV (b : Nat) (room : Int) (q : Rs.Rq) : Value := .agg #[.pointer (some ⟨b, 0, none⟩), .int .i64 room, .int .i64 q.k, .int .u32 q.t, .int .u32 q.i, .int .i64 q.s, .int .i64 q.u]
def maC (b : Nat) (room : Int) (q : Rs.Rq) : List Value := [.pointer (some ⟨b, 0, none⟩), .int .i64 room, .int .i64 q.k, .int .u32 q.t, .int .u32 q.i, .int .i64 q.s, .int .i64 q.u]
theorem new2 (w : World) (o o2 : Obj) : ((w.alloc o).alloc o2).heap[w.heap.size + 1]? = some o2 := by
  have := heap_alloc_new (w.alloc o) o2
  rw [show (w.alloc o).heap.size = w.heap.size + 1 from by show (w.heap.push o).size = _; simp] at this
  exact this
theorem new2a (w : World) (o o2 : Obj) : ((w.alloc o).alloc o2).heap[w.heap.size]? = some o := ((grown_alloc (w.alloc o) o2).block _ (row_lt (heap_alloc_new w o)) (by simp)).trans (heap_alloc_new w o)
theorem new3 (w : World) (o o2 o3 : Obj) : (((w.alloc o).alloc o2).alloc o3).heap[w.heap.size + 2]? = some o3 := by
  have := heap_alloc_new ((w.alloc o).alloc o2) o3
  rw [show ((w.alloc o).alloc o2).heap.size = w.heap.size + 2 from by show ((w.heap.push o).push o2).size = _; simp] at this
  exact this
theorem grown_alloc2 (w : World) (o o2 : Obj) : w.grownBy ((w.alloc o).alloc o2) none := grown_trans (grown_alloc w o) (grown_alloc _ o2)
theorem grown_alloc3 (w : World) (o o2 o3 : Obj) : w.grownBy (((w.alloc o).alloc o2).alloc o3) none := grown_trans (grown_alloc2 w o o2) (grown_alloc _ o3)
theorem new34 (w : World) (o o2 o3 o4 : Obj) : ((((w.alloc o).alloc o2).alloc o3).alloc o4).heap[w.heap.size + 1 + 1]? = some o3 := ((grown_alloc _ o4).block _ (row_lt (new3 w o o2 o3)) (by simp)).trans (new3 w o o2 o3)
theorem drew_at {W : World} {g : Nat} {o : Obj} (h : W.heap[g]? = some o) : W.drew.heap[g]? = some o := ((grown_drew W none).block _ (row_lt h) (by simp)).trans h
theorem grown_alloc4 (w : World) (o o2 o3 o4 : Obj) : w.grownBy ((((w.alloc o).alloc o2).alloc o3).alloc o4) none := grown_trans (grown_alloc3 w o o2 o3) (grown_alloc _ o4)
theorem new13 (w : World) (o o2 o3 : Obj) : (((w.alloc o).alloc o2).alloc o3).heap[w.heap.size]? = some o := ((grown_alloc _ o3).block _ (row_lt (new2a w o o2)) (by simp)).trans (new2a w o o2)
theorem new23 (w : World) (o o2 o3 : Obj) : (((w.alloc o).alloc o2).alloc o3).heap[w.heap.size + 1]? = some o2 := ((grown_alloc _ o3).block _ (row_lt (new2 w o o2)) (by simp)).trans (new2 w o o2)
theorem bxf5 {w : World} {g : Nat} {t : TypeId} {x y z u v : Value} (h : w.heap[g]? = some (.cells [x, y, z, u, v].toArray t (0, 0))) : (w.cell? ⟨g, 0, none⟩ = some x ∧ w.cell? ⟨g, 1, none⟩ = some y ∧ w.cell? ⟨g, 2, none⟩ = some z ∧ w.cell? ⟨g, 3, none⟩ = some u ∧ w.cell? ⟨g, 4, none⟩ = some v) ∧ ∀ j, w.frozen? ⟨g, j, none⟩ = false := ⟨bx5 h, fun j => free_row h j⟩
theorem bxf7 {w : World} {g : Nat} {t : TypeId} {a b c d e f k : Value} (h : w.heap[g]? = some (.cells [a, b, c, d, e, f, k].toArray t (0, 0))) : (w.cell? ⟨g, 0, none⟩ = some a ∧ w.cell? ⟨g, 1, none⟩ = some b ∧ w.cell? ⟨g, 2, none⟩ = some c ∧ w.cell? ⟨g, 3, none⟩ = some d ∧ w.cell? ⟨g, 4, none⟩ = some e ∧ w.cell? ⟨g, 5, none⟩ = some f ∧ w.cell? ⟨g, 6, none⟩ = some k) ∧ ∀ j, w.frozen? ⟨g, j, none⟩ = false := ⟨bx7 h, fun j => free_row h j⟩
theorem box_to {w w' : World} {g : Nat} {o : Obj} (h : w.heap[g]? = some o) (k : w.grownBy w' none) : w'.heap[g]? = some o := (k.block _ (row_lt h) (by simp)).trans h
theorem gn_own {w W W' : World} {g : Nat} (h : w.grownBy W none) (k : W.grownBy W' (some g)) (hg : w.heap.size ≤ g) : w.grownBy W' none := grown_then h k (fun j e => .inl (by cases e; exact hg))
theorem ma_set5 {W : World} {g h : Nat} {c0 c1 c2 c3 c4 c5 c6 : Value} (hh : W.cell? ⟨g, 0, none⟩ = some c0 ∧ W.cell? ⟨g, 1, none⟩ = some c1 ∧ W.cell? ⟨g, 2, none⟩ = some c2 ∧ W.cell? ⟨g, 3, none⟩ = some c3 ∧ W.cell? ⟨g, 4, none⟩ = some c4 ∧ W.cell? ⟨g, 5, none⟩ = some c5 ∧ W.cell? ⟨g, 6, none⟩ = some c6) (hne : h ≠ g) (a b c d e : Value) : (((((W.setCell ⟨h, 0, none⟩ a).setCell ⟨h, 1, none⟩ b).setCell ⟨h, 2, none⟩ c).setCell ⟨h, 3, none⟩ d).setCell ⟨h, 4, none⟩ e).cell? ⟨g, 0, none⟩ = some c0 ∧ (((((W.setCell ⟨h, 0, none⟩ a).setCell ⟨h, 1, none⟩ b).setCell ⟨h, 2, none⟩ c).setCell ⟨h, 3, none⟩ d).setCell ⟨h, 4, none⟩ e).cell? ⟨g, 1, none⟩ = some c1 ∧ (((((W.setCell ⟨h, 0, none⟩ a).setCell ⟨h, 1, none⟩ b).setCell ⟨h, 2, none⟩ c).setCell ⟨h, 3, none⟩ d).setCell ⟨h, 4, none⟩ e).cell? ⟨g, 2, none⟩ = some c2 ∧ (((((W.setCell ⟨h, 0, none⟩ a).setCell ⟨h, 1, none⟩ b).setCell ⟨h, 2, none⟩ c).setCell ⟨h, 3, none⟩ d).setCell ⟨h, 4, none⟩ e).cell? ⟨g, 3, none⟩ = some c3 ∧ (((((W.setCell ⟨h, 0, none⟩ a).setCell ⟨h, 1, none⟩ b).setCell ⟨h, 2, none⟩ c).setCell ⟨h, 3, none⟩ d).setCell ⟨h, 4, none⟩ e).cell? ⟨g, 4, none⟩ = some c4 ∧ (((((W.setCell ⟨h, 0, none⟩ a).setCell ⟨h, 1, none⟩ b).setCell ⟨h, 2, none⟩ c).setCell ⟨h, 3, none⟩ d).setCell ⟨h, 4, none⟩ e).cell? ⟨g, 5, none⟩ = some c5 ∧ (((((W.setCell ⟨h, 0, none⟩ a).setCell ⟨h, 1, none⟩ b).setCell ⟨h, 2, none⟩ c).setCell ⟨h, 3, none⟩ d).setCell ⟨h, 4, none⟩ e).cell? ⟨g, 6, none⟩ = some c6 := by
  have k : W.grownBy (((((W.setCell ⟨h, 0, none⟩ a).setCell ⟨h, 1, none⟩ b).setCell ⟨h, 2, none⟩ c).setCell ⟨h, 3, none⟩ d).setCell ⟨h, 4, none⟩ e) (some h) := grown_trans (grown_trans (grown_trans (grown_trans (grown_setCell W h 0 a) (grown_setCell _ h 1 b)) (grown_setCell _ h 2 c)) (grown_setCell _ h 3 d)) (grown_setCell _ h 4 e)
  have n : ¬ some g = some h := fun x => hne (Option.some.inj x).symm
  exact ⟨k.cell hh.1 n, k.cell hh.2.1 n, k.cell hh.2.2.1 n, k.cell hh.2.2.2.1 n, k.cell hh.2.2.2.2.1 n, k.cell hh.2.2.2.2.2.1 n, k.cell hh.2.2.2.2.2.2 n⟩
theorem s10_set5 {W : World} {g l h : Nat} {c0 c1 c2 c3 c4 e0 e1 e2 e3 e4 : Value} (hh : W.cell? ⟨g, 0, none⟩ = some c0 ∧ W.cell? ⟨g, 1, none⟩ = some c1 ∧ W.cell? ⟨g, 2, none⟩ = some c2 ∧ W.cell? ⟨g, 3, none⟩ = some c3 ∧ W.cell? ⟨g, 4, none⟩ = some c4 ∧ W.cell? ⟨l, 0, none⟩ = some e0 ∧ W.cell? ⟨l, 1, none⟩ = some e1 ∧ W.cell? ⟨l, 2, none⟩ = some e2 ∧ W.cell? ⟨l, 3, none⟩ = some e3 ∧ W.cell? ⟨l, 4, none⟩ = some e4) (hne : h ≠ g) (hne2 : h ≠ l) (x0 x1 x2 x3 x4 : Value) : (((((W.setCell ⟨h, 0, none⟩ x0).setCell ⟨h, 1, none⟩ x1).setCell ⟨h, 2, none⟩ x2).setCell ⟨h, 3, none⟩ x3).setCell ⟨h, 4, none⟩ x4).cell? ⟨g, 0, none⟩ = some c0 ∧ (((((W.setCell ⟨h, 0, none⟩ x0).setCell ⟨h, 1, none⟩ x1).setCell ⟨h, 2, none⟩ x2).setCell ⟨h, 3, none⟩ x3).setCell ⟨h, 4, none⟩ x4).cell? ⟨g, 1, none⟩ = some c1 ∧ (((((W.setCell ⟨h, 0, none⟩ x0).setCell ⟨h, 1, none⟩ x1).setCell ⟨h, 2, none⟩ x2).setCell ⟨h, 3, none⟩ x3).setCell ⟨h, 4, none⟩ x4).cell? ⟨g, 2, none⟩ = some c2 ∧ (((((W.setCell ⟨h, 0, none⟩ x0).setCell ⟨h, 1, none⟩ x1).setCell ⟨h, 2, none⟩ x2).setCell ⟨h, 3, none⟩ x3).setCell ⟨h, 4, none⟩ x4).cell? ⟨g, 3, none⟩ = some c3 ∧ (((((W.setCell ⟨h, 0, none⟩ x0).setCell ⟨h, 1, none⟩ x1).setCell ⟨h, 2, none⟩ x2).setCell ⟨h, 3, none⟩ x3).setCell ⟨h, 4, none⟩ x4).cell? ⟨g, 4, none⟩ = some c4 ∧ (((((W.setCell ⟨h, 0, none⟩ x0).setCell ⟨h, 1, none⟩ x1).setCell ⟨h, 2, none⟩ x2).setCell ⟨h, 3, none⟩ x3).setCell ⟨h, 4, none⟩ x4).cell? ⟨l, 0, none⟩ = some e0 ∧ (((((W.setCell ⟨h, 0, none⟩ x0).setCell ⟨h, 1, none⟩ x1).setCell ⟨h, 2, none⟩ x2).setCell ⟨h, 3, none⟩ x3).setCell ⟨h, 4, none⟩ x4).cell? ⟨l, 1, none⟩ = some e1 ∧ (((((W.setCell ⟨h, 0, none⟩ x0).setCell ⟨h, 1, none⟩ x1).setCell ⟨h, 2, none⟩ x2).setCell ⟨h, 3, none⟩ x3).setCell ⟨h, 4, none⟩ x4).cell? ⟨l, 2, none⟩ = some e2 ∧ (((((W.setCell ⟨h, 0, none⟩ x0).setCell ⟨h, 1, none⟩ x1).setCell ⟨h, 2, none⟩ x2).setCell ⟨h, 3, none⟩ x3).setCell ⟨h, 4, none⟩ x4).cell? ⟨l, 3, none⟩ = some e3 ∧ (((((W.setCell ⟨h, 0, none⟩ x0).setCell ⟨h, 1, none⟩ x1).setCell ⟨h, 2, none⟩ x2).setCell ⟨h, 3, none⟩ x3).setCell ⟨h, 4, none⟩ x4).cell? ⟨l, 4, none⟩ = some e4 := by
  have k : W.grownBy (((((W.setCell ⟨h, 0, none⟩ x0).setCell ⟨h, 1, none⟩ x1).setCell ⟨h, 2, none⟩ x2).setCell ⟨h, 3, none⟩ x3).setCell ⟨h, 4, none⟩ x4) (some h) := grown_trans (grown_trans (grown_trans (grown_trans (grown_setCell W h 0 x0) (grown_setCell _ h 1 x1)) (grown_setCell _ h 2 x2)) (grown_setCell _ h 3 x3)) (grown_setCell _ h 4 x4)
  have n1 : ¬ some g = some h := fun x => hne (Option.some.inj x).symm
  have n2 : ¬ some l = some h := fun x => hne2 (Option.some.inj x).symm
  exact ⟨k.cell hh.1 n1, k.cell hh.2.1 n1, k.cell hh.2.2.1 n1, k.cell hh.2.2.2.1 n1, k.cell hh.2.2.2.2.1 n1, k.cell hh.2.2.2.2.2.1 n2, k.cell hh.2.2.2.2.2.2.1 n2, k.cell hh.2.2.2.2.2.2.2.1 n2, k.cell hh.2.2.2.2.2.2.2.2.1 n2, k.cell hh.2.2.2.2.2.2.2.2.2 n2⟩
theorem s10_set7 {W : World} {g l h : Nat} {c0 c1 c2 c3 c4 e0 e1 e2 e3 e4 : Value} (hh : W.cell? ⟨g, 0, none⟩ = some c0 ∧ W.cell? ⟨g, 1, none⟩ = some c1 ∧ W.cell? ⟨g, 2, none⟩ = some c2 ∧ W.cell? ⟨g, 3, none⟩ = some c3 ∧ W.cell? ⟨g, 4, none⟩ = some c4 ∧ W.cell? ⟨l, 0, none⟩ = some e0 ∧ W.cell? ⟨l, 1, none⟩ = some e1 ∧ W.cell? ⟨l, 2, none⟩ = some e2 ∧ W.cell? ⟨l, 3, none⟩ = some e3 ∧ W.cell? ⟨l, 4, none⟩ = some e4) (hne : h ≠ g) (hne2 : h ≠ l) (x0 x1 x2 x3 x4 x5 x6 : Value) : (((((((W.setCell ⟨h, 0, none⟩ x0).setCell ⟨h, 1, none⟩ x1).setCell ⟨h, 2, none⟩ x2).setCell ⟨h, 3, none⟩ x3).setCell ⟨h, 4, none⟩ x4).setCell ⟨h, 5, none⟩ x5).setCell ⟨h, 6, none⟩ x6).cell? ⟨g, 0, none⟩ = some c0 ∧ (((((((W.setCell ⟨h, 0, none⟩ x0).setCell ⟨h, 1, none⟩ x1).setCell ⟨h, 2, none⟩ x2).setCell ⟨h, 3, none⟩ x3).setCell ⟨h, 4, none⟩ x4).setCell ⟨h, 5, none⟩ x5).setCell ⟨h, 6, none⟩ x6).cell? ⟨g, 1, none⟩ = some c1 ∧ (((((((W.setCell ⟨h, 0, none⟩ x0).setCell ⟨h, 1, none⟩ x1).setCell ⟨h, 2, none⟩ x2).setCell ⟨h, 3, none⟩ x3).setCell ⟨h, 4, none⟩ x4).setCell ⟨h, 5, none⟩ x5).setCell ⟨h, 6, none⟩ x6).cell? ⟨g, 2, none⟩ = some c2 ∧ (((((((W.setCell ⟨h, 0, none⟩ x0).setCell ⟨h, 1, none⟩ x1).setCell ⟨h, 2, none⟩ x2).setCell ⟨h, 3, none⟩ x3).setCell ⟨h, 4, none⟩ x4).setCell ⟨h, 5, none⟩ x5).setCell ⟨h, 6, none⟩ x6).cell? ⟨g, 3, none⟩ = some c3 ∧ (((((((W.setCell ⟨h, 0, none⟩ x0).setCell ⟨h, 1, none⟩ x1).setCell ⟨h, 2, none⟩ x2).setCell ⟨h, 3, none⟩ x3).setCell ⟨h, 4, none⟩ x4).setCell ⟨h, 5, none⟩ x5).setCell ⟨h, 6, none⟩ x6).cell? ⟨g, 4, none⟩ = some c4 ∧ (((((((W.setCell ⟨h, 0, none⟩ x0).setCell ⟨h, 1, none⟩ x1).setCell ⟨h, 2, none⟩ x2).setCell ⟨h, 3, none⟩ x3).setCell ⟨h, 4, none⟩ x4).setCell ⟨h, 5, none⟩ x5).setCell ⟨h, 6, none⟩ x6).cell? ⟨l, 0, none⟩ = some e0 ∧ (((((((W.setCell ⟨h, 0, none⟩ x0).setCell ⟨h, 1, none⟩ x1).setCell ⟨h, 2, none⟩ x2).setCell ⟨h, 3, none⟩ x3).setCell ⟨h, 4, none⟩ x4).setCell ⟨h, 5, none⟩ x5).setCell ⟨h, 6, none⟩ x6).cell? ⟨l, 1, none⟩ = some e1 ∧ (((((((W.setCell ⟨h, 0, none⟩ x0).setCell ⟨h, 1, none⟩ x1).setCell ⟨h, 2, none⟩ x2).setCell ⟨h, 3, none⟩ x3).setCell ⟨h, 4, none⟩ x4).setCell ⟨h, 5, none⟩ x5).setCell ⟨h, 6, none⟩ x6).cell? ⟨l, 2, none⟩ = some e2 ∧ (((((((W.setCell ⟨h, 0, none⟩ x0).setCell ⟨h, 1, none⟩ x1).setCell ⟨h, 2, none⟩ x2).setCell ⟨h, 3, none⟩ x3).setCell ⟨h, 4, none⟩ x4).setCell ⟨h, 5, none⟩ x5).setCell ⟨h, 6, none⟩ x6).cell? ⟨l, 3, none⟩ = some e3 ∧ (((((((W.setCell ⟨h, 0, none⟩ x0).setCell ⟨h, 1, none⟩ x1).setCell ⟨h, 2, none⟩ x2).setCell ⟨h, 3, none⟩ x3).setCell ⟨h, 4, none⟩ x4).setCell ⟨h, 5, none⟩ x5).setCell ⟨h, 6, none⟩ x6).cell? ⟨l, 4, none⟩ = some e4 := by
  have k : W.grownBy (((((((W.setCell ⟨h, 0, none⟩ x0).setCell ⟨h, 1, none⟩ x1).setCell ⟨h, 2, none⟩ x2).setCell ⟨h, 3, none⟩ x3).setCell ⟨h, 4, none⟩ x4).setCell ⟨h, 5, none⟩ x5).setCell ⟨h, 6, none⟩ x6) (some h) := grown_trans (grown_trans (grown_trans (grown_trans (grown_trans (grown_trans (grown_setCell W h 0 x0) (grown_setCell _ h 1 x1)) (grown_setCell _ h 2 x2)) (grown_setCell _ h 3 x3)) (grown_setCell _ h 4 x4)) (grown_setCell _ h 5 x5)) (grown_setCell _ h 6 x6)
  have n1 : ¬ some g = some h := fun x => hne (Option.some.inj x).symm
  have n2 : ¬ some l = some h := fun x => hne2 (Option.some.inj x).symm
  exact ⟨k.cell hh.1 n1, k.cell hh.2.1 n1, k.cell hh.2.2.1 n1, k.cell hh.2.2.2.1 n1, k.cell hh.2.2.2.2.1 n1, k.cell hh.2.2.2.2.2.1 n2, k.cell hh.2.2.2.2.2.2.1 n2, k.cell hh.2.2.2.2.2.2.2.1 n2, k.cell hh.2.2.2.2.2.2.2.2.1 n2, k.cell hh.2.2.2.2.2.2.2.2.2 n2⟩
theorem s10_of {W : World} {g l : Nat} {s t : TypeId} {c0 c1 c2 c3 c4 e0 e1 e2 e3 e4 : Value} (h1 : W.heap[g]? = some (.cells [c0, c1, c2, c3, c4].toArray s (0, 0))) (h2 : W.heap[l]? = some (.cells [e0, e1, e2, e3, e4].toArray t (0, 0))) : W.cell? ⟨g, 0, none⟩ = some c0 ∧ W.cell? ⟨g, 1, none⟩ = some c1 ∧ W.cell? ⟨g, 2, none⟩ = some c2 ∧ W.cell? ⟨g, 3, none⟩ = some c3 ∧ W.cell? ⟨g, 4, none⟩ = some c4 ∧ W.cell? ⟨l, 0, none⟩ = some e0 ∧ W.cell? ⟨l, 1, none⟩ = some e1 ∧ W.cell? ⟨l, 2, none⟩ = some e2 ∧ W.cell? ⟨l, 3, none⟩ = some e3 ∧ W.cell? ⟨l, 4, none⟩ = some e4 := by
  obtain ⟨a0, a1, a2, a3, a4⟩ := bx5 h1
  obtain ⟨b0, b1, b2, b3, b4⟩ := bx5 h2
  exact ⟨a0, a1, a2, a3, a4, b0, b1, b2, b3, b4⟩
end Go.Proofs.YtjfhilignbeboabGreatDoor
namespace Go.Proofs.YtjfhilignbeboabGreatDoor
/- cases: what does not ask the book. -/
open Go.RowKit
attribute [local go_sem ↓] Go.wp_at_zero Go.wp_at_succ
attribute [local go_sem] Oper.semAt_some
set_option maxHeartbeats 2000000 in
theorem fsize_any (n : Nat) (h : n ≤ 32) (w : World) : Calls Tryz.prog 115 #[.int .i64 (n : Int)] w fun e w' => e = .returned (.int .i64 (22 + (n : Int))) ∧ w' = w := by
  have h1 : (0 : Int) ≤ (n : Int) := by omega
  have h2 : (n : Int) ≤ 32 := by omega
  clear h
  go_enter Tryz.func115, Tryz.ntmps115
  go_wp2
  go_ret
  refine ⟨?_, rfl⟩
  go_num
set_option maxHeartbeats 2000000 in
theorem ttl_any (b : Nat) (room : Int) (q : Rs.Rq) (w : World) : Calls Tryz.prog 89 #[maV b room q] w fun e w' => e = .returned (.int .i64 (ttE q)) ∧ w.grownBy w' none := by
  have hG := hide (grown_alloc w (.cells (maC b room q).toArray 106))
  unfold maV ttE mxT
  unfold maC at hG
  rcases (show q.u < 1 ∨ (1 ≤ q.u ∧ q.u ≤ 1073741824) ∨ (1 ≤ q.u ∧ 1073741824 < q.u) by omega) with h | ⟨h, h2⟩ | ⟨h, h2⟩
  · rw [if_neg (by omega)]
    go_enter Tryz.func89, Tryz.ntmps89
    go_wp2
    go_ret
    exact ⟨rfl, hG.out⟩
  · rw [if_pos (by omega)]
    go_enter Tryz.func89, Tryz.ntmps89
    go_wp2
    go_ret
    exact ⟨rfl, hG.out⟩
  · rw [if_neg (by omega)]
    go_enter Tryz.func89, Tryz.ntmps89
    go_wp2
    go_ret
    exact ⟨rfl, hG.out⟩
set_option maxHeartbeats 2000000 in
theorem refusal_any (q : Rs.Rq) (e : Int) (w : World) : Calls Tryz.prog 47 #[Rs.rqV q, .int .i64 e] w fun r w' => r = .returned (Rt.ryV (rfY q e)) ∧ w.grownBy w' none := by
  unfold Rs.rqV Rt.ryV rfY
  go_enter Tryz.func47, Tryz.ntmps47
  go_wp2
  exact bodyPost_ret (results_cell_row rfl _ _ (w.heap.size + 1) 38 _ (0, 0) _ rfl (new2 w _ _) Tryz.underlying38 rfl (by kernel_rfl)) rfl ⟨rfl, grown_alloc2 w _ _⟩
set_option maxHeartbeats 4000000 in
theorem reply_any (q : Rs.Rq) (r : Rc) (w : World) : Calls Tryz.prog 48 #[Rs.rqV q, Rk.rcV r] w fun e w' => e = .returned (Rt.ryV (rpY q r)) ∧ w.grownBy w' none := by
  unfold Rs.rqV Rt.ryV rpY Rk.rcV
  obtain ⟨k, t, i, s, u⟩ := q
  simp only
  rcases (show k = 1 ∨ k = 4 ∨ k = 7 ∨ (k ≠ 1 ∧ k ≠ 4 ∧ k ≠ 7) by omega) with rfl | rfl | rfl | ⟨h1, h2, h3⟩
  · simp only [if_true, if_false, show ((1 : Int) = 4) = False from by decide, show ((1 : Int) = 7) = False from by decide]
    go_enter Tryz.func48, Tryz.ntmps48
    go_wp2
    (try go_region)
    all_goals (try go_wp2)
    all_goals first
      | exact bodyPost_ret (results_cell_row rfl _ _ (w.heap.size + 1 + 1) 38 _ (0, 0) _ rfl (drew_at (new34 w _ _ _ _)) Tryz.underlying38 rfl (by kernel_rfl)) rfl ⟨rfl, grown_trans (grown_alloc4 w _ _ _ _) (grown_drew _ none)⟩
      | exact bodyPost_ret (results_cell_row rfl _ _ (w.heap.size + 1 + 1) 38 _ (0, 0) _ rfl (new34 w _ _ _ _) Tryz.underlying38 rfl (by kernel_rfl)) rfl ⟨rfl, grown_alloc4 w _ _ _ _⟩
  · simp only [if_true, if_false, show ((4 : Int) = 1) = False from by decide, show ((4 : Int) = 7) = False from by decide]
    go_enter Tryz.func48, Tryz.ntmps48
    go_wp2
    (try go_region)
    all_goals (try go_wp2)
    all_goals first
      | exact bodyPost_ret (results_cell_row rfl _ _ (w.heap.size + 1 + 1) 38 _ (0, 0) _ rfl (drew_at (new34 w _ _ _ _)) Tryz.underlying38 rfl (by kernel_rfl)) rfl ⟨rfl, grown_trans (grown_alloc4 w _ _ _ _) (grown_drew _ none)⟩
      | exact bodyPost_ret (results_cell_row rfl _ _ (w.heap.size + 1 + 1) 38 _ (0, 0) _ rfl (new34 w _ _ _ _) Tryz.underlying38 rfl (by kernel_rfl)) rfl ⟨rfl, grown_alloc4 w _ _ _ _⟩
  · simp only [if_true, if_false, show ((7 : Int) = 1) = False from by decide, show ((7 : Int) = 4) = False from by decide]
    go_enter Tryz.func48, Tryz.ntmps48
    go_wp2
    (try go_region)
    all_goals (try go_wp2)
    all_goals first
      | exact bodyPost_ret (results_cell_row rfl _ _ (w.heap.size + 1 + 1) 38 _ (0, 0) _ rfl (drew_at (new34 w _ _ _ _)) Tryz.underlying38 rfl (by kernel_rfl)) rfl ⟨rfl, grown_trans (grown_alloc4 w _ _ _ _) (grown_drew _ none)⟩
      | exact bodyPost_ret (results_cell_row rfl _ _ (w.heap.size + 1 + 1) 38 _ (0, 0) _ rfl (new34 w _ _ _ _) Tryz.underlying38 rfl (by kernel_rfl)) rfl ⟨rfl, grown_alloc4 w _ _ _ _⟩
  · rw [if_neg h1, if_neg h2, if_neg h1, if_neg h3]
    go_enter Tryz.func48, Tryz.ntmps48
    go_wp2
    exact bodyPost_ret (results_cell_row rfl _ _ (w.heap.size + 1 + 1) 38 _ (0, 0) _ rfl (new34 w _ _ _ _) Tryz.underlying38 rfl (by kernel_rfl)) rfl ⟨rfl, grown_alloc4 w _ _ _ _⟩
set_option maxHeartbeats 2000000 in
/-- What asks for room: a closure over the kind. -/
theorem logHas_any (k : Int) (w : World) : Calls Tryz.prog 93 #[.int .i64 k] w fun e w' => e = .returned (.func (.func 114) #[] #[.pointer (some ⟨w.heap.size, 0, none⟩)]) ∧ w' = w.alloc (.cells #[.int .i64 k] 54) := by
  go_enter Tryz.func93, Tryz.ntmps93
  go_wp2
  go_ret
  exact ⟨rfl, rfl⟩
end Go.Proofs.YtjfhilignbeboabGreatDoor
/- Books alike but for the group; their rows copied. -/
namespace Go.Proofs.YtjfhilignbeboabGreatDoor
open Go.RowKit
attribute [local go_sem ↓] Go.wp_at_zero Go.wp_at_succ
attribute [local go_sem] Oper.semAt_some
set_option maxHeartbeats 4000000 in
theorem shape_any {w : World} {p : Bp} {S : Sb} {K : Nat} (h : BkAt w p S K) : Calls Tryz.prog 7 #[.pointer (some ⟨p.b, 0, none⟩)] w fun e w' => e = .returned (limV S.a S.b S.c) ∧ w.grownBy w' none := by
  have m0 := Bm.start h [.int .i64 0, .int .i64 0, .int .i64 0] 44
  have HC1 := hide m0.bk.isNone
  have a0 := m0.ff.a0
  have a1 := m0.ff.a1
  have a2 := m0.ff.a2
  obtain ⟨d0, d1, d2, d3⟩ := box3 m0.box
  have HM := hide m0
  clear h m0
  unfold limV
  go_enter Tryz.func7, Tryz.ntmps7
  go_wp2_with fail
  refine HC1.out.mono ?_
  rintro e w1 ⟨rfl, rfl⟩
  go_wp2
  obtain ⟨r1, r2⟩ := row3 _ HM.out.box (.int .i64 (S.a : Int)) (.int .i64 (S.b : Int)) (.int .i64 (S.c : Int))
  first
    | exact bodyPost_ret (results_cell_row rfl _ _ w.heap.size 44 #[.int .i64 (S.a : Int), .int .i64 (S.b : Int), .int .i64 (S.c : Int)] (0, 0) _ rfl r1 Tryz.underlying44 rfl (by kernel_rfl)) rfl ⟨rfl, gn_set (gn_set (gn_set HM.out.gr (Nat.le_refl _)) (Nat.le_refl _)) (Nat.le_refl _)⟩
    | exact bodyPost_ret (results_cell_row rfl _ _ w.heap.size 44 #[.int .i64 (S.a : Int), .int .i64 (S.b : Int), .int .i64 (S.c : Int)] (0, 0) _ rfl (heap_alloc_new w _) Tryz.underlying44 rfl (by kernel_rfl)) rfl ⟨rfl, grown_alloc _ _⟩
end Go.Proofs.YtjfhilignbeboabGreatDoor
namespace Go.Proofs.YtjfhilignbeboabGreatDoor
/- What a request comes to: the checks. -/
/-- What each check answers. -/
def clE (S : Sb) (q : Rs.Rq) : Int := if mxC < S.t + q.u then 172 else 0
def stE (S : Sb) (q : Rs.Rq) : Int := if q.s < (S.a : Int) then 0 else 140
def frE (S : Sb) (q : Rs.Rq) : Int := if atE S q.s = 0 ∧ ((atX S q.s).i : Int) ≠ q.i then 170 else 0
def rmE (S : Sb) : Int := if S.b ≤ S.L.length ∨ S.n = 4294967295 then 6 else 0
def idE (S : Sb) (q : Rs.Rq) : Int := if (fnd S.L q.i.toNat).isSome then 0 else 171
/-- The first that is not OK. -/
def fstE : List Int → Int
  | [] => 0
  | x :: r => if x = 0 then fstE r else x
def chks (S : Sb) (room : Int) (q : Rs.Rq) : List Int :=
  if q.k = 1 then [stE S q, ttE q, clE S q, frE S q, rmE S, lgE room 1]
  else if q.k = 2 then [idE S q, lgE room 2]
  else if q.k = 3 then [idE S q, lgE room 3]
  else if q.k = 4 then [idE S q, stE S q, frE S q, lgE room 4]
  else [ttE q, clE S q, lgE room 5]
def refE (S : Sb) (room : Int) (q : Rs.Rq) : Int := fstE (chks S room q)
/-- What Decide answers: the record, the reply, whether, the error. -/
structure Dc where
  r : Rc
  y : Rt.Ry
  ok : Bool
  e : Int
def isChg (q : Rs.Rq) : Prop := q.May ∧ Rs.chg q.k = true
instance (q : Rs.Rq) : Decidable (isChg q) := by unfold isChg; exact inferInstance
def dec (S : Sb) (room : Int) (q : Rs.Rq) : Dc :=
  if isChg q then (if refE S room q = 0 then ⟨recQ S q, rpY q (recQ S q), true, 0⟩ else ⟨zRc, rfY q (refE S room q), false, 0⟩)
  else ⟨zRc, Rt.zRy, false, 200⟩
theorem dec_no {S : Sb} {room : Int} {q : Rs.Rq} (h : ¬ isChg q) : dec S room q = ⟨zRc, Rt.zRy, false, 200⟩ := by unfold dec; rw [if_neg h]
theorem dec_ref {S : Sb} {room : Int} {q : Rs.Rq} (h : isChg q) (h0 : refE S room q ≠ 0) : dec S room q = ⟨zRc, rfY q (refE S room q), false, 0⟩ := by unfold dec; rw [if_pos h, if_neg h0]
theorem dec_yes {S : Sb} {room : Int} {q : Rs.Rq} (h : isChg q) (h0 : refE S room q = 0) : dec S room q = ⟨recQ S q, rpY q (recQ S q), true, 0⟩ := by unfold dec; rw [if_pos h, if_pos h0]
theorem chg_kinds {q : Rs.Rq} (h : isChg q) : q.k = 1 ∨ q.k = 2 ∨ q.k = 3 ∨ q.k = 4 ∨ q.k = 7 := by have := h.2; unfold Rs.chg at this; exact of_decide_eq_true this
/-- What Answer answers. -/
def isAsk (q : Rs.Rq) : Prop := q.May ∧ (q.k = 5 ∨ q.k = 6 ∨ q.k = 10)
instance (q : Rs.Rq) : Decidable (isAsk q) := by unfold isAsk; exact inferInstance
def ansY (S : Sb) (q : Rs.Rq) : Rt.Ry :=
  if q.k = 5 then ⟨q.t, q.k, idE S q, 0, (((fnd S.L q.i.toNat).getD ⟨0, 0, 0⟩).s : Int), ((fnd S.L q.i.toNat).getD ⟨0, 0, 0⟩).u, 0⟩
  else if q.k = 6 then ⟨q.t, q.k, atE S q.s, ((atX S q.s).i : Int), 0, (atX S q.s).u, 0⟩
  else ⟨q.t, q.k, 0, 0, 0, 0, (S.L.length : Int)⟩
def ans (S : Sb) (q : Rs.Rq) : Rt.Ry × Int := if isAsk q then (ansY S q, 0) else (Rt.zRy, 200)
end Go.Proofs.YtjfhilignbeboabGreatDoor
namespace Go.Proofs.YtjfhilignbeboabGreatDoor
/- A book that is looked at, beside boxes of the call's own; results in boxes. -/
open Go.RowKit
attribute [local go_sem ↓] Go.wp_at_zero Go.wp_at_succ
attribute [local go_sem] Oper.semAt_some
structure Mt (w W : World) (p : Bp) (S : Sb) (K : Nat) (Bs : List (Nat × List Value × TypeId)) : Prop where
  bk : BkAt W p S K
  st : Kept w W p.own
  bx : ∀ x ∈ Bs, W.heap[x.1]? = some (.cells x.2.1.toArray x.2.2 (0, 0)) ∧ ¬ p.own x.1 ∧ w.heap.size ≤ x.1
section
variable {w W W' : World} {p : Bp} {S : Sb} {K : Nat} {Bs Cs : List (Nat × List Value × TypeId)}
theorem Mt.start (h : BkAt w p S K) : Mt w w p S K [] := ⟨h, Kept.refl _ _, fun x hx => by cases hx⟩
theorem Mt.go (h : Mt w W p S K Bs) (k : Kept W W' p.own) (hb : BkAt W' p S K) : Mt w W' p S K Bs :=
  ⟨hb, h.st.trans k (fun _ _ e => e), fun x hx => by
    obtain ⟨h1, h2, h3⟩ := h.bx x hx
    exact ⟨k.at h1 h2, h2, h3⟩⟩
theorem Mt.then (h : Mt w W p S K Bs) (g : W.grownBy W' none) : Mt w W' p S K Bs := h.go (Kept.new g _) (h.bk.then g)
theorem Mt.mt (h : Mt w W p S K Bs) (k : Mt W W' p S K Cs) : Mt w W' p S K Bs := h.go k.st k.bk
theorem Mt.drew (h : Mt w W p S K Bs) : Mt w W.drew p S K Bs := h.then (grown_drew W none)
theorem Mt.sub (h : Mt w W p S K Bs) (hs : ∀ x ∈ Cs, x ∈ Bs) : Mt w W p S K Cs := ⟨h.bk, h.st, fun x hx => h.bx x (hs x hx)⟩
theorem Mt.bare (h : Mt w W p S K Bs) : Mt w W p S K [] := h.sub (fun x hx => by cases hx)
theorem Mt.box (h : Mt w W p S K Bs) (cs : List Value) (ty : TypeId) : Mt w (W.alloc (.cells cs.toArray ty)) p S K ((W.heap.size, cs, ty) :: Bs) := by
  have h1 := h.then (grown_alloc W (.cells cs.toArray ty))
  refine ⟨h1.bk, h1.st, fun x hx => ?_⟩
  rcases List.mem_cons.1 hx with rfl | hx
  · exact ⟨heap_alloc_new W _, fun e => Nat.lt_irrefl _ (h.bk.lt _ e), h.st.size⟩
  · exact h1.bx x hx
theorem Mt.cell {X : Nat} {cs : List Value} {ty : TypeId} (h : Mt w W p S K Bs) (hm : (X, cs, ty) ∈ Bs) (j : Nat) (v : Value) (hv : cs[j]? = some v) : W.cell? ⟨X, j, none⟩ = some v := by
  rw [cell_row (h.bx _ hm).1]; exact hv
theorem Mt.free {X : Nat} {cs : List Value} {ty : TypeId} (h : Mt w W p S K Bs) (hm : (X, cs, ty) ∈ Bs) (j : Nat) : W.frozen? ⟨X, j, none⟩ = false := free_row (h.bx _ hm).1 j
/-- A box that is none of the book's is written. -/
theorem Mt.wrote {X : Nat} (h : Mt w W p S K Bs) (g : W.grownBy W' (some X)) (hX : ¬ p.own X) (h0 : w.heap.size ≤ X) : Mt w W' p S K [] := by
  have k : Kept W W' (fun i => i = X) := Kept.of g (fun j e _ => (Option.some.inj e).symm)
  refine ⟨h.bk.far k (fun i hi e => hX (by rw [← e]; exact hi)), h.st.trans k (fun i hi e => by omega), fun x hx => by cases hx⟩
end
theorem Mt.b0 {w W : World} {p : Bp} {S : Sb} {K : Nat} {Bs : List (Nat × List Value × TypeId)} {x : Nat × List Value × TypeId} (h : Mt w W p S K (x :: Bs)) : W.heap[x.1]? = some (.cells x.2.1.toArray x.2.2 (0, 0)) := (h.bx x (List.mem_cons_self ..)).1
theorem Mt.b1 {w W : World} {p : Bp} {S : Sb} {K : Nat} {Bs : List (Nat × List Value × TypeId)} {y0 x : Nat × List Value × TypeId} (h : Mt w W p S K (y0 :: x :: Bs)) : W.heap[x.1]? = some (.cells x.2.1.toArray x.2.2 (0, 0)) := (h.bx x (List.mem_cons_of_mem _ (List.mem_cons_self ..))).1
theorem Mt.b2 {w W : World} {p : Bp} {S : Sb} {K : Nat} {Bs : List (Nat × List Value × TypeId)} {y0 y1 x : Nat × List Value × TypeId} (h : Mt w W p S K (y0 :: y1 :: x :: Bs)) : W.heap[x.1]? = some (.cells x.2.1.toArray x.2.2 (0, 0)) := (h.bx x (List.mem_cons_of_mem _ (List.mem_cons_of_mem _ (List.mem_cons_self ..)))).1
theorem Mt.b3 {w W : World} {p : Bp} {S : Sb} {K : Nat} {Bs : List (Nat × List Value × TypeId)} {y0 y1 y2 x : Nat × List Value × TypeId} (h : Mt w W p S K (y0 :: y1 :: y2 :: x :: Bs)) : W.heap[x.1]? = some (.cells x.2.1.toArray x.2.2 (0, 0)) := (h.bx x (List.mem_cons_of_mem _ (List.mem_cons_of_mem _ (List.mem_cons_of_mem _ (List.mem_cons_self ..))))).1
theorem Mt.b4 {w W : World} {p : Bp} {S : Sb} {K : Nat} {Bs : List (Nat × List Value × TypeId)} {y0 y1 y2 y3 x : Nat × List Value × TypeId} (h : Mt w W p S K (y0 :: y1 :: y2 :: y3 :: x :: Bs)) : W.heap[x.1]? = some (.cells x.2.1.toArray x.2.2 (0, 0)) := (h.bx x (List.mem_cons_of_mem _ (List.mem_cons_of_mem _ (List.mem_cons_of_mem _ (List.mem_cons_of_mem _ (List.mem_cons_self ..)))))).1
theorem Mt.b5 {w W : World} {p : Bp} {S : Sb} {K : Nat} {Bs : List (Nat × List Value × TypeId)} {y0 y1 y2 y3 y4 x : Nat × List Value × TypeId} (h : Mt w W p S K (y0 :: y1 :: y2 :: y3 :: y4 :: x :: Bs)) : W.heap[x.1]? = some (.cells x.2.1.toArray x.2.2 (0, 0)) := (h.bx x (List.mem_cons_of_mem _ (List.mem_cons_of_mem _ (List.mem_cons_of_mem _ (List.mem_cons_of_mem _ (List.mem_cons_of_mem _ (List.mem_cons_self ..))))))).1
theorem Mt.b6 {w W : World} {p : Bp} {S : Sb} {K : Nat} {Bs : List (Nat × List Value × TypeId)} {y0 y1 y2 y3 y4 y5 x : Nat × List Value × TypeId} (h : Mt w W p S K (y0 :: y1 :: y2 :: y3 :: y4 :: y5 :: x :: Bs)) : W.heap[x.1]? = some (.cells x.2.1.toArray x.2.2 (0, 0)) := (h.bx x (List.mem_cons_of_mem _ (List.mem_cons_of_mem _ (List.mem_cons_of_mem _ (List.mem_cons_of_mem _ (List.mem_cons_of_mem _ (List.mem_cons_of_mem _ (List.mem_cons_self ..)))))))).1
theorem Mt.b7 {w W : World} {p : Bp} {S : Sb} {K : Nat} {Bs : List (Nat × List Value × TypeId)} {y0 y1 y2 y3 y4 y5 y6 x : Nat × List Value × TypeId} (h : Mt w W p S K (y0 :: y1 :: y2 :: y3 :: y4 :: y5 :: y6 :: x :: Bs)) : W.heap[x.1]? = some (.cells x.2.1.toArray x.2.2 (0, 0)) := (h.bx x (List.mem_cons_of_mem _ (List.mem_cons_of_mem _ (List.mem_cons_of_mem _ (List.mem_cons_of_mem _ (List.mem_cons_of_mem _ (List.mem_cons_of_mem _ (List.mem_cons_of_mem _ (List.mem_cons_self ..))))))))).1
end Go.Proofs.YtjfhilignbeboabGreatDoor
