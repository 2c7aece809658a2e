/- Texts joined: Ca1, Cs1, Cp, Cr, BkN, BkX. -/
import Derived.Test.YtjfhilignbeboaaGreatDoorJqAi
import Derived.Test.YtjfhilignbeboaaGreatDoorJqAa
import Derived.Laws.ResultCell
import Derived.Laws.EntriesVeiled
import Derived.ProofKit
import Derived.OpenShut
import Derived.Deep.DeepHandedRow
import Derived.Lib.LaidTab
import Derived.ChangeOld
import Derived.SizedLaws
import Derived.Test.YtjfhilignbeboaaGreatDoorJqAh
import Derived.RangeFuncWrites
namespace Go.Proofs.YtjfhilignbeboaaGreatDoor
/- Boxes of five and seven cells; a matter. -/
open Go.RowKit
attribute [local go_sem ↓] Go.wp_at_zero Go.wp_at_succ
attribute [local go_sem] Oper.semAt_some
/-- Facts of a box of five, of seven. -/
theorem bx5 {w : World} {g : Nat} {t : TypeId} {x y z u v : Value} (h : w.heap[g]? = some (.cells [x, y, z, u, v].toArray t (0, 0))) : w.cell? ⟨g, 0, none⟩ = some x ∧ w.cell? ⟨g, 1, none⟩ = some y ∧ w.cell? ⟨g, 2, none⟩ = some z ∧ w.cell? ⟨g, 3, none⟩ = some u ∧ w.cell? ⟨g, 4, none⟩ = some v :=
  ⟨by rw [cell_row h]; rfl, by rw [cell_row h]; rfl, by rw [cell_row h]; rfl, by rw [cell_row h]; rfl, by rw [cell_row h]; rfl⟩
theorem bx7 {w : World} {g : Nat} {t : TypeId} {a b c d e f k : Value} (h : w.heap[g]? = some (.cells [a, b, c, d, e, f, k].toArray t (0, 0))) : w.cell? ⟨g, 0, none⟩ = some a ∧ w.cell? ⟨g, 1, none⟩ = some b ∧ w.cell? ⟨g, 2, none⟩ = some c ∧ w.cell? ⟨g, 3, none⟩ = some d ∧ w.cell? ⟨g, 4, none⟩ = some e ∧ w.cell? ⟨g, 5, none⟩ = some f ∧ w.cell? ⟨g, 6, none⟩ = some k :=
  ⟨by rw [cell_row h]; rfl, by rw [cell_row h]; rfl, by rw [cell_row h]; rfl, by rw [cell_row h]; rfl, by rw [cell_row h]; rfl, by rw [cell_row h]; rfl, by rw [cell_row h]; rfl⟩
theorem set5w (w : World) {g : Nat} {t : TypeId} {l : List Value} (hl : l.length = 5) (h : w.heap[g]? = some (.cells l.toArray t (0, 0))) (a b c d e : Value) :
    (((((w.setCell ⟨g, 0, none⟩ a).setCell ⟨g, 1, none⟩ b).setCell ⟨g, 2, none⟩ c).setCell ⟨g, 3, none⟩ d).setCell ⟨g, 4, none⟩ e).heap[g]? = some (.cells [a, b, c, d, e].toArray t (0, 0)) ∧ w.grownBy (((((w.setCell ⟨g, 0, none⟩ a).setCell ⟨g, 1, none⟩ b).setCell ⟨g, 2, none⟩ c).setCell ⟨g, 3, none⟩ d).setCell ⟨g, 4, none⟩ e) (some g) := by
  match l, hl with
  | [x0, x1, x2, x3, x4], _ =>
    exact ⟨row_setCell (row_setCell (row_setCell (row_setCell (row_setCell h 0 a) 1 b) 2 c) 3 d) 4 e, grown_trans (grown_trans (grown_trans (grown_trans (grown_setCell w g 0 a) (grown_setCell _ g 1 b)) (grown_setCell _ g 2 c)) (grown_setCell _ g 3 d)) (grown_setCell _ g 4 e)⟩
theorem set7w (w : World) {g : Nat} {t : TypeId} {l : List Value} (hl : l.length = 7) (h : w.heap[g]? = some (.cells l.toArray t (0, 0))) (a b c d e f k : Value) :
    (((((((w.setCell ⟨g, 0, none⟩ a).setCell ⟨g, 1, none⟩ b).setCell ⟨g, 2, none⟩ c).setCell ⟨g, 3, none⟩ d).setCell ⟨g, 4, none⟩ e).setCell ⟨g, 5, none⟩ f).setCell ⟨g, 6, none⟩ k).heap[g]? = some (.cells [a, b, c, d, e, f, k].toArray t (0, 0)) ∧ w.grownBy (((((((w.setCell ⟨g, 0, none⟩ a).setCell ⟨g, 1, none⟩ b).setCell ⟨g, 2, none⟩ c).setCell ⟨g, 3, none⟩ d).setCell ⟨g, 4, none⟩ e).setCell ⟨g, 5, none⟩ f).setCell ⟨g, 6, none⟩ k) (some g) := by
  match l, hl with
  | [x0, x1, x2, x3, x4, x5, x6], _ =>
    exact ⟨row_setCell (row_setCell (row_setCell (row_setCell (row_setCell (row_setCell (row_setCell h 0 a) 1 b) 2 c) 3 d) 4 e) 5 f) 6 k, grown_trans (grown_trans (grown_trans (grown_trans (grown_trans (grown_trans (grown_setCell w g 0 a) (grown_setCell _ g 1 b)) (grown_setCell _ g 2 c)) (grown_setCell _ g 3 d)) (grown_setCell _ g 4 e)) (grown_setCell _ g 5 f)) (grown_setCell _ g 6 k)⟩
/-- What is decided: a change, the book, the room. -/
def maV (b : Nat) (room : Int) (q : Rs.Rq) : Value := .agg #[.pointer (some ⟨b, 0, none⟩), .int .i64 room, .int .i64 q.k, .int .u32 q.t, .int .u32 q.i, .int .i64 q.s, .int .i64 q.u]
def maC (b : Nat) (room : Int) (q : Rs.Rq) : List Value := [.pointer (some ⟨b, 0, none⟩), .int .i64 room, .int .i64 q.k, .int .u32 q.t, .int .u32 q.i, .int .i64 q.s, .int .i64 q.u]
theorem new2 (w : World) (o o2 : Obj) : ((w.alloc o).alloc o2).heap[w.heap.size + 1]? = some o2 := by
  have := heap_alloc_new (w.alloc o) o2
  rw [show (w.alloc o).heap.size = w.heap.size + 1 from by show (w.heap.push o).size = _; simp] at this
  exact this
theorem new2a (w : World) (o o2 : Obj) : ((w.alloc o).alloc o2).heap[w.heap.size]? = some o := ((grown_alloc (w.alloc o) o2).block _ (row_lt (heap_alloc_new w o)) (by simp)).trans (heap_alloc_new w o)
theorem new3 (w : World) (o o2 o3 : Obj) : (((w.alloc o).alloc o2).alloc o3).heap[w.heap.size + 2]? = some o3 := by
  have := heap_alloc_new ((w.alloc o).alloc o2) o3
  rw [show ((w.alloc o).alloc o2).heap.size = w.heap.size + 2 from by show ((w.heap.push o).push o2).size = _; simp] at this
  exact this
theorem grown_alloc2 (w : World) (o o2 : Obj) : w.grownBy ((w.alloc o).alloc o2) none := grown_trans (grown_alloc w o) (grown_alloc _ o2)
theorem grown_alloc3 (w : World) (o o2 o3 : Obj) : w.grownBy (((w.alloc o).alloc o2).alloc o3) none := grown_trans (grown_alloc2 w o o2) (grown_alloc _ o3)
theorem new34 (w : World) (o o2 o3 o4 : Obj) : ((((w.alloc o).alloc o2).alloc o3).alloc o4).heap[w.heap.size + 1 + 1]? = some o3 := ((grown_alloc _ o4).block _ (row_lt (new3 w o o2 o3)) (by simp)).trans (new3 w o o2 o3)
theorem drew_at {W : World} {g : Nat} {o : Obj} (h : W.heap[g]? = some o) : W.drew.heap[g]? = some o := ((grown_drew W none).block _ (row_lt h) (by simp)).trans h
theorem grown_alloc4 (w : World) (o o2 o3 o4 : Obj) : w.grownBy ((((w.alloc o).alloc o2).alloc o3).alloc o4) none := grown_trans (grown_alloc3 w o o2 o3) (grown_alloc _ o4)
theorem new13 (w : World) (o o2 o3 : Obj) : (((w.alloc o).alloc o2).alloc o3).heap[w.heap.size]? = some o := ((grown_alloc _ o3).block _ (row_lt (new2a w o o2)) (by simp)).trans (new2a w o o2)
theorem new23 (w : World) (o o2 o3 : Obj) : (((w.alloc o).alloc o2).alloc o3).heap[w.heap.size + 1]? = some o2 := ((grown_alloc _ o3).block _ (row_lt (new2 w o o2)) (by simp)).trans (new2 w o o2)
theorem bxf5 {w : World} {g : Nat} {t : TypeId} {x y z u v : Value} (h : w.heap[g]? = some (.cells [x, y, z, u, v].toArray t (0, 0))) : (w.cell? ⟨g, 0, none⟩ = some x ∧ w.cell? ⟨g, 1, none⟩ = some y ∧ w.cell? ⟨g, 2, none⟩ = some z ∧ w.cell? ⟨g, 3, none⟩ = some u ∧ w.cell? ⟨g, 4, none⟩ = some v) ∧ ∀ j, w.frozen? ⟨g, j, none⟩ = false := ⟨bx5 h, fun j => free_row h j⟩
theorem bxf7 {w : World} {g : Nat} {t : TypeId} {a b c d e f k : Value} (h : w.heap[g]? = some (.cells [a, b, c, d, e, f, k].toArray t (0, 0))) : (w.cell? ⟨g, 0, none⟩ = some a ∧ w.cell? ⟨g, 1, none⟩ = some b ∧ w.cell? ⟨g, 2, none⟩ = some c ∧ w.cell? ⟨g, 3, none⟩ = some d ∧ w.cell? ⟨g, 4, none⟩ = some e ∧ w.cell? ⟨g, 5, none⟩ = some f ∧ w.cell? ⟨g, 6, none⟩ = some k) ∧ ∀ j, w.frozen? ⟨g, j, none⟩ = false := ⟨bx7 h, fun j => free_row h j⟩
theorem box_to {w w' : World} {g : Nat} {o : Obj} (h : w.heap[g]? = some o) (k : w.grownBy w' none) : w'.heap[g]? = some o := (k.block _ (row_lt h) (by simp)).trans h
theorem gn_own {w W W' : World} {g : Nat} (h : w.grownBy W none) (k : W.grownBy W' (some g)) (hg : w.heap.size ≤ g) : w.grownBy W' none := grown_then h k (fun j e => .inl (by cases e; exact hg))
theorem ma_set5 {W : World} {g h : Nat} {c0 c1 c2 c3 c4 c5 c6 : Value} (hh : W.cell? ⟨g, 0, none⟩ = some c0 ∧ W.cell? ⟨g, 1, none⟩ = some c1 ∧ W.cell? ⟨g, 2, none⟩ = some c2 ∧ W.cell? ⟨g, 3, none⟩ = some c3 ∧ W.cell? ⟨g, 4, none⟩ = some c4 ∧ W.cell? ⟨g, 5, none⟩ = some c5 ∧ W.cell? ⟨g, 6, none⟩ = some c6) (hne : h ≠ g) (a b c d e : Value) : (((((W.setCell ⟨h, 0, none⟩ a).setCell ⟨h, 1, none⟩ b).setCell ⟨h, 2, none⟩ c).setCell ⟨h, 3, none⟩ d).setCell ⟨h, 4, none⟩ e).cell? ⟨g, 0, none⟩ = some c0 ∧ (((((W.setCell ⟨h, 0, none⟩ a).setCell ⟨h, 1, none⟩ b).setCell ⟨h, 2, none⟩ c).setCell ⟨h, 3, none⟩ d).setCell ⟨h, 4, none⟩ e).cell? ⟨g, 1, none⟩ = some c1 ∧ (((((W.setCell ⟨h, 0, none⟩ a).setCell ⟨h, 1, none⟩ b).setCell ⟨h, 2, none⟩ c).setCell ⟨h, 3, none⟩ d).setCell ⟨h, 4, none⟩ e).cell? ⟨g, 2, none⟩ = some c2 ∧ (((((W.setCell ⟨h, 0, none⟩ a).setCell ⟨h, 1, none⟩ b).setCell ⟨h, 2, none⟩ c).setCell ⟨h, 3, none⟩ d).setCell ⟨h, 4, none⟩ e).cell? ⟨g, 3, none⟩ = some c3 ∧ (((((W.setCell ⟨h, 0, none⟩ a).setCell ⟨h, 1, none⟩ b).setCell ⟨h, 2, none⟩ c).setCell ⟨h, 3, none⟩ d).setCell ⟨h, 4, none⟩ e).cell? ⟨g, 4, none⟩ = some c4 ∧ (((((W.setCell ⟨h, 0, none⟩ a).setCell ⟨h, 1, none⟩ b).setCell ⟨h, 2, none⟩ c).setCell ⟨h, 3, none⟩ d).setCell ⟨h, 4, none⟩ e).cell? ⟨g, 5, none⟩ = some c5 ∧ (((((W.setCell ⟨h, 0, none⟩ a).setCell ⟨h, 1, none⟩ b).setCell ⟨h, 2, none⟩ c).setCell ⟨h, 3, none⟩ d).setCell ⟨h, 4, none⟩ e).cell? ⟨g, 6, none⟩ = some c6 := by
  have k : W.grownBy (((((W.setCell ⟨h, 0, none⟩ a).setCell ⟨h, 1, none⟩ b).setCell ⟨h, 2, none⟩ c).setCell ⟨h, 3, none⟩ d).setCell ⟨h, 4, none⟩ e) (some h) := grown_trans (grown_trans (grown_trans (grown_trans (grown_setCell W h 0 a) (grown_setCell _ h 1 b)) (grown_setCell _ h 2 c)) (grown_setCell _ h 3 d)) (grown_setCell _ h 4 e)
  have n : ¬ some g = some h := fun x => hne (Option.some.inj x).symm
  exact ⟨k.cell hh.1 n, k.cell hh.2.1 n, k.cell hh.2.2.1 n, k.cell hh.2.2.2.1 n, k.cell hh.2.2.2.2.1 n, k.cell hh.2.2.2.2.2.1 n, k.cell hh.2.2.2.2.2.2 n⟩
theorem s10_set5 {W : World} {g l h : Nat} {c0 c1 c2 c3 c4 e0 e1 e2 e3 e4 : Value} (hh : W.cell? ⟨g, 0, none⟩ = some c0 ∧ W.cell? ⟨g, 1, none⟩ = some c1 ∧ W.cell? ⟨g, 2, none⟩ = some c2 ∧ W.cell? ⟨g, 3, none⟩ = some c3 ∧ W.cell? ⟨g, 4, none⟩ = some c4 ∧ W.cell? ⟨l, 0, none⟩ = some e0 ∧ W.cell? ⟨l, 1, none⟩ = some e1 ∧ W.cell? ⟨l, 2, none⟩ = some e2 ∧ W.cell? ⟨l, 3, none⟩ = some e3 ∧ W.cell? ⟨l, 4, none⟩ = some e4) (hne : h ≠ g) (hne2 : h ≠ l) (x0 x1 x2 x3 x4 : Value) : (((((W.setCell ⟨h, 0, none⟩ x0).setCell ⟨h, 1, none⟩ x1).setCell ⟨h, 2, none⟩ x2).setCell ⟨h, 3, none⟩ x3).setCell ⟨h, 4, none⟩ x4).cell? ⟨g, 0, none⟩ = some c0 ∧ (((((W.setCell ⟨h, 0, none⟩ x0).setCell ⟨h, 1, none⟩ x1).setCell ⟨h, 2, none⟩ x2).setCell ⟨h, 3, none⟩ x3).setCell ⟨h, 4, none⟩ x4).cell? ⟨g, 1, none⟩ = some c1 ∧ (((((W.setCell ⟨h, 0, none⟩ x0).setCell ⟨h, 1, none⟩ x1).setCell ⟨h, 2, none⟩ x2).setCell ⟨h, 3, none⟩ x3).setCell ⟨h, 4, none⟩ x4).cell? ⟨g, 2, none⟩ = some c2 ∧ (((((W.setCell ⟨h, 0, none⟩ x0).setCell ⟨h, 1, none⟩ x1).setCell ⟨h, 2, none⟩ x2).setCell ⟨h, 3, none⟩ x3).setCell ⟨h, 4, none⟩ x4).cell? ⟨g, 3, none⟩ = some c3 ∧ (((((W.setCell ⟨h, 0, none⟩ x0).setCell ⟨h, 1, none⟩ x1).setCell ⟨h, 2, none⟩ x2).setCell ⟨h, 3, none⟩ x3).setCell ⟨h, 4, none⟩ x4).cell? ⟨g, 4, none⟩ = some c4 ∧ (((((W.setCell ⟨h, 0, none⟩ x0).setCell ⟨h, 1, none⟩ x1).setCell ⟨h, 2, none⟩ x2).setCell ⟨h, 3, none⟩ x3).setCell ⟨h, 4, none⟩ x4).cell? ⟨l, 0, none⟩ = some e0 ∧ (((((W.setCell ⟨h, 0, none⟩ x0).setCell ⟨h, 1, none⟩ x1).setCell ⟨h, 2, none⟩ x2).setCell ⟨h, 3, none⟩ x3).setCell ⟨h, 4, none⟩ x4).cell? ⟨l, 1, none⟩ = some e1 ∧ (((((W.setCell ⟨h, 0, none⟩ x0).setCell ⟨h, 1, none⟩ x1).setCell ⟨h, 2, none⟩ x2).setCell ⟨h, 3, none⟩ x3).setCell ⟨h, 4, none⟩ x4).cell? ⟨l, 2, none⟩ = some e2 ∧ (((((W.setCell ⟨h, 0, none⟩ x0).setCell ⟨h, 1, none⟩ x1).setCell ⟨h, 2, none⟩ x2).setCell ⟨h, 3, none⟩ x3).setCell ⟨h, 4, none⟩ x4).cell? ⟨l, 3, none⟩ = some e3 ∧ (((((W.setCell ⟨h, 0, none⟩ x0).setCell ⟨h, 1, none⟩ x1).setCell ⟨h, 2, none⟩ x2).setCell ⟨h, 3, none⟩ x3).setCell ⟨h, 4, none⟩ x4).cell? ⟨l, 4, none⟩ = some e4 := by
  have k : W.grownBy (((((W.setCell ⟨h, 0, none⟩ x0).setCell ⟨h, 1, none⟩ x1).setCell ⟨h, 2, none⟩ x2).setCell ⟨h, 3, none⟩ x3).setCell ⟨h, 4, none⟩ x4) (some h) := grown_trans (grown_trans (grown_trans (grown_trans (grown_setCell W h 0 x0) (grown_setCell _ h 1 x1)) (grown_setCell _ h 2 x2)) (grown_setCell _ h 3 x3)) (grown_setCell _ h 4 x4)
  have n1 : ¬ some g = some h := fun x => hne (Option.some.inj x).symm
  have n2 : ¬ some l = some h := fun x => hne2 (Option.some.inj x).symm
  exact ⟨k.cell hh.1 n1, k.cell hh.2.1 n1, k.cell hh.2.2.1 n1, k.cell hh.2.2.2.1 n1, k.cell hh.2.2.2.2.1 n1, k.cell hh.2.2.2.2.2.1 n2, k.cell hh.2.2.2.2.2.2.1 n2, k.cell hh.2.2.2.2.2.2.2.1 n2, k.cell hh.2.2.2.2.2.2.2.2.1 n2, k.cell hh.2.2.2.2.2.2.2.2.2 n2⟩
theorem s10_set7 {W : World} {g l h : Nat} {c0 c1 c2 c3 c4 e0 e1 e2 e3 e4 : Value} (hh : W.cell? ⟨g, 0, none⟩ = some c0 ∧ W.cell? ⟨g, 1, none⟩ = some c1 ∧ W.cell? ⟨g, 2, none⟩ = some c2 ∧ W.cell? ⟨g, 3, none⟩ = some c3 ∧ W.cell? ⟨g, 4, none⟩ = some c4 ∧ W.cell? ⟨l, 0, none⟩ = some e0 ∧ W.cell? ⟨l, 1, none⟩ = some e1 ∧ W.cell? ⟨l, 2, none⟩ = some e2 ∧ W.cell? ⟨l, 3, none⟩ = some e3 ∧ W.cell? ⟨l, 4, none⟩ = some e4) (hne : h ≠ g) (hne2 : h ≠ l) (x0 x1 x2 x3 x4 x5 x6 : Value) : (((((((W.setCell ⟨h, 0, none⟩ x0).setCell ⟨h, 1, none⟩ x1).setCell ⟨h, 2, none⟩ x2).setCell ⟨h, 3, none⟩ x3).setCell ⟨h, 4, none⟩ x4).setCell ⟨h, 5, none⟩ x5).setCell ⟨h, 6, none⟩ x6).cell? ⟨g, 0, none⟩ = some c0 ∧ (((((((W.setCell ⟨h, 0, none⟩ x0).setCell ⟨h, 1, none⟩ x1).setCell ⟨h, 2, none⟩ x2).setCell ⟨h, 3, none⟩ x3).setCell ⟨h, 4, none⟩ x4).setCell ⟨h, 5, none⟩ x5).setCell ⟨h, 6, none⟩ x6).cell? ⟨g, 1, none⟩ = some c1 ∧ (((((((W.setCell ⟨h, 0, none⟩ x0).setCell ⟨h, 1, none⟩ x1).setCell ⟨h, 2, none⟩ x2).setCell ⟨h, 3, none⟩ x3).setCell ⟨h, 4, none⟩ x4).setCell ⟨h, 5, none⟩ x5).setCell ⟨h, 6, none⟩ x6).cell? ⟨g, 2, none⟩ = some c2 ∧ (((((((W.setCell ⟨h, 0, none⟩ x0).setCell ⟨h, 1, none⟩ x1).setCell ⟨h, 2, none⟩ x2).setCell ⟨h, 3, none⟩ x3).setCell ⟨h, 4, none⟩ x4).setCell ⟨h, 5, none⟩ x5).setCell ⟨h, 6, none⟩ x6).cell? ⟨g, 3, none⟩ = some c3 ∧ (((((((W.setCell ⟨h, 0, none⟩ x0).setCell ⟨h, 1, none⟩ x1).setCell ⟨h, 2, none⟩ x2).setCell ⟨h, 3, none⟩ x3).setCell ⟨h, 4, none⟩ x4).setCell ⟨h, 5, none⟩ x5).setCell ⟨h, 6, none⟩ x6).cell? ⟨g, 4, none⟩ = some c4 ∧ (((((((W.setCell ⟨h, 0, none⟩ x0).setCell ⟨h, 1, none⟩ x1).setCell ⟨h, 2, none⟩ x2).setCell ⟨h, 3, none⟩ x3).setCell ⟨h, 4, none⟩ x4).setCell ⟨h, 5, none⟩ x5).setCell ⟨h, 6, none⟩ x6).cell? ⟨l, 0, none⟩ = some e0 ∧ (((((((W.setCell ⟨h, 0, none⟩ x0).setCell ⟨h, 1, none⟩ x1).setCell ⟨h, 2, none⟩ x2).setCell ⟨h, 3, none⟩ x3).setCell ⟨h, 4, none⟩ x4).setCell ⟨h, 5, none⟩ x5).setCell ⟨h, 6, none⟩ x6).cell? ⟨l, 1, none⟩ = some e1 ∧ (((((((W.setCell ⟨h, 0, none⟩ x0).setCell ⟨h, 1, none⟩ x1).setCell ⟨h, 2, none⟩ x2).setCell ⟨h, 3, none⟩ x3).setCell ⟨h, 4, none⟩ x4).setCell ⟨h, 5, none⟩ x5).setCell ⟨h, 6, none⟩ x6).cell? ⟨l, 2, none⟩ = some e2 ∧ (((((((W.setCell ⟨h, 0, none⟩ x0).setCell ⟨h, 1, none⟩ x1).setCell ⟨h, 2, none⟩ x2).setCell ⟨h, 3, none⟩ x3).setCell ⟨h, 4, none⟩ x4).setCell ⟨h, 5, none⟩ x5).setCell ⟨h, 6, none⟩ x6).cell? ⟨l, 3, none⟩ = some e3 ∧ (((((((W.setCell ⟨h, 0, none⟩ x0).setCell ⟨h, 1, none⟩ x1).setCell ⟨h, 2, none⟩ x2).setCell ⟨h, 3, none⟩ x3).setCell ⟨h, 4, none⟩ x4).setCell ⟨h, 5, none⟩ x5).setCell ⟨h, 6, none⟩ x6).cell? ⟨l, 4, none⟩ = some e4 := by
  have k : W.grownBy (((((((W.setCell ⟨h, 0, none⟩ x0).setCell ⟨h, 1, none⟩ x1).setCell ⟨h, 2, none⟩ x2).setCell ⟨h, 3, none⟩ x3).setCell ⟨h, 4, none⟩ x4).setCell ⟨h, 5, none⟩ x5).setCell ⟨h, 6, none⟩ x6) (some h) := grown_trans (grown_trans (grown_trans (grown_trans (grown_trans (grown_trans (grown_setCell W h 0 x0) (grown_setCell _ h 1 x1)) (grown_setCell _ h 2 x2)) (grown_setCell _ h 3 x3)) (grown_setCell _ h 4 x4)) (grown_setCell _ h 5 x5)) (grown_setCell _ h 6 x6)
  have n1 : ¬ some g = some h := fun x => hne (Option.some.inj x).symm
  have n2 : ¬ some l = some h := fun x => hne2 (Option.some.inj x).symm
  exact ⟨k.cell hh.1 n1, k.cell hh.2.1 n1, k.cell hh.2.2.1 n1, k.cell hh.2.2.2.1 n1, k.cell hh.2.2.2.2.1 n1, k.cell hh.2.2.2.2.2.1 n2, k.cell hh.2.2.2.2.2.2.1 n2, k.cell hh.2.2.2.2.2.2.2.1 n2, k.cell hh.2.2.2.2.2.2.2.2.1 n2, k.cell hh.2.2.2.2.2.2.2.2.2 n2⟩
theorem s10_of {W : World} {g l : Nat} {s t : TypeId} {c0 c1 c2 c3 c4 e0 e1 e2 e3 e4 : Value} (h1 : W.heap[g]? = some (.cells [c0, c1, c2, c3, c4].toArray s (0, 0))) (h2 : W.heap[l]? = some (.cells [e0, e1, e2, e3, e4].toArray t (0, 0))) : W.cell? ⟨g, 0, none⟩ = some c0 ∧ W.cell? ⟨g, 1, none⟩ = some c1 ∧ W.cell? ⟨g, 2, none⟩ = some c2 ∧ W.cell? ⟨g, 3, none⟩ = some c3 ∧ W.cell? ⟨g, 4, none⟩ = some c4 ∧ W.cell? ⟨l, 0, none⟩ = some e0 ∧ W.cell? ⟨l, 1, none⟩ = some e1 ∧ W.cell? ⟨l, 2, none⟩ = some e2 ∧ W.cell? ⟨l, 3, none⟩ = some e3 ∧ W.cell? ⟨l, 4, none⟩ = some e4 := by
  obtain ⟨a0, a1, a2, a3, a4⟩ := bx5 h1
  obtain ⟨b0, b1, b2, b3, b4⟩ := bx5 h2
  exact ⟨a0, a1, a2, a3, a4, b0, b1, b2, b3, b4⟩
theorem cell_set5 {W : World} {g o h : Nat} {v : Value} (hh : W.cell? ⟨g, o, none⟩ = some v) (hne : h ≠ g) (x0 x1 x2 x3 x4 : Value) : (((((W.setCell ⟨h, 0, none⟩ x0).setCell ⟨h, 1, none⟩ x1).setCell ⟨h, 2, none⟩ x2).setCell ⟨h, 3, none⟩ x3).setCell ⟨h, 4, none⟩ x4).cell? ⟨g, o, none⟩ = some v := (show W.grownBy (((((W.setCell ⟨h, 0, none⟩ x0).setCell ⟨h, 1, none⟩ x1).setCell ⟨h, 2, none⟩ x2).setCell ⟨h, 3, none⟩ x3).setCell ⟨h, 4, none⟩ x4) (some h) from grown_trans (grown_trans (grown_trans (grown_trans (grown_setCell W h 0 x0) (grown_setCell _ h 1 x1)) (grown_setCell _ h 2 x2)) (grown_setCell _ h 3 x3)) (grown_setCell _ h 4 x4)).cell hh (fun x => hne (Option.some.inj x).symm)
theorem cell_set7 {W : World} {g o h : Nat} {v : Value} (hh : W.cell? ⟨g, o, none⟩ = some v) (hne : h ≠ g) (x0 x1 x2 x3 x4 x5 x6 : Value) : (((((((W.setCell ⟨h, 0, none⟩ x0).setCell ⟨h, 1, none⟩ x1).setCell ⟨h, 2, none⟩ x2).setCell ⟨h, 3, none⟩ x3).setCell ⟨h, 4, none⟩ x4).setCell ⟨h, 5, none⟩ x5).setCell ⟨h, 6, none⟩ x6).cell? ⟨g, o, none⟩ = some v := (show W.grownBy (((((((W.setCell ⟨h, 0, none⟩ x0).setCell ⟨h, 1, none⟩ x1).setCell ⟨h, 2, none⟩ x2).setCell ⟨h, 3, none⟩ x3).setCell ⟨h, 4, none⟩ x4).setCell ⟨h, 5, none⟩ x5).setCell ⟨h, 6, none⟩ x6) (some h) from grown_trans (grown_trans (grown_trans (grown_trans (grown_trans (grown_trans (grown_setCell W h 0 x0) (grown_setCell _ h 1 x1)) (grown_setCell _ h 2 x2)) (grown_setCell _ h 3 x3)) (grown_setCell _ h 4 x4)) (grown_setCell _ h 5 x5)) (grown_setCell _ h 6 x6)).cell hh (fun x => hne (Option.some.inj x).symm)
end Go.Proofs.YtjfhilignbeboaaGreatDoor
namespace Go.Proofs.YtjfhilignbeboaaGreatDoor
/- A book that is looked at, beside boxes of the call's own; results in boxes. -/
open Go.RowKit
attribute [local go_sem ↓] Go.wp_at_zero Go.wp_at_succ
attribute [local go_sem] Oper.semAt_some
structure Mt (w W : World) (p : Bp) (S : Sb) (K : Nat) (Bs : List (Nat × List Value × TypeId)) : Prop where
  bk : BkAt W p S K
  st : Kept w W p.own
  bx : ∀ x ∈ Bs, W.heap[x.1]? = some (.cells x.2.1.toArray x.2.2 (0, 0)) ∧ ¬ p.own x.1 ∧ w.heap.size ≤ x.1
section
variable {w W W' : World} {p : Bp} {S : Sb} {K : Nat} {Bs Cs : List (Nat × List Value × TypeId)}
theorem Mt.start (h : BkAt w p S K) : Mt w w p S K [] := ⟨h, Kept.refl _ _, fun x hx => by cases hx⟩
theorem Mt.go (h : Mt w W p S K Bs) (k : Kept W W' p.own) (hb : BkAt W' p S K) : Mt w W' p S K Bs :=
  ⟨hb, h.st.trans k (fun _ _ e => e), fun x hx => by
    obtain ⟨h1, h2, h3⟩ := h.bx x hx
    exact ⟨k.at h1 h2, h2, h3⟩⟩
theorem Mt.then (h : Mt w W p S K Bs) (g : W.grownBy W' none) : Mt w W' p S K Bs := h.go (Kept.new g _) (h.bk.then g)
theorem Mt.mt (h : Mt w W p S K Bs) (k : Mt W W' p S K Cs) : Mt w W' p S K Bs := h.go k.st k.bk
theorem Mt.drew (h : Mt w W p S K Bs) : Mt w W.drew p S K Bs := h.then (grown_drew W none)
theorem Mt.sub (h : Mt w W p S K Bs) (hs : ∀ x ∈ Cs, x ∈ Bs) : Mt w W p S K Cs := ⟨h.bk, h.st, fun x hx => h.bx x (hs x hx)⟩
theorem Mt.bare (h : Mt w W p S K Bs) : Mt w W p S K [] := h.sub (fun x hx => by cases hx)
theorem Mt.box (h : Mt w W p S K Bs) (cs : List Value) (ty : TypeId) : Mt w (W.alloc (.cells cs.toArray ty)) p S K ((W.heap.size, cs, ty) :: Bs) := by
  have h1 := h.then (grown_alloc W (.cells cs.toArray ty))
  refine ⟨h1.bk, h1.st, fun x hx => ?_⟩
  rcases List.mem_cons.1 hx with rfl | hx
  · exact ⟨heap_alloc_new W _, fun e => Nat.lt_irrefl _ (h.bk.lt _ e), h.st.size⟩
  · exact h1.bx x hx
theorem Mt.cell {X : Nat} {cs : List Value} {ty : TypeId} (h : Mt w W p S K Bs) (hm : (X, cs, ty) ∈ Bs) (j : Nat) (v : Value) (hv : cs[j]? = some v) : W.cell? ⟨X, j, none⟩ = some v := by
  rw [cell_row (h.bx _ hm).1]; exact hv
theorem Mt.free {X : Nat} {cs : List Value} {ty : TypeId} (h : Mt w W p S K Bs) (hm : (X, cs, ty) ∈ Bs) (j : Nat) : W.frozen? ⟨X, j, none⟩ = false := free_row (h.bx _ hm).1 j
/-- A box that is none of the book's is written. -/
theorem Mt.wrote {X : Nat} (h : Mt w W p S K Bs) (g : W.grownBy W' (some X)) (hX : ¬ p.own X) (h0 : w.heap.size ≤ X) : Mt w W' p S K [] := by
  have k : Kept W W' (fun i => i = X) := Kept.of g (fun j e _ => (Option.some.inj e).symm)
  refine ⟨h.bk.far k (fun i hi e => hX (by rw [← e]; exact hi)), h.st.trans k (fun i hi e => by omega), fun x hx => by cases hx⟩
end
theorem Mt.b0 {w W : World} {p : Bp} {S : Sb} {K : Nat} {Bs : List (Nat × List Value × TypeId)} {x : Nat × List Value × TypeId} (h : Mt w W p S K (x :: Bs)) : W.heap[x.1]? = some (.cells x.2.1.toArray x.2.2 (0, 0)) := (h.bx x (List.mem_cons_self ..)).1
theorem Mt.b1 {w W : World} {p : Bp} {S : Sb} {K : Nat} {Bs : List (Nat × List Value × TypeId)} {y0 x : Nat × List Value × TypeId} (h : Mt w W p S K (y0 :: x :: Bs)) : W.heap[x.1]? = some (.cells x.2.1.toArray x.2.2 (0, 0)) := (h.bx x (List.mem_cons_of_mem _ (List.mem_cons_self ..))).1
theorem Mt.b2 {w W : World} {p : Bp} {S : Sb} {K : Nat} {Bs : List (Nat × List Value × TypeId)} {y0 y1 x : Nat × List Value × TypeId} (h : Mt w W p S K (y0 :: y1 :: x :: Bs)) : W.heap[x.1]? = some (.cells x.2.1.toArray x.2.2 (0, 0)) := (h.bx x (List.mem_cons_of_mem _ (List.mem_cons_of_mem _ (List.mem_cons_self ..)))).1
theorem Mt.b3 {w W : World} {p : Bp} {S : Sb} {K : Nat} {Bs : List (Nat × List Value × TypeId)} {y0 y1 y2 x : Nat × List Value × TypeId} (h : Mt w W p S K (y0 :: y1 :: y2 :: x :: Bs)) : W.heap[x.1]? = some (.cells x.2.1.toArray x.2.2 (0, 0)) := (h.bx x (List.mem_cons_of_mem _ (List.mem_cons_of_mem _ (List.mem_cons_of_mem _ (List.mem_cons_self ..))))).1
theorem Mt.b4 {w W : World} {p : Bp} {S : Sb} {K : Nat} {Bs : List (Nat × List Value × TypeId)} {y0 y1 y2 y3 x : Nat × List Value × TypeId} (h : Mt w W p S K (y0 :: y1 :: y2 :: y3 :: x :: Bs)) : W.heap[x.1]? = some (.cells x.2.1.toArray x.2.2 (0, 0)) := (h.bx x (List.mem_cons_of_mem _ (List.mem_cons_of_mem _ (List.mem_cons_of_mem _ (List.mem_cons_of_mem _ (List.mem_cons_self ..)))))).1
theorem Mt.b5 {w W : World} {p : Bp} {S : Sb} {K : Nat} {Bs : List (Nat × List Value × TypeId)} {y0 y1 y2 y3 y4 x : Nat × List Value × TypeId} (h : Mt w W p S K (y0 :: y1 :: y2 :: y3 :: y4 :: x :: Bs)) : W.heap[x.1]? = some (.cells x.2.1.toArray x.2.2 (0, 0)) := (h.bx x (List.mem_cons_of_mem _ (List.mem_cons_of_mem _ (List.mem_cons_of_mem _ (List.mem_cons_of_mem _ (List.mem_cons_of_mem _ (List.mem_cons_self ..))))))).1
theorem Mt.b6 {w W : World} {p : Bp} {S : Sb} {K : Nat} {Bs : List (Nat × List Value × TypeId)} {y0 y1 y2 y3 y4 y5 x : Nat × List Value × TypeId} (h : Mt w W p S K (y0 :: y1 :: y2 :: y3 :: y4 :: y5 :: x :: Bs)) : W.heap[x.1]? = some (.cells x.2.1.toArray x.2.2 (0, 0)) := (h.bx x (List.mem_cons_of_mem _ (List.mem_cons_of_mem _ (List.mem_cons_of_mem _ (List.mem_cons_of_mem _ (List.mem_cons_of_mem _ (List.mem_cons_of_mem _ (List.mem_cons_self ..)))))))).1
theorem Mt.b7 {w W : World} {p : Bp} {S : Sb} {K : Nat} {Bs : List (Nat × List Value × TypeId)} {y0 y1 y2 y3 y4 y5 y6 x : Nat × List Value × TypeId} (h : Mt w W p S K (y0 :: y1 :: y2 :: y3 :: y4 :: y5 :: y6 :: x :: Bs)) : W.heap[x.1]? = some (.cells x.2.1.toArray x.2.2 (0, 0)) := (h.bx x (List.mem_cons_of_mem _ (List.mem_cons_of_mem _ (List.mem_cons_of_mem _ (List.mem_cons_of_mem _ (List.mem_cons_of_mem _ (List.mem_cons_of_mem _ (List.mem_cons_of_mem _ (List.mem_cons_self ..))))))))).1
end Go.Proofs.YtjfhilignbeboaaGreatDoor
namespace Go.Proofs.YtjfhilignbeboaaGreatDoor
/- cases: what does not ask the book. -/
open Go.RowKit
attribute [local go_sem ↓] Go.wp_at_zero Go.wp_at_succ
attribute [local go_sem] Oper.semAt_some
set_option maxHeartbeats 2000000 in
theorem fsize_any (n : Nat) (h : n ≤ 32) (w : World) : Calls Tryz.prog 140 #[.int .i64 (n : Int)] w fun e w' => e = .returned (.int .i64 (22 + (n : Int))) ∧ w' = w := by
  have h1 : (0 : Int) ≤ (n : Int) := by omega
  have h2 : (n : Int) ≤ 32 := by omega
  clear h
  go_enter Tryz.func140, Tryz.ntmps140
  go_wp2
  go_ret
  refine ⟨?_, rfl⟩
  go_num
set_option maxHeartbeats 2000000 in
theorem ttl_any (b : Nat) (room : Int) (q : Rs.Rq) (w : World) : Calls Tryz.prog 76 #[maV b room q] w fun e w' => e = .returned (.int .i64 (ttE q)) ∧ w.grownBy w' none := by
  have hG := hide (grown_alloc w (.cells (maC b room q).toArray 83))
  unfold maV ttE mxT
  unfold maC at hG
  rcases (show q.u < 1 ∨ (1 ≤ q.u ∧ q.u ≤ 1073741824) ∨ (1 ≤ q.u ∧ 1073741824 < q.u) by omega) with h | ⟨h, h2⟩ | ⟨h, h2⟩
  · rw [if_neg (by omega)]
    go_enter Tryz.func76, Tryz.ntmps76
    go_wp2
    go_ret
    exact ⟨rfl, hG.out⟩
  · rw [if_pos (by omega)]
    go_enter Tryz.func76, Tryz.ntmps76
    go_wp2
    go_ret
    exact ⟨rfl, hG.out⟩
  · rw [if_neg (by omega)]
    go_enter Tryz.func76, Tryz.ntmps76
    go_wp2
    go_ret
    exact ⟨rfl, hG.out⟩
set_option maxHeartbeats 2000000 in
theorem refusal_any (q : Rs.Rq) (e : Int) (w : World) : Calls Tryz.prog 34 #[Rs.rqV q, .int .i64 e] w fun r w' => r = .returned (Rt.ryV (rfY q e)) ∧ w.grownBy w' none := by
  unfold Rs.rqV Rt.ryV rfY
  go_enter Tryz.func34, Tryz.ntmps34
  go_wp2
  exact bodyPost_ret (results_cell_row rfl _ _ (w.heap.size + 1) 31 _ (0, 0) _ rfl (new2 w _ _) Tryz.underlying31 rfl (by kernel_rfl)) rfl ⟨rfl, grown_alloc2 w _ _⟩
set_option maxHeartbeats 4000000 in
theorem reply_any (q : Rs.Rq) (r : Rc) (w : World) : Calls Tryz.prog 19 #[Rs.rqV q, Rk.rcV r] w fun e w' => e = .returned (Rt.ryV (rpY q r)) ∧ w.grownBy w' none := by
  unfold Rs.rqV Rt.ryV rpY Rk.rcV
  obtain ⟨k, t, i, s, u⟩ := q
  simp only
  rcases (show k = 1 ∨ k = 4 ∨ k = 7 ∨ (k ≠ 1 ∧ k ≠ 4 ∧ k ≠ 7) by omega) with rfl | rfl | rfl | ⟨h1, h2, h3⟩
  · simp only [if_true, if_false, show ((1 : Int) = 4) = False from by decide, show ((1 : Int) = 7) = False from by decide]
    go_enter Tryz.func19, Tryz.ntmps19
    go_wp2
    (try go_region)
    all_goals (try go_wp2)
    all_goals first
      | exact bodyPost_ret (results_cell_row rfl _ _ (w.heap.size + 1 + 1) 31 _ (0, 0) _ rfl (drew_at (new34 w _ _ _ _)) Tryz.underlying31 rfl (by kernel_rfl)) rfl ⟨rfl, grown_trans (grown_alloc4 w _ _ _ _) (grown_drew _ none)⟩
      | exact bodyPost_ret (results_cell_row rfl _ _ (w.heap.size + 1 + 1) 31 _ (0, 0) _ rfl (new34 w _ _ _ _) Tryz.underlying31 rfl (by kernel_rfl)) rfl ⟨rfl, grown_alloc4 w _ _ _ _⟩
  · simp only [if_true, if_false, show ((4 : Int) = 1) = False from by decide, show ((4 : Int) = 7) = False from by decide]
    go_enter Tryz.func19, Tryz.ntmps19
    go_wp2
    (try go_region)
    all_goals (try go_wp2)
    all_goals first
      | exact bodyPost_ret (results_cell_row rfl _ _ (w.heap.size + 1 + 1) 31 _ (0, 0) _ rfl (drew_at (new34 w _ _ _ _)) Tryz.underlying31 rfl (by kernel_rfl)) rfl ⟨rfl, grown_trans (grown_alloc4 w _ _ _ _) (grown_drew _ none)⟩
      | exact bodyPost_ret (results_cell_row rfl _ _ (w.heap.size + 1 + 1) 31 _ (0, 0) _ rfl (new34 w _ _ _ _) Tryz.underlying31 rfl (by kernel_rfl)) rfl ⟨rfl, grown_alloc4 w _ _ _ _⟩
  · simp only [if_true, if_false, show ((7 : Int) = 1) = False from by decide, show ((7 : Int) = 4) = False from by decide]
    go_enter Tryz.func19, Tryz.ntmps19
    go_wp2
    (try go_region)
    all_goals (try go_wp2)
    all_goals first
      | exact bodyPost_ret (results_cell_row rfl _ _ (w.heap.size + 1 + 1) 31 _ (0, 0) _ rfl (drew_at (new34 w _ _ _ _)) Tryz.underlying31 rfl (by kernel_rfl)) rfl ⟨rfl, grown_trans (grown_alloc4 w _ _ _ _) (grown_drew _ none)⟩
      | exact bodyPost_ret (results_cell_row rfl _ _ (w.heap.size + 1 + 1) 31 _ (0, 0) _ rfl (new34 w _ _ _ _) Tryz.underlying31 rfl (by kernel_rfl)) rfl ⟨rfl, grown_alloc4 w _ _ _ _⟩
  · rw [if_neg h1, if_neg h2, if_neg h1, if_neg h3]
    go_enter Tryz.func19, Tryz.ntmps19
    go_wp2
    exact bodyPost_ret (results_cell_row rfl _ _ (w.heap.size + 1 + 1) 31 _ (0, 0) _ rfl (new34 w _ _ _ _) Tryz.underlying31 rfl (by kernel_rfl)) rfl ⟨rfl, grown_alloc4 w _ _ _ _⟩
set_option maxHeartbeats 4000000 in
theorem rreply_any (q : Rs.Rq) (r : Rc) (w : World) : Calls Tryz.prog 20 #[Rs.rqV q, Rk.rcV r] w fun e w' => e = .returned (Rt.ryV (rpY q r)) ∧ w.grownBy w' none := by
  unfold Rs.rqV Rt.ryV rpY Rk.rcV
  obtain ⟨k, t, i, s, u⟩ := q
  simp only
  rcases (show k = 1 ∨ k = 4 ∨ k = 7 ∨ (k ≠ 1 ∧ k ≠ 4 ∧ k ≠ 7) by omega) with rfl | rfl | rfl | ⟨h1, h2, h3⟩
  · simp only [if_true, if_false, show ((1 : Int) = 4) = False from by decide, show ((1 : Int) = 7) = False from by decide]
    go_enter Tryz.func20, Tryz.ntmps20
    go_wp2
    (try go_region)
    all_goals (try go_wp2)
    all_goals first
      | exact bodyPost_ret (results_cell_row rfl _ _ (w.heap.size + 1 + 1) 31 _ (0, 0) _ rfl (drew_at (new34 w _ _ _ _)) Tryz.underlying31 rfl (by kernel_rfl)) rfl ⟨rfl, grown_trans (grown_alloc4 w _ _ _ _) (grown_drew _ none)⟩
      | exact bodyPost_ret (results_cell_row rfl _ _ (w.heap.size + 1 + 1) 31 _ (0, 0) _ rfl (new34 w _ _ _ _) Tryz.underlying31 rfl (by kernel_rfl)) rfl ⟨rfl, grown_alloc4 w _ _ _ _⟩
  · simp only [if_true, if_false, show ((4 : Int) = 1) = False from by decide, show ((4 : Int) = 7) = False from by decide]
    go_enter Tryz.func20, Tryz.ntmps20
    go_wp2
    (try go_region)
    all_goals (try go_wp2)
    all_goals first
      | exact bodyPost_ret (results_cell_row rfl _ _ (w.heap.size + 1 + 1) 31 _ (0, 0) _ rfl (drew_at (new34 w _ _ _ _)) Tryz.underlying31 rfl (by kernel_rfl)) rfl ⟨rfl, grown_trans (grown_alloc4 w _ _ _ _) (grown_drew _ none)⟩
      | exact bodyPost_ret (results_cell_row rfl _ _ (w.heap.size + 1 + 1) 31 _ (0, 0) _ rfl (new34 w _ _ _ _) Tryz.underlying31 rfl (by kernel_rfl)) rfl ⟨rfl, grown_alloc4 w _ _ _ _⟩
  · simp only [if_true, if_false, show ((7 : Int) = 1) = False from by decide, show ((7 : Int) = 4) = False from by decide]
    go_enter Tryz.func20, Tryz.ntmps20
    go_wp2
    (try go_region)
    all_goals (try go_wp2)
    all_goals first
      | exact bodyPost_ret (results_cell_row rfl _ _ (w.heap.size + 1 + 1) 31 _ (0, 0) _ rfl (drew_at (new34 w _ _ _ _)) Tryz.underlying31 rfl (by kernel_rfl)) rfl ⟨rfl, grown_trans (grown_alloc4 w _ _ _ _) (grown_drew _ none)⟩
      | exact bodyPost_ret (results_cell_row rfl _ _ (w.heap.size + 1 + 1) 31 _ (0, 0) _ rfl (new34 w _ _ _ _) Tryz.underlying31 rfl (by kernel_rfl)) rfl ⟨rfl, grown_alloc4 w _ _ _ _⟩
  · rw [if_neg h1, if_neg h2, if_neg h1, if_neg h3]
    go_enter Tryz.func20, Tryz.ntmps20
    go_wp2
    exact bodyPost_ret (results_cell_row rfl _ _ (w.heap.size + 1 + 1) 31 _ (0, 0) _ rfl (new34 w _ _ _ _) Tryz.underlying31 rfl (by kernel_rfl)) rfl ⟨rfl, grown_alloc4 w _ _ _ _⟩
set_option maxHeartbeats 2000000 in
/-- What asks for room: a closure over the kind. -/
theorem logHas_any (k : Int) (w : World) : Calls Tryz.prog 80 #[.int .i64 k] w fun e w' => e = .returned (.func (.func 139) #[] #[.pointer (some ⟨w.heap.size, 0, none⟩)]) ∧ w' = w.alloc (.cells #[.int .i64 k] 26) := by
  go_enter Tryz.func80, Tryz.ntmps80
  go_wp2
  go_ret
  exact ⟨rfl, rfl⟩
end Go.Proofs.YtjfhilignbeboaaGreatDoor
namespace Go.Proofs.YtjfhilignbeboaaGreatDoor
/- cases: ruleOf. -/
open Go.RowKit
attribute [local go_sem ↓] Go.wp_at_zero Go.wp_at_succ
attribute [local go_sem] Oper.semAt_some
def fnV (f : Nat) : Value := .func (.func f) #[] #[]
def lgV (c : Nat) : Value := .func (.func 139) #[] #[.pointer (some ⟨c, 0, none⟩)]
def rlV (g n f : Nat) : Value := .agg #[.slice (some ⟨g, 0, none⟩) n n, .func (.func f) #[] #[]]
/-- A list of checks, the last of them asking for the room of a record of kind k. -/
structure RlAt (w W : World) (g c : Nat) (fs : List Nat) (k : Int) : Prop where
  row : W.heap[g]? = some (.cells (fs.map fnV ++ [lgV c]).toArray 90 (0, 0))
  box : W.heap[c]? = some (.cells [Value.int .i64 k].toArray 26 (0, 0))
  g0 : w.heap.size ≤ g
  c0 : w.heap.size ≤ c
set_option maxHeartbeats 4000000 in
theorem rule_1 (w : World) : Calls Tryz.prog 33 #[.int .i64 1] w fun e w' => ∃ g c, e = .returned (rlV g 6 81) ∧ RlAt w w' g c [75, 76, 77, 78, 79] 1 ∧ w.grownBy w' none := by
  have HL := hide (logHas_any 1)
  go_enter Tryz.func33, Tryz.ntmps33
  go_wp2_with fail
  refine (HL.out _).mono ?_
  rintro e w1 ⟨rfl, rfl⟩
  go_wp2
  exact bodyPost_ret (results_cell_row rfl _ _ w.heap.size 87 _ (0, 0) _ rfl (new13 w _ _ _) Tryz.underlying87 rfl (by kernel_rfl)) rfl ⟨_, _, rfl, ⟨new3 w _ _ _, new23 w _ _ _, by omega, by omega⟩, grown_alloc3 w _ _ _⟩
set_option maxHeartbeats 4000000 in
theorem rule_2 (w : World) : Calls Tryz.prog 33 #[.int .i64 2] w fun e w' => ∃ g c, e = .returned (rlV g 2 83) ∧ RlAt w w' g c [82] 2 ∧ w.grownBy w' none := by
  have HL := hide (logHas_any 2)
  go_enter Tryz.func33, Tryz.ntmps33
  go_wp2_with fail
  refine (HL.out _).mono ?_
  rintro e w1 ⟨rfl, rfl⟩
  go_wp2
  exact bodyPost_ret (results_cell_row rfl _ _ w.heap.size 87 _ (0, 0) _ rfl (new13 w _ _ _) Tryz.underlying87 rfl (by kernel_rfl)) rfl ⟨_, _, rfl, ⟨new3 w _ _ _, new23 w _ _ _, by omega, by omega⟩, grown_alloc3 w _ _ _⟩
set_option maxHeartbeats 4000000 in
theorem rule_3 (w : World) : Calls Tryz.prog 33 #[.int .i64 3] w fun e w' => ∃ g c, e = .returned (rlV g 2 84) ∧ RlAt w w' g c [82] 3 ∧ w.grownBy w' none := by
  have HL := hide (logHas_any 3)
  go_enter Tryz.func33, Tryz.ntmps33
  go_wp2_with fail
  refine (HL.out _).mono ?_
  rintro e w1 ⟨rfl, rfl⟩
  go_wp2
  exact bodyPost_ret (results_cell_row rfl _ _ w.heap.size 87 _ (0, 0) _ rfl (new13 w _ _ _) Tryz.underlying87 rfl (by kernel_rfl)) rfl ⟨_, _, rfl, ⟨new3 w _ _ _, new23 w _ _ _, by omega, by omega⟩, grown_alloc3 w _ _ _⟩
set_option maxHeartbeats 4000000 in
theorem rule_4 (w : World) : Calls Tryz.prog 33 #[.int .i64 4] w fun e w' => ∃ g c, e = .returned (rlV g 4 85) ∧ RlAt w w' g c [82, 75, 78] 4 ∧ w.grownBy w' none := by
  have HL := hide (logHas_any 4)
  go_enter Tryz.func33, Tryz.ntmps33
  go_wp2_with fail
  refine (HL.out _).mono ?_
  rintro e w1 ⟨rfl, rfl⟩
  go_wp2
  exact bodyPost_ret (results_cell_row rfl _ _ w.heap.size 87 _ (0, 0) _ rfl (new13 w _ _ _) Tryz.underlying87 rfl (by kernel_rfl)) rfl ⟨_, _, rfl, ⟨new3 w _ _ _, new23 w _ _ _, by omega, by omega⟩, grown_alloc3 w _ _ _⟩
set_option maxHeartbeats 4000000 in
theorem rule_7 (w : World) : Calls Tryz.prog 33 #[.int .i64 7] w fun e w' => ∃ g c, e = .returned (rlV g 3 86) ∧ RlAt w w' g c [76, 77] 5 ∧ w.grownBy w' none := by
  have HL := hide (logHas_any 5)
  go_enter Tryz.func33, Tryz.ntmps33
  go_wp2_with fail
  refine (HL.out _).mono ?_
  rintro e w1 ⟨rfl, rfl⟩
  go_wp2
  exact bodyPost_ret (results_cell_row rfl _ _ w.heap.size 87 _ (0, 0) _ rfl (new13 w _ _ _) Tryz.underlying87 rfl (by kernel_rfl)) rfl ⟨_, _, rfl, ⟨new3 w _ _ _, new23 w _ _ _, by omega, by omega⟩, grown_alloc3 w _ _ _⟩
end Go.Proofs.YtjfhilignbeboaaGreatDoor
/- Books that are the same; a new one. -/
namespace Go.Proofs.YtjfhilignbeboaaGreatDoor
open Go.RowKit
attribute [local go_sem ↓] Go.wp_at_zero Go.wp_at_succ
attribute [local go_sem] Oper.semAt_some
theorem isLike_eq (a b c c' : Nat) (w : World) : Calls Tryz.prog 52 #[limV a b c, limV a b c'] w fun e w' => e = .returned (.bool true) ∧ w.grownBy w' none := by
  unfold limV
  generalize (a : Int) = a
  generalize (b : Int) = b
  generalize (c : Int) = c
  generalize (c' : Int) = c'
  go_enter Tryz.func52, Tryz.ntmps52
  go_wp2
  go_ret
  exact ⟨rfl, grown_trans (grown_alloc _ _) (grown_alloc _ _)⟩
set_option maxHeartbeats 8000000 in
theorem same_eq {w : World} {p q : Bp} {S : Sb} {K K' : Nat} (hp : BkAt w p S K) (hq : BkAt w q S K') (hw : S.Wk) : Calls Tryz.prog 16 #[.pointer (some ⟨p.b, 0, none⟩), .pointer (some ⟨q.b, 0, none⟩)] w fun e w' => e = .returned (.bool true) ∧ w.grownBy w' none := by
  have HN1 := hide hp.isNone
  have HN2 := hide hq.isNone
  have HL : Hid (∀ W, Calls Tryz.prog 52 #[limV S.a S.b S.c, limV S.a S.b S.c] W fun e w' => e = .returned (.bool true) ∧ W.grownBy w' none) := fun W => isLike_eq _ _ _ _ W
  have HB1 : Hid (∀ W, w.grownBy W none → Calls Tryz.prog 54 #[.pointer (some ⟨p.b, 0, none⟩)] W fun e w' => ∃ v, e = .returned v ∧ BgA w' v S.L ∧ W.grownBy w' none) := by
    intro W hW
    refine (bookings_any (hp.then hW) hw).mono ?_
    rintro e w' ⟨v, rfl, h1, h2⟩
    exact ⟨v, rfl, BgA.own h1, h2⟩
  have HB2 : Hid (∀ W, w.grownBy W none → Calls Tryz.prog 54 #[.pointer (some ⟨q.b, 0, none⟩)] W fun e w' => ∃ v, e = .returned v ∧ BgA w' v S.L ∧ W.grownBy w' none) := by
    intro W hW
    refine (bookings_any (hq.then hW) hw).mono ?_
    rintro e w' ⟨v, rfl, h1, h2⟩
    exact ⟨v, rfl, BgA.own h1, h2⟩
  have HE : Hid (∀ W v u, BgA W v S.L → BgA W u S.L → Calls Tryz.prog 53 #[v, u] W fun e w' => e = .returned (.bool true) ∧ W.grownBy w' none) := by
    intro W v u h1 h2
    have := equal_any h1 h2 (by have := hw.few; have := hw.b1; omega)
    rw [decide_eq_true rfl] at this
    exact this
  have HK : Hid (∀ W, w.grownBy W none → (W.cell? ⟨p.b, 0, none⟩ = some (.int .i64 (S.a : Int)) ∧ W.cell? ⟨p.b, 1, none⟩ = some (.int .i64 (S.b : Int)) ∧ W.cell? ⟨p.b, 2, none⟩ = some (.int .i64 (S.c : Int)) ∧ W.cell? ⟨p.b, 4, none⟩ = some (.int .u32 (S.n : Int)) ∧ W.cell? ⟨p.b, 5, none⟩ = some (.int .i64 S.t)) ∧ W.cell? ⟨q.b, 0, none⟩ = some (.int .i64 (S.a : Int)) ∧ W.cell? ⟨q.b, 1, none⟩ = some (.int .i64 (S.b : Int)) ∧ W.cell? ⟨q.b, 2, none⟩ = some (.int .i64 (S.c : Int)) ∧ W.cell? ⟨q.b, 4, none⟩ = some (.int .u32 (S.n : Int)) ∧ W.cell? ⟨q.b, 5, none⟩ = some (.int .i64 S.t)) := fun W hW =>
    ⟨⟨(hp.then hW).cells 0 _ rfl, (hp.then hW).cells 1 _ rfl, (hp.then hW).cells 2 _ rfl, (hp.then hW).cells 4 _ rfl, (hp.then hW).cells 5 _ rfl⟩, (hq.then hW).cells 0 _ rfl, (hq.then hW).cells 1 _ rfl, (hq.then hW).cells 2 _ rfl, (hq.then hW).cells 4 _ rfl, (hq.then hW).cells 5 _ rfl⟩
  have hK0 := HK.out w (grown_refl _ _)
  clear hp hq hw
  unfold limV at HL
  generalize (S.a : Int) = a at *
  generalize (S.b : Int) = b at *
  generalize (S.c : Int) = c at *
  generalize (S.n : Int) = n at *
  generalize S.t = t at *
  go_enter Tryz.func16, Tryz.ntmps16
  go_wp2_with fail
  refine HN1.out.mono ?_
  rintro e w1 ⟨rfl, rfl⟩
  go_wp2_with fail
  refine HN2.out.mono ?_
  rintro e w2 ⟨rfl, rfl⟩
  go_wp2
  go_region_held3 (fun W => (W.cell? ⟨p.b, 0, none⟩ = some (.int .i64 a) ∧ W.cell? ⟨p.b, 1, none⟩ = some (.int .i64 b) ∧ W.cell? ⟨p.b, 2, none⟩ = some (.int .i64 c) ∧ W.cell? ⟨p.b, 4, none⟩ = some (.int .u32 n) ∧ W.cell? ⟨p.b, 5, none⟩ = some (.int .i64 t)) ∧ W.cell? ⟨q.b, 0, none⟩ = some (.int .i64 a) ∧ W.cell? ⟨q.b, 1, none⟩ = some (.int .i64 b) ∧ W.cell? ⟨q.b, 2, none⟩ = some (.int .i64 c) ∧ W.cell? ⟨q.b, 4, none⟩ = some (.int .u32 n) ∧ W.cell? ⟨q.b, 5, none⟩ = some (.int .i64 t)) (first | assumption | exact hK0)
    ((first
      | (go_at_call 52; refine (HL.out _).mono ?_; rintro e w3 ⟨rfl, hg3⟩; have g3 := grown_trans (grown_drew _ none) hg3; have hK3 := HK.out _ g3)
      | (go_at_call_of 54 (Value.pointer (some ⟨p.b, 0, none⟩)); refine (HB1.out _ g3).mono ?_; rintro e w4 ⟨v, rfl, hv4, hg4⟩; have g4 := grown_trans g3 hg4; have hK4 := HK.out _ g4)
      | (go_at_call_of 54 (Value.pointer (some ⟨q.b, 0, none⟩)); refine (HB2.out _ g4).mono ?_; rintro e w5 ⟨u, rfl, hu5, hg5⟩; have g5 := grown_trans g4 hg5; have hK5 := HK.out _ g5; have hv5 := hv4.then hg5)
      | (go_at_call 53; refine (HE.out _ _ _ hv5 hu5).mono ?_; rintro e w6 ⟨rfl, hg6⟩; have g6 := grown_trans g5 hg6; have hK6 := HK.out _ g6)))
  go_wp2
  go_ret
  exact ⟨rfl, g6⟩
end Go.Proofs.YtjfhilignbeboaaGreatDoor
/- Books alike but for the group; their rows copied. -/
namespace Go.Proofs.YtjfhilignbeboaaGreatDoor
open Go.RowKit
attribute [local go_sem ↓] Go.wp_at_zero Go.wp_at_succ
attribute [local go_sem] Oper.semAt_some
set_option maxHeartbeats 4000000 in
theorem shape_any {w : World} {p : Bp} {S : Sb} {K : Nat} (h : BkAt w p S K) : Calls Tryz.prog 61 #[.pointer (some ⟨p.b, 0, none⟩)] w fun e w' => e = .returned (limV S.a S.b S.c) ∧ w.grownBy w' none := by
  have m0 := Bm.start h [.int .i64 0, .int .i64 0, .int .i64 0] 36
  have HC1 := hide m0.bk.isNone
  have a0 := m0.ff.a0
  have a1 := m0.ff.a1
  have a2 := m0.ff.a2
  obtain ⟨d0, d1, d2, d3⟩ := box3 m0.box
  have HM := hide m0
  clear h m0
  unfold limV
  go_enter Tryz.func61, Tryz.ntmps61
  go_wp2_with fail
  refine HC1.out.mono ?_
  rintro e w1 ⟨rfl, rfl⟩
  go_wp2
  obtain ⟨r1, r2⟩ := row3 _ HM.out.box (.int .i64 (S.a : Int)) (.int .i64 (S.b : Int)) (.int .i64 (S.c : Int))
  first
    | exact bodyPost_ret (results_cell_row rfl _ _ w.heap.size 36 #[.int .i64 (S.a : Int), .int .i64 (S.b : Int), .int .i64 (S.c : Int)] (0, 0) _ rfl r1 Tryz.underlying36 rfl (by kernel_rfl)) rfl ⟨rfl, gn_set (gn_set (gn_set HM.out.gr (Nat.le_refl _)) (Nat.le_refl _)) (Nat.le_refl _)⟩
    | exact bodyPost_ret (results_cell_row rfl _ _ w.heap.size 36 #[.int .i64 (S.a : Int), .int .i64 (S.b : Int), .int .i64 (S.c : Int)] (0, 0) _ rfl (heap_alloc_new w _) Tryz.underlying36 rfl (by kernel_rfl)) rfl ⟨rfl, grown_alloc _ _⟩
end Go.Proofs.YtjfhilignbeboaaGreatDoor
