/- Texts joined: BkG, Rr, BkH. -/
import Derived.Deep.CutRange
import Derived.Deep.DeepCutAuto
import Derived.RangeFuncNested
import Derived.RangeFuncBound
import Derived.RangeFuncCalls
import Derived.RangeFuncLeaves
import Derived.RangeFuncBox
import Derived.Shelf.Abstract
import Derived.Shelf.RegionOpen
import Derived.OwnWalkIn
import Derived.TacticsInMore
import Derived.LoopNIn
import Derived.LoopIn
import Derived.Shelf.SlSortCmp.WholeK
import Derived.Ground.SlsfProg
import Derived.Shelf.SlSortCmp.NoneTotal
import Derived.Sort.OwnSorted
import Derived.Test.YtcbiloomnkbalaaGreatDoorJyAh
import Derived.OrdersIn
import Derived.OrdersHeld
import Derived.Deep.RegionHeld
import Derived.Deep.Quiet
import Derived.Test.YtcbiloomnkbalaaGreatDoorJyAj
/- A book made. -/
namespace Go.Proofs.YtcbiloomnkbalaaGreatDoor
open Go.RowKit
attribute [local go_sem ↓] Go.wp_at_zero Go.wp_at_succ
theorem Tryz.info78 : (Tryz.prog.info? 78).map (fun i => (i.zero, i.size, i.bytes)) = some (some (.agg #[.int .u32 0, .int .i64 0, .int .i64 0]), 3, 24) := by kernel_rfl
theorem bgs_zero (n : Nat) : madeCells #[.int .u32 0, .int .i64 0, .int .i64 0] (n * 3) = (bgs (List.replicate n ⟨0, 0, 0⟩)).toArray := by
  apply Array.ext'
  apply List.ext_getElem?
  intro j
  by_cases hj : j < n * 3
  · obtain ⟨h1, h2, h3⟩ := bgs_get (R := List.replicate n ⟨0, 0, 0⟩) (i := j / 3) (by simp; omega)
    have hr : rd (List.replicate n ⟨0, 0, 0⟩) (j / 3) = ⟨0, 0, 0⟩ := by unfold rd; rw [List.getElem?_replicate]; split <;> rfl
    rw [hr] at h1 h2 h3
    have hm : j % 3 = 0 ∨ j % 3 = 1 ∨ j % 3 = 2 := by omega
    rcases hm with hm | hm | hm
    · rw [show j / 3 * 3 = j by omega] at h1
      simp [madeCells, hj, hm, h1]
    · rw [show j / 3 * 3 + 1 = j by omega] at h2
      simp [madeCells, hj, hm, h2]
    · rw [show j / 3 * 3 + 2 = j by omega] at h3
      simp [madeCells, hj, hm, h3]
  · rw [List.getElem?_eq_none (by simp [madeCells]; omega), List.getElem?_eq_none (by simp [bgs_length]; omega)]
theorem make_bgs (n : Nat) (h : n ≤ 1024) (w : World) : (Instr.makeSlice 25 (.int .i64 (n : Int)) (.int .i64 (n : Int))).run Tryz.prog w = .ok (.slice (some ⟨w.heap.size, 0, none⟩) n n) (w.alloc (.cells (bgs (List.replicate n ⟨0, 0, 0⟩)).toArray 78)) := by
  obtain ⟨i0, hi, hz0, hz1, hz2⟩ := info_parts Tryz.info78
  rw [run_make (P := Tryz.prog) (w := w) 25 78 i0 (.agg #[.int .u32 0, .int .i64 0, .int .i64 0]) Tryz.underlying25 hi hz0 .i64 .i64 (n : Int) (n : Int) (by omega) (by omega) (by rw [hz2]; omega) (by omega), hz1]
  simp [bgs_zero, Value.cells]
theorem sx_g {w W : World} {X : Nat} {u v z : Value} (h : w.cell? ⟨X, 0, none⟩ = some u ∧ w.cell? ⟨X, 1, none⟩ = some v ∧ w.cell? ⟨X, 2, none⟩ = some z) (g : w.grownBy W none) : W.cell? ⟨X, 0, none⟩ = some u ∧ W.cell? ⟨X, 1, none⟩ = some v ∧ W.cell? ⟨X, 2, none⟩ = some z :=
  ⟨g.cell h.1 (by simp), g.cell h.2.1 (by simp), g.cell h.2.2 (by simp)⟩
theorem gn_drew {a b : World} (h : a.grownBy b none) : a.grownBy b.drew none := grown_trans h (grown_drew _ _)
theorem gn_alloc {a b : World} (h : a.grownBy b none) (o : Obj) : a.grownBy (b.alloc o) none := grown_trans h (grown_alloc _ _)
theorem gn_set {a b : World} (h : a.grownBy b none) {g j : Nat} {v : Value} (hg : a.heap.size ≤ g) : a.grownBy (b.setCell ⟨g, j, none⟩ v) none := grown_then h (grown_setCell b g j v) (fun i e => .inl (by cases e; exact hg))
/-- The cells of a book that is being made. -/
def emc (a b c n : Nat) (t : Int) (tb sg x hm : Nat) : List Value := [.int .i64 (a : Int), .int .i64 (b : Int), .int .i64 (c : Int), .pointer none, .int .u32 (n : Int), .int .i64 t, .pointer (some ⟨tb, 0, none⟩), .slice (some ⟨sg, 0, none⟩) a a, .pointer (some ⟨x, 0, none⟩), .pointer none, .map (some hm)]
structure Emp (w W : World) (a b c n : Nat) (t : Int) (tb x vb bb sg hm : Nat) : Prop where
  gr : w.grownBy W none
  var : W.heap[vb]? = some (.cells [Value.pointer (some ⟨bb, 0, none⟩)].toArray 31 (0, 0))
  head : W.heap[bb]? = some (.cells (emc a b c n t tb sg x hm).toArray 66 (0, 0))
  row : W.heap[sg]? = some (.cells (bgs (List.replicate a ⟨0, 0, 0⟩)).toArray 78 (0, 0))
  map : W.heap[hm]? = some (.map #[] 0)
  lv : w.heap.size ≤ vb
  lb : w.heap.size ≤ bb
  ls : w.heap.size ≤ sg
  lm : w.heap.size ≤ hm
theorem Emp.drew {w W : World} {a b c n : Nat} {t : Int} {tb x vb bb sg hm : Nat} (h : Emp w W a b c n t tb x vb bb sg hm) : Emp w W.drew a b c n t tb x vb bb sg hm := ⟨gn_drew h.gr, h.var, h.head, h.row, h.map, h.lv, h.lb, h.ls, h.lm⟩
theorem four (w : World) (o0 o1 o2 o3 : Obj) : w.grownBy ((((w.alloc o0).alloc o1).alloc o2).alloc o3) none ∧ ((((w.alloc o0).alloc o1).alloc o2).alloc o3).heap[w.heap.size]? = some o0 ∧ ((((w.alloc o0).alloc o1).alloc o2).alloc o3).heap[w.heap.size + 1]? = some o1 ∧ ((((w.alloc o0).alloc o1).alloc o2).alloc o3).heap[w.heap.size + 1 + 1]? = some o2 ∧ ((((w.alloc o0).alloc o1).alloc o2).alloc o3).heap[w.heap.size + 1 + 1 + 1]? = some o3 := by
  have h0 := heap_alloc_new w o0
  have h1 := heap_alloc_new (w.alloc o0) o1
  have h2 := heap_alloc_new ((w.alloc o0).alloc o1) o2
  have h3 := heap_alloc_new (((w.alloc o0).alloc o1).alloc o2) o3
  simp only [World.size_alloc] at h1 h2 h3
  have k : ∀ {W : World} {o : Obj} {i : Nat} {v : Obj}, W.heap[i]? = some v → (W.alloc o).heap[i]? = some v := fun {W o i v} h => ((grown_alloc W o).block _ (row_lt h) (by simp)).trans h
  exact ⟨gn_alloc (gn_alloc (gn_alloc (gn_alloc (grown_refl _ _) _) _) _) _, k (k (k h0)), k (k h1), k h2, h3⟩
theorem emp_0 (w : World) (a b c n : Nat) (t : Int) (tb x : Nat) : Emp w ((((w.alloc (.cells (bgs (List.replicate a ⟨0, 0, 0⟩)).toArray 78)).alloc (.map #[] 0)).alloc (.cells #[.int .i64 (a : Int), .int .i64 (b : Int), .int .i64 (c : Int), .pointer none, .int .u32 (n : Int), .int .i64 t, .pointer (some ⟨tb, 0, none⟩), .slice (some ⟨w.heap.size, 0, none⟩) a a, .pointer (some ⟨x, 0, none⟩), .pointer none, .map (some (w.heap.size + 1))] 66)).alloc (.cells #[.pointer (some ⟨w.heap.size + 1 + 1, 0, none⟩)] 31)).drew a b c n t tb x (w.heap.size + 1 + 1 + 1) (w.heap.size + 1 + 1) (w.heap.size) (w.heap.size + 1) := by
  have f := four w (.cells (bgs (List.replicate a ⟨0, 0, 0⟩)).toArray 78) (.map #[] 0) (.cells #[.int .i64 (a : Int), .int .i64 (b : Int), .int .i64 (c : Int), .pointer none, .int .u32 (n : Int), .int .i64 t, .pointer (some ⟨tb, 0, none⟩), .slice (some ⟨w.heap.size, 0, none⟩) a a, .pointer (some ⟨x, 0, none⟩), .pointer none, .map (some (w.heap.size + 1))] 66) (.cells #[.pointer (some ⟨w.heap.size + 1 + 1, 0, none⟩)] 31)
  exact Emp.drew ⟨f.1, f.2.2.2.2, f.2.2.2.1, f.2.1, f.2.2.1, by omega, by omega, by omega, by omega⟩
theorem emp_1 (w : World) (a b c n : Nat) (t : Int) (tb x : Nat) : Emp w ((((w.alloc (.cells (bgs (List.replicate a ⟨0, 0, 0⟩)).toArray 78)).alloc (.map #[] 0)).alloc (.cells #[.pointer (some ⟨w.heap.size + 1 + 1 + 1, 0, none⟩)] 31)).alloc (.cells #[.int .i64 (a : Int), .int .i64 (b : Int), .int .i64 (c : Int), .pointer none, .int .u32 (n : Int), .int .i64 t, .pointer (some ⟨tb, 0, none⟩), .slice (some ⟨w.heap.size, 0, none⟩) a a, .pointer (some ⟨x, 0, none⟩), .pointer none, .map (some (w.heap.size + 1))] 66)).drew a b c n t tb x (w.heap.size + 1 + 1) (w.heap.size + 1 + 1 + 1) (w.heap.size) (w.heap.size + 1) := by
  have f := four w (.cells (bgs (List.replicate a ⟨0, 0, 0⟩)).toArray 78) (.map #[] 0) (.cells #[.pointer (some ⟨w.heap.size + 1 + 1 + 1, 0, none⟩)] 31) (.cells #[.int .i64 (a : Int), .int .i64 (b : Int), .int .i64 (c : Int), .pointer none, .int .u32 (n : Int), .int .i64 t, .pointer (some ⟨tb, 0, none⟩), .slice (some ⟨w.heap.size, 0, none⟩) a a, .pointer (some ⟨x, 0, none⟩), .pointer none, .map (some (w.heap.size + 1))] 66)
  exact Emp.drew ⟨f.1, f.2.2.2.1, f.2.2.2.2, f.2.1, f.2.2.1, by omega, by omega, by omega, by omega⟩
theorem emp_2 (w : World) (a b c n : Nat) (t : Int) (tb x : Nat) : Emp w ((((w.alloc (.cells (bgs (List.replicate a ⟨0, 0, 0⟩)).toArray 78)).alloc (.cells #[.pointer (some ⟨w.heap.size + 1 + 1 + 1, 0, none⟩)] 31)).alloc (.map #[] 0)).alloc (.cells #[.int .i64 (a : Int), .int .i64 (b : Int), .int .i64 (c : Int), .pointer none, .int .u32 (n : Int), .int .i64 t, .pointer (some ⟨tb, 0, none⟩), .slice (some ⟨w.heap.size, 0, none⟩) a a, .pointer (some ⟨x, 0, none⟩), .pointer none, .map (some (w.heap.size + 1 + 1))] 66)).drew a b c n t tb x (w.heap.size + 1) (w.heap.size + 1 + 1 + 1) (w.heap.size) (w.heap.size + 1 + 1) := by
  have f := four w (.cells (bgs (List.replicate a ⟨0, 0, 0⟩)).toArray 78) (.cells #[.pointer (some ⟨w.heap.size + 1 + 1 + 1, 0, none⟩)] 31) (.map #[] 0) (.cells #[.int .i64 (a : Int), .int .i64 (b : Int), .int .i64 (c : Int), .pointer none, .int .u32 (n : Int), .int .i64 t, .pointer (some ⟨tb, 0, none⟩), .slice (some ⟨w.heap.size, 0, none⟩) a a, .pointer (some ⟨x, 0, none⟩), .pointer none, .map (some (w.heap.size + 1 + 1))] 66)
  exact Emp.drew ⟨f.1, f.2.2.1, f.2.2.2.2, f.2.1, f.2.2.2.1, by omega, by omega, by omega, by omega⟩
theorem emp_3 (w : World) (a b c n : Nat) (t : Int) (tb x : Nat) : Emp w ((((w.alloc (.map #[] 0)).alloc (.cells (bgs (List.replicate a ⟨0, 0, 0⟩)).toArray 78)).alloc (.cells #[.int .i64 (a : Int), .int .i64 (b : Int), .int .i64 (c : Int), .pointer none, .int .u32 (n : Int), .int .i64 t, .pointer (some ⟨tb, 0, none⟩), .slice (some ⟨w.heap.size + 1, 0, none⟩) a a, .pointer (some ⟨x, 0, none⟩), .pointer none, .map (some (w.heap.size))] 66)).alloc (.cells #[.pointer (some ⟨w.heap.size + 1 + 1, 0, none⟩)] 31)).drew a b c n t tb x (w.heap.size + 1 + 1 + 1) (w.heap.size + 1 + 1) (w.heap.size + 1) (w.heap.size) := by
  have f := four w (.map #[] 0) (.cells (bgs (List.replicate a ⟨0, 0, 0⟩)).toArray 78) (.cells #[.int .i64 (a : Int), .int .i64 (b : Int), .int .i64 (c : Int), .pointer none, .int .u32 (n : Int), .int .i64 t, .pointer (some ⟨tb, 0, none⟩), .slice (some ⟨w.heap.size + 1, 0, none⟩) a a, .pointer (some ⟨x, 0, none⟩), .pointer none, .map (some (w.heap.size))] 66) (.cells #[.pointer (some ⟨w.heap.size + 1 + 1, 0, none⟩)] 31)
  exact Emp.drew ⟨f.1, f.2.2.2.2, f.2.2.2.1, f.2.2.1, f.2.1, by omega, by omega, by omega, by omega⟩
theorem emp_4 (w : World) (a b c n : Nat) (t : Int) (tb x : Nat) : Emp w ((((w.alloc (.map #[] 0)).alloc (.cells (bgs (List.replicate a ⟨0, 0, 0⟩)).toArray 78)).alloc (.cells #[.pointer (some ⟨w.heap.size + 1 + 1 + 1, 0, none⟩)] 31)).alloc (.cells #[.int .i64 (a : Int), .int .i64 (b : Int), .int .i64 (c : Int), .pointer none, .int .u32 (n : Int), .int .i64 t, .pointer (some ⟨tb, 0, none⟩), .slice (some ⟨w.heap.size + 1, 0, none⟩) a a, .pointer (some ⟨x, 0, none⟩), .pointer none, .map (some (w.heap.size))] 66)).drew a b c n t tb x (w.heap.size + 1 + 1) (w.heap.size + 1 + 1 + 1) (w.heap.size + 1) (w.heap.size) := by
  have f := four w (.map #[] 0) (.cells (bgs (List.replicate a ⟨0, 0, 0⟩)).toArray 78) (.cells #[.pointer (some ⟨w.heap.size + 1 + 1 + 1, 0, none⟩)] 31) (.cells #[.int .i64 (a : Int), .int .i64 (b : Int), .int .i64 (c : Int), .pointer none, .int .u32 (n : Int), .int .i64 t, .pointer (some ⟨tb, 0, none⟩), .slice (some ⟨w.heap.size + 1, 0, none⟩) a a, .pointer (some ⟨x, 0, none⟩), .pointer none, .map (some (w.heap.size))] 66)
  exact Emp.drew ⟨f.1, f.2.2.2.1, f.2.2.2.2, f.2.2.1, f.2.1, by omega, by omega, by omega, by omega⟩
theorem emp_5 (w : World) (a b c n : Nat) (t : Int) (tb x : Nat) : Emp w ((((w.alloc (.map #[] 0)).alloc (.cells #[.pointer (some ⟨w.heap.size + 1 + 1 + 1, 0, none⟩)] 31)).alloc (.cells (bgs (List.replicate a ⟨0, 0, 0⟩)).toArray 78)).alloc (.cells #[.int .i64 (a : Int), .int .i64 (b : Int), .int .i64 (c : Int), .pointer none, .int .u32 (n : Int), .int .i64 t, .pointer (some ⟨tb, 0, none⟩), .slice (some ⟨w.heap.size + 1 + 1, 0, none⟩) a a, .pointer (some ⟨x, 0, none⟩), .pointer none, .map (some (w.heap.size))] 66)).drew a b c n t tb x (w.heap.size + 1) (w.heap.size + 1 + 1 + 1) (w.heap.size + 1 + 1) (w.heap.size) := by
  have f := four w (.map #[] 0) (.cells #[.pointer (some ⟨w.heap.size + 1 + 1 + 1, 0, none⟩)] 31) (.cells (bgs (List.replicate a ⟨0, 0, 0⟩)).toArray 78) (.cells #[.int .i64 (a : Int), .int .i64 (b : Int), .int .i64 (c : Int), .pointer none, .int .u32 (n : Int), .int .i64 t, .pointer (some ⟨tb, 0, none⟩), .slice (some ⟨w.heap.size + 1 + 1, 0, none⟩) a a, .pointer (some ⟨x, 0, none⟩), .pointer none, .map (some (w.heap.size))] 66)
  exact Emp.drew ⟨f.1, f.2.2.1, f.2.2.2.2, f.2.2.2.1, f.2.1, by omega, by omega, by omega, by omega⟩
theorem emp_6 (w : World) (a b c n : Nat) (t : Int) (tb x : Nat) : Emp w ((((w.alloc (.cells #[.pointer (some ⟨w.heap.size + 1 + 1 + 1, 0, none⟩)] 31)).alloc (.cells (bgs (List.replicate a ⟨0, 0, 0⟩)).toArray 78)).alloc (.map #[] 0)).alloc (.cells #[.int .i64 (a : Int), .int .i64 (b : Int), .int .i64 (c : Int), .pointer none, .int .u32 (n : Int), .int .i64 t, .pointer (some ⟨tb, 0, none⟩), .slice (some ⟨w.heap.size + 1, 0, none⟩) a a, .pointer (some ⟨x, 0, none⟩), .pointer none, .map (some (w.heap.size + 1 + 1))] 66)).drew a b c n t tb x (w.heap.size) (w.heap.size + 1 + 1 + 1) (w.heap.size + 1) (w.heap.size + 1 + 1) := by
  have f := four w (.cells #[.pointer (some ⟨w.heap.size + 1 + 1 + 1, 0, none⟩)] 31) (.cells (bgs (List.replicate a ⟨0, 0, 0⟩)).toArray 78) (.map #[] 0) (.cells #[.int .i64 (a : Int), .int .i64 (b : Int), .int .i64 (c : Int), .pointer none, .int .u32 (n : Int), .int .i64 t, .pointer (some ⟨tb, 0, none⟩), .slice (some ⟨w.heap.size + 1, 0, none⟩) a a, .pointer (some ⟨x, 0, none⟩), .pointer none, .map (some (w.heap.size + 1 + 1))] 66)
  exact Emp.drew ⟨f.1, f.2.1, f.2.2.2.2, f.2.2.1, f.2.2.2.1, by omega, by omega, by omega, by omega⟩
theorem emp_7 (w : World) (a b c n : Nat) (t : Int) (tb x : Nat) : Emp w ((((w.alloc (.cells #[.pointer (some ⟨w.heap.size + 1 + 1 + 1, 0, none⟩)] 31)).alloc (.map #[] 0)).alloc (.cells (bgs (List.replicate a ⟨0, 0, 0⟩)).toArray 78)).alloc (.cells #[.int .i64 (a : Int), .int .i64 (b : Int), .int .i64 (c : Int), .pointer none, .int .u32 (n : Int), .int .i64 t, .pointer (some ⟨tb, 0, none⟩), .slice (some ⟨w.heap.size + 1 + 1, 0, none⟩) a a, .pointer (some ⟨x, 0, none⟩), .pointer none, .map (some (w.heap.size + 1))] 66)).drew a b c n t tb x (w.heap.size) (w.heap.size + 1 + 1 + 1) (w.heap.size + 1 + 1) (w.heap.size + 1) := by
  have f := four w (.cells #[.pointer (some ⟨w.heap.size + 1 + 1 + 1, 0, none⟩)] 31) (.map #[] 0) (.cells (bgs (List.replicate a ⟨0, 0, 0⟩)).toArray 78) (.cells #[.int .i64 (a : Int), .int .i64 (b : Int), .int .i64 (c : Int), .pointer none, .int .u32 (n : Int), .int .i64 t, .pointer (some ⟨tb, 0, none⟩), .slice (some ⟨w.heap.size + 1 + 1, 0, none⟩) a a, .pointer (some ⟨x, 0, none⟩), .pointer none, .map (some (w.heap.size + 1))] 66)
  exact Emp.drew ⟨f.1, f.2.1, f.2.2.2.2, f.2.2.2.1, f.2.2.1, by omega, by omega, by omega, by omega⟩
/-- The book that is made: its parts lie apart. -/
theorem made_apart {s0 s1 s2 s3 : Nat} {p : Bp} (_h01 : s0 ≤ s1) (h12 : s1 ≤ s2) (_h23 : s2 ≤ s3) (ht : s0 ≤ p.tb ∧ p.tb < s1 ∧ s0 ≤ p.tg ∧ p.tg < s1 ∧ p.tb ≠ p.tg) (hi : ∀ i, p.ip.own i → s1 ≤ i ∧ i < s2) (hb : s2 ≤ p.b ∧ p.b < s3 ∧ s2 ≤ p.vb ∧ p.vb < s3 ∧ s2 ≤ p.sg ∧ p.sg < s3 ∧ s2 ≤ p.hm ∧ p.hm < s3 ∧ p.b ≠ p.vb ∧ p.b ≠ p.sg ∧ p.b ≠ p.hm ∧ p.vb ≠ p.sg ∧ p.vb ≠ p.hm ∧ p.sg ≠ p.hm) (hh : ∀ i, p.hp.own i → s3 ≤ i) : p.Apart ∧ ∀ i, p.own i → s0 ≤ i := by
  have key : ∀ i j, p.role j i → (j = 0 ∧ i = p.b) ∨ (j = 1 ∧ i = p.vb) ∨ (j = 2 ∧ i = p.sg) ∨ (j = 3 ∧ s1 ≤ i ∧ i < s2) ∨ (j = 4 ∧ i = p.tb) ∨ (j = 5 ∧ i = p.tg) ∨ (j = 6 ∧ s3 ≤ i) ∨ (j = 7 ∧ i = p.hm) := by
    rintro i j (h | h | h | ⟨h, e⟩ | h | h | ⟨h, e⟩ | h)
    · exact .inl h
    · exact .inr (.inl h)
    · exact .inr (.inr (.inl h))
    · have := hi i e; omega
    · exact .inr (.inr (.inr (.inr (.inl h))))
    · exact .inr (.inr (.inr (.inr (.inr (.inl h)))))
    · have := hh i e; omega
    · exact .inr (.inr (.inr (.inr (.inr (.inr (.inr h))))))
  constructor
  · intro i j l h1 h2
    have k1 := key i j h1
    have k2 := key i l h2
    rcases k1 with k1 | k1 | k1 | k1 | k1 | k1 | k1 | k1 <;> omega
  · rintro i ⟨j, h1⟩
    have k1 := key i j h1
    omega
/-- Blocks that hold unlike things are unlike. -/
theorem ne_obj {w : World} {i j : Nat} {o o' : Obj} (h : w.heap[i]? = some o) (h' : w.heap[j]? = some o') (hne : o ≠ o') : i ≠ j := fun e => by rw [e, h'] at h; exact hne (Option.some.inj h).symm
theorem cells_ne {c c' : Array Value} {t t' : TypeId} {f f' : Nat × Nat} (h : t ≠ t') : Obj.cells c t f ≠ Obj.cells c' t' f' := fun e => by cases e; exact h rfl
/-- The book that was made. -/
theorem made_bk {w w1 w2 w3 w5 w6 : World} {a b c n : Nat} {t : Int} {tb tg x g m : Nat} {SS : List (Option (Nat × Int))} {vb bb sg hm : Nat} {hp : Hp.Hp} (_a0 : 1 ≤ a) (a1 : a ≤ 1024) (g1 : w.grownBy w1 none) (hset : Bt.SetAt w1 tb tg (List.replicate a false)) (t1 : w.heap.size ≤ tb) (t2 : w.heap.size ≤ tg) (hz : 0 < w.heap.size)
    (hix : Ix.IxAt w2 x g m b 0 SS []) (g2 : w1.grownBy w2 none) (x1 : w1.heap.size ≤ x) (x2 : w1.heap.size ≤ g) (hE : Emp w2 w3 a b c n t tb x vb bb sg hm)
    (hHS : Hp.HS w5 (lsB vb bb sg ⟨x, g, m, b⟩ [] (List.replicate a ⟨0, 0, 0⟩)) hp [] [] 0 0) (g5 : (w3.setCell ⟨bb, 3, none⟩ (.pointer (some ⟨bb, 0, none⟩))).grownBy w5 none) (hf : ∀ i, hp.own i → w3.heap.size ≤ i) (h6 : w6 = w5.setCell ⟨bb, 9, none⟩ (.pointer (some ⟨hp.h, 0, none⟩))) :
    BkAt w6 ⟨bb, vb, sg, tb, tg, ⟨x, g, m, b⟩, hp, hm⟩ ⟨a, b, c, n, t, []⟩ 0 ∧ w.grownBy w6 none ∧ ∀ i, Bp.own ⟨bb, vb, sg, tb, tg, ⟨x, g, m, b⟩, hp, hm⟩ i → w.heap.size ≤ i := by
  have hbv := ne_obj hE.head hE.var (cells_ne (by decide))
  have hbs := ne_obj hE.head hE.row (cells_ne (by decide))
  have hbm := ne_obj hE.head hE.map (by intro e; cases e)
  have hvs := ne_obj hE.var hE.row (cells_ne (by decide))
  have hvm := ne_obj hE.var hE.map (by intro e; cases e)
  have hsm := ne_obj hE.row hE.map (by intro e; cases e)
  have l1 := row_lt hE.head
  have l2 := row_lt hE.var
  have l3 := row_lt hE.row
  have l4 := row_lt hE.map
  have lv := hE.lv
  have lb := hE.lb
  have ls := hE.ls
  have lm := hE.lm
  have tl1 := hset.lt
  have z1 := g1.size
  have z2 := g2.size
  have xl1 := row_lt hix.at_.head
  have xl2 := row_lt hix.at_.row
  obtain ⟨hap, hown⟩ := made_apart (s0 := w.heap.size) (s1 := w1.heap.size) (s2 := w2.heap.size) (s3 := w3.heap.size) (p := ⟨bb, vb, sg, tb, tg, ⟨x, g, m, b⟩, hp, hm⟩) z1 z2 hE.gr.size ⟨t1, tl1.1, t2, tl1.2, hset.ne hset⟩ (by
    rintro i (rfl | rfl)
    · exact ⟨x1, xl1⟩
    · exact ⟨x2, xl2⟩) ⟨lb, l1, lv, l2, ls, l3, lm, l4, hbv, hbs, hbm, hvs, hvm, hsm⟩ hf
  have k4 : Kept w3 (w3.setCell ⟨bb, 3, none⟩ (.pointer (some ⟨bb, 0, none⟩))) (fun i => i = bb) := kept_setCell _ _ _ _
  have k5 : Kept w3 w5 (fun i => i = bb) := k4.trans (Kept.new g5 _) (fun _ _ e => e)
  have k6 : Kept w3 w6 (fun i => i = bb) := by rw [h6]; exact k5.trans (kept_setCell w5 bb 9 _) (fun _ _ e => e)
  have k56 : Kept w5 w6 (fun i => i = bb) := by rw [h6]; exact kept_setCell w5 bb 9 _
  have k2 : Kept w2 w6 (fun i => i = bb) := (Kept.new hE.gr _).trans k6 (fun _ _ e => e)
  have k1 : Kept w1 w6 (fun i => i = bb) := (Kept.new g2 _).trans k2 (fun _ _ e => e)
  have hhead : w6.heap[bb]? = some (.cells (bkc ⟨bb, vb, sg, tb, tg, ⟨x, g, m, b⟩, hp, hm⟩ ⟨a, b, c, n, t, []⟩).toArray 66 (0, 0)) := by
    have h4 := row_setCell hE.head 3 (.pointer (some ⟨bb, 0, none⟩))
    have h5 := (g5.block _ (row_lt h4) (by simp)).trans h4
    have h7 := row_setCell h5 9 (.pointer (some ⟨hp.h, 0, none⟩))
    rw [h6, h7]
    rfl
  have hvar := k6.at hE.var (fun e => hbv e.symm)
  have hrow := k6.at hE.row (fun e => hbs e.symm)
  have hio : Ix.Io w6 ⟨x, g, m, b⟩ [] false := ⟨0, SS, hix.far k2 (show ¬ x = bb by omega) (show ¬ g = bb by omega), by simp⟩
  have hls : LsI w6 vb bb sg ⟨x, g, m, b⟩ [] (List.replicate a ⟨0, 0, 0⟩) :=
    ⟨⟨⟨_, hhead, by simp [bkc], rfl⟩, hrow, ⟨false, hio⟩, (fun y hy => by cases hy), by simp; exact a1, (by rintro (e | e) <;> simp only at e <;> omega), (by rintro (e | e) <;> simp only at e <;> omega)⟩, hvar, by rintro (e | e) <;> simp only at e <;> omega⟩
  have hmap : U.MapAt w6 Tryz.prog 24 hm 0 (fun _ => none) := U.mapAt_made (k6.at hE.map (fun e => hbm e.symm))
  refine ⟨⟨List.replicate a false, List.replicate a ⟨0, 0, 0⟩, [], [], [], 0, 0, 0, ⟨hhead, hvar, SetAt_far hset k1 (show ¬ tb = bb by omega) (show ¬ tg = bb by omega), hrow, ⟨false, hio⟩, HS_re hHS k56 (fun i hi e => by have := hf i hi; omega) rfl rfl hls (fun _ e => e) (fun _ _ _ _ => rfl) (fun e he => by cases he), hmap.congr (fun _ => rfl), hap, fun e => by have := hown 0 e; omega, by simp, rfl, a1, fun y hy => by cases hy⟩, ⟨by simp, fun j => ?_, by simp, (fun x hx => by cases hx), rfl, (fun e he => by cases he), (fun x hx => by cases hx), List.Pairwise.nil⟩, Nat.le_refl _, by simp, Nat.le_refl _⟩, ?_, hown⟩
  · simp [sat, List.getD_eq_getElem?_getD, List.getElem?_replicate]
    split <;> rfl
  · exact ⟨k1.os.trans g1.os, k1.tape.trans g1.tape, k1.output.trans g1.output, Nat.le_trans g1.size k1.size, fun i hi hne => (k1.block i (Nat.lt_of_lt_of_le hi g1.size) (by omega)).trans (g1.block i hi hne)⟩
set_option maxHeartbeats 8000000 in
theorem empty_any (a b c n : Nat) (t : Int) (h : Gx.OkS a b c) (w : World) (hz : 0 < w.heap.size) : Calls Tryz.prog 40 #[limV a b c, .int .u32 (n : Int), .int .i64 t] w fun e w' => ∃ p, e = .returned (.pointer (some ⟨p.b, 0, none⟩)) ∧ BkAt w' p ⟨a, b, c, n, t, []⟩ 0 ∧ w.grownBy w' none ∧ (∀ i, p.own i → w.heap.size ≤ i) := by
  obtain ⟨a0, a1, b0, b1, c0, c1⟩ := h
  have hmk := make_bgs a (by omega)
  have HB : Hid (∀ W : World, w.grownBy W none → Calls Tryz.prog 66 #[.int .i64 (a : Int)] W fun e w' => ∃ b g, e = .returned (.tuple #[.pointer (some ⟨b, 0, none⟩), .int .i64 0]) ∧ Bt.SetAt w' b g (List.replicate a false) ∧ W.heap.size ≤ b ∧ W.heap.size ≤ g ∧ W.grownBy w' none) := fun W hW => Bt.new_any a W (by omega) (by have := hW.size; omega)
  have HI : Hid (∀ W : World, Calls Tryz.prog 67 #[.int .i64 (b : Int)] W fun e w' => ∃ x g n S, e = .returned (.tuple #[.pointer (some ⟨x, 0, none⟩), .int .i64 0]) ∧ Ix.IxAt w' x g n b 0 S [] ∧ W.grownBy w' none ∧ W.heap.size ≤ x ∧ W.heap.size ≤ g) := fun W => Ix.new_any b (by omega) (by omega) W
  have hmm := @run_makeMap Tryz.prog
  unfold limV
  go_enter Tryz.func40, Tryz.ntmps40
  go_wp2_with fail
  refine (HB.out _ (grown_alloc w _)).mono ?_
  rintro e w1 ⟨tb, tg, rfl, hset, ht1, ht2, hg1⟩
  have hbx1 : w1.heap[w.heap.size]? = some (.cells [Value.int .i64 (a : Int), .int .i64 (b : Int), .int .i64 (c : Int)].toArray 23 (0, 0)) := (hg1.block _ (by simp) (by simp)).trans (heap_alloc_new w _)
  obtain ⟨-, z1, -, -⟩ := box3 hbx1
  have H1 := hide (And.intro hset (And.intro ht1 (And.intro ht2 (And.intro (grown_trans (grown_alloc w _) hg1) hbx1))))
  clear hset ht1 ht2 hg1 hbx1
  go_wp2_with fail
  refine (HI.out _).mono ?_
  rintro e w2 ⟨x, g, m, SS, rfl, hix, hg2, hx1, hx2⟩
  have hbx2 := (hg2.block _ (row_lt H1.out.2.2.2.2) (by simp)).trans H1.out.2.2.2.2
  obtain ⟨y0, y1, y2, -⟩ := box3 hbx2
  have H2 := hide (And.intro hix (And.intro hg2 (And.intro hx1 hx2)))
  have hsz : w.heap.size < w2.heap.size := row_lt hbx2
  clear hix hg2 hx1 hx2 z1 hbx2 HB HI
  go_wp2
  go_cut [11] from 24 to 35 (fun v W => ∃ vb bb sg hm : Nat, v = .pointer (some ⟨vb, 0, none⟩) ∧ Hid (Emp w2 W a b c n t tb x vb bb sg hm))
  case first =>
    go_region_held3 (fun W => W.cell? ⟨w.heap.size, 0, none⟩ = some (.int .i64 (a : Int)) ∧ W.cell? ⟨w.heap.size, 1, none⟩ = some (.int .i64 (b : Int)) ∧ W.cell? ⟨w.heap.size, 2, none⟩ = some (.int .i64 (c : Int))) (first | assumption | exact sx_g ⟨y0, y1, y2⟩ (by repeat (first | with_reducible exact grown_refl _ _ | with_reducible refine gn_drew ?_ | with_reducible refine gn_alloc ?_ _ | with_reducible refine gn_set ?_ (by simp)))) (fail)
    all_goals
      go_wp2
      go_meet
      case rel =>
        first
          | exact ⟨_, _, _, _, rfl, emp_0 w2 a b c n t tb x⟩
          | exact ⟨_, _, _, _, rfl, emp_1 w2 a b c n t tb x⟩
          | exact ⟨_, _, _, _, rfl, emp_2 w2 a b c n t tb x⟩
          | exact ⟨_, _, _, _, rfl, emp_3 w2 a b c n t tb x⟩
          | exact ⟨_, _, _, _, rfl, emp_4 w2 a b c n t tb x⟩
          | exact ⟨_, _, _, _, rfl, emp_5 w2 a b c n t tb x⟩
          | exact ⟨_, _, _, _, rfl, emp_6 w2 a b c n t tb x⟩
          | exact ⟨_, _, _, _, rfl, emp_7 w2 a b c n t tb x⟩
  case rest =>
  obtain ⟨vb, bb, sg, hm, rfl, HE⟩ := hcut
  have e := HE.out
  have v0 := cell_row e.var 0
  have h3 : wc.cell? ⟨bb, 3, none⟩ = some (.pointer none) := cell_row e.head 3
  have h3f := free_row e.head 3
  have hbv : ¬ bb = vb := ne_obj e.head e.var (cells_ne (by decide))
  have hmf : ∀ (fn : Fn) (first cap : Array Value) (w : World), (Instr.makeFunc fn first cap).run Tryz.prog w = .ok (.func fn first cap) w := fun _ _ _ _ => rfl
  have HN : Hid (∀ W, (wc.setCell ⟨bb, 3, none⟩ (.pointer (some ⟨bb, 0, none⟩))).grownBy W none → Calls Tryz.prog 68 #[.func (.func 69) #[] #[.pointer (some ⟨vb, 0, none⟩)]] W fun e w' => ∃ hp : Hp.Hp, e = .returned (.pointer (some ⟨hp.h, 0, none⟩)) ∧ Hp.HS w' (lsB vb bb sg ⟨x, g, m, b⟩ [] (List.replicate a ⟨0, 0, 0⟩)) hp [] [] 0 0 ∧ W.grownBy w' none ∧ (∀ j, hp.own j → W.heap.size ≤ j)) := by
    intro W hg
    have hE := HE.out
    obtain ⟨hix, hg2, hx1, hx2⟩ := H2.out
    have k4 : Kept wc W (fun i => i = bb) := (kept_setCell wc bb 3 (.pointer (some ⟨bb, 0, none⟩))).trans (Kept.new hg _) (fun _ _ e => e)
    have k2 : Kept w2 W (fun i => i = bb) := (Kept.new hE.gr _).trans k4 (fun _ _ e => e)
    have xl1 := row_lt hix.at_.head
    have xl2 := row_lt hix.at_.row
    have lv := hE.lv
    have lb := hE.lb
    have ls := hE.ls
    have h4 := row_setCell hE.head 3 (.pointer (some ⟨bb, 0, none⟩))
    have h5 := (hg.block _ (row_lt h4) (by simp)).trans h4
    have hls : LsI W vb bb sg ⟨x, g, m, b⟩ [] (List.replicate a ⟨0, 0, 0⟩) :=
      ⟨⟨⟨_, h5, by simp [emc], rfl⟩, k4.at hE.row (fun e => ne_obj hE.head hE.row (cells_ne (by decide)) e.symm), ⟨false, 0, SS, hix.far k2 (show ¬ x = bb by omega) (show ¬ g = bb by omega), by simp⟩, (fun y hy => by cases hy), (by simp; omega), (by rintro (e | e) <;> simp only at e <;> omega), (by rintro (e | e) <;> simp only at e <;> omega)⟩, k4.at hE.var (fun e => ne_obj hE.head hE.var (cells_ne (by decide)) e.symm), by rintro (e | e) <;> simp only at e <;> omega⟩
    exact Hp.new_any (lsB_ok vb bb sg ⟨x, g, m, b⟩ [] (List.replicate a ⟨0, 0, 0⟩)) hls
  have HF : Hid (∀ W w5 hp, (wc.setCell ⟨bb, 3, none⟩ (.pointer (some ⟨bb, 0, none⟩))).grownBy W none → W.heap.size = wc.heap.size → Hp.HS w5 (lsB vb bb sg ⟨x, g, m, b⟩ [] (List.replicate a ⟨0, 0, 0⟩)) hp [] [] 0 0 → W.grownBy w5 none → (∀ j, hp.own j → W.heap.size ≤ j) → (w5.cell? ⟨vb, 0, none⟩ = some (.pointer (some ⟨bb, 0, none⟩)) ∧ w5.cell? ⟨bb, 9, none⟩ = some (.pointer none) ∧ w5.frozen? ⟨bb, 9, none⟩ = false) ∧ ∀ w6, w6 = w5.setCell ⟨bb, 9, none⟩ (.pointer (some ⟨hp.h, 0, none⟩)) → w6.cell? ⟨vb, 0, none⟩ = some (.pointer (some ⟨bb, 0, none⟩)) ∧ ∃ p : Bp, p.b = bb ∧ BkAt w6 p ⟨a, b, c, n, t, []⟩ 0 ∧ w.grownBy w6 none ∧ ∀ i, p.own i → w.heap.size ≤ i) := by
    intro W w5 hp q1 q2 q3 q4 q5
    have hE := HE.out
    obtain ⟨hix, hg2, hx1, hx2⟩ := H2.out
    obtain ⟨hset, ht1, ht2, hg1, hbx⟩ := H1.out
    simp only [World.size_alloc] at ht1 ht2
    have h4 := row_setCell hE.head 3 (.pointer (some ⟨bb, 0, none⟩))
    have h5 := ((grown_trans q1 q4).block _ (row_lt h4) (by simp)).trans h4
    have v4 := (Below.heap_setCell wc ⟨bb, 3, none⟩ (.pointer (some ⟨bb, 0, none⟩)) vb (fun e => hbv e.symm)).trans hE.var
    have v5 := ((grown_trans q1 q4).block _ (row_lt v4) (by simp)).trans v4
    refine ⟨⟨cell_row v5 0, cell_row h5 9, free_row h5 9⟩, fun w6 e6 => ⟨?_, ⟨bb, vb, sg, tb, tg, ⟨x, g, m, b⟩, hp, hm⟩, rfl, made_bk (by omega) (by omega) hg1 hset (by omega) (by omega) hz hix hg2 hx1 hx2 hE q3 (grown_trans q1 q4) (by rw [← q2]; exact q5) e6⟩⟩
    rw [e6]
    exact (grown_setCell w5 bb 9 _).cell (cell_row v5 0) (by simp; omega)
  clear e HE H1 H2 y0 y1 y2 hsz hmk hmm a0 a1 b0 b1 c0 c1 hz
  go_wp2
  go_region_held3 (fun W => W.cell? ⟨vb, 0, none⟩ = some (.pointer (some ⟨bb, 0, none⟩))) (first | assumption | exact (grown_setCell _ _ _ _).cell v0 (by simp; omega))
    ((go_at_call 68; refine (HN.out _ (grown_drew _ none)).mono ?_; rintro e w5 ⟨hp, rfl, q3, q4, q5⟩; obtain ⟨⟨p1, p2, p3⟩, p4⟩ := HF.out _ w5 hp (grown_drew _ none) (by simp) q3 q4 q5; obtain ⟨p5, p6⟩ := p4 _ rfl; have HP6 := hide p6; clear p6 p4 q3 q4 q5))
  go_wp2
  go_ret
  obtain ⟨p, rfl, r1, r2, r3⟩ := HP6.out
  exact ⟨p, rfl, r1, r2, r3⟩
end Go.Proofs.YtcbiloomnkbalaaGreatDoor
/- A region that draws its order, inside a round of a range over a function: what is shown of it outside a round holds there too. -/
namespace Go.Proofs.YtcbiloomnkbalaaGreatDoor
open Go

variable {P : Program} {ops : Array Oper} {Q : Exit → Act → World → Prop} {md : Region.Mode}
theorem oper_round {o : Oper} {l n : Nat} {a : Act} {w : World} {K : Act → World → Prop} (hd : ∀ c, o.op ≠ .defer c) (h : o.wp P a w K Q) : o.wpIn (Fence.wide.inRound l) n P a w K Q := by
  unfold Oper.wp at h
  refine ⟨fun _ _ => trivial, ?_⟩
  rw [Oper.semAt_eq _ _ _ hd]
  generalize (execOp a.eval o).run P w = r at *
  cases r with
  | ok x w' =>
    cases x <;> simp only [Oper.upon, Oper.uponIn] at h ⊢ <;>
      first
        | exact h
        | exact ⟨fun e => (by have e2 : false = true := e; cases e2), CallsIn.inRound l (callsIn_wide.2 h)⟩
        | exact ⟨fun e => (by have e2 : false = true := e; cases e2), fun c cs _ => let ⟨v, w'', r, s⟩ := h c cs; ⟨v, w'', r, stepsIn_wide.2 s⟩⟩
        | exact h.elim
  | halt x w' => cases x <;> simp only [Oper.upon, Oper.uponIn] at h ⊢ <;> exact h
theorem op_round {i l n : Nat} {a : Act} {w : World} {K : Act → World → Prop} (hd : ∀ (j : Nat) (o : Oper), ops[j]? = some o → ∀ c, o.op ≠ .defer c) (hno : ¬ LetsOut Q) (h : wpOp P ops Q i K a w) : wpOpIn (Fence.wide.inRound l) n P ops Q i K a w := by
  unfold wpOp at h
  unfold wpOpIn
  split
  · rename_i ho; simp only [ho] at h; exact h
  · rename_i o ho
    simp only [ho] at h
    split
    · rename_i hw
      simp only [hw, if_true] at h
      rcases h with h | h
      · exact oper_round (hd _ _ ho) h
      · exact absurd h.2 hno
    · rename_i hw
      simp only [hw] at h
      exact ⟨fun _ _ => trivial, h⟩
theorem any_round {l n : Nat} (hd : ∀ (j : Nat) (o : Oper), ops[j]? = some o → ∀ c, o.op ≠ .defer c) (hno : ¬ LetsOut Q) : ∀ (fuel : Nat) (listed : Array Bool) (a : Act) (w : World), wpAny P md ops Q fuel listed a w → wpAnyIn (Fence.wide.inRound l) n P md ops Q fuel listed a w
  | 0, _, _, _, h => h
  | fuel + 1, _, _, _, h => ⟨h.1, fun i hi => wpOpIn_mono (fun a' w' h' => any_round hd hno fuel _ a' w' h') (op_round hd hno (h.2 i hi))⟩
def noDefer (ops : Array Oper) : Bool := ops.toList.all fun o => match o.op with | .defer _ => false | _ => true
theorem noDefer_spec (h : noDefer ops = true) : ∀ (j : Nat) (o : Oper), ops[j]? = some o → ∀ c, o.op ≠ .defer c := by
  intro j o ho c e
  have hm : o ∈ ops.toList := by simpa using Array.mem_of_getElem? ho
  have := List.all_eq_true.1 h o hm
  rw [e] at this
  cases this
/-- The beginning, inside a round. -/
theorem wpIn_round_held {S : World → Prop} {id l n : Nat} {a : Act} {w : World} (hm : P.follows .mixedOrders = true) (hd : noDefer ops = true) (hno : ¬ LetsOut Q) (hS : S w.drew)
    (h : S w.drew → wpAnyH P .any ops Q S ops.size (Array.replicate ops.size false) a w.drew) : (Code.region id ops true).wpIn (Fence.wide.inRound l) n P Q a w :=
  wpIn_region_any hm (any_round (noDefer_spec hd) hno _ _ _ _ (wpAny_of_held _ _ _ _ (h hS)))
end Go.Proofs.YtcbiloomnkbalaaGreatDoor
/- What slices.Values goes through. -/
namespace Go.Proofs.YtcbiloomnkbalaaGreatDoor
open Go.RowKit Go.Shelf
attribute [local go_sem ↓] Go.wp_at_zero Go.wp_at_succ
def encB (x : Bg) : Array Value := #[bgV x]
/-- The row that is gone through. -/
structure ItB (W : World) (B : Nat) (so : Option Addr) (cap : Nat) (X : List Bg) : Prop where
  box : W.heap[B]? = some (.cells [Value.slice so X.length cap].toArray 25 (0, 0))
  le : X.length ≤ cap
  row : ∀ i, i < X.length → ∃ g, so = some ⟨g, 0, none⟩ ∧ W.cell? ⟨g, i * 3, none⟩ = some (.int .u32 ((rd X i).i : Int)) ∧ W.cell? ⟨g, i * 3 + 1, none⟩ = some (.int .i64 ((rd X i).s : Int)) ∧ W.cell? ⟨g, i * 3 + 2, none⟩ = some (.int .i64 (rd X i).u)
theorem ItB.grown {W W' : World} {B : Nat} {so : Option Addr} {cap : Nat} {X : List Bg} (h : ItB W B so cap X) (g : W.grownBy W' none) : ItB W' B so cap X :=
  ⟨(g.block _ (row_lt h.box) (by simp)).trans h.box, h.le, fun i hi => by obtain ⟨q, h1, h2, h3, h4⟩ := h.row i hi; exact ⟨q, h1, g.cell h2 (by simp), g.cell h3 (by simp), g.cell h4 (by simp)⟩⟩
theorem take_rd {X : List Bg} {i : Nat} (h : i < X.length) : X.take i ++ [rd X i] = X.take (i + 1) := by
  rw [List.take_add_one, List.getElem?_eq_getElem h]
  unfold rd
  rw [List.getElem?_eq_getElem h]
  rfl
def leftB (n : Nat) (q : Value) : Nat := match q with | .int _ i => n - i.toNat | _ => 0
theorem leftB_nat (n i : Nat) : leftB n (.int .i64 (i : Int)) = n - i := by simp [leftB]
set_option maxRecDepth 100000 in
set_option maxHeartbeats 1000000 in
theorem vt_genV (Kp : World → World → Prop) (Iv : World → Prop) (n : Nat) (hn : 1 ≤ n) (l B : Nat) (so : Option Addr) (cap : Nat) (X : List Bg) (hX : X.length ≤ 65536) (J Jx : List Bg → World → Prop)
    (hY : ∀ pre (x : Bg) W, J pre W → pre ++ [x] <+: X → YieldAt Fence.wide (n - 1) Tryz.prog l (encB x) W fun e W' =>
      (e = .returned (.bool true) ∧ J (pre ++ [x]) W' ∧ Kp W W') ∨ (e = .returned (.bool false) ∧ Jx (pre ++ [x]) W'))
    (hIv : ∀ W, Iv W → ItB W B so cap X) (hkp : ∀ W W', Kp W W' → Iv W → Iv W') (hga : ∀ W W' : World, W.grownBy W' none → Iv W → Iv W') (hJa : ∀ pre (W W' : World), W.grownBy W' none → J pre W → J pre W') (W : World) (hI : Iv W) (h0 : J [] W) :
    CallsIn Fence.wide n Tryz.prog 82 #[.func (.yield l) #[] #[], .pointer (some ⟨B, 0, none⟩)] W fun e W' => (∃ v, e = .returned v) ∧
      ((∃ ys, ys = X ∧ J ys W') ∨ (∃ pre, Jx pre W')) := by
  refine callsIn_of_wp Tryz.func82 rfl trivial ?_ rfl
  simp only [Tryz.ntmps82, List.size_toArray, List.length_cons, List.length_nil, Nat.reduceAdd, Nat.reduceSub, Array.replicate_succ, Array.replicate_zero, List.push_toArray, List.append_toArray, List.nil_append, List.cons_append]
  have hc := cell_row (hIv _ hI).box 0
  simp at hc
  gi_wp2
  gi_loopw [7] (fun q wr => ∃ i : Nat, q = .int .i64 (i : Int) ∧ i ≤ X.length ∧ Hid (J (X.take i) wr ∧ Iv wr)) (fun q _ => leftB X.length q)
  case atStart => exact ⟨0, rfl, Nat.zero_le _, by rw [List.take_zero]; exact ⟨h0, hI⟩⟩
  case round =>
    obtain ⟨i, rfl, hi, HJ⟩ := hrel
    clear hc
    by_cases hlt : i < X.length
    · obtain ⟨g, rfl, c0, c1, c2⟩ := (hIv _ HJ.out.2).row i hlt
      have hle := (hIv _ HJ.out.2).le
      have ga := World.grownBy_alloc wr (.cells #[.int .u32 ((rd X i).i : Int), .int .i64 ((rd X i).s : Int), .int .i64 (rd X i).u] 78) none
      obtain ⟨fn, tmps, assign, body, hy, hR⟩ := hY (X.take i) (rd X i) _ (hJa _ _ _ ga HJ.out.1) (by rw [take_rd hlt]; exact List.take_prefix _ _)
      have nb : (wr.alloc (.cells #[.int .u32 ((rd X i).i : Int), .int .i64 ((rd X i).s : Int), .int .i64 (rd X i).u] 78)).heap[wr.heap.size]? = some (.cells [Value.int .u32 ((rd X i).i : Int), .int .i64 ((rd X i).s : Int), .int .i64 (rd X i).u].toArray 78 (0, 0)) := heap_alloc_new wr _
      have HT := hide (take_rd hlt)
      rw [HT.out] at hR
      have HI2 := hide (hga _ _ ga HJ.out.2)
      clear ga nb hi
      unfold encB bgV at hy
      generalize (rd X i).i = a at *
      generalize (rd X i).s = b at *
      generalize (rd X i).u = d at *
      have hil : ((i : Int) < (X.length : Int)) = True := by simp; omega
      gi_wp2
      refine hR.mono ?_
      rintro e W3 (⟨rfl, hJ3, hk3⟩ | ⟨rfl, hJx3⟩)
      · have H3 := hide (And.intro hJ3 (hkp _ _ hk3 HI2.out))
        clear hJ3 hk3
        have hw1 : IntKind.i64.wrap ((i : Int) + 1) = (i : Int) + 1 := by rw [IntKind.wrap_i64]; omega
        gi_wp2
        go_roundw
        case rel => exact ⟨i + 1, by simp, by omega, H3.out⟩
        case measure =>
          have e1 := leftB_nat X.length (i + 1)
          have e2 := leftB_nat X.length i
          rw [show ((i : Int) + 1) = (((i + 1 : Nat)) : Int) by omega, e1, e2]
          omega
      · gi_wp2
        refine bodyPost_ret (results_none rfl _ _ _) rfl ?_
        exact ⟨⟨_, rfl⟩, .inr ⟨_, hJx3⟩⟩
    · have hil : decide ((i : Int) < (X.length : Int)) = false := by simp; omega
      obtain rfl : i = X.length := by omega
      gi_wp2
      go_end0
      exact ⟨⟨_, rfl⟩, .inl ⟨_, rfl, by have := HJ.out.1; rw [List.take_length] at this; exact this⟩⟩
/-- Its blocks: they stay. -/
def vbk (B : Nat) (so : Option Addr) (n : Nat) (i : Nat) : Prop := i = B ∨ (n ≠ 0 ∧ ∃ a, so = some a ∧ i = a.block)
def KpB (Q : Nat → Prop) (W W' : World) : Prop := W.heap.size ≤ W'.heap.size ∧ ∀ i, Q i → i < W.heap.size → W'.heap[i]? = W.heap[i]?
theorem KpB.trans {Q : Nat → Prop} {a b c : World} (h : KpB Q a b) (k : KpB Q b c) : KpB Q a c := ⟨Nat.le_trans h.1 k.1, fun i hi hl => (k.2 i hi (Nat.lt_of_lt_of_le hl h.1)).trans (h.2 i hi hl)⟩
theorem KpB.of {Q X : Nat → Prop} {W W' : World} (k : Kept W W' X) (hX : ∀ i, Q i → ¬ X i) : KpB Q W W' := ⟨k.size, fun i hi hl => k.block i hl (hX i hi)⟩
theorem KpB.new {Q : Nat → Prop} {W W' : World} (g : W.grownBy W' none) : KpB Q W W' := KpB.of (Kept.new g (fun _ => False)) (fun _ _ e => e)
theorem KpB.put {Q : Nat → Prop} {W : World} {l : Nat} {o : Obj} (h : ¬ Q l) : KpB Q W (W.putObj l o) := KpB.of (Kept.of (grownBy_putObj' W l o) (S := fun i => i = l) (fun j e _ => (Option.some.inj e).symm)) (fun i hi e => h (by rw [← e]; exact hi))
theorem ItB.lt {W : World} {B : Nat} {so : Option Addr} {cap : Nat} {X : List Bg} (h : ItB W B so cap X) : ∀ i, vbk B so X.length i → i < W.heap.size := by
  rintro i (rfl | ⟨hn, a, ha, rfl⟩)
  · exact row_lt h.box
  · obtain ⟨q, h1, h2, _⟩ := h.row 0 (by omega)
    rw [h1] at ha
    cases ha
    unfold World.cell? at h2
    cases hq : W.heap[q]? with
    | none => simp [hq] at h2
    | some o => exact row_lt hq
theorem ItB.keep {W W' : World} {B : Nat} {so : Option Addr} {cap : Nat} {X : List Bg} (h : ItB W B so cap X) (k : KpB (vbk B so X.length) W W') : ItB W' B so cap X :=
  ⟨(k.2 _ (.inl rfl) (h.lt _ (.inl rfl))).trans h.box, h.le, fun i hi => by
    obtain ⟨q, h1, h2, h3, h4⟩ := h.row i hi
    have hq : vbk B so X.length q := .inr ⟨by omega, _, h1, rfl⟩
    have hb : W'.heap[q]? = W.heap[q]? := k.2 _ hq (h.lt _ hq)
    refine ⟨q, h1, ?_, ?_, ?_⟩
    · unfold World.cell? at h2 ⊢; simp only [hb]; exact h2
    · unfold World.cell? at h3 ⊢; simp only [hb]; exact h3
    · unfold World.cell? at h4 ⊢; simp only [hb]; exact h4⟩
theorem ItE_lt {W : World} {B : Nat} {so : Option Addr} {cap : Nat} {X : List (Nat × Int)} (h : Ix.ItE W B so cap X) : ∀ i, vbk B so X.length i → i < W.heap.size := by
  rintro i (rfl | ⟨hn, a, ha, rfl⟩)
  · exact row_lt h.box
  · obtain ⟨q, h1, h2, _⟩ := h.row 0 (by omega)
    rw [h1] at ha
    cases ha
    unfold World.cell? at h2
    cases hq : W.heap[q]? with
    | none => simp [hq] at h2
    | some o => exact row_lt hq
theorem ItE_keep {W W' : World} {B : Nat} {so : Option Addr} {cap : Nat} {X : List (Nat × Int)} (h : Ix.ItE W B so cap X) (k : KpB (vbk B so X.length) W W') : Ix.ItE W' B so cap X :=
  ⟨(k.2 _ (.inl rfl) (ItE_lt h _ (.inl rfl))).trans h.box, h.le, fun i hi => by
    obtain ⟨q, h1, h2, h3⟩ := h.row i hi
    have hq : vbk B so X.length q := .inr ⟨by omega, _, h1, rfl⟩
    have hb : W'.heap[q]? = W.heap[q]? := k.2 _ hq (ItE_lt h _ hq)
    refine ⟨q, h1, ?_, ?_⟩
    · unfold World.cell? at h2 ⊢; simp only [hb]; exact h2
    · unfold World.cell? at h3 ⊢; simp only [hb]; exact h3⟩
theorem vt_seqV (n : Nat) (hn : 1 ≤ n) (B : Nat) (so : Option Addr) (cap : Nat) (X : List Bg) (hX : X.length ≤ 65536) (W : World) (hI : ItB W B so cap X) :
    SeqV Fence.wide n Tryz.prog 82 #[.pointer (some ⟨B, 0, none⟩)] encB (KpB (vbk B so X.length)) (fun pre x _ => pre ++ [x] <+: X) (fun ys => ys = X) W := fun l J Jx hJ _hJx hY h0 =>
  vt_genV (KpB (vbk B so X.length)) (fun W => ItB W B so cap X) n hn l B so cap X hX J Jx hY (fun _ h => h) (fun _ _ k h => h.keep k) (fun _ _ g h => h.grown g) (fun pre A A' g h => hJ pre A A' h g) W hI h0
end Go.Proofs.YtcbiloomnkbalaaGreatDoor
