/- Texts joined: JnAk. -/
import Derived.Test.YtinkkocleognbaaGreatDoorJuAj
import Derived.Deep.CutRange
import Derived.Deep.DeepCutAuto
import Derived.Test.YtinkkocleognbaaGreatDoorJuAc
import Derived.RangeFuncNested
import Derived.RangeFuncBound
import Derived.RangeFuncCalls
import Derived.RangeFuncLeaves
import Derived.RangeFuncBox
import Derived.Shelf.Abstract
import Derived.Shelf.RegionOpen
import Derived.OwnWalkIn
import Derived.TacticsInMore
import Derived.LoopNIn
import Derived.LoopIn
import Derived.Test.YtinkkocleognbaaGreatDoorJuAa
import Derived.Shelf.SlSortCmp.WholeK
import Derived.Ground.SlsfProg
import Derived.Test.YtinkkocleognbaaGreatDoorProg
import Derived.Shelf.SlSortCmp.NoneTotal
import Derived.Sort.OwnSorted
/- Texts joined: BkG, IxIg, IxSh, IxIh, IxIi. -/
/- A book made. -/
namespace Go.Proofs.YtinkkocleognbaaGreatDoor
open Go.RowKit
attribute [local go_sem ↓] Go.wp_at_zero Go.wp_at_succ
theorem Tryz.info108 : (Tryz.prog.info? 108).map (fun i => (i.zero, i.size, i.bytes)) = some (some (.agg #[.int .u32 0, .int .i64 0, .int .i64 0]), 3, 24) := by kernel_rfl
theorem bgs_zero (n : Nat) : madeCells #[.int .u32 0, .int .i64 0, .int .i64 0] (n * 3) = (bgs (List.replicate n ⟨0, 0, 0⟩)).toArray := by
  apply Array.ext'
  apply List.ext_getElem?
  intro j
  by_cases hj : j < n * 3
  · obtain ⟨h1, h2, h3⟩ := bgs_get (R := List.replicate n ⟨0, 0, 0⟩) (i := j / 3) (by simp; omega)
    have hr : rd (List.replicate n ⟨0, 0, 0⟩) (j / 3) = ⟨0, 0, 0⟩ := by unfold rd; rw [List.getElem?_replicate]; split <;> rfl
    rw [hr] at h1 h2 h3
    have hm : j % 3 = 0 ∨ j % 3 = 1 ∨ j % 3 = 2 := by omega
    rcases hm with hm | hm | hm
    · rw [show j / 3 * 3 = j by omega] at h1
      simp [madeCells, hj, hm, h1]
    · rw [show j / 3 * 3 + 1 = j by omega] at h2
      simp [madeCells, hj, hm, h2]
    · rw [show j / 3 * 3 + 2 = j by omega] at h3
      simp [madeCells, hj, hm, h3]
  · rw [List.getElem?_eq_none (by simp [madeCells]; omega), List.getElem?_eq_none (by simp [bgs_length]; omega)]
theorem make_bgs (n : Nat) (h : n ≤ 1024) (w : World) : (Instr.makeSlice 32 (.int .i64 (n : Int)) (.int .i64 (n : Int))).run Tryz.prog w = .ok (.slice (some ⟨w.heap.size, 0, none⟩) n n) (w.alloc (.cells (bgs (List.replicate n ⟨0, 0, 0⟩)).toArray 108)) := by
  obtain ⟨i0, hi, hz0, hz1, hz2⟩ := info_parts Tryz.info108
  rw [run_make (P := Tryz.prog) (w := w) 32 108 i0 (.agg #[.int .u32 0, .int .i64 0, .int .i64 0]) Tryz.underlying32 hi hz0 .i64 .i64 (n : Int) (n : Int) (by omega) (by omega) (by rw [hz2]; omega) (by omega), hz1]
  simp [bgs_zero, Value.cells]
theorem sx_g {w W : World} {X : Nat} {u v z : Value} (h : w.cell? ⟨X, 0, none⟩ = some u ∧ w.cell? ⟨X, 1, none⟩ = some v ∧ w.cell? ⟨X, 2, none⟩ = some z) (g : w.grownBy W none) : W.cell? ⟨X, 0, none⟩ = some u ∧ W.cell? ⟨X, 1, none⟩ = some v ∧ W.cell? ⟨X, 2, none⟩ = some z :=
  ⟨g.cell h.1 (by simp), g.cell h.2.1 (by simp), g.cell h.2.2 (by simp)⟩
theorem gn_drew {a b : World} (h : a.grownBy b none) : a.grownBy b.drew none := grown_trans h (grown_drew _ _)
theorem gn_alloc {a b : World} (h : a.grownBy b none) (o : Obj) : a.grownBy (b.alloc o) none := grown_trans h (grown_alloc _ _)
theorem gn_set {a b : World} (h : a.grownBy b none) {g j : Nat} {v : Value} (hg : a.heap.size ≤ g) : a.grownBy (b.setCell ⟨g, j, none⟩ v) none := grown_then h (grown_setCell b g j v) (fun i e => .inl (by cases e; exact hg))
/-- The cells of a book that is being made. -/
def emc (a b c n : Nat) (t : Int) (tb sg x hm : Nat) : List Value := [.int .i64 (a : Int), .int .i64 (b : Int), .int .i64 (c : Int), .pointer none, .int .u32 (n : Int), .int .i64 t, .pointer (some ⟨tb, 0, none⟩), .slice (some ⟨sg, 0, none⟩) a a, .pointer (some ⟨x, 0, none⟩), .pointer none, .map (some hm)]
structure Emp (w W : World) (a b c n : Nat) (t : Int) (tb x vb bb sg hm : Nat) : Prop where
  gr : w.grownBy W none
  var : W.heap[vb]? = some (.cells [Value.pointer (some ⟨bb, 0, none⟩)].toArray 27 (0, 0))
  head : W.heap[bb]? = some (.cells (emc a b c n t tb sg x hm).toArray 37 (0, 0))
  row : W.heap[sg]? = some (.cells (bgs (List.replicate a ⟨0, 0, 0⟩)).toArray 108 (0, 0))
  map : W.heap[hm]? = some (.map #[] 0)
  lv : w.heap.size ≤ vb
  lb : w.heap.size ≤ bb
  ls : w.heap.size ≤ sg
  lm : w.heap.size ≤ hm
theorem Emp.drew {w W : World} {a b c n : Nat} {t : Int} {tb x vb bb sg hm : Nat} (h : Emp w W a b c n t tb x vb bb sg hm) : Emp w W.drew a b c n t tb x vb bb sg hm := ⟨gn_drew h.gr, h.var, h.head, h.row, h.map, h.lv, h.lb, h.ls, h.lm⟩
theorem four (w : World) (o0 o1 o2 o3 : Obj) : w.grownBy ((((w.alloc o0).alloc o1).alloc o2).alloc o3) none ∧ ((((w.alloc o0).alloc o1).alloc o2).alloc o3).heap[w.heap.size]? = some o0 ∧ ((((w.alloc o0).alloc o1).alloc o2).alloc o3).heap[w.heap.size + 1]? = some o1 ∧ ((((w.alloc o0).alloc o1).alloc o2).alloc o3).heap[w.heap.size + 1 + 1]? = some o2 ∧ ((((w.alloc o0).alloc o1).alloc o2).alloc o3).heap[w.heap.size + 1 + 1 + 1]? = some o3 := by
  have h0 := heap_alloc_new w o0
  have h1 := heap_alloc_new (w.alloc o0) o1
  have h2 := heap_alloc_new ((w.alloc o0).alloc o1) o2
  have h3 := heap_alloc_new (((w.alloc o0).alloc o1).alloc o2) o3
  simp only [World.size_alloc] at h1 h2 h3
  have k : ∀ {W : World} {o : Obj} {i : Nat} {v : Obj}, W.heap[i]? = some v → (W.alloc o).heap[i]? = some v := fun {W o i v} h => ((grown_alloc W o).block _ (row_lt h) (by simp)).trans h
  exact ⟨gn_alloc (gn_alloc (gn_alloc (gn_alloc (grown_refl _ _) _) _) _) _, k (k (k h0)), k (k h1), k h2, h3⟩
theorem emp_0 (w : World) (a b c n : Nat) (t : Int) (tb x : Nat) : Emp w ((((w.alloc (.cells (bgs (List.replicate a ⟨0, 0, 0⟩)).toArray 108)).alloc (.map #[] 0)).alloc (.cells #[.int .i64 (a : Int), .int .i64 (b : Int), .int .i64 (c : Int), .pointer none, .int .u32 (n : Int), .int .i64 t, .pointer (some ⟨tb, 0, none⟩), .slice (some ⟨w.heap.size, 0, none⟩) a a, .pointer (some ⟨x, 0, none⟩), .pointer none, .map (some (w.heap.size + 1))] 37)).alloc (.cells #[.pointer (some ⟨w.heap.size + 1 + 1, 0, none⟩)] 27)).drew a b c n t tb x (w.heap.size + 1 + 1 + 1) (w.heap.size + 1 + 1) (w.heap.size) (w.heap.size + 1) := by
  have f := four w (.cells (bgs (List.replicate a ⟨0, 0, 0⟩)).toArray 108) (.map #[] 0) (.cells #[.int .i64 (a : Int), .int .i64 (b : Int), .int .i64 (c : Int), .pointer none, .int .u32 (n : Int), .int .i64 t, .pointer (some ⟨tb, 0, none⟩), .slice (some ⟨w.heap.size, 0, none⟩) a a, .pointer (some ⟨x, 0, none⟩), .pointer none, .map (some (w.heap.size + 1))] 37) (.cells #[.pointer (some ⟨w.heap.size + 1 + 1, 0, none⟩)] 27)
  exact Emp.drew ⟨f.1, f.2.2.2.2, f.2.2.2.1, f.2.1, f.2.2.1, by omega, by omega, by omega, by omega⟩
theorem emp_1 (w : World) (a b c n : Nat) (t : Int) (tb x : Nat) : Emp w ((((w.alloc (.cells (bgs (List.replicate a ⟨0, 0, 0⟩)).toArray 108)).alloc (.map #[] 0)).alloc (.cells #[.pointer (some ⟨w.heap.size + 1 + 1 + 1, 0, none⟩)] 27)).alloc (.cells #[.int .i64 (a : Int), .int .i64 (b : Int), .int .i64 (c : Int), .pointer none, .int .u32 (n : Int), .int .i64 t, .pointer (some ⟨tb, 0, none⟩), .slice (some ⟨w.heap.size, 0, none⟩) a a, .pointer (some ⟨x, 0, none⟩), .pointer none, .map (some (w.heap.size + 1))] 37)).drew a b c n t tb x (w.heap.size + 1 + 1) (w.heap.size + 1 + 1 + 1) (w.heap.size) (w.heap.size + 1) := by
  have f := four w (.cells (bgs (List.replicate a ⟨0, 0, 0⟩)).toArray 108) (.map #[] 0) (.cells #[.pointer (some ⟨w.heap.size + 1 + 1 + 1, 0, none⟩)] 27) (.cells #[.int .i64 (a : Int), .int .i64 (b : Int), .int .i64 (c : Int), .pointer none, .int .u32 (n : Int), .int .i64 t, .pointer (some ⟨tb, 0, none⟩), .slice (some ⟨w.heap.size, 0, none⟩) a a, .pointer (some ⟨x, 0, none⟩), .pointer none, .map (some (w.heap.size + 1))] 37)
  exact Emp.drew ⟨f.1, f.2.2.2.1, f.2.2.2.2, f.2.1, f.2.2.1, by omega, by omega, by omega, by omega⟩
theorem emp_2 (w : World) (a b c n : Nat) (t : Int) (tb x : Nat) : Emp w ((((w.alloc (.cells (bgs (List.replicate a ⟨0, 0, 0⟩)).toArray 108)).alloc (.cells #[.pointer (some ⟨w.heap.size + 1 + 1 + 1, 0, none⟩)] 27)).alloc (.map #[] 0)).alloc (.cells #[.int .i64 (a : Int), .int .i64 (b : Int), .int .i64 (c : Int), .pointer none, .int .u32 (n : Int), .int .i64 t, .pointer (some ⟨tb, 0, none⟩), .slice (some ⟨w.heap.size, 0, none⟩) a a, .pointer (some ⟨x, 0, none⟩), .pointer none, .map (some (w.heap.size + 1 + 1))] 37)).drew a b c n t tb x (w.heap.size + 1) (w.heap.size + 1 + 1 + 1) (w.heap.size) (w.heap.size + 1 + 1) := by
  have f := four w (.cells (bgs (List.replicate a ⟨0, 0, 0⟩)).toArray 108) (.cells #[.pointer (some ⟨w.heap.size + 1 + 1 + 1, 0, none⟩)] 27) (.map #[] 0) (.cells #[.int .i64 (a : Int), .int .i64 (b : Int), .int .i64 (c : Int), .pointer none, .int .u32 (n : Int), .int .i64 t, .pointer (some ⟨tb, 0, none⟩), .slice (some ⟨w.heap.size, 0, none⟩) a a, .pointer (some ⟨x, 0, none⟩), .pointer none, .map (some (w.heap.size + 1 + 1))] 37)
  exact Emp.drew ⟨f.1, f.2.2.1, f.2.2.2.2, f.2.1, f.2.2.2.1, by omega, by omega, by omega, by omega⟩
theorem emp_3 (w : World) (a b c n : Nat) (t : Int) (tb x : Nat) : Emp w ((((w.alloc (.map #[] 0)).alloc (.cells (bgs (List.replicate a ⟨0, 0, 0⟩)).toArray 108)).alloc (.cells #[.int .i64 (a : Int), .int .i64 (b : Int), .int .i64 (c : Int), .pointer none, .int .u32 (n : Int), .int .i64 t, .pointer (some ⟨tb, 0, none⟩), .slice (some ⟨w.heap.size + 1, 0, none⟩) a a, .pointer (some ⟨x, 0, none⟩), .pointer none, .map (some (w.heap.size))] 37)).alloc (.cells #[.pointer (some ⟨w.heap.size + 1 + 1, 0, none⟩)] 27)).drew a b c n t tb x (w.heap.size + 1 + 1 + 1) (w.heap.size + 1 + 1) (w.heap.size + 1) (w.heap.size) := by
  have f := four w (.map #[] 0) (.cells (bgs (List.replicate a ⟨0, 0, 0⟩)).toArray 108) (.cells #[.int .i64 (a : Int), .int .i64 (b : Int), .int .i64 (c : Int), .pointer none, .int .u32 (n : Int), .int .i64 t, .pointer (some ⟨tb, 0, none⟩), .slice (some ⟨w.heap.size + 1, 0, none⟩) a a, .pointer (some ⟨x, 0, none⟩), .pointer none, .map (some (w.heap.size))] 37) (.cells #[.pointer (some ⟨w.heap.size + 1 + 1, 0, none⟩)] 27)
  exact Emp.drew ⟨f.1, f.2.2.2.2, f.2.2.2.1, f.2.2.1, f.2.1, by omega, by omega, by omega, by omega⟩
theorem emp_4 (w : World) (a b c n : Nat) (t : Int) (tb x : Nat) : Emp w ((((w.alloc (.map #[] 0)).alloc (.cells (bgs (List.replicate a ⟨0, 0, 0⟩)).toArray 108)).alloc (.cells #[.pointer (some ⟨w.heap.size + 1 + 1 + 1, 0, none⟩)] 27)).alloc (.cells #[.int .i64 (a : Int), .int .i64 (b : Int), .int .i64 (c : Int), .pointer none, .int .u32 (n : Int), .int .i64 t, .pointer (some ⟨tb, 0, none⟩), .slice (some ⟨w.heap.size + 1, 0, none⟩) a a, .pointer (some ⟨x, 0, none⟩), .pointer none, .map (some (w.heap.size))] 37)).drew a b c n t tb x (w.heap.size + 1 + 1) (w.heap.size + 1 + 1 + 1) (w.heap.size + 1) (w.heap.size) := by
  have f := four w (.map #[] 0) (.cells (bgs (List.replicate a ⟨0, 0, 0⟩)).toArray 108) (.cells #[.pointer (some ⟨w.heap.size + 1 + 1 + 1, 0, none⟩)] 27) (.cells #[.int .i64 (a : Int), .int .i64 (b : Int), .int .i64 (c : Int), .pointer none, .int .u32 (n : Int), .int .i64 t, .pointer (some ⟨tb, 0, none⟩), .slice (some ⟨w.heap.size + 1, 0, none⟩) a a, .pointer (some ⟨x, 0, none⟩), .pointer none, .map (some (w.heap.size))] 37)
  exact Emp.drew ⟨f.1, f.2.2.2.1, f.2.2.2.2, f.2.2.1, f.2.1, by omega, by omega, by omega, by omega⟩
theorem emp_5 (w : World) (a b c n : Nat) (t : Int) (tb x : Nat) : Emp w ((((w.alloc (.map #[] 0)).alloc (.cells #[.pointer (some ⟨w.heap.size + 1 + 1 + 1, 0, none⟩)] 27)).alloc (.cells (bgs (List.replicate a ⟨0, 0, 0⟩)).toArray 108)).alloc (.cells #[.int .i64 (a : Int), .int .i64 (b : Int), .int .i64 (c : Int), .pointer none, .int .u32 (n : Int), .int .i64 t, .pointer (some ⟨tb, 0, none⟩), .slice (some ⟨w.heap.size + 1 + 1, 0, none⟩) a a, .pointer (some ⟨x, 0, none⟩), .pointer none, .map (some (w.heap.size))] 37)).drew a b c n t tb x (w.heap.size + 1) (w.heap.size + 1 + 1 + 1) (w.heap.size + 1 + 1) (w.heap.size) := by
  have f := four w (.map #[] 0) (.cells #[.pointer (some ⟨w.heap.size + 1 + 1 + 1, 0, none⟩)] 27) (.cells (bgs (List.replicate a ⟨0, 0, 0⟩)).toArray 108) (.cells #[.int .i64 (a : Int), .int .i64 (b : Int), .int .i64 (c : Int), .pointer none, .int .u32 (n : Int), .int .i64 t, .pointer (some ⟨tb, 0, none⟩), .slice (some ⟨w.heap.size + 1 + 1, 0, none⟩) a a, .pointer (some ⟨x, 0, none⟩), .pointer none, .map (some (w.heap.size))] 37)
  exact Emp.drew ⟨f.1, f.2.2.1, f.2.2.2.2, f.2.2.2.1, f.2.1, by omega, by omega, by omega, by omega⟩
theorem emp_6 (w : World) (a b c n : Nat) (t : Int) (tb x : Nat) : Emp w ((((w.alloc (.cells #[.pointer (some ⟨w.heap.size + 1 + 1 + 1, 0, none⟩)] 27)).alloc (.cells (bgs (List.replicate a ⟨0, 0, 0⟩)).toArray 108)).alloc (.map #[] 0)).alloc (.cells #[.int .i64 (a : Int), .int .i64 (b : Int), .int .i64 (c : Int), .pointer none, .int .u32 (n : Int), .int .i64 t, .pointer (some ⟨tb, 0, none⟩), .slice (some ⟨w.heap.size + 1, 0, none⟩) a a, .pointer (some ⟨x, 0, none⟩), .pointer none, .map (some (w.heap.size + 1 + 1))] 37)).drew a b c n t tb x (w.heap.size) (w.heap.size + 1 + 1 + 1) (w.heap.size + 1) (w.heap.size + 1 + 1) := by
  have f := four w (.cells #[.pointer (some ⟨w.heap.size + 1 + 1 + 1, 0, none⟩)] 27) (.cells (bgs (List.replicate a ⟨0, 0, 0⟩)).toArray 108) (.map #[] 0) (.cells #[.int .i64 (a : Int), .int .i64 (b : Int), .int .i64 (c : Int), .pointer none, .int .u32 (n : Int), .int .i64 t, .pointer (some ⟨tb, 0, none⟩), .slice (some ⟨w.heap.size + 1, 0, none⟩) a a, .pointer (some ⟨x, 0, none⟩), .pointer none, .map (some (w.heap.size + 1 + 1))] 37)
  exact Emp.drew ⟨f.1, f.2.1, f.2.2.2.2, f.2.2.1, f.2.2.2.1, by omega, by omega, by omega, by omega⟩
theorem emp_7 (w : World) (a b c n : Nat) (t : Int) (tb x : Nat) : Emp w ((((w.alloc (.cells #[.pointer (some ⟨w.heap.size + 1 + 1 + 1, 0, none⟩)] 27)).alloc (.map #[] 0)).alloc (.cells (bgs (List.replicate a ⟨0, 0, 0⟩)).toArray 108)).alloc (.cells #[.int .i64 (a : Int), .int .i64 (b : Int), .int .i64 (c : Int), .pointer none, .int .u32 (n : Int), .int .i64 t, .pointer (some ⟨tb, 0, none⟩), .slice (some ⟨w.heap.size + 1 + 1, 0, none⟩) a a, .pointer (some ⟨x, 0, none⟩), .pointer none, .map (some (w.heap.size + 1))] 37)).drew a b c n t tb x (w.heap.size) (w.heap.size + 1 + 1 + 1) (w.heap.size + 1 + 1) (w.heap.size + 1) := by
  have f := four w (.cells #[.pointer (some ⟨w.heap.size + 1 + 1 + 1, 0, none⟩)] 27) (.map #[] 0) (.cells (bgs (List.replicate a ⟨0, 0, 0⟩)).toArray 108) (.cells #[.int .i64 (a : Int), .int .i64 (b : Int), .int .i64 (c : Int), .pointer none, .int .u32 (n : Int), .int .i64 t, .pointer (some ⟨tb, 0, none⟩), .slice (some ⟨w.heap.size + 1 + 1, 0, none⟩) a a, .pointer (some ⟨x, 0, none⟩), .pointer none, .map (some (w.heap.size + 1))] 37)
  exact Emp.drew ⟨f.1, f.2.1, f.2.2.2.2, f.2.2.2.1, f.2.2.1, by omega, by omega, by omega, by omega⟩
/-- The book that is made: its parts lie apart. -/
theorem made_apart {s0 s1 s2 s3 : Nat} {p : Bp} (_h01 : s0 ≤ s1) (h12 : s1 ≤ s2) (_h23 : s2 ≤ s3) (ht : s0 ≤ p.tb ∧ p.tb < s1 ∧ s0 ≤ p.tg ∧ p.tg < s1 ∧ p.tb ≠ p.tg) (hi : ∀ i, p.ip.own i → s1 ≤ i ∧ i < s2) (hb : s2 ≤ p.b ∧ p.b < s3 ∧ s2 ≤ p.vb ∧ p.vb < s3 ∧ s2 ≤ p.sg ∧ p.sg < s3 ∧ s2 ≤ p.hm ∧ p.hm < s3 ∧ p.b ≠ p.vb ∧ p.b ≠ p.sg ∧ p.b ≠ p.hm ∧ p.vb ≠ p.sg ∧ p.vb ≠ p.hm ∧ p.sg ≠ p.hm) (hh : ∀ i, p.hp.own i → s3 ≤ i) : p.Apart ∧ ∀ i, p.own i → s0 ≤ i := by
  have key : ∀ i j, p.role j i → (j = 0 ∧ i = p.b) ∨ (j = 1 ∧ i = p.vb) ∨ (j = 2 ∧ i = p.sg) ∨ (j = 3 ∧ s1 ≤ i ∧ i < s2) ∨ (j = 4 ∧ i = p.tb) ∨ (j = 5 ∧ i = p.tg) ∨ (j = 6 ∧ s3 ≤ i) ∨ (j = 7 ∧ i = p.hm) := by
    rintro i j (h | h | h | ⟨h, e⟩ | h | h | ⟨h, e⟩ | h)
    · exact .inl h
    · exact .inr (.inl h)
    · exact .inr (.inr (.inl h))
    · have := hi i e; omega
    · exact .inr (.inr (.inr (.inr (.inl h))))
    · exact .inr (.inr (.inr (.inr (.inr (.inl h)))))
    · have := hh i e; omega
    · exact .inr (.inr (.inr (.inr (.inr (.inr (.inr h))))))
  constructor
  · intro i j l h1 h2
    have k1 := key i j h1
    have k2 := key i l h2
    rcases k1 with k1 | k1 | k1 | k1 | k1 | k1 | k1 | k1 <;> omega
  · rintro i ⟨j, h1⟩
    have k1 := key i j h1
    omega
/-- Blocks that hold unlike things are unlike. -/
theorem ne_obj {w : World} {i j : Nat} {o o' : Obj} (h : w.heap[i]? = some o) (h' : w.heap[j]? = some o') (hne : o ≠ o') : i ≠ j := fun e => by rw [e, h'] at h; exact hne (Option.some.inj h).symm
theorem cells_ne {c c' : Array Value} {t t' : TypeId} {f f' : Nat × Nat} (h : t ≠ t') : Obj.cells c t f ≠ Obj.cells c' t' f' := fun e => by cases e; exact h rfl
/-- The book that was made. -/
theorem made_bk {w w1 w2 w3 w5 w6 : World} {a b c n : Nat} {t : Int} {tb tg x g m : Nat} {SS : List (Option (Nat × Int))} {vb bb sg hm : Nat} {hp : Hp.Hp} (_a0 : 1 ≤ a) (a1 : a ≤ 1024) (g1 : w.grownBy w1 none) (hset : Bt.SetAt w1 tb tg (List.replicate a false)) (t1 : w.heap.size ≤ tb) (t2 : w.heap.size ≤ tg) (hz : 0 < w.heap.size)
    (hix : Ix.IxAt w2 x g m b 0 SS []) (g2 : w1.grownBy w2 none) (x1 : w1.heap.size ≤ x) (x2 : w1.heap.size ≤ g) (hE : Emp w2 w3 a b c n t tb x vb bb sg hm)
    (hHS : Hp.HS w5 (lsB vb bb sg ⟨x, g, m, b⟩ [] (List.replicate a ⟨0, 0, 0⟩)) hp [] [] 0 0) (g5 : (w3.setCell ⟨bb, 3, none⟩ (.pointer (some ⟨bb, 0, none⟩))).grownBy w5 none) (hf : ∀ i, hp.own i → w3.heap.size ≤ i) (h6 : w6 = w5.setCell ⟨bb, 9, none⟩ (.pointer (some ⟨hp.h, 0, none⟩))) :
    BkAt w6 ⟨bb, vb, sg, tb, tg, ⟨x, g, m, b⟩, hp, hm⟩ ⟨a, b, c, n, t, []⟩ 0 ∧ w.grownBy w6 none ∧ ∀ i, Bp.own ⟨bb, vb, sg, tb, tg, ⟨x, g, m, b⟩, hp, hm⟩ i → w.heap.size ≤ i := by
  have hbv := ne_obj hE.head hE.var (cells_ne (by decide))
  have hbs := ne_obj hE.head hE.row (cells_ne (by decide))
  have hbm := ne_obj hE.head hE.map (by intro e; cases e)
  have hvs := ne_obj hE.var hE.row (cells_ne (by decide))
  have hvm := ne_obj hE.var hE.map (by intro e; cases e)
  have hsm := ne_obj hE.row hE.map (by intro e; cases e)
  have l1 := row_lt hE.head
  have l2 := row_lt hE.var
  have l3 := row_lt hE.row
  have l4 := row_lt hE.map
  have lv := hE.lv
  have lb := hE.lb
  have ls := hE.ls
  have lm := hE.lm
  have tl1 := hset.lt
  have z1 := g1.size
  have z2 := g2.size
  have xl1 := row_lt hix.at_.head
  have xl2 := row_lt hix.at_.row
  obtain ⟨hap, hown⟩ := made_apart (s0 := w.heap.size) (s1 := w1.heap.size) (s2 := w2.heap.size) (s3 := w3.heap.size) (p := ⟨bb, vb, sg, tb, tg, ⟨x, g, m, b⟩, hp, hm⟩) z1 z2 hE.gr.size ⟨t1, tl1.1, t2, tl1.2, hset.ne hset⟩ (by
    rintro i (rfl | rfl)
    · exact ⟨x1, xl1⟩
    · exact ⟨x2, xl2⟩) ⟨lb, l1, lv, l2, ls, l3, lm, l4, hbv, hbs, hbm, hvs, hvm, hsm⟩ hf
  have k4 : Kept w3 (w3.setCell ⟨bb, 3, none⟩ (.pointer (some ⟨bb, 0, none⟩))) (fun i => i = bb) := kept_setCell _ _ _ _
  have k5 : Kept w3 w5 (fun i => i = bb) := k4.trans (Kept.new g5 _) (fun _ _ e => e)
  have k6 : Kept w3 w6 (fun i => i = bb) := by rw [h6]; exact k5.trans (kept_setCell w5 bb 9 _) (fun _ _ e => e)
  have k56 : Kept w5 w6 (fun i => i = bb) := by rw [h6]; exact kept_setCell w5 bb 9 _
  have k2 : Kept w2 w6 (fun i => i = bb) := (Kept.new hE.gr _).trans k6 (fun _ _ e => e)
  have k1 : Kept w1 w6 (fun i => i = bb) := (Kept.new g2 _).trans k2 (fun _ _ e => e)
  have hhead : w6.heap[bb]? = some (.cells (bkc ⟨bb, vb, sg, tb, tg, ⟨x, g, m, b⟩, hp, hm⟩ ⟨a, b, c, n, t, []⟩).toArray 37 (0, 0)) := by
    have h4 := row_setCell hE.head 3 (.pointer (some ⟨bb, 0, none⟩))
    have h5 := (g5.block _ (row_lt h4) (by simp)).trans h4
    have h7 := row_setCell h5 9 (.pointer (some ⟨hp.h, 0, none⟩))
    rw [h6, h7]
    rfl
  have hvar := k6.at hE.var (fun e => hbv e.symm)
  have hrow := k6.at hE.row (fun e => hbs e.symm)
  have hio : Ix.Io w6 ⟨x, g, m, b⟩ [] false := ⟨0, SS, hix.far k2 (show ¬ x = bb by omega) (show ¬ g = bb by omega), by simp⟩
  have hls : LsI w6 vb bb sg ⟨x, g, m, b⟩ [] (List.replicate a ⟨0, 0, 0⟩) :=
    ⟨⟨⟨_, hhead, by simp [bkc], rfl⟩, hrow, ⟨false, hio⟩, (fun y hy => by cases hy), by simp; exact a1, (by rintro (e | e) <;> simp only at e <;> omega), (by rintro (e | e) <;> simp only at e <;> omega)⟩, hvar, by rintro (e | e) <;> simp only at e <;> omega⟩
  have hmap : U.MapAt w6 Tryz.prog 30 hm 0 (fun _ => none) := U.mapAt_made (k6.at hE.map (fun e => hbm e.symm))
  refine ⟨⟨List.replicate a false, List.replicate a ⟨0, 0, 0⟩, [], [], [], 0, 0, 0, ⟨hhead, hvar, SetAt_far hset k1 (show ¬ tb = bb by omega) (show ¬ tg = bb by omega), hrow, ⟨false, hio⟩, HS_re hHS k56 (fun i hi e => by have := hf i hi; omega) rfl rfl hls (fun _ e => e) (fun _ _ _ _ => rfl) (fun e he => by cases he), hmap.congr (fun _ => rfl), hap, fun e => by have := hown 0 e; omega, by simp, rfl, a1, fun y hy => by cases hy⟩, ⟨by simp, fun j => ?_, by simp, (fun x hx => by cases hx), rfl, (fun e he => by cases he), (fun x hx => by cases hx), List.Pairwise.nil⟩, Nat.le_refl _, by simp, Nat.le_refl _⟩, ?_, hown⟩
  · simp [sat, List.getD_eq_getElem?_getD, List.getElem?_replicate]
    split <;> rfl
  · exact ⟨k1.os.trans g1.os, k1.tape.trans g1.tape, k1.output.trans g1.output, Nat.le_trans g1.size k1.size, fun i hi hne => (k1.block i (Nat.lt_of_lt_of_le hi g1.size) (by omega)).trans (g1.block i hi hne)⟩
set_option maxHeartbeats 8000000 in
theorem empty_any (a b c n : Nat) (t : Int) (h : Gx.OkS a b c) (w : World) (hz : 0 < w.heap.size) : Calls Tryz.prog 72 #[limV a b c, .int .u32 (n : Int), .int .i64 t] w fun e w' => ∃ p, e = .returned (.pointer (some ⟨p.b, 0, none⟩)) ∧ BkAt w' p ⟨a, b, c, n, t, []⟩ 0 ∧ w.grownBy w' none ∧ (∀ i, p.own i → w.heap.size ≤ i) := by
  obtain ⟨a0, a1, b0, b1, c0, c1⟩ := h
  have hmk := make_bgs a (by omega)
  have HB : Hid (∀ W : World, w.grownBy W none → Calls Tryz.prog 101 #[.int .i64 (a : Int)] W fun e w' => ∃ b g, e = .returned (.tuple #[.pointer (some ⟨b, 0, none⟩), .int .i64 0]) ∧ Bt.SetAt w' b g (List.replicate a false) ∧ W.heap.size ≤ b ∧ W.heap.size ≤ g ∧ W.grownBy w' none) := fun W hW => Bt.new_any a W (by omega) (by have := hW.size; omega)
  have HI : Hid (∀ W : World, Calls Tryz.prog 102 #[.int .i64 (b : Int)] W fun e w' => ∃ x g n S, e = .returned (.tuple #[.pointer (some ⟨x, 0, none⟩), .int .i64 0]) ∧ Ix.IxAt w' x g n b 0 S [] ∧ W.grownBy w' none ∧ W.heap.size ≤ x ∧ W.heap.size ≤ g) := fun W => Ix.new_any b (by omega) (by omega) W
  have hmm := @run_makeMap Tryz.prog
  unfold limV
  go_enter Tryz.func72, Tryz.ntmps72
  go_wp2_with fail
  refine (HB.out _ (grown_alloc w _)).mono ?_
  rintro e w1 ⟨tb, tg, rfl, hset, ht1, ht2, hg1⟩
  have hbx1 : w1.heap[w.heap.size]? = some (.cells [Value.int .i64 (a : Int), .int .i64 (b : Int), .int .i64 (c : Int)].toArray 23 (0, 0)) := (hg1.block _ (by simp) (by simp)).trans (heap_alloc_new w _)
  obtain ⟨-, z1, -, -⟩ := box3 hbx1
  have H1 := hide (And.intro hset (And.intro ht1 (And.intro ht2 (And.intro (grown_trans (grown_alloc w _) hg1) hbx1))))
  clear hset ht1 ht2 hg1 hbx1
  go_wp2_with fail
  refine (HI.out _).mono ?_
  rintro e w2 ⟨x, g, m, SS, rfl, hix, hg2, hx1, hx2⟩
  have hbx2 := (hg2.block _ (row_lt H1.out.2.2.2.2) (by simp)).trans H1.out.2.2.2.2
  obtain ⟨y0, y1, y2, -⟩ := box3 hbx2
  have H2 := hide (And.intro hix (And.intro hg2 (And.intro hx1 hx2)))
  have hsz : w.heap.size < w2.heap.size := row_lt hbx2
  clear hix hg2 hx1 hx2 z1 hbx2 HB HI
  go_wp2
  go_cut [11] from 24 to 35 (fun v W => ∃ vb bb sg hm : Nat, v = .pointer (some ⟨vb, 0, none⟩) ∧ Hid (Emp w2 W a b c n t tb x vb bb sg hm))
  case first =>
    go_region_held3 (fun W => W.cell? ⟨w.heap.size, 0, none⟩ = some (.int .i64 (a : Int)) ∧ W.cell? ⟨w.heap.size, 1, none⟩ = some (.int .i64 (b : Int)) ∧ W.cell? ⟨w.heap.size, 2, none⟩ = some (.int .i64 (c : Int))) (first | assumption | exact sx_g ⟨y0, y1, y2⟩ (by repeat (first | with_reducible exact grown_refl _ _ | with_reducible refine gn_drew ?_ | with_reducible refine gn_alloc ?_ _ | with_reducible refine gn_set ?_ (by simp)))) (fail)
    all_goals
      go_wp2
      go_meet
      case rel =>
        first
          | exact ⟨_, _, _, _, rfl, emp_0 w2 a b c n t tb x⟩
          | exact ⟨_, _, _, _, rfl, emp_1 w2 a b c n t tb x⟩
          | exact ⟨_, _, _, _, rfl, emp_2 w2 a b c n t tb x⟩
          | exact ⟨_, _, _, _, rfl, emp_3 w2 a b c n t tb x⟩
          | exact ⟨_, _, _, _, rfl, emp_4 w2 a b c n t tb x⟩
          | exact ⟨_, _, _, _, rfl, emp_5 w2 a b c n t tb x⟩
          | exact ⟨_, _, _, _, rfl, emp_6 w2 a b c n t tb x⟩
          | exact ⟨_, _, _, _, rfl, emp_7 w2 a b c n t tb x⟩
  case rest =>
  obtain ⟨vb, bb, sg, hm, rfl, HE⟩ := hcut
  have e := HE.out
  have v0 := cell_row e.var 0
  have h3 : wc.cell? ⟨bb, 3, none⟩ = some (.pointer none) := cell_row e.head 3
  have h3f := free_row e.head 3
  have hbv : ¬ bb = vb := ne_obj e.head e.var (cells_ne (by decide))
  have hmf : ∀ (fn : Fn) (first cap : Array Value) (w : World), (Instr.makeFunc fn first cap).run Tryz.prog w = .ok (.func fn first cap) w := fun _ _ _ _ => rfl
  have HN : Hid (∀ W, (wc.setCell ⟨bb, 3, none⟩ (.pointer (some ⟨bb, 0, none⟩))).grownBy W none → Calls Tryz.prog 103 #[.func (.func 104) #[] #[.pointer (some ⟨vb, 0, none⟩)]] W fun e w' => ∃ hp : Hp.Hp, e = .returned (.pointer (some ⟨hp.h, 0, none⟩)) ∧ Hp.HS w' (lsB vb bb sg ⟨x, g, m, b⟩ [] (List.replicate a ⟨0, 0, 0⟩)) hp [] [] 0 0 ∧ W.grownBy w' none ∧ (∀ j, hp.own j → W.heap.size ≤ j)) := by
    intro W hg
    have hE := HE.out
    obtain ⟨hix, hg2, hx1, hx2⟩ := H2.out
    have k4 : Kept wc W (fun i => i = bb) := (kept_setCell wc bb 3 (.pointer (some ⟨bb, 0, none⟩))).trans (Kept.new hg _) (fun _ _ e => e)
    have k2 : Kept w2 W (fun i => i = bb) := (Kept.new hE.gr _).trans k4 (fun _ _ e => e)
    have xl1 := row_lt hix.at_.head
    have xl2 := row_lt hix.at_.row
    have lv := hE.lv
    have lb := hE.lb
    have ls := hE.ls
    have h4 := row_setCell hE.head 3 (.pointer (some ⟨bb, 0, none⟩))
    have h5 := (hg.block _ (row_lt h4) (by simp)).trans h4
    have hls : LsI W vb bb sg ⟨x, g, m, b⟩ [] (List.replicate a ⟨0, 0, 0⟩) :=
      ⟨⟨⟨_, h5, by simp [emc], rfl⟩, k4.at hE.row (fun e => ne_obj hE.head hE.row (cells_ne (by decide)) e.symm), ⟨false, 0, SS, hix.far k2 (show ¬ x = bb by omega) (show ¬ g = bb by omega), by simp⟩, (fun y hy => by cases hy), (by simp; omega), (by rintro (e | e) <;> simp only at e <;> omega), (by rintro (e | e) <;> simp only at e <;> omega)⟩, k4.at hE.var (fun e => ne_obj hE.head hE.var (cells_ne (by decide)) e.symm), by rintro (e | e) <;> simp only at e <;> omega⟩
    exact Hp.new_any (lsB_ok vb bb sg ⟨x, g, m, b⟩ [] (List.replicate a ⟨0, 0, 0⟩)) hls
  have HF : Hid (∀ W w5 hp, (wc.setCell ⟨bb, 3, none⟩ (.pointer (some ⟨bb, 0, none⟩))).grownBy W none → W.heap.size = wc.heap.size → Hp.HS w5 (lsB vb bb sg ⟨x, g, m, b⟩ [] (List.replicate a ⟨0, 0, 0⟩)) hp [] [] 0 0 → W.grownBy w5 none → (∀ j, hp.own j → W.heap.size ≤ j) → (w5.cell? ⟨vb, 0, none⟩ = some (.pointer (some ⟨bb, 0, none⟩)) ∧ w5.cell? ⟨bb, 9, none⟩ = some (.pointer none) ∧ w5.frozen? ⟨bb, 9, none⟩ = false) ∧ ∀ w6, w6 = w5.setCell ⟨bb, 9, none⟩ (.pointer (some ⟨hp.h, 0, none⟩)) → w6.cell? ⟨vb, 0, none⟩ = some (.pointer (some ⟨bb, 0, none⟩)) ∧ ∃ p : Bp, p.b = bb ∧ BkAt w6 p ⟨a, b, c, n, t, []⟩ 0 ∧ w.grownBy w6 none ∧ ∀ i, p.own i → w.heap.size ≤ i) := by
    intro W w5 hp q1 q2 q3 q4 q5
    have hE := HE.out
    obtain ⟨hix, hg2, hx1, hx2⟩ := H2.out
    obtain ⟨hset, ht1, ht2, hg1, hbx⟩ := H1.out
    simp only [World.size_alloc] at ht1 ht2
    have h4 := row_setCell hE.head 3 (.pointer (some ⟨bb, 0, none⟩))
    have h5 := ((grown_trans q1 q4).block _ (row_lt h4) (by simp)).trans h4
    have v4 := (Below.heap_setCell wc ⟨bb, 3, none⟩ (.pointer (some ⟨bb, 0, none⟩)) vb (fun e => hbv e.symm)).trans hE.var
    have v5 := ((grown_trans q1 q4).block _ (row_lt v4) (by simp)).trans v4
    refine ⟨⟨cell_row v5 0, cell_row h5 9, free_row h5 9⟩, fun w6 e6 => ⟨?_, ⟨bb, vb, sg, tb, tg, ⟨x, g, m, b⟩, hp, hm⟩, rfl, made_bk (by omega) (by omega) hg1 hset (by omega) (by omega) hz hix hg2 hx1 hx2 hE q3 (grown_trans q1 q4) (by rw [← q2]; exact q5) e6⟩⟩
    rw [e6]
    exact (grown_setCell w5 bb 9 _).cell (cell_row v5 0) (by simp; omega)
  clear e HE H1 H2 y0 y1 y2 hsz hmk hmm a0 a1 b0 b1 c0 c1 hz
  go_wp2
  go_region_held3 (fun W => W.cell? ⟨vb, 0, none⟩ = some (.pointer (some ⟨bb, 0, none⟩))) (first | assumption | exact (grown_setCell _ _ _ _).cell v0 (by simp; omega))
    ((go_at_call 103; refine (HN.out _ (grown_drew _ none)).mono ?_; rintro e w5 ⟨hp, rfl, q3, q4, q5⟩; obtain ⟨⟨p1, p2, p3⟩, p4⟩ := HF.out _ w5 hp (grown_drew _ none) (by simp) q3 q4 q5; obtain ⟨p5, p6⟩ := p4 _ rfl; have HP6 := hide p6; clear p6 p4 q3 q4 q5))
  go_wp2
  go_ret
  obtain ⟨p, rfl, r1, r2, r3⟩ := HP6.out
  exact ⟨p, rfl, r1, r2, r3⟩
end Go.Proofs.YtinkkocleognbaaGreatDoor
/- What goes through all items. -/
namespace Go.Proofs.YtinkkocleognbaaGreatDoor.Ix
open Go.RowKit Go.Shelf
attribute [local go_sem] Oper.semAt_some
def en (E : List (Nat × Int)) (i : Nat) : Nat × Int := (E[i]?).getD (0, 0)
def encE (x : Nat × Int) : Array Value := #[.int .u32 (x.1 : Int), .int .i64 x.2]
/-- The row that is gone through. -/
structure ItE (W : World) (B : Nat) (so : Option Addr) (cap : Nat) (X : List (Nat × Int)) : Prop where
  box : W.heap[B]? = some (.cells [Value.slice so X.length cap].toArray 173 (0, 0))
  le : X.length ≤ cap
  row : ∀ i, i < X.length → ∃ g, so = some ⟨g, 0, none⟩ ∧ W.cell? ⟨g, i * 2, none⟩ = some (.int .u32 ((en X i).1 : Int)) ∧ W.cell? ⟨g, i * 2 + 1, none⟩ = some (.int .i64 (en X i).2)
theorem ItE.grown {W W' : World} {B : Nat} {so : Option Addr} {cap : Nat} {X : List (Nat × Int)} (h : ItE W B so cap X) (g : W.grownBy W' none) : ItE W' B so cap X :=
  ⟨(g.block _ (row_lt h.box) (by simp)).trans h.box, h.le, fun i hi => by obtain ⟨q, h1, h2, h3⟩ := h.row i hi; exact ⟨q, h1, g.cell h2 (by simp), g.cell h3 (by simp)⟩⟩
theorem take_en {X : List (Nat × Int)} {i : Nat} (h : i < X.length) : X.take i ++ [en X i] = X.take (i + 1) := by
  rw [List.take_add_one, List.getElem?_eq_getElem h]
  unfold en
  rw [List.getElem?_eq_getElem h]
  rfl
/-- How many rounds are left. -/
def leftE (n : Nat) (q : Value) : Nat := match q with | .int _ i => n - i.toNat | _ => 0
theorem leftE_nat (n i : Nat) : leftE n (.int .i64 (i : Int)) = n - i := by simp [leftE]
end Go.Proofs.YtinkkocleognbaaGreatDoor.Ix
/- The library's sort (WholeK), laid at this program, in plain words: shelf_lay_g SlLaysF0.n6 Slsf 6 at Tryz 122 as Tryz.sortE, by lay-plain.mjs. -/
namespace Go.Proofs
open Go.Shelf
def Tryz.sortE_ren : Go.Shelf.Ren := ⟨fun | 6 => 122 | 15 => 150 | 14 => 149 | 28 => 170 | 29 => 171 | 20 => 162 | 21 => 163 | 22 => 164 | 23 => 165 | 24 => 166 | 25 => 167 | 26 => 168 | 27 => 169 | 46 => 177 | 47 => 178 | 48 => 179 | 49 => 180 | 50 => 181 | 57 => 186 | n => n, fun | 22 => 173 | 24 => 177 | 25 => 179 | 3 => 3 | 39 => 210 | 0 => 0 | 53 => 30 | 55 => 38 | 4 => 4 | 46 => 225 | 45 => 224 | 50 => 49 | 5 => 5 | 9 => 9 | 66 => 233 | 70 => 236 | 76 => 239 | 77 => 240 | n => n, fun | n => n⟩
theorem Tryz.sortE : Go.Proofs.SlLaysF0.n6 Tryz.prog Tryz.sortE_ren := {
  mixed := by kernel_rfl
  f6 := ⟨Tryz.f122.name, by decide, Tryz.func122.trans (congrArg some (by kernel_rfl))⟩
  f14 := ⟨Tryz.f149.name, by decide, Tryz.func149.trans (congrArg some (by kernel_rfl))⟩
  f15 := Tryz.func150.trans (congrArg some (by kernel_rfl))
  f20 := ⟨Tryz.f162.name, by decide, Tryz.func162.trans (congrArg some (by kernel_rfl))⟩
  f21 := ⟨Tryz.f163.name, by decide, Tryz.func163.trans (congrArg some (by kernel_rfl))⟩
  f22 := ⟨Tryz.f164.name, by decide, Tryz.func164.trans (congrArg some (by kernel_rfl))⟩
  f23 := ⟨Tryz.f165.name, by decide, Tryz.func165.trans (congrArg some (by kernel_rfl))⟩
  f24 := ⟨Tryz.f166.name, by decide, Tryz.func166.trans (congrArg some (by kernel_rfl))⟩
  f25 := ⟨Tryz.f167.name, by decide, Tryz.func167.trans (congrArg some (by kernel_rfl))⟩
  f26 := ⟨Tryz.f168.name, by decide, Tryz.func168.trans (congrArg some (by kernel_rfl))⟩
  f27 := ⟨Tryz.f169.name, by decide, Tryz.func169.trans (congrArg some (by kernel_rfl))⟩
  f28 := Tryz.func170.trans (congrArg some (by kernel_rfl))
  f29 := Tryz.func171.trans (congrArg some (by kernel_rfl))
  f46 := ⟨Tryz.f177.name, by decide, Tryz.func177.trans (congrArg some (by kernel_rfl))⟩
  f47 := Tryz.func178.trans (congrArg some (by kernel_rfl))
  f48 := Tryz.func179.trans (congrArg some (by kernel_rfl))
  f49 := ⟨Tryz.f180.name, by decide, Tryz.func180.trans (congrArg some (by kernel_rfl))⟩
  f50 := ⟨Tryz.f181.name, by decide, Tryz.func181.trans (congrArg some (by kernel_rfl))⟩
  f57 := ⟨Tryz.f186.name, by decide, Tryz.func186.trans (congrArg some (by kernel_rfl))⟩
  t0 := Tryz.underlying0
  a0 := Tryz.isAgg0
  z0 := Tryz.sizeOf0
  v0 := Tryz.zeroValue0
  t3 := Tryz.underlying3
  a3 := Tryz.isAgg3
  z3 := Tryz.sizeOf3
  v3 := Tryz.zeroValue3
  t4 := Tryz.underlying4
  a4 := Tryz.isAgg4
  z4 := Tryz.sizeOf4
  v4 := Tryz.zeroValue4
  t5 := Tryz.underlying5
  a5 := Tryz.isAgg5
  z5 := Tryz.sizeOf5
  v5 := Tryz.zeroValue5
  t9 := Tryz.underlying9
  a9 := Tryz.isAgg9
  z9 := Tryz.sizeOf9
  v9 := Tryz.zeroValue9
  t22 := Tryz.underlying173
  a22 := Tryz.isAgg173
  z22 := Tryz.sizeOf173
  v22 := Tryz.zeroValue173
  t25 := Tryz.underlying179
  a25 := Tryz.isAgg179
  z25 := Tryz.sizeOf179
  v25 := Tryz.zeroValue179
  t39 := Tryz.underlying210
  a39 := Tryz.isAgg210
  z39 := Tryz.sizeOf210
  v39 := Tryz.zeroValue210
  t45 := Tryz.underlying224
  a45 := Tryz.isAgg224
  z45 := Tryz.sizeOf224
  v45 := Tryz.zeroValue224
  t46 := Tryz.underlying225
  a46 := Tryz.isAgg225
  z46 := Tryz.sizeOf225
  v46 := Tryz.zeroValue225
  t50 := Tryz.underlying49
  a50 := Tryz.isAgg49
  z50 := Tryz.sizeOf49
  v50 := Tryz.zeroValue49
  t53 := Tryz.underlying30
  a53 := Tryz.isAgg30
  z53 := Tryz.sizeOf30
  v53 := Tryz.zeroValue30
  t55 := Tryz.underlying38
  a55 := Tryz.isAgg38
  z55 := Tryz.sizeOf38
  v55 := Tryz.zeroValue38
  t66 := Tryz.underlying233
  a66 := Tryz.isAgg233
  z66 := Tryz.sizeOf233
  v66 := Tryz.zeroValue233
  t70 := Tryz.underlying236
  a70 := Tryz.isAgg236
  z70 := Tryz.sizeOf236
  v70 := Tryz.zeroValue236
  t76 := Tryz.underlying239
  a76 := Tryz.isAgg239
  z76 := Tryz.sizeOf239
  v76 := Tryz.zeroValue239
  t77 := Tryz.underlying240
  a77 := Tryz.isAgg240
  z77 := Tryz.sizeOf240
  v77 := Tryz.zeroValue240 }
end Go.Proofs
/- Items, sorted by their ids. -/
namespace Go.Proofs.YtinkkocleognbaaGreatDoor.Ix
open Go.RowKit Go.Shelf
attribute [local go_sem ↓] Go.wp_at_zero Go.wp_at_succ
theorem nan_any (x : Int) (w : World) : Calls Tryz.prog 151 #[.int .u32 x] w fun e w' => e = .returned (.bool false) ∧ w' = w := by
  go_enter Tryz.func151, Tryz.ntmps151
  go_wp2
  go_ret
  exact ⟨by simp, rfl⟩
/-- Before, same, behind. -/
def cmpI (a b : Int) : Int := if a < b then -1 else if b < a then 1 else 0
set_option maxRecDepth 20000 in
theorem cmp_any (a b : Int) (w : World) : Calls Tryz.prog 124 #[.int .u32 a, .int .u32 b] w fun e w' => e = .returned (.int .i64 (cmpI a b)) ∧ w' = w := by
  have hn := fun x => nan_any x w
  by_cases h1 : a < b
  · have e1 : cmpI a b = -1 := if_pos h1
    rw [e1]
    clear e1
    go_enter Tryz.func124, Tryz.ntmps124
    go_wp2_with (go_at_call 151; refine (hn _).mono ?_; rintro e w1 ⟨rfl, hw1⟩; obtain rfl := hw1.symm)
    go_ret
    exact ⟨rfl, rfl⟩
  · by_cases h2 : b < a
    · have e1 : cmpI a b = 1 := by rw [cmpI, if_neg h1, if_pos h2]
      rw [e1]
      clear e1
      go_enter Tryz.func124, Tryz.ntmps124
      go_wp2_with (go_at_call 151; refine (hn _).mono ?_; rintro e w1 ⟨rfl, hw1⟩; obtain rfl := hw1.symm)
      go_ret
      exact ⟨rfl, rfl⟩
    · have e1 : cmpI a b = 0 := by rw [cmpI, if_neg h1, if_neg h2]
      rw [e1]
      clear e1
      go_enter Tryz.func124, Tryz.ntmps124
      go_wp2_with (go_at_call 151; refine (hn _).mono ?_; rintro e w1 ⟨rfl, hw1⟩; obtain rfl := hw1.symm)
      go_ret
      exact ⟨rfl, rfl⟩
set_option maxRecDepth 20000 in
theorem cmpE_any (x y : Nat × Int) (w : World) : Calls Tryz.prog 123 #[.agg #[.int .u32 (x.1 : Int), .int .i64 x.2], .agg #[.int .u32 (y.1 : Int), .int .i64 y.2]] w fun e w' => e = .returned (.int .i64 (cmpI (x.1 : Int) (y.1 : Int))) ∧ ∃ q os, w' = Go.Sort.grow (w.drewN q) os := by
  have hcon := fun W => cmp_any (x.1 : Int) (y.1 : Int) W
  generalize cmpI (x.1 : Int) (y.1 : Int) = r at hcon ⊢
  go_enter Tryz.func123, Tryz.ntmps123
  go_wp2_with (go_at_call 124; refine (hcon _).mono ?_; rintro e w1 ⟨rfl, hw1⟩; obtain rfl := hw1.symm)
  go_ret
  exact ⟨rfl, 0, _, by rw [Go.Sort.alloc_eq_grow, Go.Sort.alloc_eq_grow, Go.Sort.grow_grow]; rfl⟩
def encL (x : Nat × Int) : List Value := [.int .u32 (x.1 : Int), .int .i64 x.2]
def cfE (x y : Nat × Int) : Int := cmpI (x.1 : Int) (y.1 : Int)
theorem ltE (x y : Nat × Int) : ltOf cfE x y = decide (x.1 < y.1) := by
  unfold ltOf cfE cmpI
  by_cases h1 : x.1 < y.1
  · simp [h1]
  · by_cases h2 : y.1 < x.1 <;> simp [h1, h2]
theorem swoE : Go.Sort.SWO (ltOf cfE) where
  irrefl x := by rw [ltE]; simp
  trans x y z h1 h2 := by rw [ltE] at *; simp at *; omega
  ntrans x y z h1 h2 := by rw [ltE] at *; simp at *; omega
theorem grown_sortW {w : World} {g m : Nat} {os : Array Obj} (d : Array (Nat × Int)) : w.grownBy (sortWorldK encL 2 w g 0 m d os) (some g) := by
  refine ⟨rfl, rfl, rfl, by simp [sortWorldK, Go.Sort.putRowK, Go.Sort.grow, Go.Sort.putRow, Go.Sort.mapBlock, Go.Sort.ahead], fun k hk hne => ?_⟩
  have : g ≠ k := fun e => hne (by rw [e])
  unfold sortWorldK
  rw [Go.Sort.heap_grow_old _ _ (by simpa [Go.Sort.putRowK, Go.Sort.putRow, Go.Sort.mapBlock, Go.Sort.ahead] using hk)]
  simp [Go.Sort.putRowK, Go.Sort.putRow, Go.Sort.mapBlock, Go.Sort.ahead, Array.getElem?_modify, this]
theorem sortE_any (blk cap : Nat) (d : Array (Nat × Int)) (w : World) (hH : Go.Sort.HoldsK encL 2 w blk 0 d) (hblk : blk < w.heap.size) (hsz : d.size ≤ 65536) :
    Calls Tryz.prog 122 #[.slice (some ⟨blk, 0, none⟩) d.size cap, .func (.func 123) #[] #[]] w fun e w' => e = .returned (.tuple #[]) ∧ ∃ d', Go.Sort.PermIn 0 d.size d d' ∧ Go.Sort.SortedIn (ltOf cfE) 0 d.size d' ∧ Go.Sort.HoldsK encL 2 w' blk 0 d' ∧ w.grownBy w' (some blk) := by
  have eg : ∀ args w, (callFunc 123 args).run Tryz.prog w = .ok (.enter 123 args) w := enters_of Tryz.func123 (by kernel_rfl) rfl
  have hcon := AnyQ.slices_SortFunc Tryz.sortE 2 Tryz.isAgg177 Tryz.sizeOf177 encL (fun _ => rfl) (fun x v hv => by simp [encL] at hv; rcases hv with rfl | rfl <;> rfl) cfE swoE 123 #[] blk 0 cap d w eg (fun _ _ _ _ x y => cmpE_any x y _) hH hblk (by omega)
  refine hcon.mono ?_
  rintro e w' ⟨rfl, d', n, os, hp, hs, rfl⟩
  exact ⟨rfl, d', hp, hs, holdsK_sortWorldK_c encL 2 w blk 0 d d' n os hH hblk hp.1, grown_sortW d'⟩
/-- Items as they lie in cells. -/
def icells (E : List (Nat × Int)) : List Value := E.flatMap fun e => [.int .u32 (e.1 : Int), .int .i64 e.2]
theorem icells_snoc (E : List (Nat × Int)) (x : Nat × Int) : icells (E ++ [x]) = icells E ++ [.int .u32 (x.1 : Int), .int .i64 x.2] := by simp [icells]
theorem icells_get {E : List (Nat × Int)} {i : Nat} (h : i < E.length) : (icells E)[i * 2]? = some (.int .u32 ((en E i).1 : Int)) ∧ (icells E)[i * 2 + 1]? = some (.int .i64 (en E i).2) := by
  induction E generalizing i with
  | nil => simp at h
  | cons y r ih =>
    cases i with
    | zero => simp [icells, en]
    | succ i =>
      have := ih (i := i) (by simpa using h)
      have e : icells (y :: r) = .int .u32 (y.1 : Int) :: .int .i64 y.2 :: icells r := by simp [icells]
      have e2 : en (y :: r) (i + 1) = en r i := by simp [en]
      rw [e, e2, show (i + 1) * 2 = i * 2 + 2 by omega, show i * 2 + 2 + 1 = (i * 2 + 1) + 2 by omega]
      simpa using this
/-- The clone's row, as the sort wants it. -/
theorem holds_row {w : World} {g : Nat} {cur : List Value} {E : List (Nat × Int)} (hg : w.heap[g]? = some (.cells cur.toArray 177 (0, 0))) (ht : cur.take (E.length * 2) = icells E) : Go.Sort.HoldsK encL 2 w g 0 E.toArray := by
  intro j hj
  rw [Go.Sort.size_flatK] at hj
  refine ⟨?_, free_row hg _⟩
  rw [Go.Sort.get_flatK _ _ _ _ hj, Nat.zero_add]
  have hj' : j < E.length * 2 := by simpa using hj
  have hi : j / 2 < E.length := by omega
  have he : E.toArray[j / 2]! = en E (j / 2) := by simp [en, hi]
  rw [he]
  obtain ⟨h1, h2⟩ := icells_get hi
  rcases Nat.mod_two_eq_zero_or_one j with hm | hm
  · have hjj : j / 2 * 2 = j := by omega
    rw [hjj] at h1
    rw [hm, own_cell hg ht h1]
    rfl
  · have hjj : j / 2 * 2 + 1 = j := by omega
    rw [hjj] at h2
    rw [hm, own_cell hg ht h2]
    rfl
theorem perm_whole {d d' : Array (Nat × Int)} (h : Go.Sort.PermIn 0 d.size d d') : d'.toList.Perm d.toList := by
  have h2 := h.2.2
  have e1 : d'.extract 0 d.size = d' := by rw [← h.1]; simp
  have e2 : d.extract 0 d.size = d := by simp
  rw [e1, e2] at h2
  exact h2
/-- What the sort leaves of rows with distinct handles: the one order by rising handles. -/
theorem sorted_is {E X : List (Nat × Int)} {d' : Array (Nat × Int)} (hp : Go.Sort.PermIn 0 E.toArray.size E.toArray d') (hs : Go.Sort.SortedIn (ltOf cfE) 0 E.toArray.size d') (hX : X.Perm E) (hA : Asc X) : d' = X.toArray := by
  have hperm : d'.toList.Perm X := (perm_whole hp).trans hX.symm
  have hnd : (X.map (·.1)).Nodup := by
    have := hA
    unfold Asc at this
    exact List.pairwise_map.2 (this.imp (fun h => by omega))
  have hnd' : (d'.toList.map (·.1)).Nodup := (hperm.map _).nodup_iff.2 hnd
  have hasc : Asc d'.toList := by
    unfold Asc
    rw [List.pairwise_iff_getElem]
    intro i j hi hj hij
    have hsz : d'.size = E.toArray.size := hp.1
    have h1 := hs i j (Nat.zero_le _) hij (by rw [← hsz]; simpa using hj)
    rw [ltE] at h1
    rw [getElem!_pos d' j (by simpa using hj), getElem!_pos d' i (by simpa using hi)] at h1
    have h2 : d'.toList[i].1 ≠ d'.toList[j].1 := by
      have := List.pairwise_iff_getElem.1 hnd' i j (by simpa using hi) (by simpa using hj) hij
      simpa using this
    simp at h1 h2 ⊢
    omega
  have := asc_unique hasc hA hperm
  rw [← this]
/-- The sort of items. -/
theorem sort_row {w : World} {B0 : Nat} {so : Option Addr} {cap : Nat} {E X : List (Nat × Int)} (hr : w.ownsRow B0 177 2 (.slice so E.length cap) E.length (icells E)) (hE : E.length ≤ 65536) (hX : X.Perm E) (hA : Asc X) :
    Calls Tryz.prog 122 #[.slice so E.length cap, .func (.func 123) #[] #[]] w fun e w' => e = .returned (.tuple #[]) ∧ w.grownBy w' (Value.slice so E.length cap).ownBlock ∧ (∀ i, i < X.length → ∃ g, so = some ⟨g, 0, none⟩ ∧ w'.cell? ⟨g, i * 2, none⟩ = some (.int .u32 ((en X i).1 : Int)) ∧ w'.cell? ⟨g, i * 2 + 1, none⟩ = some (.int .i64 (en X i).2)) := by
  have hXl : X.length = E.length := hX.length_eq
  by_cases hz : 0 < E.length
  · obtain ⟨g, c2, cur, hv, hb, hg, hn, -, -, ht⟩ := own_row hr hz
    cases hv
    have hh := holds_row hg ht
    have hc := sortE_any g cap E.toArray w hh (row_lt hg) (by simpa using hE)
    rw [show E.toArray.size = E.length by simp] at hc
    refine hc.mono ?_
    rintro e w' ⟨rfl, d', hp, hs, hh', hgr⟩
    have he := sorted_is (d' := d') (by simpa using hp) (by simpa using hs) hX hA
    subst he
    refine ⟨rfl, hgr, fun i hi => ⟨g, rfl, ?_, ?_⟩⟩
    · have := (hh'.cell (i := i) (c := 0) (by simpa using hi) (by omega)).1
      simpa [encL, en, hi] using this
    · have := (hh'.cell (i := i) (c := 1) (by simpa using hi) (by omega)).1
      simpa [encL, en, hi] using this
  · have h0 : E.length = 0 := by omega
    rw [h0]
    refine (AnyF.slices_SortFunc_none Tryz.sortE so cap (.func (.func 123) #[] #[]) w).mono ?_
    rintro e w' ⟨rfl, rfl⟩
    exact ⟨rfl, grown_refl _ _, fun i hi => by omega⟩
end Go.Proofs.YtinkkocleognbaaGreatDoor.Ix
/- All of an index. -/
namespace Go.Proofs.YtinkkocleognbaaGreatDoor.Ix
open Go.RowKit Go.Shelf
attribute [local go_sem ↓] Go.wp_at_zero Go.wp_at_succ
theorem Tryz.info177 : (Tryz.prog.info? 177).map (fun i => (i.zero, i.size, i.bytes)) = some (some (.agg #[.int .u32 0, .int .i64 0]), 2, 16) := by kernel_rfl
def its (S : List (Option (Nat × Int))) : List (Nat × Int) := S.filterMap id
theorem its_take {S : List (Option (Nat × Int))} {i : Nat} (h : i < S.length) : its (S.take (i + 1)) = its (S.take i) ++ (sl S i).toList := by
  unfold its sl
  rw [List.take_add_one, List.filterMap_append, List.getElem?_eq_getElem h]
  simp
  cases S[i] <;> simp
theorem its_len (S : List (Option (Nat × Int))) : (its S).length ≤ S.length := List.length_filterMap_le _ _
theorem two_cells (W : World) (a b : Value) (t : TypeId) : ∀ j u, [a, b][j]? = some u → (W.alloc (.cells #[a, b] t)).cell? ((⟨W.heap.size, 0, none⟩ : Addr).add j) = some u := by
  intro j u hu
  rw [Addr.add_lit, Nat.zero_add, cell_row (heap_alloc_new W (.cells [a, b].toArray t))]
  exact hu
set_option maxRecDepth 20000 in
set_option maxHeartbeats 2000000 in
theorem items_at {w : World} {x g n m c st : Nat} {S : List (Option (Nat × Int))} (h : IxR w x g n m c st S) : Calls Tryz.prog 121 #[.pointer (some ⟨x, 0, none⟩)] w fun e w' => ∃ so cap, e = .returned (.slice so (its S).length cap) ∧ w'.ownsRow w.heap.size 177 2 (.slice so (its S).length cap) (its S).length (icells (its S)) ∧ w.grownBy w' none := by
  obtain ⟨i0, hi0, hz0, hz1, hz2⟩ := info_parts Tryz.info177
  have HI0 := hide (And.intro hi0 (And.intro hz0 (And.intro hz1 hz2)))
  have hno := none_at h
  obtain ⟨-, -, -, -, c4⟩ := h.cells
  have hn8 := h.most
  have HH := hide h
  clear h hi0 hz0 hz1 hz2
  go_enter Tryz.func121, Tryz.ntmps121
  go_wp2_with fail
  refine hno.mono ?_
  clear hno
  rintro e w1 ⟨rfl, hw1⟩
  obtain rfl := hw1.symm
  go_wp2
  go_loopg [3, 13] n (fun q v3 v13 wr => ∃ i : Nat, v13 = .int .i64 (i : Int) ∧ Hid (q = n - i ∧ i ≤ n ∧ w.grownBy wr none ∧ wr.ownsRow w.heap.size 177 2 v3 (its (S.take i)).length (icells (its (S.take i)))))
  case atStart => exact ⟨0, rfl, rfl, Nat.zero_le _, grown_refl _ _, World.ownsRow_nil _ _ _ _⟩
  case round =>
    obtain ⟨i, rfl, HR⟩ := hrel
    by_cases hlt : i < n
    · have hI := HH.out.then HR.out.2.2.1
      obtain ⟨d0, d1, d2⟩ := hI.slot hlt
      have hlS : i < S.length := by rw [hI.len]; exact hlt
      have htk := its_take hlS
      have hle := its_len (S.take i)
      have hlt' : ((i : Int) < (n : Int)) = True := by simp; omega
      have hwr : IntKind.i64.wrap ((i : Int) + 1) = ((i : Int) + 1) := by rw [IntKind.wrap_i64]; omega
      have hle2 : (its (S.take i)).length ≤ 8192 := by have := List.length_take_le i S; omega
      cases hy : sl S i with
      | none =>
        rw [hy] at d0 d1 d2 htk
        simp only [Option.isSome] at d0
        have HT := hide htk
        clear htk hI hlS hle
        generalize idN none = z1 at *
        generalize vlN none = z2 at *
        go_wp2
        go_roundg (gk - 1)
        case rel => exact ⟨i + 1, by simp, by have := HR.out.1; omega, by omega, grown_trans HR.out.2.2.1 (World.grownBy_alloc wr _ none), by rw [HT.out]; simp only [Option.toList, List.append_nil]; exact HR.out.2.2.2.alloc _⟩
        case measure => have := HR.out.1; omega
      | some y =>
        rw [hy] at d0 d1 d2 htk
        simp only [Option.isSome] at d0
        rw [show idN (some y) = y.1 from rfl] at d1
        rw [show vlN (some y) = y.2 from rfl] at d2
        have HT := hide htk
        clear htk hI hlS
        obtain ⟨y1, hy1⟩ : ∃ y1, y1 = y.1 := ⟨_, rfl⟩
        obtain ⟨y2, hy2⟩ : ∃ y2, y2 = y.2 := ⟨_, rfl⟩
        rw [← hy1] at d1
        rw [← hy2] at d2
        have HY := hide (And.intro hy1 hy2)
        clear hy1 hy2 hle
        have hA := World.grownBy_alloc wr (.cells #[.bool true, .int .u32 (y1 : Int), .int .i64 y2] 206) none
        have hB := World.grownBy_alloc (wr.alloc (.cells #[.bool true, .int .u32 (y1 : Int), .int .i64 y2] 206)) (.cells #[.int .u32 (y1 : Int), .int .i64 y2] 177) none
        have hgB := hide (grown_trans HR.out.2.2.1 (grown_trans hA hB))
        clear hA hB
        have hcs := two_cells (wr.alloc (.cells #[.bool true, .int .u32 (y1 : Int), .int .i64 y2] 206)) (.int .u32 (y1 : Int)) (.int .i64 y2) 177
        have HCS := hide hcs
        clear hcs
        go_wp2_with (at_builtin; refine wpList_append_own _ rfl (.tmp 19) (.tmp 22) 173 rfl w.heap.size 177 i0 (.agg #[.int .u32 0, .int .i64 0]) 2 16 Tryz.underlying173 HI0.out.1 HI0.out.2.1 HI0.out.2.2.1 HI0.out.2.2.2 rfl (by decide) u3 (its (S.take i)).length (icells (its (S.take i))) rfl ((HR.out.2.2.2.alloc _).alloc _) ⟨wr.heap.size + 1, 0, none⟩ 1 1 [.int .u32 (y1 : Int), .int .i64 y2] rfl rfl (by have := HCS.out; rw [World.size_alloc] at this; exact this) (by simp [Value.oneCell']) (by unfold maxLen; omega) (by omega) hgB.out.size ?_)
        intro v' w' ho hg hv
        clear hv
        have H := hide (And.intro ho (grown_then hgB.out hg (fun j e => Or.inl (HR.out.2.2.2.lt j e).1)))
        clear ho hg
        go_wp2
        go_roundg (gk - 1)
        case rel => exact ⟨i + 1, by simp, by have := HR.out.1; omega, by omega, H.out.2, by rw [HT.out]; simp only [Option.toList, List.length_append, List.length_cons, List.length_nil]; rw [icells_snoc, ← HY.out.1, ← HY.out.2]; exact H.out.1⟩
        case measure => have := HR.out.1; omega
    · have hlt' : ((i : Int) < (n : Int)) = False := by simp; omega
      obtain rfl : i = n := by have := HR.out.2.1; omega
      have hr := HR.out.2.2.2
      rw [show S.take i = S by rw [← HH.out.len]; exact List.take_length] at hr
      obtain ⟨so, cap, rfl, -⟩ := own_form hr
      have H := hide hr
      clear hr
      go_wp2
      go_ret
      exact ⟨so, cap, rfl, H.out, HR.out.2.2.1⟩
end Go.Proofs.YtinkkocleognbaaGreatDoor.Ix
