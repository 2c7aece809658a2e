/- Fares: the amounts, as they lie; noClass. -/
import Derived.Test.YtbebblhnhpdpjaaVc
import Derived.Test.YtbebblhnhpdpjaaFq
import Derived.Laws.MakeOwn
import Derived.Lib.SliceRun
namespace Go.Proofs.Ytbebblhnhpdpjaa
open Go.RowKit
attribute [local go_sem ↓] Go.wp_at_zero Go.wp_at_succ
attribute [local go_sem] run_store_float

theorem made_reals (n : Nat) : madeCells #[Value.float .f64 0] n = (fv (List.replicate n 0)).toArray := by
  unfold madeCells fv
  apply Array.ext'
  simp [Nat.mod_one, List.map_const']
theorem make_reals (n : Nat) (h : n ≤ 8192) (w : World) : (Instr.makeSlice 27 (.int .i64 (n : Int)) (.int .i64 (n : Int))).run Try.prog w = .ok (.slice (some ⟨w.heap.size, 0, none⟩) n n) (w.alloc (.cells (fv (List.replicate n 0)).toArray 33)) := by
  have hinfo : (Try.prog.info? 33).map (fun i => (i.zero, i.size, i.bytes)) = some (some (.float .f64 0), 1, 8) := by kernel_rfl
  obtain ⟨i0, hi, hz0, hz1, hz2⟩ := info_parts hinfo
  have h1 : (n : Int).toNat = n := Int.toNat_natCast n
  have h2 : (Value.float .f64 0).cells = #[Value.float .f64 0] := rfl
  rw [run_make (P := Try.prog) (w := w) 27 33 i0 (.float .f64 0) Try.underlying27 hi hz0 .i64 .i64 (n : Int) (n : Int) (by omega) (by omega) (by rw [hz2]; omega) (by omega), hz1, h1, h2, Nat.mul_one, made_reals]

/-- A block of floats. -/
def Fb (w : World) (b : Nat) (xs : List Nat) : Prop := w.heap[b]? = some (.cells (fv xs).toArray 33 (0, 0))
theorem fv_getD {xs : List Nat} {j : Nat} (h : j < xs.length) : (fv xs)[j]? = some (.float .f64 (xs.getD j 0)) := by
  rw [List.getD_eq_getElem?_getD, List.getElem?_eq_getElem h]
  exact fv_get xs j _ (List.getElem?_eq_getElem h)
theorem Fb.cell {w : World} {b : Nat} {xs : List Nat} (h : Fb w b xs) {j : Nat} (hj : j < xs.length) : w.cell? ⟨b, j, none⟩ = some (.float .f64 (xs.getD j 0)) := by
  rw [cell_row h]; exact fv_getD hj
theorem Fb.free {w : World} {b : Nat} {xs : List Nat} (h : Fb w b xs) (j : Nat) : w.frozen? ⟨b, j, none⟩ = false := free_row h j
theorem Fb.lt {w : World} {b : Nat} {xs : List Nat} (h : Fb w b xs) : b < w.heap.size := row_lt h
theorem Fb.set {w : World} {b : Nat} {xs : List Nat} (h : Fb w b xs) (j u : Nat) : Fb (w.setCell ⟨b, j, none⟩ (.float .f64 u)) b (xs.set j u) := by
  have := row_setCell h j (.float .f64 u)
  unfold Fb; rw [← fv_set]; exact this
theorem Fb.kept {w w' : World} {b : Nat} {xs : List Nat} {row : Option Nat} (h : Fb w b xs) (hg : w.grownBy w' row) (hr : row ≠ some b) : Fb w' b xs := by
  unfold Fb; rw [hg.block b h.lt (fun e => hr e.symm)]; exact h
theorem Fb.at_ {w : World} {b : Nat} {xs : List Nat} (h : Fb w b xs) : At w (some ⟨b, 0, none⟩) xs := by
  intro j u hu
  refine ⟨_, rfl, ?_⟩
  rw [Addr.add_lit, Nat.zero_add, cell_row h]
  exact fv_get xs j u hu

/-- What seats are worth, as it lies: the pair, and its two rows. -/
structure VsAt (w : World) (v b1 b2 n : Nat) (ws sp : List Nat) : Prop where
  pair : w.heap[v]? = some (.cells [Value.slice (some ⟨b1, 0, none⟩) n n, Value.slice (some ⟨b2, 0, none⟩) n n].toArray 95 (0, 0))
  h1 : Fb w b1 ws
  h2 : Fb w b2 sp
  l1 : ws.length = n
  l2 : sp.length = n
  d1 : v ≠ b1
  d2 : v ≠ b2
  d3 : b1 ≠ b2
theorem VsAt.kept {w w' : World} {v b1 b2 n : Nat} {ws sp : List Nat} (h : VsAt w v b1 b2 n ws sp) (hg : w.grownBy w' none) : VsAt w' v b1 b2 n ws sp :=
  ⟨by rw [hg.block v (row_lt h.pair) (fun e => by cases e)]; exact h.pair, h.h1.kept hg (by simp), h.h2.kept hg (by simp), h.l1, h.l2, h.d1, h.d2, h.d3⟩
theorem VsAt.worth {w : World} {v b1 b2 n : Nat} {ws sp : List Nat} (h : VsAt w v b1 b2 n ws sp) : w.cell? ⟨v, 0, none⟩ = some (.slice (some ⟨b1, 0, none⟩) n n) := by rw [cell_row h.pair]; rfl
theorem VsAt.spare {w : World} {v b1 b2 n : Nat} {ws sp : List Nat} (h : VsAt w v b1 b2 n ws sp) : w.cell? ⟨v, 1, none⟩ = some (.slice (some ⟨b2, 0, none⟩) n n) := by rw [cell_row h.pair]; rfl
theorem VsAt.set {w : World} {v b1 b2 n : Nat} {ws sp : List Nat} (h : VsAt w v b1 b2 n ws sp) (j u : Nat) : VsAt (w.setCell ⟨b2, j, none⟩ (.float .f64 u)) v b1 b2 n ws (sp.set j u) := by
  have hg := grown_setCell w b2 j (.float .f64 u)
  exact ⟨by rw [hg.block v (row_lt h.pair) (fun e => h.d2 (by simpa using e))]; exact h.pair, h.h1.kept hg (fun e => h.d3 (by simpa using e.symm)), h.h2.set j u, h.l1, by rw [List.length_set]; exact h.l2, h.d1, h.d2, h.d3⟩

theorem vs_made (w : World) (n : Nat) (c : Bool) :
    VsAt ((((w.alloc (.cells (fv (List.replicate n 0)).toArray 33)).alloc (.cells (fv (List.replicate n 0)).toArray 33)).alloc (.cells #[Value.slice (some ⟨if c then w.heap.size else w.heap.size + 1, 0, none⟩) n n, Value.slice (some ⟨if c then w.heap.size + 1 else w.heap.size, 0, none⟩) n n] 95)).drew)
      (w.heap.size + 1 + 1) (if c then w.heap.size else w.heap.size + 1) (if c then w.heap.size + 1 else w.heap.size) n (List.replicate n 0) (List.replicate n 0) ∧
    w.grownBy ((((w.alloc (.cells (fv (List.replicate n 0)).toArray 33)).alloc (.cells (fv (List.replicate n 0)).toArray 33)).alloc (.cells #[Value.slice (some ⟨if c then w.heap.size else w.heap.size + 1, 0, none⟩) n n, Value.slice (some ⟨if c then w.heap.size + 1 else w.heap.size, 0, none⟩) n n] 95)).drew) none := by
  generalize hw1 : w.alloc (.cells (fv (List.replicate n 0)).toArray 33) = w1
  have s1 : w1.heap.size = w.heap.size + 1 := by rw [← hw1]; exact Array.size_push ..
  have f1 : Fb w1 w.heap.size (List.replicate n 0) := by rw [← hw1]; exact heap_alloc_new w _
  have g1 : w.grownBy w1 none := by rw [← hw1]; exact grown_alloc w _
  generalize hw2 : w1.alloc (.cells (fv (List.replicate n 0)).toArray 33) = w2
  have s2 : w2.heap.size = w.heap.size + 1 + 1 := by rw [← hw2, ← s1]; exact Array.size_push ..
  have f2 : Fb w2 (w.heap.size + 1) (List.replicate n 0) := by rw [← hw2, ← s1]; exact heap_alloc_new w1 _
  have g2 : w1.grownBy w2 none := by rw [← hw2]; exact grown_alloc w1 _
  have g3 : ∀ x, w2.grownBy (w2.alloc (.cells x 95)).drew none := fun x => grown_trans (grown_alloc w2 _) (grown_drew _ _)
  refine ⟨?_, grown_trans g1 (grown_trans g2 (g3 _))⟩
  have k1 := fun x => (f1.kept g2 (by simp)).kept (g3 x) (by simp)
  have k2 := fun x => f2.kept (g3 x) (by simp)
  cases c
  · refine ⟨?_, k2 _, k1 _, by simp, by simp, ?_, ?_, ?_⟩
    · have := heap_alloc_new w2 (.cells #[Value.slice (some ⟨w.heap.size + 1, 0, none⟩) n n, Value.slice (some ⟨w.heap.size, 0, none⟩) n n] 95)
      rw [s2] at this; exact this
    all_goals (simp only [Bool.false_eq_true, if_false]; omega)
  · refine ⟨?_, k1 _, k2 _, by simp, by simp, ?_, ?_, ?_⟩
    · have := heap_alloc_new w2 (.cells #[Value.slice (some ⟨w.heap.size, 0, none⟩) n n, Value.slice (some ⟨w.heap.size + 1, 0, none⟩) n n] 95)
      rw [s2] at this; exact this
    all_goals (simp only [if_true]; omega)

/-- A pair of one's own. -/
structure Own (W0 w : World) (v b1 b2 n : Nat) (ws sp : List Nat) : Prop where
  at_ : VsAt w v b1 b2 n ws sp
  grown : W0.grownBy w none
  lo0 : W0.heap.size ≤ v
  lo1 : W0.heap.size ≤ b1
  lo2 : W0.heap.size ≤ b2
theorem Own.then {W0 w w' : World} {v b1 b2 n : Nat} {ws sp : List Nat} (h : Own W0 w v b1 b2 n ws sp) (hg : w.grownBy w' none) : Own W0 w' v b1 b2 n ws sp :=
  ⟨h.at_.kept hg, grown_trans h.grown hg, h.lo0, h.lo1, h.lo2⟩
theorem noClass_any (W0 : World) (s : Nat) (w : World) (hs : s ≤ 1024) (hg : W0.grownBy w none) : Calls Try.prog 40 #[.int .i64 (s : Int)] w fun e w' => ∃ v b1 b2, e = .returned (.pointer (some ⟨v, 0, none⟩)) ∧ Own W0 w' v b1 b2 (s + 1) (List.replicate (s + 1) 0) (List.replicate (s + 1) 0) := by
  have hw : IntKind.i64.wrap ((s : Int) + 1) = ((s + 1 : Nat) : Int) := by rw [IntKind.wrap_i64]; omega
  have hm := make_reals (s + 1) (by omega)
  have hnat : ((s + 1 : Nat) : Int) = (s : Int) + 1 := by omega
  rw [hnat] at hm hw
  have HV := hide (vs_made w (s + 1))
  have HG := hide hg
  have hsz := hg.size
  clear hnat hg
  go_enter Try.func40, Try.ntmps40
  go_wp2
  go_region_law (fail)
  · go_wp2
    go_ret
    have h := HV.out true
    exact ⟨_, _, _, rfl, h.1, grown_trans HG.out h.2, by omega, by simp; omega, by simp; omega⟩
  · go_wp2
    go_ret
    have h := HV.out false
    exact ⟨_, _, _, rfl, h.1, grown_trans HG.out h.2, by omega, by simp; omega, by simp; omega⟩
end Go.Proofs.Ytbebblhnhpdpjaa
