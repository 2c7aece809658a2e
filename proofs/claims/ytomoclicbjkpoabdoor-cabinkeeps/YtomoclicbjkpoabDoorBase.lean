/- Worlds and rows of ints: plain lemmas, without the program. -/
import Derived.WalkKit
import Derived.WalkSpells
import Derived.WalkLawsBesides
import Derived.Laws.CopyOwn
import Derived.Deep.MidRow
import Derived.Test.YtomoclicbjkpoabDoorCt
namespace Go.Proofs.YtomoclicbjkpoabDoor
open Go.RowKit

theorem hide {p : Prop} (h : p) : Hid p := h

/-- xs lies, int by int, where ao leads. -/
def At (w : World) (ao : Option Addr) (xs : List Int) : Prop := ∀ j u, xs[j]? = some u → ∃ a, ao = some a ∧ w.cell? (a.add j) = some (.int .i64 u)
theorem At.nil (w : World) (ao : Option Addr) : At w ao [] := fun j u h => by simp at h
theorem addr_add_block (a : Addr) (j : Nat) : (a.add j).block = a.block := by unfold Addr.add; split <;> rfl
theorem At.take {w : World} {ao : Option Addr} {xs : List Int} (h : At w ao xs) (n : Nat) : At w ao (xs.take n) := by
  intro j u hu
  rw [List.getElem?_take] at hu
  split at hu
  · exact h j u hu
  · cases hu
theorem At.kept {w w' : World} {ao : Option Addr} {xs : List Int} {row : Option Nat} (h : At w ao xs) (hg : w.grownBy w' row) (hr : ∀ a, ao = some a → some a.block ≠ row) : At w' ao xs := by
  intro j u hu
  obtain ⟨a, ha, hcell⟩ := h j u hu
  exact ⟨a, ha, hg.cell hcell (by rw [addr_add_block]; exact hr a ha)⟩
theorem At.grown {w w' : World} {ao : Option Addr} {xs : List Int} (h : At w ao xs) (hg : w.grownBy w' none) : At w' ao xs := h.kept hg (fun _ _ e => by cases e)

/-- Two steps, one behind the other. -/
theorem grown_then {a b c : World} {row row' : Option Nat} (h : a.grownBy b row) (k : b.grownBy c row') (hr : ∀ j, row' = some j → a.heap.size ≤ j ∨ row = some j) : a.grownBy c row :=
  ⟨k.os.trans h.os, k.tape.trans h.tape, k.output.trans h.output, Nat.le_trans h.size k.size, fun i hi hne =>
    (k.block i (Nat.lt_of_lt_of_le hi h.size) (fun e => by
      rcases hr i e.symm with h1 | h1
      · omega
      · exact hne h1.symm)).trans (h.block i hi hne)⟩
theorem grown_trans {a b c : World} {row : Option Nat} (h : a.grownBy b row) (k : b.grownBy c row) : a.grownBy c row := grown_then h k (fun _ e => Or.inr e)
theorem grown_refl (w : World) (row : Option Nat) : w.grownBy w row := ⟨rfl, rfl, rfl, Nat.le_refl _, fun _ _ _ => rfl⟩
theorem grown_drew (w : World) (row : Option Nat) : w.grownBy w.drew row := ⟨rfl, rfl, rfl, Nat.le_refl _, fun _ _ _ => rfl⟩
theorem grown_drewN (w : World) (n : Nat) (row : Option Nat) : w.grownBy (w.drewN n) row := ⟨rfl, rfl, rfl, Nat.le_refl _, fun _ _ _ => rfl⟩
theorem grown_none {a b : World} (h : a.grownBy b none) (row : Option Nat) : a.grownBy b row := grown_then (grown_refl a row) h (fun _ e => by cases e)
theorem grown_alloc (w : World) (o : Obj) : w.grownBy (w.alloc o) none := World.grownBy_alloc w o none
theorem grown_setCell (w : World) (g j : Nat) (u : Value) : w.grownBy (w.setCell ⟨g, j, none⟩ u) (some g) :=
  ⟨rfl, rfl, rfl, by simp [World.setCell], fun k _ hne => Below.heap_setCell _ _ _ _ (by intro e; exact hne (by simp [e]))⟩
theorem grown_setRow (w : World) (g : Nat) (cs : Array Value) : w.grownBy (w.setRow g cs) (some g) :=
  ⟨rfl, rfl, rfl, by simp [World.setRow], fun k _ hne => setRow_other w g k cs (by intro e; exact hne (by simp [e]))⟩
theorem grown_below {a b : World} (h : a.grownBy b none) : Below a.heap.size a b := ⟨h.os, h.tape, h.output, h.size, fun k hk => h.block k hk (fun e => by cases e)⟩
theorem below_grown {a b : World} (h : Below a.heap.size a b) : a.grownBy b none := ⟨h.os, h.tape, h.output, h.size, fun k hk _ => h.block k hk⟩
/-- What writes only a block that is new to the caller. -/
theorem grown_new {a b c : World} {g : Nat} (h : a.grownBy b none) (k : b.grownBy c (some g)) (hg : a.heap.size ≤ g) : a.grownBy c none :=
  grown_then h k (fun j e => by cases e; exact Or.inl hg)

theorem cell_row {w : World} {g : Nat} {l : List Value} {t : TypeId} {fr : Nat × Nat} (h : w.heap[g]? = some (.cells l.toArray t fr)) (j : Nat) : w.cell? ⟨g, j, none⟩ = l[j]? := by
  rw [cell_of_row w g j l.toArray t fr h]; simp
theorem free_row {w : World} {g : Nat} {c : Array Value} {t : TypeId} (h : w.heap[g]? = some (.cells c t (0, 0))) (j : Nat) : w.frozen? ⟨g, j, none⟩ = false := by
  simp [World.frozen?, h]
theorem row_setCell {w : World} {g : Nat} {l : List Value} {t : TypeId} {fr : Nat × Nat} (h : w.heap[g]? = some (.cells l.toArray t fr)) (j : Nat) (u : Value) : (w.setCell ⟨g, j, none⟩ u).heap[g]? = some (.cells (l.set j u).toArray t fr) := by
  simp [World.setCell, Array.getElem?_modify, h]
theorem row_lt {w : World} {g : Nat} {o : Obj} (h : w.heap[g]? = some o) : g < w.heap.size := (Array.getElem?_eq_some_iff.1 h).1
theorem alloc_size (w : World) (o : Obj) : (w.alloc o).heap.size = w.heap.size + 1 := Array.size_push _
theorem heap_kept {w w' : World} {g : Nat} {o : Obj} {row : Option Nat} (h : w.heap[g]? = some o) (hg : w.grownBy w' row) (hne : some g ≠ row) : w'.heap[g]? = some o := (hg.block g (row_lt h) hne).trans h
theorem box_kept {w w2 : World} {o : Obj} (h : (w.alloc o).grownBy w2 none) : w2.heap[w.heap.size]? = some o :=
  (h.block _ (by rw [alloc_size]; omega) (fun e => by cases e)).trans (heap_alloc_new w o)

/-- A cabin as a value. -/
def cbV (R W : Int) (v : Value) : Value := .agg #[.int .i64 R, .int .i64 W, v]
/-- A cabin's aisles lie there. -/
structure CbIn (w : World) (ao : Option Addr) (n cap : Nat) (L : List Int) : Prop where
  at_ : At w ao L
  len : L.length = n
  nil : ao = none → n = 0 ∧ cap = 0
  fits : n ≤ cap
  most : cap ≤ maxLen
  sm : n ≤ 17592186044000
theorem CbIn.grown {w w' : World} {ao : Option Addr} {n cap : Nat} {L : List Int} (h : CbIn w ao n cap L) (hg : w.grownBy w' none) : CbIn w' ao n cap L :=
  ⟨h.at_.grown hg, h.len, h.nil, h.fits, h.most, h.sm⟩
theorem CbIn.kept {w w' : World} {ao : Option Addr} {n cap : Nat} {L : List Int} {row : Option Nat} (h : CbIn w ao n cap L) (hg : w.grownBy w' row) (hr : ∀ a, ao = some a → some a.block ≠ row) : CbIn w' ao n cap L :=
  ⟨h.at_.kept hg hr, h.len, h.nil, h.fits, h.most, h.sm⟩
theorem CbIn.cell {w : World} {ao : Option Addr} {n cap : Nat} {L : List Int} (h : CbIn w ao n cap L) {j : Nat} (hj : j < L.length) : ∃ a, ao = some a ∧ w.cell? (a.add j) = some (.int .i64 L[j]) :=
  h.at_ j _ (List.getElem?_eq_getElem hj)
end Go.Proofs.YtomoclicbjkpoabDoor
