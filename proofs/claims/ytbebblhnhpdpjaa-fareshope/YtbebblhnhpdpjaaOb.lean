/- Worlds, rows of floats as they lie. -/
import Derived.WalkKit
import Derived.WalkSpells
import Derived.WalkLawsBesides
import Derived.Laws.CopyOwn
import Derived.Deep.MidRow
import Derived.Laws.AppendOwnNone
import Derived.Laws.OwnMore
import Derived.ArgAppend
import Derived.Test.YtbebblhnhpdpjaaFx
import Derived.Test.YtbebblhnhpdpjaaChecked
import Derived.Deep.LoopGhost
import Derived.Deep.RegionHeld3
import Derived.Deep.DrawnRows
import Derived.Deep.QuietTactic
import Derived.Deep.RegionWith
import Derived.BigQuiet
import Derived.Deep.OwnRows
namespace Go.Proofs.Ytbebblhnhpdpjaa
open Go.RowKit

section
variable {P : Program} (w : World) (a : Addr) (m : Mode)
theorem run_store_float (k : FloatKind) (b : Nat) : (store a (.float k b) m).run P w = stored P w a (.float k b) m := run_store P w a _ m rfl
end
theorem hide {p : Prop} (h : p) : Hid p := h

theorem grown_then {a b c : World} {row row' : Option Nat} (h : a.grownBy b row) (k : b.grownBy c row') (hr : ∀ j, row' = some j → a.heap.size ≤ j ∨ row = some j) : a.grownBy c row :=
  ⟨k.os.trans h.os, k.tape.trans h.tape, k.output.trans h.output, Nat.le_trans h.size k.size, fun i hi hne =>
    (k.block i (Nat.lt_of_lt_of_le hi h.size) (fun e => by
      rcases hr i e.symm with h1 | h1
      · omega
      · exact hne h1.symm)).trans (h.block i hi hne)⟩
theorem grown_trans {a b c : World} {row : Option Nat} (h : a.grownBy b row) (k : b.grownBy c row) : a.grownBy c row := grown_then h k (fun _ e => Or.inr e)
theorem grown_refl (w : World) (row : Option Nat) : w.grownBy w row := ⟨rfl, rfl, rfl, Nat.le_refl _, fun _ _ _ => rfl⟩
theorem grown_drew (w : World) (row : Option Nat) : w.grownBy w.drew row := ⟨rfl, rfl, rfl, Nat.le_refl _, fun _ _ _ => rfl⟩
theorem grown_none {a b : World} (h : a.grownBy b none) (row : Option Nat) : a.grownBy b row := grown_then (grown_refl a row) h (fun _ e => by cases e)
theorem grown_setCell (w : World) (g j : Nat) (u : Value) : w.grownBy (w.setCell ⟨g, j, none⟩ u) (some g) :=
  ⟨rfl, rfl, rfl, by simp [World.setCell], fun k _ hne => Below.heap_setCell _ _ _ _ (by intro e; exact hne (by simp [e]))⟩
theorem grown_below {a b : World} (h : a.grownBy b none) : Below a.heap.size a b := ⟨h.os, h.tape, h.output, h.size, fun k hk => h.block k hk (fun e => by cases e)⟩
theorem grown_alloc (w : World) (o : Obj) : w.grownBy (w.alloc o) none := World.grownBy_alloc w o none
theorem cell_row {w : World} {g : Nat} {l : List Value} {t : TypeId} {fr : Nat × Nat} (h : w.heap[g]? = some (.cells l.toArray t fr)) (j : Nat) : w.cell? ⟨g, j, none⟩ = l[j]? := by
  rw [cell_of_row w g j l.toArray t fr h]; simp
theorem free_row {w : World} {g : Nat} {c : Array Value} {t : TypeId} (h : w.heap[g]? = some (.cells c t (0, 0))) (j : Nat) : w.frozen? ⟨g, j, none⟩ = false := by
  simp [World.frozen?, h]
theorem row_setCell {w : World} {g : Nat} {l : List Value} {t : TypeId} {fr : Nat × Nat} (h : w.heap[g]? = some (.cells l.toArray t fr)) (j : Nat) (u : Value) : (w.setCell ⟨g, j, none⟩ u).heap[g]? = some (.cells (l.set j u).toArray t fr) := by
  simp [World.setCell, Array.getElem?_modify, h]
theorem row_lt {w : World} {g : Nat} {o : Obj} (h : w.heap[g]? = some o) : g < w.heap.size := (Array.getElem?_eq_some_iff.1 h).1
theorem addr_add_block (a : Addr) (j : Nat) : (a.add j).block = a.block := by unfold Addr.add; split <;> rfl

/-- The floats xs lie where ao leads. -/
def At (w : World) (ao : Option Addr) (xs : List Nat) : Prop := ∀ j u, xs[j]? = some u → ∃ a, ao = some a ∧ w.cell? (a.add j) = some (.float .f64 u)
theorem At.nil (w : World) (ao : Option Addr) : At w ao [] := fun j u h => by simp at h
theorem At.kept {w w' : World} {ao : Option Addr} {xs : List Nat} {row : Option Nat} (h : At w ao xs) (hg : w.grownBy w' row) (hr : ∀ a, ao = some a → some a.block ≠ row) : At w' ao xs := by
  intro j u hu
  obtain ⟨a, ha, hcell⟩ := h j u hu
  exact ⟨a, ha, hg.cell hcell (by rw [addr_add_block]; exact hr a ha)⟩
theorem At.grown {w w' : World} {ao : Option Addr} {xs : List Nat} (h : At w ao xs) (hg : w.grownBy w' none) : At w' ao xs := h.kept hg (by simp)
def fv (xs : List Nat) : List Value := xs.map fun (x : Nat) => Value.float .f64 x
theorem fv_length (xs : List Nat) : (fv xs).length = xs.length := by simp [fv]
theorem fv_append (xs ys : List Nat) : fv (xs ++ ys) = fv xs ++ fv ys := by simp [fv]
theorem fv_get (xs : List Nat) (j u : Nat) (h : xs[j]? = some u) : (fv xs)[j]? = some (.float .f64 u) := by simp [fv, h]
theorem fv_set (xs : List Nat) (j u : Nat) : (fv xs).set j (.float .f64 u) = fv (xs.set j u) := by simp [fv, List.map_set]
theorem fv_cell {v : Value} {xs : List Nat} (h : v ∈ fv xs) : v.oneCell' = true := by
  simp [fv] at h; obtain ⟨x, -, rfl⟩ := h; rfl

theorem Try.info33 : (Try.prog.info? 33).map (fun i => (i.zero, i.size, i.bytes)) = some (some (.float .f64 0), 1, 8) := by kernel_rfl
/-- An owned row, as floats that lie somewhere. -/
theorem own_at {w : World} {base n : Nat} {v : Value} {xs : List Nat} (h : w.ownsRow base 33 1 v n (fv xs)) :
    ∃ ao cap, v = .slice ao n cap ∧ xs.length = n ∧ n ≤ cap ∧ cap ≤ maxLen ∧ At w ao xs ∧ (ao = none → n = 0 ∧ cap = 0) ∧ (∀ a, ao = some a → a = ⟨a.block, 0, none⟩ ∧ base ≤ a.block ∧ a.block < w.heap.size) := by
  obtain ⟨hl, h⟩ := h
  simp [fv_length] at hl
  rcases h with ⟨rfl, rfl⟩ | ⟨g, cap, cur, rfl, hb, hg, hn, hm, hs, ht⟩
  · have : xs = [] := List.eq_nil_of_length_eq_zero hl
    subst this
    exact ⟨none, 0, rfl, rfl, Nat.le_refl _, Nat.zero_le _, At.nil _ _, fun _ => ⟨rfl, rfl⟩, fun a e => by cases e⟩
  · refine ⟨some ⟨g, 0, none⟩, cap, rfl, hl, hn, hm, ?_, (fun e => by cases e), fun a e => by cases e; exact ⟨rfl, hb, row_lt hg⟩⟩
    intro j u hu
    refine ⟨_, rfl, ?_⟩
    rw [Addr.add_lit, Nat.zero_add, cell_of_row w g j cur 33 (0, 0) hg]
    have h1 : (cur.toList.take (n * 1))[j]? = some (Value.float .f64 u) := by rw [ht]; exact fv_get xs j u hu
    rw [List.getElem?_take] at h1
    split at h1
    · simpa using h1
    · cases h1
theorem own_grown {w w' : World} {base n : Nat} {v : Value} {xs : List Value} (h : w.ownsRow base 33 1 v n xs) (hg : w.grownBy w' none) : w'.ownsRow base 33 1 v n xs := by
  obtain ⟨hl, h⟩ := h
  refine ⟨hl, ?_⟩
  rcases h with h | ⟨g, cap, cur, rfl, hb, hgc, hr⟩
  · exact Or.inl h
  · exact Or.inr ⟨g, cap, cur, rfl, hb, (hg.block g (row_lt hgc) (by simp)).trans hgc, hr⟩
theorem own_base {w : World} {base base' n : Nat} {v : Value} {xs : List Value} (h : w.ownsRow base 33 1 v n xs) (hb : base' ≤ base) : w.ownsRow base' 33 1 v n xs := by
  obtain ⟨hl, h⟩ := h
  refine ⟨hl, ?_⟩
  rcases h with h | ⟨g, cap, cur, rfl, hb2, hr⟩
  · exact Or.inl h
  · exact Or.inr ⟨g, cap, cur, rfl, Nat.le_trans hb hb2, hr⟩
/-- A row that lies in a block of its own, all at once. -/
structure Row (w : World) (base : Nat) (v : Value) (g cap : Nat) (xs : List Nat) : Prop where
  val : v = .slice (some ⟨g, 0, none⟩) xs.length cap
  low : base ≤ g
  own : w.ownsRow base 33 1 v xs.length (fv xs)
theorem row_of {w : World} {base n : Nat} {v : Value} {xs : List Nat} (h : w.ownsRow base 33 1 v n (fv xs)) (hx : 0 < xs.length) : ∃ g cap, Row w base v g cap xs := by
  obtain ⟨ao, cap, rfl, h1, h2, h3, h4, h5, h6⟩ := own_at h
  cases ao with
  | none => obtain ⟨h7, -⟩ := h5 rfl; omega
  | some a =>
    obtain ⟨e1, e2, e3⟩ := h6 a rfl
    subst h1
    rw [e1] at h ⊢
    exact ⟨a.block, cap, rfl, e2, h⟩
theorem Row.cell {w : World} {base : Nat} {v : Value} {g cap : Nat} {xs : List Nat} (h : Row w base v g cap xs) (j : Nat) (hj : j < xs.length) : w.cell? ⟨g, j, none⟩ = some (.float .f64 (xs.getD j 0)) := by
  obtain ⟨ao, cap', e, -, -, -, hat, -⟩ := own_at h.own
  rw [h.val] at e
  cases e
  obtain ⟨a, ea, hc⟩ := hat j (xs.getD j 0) (by rw [List.getD_eq_getElem?_getD, List.getElem?_eq_getElem hj]; rfl)
  cases ea
  rwa [Addr.add_lit, Nat.zero_add] at hc
theorem Row.heap {w : World} {base : Nat} {v : Value} {g cap : Nat} {xs : List Nat} (h : Row w base v g cap xs) : ∃ cur, w.heap[g]? = some (.cells cur 33 (0, 0)) ∧ xs.length ≤ cap ∧ cap ≤ maxLen ∧ cur.size = cap * 1 ∧ cur.toList.take (xs.length * 1) = fv xs := by
  obtain ⟨hl, h2⟩ := h.own
  rw [h.val] at h2
  rcases h2 with ⟨e, -⟩ | ⟨g', cap', cur, e, hb, hg, hn, hm, hs, ht⟩
  · cases e
  · cases e
    exact ⟨cur, hg, hn, hm, hs, ht⟩
theorem Row.free {w : World} {base : Nat} {v : Value} {g cap : Nat} {xs : List Nat} (h : Row w base v g cap xs) (j : Nat) : w.frozen? ⟨g, j, none⟩ = false := by
  obtain ⟨cur, hg, -⟩ := h.heap
  exact free_row hg j
theorem Row.lt {w : World} {base : Nat} {v : Value} {g cap : Nat} {xs : List Nat} (h : Row w base v g cap xs) : g < w.heap.size := by
  obtain ⟨cur, hg, -⟩ := h.heap
  exact row_lt hg
theorem Row.set {w : World} {base : Nat} {v : Value} {g cap : Nat} {xs : List Nat} (h : Row w base v g cap xs) (j u : Nat) (_hj : j < xs.length) : Row (w.setCell ⟨g, j, none⟩ (.float .f64 u)) base v g cap (xs.set j u) := by
  obtain ⟨cur, hg, hn, hm, hs, ht⟩ := h.heap
  refine ⟨by rw [List.length_set]; exact h.val, h.low, ?_⟩
  rw [List.length_set]
  refine ⟨by simp [fv_length], Or.inr ⟨g, cap, (cur.toList.set j (.float .f64 u)).toArray, h.val, h.low, ?_, hn, hm, by simpa using hs, ?_⟩⟩
  · have := row_setCell (l := cur.toList) (w := w) (g := g) (t := 33) (fr := (0, 0)) (by simpa using hg) j (.float .f64 u)
    simpa using this
  · rw [List.toList_toArray, List.take_set, ht, fv_set]
theorem Row.kept {w w' : World} {base : Nat} {v : Value} {g cap : Nat} {xs : List Nat} {row : Option Nat} (h : Row w base v g cap xs) (hg : w.grownBy w' row) (hr : row ≠ some g) : Row w' base v g cap xs := by
  refine ⟨h.val, h.low, ?_⟩
  obtain ⟨cur, hgc, hn, hm, hs, ht⟩ := h.heap
  exact ⟨by simp [fv_length], Or.inr ⟨g, cap, cur, h.val, h.low, (hg.block g (row_lt hgc) (fun e => hr e.symm)).trans hgc, hn, hm, hs, ht⟩⟩
theorem Row.own_block {w : World} {base : Nat} {v : Value} {g cap : Nat} {xs : List Nat} (h : Row w base v g cap xs) : v.ownBlock = some g := by rw [h.val]; rfl
end Go.Proofs.Ytbebblhnhpdpjaa
