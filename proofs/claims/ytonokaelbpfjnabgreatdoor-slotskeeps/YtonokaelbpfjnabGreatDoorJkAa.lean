/- Texts joined: K0, Map, Base, One, Two. -/
import Derived.WalkKit
import Derived.WalkSpells
import Derived.WalkLawsBesides
import Derived.Laws.CopyOwn
import Derived.Laws.Bits64b
import Derived.Laws.Bits64
import Derived.Deep.MidRow
import Derived.Test.YtonokaelbpfjnabGreatDoorChecked
import Derived.Deep.LoopGhost
import Derived.Deep.RegionHeld3
import Derived.Deep.DrawnRows
import Derived.Deep.QuietTactic
import Derived.Deep.RegionWith
import Derived.BigQuiet
import Derived.Deep.OwnRows
import Derived.Laws.AppendOwnNone
import Derived.Laws.BitsAllLaws
import Derived.Laws.OwnMore
import Derived.ArgAppend
import Derived.Maps.OwnSet
import Derived.Shelf.SlMaps.Clone
import Derived.Maps.AppendAt
import Derived.Lib.SliceRun
/- Rows of bytes, and the marks of places: shared by the texts on lists that lie apart. -/
namespace Go.Proofs.YtonokaelbpfjnabGreatDoor.Ap
open Go.RowKit

theorem hide {p : Prop} (h : p) : Hid p := h

theorem grown_then {a b c : World} {row row' : Option Nat} (h : a.grownBy b row) (k : b.grownBy c row') (hr : ∀ j, row' = some j → a.heap.size ≤ j ∨ row = some j) : a.grownBy c row :=
  ⟨k.os.trans h.os, k.tape.trans h.tape, k.output.trans h.output, Nat.le_trans h.size k.size, fun i hi hne =>
    (k.block i (Nat.lt_of_lt_of_le hi h.size) (fun e => by
      rcases hr i e.symm with h1 | h1
      · omega
      · exact hne h1.symm)).trans (h.block i hi hne)⟩
theorem grown_trans {a b c : World} {row : Option Nat} (h : a.grownBy b row) (k : b.grownBy c row) : a.grownBy c row := grown_then h k (fun _ e => Or.inr e)
theorem grown_refl (w : World) (row : Option Nat) : w.grownBy w row := ⟨rfl, rfl, rfl, Nat.le_refl _, fun _ _ _ => rfl⟩
theorem grown_drew (w : World) (row : Option Nat) : w.grownBy w.drew row := ⟨rfl, rfl, rfl, Nat.le_refl _, fun _ _ _ => rfl⟩
theorem grown_none {a b : World} (h : a.grownBy b none) (row : Option Nat) : a.grownBy b row := grown_then (grown_refl a row) h (fun _ e => by cases e)
theorem grown_setCell (w : World) (g j : Nat) (u : Value) : w.grownBy (w.setCell ⟨g, j, none⟩ u) (some g) :=
  ⟨rfl, rfl, rfl, by simp [World.setCell], fun k _ hne => Below.heap_setCell _ _ _ _ (by intro e; exact hne (by simp [e]))⟩
theorem grown_below {a b : World} (h : a.grownBy b none) : Below a.heap.size a b := ⟨h.os, h.tape, h.output, h.size, fun k hk => h.block k hk (fun e => by cases e)⟩
theorem below_grown {a b : World} (h : Below a.heap.size a b) : a.grownBy b none := ⟨h.os, h.tape, h.output, h.size, fun k hk _ => h.block k hk⟩

theorem cell_row {w : World} {g : Nat} {l : List Value} {t : TypeId} {fr : Nat × Nat} (h : w.heap[g]? = some (.cells l.toArray t fr)) (j : Nat) : w.cell? ⟨g, j, none⟩ = l[j]? := by
  rw [cell_of_row w g j l.toArray t fr h]; simp
theorem free_row {w : World} {g : Nat} {c : Array Value} {t : TypeId} (h : w.heap[g]? = some (.cells c t (0, 0))) (j : Nat) : w.frozen? ⟨g, j, none⟩ = false := by
  simp [World.frozen?, h]
theorem row_setCell {w : World} {g : Nat} {l : List Value} {t : TypeId} {fr : Nat × Nat} (h : w.heap[g]? = some (.cells l.toArray t fr)) (j : Nat) (u : Value) : (w.setCell ⟨g, j, none⟩ u).heap[g]? = some (.cells (l.set j u).toArray t fr) := by
  simp [World.setCell, Array.getElem?_modify, h]
theorem row_lt {w : World} {g : Nat} {o : Obj} (h : w.heap[g]? = some o) : g < w.heap.size := (Array.getElem?_eq_some_iff.1 h).1


/-- The bytes xs lie where ao leads. -/
def At (w : World) (ao : Option Addr) (xs : List Nat) : Prop := ∀ j u, xs[j]? = some u → ∃ a, ao = some a ∧ w.cell? (a.add j) = some (.int .u8 ((u : Nat) : Int))
theorem addr_add_block (a : Addr) (j : Nat) : (a.add j).block = a.block := by unfold Addr.add; split <;> rfl
theorem At.nil (w : World) (ao : Option Addr) : At w ao [] := fun j u h => by simp at h
theorem At.kept {w w' : World} {ao : Option Addr} {xs : List Nat} {row : Option Nat} (h : At w ao xs) (hg : w.grownBy w' row) (hr : ∀ a, ao = some a → some a.block ≠ row) : At w' ao xs := by
  intro j u hu
  obtain ⟨a, ha, hcell⟩ := h j u hu
  exact ⟨a, ha, hg.cell hcell (by rw [addr_add_block]; exact hr a ha)⟩
theorem At.grown {w w' : World} {ao : Option Addr} {xs : List Nat} (h : At w ao xs) (hg : w.grownBy w' none) : At w' ao xs := h.kept hg (by simp)
/-- They are bytes. -/
def Bytes (xs : List Nat) : Prop := ∀ x ∈ xs, x < 256

theorem Tryz.info5 : (Tryz.prog.info? 5).map (fun i => (i.zero, i.size, i.bytes)) = some (some (.int .u8 0), 1, 1) := by kernel_rfl

/-- Bytes as they lie in cells. -/
def bv (xs : List Nat) : List Value := xs.map fun (x : Nat) => Value.int .u8 (x : Int)
theorem bv_length (xs : List Nat) : (bv xs).length = xs.length := by simp [bv]
theorem bv_append (xs ys : List Nat) : bv (xs ++ ys) = bv xs ++ bv ys := by simp [bv]
theorem bv_get (xs : List Nat) (j u : Nat) (h : xs[j]? = some u) : (bv xs)[j]? = some (.int .u8 (u : Int)) := by simp [bv, h]
theorem bv_set (xs : List Nat) (j u : Nat) : bv (xs.set j u) = (bv xs).set j (.int .u8 (u : Int)) := by simp [bv, List.map_set]
theorem At.take {w : World} {ao : Option Addr} {xs : List Nat} (h : At w ao xs) (j : Nat) : At w ao (xs.take j) := by
  intro i u hu
  rw [List.getElem?_take] at hu
  split at hu
  · exact h i u hu
  · cases hu
theorem at_row {w : World} {A : Nat} {xs : List Nat} {t : TypeId} {fr : Nat × Nat} (h : w.heap[A]? = some (.cells (bv xs).toArray t fr)) : At w (some ⟨A, 0, none⟩) xs := by
  intro j u hu
  refine ⟨_, rfl, ?_⟩
  rw [Addr.add_lit, Nat.zero_add, cell_row h, bv_get xs j u hu]
theorem at_new (w : World) (xs : List Nat) (C : Array Value) (hC : C = (bv xs).toArray) (t : TypeId) : At (w.alloc (.cells C t)) (some ⟨w.heap.size, 0, none⟩) xs := by
  subst hC; exact at_row (heap_alloc_new w _)
/-- append(s, x...), s the call's own, x bytes that lie somewhere (or nil). -/
theorem wpList_append_at {w : World} {ops : Array Oper} {rest : List Oper} {o : Oper} {a : Act} {Q : Exit → Act → World → Prop} (hgd : o.guard = none) (s x : Operand)
    (ho : o.op = .call { callee := .builtin .append, args := #[s, x], argTypes := #[39, 39] }) (base : Nat) (v : Value) (n : Nat) (xs : List Nat) (hs : a.eval s = v) (hown : w.ownsRow base 5 1 v n (bv xs))
    (ao : Option Addr) (m c : Nat) (ys : List Nat) (hx : a.eval x = .slice ao m c) (hm : ys.length = m) (hat : At w ao ys) (hnil : ao = none → m = 0 ∧ c = 0)
    (hbytes : n + m ≤ 140737488355328) (hbase : base ≤ w.heap.size)
    (h : ∀ v' w', w'.ownsRow base 5 1 v' (n + m) (bv (xs ++ ys)) → w.grownBy w' v.ownBlock → wpList Tryz.prog ops Q rest (a.put o.dst v') w') : wpList Tryz.prog ops Q (o :: rest) a w := by
  obtain ⟨i0, hi, hz0, hz1, hz2⟩ := info_parts Tryz.info5
  cases ao with
  | none =>
    obtain ⟨rfl, rfl⟩ := hnil rfl
    refine wpList_append_own_none hgd s x 39 ho base 5 i0 1 Tryz.underlying39 hi v n (bv xs) hs hown hx (h v w ?_ (grown_refl w _))
    have : ys = [] := List.eq_nil_of_length_eq_zero hm
    subst this
    simpa using hown
  | some ad =>
    refine wpList_append_own _ hgd s x 39 ho base 5 i0 (.int .u8 0) 1 1 Tryz.underlying39 hi hz0 hz1 hz2 rfl (by decide) v n (bv xs) hs hown ad m c (bv ys) hx (by simp [bv_length, hm]) ?_ ?_ (by unfold maxLen; omega) (by omega) hbase (fun v' w' h1 h2 _ => h v' w' (by rw [bv_append]; exact h1) h2)
    · intro j u hu
      rw [bv, List.getElem?_map] at hu
      cases hj : ys[j]? with
      | none => simp [hj] at hu
      | some y =>
        simp [hj] at hu
        obtain ⟨a', ha', hc'⟩ := hat j y hj
        cases ha'
        rw [← hu]; exact hc'
    · intro u hu; rw [bv, List.mem_map] at hu; obtain ⟨y, _, rfl⟩ := hu; rfl

/-- An owned row of bytes, as bytes that lie somewhere. -/
theorem own_at {w : World} {base n : Nat} {v : Value} {xs : List Nat} (h : w.ownsRow base 5 1 v n (bv xs)) :
    ∃ ao cap, v = .slice ao n cap ∧ xs.length = n ∧ n ≤ cap ∧ cap ≤ maxLen ∧ At w ao xs ∧ (ao = none → n = 0 ∧ cap = 0) ∧ (∀ a, ao = some a → a = ⟨a.block, 0, none⟩ ∧ base ≤ a.block ∧ a.block < w.heap.size) := by
  obtain ⟨hl, h⟩ := h
  simp [bv_length] at hl
  rcases h with ⟨rfl, rfl⟩ | ⟨g, cap, cur, rfl, hb, hg, hn, hm, hs, ht⟩
  · have : xs = [] := List.eq_nil_of_length_eq_zero hl
    subst this
    exact ⟨none, 0, rfl, rfl, Nat.le_refl _, Nat.zero_le _, At.nil _ _, fun _ => ⟨rfl, rfl⟩, fun a e => by cases e⟩
  · refine ⟨some ⟨g, 0, none⟩, cap, rfl, hl, hn, hm, ?_, (fun e => by cases e), fun a e => by cases e; exact ⟨rfl, hb, row_lt hg⟩⟩
    intro j u hu
    refine ⟨_, rfl, ?_⟩
    rw [Addr.add_lit, Nat.zero_add, cell_of_row w g j cur 5 (0, 0) hg]
    have h1 : (cur.toList.take (n * 1))[j]? = some (Value.int .u8 u) := by rw [ht]; exact bv_get xs j u hu
    rw [List.getElem?_take] at h1
    split at h1
    · simpa using h1
    · cases h1

theorem grown_drewN (w : World) (n : Nat) (row : Option Nat) : w.grownBy (w.drewN n) row := ⟨rfl, rfl, rfl, Nat.le_refl _, fun _ _ _ => rfl⟩
attribute [local go_sem ↓] Go.wp_at_zero Go.wp_at_succ

/-- The mark of a place. -/
def markB (k i : Int) : Int := IntKind.u64.wrap ((1000003 * (k + 7) + i) * 11400714819323198485) / 72057594037927936 % 256
theorem markB_byte (k i : Int) : 0 ≤ markB k i ∧ markB k i < 256 := by unfold markB; omega
set_option maxHeartbeats 400000 in
theorem mark_any (k i : Int) (w : World) (_hk0 : 0 ≤ k) (_hk : k ≤ 1000000) (_hi0 : 0 ≤ i) (_hi : i ≤ 1000000000000000000) :
    Calls Tryz.prog 97 #[.int .i64 k, .int .i64 i] w fun e w' => e = .returned (.int .u8 (markB k i)) ∧ w' = w := by
  go_enter Tryz.func97, Tryz.ntmps97
  go_wp2
  go_ret
  exact ⟨rfl, rfl⟩

/-- The first j marks. -/
def mkN (k : Int) (i : Nat) : Nat := (markB k (i : Int)).toNat
theorem mkN_cast (k : Int) (i : Nat) : markB k (i : Int) = ((mkN k i : Nat) : Int) := by have := markB_byte k (i : Int); unfold mkN; omega
def marks (k : Int) (j : Nat) : List Nat := (List.range j).map fun (i : Nat) => mkN k i
theorem marks_length (k : Int) (j : Nat) : (marks k j).length = j := by simp [marks]
theorem marks_succ (k : Int) (j : Nat) : marks k (j + 1) = marks k j ++ [mkN k j] := by simp [marks, List.range_succ]
theorem marks_get (k : Int) (j i : Nat) (h : i < j) : (marks k j)[i]? = some (mkN k i) := by simp [marks, h]
theorem markN_any (k : Int) (i : Nat) (w : World) (hk0 : 0 ≤ k) (hk : k ≤ 1000000) (hi : i ≤ 1000000000000000000) :
    Calls Tryz.prog 97 #[.int .i64 k, .int .i64 (i : Int)] w fun e w' => e = .returned (.int .u8 ((mkN k i : Nat) : Int)) ∧ w' = w := by
  rw [← mkN_cast]; exact mark_any k (i : Int) w hk0 hk (by omega) (by omega)

theorem made_zrow (n : Nat) : madeCells #[.int .u8 0] n = (List.replicate n (Value.int .u8 0)).toArray := by
  apply Array.ext'
  rw [toList_madeCells_one]
def zrow (n : Nat) : List Value := List.replicate n (.int .u8 0)
theorem slice_to (ao : Option Addr) (len cap n : Nat) (h : n ≤ cap) (w : World) : (Instr.slice 39 (.slice ao len cap) none (some (.int .i64 (n : Int))) none).run Tryz.prog w = .ok (.slice ao n cap) w := by
  simp [Instr.slice, run_underlying Tryz.underlying39, Instr.sliceBounds, Instr.sliceBound, asIntOf, h]
  intro _; cases ao <;> simp [Addr.add]
theorem make_cap (n : Nat) (h : n ≤ 140737488355328) (w : World) : (Instr.makeSlice 39 (.int .i64 0) (.int .i64 ((n : Int) + 12))).run Tryz.prog w = .ok (.slice (some ⟨w.heap.size, 0, none⟩) 0 (n + 12)) (w.alloc (.cells (zrow (n + 12)).toArray 5)) := by
  obtain ⟨i0, hi, hz0, hz1, hz2⟩ := info_parts Tryz.info5
  rw [run_make (P := Tryz.prog) (w := w) 39 5 i0 (.int .u8 0) Tryz.underlying39 hi hz0 .i64 .i64 0 ((n : Int) + 12) (by omega) (by omega) (by rw [hz2]; omega) (by omega), hz1]
  have e : ((n : Int) + 12).toNat = n + 12 := by omega
  rw [e, Nat.mul_one]
  show Result.ok _ (w.alloc (.cells (madeCells #[.int .u8 0] (n + 12)) 5)) = _
  rw [made_zrow]
  rfl

theorem cell_new (w : World) (v : Value) (t : TypeId) : (w.alloc (.cells #[v] t)).cell? ⟨w.heap.size, 0, none⟩ = some v := by
  rw [cell_of_row _ _ 0 #[v] t (0, 0) (heap_alloc_new w _)]; rfl

end Go.Proofs.YtonokaelbpfjnabGreatDoor.Ap
/- A map keyed by ints, as what it answers at each key: plain lemmas, over any program. -/
namespace Go.Proofs.YtonokaelbpfjnabGreatDoor
open Go.RowKit Go.Maps Go.MapKept Go.ChangeMaps

/-- An element is held as it is. -/
def valR (v : Value) : Option (DataW Value × List MemPlace) := some (.held v, [])
/-- Block b is a map of at most n entries that answers f. -/
def MapAt (w : World) (P : Program) (k : TypeId) (b n : Nat) (f : Int → Option Value) : Prop :=
  ∃ D : DataW Value, w.ownsMap P k valR b n D ∧ ∀ x, (f x = none → Maps.has D (.int .i64 x) = false) ∧ (∀ v, f x = some v → Maps.has D (.int .i64 x) = true ∧ ∀ z, D.atKey (.int .i64 x) z = .held v)

variable {P : Program} {k : TypeId} {w : World} {b n : Nat} {f : Int → Option Value}
theorem MapAt.lt (h : MapAt w P k b n f) : b < w.heap.size := by obtain ⟨D, h, _⟩ := h; exact h.lt
theorem MapAt.mono (h : MapAt w P k b n f) {n' : Nat} (hn : n ≤ n') : MapAt w P k b n' f := by
  obtain ⟨D, h, hf⟩ := h; exact ⟨D, h.mono hn, hf⟩
theorem MapAt.block (h : MapAt w P k b n f) : ∃ es clock, w.heap[b]? = some (.map es clock) := by
  obtain ⟨D, ⟨es, clock, h, _⟩, _⟩ := h; exact ⟨es, clock, h⟩
theorem MapAt.same (h : MapAt w P k b n f) {w' : World} (hb : w'.heap[b]? = w.heap[b]?) : MapAt w' P k b n f := by
  obtain ⟨D, ⟨es, clock, h1, h2⟩, hf⟩ := h; exact ⟨D, ⟨es, clock, hb.trans h1, h2⟩, hf⟩
theorem MapAt.moved (h : MapAt w P k b n f) {w' : World} {b' : Nat} (hb : w'.heap[b']? = w.heap[b]?) : MapAt w' P k b' n f := by
  obtain ⟨D, ⟨es, clock, h1, h2⟩, hf⟩ := h; exact ⟨D, ⟨es, clock, hb.trans h1, h2⟩, hf⟩
theorem mapAt_made {b : Nat} {clock : Nat} (h : w.heap[b]? = some (.map #[] clock)) : MapAt w P k b 0 (fun _ => none) := by
  refine ⟨.map [], ⟨#[], clock, h, ⟨by simp, stamped_empty _, by simp⟩, Nat.le_refl _, rfl⟩, fun x => ⟨fun _ => rfl, fun v h => by cases h⟩⟩

theorem MapAt.look {t e : TypeId} (h : MapAt w P k b n f) (hk : P.underlying k = some (.int .i64)) (ht : P.underlying t = some (.map k e)) {z : Value} (hz : (zeroValue e).run P w = .ok z w) {x : Int} (hx : (Lit.int .i64 x).wf = true) :
    (Instr.lookup t (.map (some b)) (.int .i64 x) true).run P w = .ok (.tuple #[(f x).getD z, .bool (f x).isSome]) w := by
  obtain ⟨D, hD, hf⟩ := h
  obtain ⟨v, ps, hrun, hv⟩ := hD.look_ok (int_keyed hk) ht hz (zd := .held z) (zp := []) rfl (keyOf_int_mk hk hx)
  rw [hrun]
  cases hfx : f x with
  | none =>
    rw [(hf x).1 hfx]
    rw [atKey_of_not_has ((hf x).1 hfx)] at hv
    simp [valR] at hv
    simp [hv]
  | some u =>
    obtain ⟨h1, h2⟩ := (hf x).2 u hfx
    rw [h1]
    rw [h2] at hv
    simp [valR] at hv
    simp [hv]

theorem lit_ne {x y : Int} (h : x ≠ y) : Lit.int .i64 x ≠ Lit.int .i64 y := fun e => by cases e; exact h rfl

theorem MapAt.store {t e : TypeId} (h : MapAt w P k b n f) (hk : P.underlying k = some (.int .i64)) (ht : P.underlying t = some (.map k e)) (hn : n < maxLen) {x : Int} (hx : (Lit.int .i64 x).wf = true) (val : Value) :
    ∃ w', (Instr.mapUpdate t (.map (some b)) (.int .i64 x) val).run P w = .ok () w' ∧ MapAt w' P k b (n + 1) (fun y => if y = x then some val else f y) ∧ w.grownBy w' (some b) := by
  obtain ⟨D, hD, hf⟩ := h
  obtain ⟨w', hrun, hD', hg⟩ := hD.update (int_keyed hk) ht hn (keyOf_int_mk hk hx) (val := val) (d := .held val) (ps := []) rfl
  refine ⟨w', hrun, ⟨_, hD', fun y => ?_⟩, hg⟩
  have hK : WideAt.IsKeyLit (.int .i64 x) := by trivial
  by_cases hy : y = x
  · subst hy
    refine ⟨fun h => by simp at h, fun v h => ?_⟩
    simp at h
    subst h
    exact ⟨has_put_same hD.isMap hK _, fun z => atKey_put_same hD.isMap hK _ z⟩
  · show ((if y = x then some val else f y) = none → _) ∧ ∀ v, (if y = x then some val else f y) = some v → _
    rw [if_neg hy, has_put_other (lit_ne hy)]
    refine ⟨(hf y).1, fun v h => ⟨((hf y).2 v h).1, fun z => ?_⟩⟩
    rw [atKey_put_other (lit_ne hy)]
    exact ((hf y).2 v h).2 z

theorem MapAt.clear {t e : TypeId} (h : MapAt w P k b n f) (ht : P.underlying t = some (.map k e)) (ty : TypeId) :
    ∃ w', (Builtin.clear_ #[t] ty #[.map (some b)]).run P w = .ok (.tuple #[]) w' ∧ MapAt w' P k b 0 (fun _ => none) ∧ w.grownBy w' (some b) := by
  obtain ⟨es, clock, hb⟩ := h.block
  refine ⟨setBlock w b (.map #[] clock), ?_, mapAt_made (heap_setBlock_same hb _), ⟨rfl, rfl, rfl, by simp [setBlock], fun i _ hi => heap_setBlock_other hb _ (fun e => hi (by rw [e]))⟩⟩
  simp [Builtin.clear_, run_underlying ht, MapKept.run_getObj_map hb, MapKept.run_setObj_map _ hb, Result.andThen, setBlock]

end Go.Proofs.YtonokaelbpfjnabGreatDoor
/- A disk of package disk in memory, and which steps keep it: plain lemmas. -/
namespace Go.Proofs.YtonokaelbpfjnabGreatDoor
open Go.RowKit Ap

/-- All blocks but those of S are as they were; there may be new ones. -/
structure Kept (w w' : World) (S : Nat → Prop) : Prop where
  os : w'.os = w.os
  tape : w'.tape = w.tape
  output : w'.output = w.output
  size : w.heap.size ≤ w'.heap.size
  block : ∀ i, i < w.heap.size → ¬ S i → w'.heap[i]? = w.heap[i]?
theorem Kept.of {w w' : World} {row : Option Nat} (h : w.grownBy w' row) {S : Nat → Prop} (hS : ∀ j, row = some j → j < w.heap.size → S j) : Kept w w' S :=
  ⟨h.os, h.tape, h.output, h.size, fun i hi hn => h.block i hi (fun e => hn (hS i e.symm hi))⟩
theorem Kept.new {w w' : World} (h : w.grownBy w' none) (S : Nat → Prop) : Kept w w' S := Kept.of h (fun _ e => by cases e)
theorem Kept.refl (w : World) (S : Nat → Prop) : Kept w w S := ⟨rfl, rfl, rfl, Nat.le_refl _, fun _ _ _ => rfl⟩
theorem Kept.trans {a b c : World} {S S' : Nat → Prop} (h : Kept a b S) (k : Kept b c S') (hS : ∀ i, i < a.heap.size → S' i → S i) : Kept a c S :=
  ⟨k.os.trans h.os, k.tape.trans h.tape, k.output.trans h.output, Nat.le_trans h.size k.size, fun i hi hn =>
    (k.block i (Nat.lt_of_lt_of_le hi h.size) (fun e => hn (hS i hi e))).trans (h.block i hi hn)⟩
theorem Kept.mono {a b : World} {S S' : Nat → Prop} (h : Kept a b S) (hS : ∀ i, i < a.heap.size → S i → S' i) : Kept a b S' :=
  ⟨h.os, h.tape, h.output, h.size, fun i hi hn => h.block i hi (fun e => hn (hS i hi e))⟩
theorem Kept.grown {a b : World} {S : Nat → Prop} (h : Kept a b S) (hS : ∀ i, i < a.heap.size → ¬ S i) : a.grownBy b none :=
  ⟨h.os, h.tape, h.output, h.size, fun i hi _ => h.block i hi (hS i hi)⟩
theorem Kept.at {a b : World} {S : Nat → Prop} (h : Kept a b S) {i : Nat} {o : Obj} (ho : a.heap[i]? = some o) (hS : ¬ S i) : b.heap[i]? = some o := (h.block i (row_lt ho) hS).trans ho

/-- A write that waits: its sector, the block of its bytes, these. -/
structure Wt where
  sec : Nat
  blk : Nat
  xs : List Nat
/-- Where a disk lies: its own block, its durable bytes', what waits, the map. -/
structure Dk where
  d : Nat
  db : Nat
  vw : Value
  mb : Nat
def Dk.own (k : Dk) (i : Nat) : Prop := i = k.d ∨ i = k.db ∨ k.vw.ownBlock = some i ∨ i = k.mb
def bsl (g size : Nat) : Value := .slice (some ⟨g, 0, none⟩) size size
def wcells (size : Nat) (W : List Wt) : List Value := W.flatMap fun x => [.int .i64 (x.sec : Int), bsl x.blk size]
theorem wcells_length (size : Nat) (W : List Wt) : (wcells size W).length = W.length * 2 := by
  induction W with
  | nil => rfl
  | cons x r ih => simp [wcells] at ih ⊢; omega
theorem wcells_snoc (size : Nat) (W : List Wt) (x : Wt) : wcells size (W ++ [x]) = wcells size W ++ [.int .i64 (x.sec : Int), bsl x.blk size] := by simp [wcells]
theorem wcells_get (size : Nat) (W : List Wt) (i : Nat) (x : Wt) (h : W[i]? = some x) : (wcells size W)[2 * i]? = some (.int .i64 (x.sec : Int)) ∧ (wcells size W)[2 * i + 1]? = some (bsl x.blk size) := by
  induction W generalizing i with
  | nil => simp at h
  | cons y r ih =>
    cases i with
    | zero => simp at h; subst h; simp [wcells]
    | succ i =>
      have := ih i (by simpa using h)
      have e : wcells size (y :: r) = .int .i64 (y.sec : Int) :: bsl y.blk size :: wcells size r := by simp [wcells]
      rw [e, show 2 * (i + 1) = 2 * i + 2 by omega, show 2 * i + 2 + 1 = (2 * i + 1) + 2 by omega]
      simpa using this
/-- What the map answers. -/
def newest (size : Nat) (W : List Wt) : Int → Option Value := W.foldl (fun f x => fun y => if y = (x.sec : Int) then some (bsl x.blk size) else f y) (fun _ => none)
theorem newest_snoc (size : Nat) (W : List Wt) (x : Wt) : newest size (W ++ [x]) = fun y => if y = (x.sec : Int) then some (bsl x.blk size) else newest size W y := by simp [newest]
/-- The last write of a sector that waits. -/
def lastOf (W : List Wt) (s : Nat) : Option Wt := W.foldl (fun r x => if s = x.sec then some x else r) none
theorem lastOf_snoc (W : List Wt) (x : Wt) (s : Nat) : lastOf (W ++ [x]) s = if s = x.sec then some x else lastOf W s := by simp [lastOf]
theorem snoc_ind {α : Type} {p : List α → Prop} (h0 : p []) (h1 : ∀ l x, p l → p (l ++ [x])) (l : List α) : p l := by
  have : ∀ r : List α, p r.reverse := fun r => by
    induction r with
    | nil => exact h0
    | cons x r ih => rw [List.reverse_cons]; exact h1 _ _ ih
  simpa using this l.reverse
theorem newest_last (size : Nat) (W : List Wt) (s : Nat) : newest size W (s : Int) = (lastOf W s).map (fun x => bsl x.blk size) := by
  induction W using snoc_ind with
  | h0 => rfl
  | h1 l x ih =>
    rw [newest_snoc, lastOf_snoc]
    by_cases h : s = x.sec
    · subst h; simp
    · rw [if_neg h]; show (if (s : Int) = (x.sec : Int) then _ else _) = _; rw [if_neg (by omega)]; exact ih
theorem lastOf_mem {W : List Wt} {s : Nat} {x : Wt} (h : lastOf W s = some x) : x ∈ W ∧ x.sec = s := by
  induction W using snoc_ind with
  | h0 => simp [lastOf] at h
  | h1 l y ih =>
    rw [lastOf_snoc] at h
    split at h
    · cases h; simp; symm; assumption
    · have := ih h; exact ⟨by simp [this.1], this.2⟩

structure Shape (n size : Nat) : Prop where
  s0 : 64 ≤ size
  s1 : size ≤ 4096
  n0 : 1 ≤ n
  n1 : n ≤ 65536
  all : n * size ≤ 67108864

/-- A disk of n sectors lies there: D its durable bytes, W what waits. -/
structure DiskAt (w : World) (k : Dk) (n size : Nat) (D : List Nat) (W : List Wt) : Prop where
  shape : Shape n size
  head : w.heap[k.d]? = some (.cells #[.bool true, .int .i64 (size : Int), .slice (some ⟨k.db, 0, none⟩) (n * size) (n * size), k.vw, .map (some k.mb)] 124 (0, 0))
  dur : w.heap[k.db]? = some (.cells (bv D).toArray 5 (0, 0))
  len : D.length = n * size
  row : w.ownsRow 0 269 2 k.vw W.length (wcells size W)
  map : MapAt w Tryz.prog 3 k.mb W.length (newest size W)
  waits : ∀ x ∈ W, x.sec < n ∧ x.xs.length = size ∧ x.blk ≠ k.db ∧ w.heap[x.blk]? = some (.cells (bv x.xs).toArray 5 (0, 0))
  few : W.length ≤ 1000000

theorem row_same {w w' : World} {e : TypeId} {size : Nat} {v : Value} {n : Nat} {xs : List Value} (h : w.ownsRow 0 e size v n xs) (hb : ∀ g, v.ownBlock = some g → w'.heap[g]? = w.heap[g]?) : w'.ownsRow 0 e size v n xs := by
  obtain ⟨h1, h⟩ := h
  refine ⟨h1, ?_⟩
  rcases h with h | ⟨g, cap, cur, rfl, h2, h3, h4⟩
  · exact Or.inl h
  · exact Or.inr ⟨g, cap, cur, rfl, h2, (hb g rfl).trans h3, h4⟩

/-- All that a disk reads lies in these blocks. -/
def foot (k : Dk) (W : List Wt) (i : Nat) : Prop := k.own i ∨ ∃ x ∈ W, x.blk = i
theorem DiskAt.lt {w : World} {k : Dk} {n size : Nat} {D : List Nat} {W : List Wt} (h : DiskAt w k n size D W) : ∀ i, foot k W i → i < w.heap.size := by
  rintro i ((rfl | rfl | hi | rfl) | ⟨x, hx, rfl⟩)
  · exact row_lt h.head
  · exact row_lt h.dur
  · exact (h.row.lt i hi).2
  · exact h.map.lt
  · exact row_lt (h.waits x hx).2.2.2
theorem DiskAt.same {w w' : World} {k : Dk} {n size : Nat} {D : List Nat} {W : List Wt} (h : DiskAt w k n size D W) (hb : ∀ i, foot k W i → w'.heap[i]? = w.heap[i]?) : DiskAt w' k n size D W := by
  refine ⟨h.shape, (hb _ (.inl (.inl rfl))).trans h.head, (hb _ (.inl (.inr (.inl rfl)))).trans h.dur, h.len, row_same h.row (fun g hg => hb _ (.inl (.inr (.inr (.inl hg))))), h.map.same (hb _ (.inl (.inr (.inr (.inr rfl))))), ?_, h.few⟩
  intro x hx
  obtain ⟨h1, h2, h3, h4⟩ := h.waits x hx
  exact ⟨h1, h2, h3, (hb _ (.inr ⟨x, hx, rfl⟩)).trans h4⟩
theorem DiskAt.kept {w w' : World} {k : Dk} {n size : Nat} {D : List Nat} {W : List Wt} {S : Nat → Prop} (h : DiskAt w k n size D W) (hk : Kept w w' S) (hS : ∀ i, foot k W i → ¬ S i) : DiskAt w' k n size D W :=
  h.same fun i hi => hk.block i (h.lt i hi) (hS i hi)
theorem DiskAt.grown {w w' : World} {k : Dk} {n size : Nat} {D : List Nat} {W : List Wt} (h : DiskAt w k n size D W) (hk : w.grownBy w' none) : DiskAt w' k n size D W :=
  h.same fun i hi => hk.block i (h.lt i hi) (by simp)

section
variable {w : World} {k : Dk} {n size : Nat} {D : List Nat} {W : List Wt}
theorem DiskAt.c0 (h : DiskAt w k n size D W) : w.cell? ⟨k.d, 0, none⟩ = some (.bool true) := by simp [World.cell?, h.head]
theorem DiskAt.c1 (h : DiskAt w k n size D W) : w.cell? ⟨k.d, 1, none⟩ = some (.int .i64 (size : Int)) := by simp [World.cell?, h.head]
theorem DiskAt.c2 (h : DiskAt w k n size D W) : w.cell? ⟨k.d, 2, none⟩ = some (.slice (some ⟨k.db, 0, none⟩) (n * size) (n * size)) := by simp [World.cell?, h.head]
theorem DiskAt.c3 (h : DiskAt w k n size D W) : w.cell? ⟨k.d, 3, none⟩ = some k.vw := by simp [World.cell?, h.head]
theorem DiskAt.c4 (h : DiskAt w k n size D W) : w.cell? ⟨k.d, 4, none⟩ = some (.map (some k.mb)) := by simp [World.cell?, h.head]
theorem DiskAt.free (h : DiskAt w k n size D W) (j : Nat) : w.frozen? ⟨k.d, j, none⟩ = false := free_row h.head j
/-- The waiting's value. -/
theorem DiskAt.vw_form (h : DiskAt w k n size D W) : ∃ ao cap, k.vw = .slice ao W.length cap ∧ (ao = none → W.length = 0) ∧ ∀ a, ao = some a → a = ⟨a.block, 0, none⟩ := by
  obtain ⟨h1, h⟩ := h.row
  rcases h with ⟨h, h0⟩ | ⟨g, cap, cur, h, h2, h3, h4⟩
  · exact ⟨none, 0, by rw [h, h0], fun _ => h0, fun a e => by cases e⟩
  · exact ⟨some ⟨g, 0, none⟩, cap, h, (fun e => by cases e), (fun a e => by cases e; rfl)⟩
theorem DiskAt.vw_ne (h : DiskAt w k n size D W) : k.vw.ownBlock ≠ some k.d ∧ k.vw.ownBlock ≠ some k.db ∧ k.vw.ownBlock ≠ some k.mb ∧ k.d ≠ k.db ∧ k.d ≠ k.mb ∧ k.db ≠ k.mb := by
  have hm := h.map.block
  obtain ⟨es, cl, hm⟩ := hm
  have e1 : k.d ≠ k.db := fun e => by have := h.head; rw [e, h.dur] at this; simp at this
  have e2 : k.d ≠ k.mb := fun e => by have := h.head; rw [e, hm] at this; simp at this
  have e3 : k.db ≠ k.mb := fun e => by have := h.dur; rw [e, hm] at this; simp at this
  obtain ⟨h1, hr⟩ := h.row
  rcases hr with ⟨hr, h0⟩ | ⟨g, cap, cur, hr, h2, h3, h4⟩
  · rw [hr]; simp [Value.ownBlock]; exact ⟨e1, e2, e3⟩
  · rw [hr]
    refine ⟨?_, ?_, ?_, e1, e2, e3⟩
    · intro e; cases e; rw [h.head] at h3; simp at h3
    · intro e; cases e; rw [h.dur] at h3; simp at h3
    · intro e; cases e; rw [hm] at h3; simp at h3
theorem DiskAt.blk_ne (h : DiskAt w k n size D W) {x : Wt} (hx : x ∈ W) : ¬ k.own x.blk := by
  obtain ⟨_, _, h3, h4⟩ := h.waits x hx
  obtain ⟨es, cl, hm⟩ := h.map.block
  rintro (e | e | e | e)
  · rw [e, h.head] at h4; simp at h4
  · exact h3 e
  · obtain ⟨h1, hr⟩ := h.row
    rcases hr with ⟨hr, h0⟩ | ⟨g, cap, cur, hr, h2, h3, _⟩
    · rw [hr] at e; simp [Value.ownBlock] at e
    · rw [hr] at e; simp only [Value.ownBlock, Option.some.injEq] at e; subst e; rw [h4] at h3; simp at h3
  · rw [e, hm] at h4; simp at h4
end

/-- copy as one step of a region that draws its order: the row behind it, and that no other block has turned. -/
theorem grown_setRow (w : World) (g : Nat) (cs : Array Value) : w.grownBy (w.setRow g cs) (some g) :=
  ⟨rfl, rfl, rfl, by simp [World.setRow], fun k _ hne => setRow_other w g k cs (by intro e; exact hne (by simp [e]))⟩
theorem Tryz.size5 : (Tryz.prog.info? 5).map (·.size) = some 1 := by kernel_rfl
/-- copy(dst, src), dst somewhere in a row of bytes, src bytes that lie elsewhere: its run. -/
theorem run_copy_any (w : World) (g off n cap : Nat) (co : Option Addr) (m d : Nat) (cur : List Nat) (zs : List Nat) (hcur : w.heap[g]? = some (.cells (bv cur).toArray 5 (0, 0))) (hz : zs.length = Nat.min m n) (hzn : off + zs.length ≤ cur.length)
    (hat : At w co zs) :
    ∃ W, (Builtin.copy_ #[39, 39] 3 #[.slice (some ⟨g, off, none⟩) n cap, .slice co m d]).run Tryz.prog w = .ok (goInt zs.length) W ∧ W.heap[g]? = some (.cells (bv (splice cur off zs)).toArray 5 (0, 0)) ∧ w.grownBy W (some g) := by
  have hsp : bv (splice cur off zs) = splice (bv cur) off (bv zs) := by simp [splice, bv, List.map_take, List.map_drop]
  by_cases h0 : zs.length = 0
  · have hzs : zs = [] := List.eq_nil_of_length_eq_zero h0
    subst hzs
    exact ⟨w, run_copy_none w 39 39 3 5 _ co n cap m d Tryz.underlying39 Tryz.size5 hz.symm, by simpa [splice, bv] using hcur, grown_refl _ _⟩
  · obtain ⟨a, rfl, _⟩ := hat 0 (zs[0]'(by omega)) (by simp)
    have hrun := run_copy_row (P := Tryz.prog) w 39 39 3 5 g off n cap a m d (bv cur).toArray 5 (bv zs) Tryz.underlying39 Tryz.size5 hcur (by rw [bv_length]; exact hz) ?_ (by rw [bv_length]; simpa [bv_length] using hzn) ?_
    · rw [bv_length] at hrun
      refine ⟨_, hrun, ?_, grown_setRow w g _⟩
      have := setRow_heap w g (bv cur).toArray (splice (bv cur) off (bv zs)).toArray 5 (0, 0) hcur
      rw [hsp]
      simpa [splice, bv_length] using this
    · intro j v hv
      rw [bv, List.getElem?_map] at hv
      cases hj : zs[j]? with
      | none => simp [hj] at hv
      | some y =>
        simp [hj] at hv
        obtain ⟨a', ea', hc'⟩ := hat j y hj
        cases ea'
        rw [← hv]; exact hc'
    · intro v hv
      rw [bv, List.mem_map] at hv
      obtain ⟨y, _, rfl⟩ := hv
      rfl
end Go.Proofs.YtonokaelbpfjnabGreatDoor
/- The contracts of a disk's small calls. -/
namespace Go.Proofs.YtonokaelbpfjnabGreatDoor
open Go.RowKit Ap
attribute [local go_sem ↓] Go.wp_at_zero Go.wp_at_succ

set_option maxHeartbeats 400000 in
theorem isNone_at (b : Nat) (x : Bool) (w : World) (h : w.cell? ⟨b, 0, none⟩ = some (.bool x)) :
    Calls Tryz.prog 76 #[.pointer (some ⟨b, 0, none⟩)] w fun e w' => e = .returned (.bool (!x)) ∧ w' = w := by
  go_enter Tryz.func76, Tryz.ntmps76
  go_wp2
  go_ret
  exact ⟨rfl, rfl⟩
set_option maxHeartbeats 400000 in
theorem isNone_nil (w : World) :
    Calls Tryz.prog 76 #[.pointer none] w fun e w' => e = .returned (.bool true) ∧ w' = w := by
  go_enter Tryz.func76, Tryz.ntmps76
  go_wp2
  go_ret
  exact ⟨rfl, rfl⟩
/-- There is no disk. -/
def NoDisk (w : World) (p : Option Addr) : Prop := p = none ∨ ∃ b, p = some ⟨b, 0, none⟩ ∧ w.cell? ⟨b, 0, none⟩ = some (.bool false)
theorem NoDisk.is {w : World} {p : Option Addr} (h : NoDisk w p) : Calls Tryz.prog 76 #[.pointer p] w fun e w' => e = .returned (.bool true) ∧ w' = w := by
  rcases h with rfl | ⟨b, rfl, h⟩
  · exact isNone_nil w
  · exact isNone_at b false w h
theorem NoDisk.grown {w w' : World} {p : Option Addr} (h : NoDisk w p) (hg : w.grownBy w' none) : NoDisk w' p := by
  rcases h with rfl | ⟨b, rfl, h⟩
  · exact Or.inl rfl
  · exact Or.inr ⟨b, rfl, hg.cell h (by simp)⟩

set_option maxHeartbeats 400000 in
theorem sectors_none (p : Option Addr) (w : World) (h : NoDisk w p) : Calls Tryz.prog 41 #[.pointer p] w fun e w' => e = .returned (.int .i64 0) ∧ w' = w := by
  have H := hide h.is
  clear h
  go_enter Tryz.func41, Tryz.ntmps41
  go_wp2_with fail
  refine H.out.mono ?_
  rintro e w' ⟨rfl, rfl⟩
  go_wp2
  go_ret
  exact ⟨rfl, rfl⟩
set_option maxHeartbeats 400000 in
theorem size_none (p : Option Addr) (w : World) (h : NoDisk w p) : Calls Tryz.prog 115 #[.pointer p] w fun e w' => e = .returned (.int .i64 0) ∧ w' = w := by
  have H := hide h.is
  clear h
  go_enter Tryz.func115, Tryz.ntmps115
  go_wp2_with fail
  refine H.out.mono ?_
  rintro e w' ⟨rfl, rfl⟩
  go_wp2
  go_ret
  exact ⟨rfl, rfl⟩
section
variable {w : World} {k : Dk} {n size : Nat} {D : List Nat} {W : List Wt}
theorem DiskAt.is (h : DiskAt w k n size D W) : Calls Tryz.prog 76 #[.pointer (some ⟨k.d, 0, none⟩)] w fun e w' => e = .returned (.bool false) ∧ w' = w := isNone_at _ true w h.c0
set_option maxHeartbeats 400000 in
theorem size_any (h : DiskAt w k n size D W) : Calls Tryz.prog 115 #[.pointer (some ⟨k.d, 0, none⟩)] w fun e w' => e = .returned (.int .i64 (size : Int)) ∧ w' = w := by
  have H := hide h.is
  have c1 := h.c1
  clear h
  go_enter Tryz.func115, Tryz.ntmps115
  go_wp2_with fail
  refine H.out.mono ?_
  rintro e w' ⟨rfl, rfl⟩
  go_wp2
  go_ret
  exact ⟨rfl, rfl⟩
set_option maxHeartbeats 1000000 in
theorem sectors_any (h : DiskAt w k n size D W) : Calls Tryz.prog 41 #[.pointer (some ⟨k.d, 0, none⟩)] w fun e w' => e = .returned (.int .i64 (n : Int)) ∧ ∃ q, w' = w.drewN q := by
  have H := hide h.is
  have c1 := h.c1
  have c2 := h.c2
  have hs := h.shape
  have hq : ((n * size : Nat) : Int).tdiv (size : Int) = (n : Int) := by
    rw [show ((n * size : Nat) : Int) = (n : Int) * (size : Int) by simp, Int.mul_tdiv_cancel _ (by have := hs.s0; omega)]
  have hb := hs.all
  have hn1 := hs.n1
  have hz : (size : Int) ≠ 0 := by have := hs.s0; omega
  generalize n * size = m at *
  clear h hs
  go_enter Tryz.func41, Tryz.ntmps41
  go_wp2_with fail
  refine H.out.mono ?_
  rintro e w' ⟨rfl, rfl⟩
  go_wp2_with fail
  go_quiet (fail)
  go_wp2
  go_ret
  exact ⟨by simp, _, rfl⟩
end
end Go.Proofs.YtonokaelbpfjnabGreatDoor
/- The contracts of may, sector, copied, mayBe, New, lasting. -/
namespace Go.Proofs.YtonokaelbpfjnabGreatDoor
open Go.RowKit Ap
attribute [local go_sem ↓] Go.wp_at_zero Go.wp_at_succ

set_option maxHeartbeats 400000 in
theorem may_none (p : Option Addr) (at_ : Int) (w : World) (h : NoDisk w p) : Calls Tryz.prog 135 #[.pointer p, .int .i64 at_] w fun e w' => e = .returned (.int .i64 1) ∧ w' = w := by
  have H := hide h.is
  clear h
  go_enter Tryz.func135, Tryz.ntmps135
  go_wp2_with fail
  refine H.out.mono ?_
  rintro e w' ⟨rfl, rfl⟩
  go_wp2
  go_ret
  exact ⟨rfl, rfl⟩
/-- What is wrong with a sector's number. -/
def mayC (n : Nat) (a : Int) : Int := if 0 ≤ a ∧ a < (n : Int) then 0 else 50
section
variable {w : World} {k : Dk} {n size : Nat} {D : List Nat} {W : List Wt}
set_option maxHeartbeats 1000000 in
theorem may_any (h : DiskAt w k n size D W) (a : Int) : Calls Tryz.prog 135 #[.pointer (some ⟨k.d, 0, none⟩), .int .i64 a] w fun e w' => e = .returned (.int .i64 (mayC n a)) ∧ ∃ q, w' = w.drewN q := by
  have H := hide h.is
  have HS := hide (sectors_any h)
  clear h
  by_cases h0 : a < 0
  · have e : mayC n a = 50 := by unfold mayC; rw [if_neg (by omega)]
    rw [e]
    go_enter Tryz.func135, Tryz.ntmps135
    go_wp2_with fail
    refine H.out.mono ?_
    rintro e w' ⟨rfl, rfl⟩
    go_wp2
    go_ret
    exact ⟨rfl, 0, rfl⟩
  · by_cases h1 : a < (n : Int)
    · have e : mayC n a = 0 := by unfold mayC; rw [if_pos (by omega)]
      rw [e]
      go_enter Tryz.func135, Tryz.ntmps135
      go_wp2_with fail
      refine H.out.mono ?_
      rintro e w' ⟨rfl, rfl⟩
      go_wp2_with fail
      refine HS.out.mono ?_
      rintro e w' ⟨rfl, q, rfl⟩
      go_wp2
      go_ret
      exact ⟨rfl, q, rfl⟩
    · have e : mayC n a = 50 := by unfold mayC; rw [if_neg (by omega)]
      rw [e]
      go_enter Tryz.func135, Tryz.ntmps135
      go_wp2_with fail
      refine H.out.mono ?_
      rintro e w' ⟨rfl, rfl⟩
      go_wp2_with fail
      refine HS.out.mono ?_
      rintro e w' ⟨rfl, q, rfl⟩
      go_wp2
      go_ret
      exact ⟨rfl, q, rfl⟩

theorem slice_lh (g len cap lo hi : Nat) (h : lo < hi) (h2 : hi ≤ cap) (w : World) : (Instr.slice 39 (.slice (some ⟨g, 0, none⟩) len cap) (some (.int .i64 (lo : Int))) (some (.int .i64 (hi : Int))) none).run Tryz.prog w = .ok (.slice (some ⟨g, lo, none⟩) (hi - lo) (cap - lo)) w := by
  simp [Instr.slice, run_underlying Tryz.underlying39, Instr.sliceBounds, Instr.sliceBound, asIntOf, Addr.add, Nat.le_of_lt h, h2]
  rw [if_neg (by omega)]
  split
  · rename_i e; rw [e]
  · rfl
set_option maxHeartbeats 1000000 in
theorem sector_any (h : DiskAt w k n size D W) (s : Nat) (hs : s < n) : Calls Tryz.prog 137 #[.pointer (some ⟨k.d, 0, none⟩), .int .i64 (s : Int)] w fun e w' => e = .returned (.slice (some ⟨k.db, s * size, none⟩) size (n * size - s * size)) ∧ ∃ q, w' = w.drewN q := by
  have c1 := h.c1
  have c2 := h.c2
  have hb := h.shape.all
  have hn := h.shape.n1
  have hle : (s + 1) * size ≤ n * size := Nat.mul_le_mul_right _ hs
  have e1 : IntKind.i64.wrap ((s : Int) * (size : Int)) = ((s * size : Nat) : Int) := by
    rw [← Int.natCast_mul]; rw [show (s + 1) * size = s * size + size from Nat.succ_mul _ _] at hle; generalize s * size = y at *; generalize n * size = z at *; simp [IntKind.wrap, IntKind.bits, IntKind.signed]; omega
  have e2 : IntKind.i64.wrap (((s : Int) + 1) * (size : Int)) = (((s + 1) * size : Nat) : Int) := by
    rw [show ((s : Int) + 1) * (size : Int) = (((s + 1) * size : Nat) : Int) by push_cast; rfl]; generalize (s + 1) * size = y at *; generalize n * size = z at *; simp [IntKind.wrap, IntKind.bits, IntKind.signed]; omega
  have hsl := slice_lh k.db (n * size) (n * size) (s * size) ((s + 1) * size) (by rw [Nat.succ_mul]; have := h.shape.s0; omega) hle
  rw [show (s + 1) * size - s * size = size by rw [Nat.succ_mul]; omega] at hsl
  generalize (s + 1) * size = y at *
  generalize s * size = x at *
  generalize n * size = z at *
  clear h hle
  go_enter Tryz.func137, Tryz.ntmps137
  go_wp2_with fail
  go_quiet (fail)
  go_wp2
  go_ret
  exact ⟨rfl, _, rfl⟩
end

/-- A row of noughts. -/
def zs (n : Nat) : List Nat := List.replicate n 0
theorem bv_zs (n : Nat) : bv (zs n) = zrow n := by simp [bv, zs, zrow]
theorem make_bytes (n : Nat) (h : n ≤ 140737488355328) (w : World) : (Instr.makeSlice 39 (.int .i64 (n : Int)) (.int .i64 (n : Int))).run Tryz.prog w = .ok (.slice (some ⟨w.heap.size, 0, none⟩) n n) (w.alloc (.cells (bv (zs n)).toArray 5)) := by
  obtain ⟨i0, hi, hz0, hz1, hz2⟩ := info_parts Tryz.info5
  rw [run_make (P := Tryz.prog) (w := w) 39 5 i0 (.int .u8 0) Tryz.underlying39 hi hz0 .i64 .i64 (n : Int) (n : Int) (by omega) (by omega) (by rw [hz2]; omega) (by omega), hz1]
  rw [Int.toNat_natCast, Nat.mul_one, bv_zs]
  show Result.ok _ (w.alloc (.cells (madeCells #[.int .u8 0] n) 5)) = _
  rw [made_zrow]
  rfl
theorem splice_whole (xs ys : List Nat) (h : ys.length = xs.length) : splice xs 0 ys = ys := by
  simp [splice, h]
set_option maxHeartbeats 1000000 in
theorem copied_any (ao : Option Addr) (m cap : Nat) (xs : List Nat) (w : World) (hat : At w ao xs) (hl : xs.length = m) (hm : m ≤ 140737488355328) :
    Calls Tryz.prog 136 #[.slice ao m cap] w fun e w' => e = .returned (.slice (some ⟨w.heap.size, 0, none⟩) m m) ∧ w'.heap[w.heap.size]? = some (.cells (bv xs).toArray 5 (0, 0)) ∧ w.grownBy w' none := by
  have hmk := make_bytes m hm w
  obtain ⟨W, hrun, hW, hg⟩ := run_copy_any (w.alloc (.cells (bv (zs m)).toArray 5)) w.heap.size 0 m m ao m cap (zs m) xs (heap_alloc_new w _) (by simp [hl]) (by simp [zs, hl]) (hat.grown (World.grownBy_alloc w _ none))
  rw [splice_whole _ _ (by simp [zs, hl])] at hW
  have H : Hid (W.heap[w.heap.size]? = some (.cells (bv xs).toArray 5 (0, 0)) ∧ w.grownBy W none) := ⟨hW, grown_then (World.grownBy_alloc w _ none) hg (fun k e => by cases e; exact Or.inl (Nat.le_refl _))⟩
  rw [hl] at hrun
  clear hW hg hat hl
  go_enter Tryz.func136, Tryz.ntmps136
  go_wp2
  go_ret
  exact ⟨rfl, H.out⟩

/-- May there be such a disk? -/
def p2 (size : Int) : Bool := decide (bits .and .i64 size (IntKind.i64.wrap (size - 1)) = 0)
def mayB (n size : Int) : Bool := decide (1 ≤ n) && decide (n ≤ 65536) && decide (64 ≤ size) && decide (size ≤ 4096) && p2 size && decide (n * size ≤ 67108864)
theorem mayB_iff (n size : Int) : mayB n size = true ↔ 1 ≤ n ∧ n ≤ 65536 ∧ 64 ≤ size ∧ size ≤ 4096 ∧ p2 size = true ∧ n * size ≤ 67108864 := by
  simp [mayB, and_assoc]
set_option maxHeartbeats 1000000 in
theorem mayBe_any (n size : Int) (w : World) : Calls Tryz.prog 39 #[.int .i64 n, .int .i64 size] w fun e w' => e = .returned (.bool (mayB n size)) ∧ w' = w := by
  by_cases h : 1 ≤ n ∧ n ≤ 65536 ∧ 64 ≤ size ∧ size ≤ 4096
  · obtain ⟨h1, h2, h3, h4⟩ := h
    have e : mayB n size = (p2 size && decide (n * size ≤ 67108864)) := by simp [mayB, h1, h2, h3, h4]
    have hlo : 0 ≤ n * size := Int.mul_nonneg (by omega) (by omega)
    have hhi : n * size ≤ 65536 * 4096 := Int.mul_le_mul h2 h4 (by omega) (by omega)
    have hw : wrap64 (n * size) = n * size := by unfold wrap64; omega
    rw [e]
    unfold p2
    generalize hb : bits .and .i64 size (IntKind.i64.wrap (size - 1)) = b at *
    have hb2 : bits .and .i64 size (size - 1) = b := by rw [← hb]; simp [IntKind.wrap, IntKind.bits, IntKind.signed]; congr 1; omega
    have HB := hide hb
    clear hb
    by_cases hb0 : b = 0
    · subst hb0
      go_enter Tryz.func39, Tryz.ntmps39
      go_wp2
      go_ret
      exact ⟨by simp, rfl⟩
    · go_enter Tryz.func39, Tryz.ntmps39
      go_wp2
      go_ret
      exact ⟨by simp [hb0], rfl⟩
  · have e : mayB n size = false := by
      simp only [mayB]
      by_cases a1 : 1 ≤ n
      · by_cases a2 : n ≤ 65536
        · by_cases a3 : 64 ≤ size
          · by_cases a4 : size ≤ 4096
            · exact absurd ⟨a1, a2, a3, a4⟩ h
            · simp [a4]
          · simp [a3]
        · simp [a2]
      · simp [a1]
    rw [e]
    by_cases a1 : 1 ≤ n
    · by_cases a2 : n ≤ 65536
      · by_cases a3 : 64 ≤ size
        · by_cases a4 : size ≤ 4096
          · exact absurd ⟨a1, a2, a3, a4⟩ h
          · clear h e
            go_enter Tryz.func39, Tryz.ntmps39
            go_wp2
            go_ret
            exact ⟨rfl, rfl⟩
        · clear h e
          go_enter Tryz.func39, Tryz.ntmps39
          go_wp2
          go_ret
          exact ⟨rfl, rfl⟩
      · clear h e
        go_enter Tryz.func39, Tryz.ntmps39
        go_wp2
        go_ret
        exact ⟨rfl, rfl⟩
    · clear h e
      go_enter Tryz.func39, Tryz.ntmps39
      go_wp2
      go_ret
      exact ⟨rfl, rfl⟩

/-- How many bytes of a write last. -/
def lasts (kind at_ : Int) (size : Nat) : Nat := if kind = 1 then size else if kind = 2 then min (max at_ 0) (size : Int) |>.toNat else 0
theorem lasts_le (kind at_ : Int) (size : Nat) : lasts kind at_ size ≤ size := by
  unfold lasts; split
  · exact Nat.le_refl _
  · split
    · omega
    · omega
set_option maxHeartbeats 1000000 in
theorem lasting_any (kind at_ : Int) (size : Nat) (w : World) : Calls Tryz.prog 144 #[.agg #[.int .i64 kind, .int .i64 at_], .int .i64 (size : Int)] w fun e w' => e = .returned (.int .i64 ((lasts kind at_ size : Nat) : Int)) ∧ w.grownBy w' none := by
  unfold lasts
  by_cases h1 : kind = 1
  · subst h1
    go_enter Tryz.func144, Tryz.ntmps144
    go_wp2
    go_ret
    exact ⟨rfl, World.grownBy_alloc w _ none⟩
  · by_cases h2 : kind = 2
    · subst h2
      go_enter Tryz.func144, Tryz.ntmps144
      go_wp2
      all_goals go_ret
      all_goals exact ⟨by simp; omega, World.grownBy_alloc w _ none⟩
    · rw [if_neg h1, if_neg h2]
      go_enter Tryz.func144, Tryz.ntmps144
      go_wp2
      go_ret
      exact ⟨rfl, World.grownBy_alloc w _ none⟩
end Go.Proofs.YtonokaelbpfjnabGreatDoor
