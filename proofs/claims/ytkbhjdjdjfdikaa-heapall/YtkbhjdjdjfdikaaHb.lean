/- What stays; a map's delete; what less is. -/
import Derived.Test.YtkbhjdjdjfdikaaK0
import Derived.Test.YtkbhjdjdjfdikaaMap
import Derived.Test.YtkbhjdjdjfdikaaHx
import Derived.Maps.AppendAt
import Derived.Lib.SliceRun
import Derived.Defers
import Derived.Recover
namespace Go.Proofs.Ytkbhjdjdjfdikaa
open Go.RowKit Ap

/-- All blocks but those of S are as they were; there may be new ones. -/
structure Kept (w w' : World) (S : Nat → Prop) : Prop where
  os : w'.os = w.os
  tape : w'.tape = w.tape
  output : w'.output = w.output
  size : w.heap.size ≤ w'.heap.size
  block : ∀ i, i < w.heap.size → ¬ S i → w'.heap[i]? = w.heap[i]?
theorem Kept.of {w w' : World} {row : Option Nat} (h : w.grownBy w' row) {S : Nat → Prop} (hS : ∀ j, row = some j → j < w.heap.size → S j) : Kept w w' S :=
  ⟨h.os, h.tape, h.output, h.size, fun i hi hn => h.block i hi (fun e => hn (hS i e.symm hi))⟩
theorem Kept.new {w w' : World} (h : w.grownBy w' none) (S : Nat → Prop) : Kept w w' S := Kept.of h (fun _ e => by cases e)
theorem Kept.refl (w : World) (S : Nat → Prop) : Kept w w S := ⟨rfl, rfl, rfl, Nat.le_refl _, fun _ _ _ => rfl⟩
theorem Kept.trans {a b c : World} {S S' : Nat → Prop} (h : Kept a b S) (k : Kept b c S') (hS : ∀ i, i < a.heap.size → S' i → S i) : Kept a c S :=
  ⟨k.os.trans h.os, k.tape.trans h.tape, k.output.trans h.output, Nat.le_trans h.size k.size, fun i hi hn =>
    (k.block i (Nat.lt_of_lt_of_le hi h.size) (fun e => hn (hS i hi e))).trans (h.block i hi hn)⟩
theorem Kept.mono {a b : World} {S S' : Nat → Prop} (h : Kept a b S) (hS : ∀ i, i < a.heap.size → S i → S' i) : Kept a b S' :=
  ⟨h.os, h.tape, h.output, h.size, fun i hi hn => h.block i hi (fun e => hn (hS i hi e))⟩
theorem Kept.grown {a b : World} {S : Nat → Prop} (h : Kept a b S) (hS : ∀ i, i < a.heap.size → ¬ S i) : a.grownBy b none :=
  ⟨h.os, h.tape, h.output, h.size, fun i hi _ => h.block i hi (hS i hi)⟩
theorem Kept.at {a b : World} {S : Nat → Prop} (h : Kept a b S) {i : Nat} {o : Obj} (ho : a.heap[i]? = some o) (hS : ¬ S i) : b.heap[i]? = some o := (h.block i (row_lt ho) hS).trans ho

open Go.Maps Go.MapKept Go.ChangeMaps in
theorem MapAt.drop {P : Program} {k : TypeId} {w : World} {b n : Nat} {f : Int → Option Value} {t e : TypeId} (h : MapAt w P k b n f) (hk : P.underlying k = some (.int .i64)) (ht : P.underlying t = some (.map k e)) {x : Int} (hx : (Lit.int .i64 x).wf = true) (ty : TypeId) :
    ∃ w', (Builtin.delete_ #[t, k] ty #[.map (some b), .int .i64 x]).run P w = .ok (.tuple #[]) w' ∧ MapAt w' P k b n (fun y => if y = x then none else f y) ∧ w.grownBy w' (some b) := by
  obtain ⟨D, hD, hf⟩ := h
  obtain ⟨w', hrun, hD', hg⟩ := hD.drop (int_keyed hk) ht (keyOf_int_mk hk hx) ty
  refine ⟨w', hrun, ⟨_, hD', fun y => ?_⟩, hg.grown⟩
  by_cases hy : y = x
  · subst hy
    exact ⟨fun _ => has_del_same, fun v h => by simp at h⟩
  · show ((if y = x then none else f y) = none → _) ∧ ∀ v, (if y = x then none else f y) = some v → _
    rw [if_neg hy, has_del_other (lit_ne hy)]
    refine ⟨(hf y).1, fun v h => ⟨((hf y).2 v h).1, fun z => ?_⟩⟩
    rw [atKey_del_other (lit_ne hy)]
    exact ((hf y).2 v h).2 z
open Go.Maps Go.MapKept Go.ChangeMaps in
theorem MapAt.get {P : Program} {k : TypeId} {w : World} {b n : Nat} {f : Int → Option Value} {t e : TypeId} (h : MapAt w P k b n f) (hk : P.underlying k = some (.int .i64)) (ht : P.underlying t = some (.map k e)) {z : Value} (hz : (zeroValue e).run P w = .ok z w) {x : Int} (hx : (Lit.int .i64 x).wf = true) :
    (Instr.lookup t (.map (some b)) (.int .i64 x) false).run P w = .ok ((f x).getD z) w := by
  obtain ⟨D, hD, hf⟩ := h
  obtain ⟨v, ps, hrun, hv⟩ := hD.lookup (int_keyed hk) ht hz (zd := .held z) (zp := []) rfl (keyOf_int_mk hk hx)
  rw [hrun]
  cases hfx : f x with
  | none =>
    rw [atKey_of_not_has ((hf x).1 hfx)] at hv
    simp [valR] at hv
    simp [hv]
  | some u =>
    obtain ⟨h1, h2⟩ := (hf x).2 u hfx
    rw [h2] at hv
    simp [valR] at hv
    simp [hv]
theorem MapAt.congr {P : Program} {k : TypeId} {w : World} {b n : Nat} {f g : Int → Option Value} (h : MapAt w P k b n f) (e : ∀ x, f x = g x) : MapAt w P k b n g := by
  rw [← show f = g from funext e]; exact h

/-- A less that is kept: its function, what it holds, what it answers, of which items it may be asked, what must be so, the blocks it looks at, those that it may write. -/
structure Les where
  k : Nat
  cap : Array Value
  lt : Int → Int → Bool
  ok : Int → Prop
  I : World → Prop
  F : Nat → Prop
  S : Nat → Prop
structure Les.Ok (L : Les) : Prop where
  kind : (L.k = 55 ∧ ∃ a, L.cap = #[.pointer (some a)]) ∨ (L.k = 30 ∧ ∃ a b, L.cap = #[.pointer (some a), .pointer (some b)])
  call : ∀ a b w, L.I w → L.ok a → L.ok b → Calls Try.prog L.k (#[.int .i64 a, .int .i64 b] ++ L.cap) w fun e w' => e = .returned (.bool (L.lt a b)) ∧ L.I w' ∧ Kept w w' L.S
  keep : ∀ (w w' : World) (X : Nat → Prop), L.I w → Kept w w' X → (∀ i, X i → ¬ L.F i) → L.I w'
  below : ∀ (w : World) i, L.I w → L.F i → i < w.heap.size
  sub : ∀ i, L.S i → L.F i
def Les.fv (L : Les) : Value := .func (.func L.k) #[] L.cap
/-- The heap's own cells. -/
def hpc (L : Les) (h : Nat) (N : Int) (ve vl : Value) (mb : Nat) : List Value := [.pointer (some ⟨h, 0, none⟩), L.fv, .bool false, .int .i64 N, ve, vl, .map (some mb)]
theorem kept_setCell (w : World) (g j : Nat) (u : Value) : Kept w (w.setCell ⟨g, j, none⟩ u) (fun i => i = g) := Kept.of (grown_setCell w g j u) (fun _ e _ => (Option.some.inj e).symm)

theorem idle_any (p : Addr) (h : Nat) (w : World) (hp : w.cell? p = some (.pointer (some ⟨h, 0, none⟩))) (hc : ∃ v, w.cell? ⟨h, 2, none⟩ = some v) (hz : w.frozen? ⟨h, 2, none⟩ = false) :
    CallsD Try.prog 82 #[.pointer (some p)] .returning w fun e u' w' => e = .returned (.tuple #[]) ∧ u' = .returning ∧ w' = w.setCell ⟨h, 2, none⟩ (.bool false) := by
  obtain ⟨v, hc⟩ := hc
  refine callsD_of_wpS Try.func82 rfl fun c₀ cs hu => ?_
  apply wpS_seq
  apply wpS_region
  simp [wpOpsS, go_sem, recoverD, hu, Try.ntmps82, Exit.thenS, hp, hc, hz]
  apply wpS_region
  cases c₀
  simp_all [wpOpsS, go_sem, recoverD, bodyPostS, results, Try.results82]
end Go.Proofs.Ytkbhjdjdjfdikaa
