/- A map keyed by ints, as what it answers at each key: plain lemmas, over any program. -/
import Derived.WalkKit
import Derived.Maps.OwnSet
import Derived.Shelf.SlMaps.Clone
namespace Go.Proofs.Ytkbhjdjdjfdikaa
open Go.RowKit Go.Maps Go.MapKept Go.ChangeMaps

/-- An element is held as it is. -/
def valR (v : Value) : Option (DataW Value × List MemPlace) := some (.held v, [])
/-- Block b is a map of at most n entries that answers f. -/
def MapAt (w : World) (P : Program) (k : TypeId) (b n : Nat) (f : Int → Option Value) : Prop :=
  ∃ D : DataW Value, w.ownsMap P k valR b n D ∧ ∀ x, (f x = none → Maps.has D (.int .i64 x) = false) ∧ (∀ v, f x = some v → Maps.has D (.int .i64 x) = true ∧ ∀ z, D.atKey (.int .i64 x) z = .held v)

variable {P : Program} {k : TypeId} {w : World} {b n : Nat} {f : Int → Option Value}
theorem MapAt.lt (h : MapAt w P k b n f) : b < w.heap.size := by obtain ⟨D, h, _⟩ := h; exact h.lt
theorem MapAt.mono (h : MapAt w P k b n f) {n' : Nat} (hn : n ≤ n') : MapAt w P k b n' f := by
  obtain ⟨D, h, hf⟩ := h; exact ⟨D, h.mono hn, hf⟩
theorem MapAt.block (h : MapAt w P k b n f) : ∃ es clock, w.heap[b]? = some (.map es clock) := by
  obtain ⟨D, ⟨es, clock, h, _⟩, _⟩ := h; exact ⟨es, clock, h⟩
theorem MapAt.same (h : MapAt w P k b n f) {w' : World} (hb : w'.heap[b]? = w.heap[b]?) : MapAt w' P k b n f := by
  obtain ⟨D, ⟨es, clock, h1, h2⟩, hf⟩ := h; exact ⟨D, ⟨es, clock, hb.trans h1, h2⟩, hf⟩
theorem MapAt.moved (h : MapAt w P k b n f) {w' : World} {b' : Nat} (hb : w'.heap[b']? = w.heap[b]?) : MapAt w' P k b' n f := by
  obtain ⟨D, ⟨es, clock, h1, h2⟩, hf⟩ := h; exact ⟨D, ⟨es, clock, hb.trans h1, h2⟩, hf⟩
theorem mapAt_made {b : Nat} {clock : Nat} (h : w.heap[b]? = some (.map #[] clock)) : MapAt w P k b 0 (fun _ => none) := by
  refine ⟨.map [], ⟨#[], clock, h, ⟨by simp, stamped_empty _, by simp⟩, Nat.le_refl _, rfl⟩, fun x => ⟨fun _ => rfl, fun v h => by cases h⟩⟩

theorem MapAt.look {t e : TypeId} (h : MapAt w P k b n f) (hk : P.underlying k = some (.int .i64)) (ht : P.underlying t = some (.map k e)) {z : Value} (hz : (zeroValue e).run P w = .ok z w) {x : Int} (hx : (Lit.int .i64 x).wf = true) :
    (Instr.lookup t (.map (some b)) (.int .i64 x) true).run P w = .ok (.tuple #[(f x).getD z, .bool (f x).isSome]) w := by
  obtain ⟨D, hD, hf⟩ := h
  obtain ⟨v, ps, hrun, hv⟩ := hD.look_ok (int_keyed hk) ht hz (zd := .held z) (zp := []) rfl (keyOf_int_mk hk hx)
  rw [hrun]
  cases hfx : f x with
  | none =>
    rw [(hf x).1 hfx]
    rw [atKey_of_not_has ((hf x).1 hfx)] at hv
    simp [valR] at hv
    simp [hv]
  | some u =>
    obtain ⟨h1, h2⟩ := (hf x).2 u hfx
    rw [h1]
    rw [h2] at hv
    simp [valR] at hv
    simp [hv]

theorem lit_ne {x y : Int} (h : x ≠ y) : Lit.int .i64 x ≠ Lit.int .i64 y := fun e => by cases e; exact h rfl

theorem MapAt.store {t e : TypeId} (h : MapAt w P k b n f) (hk : P.underlying k = some (.int .i64)) (ht : P.underlying t = some (.map k e)) (hn : n < maxLen) {x : Int} (hx : (Lit.int .i64 x).wf = true) (val : Value) :
    ∃ w', (Instr.mapUpdate t (.map (some b)) (.int .i64 x) val).run P w = .ok () w' ∧ MapAt w' P k b (n + 1) (fun y => if y = x then some val else f y) ∧ w.grownBy w' (some b) := by
  obtain ⟨D, hD, hf⟩ := h
  obtain ⟨w', hrun, hD', hg⟩ := hD.update (int_keyed hk) ht hn (keyOf_int_mk hk hx) (val := val) (d := .held val) (ps := []) rfl
  refine ⟨w', hrun, ⟨_, hD', fun y => ?_⟩, hg⟩
  have hK : WideAt.IsKeyLit (.int .i64 x) := by trivial
  by_cases hy : y = x
  · subst hy
    refine ⟨fun h => by simp at h, fun v h => ?_⟩
    simp at h
    subst h
    exact ⟨has_put_same hD.isMap hK _, fun z => atKey_put_same hD.isMap hK _ z⟩
  · show ((if y = x then some val else f y) = none → _) ∧ ∀ v, (if y = x then some val else f y) = some v → _
    rw [if_neg hy, has_put_other (lit_ne hy)]
    refine ⟨(hf y).1, fun v h => ⟨((hf y).2 v h).1, fun z => ?_⟩⟩
    rw [atKey_put_other (lit_ne hy)]
    exact ((hf y).2 v h).2 z

theorem MapAt.clear {t e : TypeId} (h : MapAt w P k b n f) (ht : P.underlying t = some (.map k e)) (ty : TypeId) :
    ∃ w', (Builtin.clear_ #[t] ty #[.map (some b)]).run P w = .ok (.tuple #[]) w' ∧ MapAt w' P k b 0 (fun _ => none) ∧ w.grownBy w' (some b) := by
  obtain ⟨es, clock, hb⟩ := h.block
  refine ⟨setBlock w b (.map #[] clock), ?_, mapAt_made (heap_setBlock_same hb _), ⟨rfl, rfl, rfl, by simp [setBlock], fun i _ hi => heap_setBlock_other hb _ (fun e => hi (by rw [e]))⟩⟩
  simp [Builtin.clear_, run_underlying ht, MapKept.run_getObj_map hb, MapKept.run_setObj_map _ hb, Result.andThen, setBlock]

end Go.Proofs.Ytkbhjdjdjfdikaa
