/- What HeapAll keeps behind All: a world w9, the heap's own S9 there, blocks that were laid since (Ks). -/
import Derived.Test.YtkbhjdjdjfdikaaSc
namespace Go.Proofs.Ytkbhjdjdjfdikaa
open Go.RowKit Ap Go.Shelf
theorem lt_of_at {W : World} {l : Nat} {o : Obj} (h : W.heap[l]? = some o) : l < W.heap.size := by
  rcases Nat.lt_or_ge l W.heap.size with h1 | h1
  · exact h1
  · rw [Array.getElem?_eq_none h1] at h; cases h
def Al (w9 W : World) (U : Nat) (k : Int) (h b n : Nat) (S9 : Nat → Prop) (Ks : List (Nat × Obj)) : Prop :=
  Kept w9 W S9 ∧ w9.heap.size ≤ U ∧ U ≤ W.heap.size ∧ ∃ S, Hq W k h b n S ∧ (∀ j, S j → (S9 j ∨ w9.heap.size ≤ j) ∧ j < U) ∧ ∀ x ∈ Ks, W.heap[x.1]? = some x.2 ∧ ¬ S x.1 ∧ w9.heap.size ≤ x.1 ∧ x.1 < U
section
variable {w9 W W' : World} {U : Nat} {k : Int} {h b n : Nat} {S9 : Nat → Prop} {Ks : List (Nat × Obj)}
theorem Al.at (t : Al w9 W U k h b n S9 Ks) {i : Nat} {o : Obj} (ho : w9.heap[i]? = some o) (hS : ¬ S9 i) : W.heap[i]? = some o := t.1.at ho hS
theorem Al.ks (t : Al w9 W U k h b n S9 Ks) {x : Nat × Obj} (hx : x ∈ Ks) : W.heap[x.1]? = some x.2 := by
  obtain ⟨-, -, -, S, -, -, hK⟩ := t
  exact (hK x hx).1
theorem Al.far (t : Al w9 W U k h b n S9 Ks) {S2 : Nat → Prop} (hk : Kept W W' S2) (h2 : ∀ j, S2 j → U ≤ j) : Al w9 W' U k h b n S9 Ks := by
  obtain ⟨h1, hU, hU2, S, hq, hS, hK⟩ := t
  refine ⟨h1.trans hk (fun i hi e => by have := h2 i e; omega), hU, Nat.le_trans hU2 hk.size, S, hq.far hk (fun j e e2 => by have := h2 j e2; have := (hS j e).2; omega), hS, fun x hx => ⟨hk.at (hK x hx).1 (fun e => by have := h2 _ e; have := (hK x hx).2.2.2; omega), (hK x hx).2⟩⟩
theorem Al.grown (t : Al w9 W U k h b n S9 Ks) (hg : W.grownBy W' none) : Al w9 W' U k h b n S9 Ks := t.far (Kept.new hg (fun _ => False)) (fun _ e => e.elim)
theorem Al.own : OwnFrom U (fun (_ : Unit) W => Al w9 W U k h b n S9 Ks) := fun _ _ _ _ t hg hr => t.far (Kept.of hg (S := fun j => U ≤ j) (fun j e _ => (hr j e).1)) (fun _ e => e)
theorem Al.mono (t : Al w9 W U k h b n S9 Ks) {m : Nat} (hm : n ≤ m) : Al w9 W U k h b m S9 Ks := by
  obtain ⟨h1, hU, hU2, S, hq, hS, hK⟩ := t
  exact ⟨h1, hU, hU2, S, hq.mono hm, hS, hK⟩
/-- The bound may rise to the world's size. -/
theorem Al.up (t : Al w9 W U k h b n S9 Ks) : Al w9 W W.heap.size k h b n S9 Ks := by
  obtain ⟨h1, hU, hU2, S, hq, hS, hK⟩ := t
  exact ⟨h1, Nat.le_trans hU hU2, Nat.le_refl _, S, hq, fun j e => ⟨(hS j e).1, hq.lt j e⟩, fun x hx => ⟨(hK x hx).1, (hK x hx).2.1, (hK x hx).2.2.1, Nat.lt_of_lt_of_le (hK x hx).2.2.2 hU2⟩⟩
theorem Al.less (t : Al w9 W U k h b n S9 Ks) {Js : List (Nat × Obj)} (hJ : ∀ x ∈ Js, x ∈ Ks) : Al w9 W U k h b n S9 Js := by
  obtain ⟨h1, hU, hU2, S, hq, hS, hK⟩ := t
  exact ⟨h1, hU, hU2, S, hq, hS, fun x hx => hK x (hJ x hx)⟩
/-- A block that stands behind the bound joins. -/
theorem Al.join (t : Al w9 W U k h b n S9 Ks) {l : Nat} {o : Obj} (hl : U ≤ l) (ho : W.heap[l]? = some o) : Al w9 W W.heap.size k h b n S9 ((l, o) :: Ks) := by
  have hlt := lt_of_at ho
  obtain ⟨h1, hU, hU2, S, hq, hS, hK⟩ := t
  refine ⟨h1, Nat.le_trans hU hU2, Nat.le_refl _, S, hq, fun j e => ⟨(hS j e).1, hq.lt j e⟩, fun x hx => ?_⟩
  rcases List.mem_cons.1 hx with rfl | hx
  · exact ⟨ho, fun e => by have := (hS _ e).2; simp only at this; omega, Nat.le_trans hU hl, hlt⟩
  · exact ⟨(hK x hx).1, (hK x hx).2.1, (hK x hx).2.2.1, Nat.lt_of_lt_of_le (hK x hx).2.2.2 hU2⟩
theorem Al.alloc (t : Al w9 W U k h b n S9 Ks) (o : Obj) : Al w9 (W.alloc o) (W.alloc o).heap.size k h b n S9 ((W.heap.size, o) :: Ks) :=
  (t.grown (World.grownBy_alloc W o none)).join t.2.2.1 (heap_alloc_new W o)
/-- One of the blocks is written. -/
theorem Al.write (t : Al w9 W U k h b n S9 Ks) {l : Nat} {o o' : Obj} (hl : (l, o) ∈ Ks) (hk : Kept W W' (fun i => i = l)) (ho : W'.heap[l]? = some o') {Js : List (Nat × Obj)} (hJ : ∀ x ∈ Js, x ∈ Ks ∧ x.1 ≠ l) : Al w9 W' U k h b n S9 ((l, o') :: Js) := by
  obtain ⟨h1, hU, hU2, S, hq, hS, hK⟩ := t
  have hL := hK _ hl
  refine ⟨h1.trans hk (fun i hi e => by have := hL.2.2.1; simp only at this; omega), hU, Nat.le_trans hU2 hk.size, S, hq.far hk (fun j e e2 => by subst e2; exact hL.2.1 e), hS, fun x hx => ?_⟩
  rcases List.mem_cons.1 hx with rfl | hx
  · exact ⟨ho, hL.2⟩
  · exact ⟨hk.at (hK x (hJ x hx).1).1 (hJ x hx).2, (hK x (hJ x hx).1).2⟩
theorem Al.step {gf : Nat} {args : Array Value} {m : Nat} (t : Al w9 W U k h b n S9 Ks) (hc : ∀ S, Hq W k h b n S → Calls Try.prog gf args W fun e w' => ∃ v, e = .returned v ∧ ∃ S', Hq w' k h b m S' ∧ Kept W w' S ∧ (∀ j, S' j → S j ∨ W.heap.size ≤ j)) :
    Calls Try.prog gf args W fun e w' => ∃ v, e = .returned v ∧ Al w9 w' w'.heap.size k h b m S9 Ks := by
  obtain ⟨h1, hU, hU2, S, hq, hS, hK⟩ := t
  refine (hc S hq).mono ?_
  rintro e w' ⟨v, rfl, S', hq', hk, hS'⟩
  refine ⟨v, rfl, h1.trans hk (fun i hi e => (hS i e).1.elim id (fun e => by omega)), by have := hk.size; omega, Nat.le_refl _, S', hq', fun j e => ⟨?_, hq'.lt j e⟩, fun x hx => ⟨hk.at (hK x hx).1 (hK x hx).2.1, fun e => ?_, (hK x hx).2.2.1, by have := hk.size; have := (hK x hx).2.2.2; omega⟩⟩
  · rcases hS' j e with e | e
    · exact (hS j e).1
    · exact .inr (by omega)
  · rcases hS' _ e with e | e
    · exact (hK x hx).2.1 e
    · have := (hK x hx).2.2.2; omega
theorem Al.pop (t : Al w9 W U k h b n S9 Ks) (hn : n ≤ 50000) : Calls Try.prog 16 #[.pointer (some ⟨h, 0, none⟩)] W fun e w' => ∃ v, e = .returned v ∧ Al w9 w' w'.heap.size k h b (n + 1) S9 Ks := t.step (fun _ hq => hq.pop hn)
theorem Al.push (t : Al w9 W U k h b n S9 Ks) (hn : n ≤ 50000) (v : Int) (hv : I64 v) : Calls Try.prog 17 #[.pointer (some ⟨h, 0, none⟩), .int .i64 v] W fun e w' => ∃ v, e = .returned v ∧ Al w9 w' w'.heap.size k h b (n + 1) S9 Ks := t.step (fun _ hq => hq.push hn v hv)
theorem Al.set (t : Al w9 W U k h b n S9 Ks) (hn : n ≤ 50000) (x v : Int) (hx : I64 x) (hv : I64 v) : Calls Try.prog 18 #[.pointer (some ⟨h, 0, none⟩), .int .i64 x, .int .i64 v] W fun e w' => ∃ v, e = .returned v ∧ Al w9 w' w'.heap.size k h b n S9 Ks := t.step (fun _ hq => hq.set hn x v hx hv)
/-- Drop keeps the bound. -/
theorem Al.drop (t : Al w9 W U k h b n S9 Ks) (hn : n ≤ 50000) (x : Int) (hx : I64 x) : Calls Try.prog 19 #[.pointer (some ⟨h, 0, none⟩), .int .i64 x] W fun e w' => ∃ v, e = .returned v ∧ Al w9 w' U k h b (n + 1) S9 Ks ∧ ∃ S, Kept W w' S ∧ ∀ j, S j → j < U := by
  obtain ⟨h1, hU, hU2, S, hq, hS, hK⟩ := t
  refine (hq.drop hn x hx).mono ?_
  rintro e w' ⟨v, rfl, S', hq', hk, hS'⟩
  refine ⟨v, rfl, ⟨h1.trans hk (fun i hi e => (hS i e).1.elim id (fun e => by omega)), hU, Nat.le_trans hU2 hk.size, S', hq', fun j e => hS j (hS' j e), fun x hx => ⟨hk.at (hK x hx).1 (hK x hx).2.1, fun e => (hK x hx).2.1 (hS' _ e), (hK x hx).2.2⟩⟩, S, hk, fun j e => (hS j e).2⟩
end
end Go.Proofs.Ytkbhjdjdjfdikaa
