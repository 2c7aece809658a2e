/- A row of ids that is appended to, and whose first one goes. -/
import Derived.Test.YtoocaioilpgmeaaAw
import Derived.Laws.IdiomCopy
namespace Go.Proofs.Ytoocaioilpgmeaa
open Go.RowKit Ix Go.Shelf
attribute [local go_sem ↓] Go.wp_at_zero Go.wp_at_succ
/-- Ids in a row of the call's own, from some place on. -/
structure Qu (w : World) (B0 : Nat) (ao : Option Addr) (cap : Nat) (xs : List Nat) : Prop where
  le : xs.length ≤ cap
  nil : ao = none → cap = 0
  row : ∀ a, ao = some a → ∃ (g off : Nat) (cur : List Value), a = ⟨g, off, none⟩ ∧ B0 ≤ g ∧ w.heap[g]? = some (.cells cur.toArray 29 (0, 0)) ∧ off + cap ≤ cur.length ∧ ∀ j u, xs[j]? = some u → cur[off + j]? = some (.int .u32 ((u : Nat) : Int))
theorem Qu.none (w : World) (B0 : Nat) : Qu w B0 none 0 [] := ⟨Nat.le_refl _, fun _ => rfl, fun a e => by cases e⟩
theorem Qu.keep {w w' : World} {B0 : Nat} {ao : Option Addr} {cap : Nat} {xs : List Nat} {S : Nat → Prop} (h : Qu w B0 ao cap xs) (k : Kept w w' S) (hS : ∀ i, S i → i < B0) : Qu w' B0 ao cap xs :=
  ⟨h.le, h.nil, fun a e => by
    obtain ⟨g, off, cur, h1, h2, h3, h4, h5⟩ := h.row a e
    exact ⟨g, off, cur, h1, h2, k.at h3 (fun e => by have := hS _ e; omega), h4, h5⟩⟩
theorem Qu.grown {w w' : World} {B0 : Nat} {ao : Option Addr} {cap : Nat} {xs : List Nat} (h : Qu w B0 ao cap xs) (g : w.grownBy w' Option.none) : Qu w' B0 ao cap xs := h.keep (Kept.new g (fun _ => False)) (fun _ e => e.elim)
theorem Qu.cell {w : World} {B0 : Nat} {ao : Option Addr} {cap : Nat} {xs : List Nat} (h : Qu w B0 ao cap xs) {j u : Nat} (hj : xs[j]? = some u) : ∃ g off, ao = some ⟨g, off, Option.none⟩ ∧ w.cell? ⟨g, off + j, Option.none⟩ = some (.int .u32 (u : Int)) := by
  have hl := (List.getElem?_eq_some_iff.1 hj).1
  cases ao with
  | none => have := h.nil rfl; have := h.le; omega
  | some a =>
    obtain ⟨g, off, cur, h1, h2, h3, h4, h5⟩ := h.row a rfl
    exact ⟨g, off, by rw [h1], by rw [cell_row h3]; exact h5 j u hj⟩
/-- The first one goes. -/
theorem Qu.tail {w : World} {B0 : Nat} {g off cap x : Nat} {xs : List Nat} (h : Qu w B0 (some ⟨g, off, Option.none⟩) cap (x :: xs)) : Qu w B0 (if cap = 1 then some ⟨g, off, Option.none⟩ else some ⟨g, off + 1, Option.none⟩) (cap - 1) xs := by
  have hl := h.le
  simp at hl
  obtain ⟨g', off', cur, h1, h2, h3, h4, h5⟩ := h.row _ rfl
  cases h1
  refine ⟨by omega, (fun e => by split at e <;> cases e), fun a e => ?_⟩
  by_cases hc : cap = 1
  · rw [if_pos hc] at e
    cases e
    have hx : xs = [] := List.eq_nil_of_length_eq_zero (by omega)
    subst hx
    exact ⟨g, off, cur, rfl, h2, h3, by omega, fun j u hj => by simp at hj⟩
  · rw [if_neg hc] at e
    cases e
    refine ⟨g, off + 1, cur, rfl, h2, h3, by omega, fun j u hj => ?_⟩
    have := h5 (j + 1) u (by simpa using hj)
    rw [show off + 1 + j = off + (j + 1) by omega]
    exact this
theorem slice_tail (g off n cap : Nat) (hn : 1 ≤ n) (_hc : n ≤ cap) (w : World) : (Instr.slice 58 (.slice (some ⟨g, off, none⟩) n cap) (some (.int .i64 1)) none none).run Try.prog w = .ok (.slice (if cap = 1 then some ⟨g, off, none⟩ else some ⟨g, off + 1, none⟩) (n - 1) (cap - 1)) w := by
  simp [Instr.slice, run_underlying Try.underlying58, Instr.sliceBounds, Instr.sliceBound, asIntOf]
  rw [if_pos (by omega)]
  simp [Addr.add]
theorem Try.info29 : (Try.prog.info? 29).map (fun i => (i.zero, i.size, i.bytes)) = some (some (.int .u32 0), 1, 4) := by kernel_rfl
def u32s (xs : List Nat) : List Value := xs.map fun (x : Nat) => Value.int .u32 (x : Int)
theorem Qu.of_own {w : World} {b B0 : Nat} {v : Value} {xs : List Nat} (h : w.ownsRow b 29 1 v xs.length (u32s xs)) (hb : B0 ≤ b) : ∃ ao cap, v = .slice ao xs.length cap ∧ Qu w B0 ao cap xs := by
  rcases h.2 with ⟨h1, h0⟩ | ⟨g, cap, cur, hv, hbg, hg, hn, hm, hs, ht⟩
  · have hx : xs = [] := List.eq_nil_of_length_eq_zero h0
    subst hx
    exact ⟨Option.none, 0, h1, Qu.none _ _⟩
  · refine ⟨_, cap, hv, hn, (fun e => by cases e), fun a e => ?_⟩
    cases e
    refine ⟨g, 0, cur.toList, rfl, by omega, by simpa using hg, by simp at hs ⊢; omega, fun j u hj => ?_⟩
    rw [Nat.zero_add]
    have hj' : (u32s xs)[j]? = some (.int .u32 (u : Int)) := by simp [u32s, hj]
    rw [← ht, List.getElem?_take] at hj'
    split at hj'
    · exact hj'
    · cases hj'
/-- append(held, id). -/
theorem wpList_append_qu {w : World} {ops : Array Oper} {rest : List Oper} {o : Oper} {a : Act} {Q : Exit → Act → World → Prop} (hgd : o.guard = Option.none) (s x : Operand)
    (hop : o.op = .call { callee := .builtin .append, args := #[s, x], argTypes := #[58, 58] }) {B0 : Nat} {ao : Option Addr} {cap : Nat} {xs : List Nat} (hq : Qu w B0 ao cap xs) (hs : a.eval s = .slice ao xs.length cap)
    (ad : Addr) (y : Nat) (hx : a.eval x = .slice (some ad) 1 1) (hc : w.cell? ad = some (.int .u32 (y : Int))) (hB : B0 ≤ w.heap.size) (hl : xs.length ≤ 1000000)
    (h : ∀ ao' cap' w', Qu w' B0 ao' cap' (xs ++ [y]) → Kept w w' (fun i => B0 ≤ i) → wpList Try.prog ops Q rest (a.put o.dst (.slice ao' (xs.length + 1) cap')) w') : wpList Try.prog ops Q (o :: rest) a w := by
  obtain ⟨i0, hi, hz0, hz1, hz2⟩ := info_parts Try.info29
  have hca : ∀ j u, [Value.int .u32 (y : Int)][j]? = some u → w.cell? (ad.add j) = some u := by
    intro j u hj
    cases j with
    | zero => simp at hj; rw [← hj]; simpa [Addr.add] using hc
    | succ j => simp at hj
  have hgrow : ∀ v' w', w'.ownsRow w.heap.size 29 1 v' (xs.length + 1) (u32s xs ++ [.int .u32 (y : Int)]) → w.grownBy w' Option.none → wpList Try.prog ops Q rest (a.put o.dst v') w' := by
    intro v' w' ho hg
    have ho' : w'.ownsRow w.heap.size 29 1 v' (xs ++ [y]).length (u32s (xs ++ [y])) := by
      rw [show u32s (xs ++ [y]) = u32s xs ++ [.int .u32 (y : Int)] by simp [u32s], List.length_append]; exact ho
    obtain ⟨ao', cap', hv, hq'⟩ := Qu.of_own ho' hB
    rw [List.length_append] at hv
    rw [hv]
    exact h ao' cap' w' hq' (Kept.new hg _)
  cases ao with
  | none =>
    have hx0 : xs = [] := List.eq_nil_of_length_eq_zero (by have := hq.le; have := hq.nil rfl; omega)
    subst hx0
    have hc0 := hq.nil rfl
    subst hc0
    refine wpList_append_own _ hgd s x 58 hop w.heap.size 29 i0 (.int .u32 0) 1 4 Try.underlying58 hi hz0 hz1 hz2 rfl (by decide) (.slice Option.none 0 0) 0 [] hs (World.ownsRow_nil _ _ _ _) ad 1 1 [.int .u32 (y : Int)] hx rfl hca (by simp [Value.oneCell']) (by unfold maxLen; omega) (by omega) (Nat.le_refl _) (fun v' w' h1 h2 _ => hgrow v' w' (by simpa [u32s] using h1) h2)
  | some b =>
    obtain ⟨g, off, cur, h1, h2, h3, h4, h5⟩ := hq.row b rfl
    subst h1
    have hle := hq.le
    refine wpList_append_arg w hgd s x 58 hop 29 i0 (.int .u32 0) 1 4 Try.underlying58 hi hz0 hz1 hz2 rfl (by decide) g off xs.length cap (u32s xs) hs (by simp [u32s]) (fun j u hj => ?_) ad 1 1 [.int .u32 (y : Int)] hx rfl hca (by simp [Value.oneCell']) (fun hr j hj => ?_) (by unfold maxLen; omega) (by omega) (fun hr => ?_) (fun _ v' w' h1 h2 => hgrow v' w' h1 h2)
    · rw [cell_row h3]
      simp only [u32s, List.getElem?_map, Option.map_eq_some_iff] at hj
      obtain ⟨z, hz, rfl⟩ := hj
      exact h5 j z hz
    · simp at hj
      subst hj
      refine ⟨?_, free_row h3 _⟩
      rw [cell_row h3, List.getElem?_eq_getElem (by omega)]
      rfl
    · have hk := kept_setCell w g (off + xs.length * 1) (.int .u32 (y : Int))
      have hr2 := row_setCell h3 (off + xs.length * 1) (.int .u32 (y : Int))
      refine h _ _ _ ⟨by simp; omega, (fun e => by cases e), fun a e => ?_⟩ (hk.mono (fun i _ e => by rw [e]; exact h2))
      cases e
      refine ⟨g, off, _, rfl, h2, hr2, by simp; omega, fun j u hj => ?_⟩
      rw [List.getElem?_set]
      by_cases hj2 : j < xs.length
      · rw [List.getElem?_append_left hj2] at hj
        rw [if_neg (by omega)]
        exact h5 j u hj
      · have hjl := (List.getElem?_eq_some_iff.1 hj).1
        simp at hjl
        have hje : j = xs.length := by omega
        subst hje
        simp at hj
        rw [if_pos (by omega), if_pos (by omega), hj]
end Go.Proofs.Ytoocaioilpgmeaa
