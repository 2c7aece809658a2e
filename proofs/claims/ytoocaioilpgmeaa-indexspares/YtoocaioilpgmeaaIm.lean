/- The contracts of mix's Hash; worlds that keep blocks. -/
import Derived.Test.YtoocaioilpgmeaaBase
import Derived.Test.YtoocaioilpgmeaaChecked
import Derived.Deep.LoopGhost
import Derived.Deep.RegionHeld3
import Derived.Deep.DrawnRows
import Derived.Deep.QuietTactic
import Derived.Deep.RegionWith
import Derived.BigQuiet
import Derived.Deep.OwnRows
import Derived.Laws.AppendOwnNone
import Derived.Laws.BitsAllLaws
import Derived.Laws.OwnMore
import Derived.ArgAppend
import Derived.Maps.AppendAt
import Derived.Lib.SliceRun
import Derived.Lib.Builder
import Derived.Defers
namespace Go.Proofs.Ytoocaioilpgmeaa
open Go.RowKit
attribute [local go_sem ↓] Go.wp_at_zero Go.wp_at_succ

set_option maxHeartbeats 400000 in
theorem fold_any (x k : Nat) (hx : x < 18446744073709551616) (hk : k < 64) (w : World) : Calls Try.prog 60 #[.int .u64 (x : Int), .int .u64 (k : Int)] w fun e w' => e = .returned (.int .u64 ((Mx.fold k x : Nat) : Int)) ∧ w' = w := by
  have h1 := bits_xor_u64 x (x / 2 ^ k) hx (Mx.div_lt k hx)
  rw [← shr_nat] at h1
  have h2 : Mx.fold k x = x ^^^ x / 2 ^ k := rfl
  rw [← h2] at h1
  clear h2
  generalize Mx.fold k x = y at *
  go_enter Try.func60, Try.ntmps60
  go_wp2
  go_ret
  exact ⟨rfl, rfl⟩
theorem mul_wrap (a b : Nat) : IntKind.u64.wrap ((a : Int) * (b : Int)) = ((Mx.mul a b : Nat) : Int) := by
  rw [← Int.natCast_mul, wrap_nat]; rfl
theorem hash_any (x : Nat) (hx : x < 18446744073709551616) (w : World) : Calls Try.prog 49 #[.int .u64 (x : Int)] w fun e w' => e = .returned (.int .u64 ((Mx.hash x : Nat) : Int)) ∧ w' = w := by
  rw [Mx.hash_eq]
  have C1 := hide (fold_any x 30 hx (by decide) w)
  generalize Mx.fold 30 x = a at *
  have m1 : IntKind.u64.wrap ((a : Int) * 13787848793156543929) = ((Mx.mul a 13787848793156543929 : Nat) : Int) := mul_wrap a 13787848793156543929
  have l1 := Mx.mul_lt a 13787848793156543929
  generalize Mx.mul a 13787848793156543929 = b at *
  have C2 := hide (fold_any b 27 l1 (by decide) w)
  generalize Mx.fold 27 b = c at *
  have m2 : IntKind.u64.wrap ((c : Int) * 10723151780598845931) = ((Mx.mul c 10723151780598845931 : Nat) : Int) := mul_wrap c 10723151780598845931
  have l2 := Mx.mul_lt c 10723151780598845931
  generalize Mx.mul c 10723151780598845931 = d at *
  have C3 := hide (fold_any d 31 l2 (by decide) w)
  generalize Mx.fold 31 d = f at *
  go_enter Try.func49, Try.ntmps49
  go_wp2_with fail
  refine C1.out.mono ?_
  rintro e w' ⟨rfl, rfl⟩
  go_wp2_with fail
  refine C2.out.mono ?_
  rintro e w' ⟨rfl, rfl⟩
  go_wp2_with fail
  refine C3.out.mono ?_
  rintro e w' ⟨rfl, rfl⟩
  go_wp2
  go_ret
  exact ⟨rfl, rfl⟩
/-- All blocks but those of S are as they were; there may be new ones. -/
structure Kept (w w' : World) (S : Nat → Prop) : Prop where
  os : w'.os = w.os
  tape : w'.tape = w.tape
  output : w'.output = w.output
  size : w.heap.size ≤ w'.heap.size
  block : ∀ i, i < w.heap.size → ¬ S i → w'.heap[i]? = w.heap[i]?
theorem Kept.of {w w' : World} {row : Option Nat} (h : w.grownBy w' row) {S : Nat → Prop} (hS : ∀ j, row = some j → j < w.heap.size → S j) : Kept w w' S :=
  ⟨h.os, h.tape, h.output, h.size, fun i hi hn => h.block i hi (fun e => hn (hS i e.symm hi))⟩
theorem Kept.new {w w' : World} (h : w.grownBy w' none) (S : Nat → Prop) : Kept w w' S := Kept.of h (fun _ e => by cases e)
theorem Kept.refl (w : World) (S : Nat → Prop) : Kept w w S := ⟨rfl, rfl, rfl, Nat.le_refl _, fun _ _ _ => rfl⟩
theorem Kept.trans {a b c : World} {S S' : Nat → Prop} (h : Kept a b S) (k : Kept b c S') (hS : ∀ i, i < a.heap.size → S' i → S i) : Kept a c S :=
  ⟨k.os.trans h.os, k.tape.trans h.tape, k.output.trans h.output, Nat.le_trans h.size k.size, fun i hi hn =>
    (k.block i (Nat.lt_of_lt_of_le hi h.size) (fun e => hn (hS i hi e))).trans (h.block i hi hn)⟩
theorem Kept.mono {a b : World} {S S' : Nat → Prop} (h : Kept a b S) (hS : ∀ i, i < a.heap.size → S i → S' i) : Kept a b S' :=
  ⟨h.os, h.tape, h.output, h.size, fun i hi hn => h.block i hi (fun e => hn (hS i hi e))⟩
theorem Kept.grown {a b : World} {S : Nat → Prop} (h : Kept a b S) (hS : ∀ i, i < a.heap.size → ¬ S i) : a.grownBy b none :=
  ⟨h.os, h.tape, h.output, h.size, fun i hi _ => h.block i hi (hS i hi)⟩
theorem Kept.at {a b : World} {S : Nat → Prop} (h : Kept a b S) {i : Nat} {o : Obj} (ho : a.heap[i]? = some o) (hS : ¬ S i) : b.heap[i]? = some o := (h.block i (row_lt ho) hS).trans ho
theorem kept_setCell (w : World) (g j : Nat) (u : Value) : Kept w (w.setCell ⟨g, j, none⟩ u) (fun i => i = g) := Kept.of (grown_setCell w g j u) (fun _ e _ => (Option.some.inj e).symm)
theorem grown_drewN (w : World) (n : Nat) (row : Option Nat) : w.grownBy (w.drewN n) row := ⟨rfl, rfl, rfl, Nat.le_refl _, fun _ _ _ => rfl⟩
theorem own_row {w : World} {B0 : Nat} {e : TypeId} {size : Nat} {v : Value} {n : Nat} {xs : List Value} (h : w.ownsRow B0 e size v n xs) (hn : 0 < n) : ∃ g cap, ∃ cur : List Value, v = .slice (some ⟨g, 0, none⟩) n cap ∧ B0 ≤ g ∧ w.heap[g]? = some (.cells cur.toArray e (0, 0)) ∧ n ≤ cap ∧ cap ≤ maxLen ∧ cur.length = cap * size ∧ cur.take (n * size) = xs := by
  rcases h.2 with ⟨_, h0⟩ | ⟨g, cap, cur, hv, hb, hg, hn, hm, hs, ht⟩
  · omega
  · exact ⟨g, cap, cur.toList, hv, hb, by simpa using hg, hn, hm, by simpa using hs, ht⟩
theorem own_cell {w : World} {g : Nat} {cur xs : List Value} {e : TypeId} {n : Nat} (hg : w.heap[g]? = some (.cells cur.toArray e (0, 0))) (ht : cur.take n = xs) {j : Nat} {u : Value} (h : xs[j]? = some u) : w.cell? ⟨g, j, none⟩ = some u := by
  rw [cell_row hg]
  rw [← ht, List.getElem?_take] at h
  split at h
  · exact h
  · cases h
theorem own_form {w : World} {B0 : Nat} {e : TypeId} {sz n : Nat} {v : Value} {xs : List Value} (h : w.ownsRow B0 e sz v n xs) : ∃ vo cap, v = .slice vo n cap ∧ n ≤ cap := by
  rcases h.2 with ⟨rfl, rfl⟩ | ⟨g, cap, cur, hv, hb, hg, hn, _⟩
  · exact ⟨none, 0, rfl, Nat.le_refl _⟩
  · exact ⟨_, cap, hv, hn⟩
theorem own_block {w : World} {B0 : Nat} {e : TypeId} {size : Nat} {v : Value} {n : Nat} {xs : List Value} (h : w.ownsRow B0 e size v n xs) {g : Nat} (hg : v.ownBlock = some g) : B0 ≤ g ∧ ∃ cur : Array Value, w.heap[g]? = some (.cells cur e (0, 0)) := by
  rcases h.2 with ⟨h1, h0⟩ | ⟨q, cap, cur, hv, hb, hq, _⟩
  · rw [h1] at hg; cases hg
  · rw [hv] at hg; cases hg; exact ⟨hb, cur, hq⟩
theorem row_keep {w w' : World} {B0 : Nat} {e : TypeId} {size : Nat} {v : Value} {n : Nat} {xs : List Value} (h : w.ownsRow B0 e size v n xs) (hb : ∀ g, v.ownBlock = some g → w'.heap[g]? = w.heap[g]?) : w'.ownsRow B0 e size v n xs := by
  obtain ⟨h1, h⟩ := h
  refine ⟨h1, ?_⟩
  rcases h with h | ⟨g, cap, cur, rfl, h2, h3, h4⟩
  · exact Or.inl h
  · exact Or.inr ⟨g, cap, cur, rfl, h2, (hb g rfl).trans h3, h4⟩
end Go.Proofs.Ytoocaioilpgmeaa
