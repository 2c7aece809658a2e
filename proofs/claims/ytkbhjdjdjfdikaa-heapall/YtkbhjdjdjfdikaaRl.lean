/- A pair in a world of two: what the walk of a script knows of it. -/
import Derived.Test.YtkbhjdjdjfdikaaRi
namespace Go.Proofs.Ytkbhjdjdjfdikaa
open Go.RowKit Ap Go.Shelf
theorem bit_two (x : Int) : bits .and .i64 x 1 = 0 ∨ bits .and .i64 x 1 = 1 := by
  show IntKind.i64.wrap ((BitVec.ofInt 64 x &&& BitVec.ofInt 64 1).toNat : Int) = 0 ∨ IntKind.i64.wrap ((BitVec.ofInt 64 x &&& BitVec.ofInt 64 1).toNat : Int) = 1
  have h1 : (BitVec.ofInt 64 1).toNat = 1 := by decide
  rw [BitVec.toNat_and, h1, Nat.and_one_is_mod]
  rcases Nat.mod_two_eq_zero_or_one (BitVec.ofInt 64 x).toNat with h | h
  · left; rw [h]; decide
  · right; rw [h]; decide
/-- The value of a pair. -/
def paV (h r : Nat) (k : Int) : List Value := [.pointer (some ⟨h, 0, none⟩), .pointer (some ⟨r, 0, none⟩), .bool (decide (k < 4))]
section
variable {w0 w w' : World} {k : Int} {b : Nat} {p q : Hp} {r : Nat} {vl vl' : Value} {E E' X X' : List (Nat × Int)} {N N' M M' B B' : Nat}
theorem Tw.ltb (t : Tw w0 w k b p r vl E X N M B) : ∀ j, TwO p r vl j ∨ j = b → j < w.heap.size := by
  obtain ⟨T, s⟩ := t.hs
  rintro j ((e | rfl | e) | rfl)
  · exact s.at_.lt j e
  · exact row_lt t.rf.head
  · obtain ⟨_, cur, hc⟩ := own_blockC t.rf.row e
    exact row_lt hc
  · exact row_lt s.at_.inv
/-- A pair of kind k at h, r, b, behind at most n steps, all of it within S. -/
def Pa (w0 w : World) (k : Int) (h r b n : Nat) (S : Nat → Prop) : Prop := ∃ p vl E X N B, p.h = h ∧ Tw w0 w k b p r vl E X N N B ∧ Same E X N ∧ E.length ≤ n ∧ N ≤ n ∧ B ≤ n ∧ (∀ j, TwO p r vl j ∨ j = b ↔ S j)
variable {h n : Nat} {S S2 : Nat → Prop}
theorem Pa.lt (t : Pa w0 w k h r b n S) : ∀ j, S j → j < w.heap.size := by
  obtain ⟨p, vl, E, X, N, B, -, t, -, -, -, -, hS⟩ := t
  exact fun j e => t.ltb j ((hS j).2 e)
theorem Pa.low (t : Pa w0 w k h r b n S) : ∀ j, S j → w0.heap.size ≤ j := by
  obtain ⟨p, vl, E, X, N, B, -, t, -, -, -, -, hS⟩ := t
  intro j e
  rcases (hS j).2 e with (e | rfl | e) | rfl
  · exact t.hown j e
  · exact t.rf.base
  · exact (own_blockC t.rf.row e).1
  · exact t.bx
theorem Pa.grown (t : Pa w0 w k h r b n S) : w0.grownBy w none := by
  obtain ⟨p, vl, E, X, N, B, -, t, -⟩ := t
  exact t.grown
theorem Pa.mono (t : Pa w0 w k h r b n S) {m : Nat} (hm : n ≤ m) : Pa w0 w k h r b m S := by
  obtain ⟨p, vl, E, X, N, B, e, t, s, h1, h2, h3, hS⟩ := t
  exact ⟨p, vl, E, X, N, B, e, t, s, by omega, by omega, by omega, hS⟩
theorem Pa.far (t : Pa w0 w k h r b n S) (hk : Kept w w' S2) (hS2 : ∀ j, S j → ¬ S2 j) (hg : w0.grownBy w' none) : Pa w0 w' k h r b n S := by
  obtain ⟨p, vl, E, X, N, B, e, t, s, h1, h2, h3, hS⟩ := t
  exact ⟨p, vl, E, X, N, B, e, t.far hk (fun j e => hS2 j ((hS j).1 e)) hg, s, h1, h2, h3, hS⟩
theorem Pa.then (t : Pa w0 w k h r b n S) (hg : w.grownBy w' none) : Pa w0 w' k h r b n S := by
  obtain ⟨p, vl, E, X, N, B, e, t, s, h1, h2, h3, hS⟩ := t
  exact ⟨p, vl, E, X, N, B, e, t.then hg, s, h1, h2, h3, hS⟩
theorem Pa.next (t : Pa w0 w k h r b n S) : ∃ N : Nat, N ≤ n ∧ w.cell? ⟨r, 2, none⟩ = some (.int .i64 (N : Int)) := by
  obtain ⟨p, vl, E, X, N, B, e, t, s, h1, h2, h3, hS⟩ := t
  exact ⟨N, h2, t.rf.cells.2.2⟩
theorem Pa.step (t : Pa w0 w k h r b n S) (hk : 0 ≤ k) (hn : n ≤ 50000) (o : OpD) (ho : o.Ok) : Calls Try.prog 11 #[.agg (paV h r k).toArray, .agg #[.int .i64 o.K, .int .i64 o.O, .int .i64 o.N, .int .i64 o.V]] w fun e w' => e = .returned (.bool true) ∧ ∃ S', Pa w0 w' k h r b (n + 1) S' ∧ Kept w w' S ∧ (∀ j, S' j → S j ∨ w.heap.size ≤ j) := by
  obtain ⟨p, vl, E, X, N, B, rfl, t, s, h1, h2, h3, hS⟩ := t
  refine (step_tw t s hk (by omega) (by omega) (by omega) o ho).mono ?_
  rintro e w' ⟨rfl, N', hN', q, vl', E', X', t', s', st, hl⟩
  refine ⟨rfl, (fun j => TwO q r vl' j ∨ j = b), ⟨q, vl', E', X', N', B + 1, st.h, t', s', by omega, by omega, by omega, fun j => Iff.rfl⟩, st.kept.mono (fun j _ e => (hS j).1 (.inl e)), ?_⟩
  rintro j (e | rfl)
  · exact (st.own j e).imp (fun e => (hS j).1 (.inl e)) id
  · exact .inl ((hS _).1 (.inr rfl))
end
end Go.Proofs.Ytkbhjdjdjfdikaa
