/- A pair: what can be asked of both, the same. -/
import Derived.Test.YtkbhjdjdjfdikaaRh
import Derived.Deep.CutRange
import Derived.Deep.DeepCutAuto
namespace Go.Proofs.Ytkbhjdjdjfdikaa
open Go.RowKit Ap Go.Shelf
attribute [local go_sem ↓] Go.wp_at_zero Go.wp_at_succ
section
variable {w0 w w' : World} {k : Int} {b : Nat} {p q : Hp} {r : Nat} {vl vl' : Value} {E E' X X' : List (Nat × Int)} {N N' M M' B B' : Nat}
/-- Get of both. -/
theorem tw_get (t : Tw w0 w k b p r vl E X N N B) (hs : Same E X N) (hE : E.length ≤ 60000) (x : Int) (hx : I64 x) : ∃ (a : Int) (one : Bool), (∀ W, w.grownBy W none → Calls Try.prog 31 #[.pointer (some ⟨p.h, 0, none⟩), .int .i64 x] W fun e w' => e = .returned (.tuple #[.int .i64 a, .bool one]) ∧ w' = W) ∧ (∀ W, w.grownBy W none → Calls Try.prog 37 #[.pointer (some ⟨r, 0, none⟩), .int .i64 x] W fun e w' => e = .returned (.tuple #[.int .i64 a, .bool one]) ∧ w' = W) := by
  refine ⟨(fi E x).elim 0 fun i => (en E i).2, (fi E x).isSome, fun W g => ?_, fun W g => ?_⟩
  · obtain ⟨T, s⟩ := (t.then g).hs
    exact get_at s.at_ x (wf_i64 hx.1 hx.2)
  · have h := rget_at (t.then g).rf (by rw [hs.length]; omega) hs.hdsX x
    rcases hs.fi x with ⟨e1, e2⟩ | ⟨i, j, _, _, e1, e2, e⟩
    · rw [e2] at h; rw [e1]; exact h
    · rw [e2] at h; rw [e1]; simp only [Option.elim, e] at h ⊢; exact h
/-- Least of both. -/
theorem tw_least (t : Tw w0 w k b p r vl E X N N B) (hs : Same E X N) (hk : 0 ≤ k) (hE : E.length ≤ 60000) (_hN : N ≤ 60000) : ∃ (v m : Int), (∀ W, w.grownBy W none → Calls Try.prog 38 #[.pointer (some ⟨p.h, 0, none⟩)] W fun e w' => e = .returned (.tuple #[.int .i64 v, .int .i64 m, .bool (decide (0 < E.length))]) ∧ W.grownBy w' none) ∧ (∀ W, w.grownBy W none → Calls Try.prog 40 #[.pointer (some ⟨r, 0, none⟩)] W fun e w' => ∃ x y c, e = .returned (.tuple #[.int .i64 x, .int .i64 y, .bool c]) ∧ (k < 4 → x = v ∧ y = m) ∧ W.grownBy w' none) ∧ (∀ W, w.grownBy W none → Calls Try.prog 37 #[.pointer (some ⟨r, 0, none⟩), .int .i64 m] W fun e w' => ∃ x c, e = .returned (.tuple #[.int .i64 x, .bool c]) ∧ (0 < E.length → c = true ∧ x = v) ∧ w' = W) ∧ (¬ 0 < E.length → v = 0 ∧ m = 0) := by
  obtain ⟨T, s⟩ := t.hs
  refine ⟨if 0 < E.length then (en E (tn T 0)).2 else 0, if 0 < E.length then ((en E (tn T 0)).1 : Int) else 0, fun W g => (s.then (lsK_ok k b) g).least, fun W g => ?_, fun W g => ?_, fun hz => ⟨if_neg hz, if_neg hz⟩⟩
  · by_cases hz : 0 < E.length
    · have h := rleast_at (t.then g).rf (by rw [hs.length]; exact hz) (by rw [hs.length]; omega) (fun e he => t.ok e (hs.perm.subset he))
      refine h.mono ?_
      rintro e w' ⟨rfl, g'⟩
      refine ⟨_, _, _, rfl, fun h4 => ?_, g'⟩
      have hl := hs.least hk h4 hz ⟨T, s.good, rfl⟩
      rw [hl, if_pos hz, if_pos hz]
      exact ⟨rfl, rfl⟩
    · have hX0 : X = [] := List.eq_nil_of_length_eq_zero (by rw [hs.length]; omega)
      subst hX0
      refine (rleast_none (t.then g).rf).mono ?_
      rintro e w' ⟨rfl, rfl⟩
      exact ⟨_, _, _, rfl, fun _ => by rw [if_neg hz, if_neg hz]; exact ⟨rfl, rfl⟩, grown_refl _ _⟩
  · refine (rget_at (t.then g).rf (by rw [hs.length]; omega) hs.hdsX _).mono ?_
    rintro e w' ⟨rfl, rfl⟩
    refine ⟨_, _, rfl, fun hz => ?_, rfl⟩
    have hi := (s.good.sub 0 hz).2
    rcases hs.fi ((en E (tn T 0)).1 : Int) with ⟨e1, e2⟩ | ⟨i, j, _, _, e1, e2, e⟩
    · rw [fi_at hs.hds hi] at e1; cases e1
    · rw [fi_at hs.hds hi] at e1
      cases e1
      rw [if_pos hz, if_pos hz, e2]
      simp [e]
end
end Go.Proofs.Ytkbhjdjdjfdikaa
