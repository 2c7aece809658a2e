/- The program's heap and the document's, side by side. -/
import Derived.Test.YtkbhjdjdjfdikaaRd
namespace Go.Proofs.Ytkbhjdjdjfdikaa
open Go.RowKit Ap Go.Shelf
structure Tw (w0 w : World) (k : Int) (b : Nat) (p : Hp) (r : Nat) (vl : Value) (E X : List (Nat × Int)) (N M B : Nat) : Prop where
  hs : ∃ T, HS w (lsK k b) p E T N B
  hown : ∀ j, p.own j → w0.heap.size ≤ j
  rf : RfAt w w0.heap.size r k vl X M
  bx : w0.heap.size ≤ b
  grown : w0.grownBy w none
/-- The blocks that a step may write. -/
def TwO (p : Hp) (r : Nat) (vl : Value) (j : Nat) : Prop := p.own j ∨ j = r ∨ vl.ownBlock = some j
structure Tst (w w' : World) (p q : Hp) (r : Nat) (vl vl' : Value) : Prop where
  h : q.h = p.h
  kept : Kept w w' (TwO p r vl)
  own : ∀ j, TwO q r vl' j → TwO p r vl j ∨ w.heap.size ≤ j
theorem Tst.refl (w : World) (p : Hp) (r : Nat) (vl : Value) : Tst w w p p r vl vl := ⟨rfl, Kept.refl _ _, fun _ e => .inl e⟩
theorem Tst.grown {w w' : World} (g : w.grownBy w' none) (p : Hp) (r : Nat) (vl : Value) : Tst w w' p p r vl vl := ⟨rfl, Kept.new g _, fun _ e => .inl e⟩
theorem Tst.trans {a b c : World} {p q s : Hp} {r : Nat} {u v x : Value} (h : Tst a b p q r u v) (k : Tst b c q s r v x) : Tst a c p s r u x :=
  ⟨k.h.trans h.h, h.kept.trans k.kept (fun j hj e => by
    rcases h.own j e with e | e
    · exact e
    · omega), fun j e => by
    rcases k.own j e with e | e
    · exact h.own j e
    · exact .inr (Nat.le_trans h.kept.size e)⟩
section
variable {w0 w w' : World} {k : Int} {b : Nat} {p q : Hp} {r : Nat} {vl vl' : Value} {E E' X X' : List (Nat × Int)} {N N' M M' B B' : Nat}
theorem HS.types {L : Les} {T : List Nat} (s : HS w L p E T N B) {g : Nat} (hg : p.own g) : (∀ (cur : Array Value) (e : TypeId), w.heap[g]? = some (.cells cur e (0, 0)) → e = 57 ∨ e = 82 ∨ e = 3) := by
  intro cur e hb
  rcases hg with rfl | hg | hg | rfl
  · have := s.at_.head; rw [hb] at this; simp at this; exact .inl this.2
  · obtain ⟨c2, h2⟩ := row_block s.at_.ent hg; rw [hb] at h2; simp at h2; exact .inr (.inl h2.2)
  · obtain ⟨c2, h2⟩ := row_block s.at_.lst hg; rw [hb] at h2; simp at h2; exact .inr (.inr h2.2)
  · obtain ⟨es, ck, hm⟩ := s.at_.map.block; rw [hb] at hm; cases hm
theorem Tw.apart (t : Tw w0 w k b p r vl E X N M B) {j : Nat} (h : p.own j) : j ≠ r ∧ vl.ownBlock ≠ some j := by
  obtain ⟨T, s⟩ := t.hs
  refine ⟨fun e => ?_, fun e => ?_⟩
  · have := s.types h _ _ (by rw [e]; exact t.rf.head)
    exact absurd this (by decide)
  · obtain ⟨_, cur, hc⟩ := own_blockC t.rf.row e
    have := s.types h _ _ hc
    exact absurd this (by decide)
theorem Tw.then (t : Tw w0 w k b p r vl E X N M B) (g : w.grownBy w' none) : Tw w0 w' k b p r vl E X N M B := by
  obtain ⟨T, s⟩ := t.hs
  exact ⟨⟨T, s.then (lsK_ok k b) g⟩, t.hown, t.rf.grown g, t.bx, grown_trans t.grown g⟩
theorem Tw.keepsG (t : Tw w0 w k b p r vl E X N M B) (st : Tst w w' p q r vl vl') : w0.grownBy w' none :=
  ((Kept.new t.grown (fun _ => False)).trans st.kept (fun j hj e => by
    have hb : w0.heap.size ≤ j := by
      rcases e with e | e | e
      · exact t.hown j e
      · rw [e]; exact t.rf.base
      · exact (own_blockC t.rf.row e).1
    omega)).grown (fun _ _ e => e)
/-- A step of the program's. -/
theorem Tw.heap (t : Tw w0 w k b p r vl E X N M B) {T' : List Nat} (hs : HS w' (lsK k b) q E' T' N' B') (st : Hst w w' (lsK k b) p q) : Tw w0 w' k b q r vl E' X N' M B' ∧ Tst w w' p q r vl vl := by
  have k1 : Kept w w' p.own := st.kept.mono (fun j _ e => e.elim (fun x => x.elim) id)
  have ts : Tst w w' p q r vl vl := ⟨st.h, k1.mono (fun j _ e => .inl e), fun j e => by
    rcases e with e | e
    · exact (st.own j e).imp .inl id
    · exact .inl (.inr e)⟩
  refine ⟨⟨⟨T', hs⟩, fun j e => ?_, t.rf.far k1 (fun e => (t.apart e).1 rfl) (fun g hg e => (t.apart e).2 hg), t.bx, t.keepsG ts⟩, ts⟩
  rcases st.own j e with e | e
  · exact t.hown j e
  · exact Nat.le_trans t.grown.size e
/-- A step of the document's. -/
theorem Tw.ref (t : Tw w0 w k b p r vl E X N M B) (h : RfAt w' w0.heap.size r k vl' X' M') (st : Rst w w' r vl vl') : Tw w0 w' k b p r vl' E X' N M' B ∧ Tst w w' p p r vl vl' := by
  have ts : Tst w w' p p r vl vl' := ⟨rfl, st.kept.mono (fun j _ e => .inr e), fun j e => by
    rcases e with e | e | e
    · exact .inl (.inl e)
    · exact .inl (.inr (.inl e))
    · exact (st.own j e).imp (fun x => .inr (.inr x)) id⟩
  obtain ⟨T, s⟩ := t.hs
  have hI : w.heap[b]? = some (.cells #[.int .i64 k] 3 (0, 0)) := s.at_.inv
  have hI' : (lsK k b).I w' := by
    show w'.heap[b]? = _
    refine st.kept.at hI (fun e => ?_)
    rcases e with e | e
    · rw [e, t.rf.head] at hI; simp at hI
    · obtain ⟨_, cur, hc⟩ := own_blockC t.rf.row e
      rw [hI] at hc; simp at hc
  exact ⟨⟨⟨T, s.at_.far st.kept (fun j e x => by
    rcases x with x | x
    · exact (t.apart e).1 x
    · exact (t.apart e).2 x) hI', s.good, s.hds, s.ok⟩, t.hown, h, t.bx, t.keepsG ts⟩, ts⟩
/-- What lies apart of a pair stays. -/
theorem Tw.far (t : Tw w0 w k b p r vl E X N M B) {S : Nat → Prop} (hk : Kept w w' S) (hS : ∀ j, TwO p r vl j ∨ j = b → ¬ S j) (hg : w0.grownBy w' none) : Tw w0 w' k b p r vl E X N M B := by
  obtain ⟨T, s⟩ := t.hs
  exact ⟨⟨T, s.at_.far hk (fun j e => hS j (.inl (.inl e))) (hk.at s.at_.inv (hS b (.inr rfl))), s.good, s.hds, s.ok⟩, t.hown, t.rf.far hk (hS r (.inl (.inr (.inl rfl)))) (fun g hg => hS g (.inl (.inr (.inr hg)))), t.bx, hg⟩
theorem Tw.hds (t : Tw w0 w k b p r vl E X N M B) : Hds E N := by obtain ⟨T, s⟩ := t.hs; exact s.hds
theorem Tw.ok (t : Tw w0 w k b p r vl E X N M B) : ∀ e ∈ E, I64 e.2 := by obtain ⟨T, s⟩ := t.hs; exact s.ok
end
end Go.Proofs.Ytkbhjdjdjfdikaa
