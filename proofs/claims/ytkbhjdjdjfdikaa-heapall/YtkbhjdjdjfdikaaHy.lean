/- The least one, where less goes by a rank. -/
import Derived.Test.YtkbhjdjdjfdikaaHx
namespace Go.Proofs.Ytkbhjdjdjfdikaa
section
variable {α : Type} {lt : α → α → Bool} {r : α → Int}
/-- By rank, then by handle. -/
def Le (r : α → Int) (x y : Nat × α) : Prop := r x.2 < r y.2 ∨ (r x.2 = r y.2 ∧ x.1 ≤ y.1)
theorem Le.refl (x : Nat × α) : Le r x x := .inr ⟨rfl, Nat.le_refl _⟩
theorem Le.trans {x y z : Nat × α} (h : Le r x y) (k : Le r y z) : Le r x z := by
  unfold Le at *
  omega
theorem ah_le {x y : Nat × α} (h1 : lt x.2 y.2 = decide (r x.2 < r y.2)) (h2 : lt y.2 x.2 = decide (r y.2 < r x.2)) : (ah lt x y = true → Le r x y) ∧ (ah lt x y = false → Le r y x) := by
  unfold ah Le
  rw [h1, h2]
  split <;> simp <;> omega
end
section
variable {α : Type} [Inhabited α] {lt : α → α → Bool} {E : List (Nat × α)} {T : List Nat} {r : α → Int}
theorem lw1_le {l b : Nat} (hlt : ∀ i j, i < E.length → j < E.length → lt (en E i).2 (en E j).2 = decide (r (en E i).2 < r (en E j).2)) (hl : l < E.length) (hb : tn T b < E.length) : Le r (en E (lw1 lt E T l b)) (en E l) ∧ Le r (en E (lw1 lt E T l b)) (en E (tn T b)) := by
  have h := ah_le (r := r) (hlt _ _ hb hl) (hlt _ _ hl hb)
  unfold lw1
  cases ha : ah lt (en E (tn T b)) (en E l) with
  | true => simp only [if_true]; exact ⟨h.1 ha, Le.refl _⟩
  | false => simp only [Bool.false_eq_true, if_false]; exact ⟨Le.refl _, h.2 ha⟩
theorem Good.least_sub (hlt : ∀ i j, i < E.length → j < E.length → lt (en E i).2 (en E j).2 = decide (r (en E i).2 < r (en E j).2)) (h : Good lt E T) : ∀ b c, b < E.length → c < E.length → Pth (c + 1) b → Le r (en E (tn T b)) (en E c) := by
  have H : ∀ m b c, E.length - b ≤ m → b < E.length → c < E.length → Pth (c + 1) b → Le r (en E (tn T b)) (en E c) := by
    intro m
    induction m with
    | zero => intro b c h1 h2; omega
    | succ m ih =>
      intro b c h1 hb hc hp
      rw [h.right b hb]
      have hA : Le r (en E (lwA lt E T b)) (en E b) ∧ (2 * b + 1 < E.length → Le r (en E (lwA lt E T b)) (en E (tn T (2 * b + 1)))) ∧ lwA lt E T b < E.length := by
        unfold lwA
        by_cases h2 : 2 * b + 1 < E.length
        · rw [if_pos h2]
          have := lw1_le (T := T) hlt hb (h.sub _ h2).2
          refine ⟨this.1, fun _ => this.2, ?_⟩
          rcases lw1_or (lt := lt) (E := E) (T := T) b (2 * b + 1) with e | e
          · rw [e]; exact hb
          · rw [e]; exact (h.sub _ h2).2
        · rw [if_neg h2]
          exact ⟨Le.refl _, fun e => absurd e h2, hb⟩
      have hW : Le r (en E (lw lt E T b)) (en E (lwA lt E T b)) ∧ (2 * b + 2 < E.length → Le r (en E (lw lt E T b)) (en E (tn T (2 * b + 2)))) := by
        unfold lw
        by_cases h2 : 2 * b + 2 < E.length
        · rw [if_pos h2]
          have := lw1_le (T := T) hlt hA.2.2 (h.sub _ h2).2
          exact ⟨this.1, fun _ => this.2⟩
        · rw [if_neg h2]
          exact ⟨Le.refl _, fun e => absurd e h2⟩
      rcases hp.below with e | e | e
      · obtain rfl : c = b := by omega
        exact hW.1.trans hA.1
      · have h2 : 2 * b + 1 < E.length := by have := e.le; omega
        exact (hW.1.trans (hA.2.1 h2)).trans (ih (2 * b + 1) c (by omega) h2 hc e)
      · have h2 : 2 * b + 2 < E.length := by have := e.le; omega
        exact (hW.2 h2).trans (ih (2 * b + 2) c (by omega) h2 hc e)
  exact fun b c hb hc hp => H _ b c (Nat.le_refl _) hb hc hp
theorem Good.least (hlt : ∀ i j, i < E.length → j < E.length → lt (en E i).2 (en E j).2 = decide (r (en E i).2 < r (en E j).2)) (h : Good lt E T) : ∀ c, c < E.length → Le r (en E (tn T 0)) (en E c) :=
  fun c hc => h.least_sub hlt 0 c (by omega) hc (pth_top (c + 1) (by omega))
end
end Go.Proofs.Ytkbhjdjdjfdikaa
