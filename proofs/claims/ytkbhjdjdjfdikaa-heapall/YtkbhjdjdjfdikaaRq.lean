/- A region that draws its order: from a point on all only read. -/
import Derived.OrdersHeld
import Derived.Deep.RegionHeld
import Derived.Deep.Quiet
import Derived.Deep.QuietTactic
namespace Go.Proofs.Ytkbhjdjdjfdikaa
open Go
variable {P : Program} {ops : Array Oper} {md : Region.Mode} {C S : World → Prop}
theorem wpAnyH_quiet {Q : Act → Prop} {Q' : Exit → Act → World → Prop} (hQ : ∀ a w, C w → Q a → Q' .normal a w) (hCS : ∀ w, C w → S w) : ∀ (fuel : Nat) (listed : Array Bool) (a : Act) (w : World), C w → wpAnyQ P md ops C Q fuel listed a → wpAnyH P md ops Q' S fuel listed a w
  | 0, _, _, _, hw, h => ⟨h.1, hQ _ _ hw h.2⟩
  | fuel + 1, _, _, _, hw, h => ⟨fun h0 => hQ _ _ hw (h.1 h0), fun i hi => wpOp_of_qOp hw (fun a' w' hw' h' => ⟨hCS w' hw', wpAnyH_quiet hQ hCS fuel _ a' w' hw' h'⟩) (h.2 i hi)⟩
/-- What is left only reads: walked once, in the order of the text. -/
theorem wpAnyH_rest {Q' : Exit → Act → World → Prop} {fuel : Nat} {listed : Array Bool} {a : Act} {w : World} (k : Nat) (l : List Oper) (hs : Region.noSelect ops = true) (hl : ops.toList.drop k = l) (hf : fuel = l.length) (hB : Region.lexFrom md ops l.length k listed = true) (hS : ∀ n, S (w.drewN n))
    (h : wpQuiet P ops (fun w' => ∃ n, w' = w.drewN n) (fun a' => ∀ w', (∃ n, w' = w.drewN n) → Q' .normal a' w') l a) : wpAnyH P md ops Q' S fuel listed a w := by
  subst hf
  refine wpAnyH_quiet (C := fun w' => ∃ n, w' = w.drewN n) (Q := fun a' => ∀ w', (∃ n, w' = w.drewN n) → Q' .normal a' w') (fun _ w' hw' h => h w' hw') (fun w' hw' => by obtain ⟨n, rfl⟩ := hw'; exact hS n) _ _ _ _ ⟨0, rfl⟩ ?_
  refine wpAnyQ_lex hs l k listed a (fun j => ?_) hB h
  rw [← hl, List.getElem?_drop]
  simp
/-- What is held may grow on the way. -/
theorem wpAnyH_held {S2 : World → Prop} {Q' : Exit → Act → World → Prop} (hS : ∀ w, S2 w → S w) : ∀ (fuel : Nat) (listed : Array Bool) (a : Act) (w : World), wpAnyH P md ops Q' S2 fuel listed a w → wpAnyH P md ops Q' S fuel listed a w
  | 0, _, _, _, h => h
  | fuel + 1, _, _, _, h => ⟨h.1, fun i hi => wpOp_mono (fun a' w' h' => ⟨hS w' h'.1, wpAnyH_held hS fuel _ a' w' h'.2⟩) (h.2 i hi)⟩
end Go.Proofs.Ytkbhjdjdjfdikaa
