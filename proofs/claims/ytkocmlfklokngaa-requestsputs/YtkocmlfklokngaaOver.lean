/- The contract of OverBytes; a Reader's bytes that lie behind a bound. -/
import Derived.Test.YtkocmlfklokngaaLent
namespace Go.Proofs.Ytkocmlfklokngaa
open Go.RowKit

/-- A Reader whose bytes lie in blocks from lo on. -/
def RdLo (w : World) (b lo : Nat) : Prop := ∀ ao n cap a, w.cell? ⟨b, 0, none⟩ = some (.slice ao n cap) → ao = some a → lo ≤ a.block
theorem RdAt.keptLo {w w' : World} {b k lo : Nat} {xs : List Int} {e : Int} (h : RdAt w b xs e) (hlo : RdLo w b lo) (hg : w.grownBy w' (some k)) (hk : k < lo) (hkb : k ≠ b) : RdAt w' b xs e := by
  obtain ⟨ao, cap, hb, h1, h2, hat, ho, h3, h4, h5⟩ := h
  have hc : w.cell? ⟨b, 0, none⟩ = some (.slice ao xs.length cap) := by rw [cell_row hb]; rfl
  have hne' : ∀ a, ao = some a → some a.block ≠ some k := fun a ha e => by
    have := hlo ao _ _ a hc ha
    simp at e; omega
  refine ⟨ao, cap, (hg.block b (row_lt hb) (fun e => hkb (by simpa using e.symm))).trans hb, h1, h2, hat.kept hg hne', ho, h3, h4, fun a ha => ?_⟩
  obtain ⟨c, hc⟩ := h5 a ha
  exact ⟨c, (hg.block _ (row_lt hc) (hne' a ha)).trans hc⟩
theorem RdLo.kept {w w' : World} {b lo : Nat} {xs : List Int} {e : Int} {row : Option Nat} (h : RdLo w b lo) (hR : RdAt w b xs e) (hg : w.grownBy w' row) (hne : row ≠ some b) : RdLo w' b lo := by
  intro ao n cap a hc
  rw [World.cell?_of_block (w := w) (a := ⟨b, 0, none⟩) (hg.block b hR.lt (fun e => hne e.symm))] at hc
  exact h ao n cap a hc

set_option maxHeartbeats 400000 in
theorem of_lo (ao : Option Addr) (n cap : Nat) (xs : List Int) (w : World) (hn : xs.length = n) (hat : At w ao xs) (hnil : ao = none → n = 0 ∧ cap = 0) (hb : n ≤ 140737488355328) :
    Calls Try.prog 32 #[.slice ao n cap] w fun r w' => ∃ B, r = .returned (.pointer (some ⟨B, 0, none⟩)) ∧ w.heap.size ≤ B ∧ RdAt w' B xs 0 ∧ w.grownBy w' none ∧ RdLo w' B w.heap.size := by
  have Hn := hide hn
  clear hn
  go_enter Try.func32, Try.ntmps32
  go_wp2_with fail
  refine (clone_any ao n cap xs _ Hn.out hat hnil hb).mono ?_
  rintro e1 w1 ⟨v, rfl, hown, hg⟩
  obtain ⟨ao', cap', rfl, hl, hnc, hcm, hat', hnil', h5⟩ := own_at hown
  have H := hide (And.intro hl (And.intro hnc (And.intro hcm (And.intro hat' (And.intro hnil' (And.intro h5 hg))))))
  clear hl hnc hcm hat' hnil' h5 hg hown
  go_wp2
  go_ret
  obtain ⟨hl, hnc, hcm, hat', hnil', h5, hg⟩ := H.out
  have hga := World.grownBy_alloc w1 (.cells (rrow ao' xs.length cap' 0).toArray 105) none
  refine ⟨w1.heap.size, rfl, hg.size, ⟨ao', cap', ?_, by omega, hcm, ?_, ?_, fun e => (hnil' e).2, fun h => absurd rfl h, ?_⟩, ?_, ?_⟩
  · rw [hl]; exact heap_alloc_new w1 _
  · rw [← hl]; exact hat'.kept hga (by simp)
  · intro a ha e; have := (h5 a ha).2.1; omega
  · intro a ha
    obtain ⟨_, hlt, c, hc⟩ := h5 a ha
    exact ⟨c, (Below.heap_alloc _ _ _ hlt).trans hc⟩
  · exact grown_trans hg (World.grownBy_alloc w1 _ _)
  · intro ao2 n2 cap2 a hc ha
    have e1 : (w1.alloc (.cells (rrow ao' n cap' 0).toArray 105)).cell? ⟨w1.heap.size, 0, none⟩ = some (.slice ao' n cap') := by rw [cell_row (heap_alloc_new w1 _)]; rfl
    have e2 := e1.symm.trans hc
    simp at e2
    obtain ⟨e3, _⟩ := e2
    rw [← e3] at ha
    exact (h5 a ha).1
end Go.Proofs.Ytkocmlfklokngaa
