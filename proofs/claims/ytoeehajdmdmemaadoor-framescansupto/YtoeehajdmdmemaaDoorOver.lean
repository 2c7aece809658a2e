/- The contract of OverBytes; a Reader's bytes that lie behind a bound. -/
import Derived.Test.YtoeehajdmdmemaaDoorLent
namespace Go.Proofs.YtoeehajdmdmemaaDoor
open Go.RowKit

set_option maxHeartbeats 1000000 in
theorem over_any (g cap n : Nat) (w : World) (hb : ∃ cur, w.heap[g]? = some (.cells cur 5 (0, 0)) ∧ cur.size = cap) (hc1 : n + 12 ≤ cap) (_hc2 : cap ≤ maxLen) (hm : n ≤ 140737488355328) :
    Calls Tryd.prog 22 #[.slice (some ⟨g, 0, none⟩) n cap] w fun e w' => e = .returned (.tuple #[]) ∧ w.grownBy w' (some g) := by
  unfold maxLen at _hc2
  have hst2 : ∀ w', (Instr.slice 23 (.slice (some ⟨g, 0, none⟩) n cap) none (some (.int .i64 ((n : Int) + 12))) none).run Tryd.prog w' = .ok (.slice (some ⟨g, 0, none⟩) (n + 12) cap) w' := slice_to (some ⟨g, 0, none⟩) n cap (n + 12) hc1
  have HB := hide hb
  clear hb
  go_enter Tryd.func22, Tryd.ntmps22
  go_wp2
  go_loopg [3] (n + 12) (fun k i wr => ∃ j : Nat, k + j = n + 12 ∧ i = .int .i64 j ∧ (∃ cur, wr.heap[g]? = some (.cells cur 5 (0, 0)) ∧ cur.size = cap) ∧ w.grownBy wr (some g))
  case atStart => exact ⟨0, by omega, rfl, HB.out, grown_refl _ _⟩
  case round =>
    obtain ⟨j, hkj, rfl, ⟨cur, hb, hs⟩, hg⟩ := hrel
    by_cases hk : 0 < gk
    · have hj1 : (j : Int) < ((n + 12 : Nat) : Int) := by omega
      have hjs : j < cur.size := by omega
      have hc : wr.cell? ⟨g, j, none⟩ = some cur[j] := by rw [cell_of_row wr g j cur 5 (0, 0) hb]; simp [hjs]
      have hf : wr.frozen? ⟨g, j, none⟩ = false := free_row hb _
      have Hb := hide (And.intro hb hs)
      obtain ⟨y, hy⟩ : ∃ y, y = cur[j] := ⟨_, rfl⟩
      rw [← hy] at hc
      clear hb hs hy hst2
      go_wp2_with (first | (go_at_call 40; refine (mark_any 2 j _ (by omega) (by omega) (by omega) (by omega)).mono ?_; rintro e w' ⟨rfl, rfl⟩) | go_in)
      go_roundg (gk - 1)
      case measure => omega
      case rel =>
        refine ⟨j + 1, by omega, by go_num, ⟨cur.setIfInBounds j (.int .u8 (markB 2 j)), ?_, by simp [Hb.out.2]⟩, grown_trans hg (grown_setCell _ g j _)⟩
        have h1 : _ = some (Obj.cells cur.toList.toArray 5 (0, 0)) := Hb.out.1
        have := row_setCell h1 j (.int .u8 (markB 2 j))
        rw [this]
        simp only [Option.some.injEq, Obj.cells.injEq, and_true]
        exact Array.ext' (by simp)
    · have hj : j = n + 12 := by omega
      subst hj
      clear hb hs
      go_wp2
      go_end0
      exact ⟨rfl, hg⟩

/-- A Reader whose bytes lie in blocks from lo on. -/
def RdLo (w : World) (b lo : Nat) : Prop := ∀ ao n cap a, w.cell? ⟨b, 0, none⟩ = some (.slice ao n cap) → ao = some a → lo ≤ a.block
theorem RdAt.keptLo {w w' : World} {b k lo : Nat} {xs : List Int} {e : Int} (h : RdAt w b xs e) (hlo : RdLo w b lo) (hg : w.grownBy w' (some k)) (hk : k < lo) (hkb : k ≠ b) : RdAt w' b xs e := by
  obtain ⟨ao, cap, hb, h1, h2, hat, ho, h3, h4, h5⟩ := h
  have hc : w.cell? ⟨b, 0, none⟩ = some (.slice ao xs.length cap) := by rw [cell_row hb]; rfl
  have hne' : ∀ a, ao = some a → some a.block ≠ some k := fun a ha e => by
    have := hlo ao _ _ a hc ha
    simp at e; omega
  refine ⟨ao, cap, (hg.block b (row_lt hb) (fun e => hkb (by simpa using e.symm))).trans hb, h1, h2, hat.kept hg hne', ho, h3, h4, fun a ha => ?_⟩
  obtain ⟨c, hc⟩ := h5 a ha
  exact ⟨c, (hg.block _ (row_lt hc) (hne' a ha)).trans hc⟩
theorem RdLo.kept {w w' : World} {b lo : Nat} {xs : List Int} {e : Int} {row : Option Nat} (h : RdLo w b lo) (hR : RdAt w b xs e) (hg : w.grownBy w' row) (hne : row ≠ some b) : RdLo w' b lo := by
  intro ao n cap a hc
  rw [World.cell?_of_block (w := w) (a := ⟨b, 0, none⟩) (hg.block b hR.lt (fun e => hne e.symm))] at hc
  exact h ao n cap a hc

set_option maxHeartbeats 400000 in
theorem of_lo (ao : Option Addr) (n cap : Nat) (xs : List Int) (w : World) (hn : xs.length = n) (hat : At w ao xs) (hnil : ao = none → n = 0 ∧ cap = 0) (hb : n ≤ 140737488355328) :
    Calls Tryd.prog 41 #[.slice ao n cap] w fun r w' => ∃ B, r = .returned (.pointer (some ⟨B, 0, none⟩)) ∧ w.heap.size ≤ B ∧ RdAt w' B xs 0 ∧ w.grownBy w' none ∧ RdLo w' B w.heap.size := by
  have Hn := hide hn
  clear hn
  go_enter Tryd.func41, Tryd.ntmps41
  go_wp2_with fail
  refine (clone_any ao n cap xs _ Hn.out hat hnil hb).mono ?_
  rintro e1 w1 ⟨v, rfl, hown, hg⟩
  obtain ⟨ao', cap', rfl, hl, hnc, hcm, hat', hnil', h5⟩ := own_at hown
  have H := hide (And.intro hl (And.intro hnc (And.intro hcm (And.intro hat' (And.intro hnil' (And.intro h5 hg))))))
  clear hl hnc hcm hat' hnil' h5 hg hown
  go_wp2
  go_ret
  obtain ⟨hl, hnc, hcm, hat', hnil', h5, hg⟩ := H.out
  have hga := World.grownBy_alloc w1 (.cells (rrow ao' xs.length cap' 0).toArray 93) none
  refine ⟨w1.heap.size, rfl, hg.size, ⟨ao', cap', ?_, by omega, hcm, ?_, ?_, fun e => (hnil' e).2, fun h => absurd rfl h, ?_⟩, ?_, ?_⟩
  · rw [hl]; exact heap_alloc_new w1 _
  · rw [← hl]; exact hat'.kept hga (by simp)
  · intro a ha e; have := (h5 a ha).2.1; omega
  · intro a ha
    obtain ⟨_, hlt, c, hc⟩ := h5 a ha
    exact ⟨c, (Below.heap_alloc _ _ _ hlt).trans hc⟩
  · exact grown_trans hg (World.grownBy_alloc w1 _ _)
  · intro ao2 n2 cap2 a hc ha
    have e1 : (w1.alloc (.cells (rrow ao' n cap' 0).toArray 93)).cell? ⟨w1.heap.size, 0, none⟩ = some (.slice ao' n cap') := by rw [cell_row (heap_alloc_new w1 _)]; rfl
    have e2 := e1.symm.trans hc
    simp at e2
    obtain ⟨e3, _⟩ := e2
    rw [← e3] at ha
    exact (h5 a ha).1
end Go.Proofs.YtoeehajdmdmemaaDoor
