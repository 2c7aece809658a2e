/- A Shape that came in, opened. -/
import Derived.Test.YtmjecgdamkkpaaaPr
import Derived.ProofKit
import Derived.OpenShut
import Derived.ChangeOld
import Derived.ChangeMaps5
import Derived.SizedLaws
import Derived.Deep.Slices
namespace Go.Proofs.Ytmjecgdamkkpaaa
open Go.ChangeShapes Go.WideShapes Go.ChangeAt Go.RowKit Go.Deep

theorem Try.cells3 : Try.prog.cellsOf 3 = 1 := by kernel_rfl
theorem Try.cells23 : Try.prog.cellsOf 23 = 3 := by kernel_rfl
theorem list3 {α : Type} {l : List α} (h : l.length = 3) : ∃ a b c, l = [a, b, c] := by
  match l, h with
  | [a, b, c], _ => exact ⟨a, b, c, rfl⟩
section
variable {H : Type} {enc : TypeId × Value → H}
set_option maxRecDepth 100000 in
theorem open_shape {w : World} {base : Nat} {r : Reach} {b0 : Nat} {spare : Nat → Bool} {held : Bool} {v : Value} {d : DataW H} {ps : List MemPlace} (hval : Value.okWide Try.prog w r b0 23 v) (hd : DataW.Trod enc Try.prog w base spare held 23 v d ps) :
    ∃ a b c : Int, v = shV a b c := by
  obtain ⟨cs, rfl, _⟩ := okWide_struct Try.underlying23 hval
  obtain ⟨fuel, h⟩ := hd
  have h : DataW.trod enc Try.prog w base spare held fuel 23 cs.toList = some (d, ps) := h
  obtain ⟨xs, n, _, hx, hl, hsz, hf⟩ := DataW.trod_struct Try.underlying23 h
  rw [Try.cells23] at hl
  obtain ⟨v0, v1, v2, hc⟩ := list3 hl
  obtain ⟨y0, y1, y2, rfl⟩ := list3 (show xs.length = 3 from hsz)
  rw [hc] at hf
  have f0 : DataW.trod enc Try.prog w base spare held n 3 [v0] = some y0 := by simpa [Try.cells3] using hf 0 _ rfl
  have f1 : DataW.trod enc Try.prog w base spare held n 3 [v1] = some y1 := by simpa [Try.cells3] using hf 1 _ rfl
  have f2 : DataW.trod enc Try.prog w base spare held n 3 [v2] = some y2 := by simpa [Try.cells3] using hf 2 _ rfl
  obtain ⟨x, e0, rfl, _⟩ := DataW.trod_int Try.underlying3 f0
  obtain ⟨y, e1, rfl, _⟩ := DataW.trod_int Try.underlying3 f1
  obtain ⟨s, e2, rfl, _⟩ := DataW.trod_int Try.underlying3 f2
  simp only [List.cons.injEq, and_true] at e0 e1 e2
  refine ⟨x, y, s, ?_⟩
  rw [e0, e1, e2] at hc
  unfold shV
  congr 1
  cases cs
  simpa using hc
end
end Go.Proofs.Ytmjecgdamkkpaaa
