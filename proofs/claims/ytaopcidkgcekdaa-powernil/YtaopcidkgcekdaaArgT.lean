/- A Tear that came in, opened. -/
import Derived.Test.YtaopcidkgcekdaaChecked
import Derived.ProofKit
import Derived.OpenShut
import Derived.ChangeOld
import Derived.ChangeMaps5
import Derived.SizedLaws
import Derived.Deep.Slices
namespace Go.Proofs.Ytaopcidkgcekdaa
open Go.ChangeShapes Go.WideShapes Go.ChangeAt Go.RowKit Go.Deep

theorem Try.cells3 : Try.prog.cellsOf 3 = 1 := by kernel_rfl
theorem Try.cells67 : Try.prog.cellsOf 64 = 1 := by kernel_rfl
theorem Try.cells69 : Try.prog.cellsOf 66 = 2 := by kernel_rfl
theorem list1 {α : Type} {l : List α} (h : l.length = 1) : ∃ a, l = [a] := by
  match l, h with
  | [a], _ => exact ⟨a, rfl⟩
theorem list2 {α : Type} {l : List α} (h : l.length = 2) : ∃ a b, l = [a, b] := by
  match l, h with
  | [a, b], _ => exact ⟨a, b, rfl⟩
theorem list4 {α : Type} {l : List α} (h : l.length = 4) : ∃ a b c d, l = [a, b, c, d] := by
  match l, h with
  | [a, b, c, d], _ => exact ⟨a, b, c, d, rfl⟩
theorem list5 {α : Type} {l : List α} (h : l.length = 5) : ∃ a b c d e, l = [a, b, c, d, e] := by
  match l, h with
  | [a, b, c, d, e], _ => exact ⟨a, b, c, d, e, rfl⟩
section
variable {H : Type} {enc : TypeId × Value → H}
/-- A fate's two numbers. -/
theorem open_fate {w : World} {base fuel : Nat} {spare : Nat → Bool} {held : Bool} {cs : List Value} {x : DataW H × List MemPlace} (h : DataW.trod enc Try.prog w base spare held fuel 66 cs = some x) :
    ∃ K A : Int, cs = [.int .i64 K, .int .i64 A] := by
  obtain ⟨xs, n, _, rfl, hl, hsz, hf⟩ := DataW.trod_struct Try.underlying66 h
  rw [Try.cells69] at hl
  obtain ⟨v0, v1, rfl⟩ := list2 hl
  obtain ⟨y0, y1, rfl⟩ := list2 (show xs.length = 2 from hsz)
  have f0 : DataW.trod enc Try.prog w base spare held n 64 [v0] = some y0 := by simpa [Try.cells67] using hf 0 _ rfl
  have f1 : DataW.trod enc Try.prog w base spare held n 3 [v1] = some y1 := by simpa [Try.cells3] using hf 1 _ rfl
  obtain ⟨k, e0, rfl, wk⟩ := DataW.trod_int Try.underlying64 f0
  obtain ⟨N, e1, rfl, wN⟩ := DataW.trod_int Try.underlying3 f1
  simp only [List.cons.injEq, and_true] at e0 e1
  exact ⟨k, N, by rw [e0, e1]⟩
end
end Go.Proofs.Ytaopcidkgcekdaa
