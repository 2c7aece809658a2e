/- A Tear that came in, opened. -/
import Derived.Test.YtgcfjphjekkkmaaChecked
import Derived.ProofKit
import Derived.OpenShut
import Derived.ChangeOld
import Derived.ChangeMaps5
import Derived.SizedLaws
import Derived.Deep.Slices
namespace Go.Proofs.Ytgcfjphjekkkmaa
open Go.ChangeShapes Go.WideShapes Go.ChangeAt Go.RowKit Go.Deep

theorem Try.cells3 : Try.prog.cellsOf 3 = 1 := by kernel_rfl
theorem Try.cells67 : Try.prog.cellsOf 67 = 1 := by kernel_rfl
theorem Try.cells69 : Try.prog.cellsOf 69 = 2 := by kernel_rfl
theorem Try.cells74 : Try.prog.cellsOf 74 = 5 := by kernel_rfl
theorem list1 {α : Type} {l : List α} (h : l.length = 1) : ∃ a, l = [a] := by
  match l, h with
  | [a], _ => exact ⟨a, rfl⟩
theorem list2 {α : Type} {l : List α} (h : l.length = 2) : ∃ a b, l = [a, b] := by
  match l, h with
  | [a, b], _ => exact ⟨a, b, rfl⟩
theorem list4 {α : Type} {l : List α} (h : l.length = 4) : ∃ a b c d, l = [a, b, c, d] := by
  match l, h with
  | [a, b, c, d], _ => exact ⟨a, b, c, d, rfl⟩
theorem list5 {α : Type} {l : List α} (h : l.length = 5) : ∃ a b c d e, l = [a, b, c, d, e] := by
  match l, h with
  | [a, b, c, d, e], _ => exact ⟨a, b, c, d, e, rfl⟩
section
variable {H : Type} {enc : TypeId × Value → H}
/-- A fate's two numbers. -/
theorem open_fate {w : World} {base fuel : Nat} {spare : Nat → Bool} {held : Bool} {cs : List Value} {x : DataW H × List MemPlace} (h : DataW.trod enc Try.prog w base spare held fuel 69 cs = some x) :
    ∃ K A : Int, cs = [.int .i64 K, .int .i64 A] := by
  obtain ⟨xs, n, _, rfl, hl, hsz, hf⟩ := DataW.trod_struct Try.underlying69 h
  rw [Try.cells69] at hl
  obtain ⟨v0, v1, rfl⟩ := list2 hl
  obtain ⟨y0, y1, rfl⟩ := list2 (show xs.length = 2 from hsz)
  have f0 : DataW.trod enc Try.prog w base spare held n 67 [v0] = some y0 := by simpa [Try.cells67] using hf 0 _ rfl
  have f1 : DataW.trod enc Try.prog w base spare held n 3 [v1] = some y1 := by simpa [Try.cells3] using hf 1 _ rfl
  obtain ⟨k, e0, rfl, wk⟩ := DataW.trod_int Try.underlying67 f0
  obtain ⟨N, e1, rfl, wN⟩ := DataW.trod_int Try.underlying3 f1
  simp only [List.cons.injEq, and_true] at e0 e1
  exact ⟨k, N, by rw [e0, e1]⟩
set_option maxRecDepth 100000 in
theorem open_tear {w : World} {base : Nat} {r : Reach} {b0 : Nat} {spare : Nat → Bool} {held : Bool} {v : Value} {d : DataW H} {ps : List MemPlace} (hval : Value.okWide Try.prog w r b0 74 v) (hd : DataW.Trod enc Try.prog w base spare held 74 v d ps) :
    ∃ x y s K A : Int, v = .agg #[.int .i64 x, .int .i64 y, .int .i64 s, .int .i64 K, .int .i64 A] := by
  obtain ⟨cs, rfl, _⟩ := okWide_struct Try.underlying74 hval
  obtain ⟨fuel, h⟩ := hd
  have h : DataW.trod enc Try.prog w base spare held fuel 74 cs.toList = some (d, ps) := h
  obtain ⟨xs, n, _, hx, hl, hsz, hf⟩ := DataW.trod_struct Try.underlying74 h
  rw [Try.cells74] at hl
  obtain ⟨v0, v1, v2, v3, v4, hc⟩ := list5 hl
  obtain ⟨y0, y1, y2, y3, rfl⟩ := list4 (show xs.length = 4 from hsz)
  rw [hc] at hf
  have f0 : DataW.trod enc Try.prog w base spare held n 3 [v0] = some y0 := by simpa [Try.cells3] using hf 0 _ rfl
  have f1 : DataW.trod enc Try.prog w base spare held n 3 [v1] = some y1 := by simpa [Try.cells3] using hf 1 _ rfl
  have f2 : DataW.trod enc Try.prog w base spare held n 3 [v2] = some y2 := by simpa [Try.cells3] using hf 2 _ rfl
  have f3 : DataW.trod enc Try.prog w base spare held n 69 [v3, v4] = some y3 := by simpa [Try.cells69] using hf 3 _ rfl
  obtain ⟨x, e0, rfl, _⟩ := DataW.trod_int Try.underlying3 f0
  obtain ⟨y, e1, rfl, _⟩ := DataW.trod_int Try.underlying3 f1
  obtain ⟨s, e2, rfl, _⟩ := DataW.trod_int Try.underlying3 f2
  obtain ⟨K, A, e3⟩ := open_fate f3
  simp only [List.cons.injEq, and_true] at e0 e1 e2 e3
  refine ⟨x, y, s, K, A, ?_⟩
  rw [e0, e1, e2, e3.1, e3.2] at hc
  congr 1
  cases cs
  simpa using hc
end
end Go.Proofs.Ytgcfjphjekkkmaa
