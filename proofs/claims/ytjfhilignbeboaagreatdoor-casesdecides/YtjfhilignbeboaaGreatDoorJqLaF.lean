import Derived.Test.YtjfhilignbeboaaGreatDoorJqAi
import Derived.Test.YtjfhilignbeboaaGreatDoorJqAo
namespace Go.Proofs.YtjfhilignbeboaaGreatDoor
/- Arguments that are a request. -/
open Go.ChangeShapes Go.WideShapes Go.ChangeAt Go.RowKit Go.Deep
section
variable {H : Type} {enc : TypeId × Value → H}
theorem cellsOf22 : Tryz.prog.cellsOf 22 = 1 := by kernel_rfl
theorem cellsOf25 : Tryz.prog.cellsOf 25 = 5 := by kernel_rfl
set_option maxRecDepth 20000 in
theorem open_requestArg {w : World} {base : Nat} {spare : Nat → Bool} {held : Bool} {r : Reach} {b0 : Nat} {v : Value} {d : DataW H} {ps : List MemPlace} (hval : Value.okWide Tryz.prog w r b0 25 v) (hd : DataW.Trod enc Tryz.prog w base spare held 25 v d ps) :
    ∃ q : Rs.Rq, v = Rs.rqV q ∧ q.Ok := by
  obtain ⟨cs, rfl, _⟩ := okWide_struct Tryz.underlying25 hval
  obtain ⟨fuel, h⟩ := hd
  have h : DataW.trod enc Tryz.prog w base spare held fuel 25 cs.toList = some (d, ps) := h
  obtain ⟨xs, n, _, hx, hl, hsz, hf⟩ := DataW.trod_struct Tryz.underlying25 h
  rw [cellsOf25] at hl
  obtain ⟨v0, v1, v2, v3, v4, hc⟩ := listOf5 hl
  obtain ⟨y0, y1, y2, y3, y4, rfl⟩ := listOf5 (show xs.length = 5 from hsz)
  rw [hc] at hf
  have f0 : DataW.trod enc Tryz.prog w base spare held n 22 [v0] = some y0 := by simpa [cellsOf22] using hf 0 _ rfl
  have f1 : DataW.trod enc Tryz.prog w base spare held n 23 [v1] = some y1 := by simpa [cellsOf24] using hf 1 _ rfl
  have f2 : DataW.trod enc Tryz.prog w base spare held n 23 [v2] = some y2 := by simpa [cellsOf24] using hf 2 _ rfl
  have f3 : DataW.trod enc Tryz.prog w base spare held n 3 [v3] = some y3 := by simpa [cellsOf3] using hf 3 _ rfl
  have f4 : DataW.trod enc Tryz.prog w base spare held n 2 [v4] = some y4 := by simpa [cellsOf2] using hf 4 _ rfl
  obtain ⟨a, e0, rfl, wa⟩ := DataW.trod_int Tryz.underlying22 f0
  obtain ⟨b, e1, rfl, wb⟩ := DataW.trod_int Tryz.underlying23 f1
  obtain ⟨c, e2, rfl, wc⟩ := DataW.trod_int Tryz.underlying23 f2
  obtain ⟨e, e3, rfl, we⟩ := DataW.trod_int Tryz.underlying3 f3
  obtain ⟨f, e4, rfl, wf⟩ := DataW.trod_int Tryz.underlying2 f4
  simp only [List.cons.injEq, and_true] at e0 e1 e2 e3 e4
  have ba := bounds_i64 wa
  have bb := bounds_u32 wb
  have bc := bounds_u32 wc
  have be := bounds_i64 we
  have bf := bounds_i64 wf
  refine ⟨⟨a, b, c, e, f⟩, ?_, q_ok ⟨by omega, by omega, by omega, by omega, by omega⟩⟩
  rw [e0, e1, e2, e3, e4] at hc
  unfold Rs.rqV
  congr 1
  cases cs
  simpa using hc
end
end Go.Proofs.YtjfhilignbeboaaGreatDoor
