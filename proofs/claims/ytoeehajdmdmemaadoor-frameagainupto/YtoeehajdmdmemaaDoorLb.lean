/- An argument that is an epoch and a number, opened. -/
import Derived.Test.YtoeehajdmdmemaaDoorLa
namespace Go.Proofs.YtoeehajdmdmemaaDoor
open Go.ChangeShapes Go.WideShapes Go.ChangeAt Go.RowKit Go.Deep

variable {H : Type} {enc : TypeId × Value → H}
theorem open_whereArg {w : World} {base : Nat} {spare : Nat → Bool} {held : Bool} {r : Reach} {b0 : Nat} {v : Value} {d : DataW H} {ps : List MemPlace} (hval : Value.okWide Tryd.prog w r b0 58 v) (hd : DataW.Trod enc Tryd.prog w base spare held 58 v d ps) :
    ∃ e s : Int, v = .agg #[.int .u64 e, .int .u64 s] ∧ (0 ≤ e ∧ e < 18446744073709551616 ∧ 0 ≤ s ∧ s < 18446744073709551616) := by
  obtain ⟨cs, rfl, _⟩ := okWide_struct Tryd.underlying58 hval
  obtain ⟨fuel, h⟩ := hd
  have h : DataW.trod enc Tryd.prog w base spare held fuel 58 cs.toList = some (d, ps) := h
  obtain ⟨xs, n, _, hx, hl, hsz, hf⟩ := DataW.trod_struct Tryd.underlying58 h
  rw [cells58] at hl
  obtain ⟨v0, v1, hc⟩ := list2 hl
  obtain ⟨y0, y1, rfl⟩ := list2 (show xs.length = 2 from hsz)
  rw [hc] at hf
  have f0 : DataW.trod enc Tryd.prog w base spare held n 22 [v0] = some y0 := by simpa [cells22] using hf 0 _ rfl
  have f1 : DataW.trod enc Tryd.prog w base spare held n 22 [v1] = some y1 := by simpa [cells22] using hf 1 _ rfl
  obtain ⟨e, e0, rfl, we⟩ := DataW.trod_int Tryd.underlying22 f0
  obtain ⟨s, e1, rfl, ws⟩ := DataW.trod_int Tryd.underlying22 f1
  simp only [List.cons.injEq, and_true] at e0 e1
  have be := bounds_u64 we
  have bs := bounds_u64 ws
  refine ⟨e, s, ?_, be.1, by omega, bs.1, by omega⟩
  rw [e0, e1] at hc
  congr 1
  cases cs
  simpa using hc
end Go.Proofs.YtoeehajdmdmemaaDoor
