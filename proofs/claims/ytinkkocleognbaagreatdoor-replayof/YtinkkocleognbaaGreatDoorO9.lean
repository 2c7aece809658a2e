/- Arguments that are a shape, a row of records. -/
import Derived.Test.YtinkkocleognbaaGreatDoorO8
namespace Go.Proofs.YtinkkocleognbaaGreatDoor
open Go.ChangeShapes Go.WideShapes Go.ChangeAt Go.RowKit Go.Deep
theorem ck23 : Tryz.prog.cellsOf 23 = 3 := by kernel_rfl
theorem lst3 {α : Type} {l : List α} (h : l.length = 3) : ∃ a b c, l = [a, b, c] := by
  match l, h with
  | [a, b, c], _ => exact ⟨a, b, c, rfl⟩
variable {H : Type} {enc : TypeId × Value → H}
set_option maxRecDepth 20000 in
theorem open_shapeA {w : World} {base : Nat} {spare : Nat → Bool} {held : Bool} {r : Reach} {b0 : Nat} {v : Value} {d : DataW H} {ps : List MemPlace} (hval : Value.okWide Tryz.prog w r b0 23 v) (hd : DataW.Trod enc Tryz.prog w base spare held 23 v d ps) :
    ∃ a b c : Int, v = .agg #[.int .i64 a, .int .i64 b, .int .i64 c] := by
  obtain ⟨cs, rfl, _⟩ := okWide_struct Tryz.underlying23 hval
  obtain ⟨fuel, h⟩ := hd
  have h : DataW.trod enc Tryz.prog w base spare held fuel 23 cs.toList = some (d, ps) := h
  obtain ⟨xs, n, _, hx, hl, hsz, hf⟩ := DataW.trod_struct Tryz.underlying23 h
  rw [ck23] at hl
  obtain ⟨v0, v1, v2, hc⟩ := lst3 hl
  obtain ⟨y0, y1, y2, rfl⟩ := lst3 (show xs.length = 3 from hsz)
  rw [hc] at hf
  have f0 : DataW.trod enc Tryz.prog w base spare held n 3 [v0] = some y0 := by simpa [cellsOf3] using hf 0 _ rfl
  have f1 : DataW.trod enc Tryz.prog w base spare held n 3 [v1] = some y1 := by simpa [cellsOf3] using hf 1 _ rfl
  have f2 : DataW.trod enc Tryz.prog w base spare held n 3 [v2] = some y2 := by simpa [cellsOf3] using hf 2 _ rfl
  obtain ⟨a, e0, rfl, _⟩ := DataW.trod_int Tryz.underlying3 f0
  obtain ⟨b, e1, rfl, _⟩ := DataW.trod_int Tryz.underlying3 f1
  obtain ⟨c, e2, rfl, _⟩ := DataW.trod_int Tryz.underlying3 f2
  simp only [List.cons.injEq, and_true] at e0 e1 e2
  refine ⟨a, b, c, ?_⟩
  rw [e0, e1, e2] at hc
  congr 1
  cases cs
  simpa using hc
set_option maxRecDepth 100000 in
theorem open_recsA {w : World} {r : Reach} {b0 : Nat} {v : Value} {d : DataW H} {p0 : List MemPlace} (hval : Value.okWide Tryz.prog w r b0 48 v) (h0 : DataW.Trod enc Tryz.prog w 0 (fun _ => true) true 48 v d p0) :
    ∃ (ao : Option Addr) (len cap : Nat) (os : List Rc), v = .slice ao len cap ∧ os.length = len ∧ RecsAt w ao os ∧ (∀ o ∈ os, o.Ok) ∧ len ≤ cap ∧ (ao = none → len = 0 ∧ cap = 0) := by
  obtain ⟨ao, len0, cap0, rfl⟩ := okWide_slice Tryz.underlying48 hval
  obtain ⟨fuel, hf⟩ := h0
  rcases open_slice Tryz.underlying48 hf with ⟨hcs, _⟩ | ⟨a, len, cap, m, n, D, Pl, hcs, _, hl, hm, hmm, hx, hel⟩
  · simp [Value.cells] at hcs
    obtain ⟨rfl, rfl, rfl⟩ := hcs
    exact ⟨none, 0, 0, [], rfl, rfl, (fun j o h => by simp at h), (fun o ho => by simp at ho), Nat.le_refl _, fun _ => ⟨rfl, rfl⟩⟩
  · simp [Value.cells] at hcs
    obtain ⟨rfl, rfl, rfl⟩ := hcs
    have hlm : len0 ≤ m := by rw [hmm]; split <;> omega
    rw [cellsOf46] at hel
    obtain ⟨os, h1, h2, h3⟩ := open_recsB (len := len0) (fun i hi => hel i (by omega))
    exact ⟨_, len0, cap0, os, rfl, h1, h2, h3, hl, fun e => by cases e⟩
end Go.Proofs.YtinkkocleognbaaGreatDoor
