/- Numbers that came in, opened. -/
import Derived.Test.YtbebblhnhpdpjaaXe
import Derived.Test.YtbebblhnhpdpjaaLa
import Derived.ChangeSlices
import Derived.Deep.Slices
namespace Go.Proofs.Ytbebblhnhpdpjaa
open Go.ChangeShapes Go.WideShapes Go.ChangeAt Go.RowKit Go.Deep

theorem Try.cells3 : Try.prog.cellsOf 3 = 1 := by kernel_rfl
theorem Try.bytes3 : Try.prog.bytesOf 3 = 8 := by kernel_rfl
section
variable {H : Type} {enc : TypeId × Value → H}
theorem open_numbers {w : World} {base fuel : Nat} {spare : Nat → Bool} {held : Bool} {cs : List Value} {x : DataW H × List MemPlace} (h : DataW.trod enc Try.prog w base spare held fuel 30 cs = some x) (hz : ∀ n ∈ x.1.weights Try.prog 30, n ≤ reachBytes) :
    ∃ (ao : Option Addr) (cap : Nat) (xs : List Int), cs = [.slice ao xs.length cap] ∧ ZAt w ao xs.length ∧ True ∧ xs.length ≤ cap ∧ xs.length ≤ 17592186044416 := by
  rcases open_ints Try.underlying30 Try.underlying3 Try.cells3 h with ⟨rfl, rfl⟩ | ⟨a, len, cap, zs, rfl, hb, hl, hm, hlen, rfl, hc, -⟩
  · exact ⟨none, 0, [], rfl, fun j hj => absurd hj (by simp), trivial, by simp, by simp⟩
  · have hlz : len ≤ zs.length := by rw [hlen]; split <;> omega
    have hsz : len * 8 ≤ reachBytes := by
      have := hz (((lits (H := H) .i64 (zs.take len)).length + (lits (H := H) .i64 (zs.drop len)).length) * Try.prog.bytesOf 3) (by simp [DataW.weights, Try.underlying30])
      rw [Try.bytes3] at this
      simp [lits] at this
      omega
    have hlt : (zs.take len).length = len := by rw [List.length_take]; omega
    refine ⟨some a, cap, zs.take len, by rw [hlt], fun j hj => ⟨a, _, rfl, hc j (by omega)⟩, trivial, by omega, by rw [hlt]; unfold reachBytes at hsz; omega⟩
end
end Go.Proofs.Ytbebblhnhpdpjaa
