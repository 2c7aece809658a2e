/- A row of numbers that came in, opened. -/
import Derived.Test.YtkbhjdjdjfdikaaTn
import Derived.ProofKit
import Derived.OpenShut
import Derived.ChangeOld
import Derived.ChangeMaps5
import Derived.SizedLaws
import Derived.Deep.Slices
namespace Go.Proofs.Ytkbhjdjdjfdikaa
open Go.ChangeShapes Go.WideShapes Go.ChangeAt Go.RowKit Go.Deep Ap
section
variable {H : Type} {enc : TypeId × Value → H}
theorem open_intsArg {w : World} {a0 : Option Addr} {len0 cap0 : Nat} {d0 : DataW H} {p0 : List MemPlace} (h0 : DataW.Trod enc Try.prog w 0 (fun _ => true) true 54 (Value.slice a0 len0 cap0) d0 p0) :
    ∃ xs : List Int, xs.length = len0 ∧ Th.IntsAt w a0 xs ∧ len0 ≤ cap0 := by
  obtain ⟨fuel, hf⟩ := h0
  rcases open_ints Try.underlying54 Try.underlying3 cells3 hf with ⟨hcs, _⟩ | ⟨a, len, cap, zs, hcs, _, hl, hm, hz, hx, hcell, hwf⟩
  · simp [Value.cells] at hcs
    obtain ⟨rfl, rfl, rfl⟩ := hcs
    exact ⟨[], rfl, (fun j x hx => by simp at hx), by omega⟩
  · simp [Value.cells] at hcs
    obtain ⟨rfl, rfl, rfl⟩ := hcs
    have hzl : len0 ≤ zs.length := by rw [hz]; split <;> omega
    refine ⟨zs.take len0, by simp; omega, ?_, by omega⟩
    intro j x hx
    rw [List.getElem?_take] at hx
    split at hx
    · rename_i hj
      have hj2 : j < zs.length := by omega
      have ha : a = ⟨a.block, a.off, none⟩ := by
        have h1 : w.cell? a = some (.int .i64 (zs.getD 0 0)) := by simpa [Addr.add] using hcell 0 (by omega)
        have h2 : a.spot = none := by
          unfold World.cell? at h1
          split at h1
          · split at h1
            · cases h1
            · rename_i hs; simpa using hs
          · cases h1
        cases a; simp_all
      have hc := hcell j hj2
      rw [ha, Addr.add_lit] at hc
      refine ⟨a.block, a.off, by rw [← ha], ?_⟩
      rw [hc, List.getD_eq_getElem?_getD, hx]
      rfl
    · cases hx
end
end Go.Proofs.Ytkbhjdjdjfdikaa
