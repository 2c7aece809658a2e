/- What the rows' listed table gives; a world for the witnesses: shared by the rows' proofs. -/
import Derived.Test.YtnjcajcjdfhinabDoorCf
import Derived.Test.YtnjcajcjdfhinabDoorCards
import Derived.Test.YtnjcajcjdfhinabDoorTie
import Derived.ProofKit
import Derived.OpenShut
import Derived.Deep.DeepHandedRow
import Derived.Lib.LaidTab
import Derived.ChangeOld
import Derived.ChangeMaps5
import Derived.SizedLaws
namespace Go.Proofs.YtnjcajcjdfhinabDoor
open Go.ChangeShapes Go.WideShapes Go.ChangeAt Go.RowKit Go.Deep

theorem seat_own : ownKnob Tryd.prog.godebug = none := by kernel_rfl
theorem gTab : Tryd.prog.globalNamed "gangway/codes.doubled" = some 0 := by kernel_rfl
theorem gTabType : (Tryd.prog.globals[0]?).map (·.type) = some 41 := by kernel_rfl
theorem cells41 : Tryd.prog.cellsOf 41 = 32 := by kernel_rfl
theorem cells5 : Tryd.prog.cellsOf 5 = 1 := by kernel_rfl
def tabL : List Int := [0, 2, 4, 6, 8, 10, 12, 14, 16, 18, 20, 22, 24, 26, 28, 30, 5, 7, 1, 3, 13, 15, 9, 11, 21, 23, 17, 19, 29, 31, 25, 27]
theorem tabL_at : ∀ j, j < 32 → tabL.getD j 0 = ((Cn.dbl j : Nat) : Int) := by decide
theorem table {W : World} (h : laidMetH Tryd.prog [("gangway/codes.doubled", Rows.laid_gangway_codes_doubled)] W) : Tab W := by
  have ht : Lib.TabIs Tryd.prog W "gangway/codes.doubled" .u8 tabL := Lib.tabIs_of_head (rest := []) gTab gTabType Tryd.underlying41 Tryd.underlying5 cells5 cells41 h
  intro j hj
  rw [← tabL_at j hj]
  exact ht.cell gTab j hj

/-- A world for the witness: the table (block 0) holding what its initialiser lays. -/
noncomputable def laidWorld (os : Os) : World :=
  { World.holding Tryd.prog os ⟨#[], #[], []⟩ with heap := (World.holding Tryd.prog os ⟨#[], #[], []⟩).heap.modify 0 fun
      | .cells _ t frozen => .cells (tabL.map (Value.int .u8)).toArray t frozen
      | o => o }
end Go.Proofs.YtnjcajcjdfhinabDoor
