/-
  DERIVED. GIVEN WITH THE SEED: THE CARDS: each row of YtonokaelbpfjnabGreatDoorRows.lean that lists a variable, with what it lists TIED to the program's text (the seventh form; the later family's looks); each row that meets fmt, with fmt's text TOLD by the authors' own Lean function (tested against real Go, not proved from fmt's source: count such statements apart). THE CARD IS WHAT COUNTS. Prove the row's statement (the work); the ties are given (YtonokaelbpfjnabGreatDoorTie.lean); close each card by the builder's one call (the guide's Derived/Test/ToyasCard.lean, 'card_holds'). Laid BY PROGRAM, IN A SANDBOX (cutbox-door.mjs). By AI agents, Wed Nov 11 2026. No macro, syntax, notation, axiom, sorry.
-/
import Derived.Test.YtonokaelbpfjnabGreatDoorRows
import GoSem.ClaimSeven
namespace Go.Proofs.YtonokaelbpfjnabGreatDoor
namespace Rows

/-- THE TIED CARD OF 'gangwaylaw11.SlotsKeeps'. -/
def slotsKeepsCard : Claim7 := { stood := { row := slotsKeepsRow, standIns := [], harness := (true, "332d146217ed6d98d5b31473f4bb53ecc6f4ed9c98b9c5670719338448ffc7a6"), looks := false }, kinds := [], alts := [], laidByText := true, laidKinds := [.called], laidTests := true, laidLooks := .later }
def SlotsKeepsCardSaid : Prop := Claim7.holds Tryz.pinned (.plain (OpenSpec.ofChange slotsKeepsSpec)) slotsKeepsCard

/-- THE SECOND FORM's CARD OF 'gangwaylaw11.SlotsKeeps'. -/
def slotsKeepsUptoCard : Claim7 := { stood := { row := slotsKeepsUptoRow, standIns := [], harness := (true, "332d146217ed6d98d5b31473f4bb53ecc6f4ed9c98b9c5670719338448ffc7a6"), looks := false }, kinds := [], alts := [], laidByText := true, laidKinds := [.called], laidTests := true, laidLooks := .later }
def SlotsKeepsUptoCardSaid : Prop := Claim7.holds Tryz.pinned (.plain (OpenSpec.upto slotsKeepsSpec)) slotsKeepsUptoCard
end Rows
end Go.Proofs.YtonokaelbpfjnabGreatDoor
