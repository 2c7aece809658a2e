/-
  DERIVED. GIVEN WITH THE SEED: THE CARDS: each row of YtomoclicbjkpoabDoorRows.lean that lists a variable, with what it lists TIED to the program's text (the seventh form; the later family's looks); each row that meets fmt, with fmt's text TOLD by the authors' own Lean function (tested against real Go, not proved from fmt's source: count such statements apart). THE CARD IS WHAT COUNTS. Prove the row's statement (the work); the ties are given (YtomoclicbjkpoabDoorTie.lean); close each card by the builder's one call (the guide's Derived/Test/ToyasCard.lean, 'card_holds'). Laid BY PROGRAM, IN A SANDBOX (cutbox-door.mjs). By AI agents, Wed Nov 11 2026. No macro, syntax, notation, axiom, sorry.
-/
import Derived.Test.YtomoclicbjkpoabDoorRows
import GoSem.ClaimSeven
namespace Go.Proofs.YtomoclicbjkpoabDoor
namespace Rows

/-- THE TIED CARD OF 'gangwaylaw14.CabinKeeps'. -/
def cabinKeepsCard : Claim7 := { stood := { row := cabinKeepsRow, standIns := [], harness := (true, "3a20b8f1f4e1310b9fd78cf0e3c76df559c9abe00133afc6a102a13a9062628a"), looks := true }, kinds := [], alts := [], laidByText := true, laidKinds := [.data, .data, .data, .sentinel, .sentinel], laidTests := true, laidLooks := .later }
def CabinKeepsCardSaid : Prop := Claim7.holds Tryd.pinned (.plain (OpenSpec.ofChange cabinKeepsSpec)) cabinKeepsCard

/-- THE SECOND FORM's CARD OF 'gangwaylaw14.CabinKeeps'. -/
def cabinKeepsUptoCard : Claim7 := { stood := { row := cabinKeepsUptoRow, standIns := [], harness := (true, "3a20b8f1f4e1310b9fd78cf0e3c76df559c9abe00133afc6a102a13a9062628a"), looks := true }, kinds := [], alts := [], laidByText := true, laidKinds := [.data, .data, .data, .sentinel, .sentinel], laidTests := true, laidLooks := .later }
def CabinKeepsUptoCardSaid : Prop := Claim7.holds Tryd.pinned (.plain (OpenSpec.upto cabinKeepsSpec)) cabinKeepsUptoCard
end Rows
end Go.Proofs.YtomoclicbjkpoabDoor
