/-
  DERIVED. GIVEN WITH THE SEED: THE CARDS: each row of YtnjcajcjdfhinabDoorRows.lean that lists a variable, with what it lists TIED to the program's text (the seventh form; the later family's looks); each row that meets fmt, with fmt's text TOLD by the authors' own Lean function (tested against real Go, not proved from fmt's source: count such statements apart). THE CARD IS WHAT COUNTS. Prove the row's statement (the work); the ties are given (YtnjcajcjdfhinabDoorTie.lean); close each card by the builder's one call (the guide's Derived/Test/ToyasCard.lean, 'card_holds'). Laid BY PROGRAM, IN A SANDBOX (cutbox-door.mjs). By AI agents, Wed Nov 11 2026. No macro, syntax, notation, axiom, sorry.
-/
import Derived.Test.YtnjcajcjdfhinabDoorRows
import GoSem.ClaimSeven
namespace Go.Proofs.YtnjcajcjdfhinabDoor
namespace Rows

/-- THE TIED CARD OF 'gangwaylaw15.CodesSlips'. -/
def codesSlipsCard : Claim7 := { stood := { row := codesSlipsRow, standIns := [], harness := (true, "60ff83125de095c355f9278515784cdbdb508639be2119dcfe76f8c654b1d3de"), looks := false }, kinds := [], alts := [], laidByText := true, laidKinds := [.called], laidTests := true, laidLooks := .later }
def CodesSlipsCardSaid : Prop := Claim7.holds Tryd.pinned (.plain (OpenSpec.ofChange codesSlipsSpec)) codesSlipsCard

/-- THE SECOND FORM's CARD OF 'gangwaylaw15.CodesSlips'. -/
def codesSlipsUptoCard : Claim7 := { stood := { row := codesSlipsUptoRow, standIns := [], harness := (true, "60ff83125de095c355f9278515784cdbdb508639be2119dcfe76f8c654b1d3de"), looks := false }, kinds := [], alts := [], laidByText := true, laidKinds := [.called], laidTests := true, laidLooks := .later }
def CodesSlipsUptoCardSaid : Prop := Claim7.holds Tryd.pinned (.plain (OpenSpec.upto codesSlipsSpec)) codesSlipsUptoCard
end Rows
end Go.Proofs.YtnjcajcjdfhinabDoor
