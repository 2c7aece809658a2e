/-
  DERIVED. GIVEN WITH THE SEED: THE CARDS: each row of YtofdijaipjkfbaaGreatDoorRows.lean that lists a variable, with what it lists TIED to the program's text (the seventh form; the later family's looks); each row that meets fmt, with fmt's text TOLD by the authors' own Lean function (tested against real Go, not proved from fmt's source: count such statements apart). THE CARD IS WHAT COUNTS. Prove the row's statement (the work); the ties are given (YtofdijaipjkfbaaGreatDoorTie.lean); close each card by the builder's one call (the guide's Derived/Test/ToyasCard.lean, 'card_holds'). Laid BY PROGRAM, IN A SANDBOX (cutbox-door.mjs). By AI agents, Wed Nov 11 2026. No macro, syntax, notation, axiom, sorry.
-/
import Derived.Test.YtofdijaipjkfbaaGreatDoorRows
import GoSem.ClaimSeven
namespace Go.Proofs.YtofdijaipjkfbaaGreatDoor
namespace Rows

/-- THE TIED CARD OF 'gangwaylaw10.WalPlays'. -/
def walPlaysCard : Claim7 := { stood := { row := walPlaysRow, standIns := [], harness := (true, "7b598a30a6665df292efb5d5854aa4466fef9bfda1cd740b3bef5ea4e11cc9fb"), looks := false }, kinds := [], alts := [], laidByText := true, laidKinds := [.called], laidTests := true, laidLooks := .later }
def WalPlaysCardSaid : Prop := Claim7.holds Tryz.pinned (.plain (OpenSpec.ofChange walPlaysSpec)) walPlaysCard

/-- THE TIED CARD OF 'gangwaylaw10.WalKept'. -/
def walKeptCard : Claim7 := { stood := { row := walKeptRow, standIns := [], harness := (true, "7b598a30a6665df292efb5d5854aa4466fef9bfda1cd740b3bef5ea4e11cc9fb"), looks := false }, kinds := [], alts := [], laidByText := true, laidKinds := [.called], laidTests := true, laidLooks := .later }
def WalKeptCardSaid : Prop := Claim7.holds Tryz.pinned (.plain (OpenSpec.ofChange walKeptSpec)) walKeptCard

/-- THE TIED CARD OF 'gangwaylaw10.WalSpares'. -/
def walSparesCard : Claim7 := { stood := { row := walSparesRow, standIns := [], harness := (true, "7b598a30a6665df292efb5d5854aa4466fef9bfda1cd740b3bef5ea4e11cc9fb"), looks := false }, kinds := [], alts := [], laidByText := true, laidKinds := [.called], laidTests := true, laidLooks := .later }
def WalSparesCardSaid : Prop := Claim7.holds Tryz.pinned (.plain (OpenSpec.ofChange walSparesSpec)) walSparesCard

/-- THE SECOND FORM's CARD OF 'gangwaylaw10.WalPlays'. -/
def walPlaysUptoCard : Claim7 := { stood := { row := walPlaysUptoRow, standIns := [], harness := (true, "7b598a30a6665df292efb5d5854aa4466fef9bfda1cd740b3bef5ea4e11cc9fb"), looks := false }, kinds := [], alts := [], laidByText := true, laidKinds := [.called], laidTests := true, laidLooks := .later }
def WalPlaysUptoCardSaid : Prop := Claim7.holds Tryz.pinned (.plain (OpenSpec.upto walPlaysSpec)) walPlaysUptoCard

/-- THE SECOND FORM's CARD OF 'gangwaylaw10.WalKept'. -/
def walKeptUptoCard : Claim7 := { stood := { row := walKeptUptoRow, standIns := [], harness := (true, "7b598a30a6665df292efb5d5854aa4466fef9bfda1cd740b3bef5ea4e11cc9fb"), looks := false }, kinds := [], alts := [], laidByText := true, laidKinds := [.called], laidTests := true, laidLooks := .later }
def WalKeptUptoCardSaid : Prop := Claim7.holds Tryz.pinned (.plain (OpenSpec.upto walKeptSpec)) walKeptUptoCard

/-- THE SECOND FORM's CARD OF 'gangwaylaw10.WalSpares'. -/
def walSparesUptoCard : Claim7 := { stood := { row := walSparesUptoRow, standIns := [], harness := (true, "7b598a30a6665df292efb5d5854aa4466fef9bfda1cd740b3bef5ea4e11cc9fb"), looks := false }, kinds := [], alts := [], laidByText := true, laidKinds := [.called], laidTests := true, laidLooks := .later }
def WalSparesUptoCardSaid : Prop := Claim7.holds Tryz.pinned (.plain (OpenSpec.upto walSparesSpec)) walSparesUptoCard
end Rows
end Go.Proofs.YtofdijaipjkfbaaGreatDoor
