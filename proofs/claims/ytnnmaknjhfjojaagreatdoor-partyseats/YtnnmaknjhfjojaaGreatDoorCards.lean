/-
  DERIVED. GIVEN WITH THE SEED: THE CARDS: each row of YtnnmaknjhfjojaaGreatDoorRows.lean that lists a variable, with what it lists TIED to the program's text (the seventh form; the later family's looks); each row that meets fmt, with fmt's text TOLD by the authors' own Lean function (tested against real Go, not proved from fmt's source: count such statements apart). THE CARD IS WHAT COUNTS. Prove the row's statement (the work); the ties are given (YtnnmaknjhfjojaaGreatDoorTie.lean); close each card by the builder's one call (the guide's Derived/Test/ToyasCard.lean, 'card_holds'). Laid BY PROGRAM, IN A SANDBOX (cutbox-door.mjs). By AI agents, Wed Nov 11 2026. No macro, syntax, notation, axiom, sorry.
-/
import Derived.Test.YtnnmaknjhfjojaaGreatDoorRows
import GoSem.ClaimSeven
namespace Go.Proofs.YtnnmaknjhfjojaaGreatDoor
namespace Rows

/-- THE TIED CARD OF 'gangwaylaw27.PartyRuns'. -/
def partyRunsCard : Claim7 := { stood := { row := partyRunsRow, standIns := [], harness := (true, "9c6f4eebb5161d320708acd2da5998111279c3be82bbcf3840f8de343ee6bcd0"), looks := false }, kinds := [], alts := [], laidByText := true, laidKinds := [.data], laidTests := true, laidLooks := .later }
def PartyRunsCardSaid : Prop := Claim7.holds Tryz.pinned (.plain (OpenSpec.ofChange partyRunsSpec)) partyRunsCard

/-- THE TIED CARD OF 'gangwaylaw27.PartySeats'. -/
def partySeatsCard : Claim7 := { stood := { row := partySeatsRow, standIns := [], harness := (true, "9c6f4eebb5161d320708acd2da5998111279c3be82bbcf3840f8de343ee6bcd0"), looks := false }, kinds := [], alts := [], laidByText := true, laidKinds := [.data], laidTests := true, laidLooks := .later }
def PartySeatsCardSaid : Prop := Claim7.holds Tryz.pinned (.plain (OpenSpec.ofChange partySeatsSpec)) partySeatsCard

/-- THE SECOND FORM's CARD OF 'gangwaylaw27.PartyRuns'. -/
def partyRunsUptoCard : Claim7 := { stood := { row := partyRunsUptoRow, standIns := [], harness := (true, "9c6f4eebb5161d320708acd2da5998111279c3be82bbcf3840f8de343ee6bcd0"), looks := false }, kinds := [], alts := [], laidByText := true, laidKinds := [.data], laidTests := true, laidLooks := .later }
def PartyRunsUptoCardSaid : Prop := Claim7.holds Tryz.pinned (.plain (OpenSpec.upto partyRunsSpec)) partyRunsUptoCard

/-- THE SECOND FORM's CARD OF 'gangwaylaw27.PartySeats'. -/
def partySeatsUptoCard : Claim7 := { stood := { row := partySeatsUptoRow, standIns := [], harness := (true, "9c6f4eebb5161d320708acd2da5998111279c3be82bbcf3840f8de343ee6bcd0"), looks := false }, kinds := [], alts := [], laidByText := true, laidKinds := [.data], laidTests := true, laidLooks := .later }
def PartySeatsUptoCardSaid : Prop := Claim7.holds Tryz.pinned (.plain (OpenSpec.upto partySeatsSpec)) partySeatsUptoCard
end Rows
end Go.Proofs.YtnnmaknjhfjojaaGreatDoor
