/-
  DERIVED. GIVEN WITH THE SEED: THE CARDS: each row of YtinkkocleognbaaGreatDoorRows.lean that lists a variable, with what it lists TIED to the program's text (the seventh form; the later family's looks); each row that meets fmt, with fmt's text TOLD by the authors' own Lean function (tested against real Go, not proved from fmt's source: count such statements apart). THE CARD IS WHAT COUNTS. Prove the row's statement (the work); the ties are given (YtinkkocleognbaaGreatDoorTie.lean); close each card by the builder's one call (the guide's Derived/Test/ToyasCard.lean, 'card_holds'). Laid BY PROGRAM, IN A SANDBOX (cutbox-door.mjs). By AI agents, Wed Nov 11 2026. No macro, syntax, notation, axiom, sorry.
-/
import Derived.Test.YtinkkocleognbaaGreatDoorRows
import GoSem.ClaimSeven
namespace Go.Proofs.YtinkkocleognbaaGreatDoor
namespace Rows

/-- THE TIED CARD OF 'gangwaylaw19.ReplayNumbers'. -/
def replayNumbersCard : Claim7 := { stood := { row := replayNumbersRow, standIns := [], harness := (true, "548951992ae599e17d06e9cc74cde31df2e7d1243d90436f88a409814676d2fa"), looks := false }, kinds := [], alts := [], laidByText := true, laidKinds := [.data], laidTests := true, laidLooks := .later }
def ReplayNumbersCardSaid : Prop := Claim7.holds Tryz.pinned (.plain (OpenSpec.ofChange replayNumbersSpec)) replayNumbersCard

/-- THE TIED CARD OF 'gangwaylaw19.ReplayOf'. -/
def replayOfCard : Claim7 := { stood := { row := replayOfRow, standIns := [], harness := (true, "548951992ae599e17d06e9cc74cde31df2e7d1243d90436f88a409814676d2fa"), looks := false }, kinds := [], alts := [], laidByText := true, laidKinds := [.data], laidTests := true, laidLooks := .later }
def ReplayOfCardSaid : Prop := Claim7.holds Tryz.pinned (.plain (OpenSpec.ofChange replayOfSpec)) replayOfCard

/-- THE TIED CARD OF 'gangwaylaw19.ReplayHistories'. -/
def replayHistoriesCard : Claim7 := { stood := { row := replayHistoriesRow, standIns := [], harness := (true, "548951992ae599e17d06e9cc74cde31df2e7d1243d90436f88a409814676d2fa"), looks := false }, kinds := [], alts := [], laidByText := true, laidKinds := [.data], laidTests := true, laidLooks := .later }
def ReplayHistoriesCardSaid : Prop := Claim7.holds Tryz.pinned (.plain (OpenSpec.ofChange replayHistoriesSpec)) replayHistoriesCard

/-- THE TIED CARD OF 'gangwaylaw19.ReplayRuns'. -/
def replayRunsCard : Claim7 := { stood := { row := replayRunsRow, standIns := [], harness := (true, "548951992ae599e17d06e9cc74cde31df2e7d1243d90436f88a409814676d2fa"), looks := false }, kinds := [], alts := [], laidByText := true, laidKinds := [.data], laidTests := true, laidLooks := .later }
def ReplayRunsCardSaid : Prop := Claim7.holds Tryz.pinned (.plain (OpenSpec.ofChange replayRunsSpec)) replayRunsCard

/-- THE TIED CARD OF 'gangwaylaw19.ReplayParts'. -/
def replayPartsCard : Claim7 := { stood := { row := replayPartsRow, standIns := [], harness := (true, "548951992ae599e17d06e9cc74cde31df2e7d1243d90436f88a409814676d2fa"), looks := false }, kinds := [], alts := [], laidByText := true, laidKinds := [.data], laidTests := true, laidLooks := .later }
def ReplayPartsCardSaid : Prop := Claim7.holds Tryz.pinned (.plain (OpenSpec.ofChange replayPartsSpec)) replayPartsCard

/-- THE TIED CARD OF 'gangwaylaw19.ReplayFinds'. -/
def replayFindsCard : Claim7 := { stood := { row := replayFindsRow, standIns := [], harness := (true, "548951992ae599e17d06e9cc74cde31df2e7d1243d90436f88a409814676d2fa"), looks := false }, kinds := [], alts := [], laidByText := true, laidKinds := [.data], laidTests := true, laidLooks := .later }
def ReplayFindsCardSaid : Prop := Claim7.holds Tryz.pinned (.plain (OpenSpec.ofChange replayFindsSpec)) replayFindsCard

/-- THE SECOND FORM's CARD OF 'gangwaylaw19.ReplayNumbers'. -/
def replayNumbersUptoCard : Claim7 := { stood := { row := replayNumbersUptoRow, standIns := [], harness := (true, "548951992ae599e17d06e9cc74cde31df2e7d1243d90436f88a409814676d2fa"), looks := false }, kinds := [], alts := [], laidByText := true, laidKinds := [.data], laidTests := true, laidLooks := .later }
def ReplayNumbersUptoCardSaid : Prop := Claim7.holds Tryz.pinned (.plain (OpenSpec.upto replayNumbersSpec)) replayNumbersUptoCard

/-- THE SECOND FORM's CARD OF 'gangwaylaw19.ReplayOf'. -/
def replayOfUptoCard : Claim7 := { stood := { row := replayOfUptoRow, standIns := [], harness := (true, "548951992ae599e17d06e9cc74cde31df2e7d1243d90436f88a409814676d2fa"), looks := false }, kinds := [], alts := [], laidByText := true, laidKinds := [.data], laidTests := true, laidLooks := .later }
def ReplayOfUptoCardSaid : Prop := Claim7.holds Tryz.pinned (.plain (OpenSpec.upto replayOfSpec)) replayOfUptoCard

/-- THE SECOND FORM's CARD OF 'gangwaylaw19.ReplayHistories'. -/
def replayHistoriesUptoCard : Claim7 := { stood := { row := replayHistoriesUptoRow, standIns := [], harness := (true, "548951992ae599e17d06e9cc74cde31df2e7d1243d90436f88a409814676d2fa"), looks := false }, kinds := [], alts := [], laidByText := true, laidKinds := [.data], laidTests := true, laidLooks := .later }
def ReplayHistoriesUptoCardSaid : Prop := Claim7.holds Tryz.pinned (.plain (OpenSpec.upto replayHistoriesSpec)) replayHistoriesUptoCard

/-- THE SECOND FORM's CARD OF 'gangwaylaw19.ReplayRuns'. -/
def replayRunsUptoCard : Claim7 := { stood := { row := replayRunsUptoRow, standIns := [], harness := (true, "548951992ae599e17d06e9cc74cde31df2e7d1243d90436f88a409814676d2fa"), looks := false }, kinds := [], alts := [], laidByText := true, laidKinds := [.data], laidTests := true, laidLooks := .later }
def ReplayRunsUptoCardSaid : Prop := Claim7.holds Tryz.pinned (.plain (OpenSpec.upto replayRunsSpec)) replayRunsUptoCard

/-- THE SECOND FORM's CARD OF 'gangwaylaw19.ReplayParts'. -/
def replayPartsUptoCard : Claim7 := { stood := { row := replayPartsUptoRow, standIns := [], harness := (true, "548951992ae599e17d06e9cc74cde31df2e7d1243d90436f88a409814676d2fa"), looks := false }, kinds := [], alts := [], laidByText := true, laidKinds := [.data], laidTests := true, laidLooks := .later }
def ReplayPartsUptoCardSaid : Prop := Claim7.holds Tryz.pinned (.plain (OpenSpec.upto replayPartsSpec)) replayPartsUptoCard

/-- THE SECOND FORM's CARD OF 'gangwaylaw19.ReplayFinds'. -/
def replayFindsUptoCard : Claim7 := { stood := { row := replayFindsUptoRow, standIns := [], harness := (true, "548951992ae599e17d06e9cc74cde31df2e7d1243d90436f88a409814676d2fa"), looks := false }, kinds := [], alts := [], laidByText := true, laidKinds := [.data], laidTests := true, laidLooks := .later }
def ReplayFindsUptoCardSaid : Prop := Claim7.holds Tryz.pinned (.plain (OpenSpec.upto replayFindsSpec)) replayFindsUptoCard
end Rows
end Go.Proofs.YtinkkocleognbaaGreatDoor
