/-
  DERIVED. GIVEN WITH THE SEED: THE CARDS: each row of YtomoclicbjkpoaaDoorRows.lean that lists a variable, with what it lists TIED to the program's text (the seventh form; the later family's looks); each row that meets fmt, with fmt's text TOLD by the authors' own Lean function (tested against real Go, not proved from fmt's source: count such statements apart). THE CARD IS WHAT COUNTS. Prove the row's statement (the work); the ties are given (YtomoclicbjkpoaaDoorTie.lean); close each card by the builder's one call (the guide's Derived/Test/ToyasCard.lean, 'card_holds'). Laid BY PROGRAM, IN A SANDBOX (cutbox-door.mjs). By AI agents, Wed Nov 11 2026. No macro, syntax, notation, axiom, sorry.
-/
import Derived.Test.YtomoclicbjkpoaaDoorRows
import GoSem.ClaimSeven
namespace Go.Proofs.YtomoclicbjkpoaaDoor
namespace Rows

/-- THE TIED CARD OF 'gangwaylaw14.CabinChecks'. -/
def cabinChecksCard : Claim7 := { stood := { row := cabinChecksRow, standIns := [], harness := (true, "e20dd5d40c84f4eaa5744ad2f67c50c258a254c835f5ee34646a8ef3e19073db"), looks := true }, kinds := [], alts := [], laidByText := true, laidKinds := [.data, .data, .data, .sentinel, .sentinel], laidTests := true, laidLooks := .later }
def CabinChecksCardSaid : Prop := Claim7.holds Tryd.pinned (.plain (OpenSpec.ofChange cabinChecksSpec)) cabinChecksCard

/-- THE TIED CARD OF 'gangwaylaw14.CabinSeats'. -/
def cabinSeatsCard : Claim7 := { stood := { row := cabinSeatsRow, standIns := [], harness := (true, "e20dd5d40c84f4eaa5744ad2f67c50c258a254c835f5ee34646a8ef3e19073db"), looks := true }, kinds := [], alts := [], laidByText := true, laidKinds := [.data, .data, .data, .sentinel, .sentinel], laidTests := true, laidLooks := .later }
def CabinSeatsCardSaid : Prop := Claim7.holds Tryd.pinned (.plain (OpenSpec.ofChange cabinSeatsSpec)) cabinSeatsCard

/-- THE TIED CARD OF 'gangwaylaw14.CabinParses'. -/
def cabinParsesCard : Claim7 := { stood := { row := cabinParsesRow, standIns := [], harness := (true, "e20dd5d40c84f4eaa5744ad2f67c50c258a254c835f5ee34646a8ef3e19073db"), looks := true }, kinds := [], alts := [], laidByText := true, laidKinds := [.data, .data, .data, .sentinel, .sentinel], laidTests := true, laidLooks := .later }
def CabinParsesCardSaid : Prop := Claim7.holds Tryd.pinned (.plain (OpenSpec.ofChange cabinParsesSpec)) cabinParsesCard

/-- THE TIED CARD OF 'gangwaylaw14.CabinBack'. -/
def cabinBackCard : Claim7 := { stood := { row := cabinBackRow, standIns := [], harness := (true, "e20dd5d40c84f4eaa5744ad2f67c50c258a254c835f5ee34646a8ef3e19073db"), looks := true }, kinds := [], alts := [], laidByText := true, laidKinds := [.data, .data, .data, .sentinel, .sentinel], laidTests := true, laidLooks := .later }
def CabinBackCardSaid : Prop := Claim7.holds Tryd.pinned (.plain (OpenSpec.ofChange cabinBackSpec)) cabinBackCard

/-- THE TIED CARD OF 'gangwaylaw14.CabinBlocks'. -/
def cabinBlocksCard : Claim7 := { stood := { row := cabinBlocksRow, standIns := [], harness := (true, "e20dd5d40c84f4eaa5744ad2f67c50c258a254c835f5ee34646a8ef3e19073db"), looks := true }, kinds := [], alts := [], laidByText := true, laidKinds := [.data, .data, .data, .sentinel, .sentinel], laidTests := true, laidLooks := .later }
def CabinBlocksCardSaid : Prop := Claim7.holds Tryd.pinned (.plain (OpenSpec.ofChange cabinBlocksSpec)) cabinBlocksCard

/-- THE TIED CARD OF 'gangwaylaw14.CabinFar'. -/
def cabinFarCard : Claim7 := { stood := { row := cabinFarRow, standIns := [], harness := (true, "e20dd5d40c84f4eaa5744ad2f67c50c258a254c835f5ee34646a8ef3e19073db"), looks := true }, kinds := [], alts := [], laidByText := true, laidKinds := [.data, .data, .data, .sentinel, .sentinel], laidTests := true, laidLooks := .later }
def CabinFarCardSaid : Prop := Claim7.holds Tryd.pinned (.plain (OpenSpec.ofChange cabinFarSpec)) cabinFarCard

/-- THE SECOND FORM's CARD OF 'gangwaylaw14.CabinChecks'. -/
def cabinChecksUptoCard : Claim7 := { stood := { row := cabinChecksUptoRow, standIns := [], harness := (true, "e20dd5d40c84f4eaa5744ad2f67c50c258a254c835f5ee34646a8ef3e19073db"), looks := true }, kinds := [], alts := [], laidByText := true, laidKinds := [.data, .data, .data, .sentinel, .sentinel], laidTests := true, laidLooks := .later }
def CabinChecksUptoCardSaid : Prop := Claim7.holds Tryd.pinned (.plain (OpenSpec.upto cabinChecksSpec)) cabinChecksUptoCard

/-- THE SECOND FORM's CARD OF 'gangwaylaw14.CabinSeats'. -/
def cabinSeatsUptoCard : Claim7 := { stood := { row := cabinSeatsUptoRow, standIns := [], harness := (true, "e20dd5d40c84f4eaa5744ad2f67c50c258a254c835f5ee34646a8ef3e19073db"), looks := true }, kinds := [], alts := [], laidByText := true, laidKinds := [.data, .data, .data, .sentinel, .sentinel], laidTests := true, laidLooks := .later }
def CabinSeatsUptoCardSaid : Prop := Claim7.holds Tryd.pinned (.plain (OpenSpec.upto cabinSeatsSpec)) cabinSeatsUptoCard

/-- THE SECOND FORM's CARD OF 'gangwaylaw14.CabinParses'. -/
def cabinParsesUptoCard : Claim7 := { stood := { row := cabinParsesUptoRow, standIns := [], harness := (true, "e20dd5d40c84f4eaa5744ad2f67c50c258a254c835f5ee34646a8ef3e19073db"), looks := true }, kinds := [], alts := [], laidByText := true, laidKinds := [.data, .data, .data, .sentinel, .sentinel], laidTests := true, laidLooks := .later }
def CabinParsesUptoCardSaid : Prop := Claim7.holds Tryd.pinned (.plain (OpenSpec.upto cabinParsesSpec)) cabinParsesUptoCard

/-- THE SECOND FORM's CARD OF 'gangwaylaw14.CabinBack'. -/
def cabinBackUptoCard : Claim7 := { stood := { row := cabinBackUptoRow, standIns := [], harness := (true, "e20dd5d40c84f4eaa5744ad2f67c50c258a254c835f5ee34646a8ef3e19073db"), looks := true }, kinds := [], alts := [], laidByText := true, laidKinds := [.data, .data, .data, .sentinel, .sentinel], laidTests := true, laidLooks := .later }
def CabinBackUptoCardSaid : Prop := Claim7.holds Tryd.pinned (.plain (OpenSpec.upto cabinBackSpec)) cabinBackUptoCard

/-- THE SECOND FORM's CARD OF 'gangwaylaw14.CabinBlocks'. -/
def cabinBlocksUptoCard : Claim7 := { stood := { row := cabinBlocksUptoRow, standIns := [], harness := (true, "e20dd5d40c84f4eaa5744ad2f67c50c258a254c835f5ee34646a8ef3e19073db"), looks := true }, kinds := [], alts := [], laidByText := true, laidKinds := [.data, .data, .data, .sentinel, .sentinel], laidTests := true, laidLooks := .later }
def CabinBlocksUptoCardSaid : Prop := Claim7.holds Tryd.pinned (.plain (OpenSpec.upto cabinBlocksSpec)) cabinBlocksUptoCard

/-- THE SECOND FORM's CARD OF 'gangwaylaw14.CabinFar'. -/
def cabinFarUptoCard : Claim7 := { stood := { row := cabinFarUptoRow, standIns := [], harness := (true, "e20dd5d40c84f4eaa5744ad2f67c50c258a254c835f5ee34646a8ef3e19073db"), looks := true }, kinds := [], alts := [], laidByText := true, laidKinds := [.data, .data, .data, .sentinel, .sentinel], laidTests := true, laidLooks := .later }
def CabinFarUptoCardSaid : Prop := Claim7.holds Tryd.pinned (.plain (OpenSpec.upto cabinFarSpec)) cabinFarUptoCard
end Rows
end Go.Proofs.YtomoclicbjkpoaaDoor
