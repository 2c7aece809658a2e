/-
  DERIVED. GIVEN WITH THE SEED: THE CARDS: each row of YtjfhilignbeboaaGreatDoorRows.lean that lists a variable, with what it lists TIED to the program's text (the seventh form; the later family's looks); each row that meets fmt, with fmt's text TOLD by the authors' own Lean function (tested against real Go, not proved from fmt's source: count such statements apart). THE CARD IS WHAT COUNTS. Prove the row's statement (the work); the ties are given (YtjfhilignbeboaaGreatDoorTie.lean); close each card by the builder's one call (the guide's Derived/Test/ToyasCard.lean, 'card_holds'). Laid BY PROGRAM, IN A SANDBOX (cutbox-door.mjs). By AI agents, Wed Nov 11 2026. No macro, syntax, notation, axiom, sorry.
-/
import Derived.Test.YtjfhilignbeboaaGreatDoorRows
import GoSem.ClaimSeven
namespace Go.Proofs.YtjfhilignbeboaaGreatDoor
namespace Rows

/-- THE TIED CARD OF 'gangwaylaw22.CasesNumbers'. -/
def casesNumbersCard : Claim7 := { stood := { row := casesNumbersRow, standIns := [], harness := (true, "3561393c8d73e7879eca2c2a1490fa0b96d2673ab5a2f1fce54feab20447390b"), looks := false }, kinds := [], alts := [], laidByText := true, laidKinds := [.data], laidTests := true, laidLooks := .later }
def CasesNumbersCardSaid : Prop := Claim7.holds Tryz.pinned (.plain (OpenSpec.ofChange casesNumbersSpec)) casesNumbersCard

/-- THE TIED CARD OF 'gangwaylaw22.CasesDecides'. -/
def casesDecidesCard : Claim7 := { stood := { row := casesDecidesRow, standIns := [], harness := (true, "3561393c8d73e7879eca2c2a1490fa0b96d2673ab5a2f1fce54feab20447390b"), looks := false }, kinds := [], alts := [], laidByText := true, laidKinds := [.data], laidTests := true, laidLooks := .later }
def CasesDecidesCardSaid : Prop := Claim7.holds Tryz.pinned (.plain (OpenSpec.ofChange casesDecidesSpec)) casesDecidesCard

/-- THE TIED CARD OF 'gangwaylaw22.CasesAsks'. -/
def casesAsksCard : Claim7 := { stood := { row := casesAsksRow, standIns := [], harness := (true, "3561393c8d73e7879eca2c2a1490fa0b96d2673ab5a2f1fce54feab20447390b"), looks := false }, kinds := [], alts := [], laidByText := true, laidKinds := [.data], laidTests := true, laidLooks := .later }
def CasesAsksCardSaid : Prop := Claim7.holds Tryz.pinned (.plain (OpenSpec.ofChange casesAsksSpec)) casesAsksCard

/-- THE TIED CARD OF 'gangwaylaw22.CasesReplies'. -/
def casesRepliesCard : Claim7 := { stood := { row := casesRepliesRow, standIns := [], harness := (true, "3561393c8d73e7879eca2c2a1490fa0b96d2673ab5a2f1fce54feab20447390b"), looks := false }, kinds := [], alts := [], laidByText := true, laidKinds := [.data], laidTests := true, laidLooks := .later }
def CasesRepliesCardSaid : Prop := Claim7.holds Tryz.pinned (.plain (OpenSpec.ofChange casesRepliesSpec)) casesRepliesCard

/-- THE TIED CARD OF 'gangwaylaw22.CasesApply'. -/
def casesApplyCard : Claim7 := { stood := { row := casesApplyRow, standIns := [], harness := (true, "3561393c8d73e7879eca2c2a1490fa0b96d2673ab5a2f1fce54feab20447390b"), looks := false }, kinds := [], alts := [], laidByText := true, laidKinds := [.data, .data], laidTests := true, laidLooks := .later }
def CasesApplyCardSaid : Prop := Claim7.holds Tryz.pinned (.plain (OpenSpec.ofChange casesApplySpec)) casesApplyCard

/-- THE TIED CARD OF 'gangwaylaw22.CasesRoom'. -/
def casesRoomCard : Claim7 := { stood := { row := casesRoomRow, standIns := [], harness := (true, "3561393c8d73e7879eca2c2a1490fa0b96d2673ab5a2f1fce54feab20447390b"), looks := false }, kinds := [], alts := [], laidByText := true, laidKinds := [.data], laidTests := true, laidLooks := .later }
def CasesRoomCardSaid : Prop := Claim7.holds Tryz.pinned (.plain (OpenSpec.ofChange casesRoomSpec)) casesRoomCard

/-- THE SECOND FORM's CARD OF 'gangwaylaw22.CasesNumbers'. -/
def casesNumbersUptoCard : Claim7 := { stood := { row := casesNumbersUptoRow, standIns := [], harness := (true, "3561393c8d73e7879eca2c2a1490fa0b96d2673ab5a2f1fce54feab20447390b"), looks := false }, kinds := [], alts := [], laidByText := true, laidKinds := [.data], laidTests := true, laidLooks := .later }
def CasesNumbersUptoCardSaid : Prop := Claim7.holds Tryz.pinned (.plain (OpenSpec.upto casesNumbersSpec)) casesNumbersUptoCard

/-- THE SECOND FORM's CARD OF 'gangwaylaw22.CasesDecides'. -/
def casesDecidesUptoCard : Claim7 := { stood := { row := casesDecidesUptoRow, standIns := [], harness := (true, "3561393c8d73e7879eca2c2a1490fa0b96d2673ab5a2f1fce54feab20447390b"), looks := false }, kinds := [], alts := [], laidByText := true, laidKinds := [.data], laidTests := true, laidLooks := .later }
def CasesDecidesUptoCardSaid : Prop := Claim7.holds Tryz.pinned (.plain (OpenSpec.upto casesDecidesSpec)) casesDecidesUptoCard

/-- THE SECOND FORM's CARD OF 'gangwaylaw22.CasesAsks'. -/
def casesAsksUptoCard : Claim7 := { stood := { row := casesAsksUptoRow, standIns := [], harness := (true, "3561393c8d73e7879eca2c2a1490fa0b96d2673ab5a2f1fce54feab20447390b"), looks := false }, kinds := [], alts := [], laidByText := true, laidKinds := [.data], laidTests := true, laidLooks := .later }
def CasesAsksUptoCardSaid : Prop := Claim7.holds Tryz.pinned (.plain (OpenSpec.upto casesAsksSpec)) casesAsksUptoCard

/-- THE SECOND FORM's CARD OF 'gangwaylaw22.CasesReplies'. -/
def casesRepliesUptoCard : Claim7 := { stood := { row := casesRepliesUptoRow, standIns := [], harness := (true, "3561393c8d73e7879eca2c2a1490fa0b96d2673ab5a2f1fce54feab20447390b"), looks := false }, kinds := [], alts := [], laidByText := true, laidKinds := [.data], laidTests := true, laidLooks := .later }
def CasesRepliesUptoCardSaid : Prop := Claim7.holds Tryz.pinned (.plain (OpenSpec.upto casesRepliesSpec)) casesRepliesUptoCard

/-- THE SECOND FORM's CARD OF 'gangwaylaw22.CasesApply'. -/
def casesApplyUptoCard : Claim7 := { stood := { row := casesApplyUptoRow, standIns := [], harness := (true, "3561393c8d73e7879eca2c2a1490fa0b96d2673ab5a2f1fce54feab20447390b"), looks := false }, kinds := [], alts := [], laidByText := true, laidKinds := [.data, .data], laidTests := true, laidLooks := .later }
def CasesApplyUptoCardSaid : Prop := Claim7.holds Tryz.pinned (.plain (OpenSpec.upto casesApplySpec)) casesApplyUptoCard

/-- THE SECOND FORM's CARD OF 'gangwaylaw22.CasesRoom'. -/
def casesRoomUptoCard : Claim7 := { stood := { row := casesRoomUptoRow, standIns := [], harness := (true, "3561393c8d73e7879eca2c2a1490fa0b96d2673ab5a2f1fce54feab20447390b"), looks := false }, kinds := [], alts := [], laidByText := true, laidKinds := [.data], laidTests := true, laidLooks := .later }
def CasesRoomUptoCardSaid : Prop := Claim7.holds Tryz.pinned (.plain (OpenSpec.upto casesRoomSpec)) casesRoomUptoCard
end Rows
end Go.Proofs.YtjfhilignbeboaaGreatDoor
