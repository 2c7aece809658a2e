/-
  DERIVED. GIVEN WITH THE SEED: THE CARDS: each row of YtonokaelbpfjnaaGreatDoorRows.lean that lists a variable, with what it lists TIED to the program's text (the seventh form; the later family's looks); each row that meets fmt, with fmt's text TOLD by the authors' own Lean function (tested against real Go, not proved from fmt's source: count such statements apart). THE CARD IS WHAT COUNTS. Prove the row's statement (the work); the ties are given (YtonokaelbpfjnaaGreatDoorTie.lean); close each card by the builder's one call (the guide's Derived/Test/ToyasCard.lean, 'card_holds'). Laid BY PROGRAM, IN A SANDBOX (cutbox-door.mjs). By AI agents, Wed Nov 11 2026. No macro, syntax, notation, axiom, sorry.
-/
import Derived.Test.YtonokaelbpfjnaaGreatDoorRows
import GoSem.ClaimSeven
namespace Go.Proofs.YtonokaelbpfjnaaGreatDoor
namespace Rows

/-- THE TIED CARD OF 'gangwaylaw11.SlotsPlays'. -/
def slotsPlaysCard : Claim7 := { stood := { row := slotsPlaysRow, standIns := [], harness := (true, "df5d8cd790449532f11efd77299ff5948a0486832422bc32afc6110ffe3c3505"), looks := false }, kinds := [], alts := [], laidByText := true, laidKinds := [.called], laidTests := true, laidLooks := .later }
def SlotsPlaysCardSaid : Prop := Claim7.holds Tryz.pinned (.plain (OpenSpec.ofChange slotsPlaysSpec)) slotsPlaysCard

/-- THE TIED CARD OF 'gangwaylaw11.SlotsHeaders'. -/
def slotsHeadersCard : Claim7 := { stood := { row := slotsHeadersRow, standIns := [], harness := (true, "df5d8cd790449532f11efd77299ff5948a0486832422bc32afc6110ffe3c3505"), looks := false }, kinds := [], alts := [], laidByText := true, laidKinds := [.called], laidTests := true, laidLooks := .later }
def SlotsHeadersCardSaid : Prop := Claim7.holds Tryz.pinned (.plain (OpenSpec.ofChange slotsHeadersSpec)) slotsHeadersCard

/-- THE TIED CARD OF 'gangwaylaw11.SlotsSurvives'. -/
def slotsSurvivesCard : Claim7 := { stood := { row := slotsSurvivesRow, standIns := [], harness := (true, "df5d8cd790449532f11efd77299ff5948a0486832422bc32afc6110ffe3c3505"), looks := false }, kinds := [], alts := [], laidByText := true, laidKinds := [.called], laidTests := true, laidLooks := .later }
def SlotsSurvivesCardSaid : Prop := Claim7.holds Tryz.pinned (.plain (OpenSpec.ofChange slotsSurvivesSpec)) slotsSurvivesCard

/-- THE TIED CARD OF 'gangwaylaw11.SlotsTurns'. -/
def slotsTurnsCard : Claim7 := { stood := { row := slotsTurnsRow, standIns := [], harness := (true, "df5d8cd790449532f11efd77299ff5948a0486832422bc32afc6110ffe3c3505"), looks := false }, kinds := [], alts := [], laidByText := true, laidKinds := [.called], laidTests := true, laidLooks := .later }
def SlotsTurnsCardSaid : Prop := Claim7.holds Tryz.pinned (.plain (OpenSpec.ofChange slotsTurnsSpec)) slotsTurnsCard

/-- THE SECOND FORM's CARD OF 'gangwaylaw11.SlotsPlays'. -/
def slotsPlaysUptoCard : Claim7 := { stood := { row := slotsPlaysUptoRow, standIns := [], harness := (true, "df5d8cd790449532f11efd77299ff5948a0486832422bc32afc6110ffe3c3505"), looks := false }, kinds := [], alts := [], laidByText := true, laidKinds := [.called], laidTests := true, laidLooks := .later }
def SlotsPlaysUptoCardSaid : Prop := Claim7.holds Tryz.pinned (.plain (OpenSpec.upto slotsPlaysSpec)) slotsPlaysUptoCard

/-- THE SECOND FORM's CARD OF 'gangwaylaw11.SlotsHeaders'. -/
def slotsHeadersUptoCard : Claim7 := { stood := { row := slotsHeadersUptoRow, standIns := [], harness := (true, "df5d8cd790449532f11efd77299ff5948a0486832422bc32afc6110ffe3c3505"), looks := false }, kinds := [], alts := [], laidByText := true, laidKinds := [.called], laidTests := true, laidLooks := .later }
def SlotsHeadersUptoCardSaid : Prop := Claim7.holds Tryz.pinned (.plain (OpenSpec.upto slotsHeadersSpec)) slotsHeadersUptoCard

/-- THE SECOND FORM's CARD OF 'gangwaylaw11.SlotsSurvives'. -/
def slotsSurvivesUptoCard : Claim7 := { stood := { row := slotsSurvivesUptoRow, standIns := [], harness := (true, "df5d8cd790449532f11efd77299ff5948a0486832422bc32afc6110ffe3c3505"), looks := false }, kinds := [], alts := [], laidByText := true, laidKinds := [.called], laidTests := true, laidLooks := .later }
def SlotsSurvivesUptoCardSaid : Prop := Claim7.holds Tryz.pinned (.plain (OpenSpec.upto slotsSurvivesSpec)) slotsSurvivesUptoCard

/-- THE SECOND FORM's CARD OF 'gangwaylaw11.SlotsTurns'. -/
def slotsTurnsUptoCard : Claim7 := { stood := { row := slotsTurnsUptoRow, standIns := [], harness := (true, "df5d8cd790449532f11efd77299ff5948a0486832422bc32afc6110ffe3c3505"), looks := false }, kinds := [], alts := [], laidByText := true, laidKinds := [.called], laidTests := true, laidLooks := .later }
def SlotsTurnsUptoCardSaid : Prop := Claim7.holds Tryz.pinned (.plain (OpenSpec.upto slotsTurnsSpec)) slotsTurnsUptoCard
end Rows
end Go.Proofs.YtonokaelbpfjnaaGreatDoor
