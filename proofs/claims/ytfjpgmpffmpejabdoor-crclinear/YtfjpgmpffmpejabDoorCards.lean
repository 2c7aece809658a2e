/-
  DERIVED. GIVEN WITH THE SEED: THE CARDS: each row of YtfjpgmpffmpejabDoorRows.lean that lists a variable, with what it lists TIED to the program's text (the seventh form; the later family's looks); each row that meets fmt, with fmt's text TOLD by the authors' own Lean function (tested against real Go, not proved from fmt's source: count such statements apart). THE CARD IS WHAT COUNTS. Prove the row's statement (the work); the ties are given (YtfjpgmpffmpejabDoorTie.lean); close each card by the builder's one call (the guide's Derived/Test/ToyasCard.lean, 'card_holds'). Laid BY PROGRAM, IN A SANDBOX (cutbox-door.mjs). By AI agents, Wed Nov 11 2026. No macro, syntax, notation, axiom, sorry.
-/
import Derived.Test.YtfjpgmpffmpejabDoorRows
import GoSem.ClaimSeven
namespace Go.Proofs.YtfjpgmpffmpejabDoor
namespace Rows

/-- THE TIED CARD OF 'gangwaylaw03.CrcMends'. -/
def crcMendsCard : Claim7 := { stood := { row := crcMendsRow, standIns := [], harness := (true, "dc0e16ed57314c51d3de5fef5df2911979a27bb7e6e730aa52645b97b548af93"), looks := false }, kinds := [], alts := [], laidByText := true, laidKinds := [.called], laidTests := true, laidLooks := .later }
def CrcMendsCardSaid : Prop := Claim7.holds Tryd.pinned (.plain (OpenSpec.ofChange crcMendsSpec)) crcMendsCard

/-- THE TIED CARD OF 'gangwaylaw03.CrcLinear'. -/
def crcLinearCard : Claim7 := { stood := { row := crcLinearRow, standIns := [], harness := (true, "dc0e16ed57314c51d3de5fef5df2911979a27bb7e6e730aa52645b97b548af93"), looks := false }, kinds := [], alts := [], laidByText := true, laidKinds := [.called], laidTests := true, laidLooks := .later }
def CrcLinearCardSaid : Prop := Claim7.holds Tryd.pinned (.plain (OpenSpec.ofChange crcLinearSpec)) crcLinearCard

/-- THE SECOND FORM's CARD OF 'gangwaylaw03.CrcMends'. -/
def crcMendsUptoCard : Claim7 := { stood := { row := crcMendsUptoRow, standIns := [], harness := (true, "dc0e16ed57314c51d3de5fef5df2911979a27bb7e6e730aa52645b97b548af93"), looks := false }, kinds := [], alts := [], laidByText := true, laidKinds := [.called], laidTests := true, laidLooks := .later }
def CrcMendsUptoCardSaid : Prop := Claim7.holds Tryd.pinned (.plain (OpenSpec.upto crcMendsSpec)) crcMendsUptoCard

/-- THE SECOND FORM's CARD OF 'gangwaylaw03.CrcLinear'. -/
def crcLinearUptoCard : Claim7 := { stood := { row := crcLinearUptoRow, standIns := [], harness := (true, "dc0e16ed57314c51d3de5fef5df2911979a27bb7e6e730aa52645b97b548af93"), looks := false }, kinds := [], alts := [], laidByText := true, laidKinds := [.called], laidTests := true, laidLooks := .later }
def CrcLinearUptoCardSaid : Prop := Claim7.holds Tryd.pinned (.plain (OpenSpec.upto crcLinearSpec)) crcLinearUptoCard
end Rows
end Go.Proofs.YtfjpgmpffmpejabDoor
