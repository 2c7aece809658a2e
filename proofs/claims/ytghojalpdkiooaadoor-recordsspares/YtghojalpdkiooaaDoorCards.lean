/-
  DERIVED. GIVEN WITH THE SEED: THE CARDS: each row of YtghojalpdkiooaaDoorRows.lean that lists a variable, with what it lists TIED to the program's text (the seventh form; the later family's looks); each row that meets fmt, with fmt's text TOLD by the authors' own Lean function (tested against real Go, not proved from fmt's source: count such statements apart). THE CARD IS WHAT COUNTS. Prove the row's statement (the work); the ties are given (YtghojalpdkiooaaDoorTie.lean); close each card by the builder's one call (the guide's Derived/Test/ToyasCard.lean, 'card_holds'). Laid BY PROGRAM, IN A SANDBOX (cutbox-door.mjs). By AI agents, Wed Nov 11 2026. No macro, syntax, notation, axiom, sorry.
-/
import Derived.Test.YtghojalpdkiooaaDoorRows
import GoSem.ClaimSeven
namespace Go.Proofs.YtghojalpdkiooaaDoor
namespace Rows

/-- THE TIED CARD OF 'gangwaylaw16.RecordsNumbers'. -/
def recordsNumbersCard : Claim7 := { stood := { row := recordsNumbersRow, standIns := [], harness := (true, "310ed2a0930d0cfead88340363a85efc802050913635970591d52fa80a7ab444"), looks := false }, kinds := [], alts := [], laidByText := true, laidKinds := [.data], laidTests := true, laidLooks := .later }
def RecordsNumbersCardSaid : Prop := Claim7.holds Tryd.pinned (.plain (OpenSpec.ofChange recordsNumbersSpec)) recordsNumbersCard

/-- THE TIED CARD OF 'gangwaylaw16.RecordsChecks'. -/
def recordsChecksCard : Claim7 := { stood := { row := recordsChecksRow, standIns := [], harness := (true, "310ed2a0930d0cfead88340363a85efc802050913635970591d52fa80a7ab444"), looks := false }, kinds := [], alts := [], laidByText := true, laidKinds := [.data], laidTests := true, laidLooks := .later }
def RecordsChecksCardSaid : Prop := Claim7.holds Tryd.pinned (.plain (OpenSpec.ofChange recordsChecksSpec)) recordsChecksCard

/-- THE TIED CARD OF 'gangwaylaw16.RecordsReads'. -/
def recordsReadsCard : Claim7 := { stood := { row := recordsReadsRow, standIns := [], harness := (true, "310ed2a0930d0cfead88340363a85efc802050913635970591d52fa80a7ab444"), looks := false }, kinds := [], alts := [], laidByText := true, laidKinds := [.data], laidTests := true, laidLooks := .later }
def RecordsReadsCardSaid : Prop := Claim7.holds Tryd.pinned (.plain (OpenSpec.ofChange recordsReadsSpec)) recordsReadsCard

/-- THE TIED CARD OF 'gangwaylaw16.RecordsBack'. -/
def recordsBackCard : Claim7 := { stood := { row := recordsBackRow, standIns := [], harness := (true, "310ed2a0930d0cfead88340363a85efc802050913635970591d52fa80a7ab444"), looks := false }, kinds := [], alts := [], laidByText := true, laidKinds := [.data], laidTests := true, laidLooks := .later }
def RecordsBackCardSaid : Prop := Claim7.holds Tryd.pinned (.plain (OpenSpec.ofChange recordsBackSpec)) recordsBackCard

/-- THE TIED CARD OF 'gangwaylaw16.RecordsOrder'. -/
def recordsOrderCard : Claim7 := { stood := { row := recordsOrderRow, standIns := [], harness := (true, "310ed2a0930d0cfead88340363a85efc802050913635970591d52fa80a7ab444"), looks := false }, kinds := [], alts := [], laidByText := true, laidKinds := [.data], laidTests := true, laidLooks := .later }
def RecordsOrderCardSaid : Prop := Claim7.holds Tryd.pinned (.plain (OpenSpec.ofChange recordsOrderSpec)) recordsOrderCard

/-- THE TIED CARD OF 'gangwaylaw16.RecordsSpares'. -/
def recordsSparesCard : Claim7 := { stood := { row := recordsSparesRow, standIns := [], harness := (true, "310ed2a0930d0cfead88340363a85efc802050913635970591d52fa80a7ab444"), looks := false }, kinds := [], alts := [], laidByText := true, laidKinds := [.data], laidTests := true, laidLooks := .later }
def RecordsSparesCardSaid : Prop := Claim7.holds Tryd.pinned (.plain (OpenSpec.ofChange recordsSparesSpec)) recordsSparesCard

/-- THE SECOND FORM's CARD OF 'gangwaylaw16.RecordsNumbers'. -/
def recordsNumbersUptoCard : Claim7 := { stood := { row := recordsNumbersUptoRow, standIns := [], harness := (true, "310ed2a0930d0cfead88340363a85efc802050913635970591d52fa80a7ab444"), looks := false }, kinds := [], alts := [], laidByText := true, laidKinds := [.data], laidTests := true, laidLooks := .later }
def RecordsNumbersUptoCardSaid : Prop := Claim7.holds Tryd.pinned (.plain (OpenSpec.upto recordsNumbersSpec)) recordsNumbersUptoCard

/-- THE SECOND FORM's CARD OF 'gangwaylaw16.RecordsChecks'. -/
def recordsChecksUptoCard : Claim7 := { stood := { row := recordsChecksUptoRow, standIns := [], harness := (true, "310ed2a0930d0cfead88340363a85efc802050913635970591d52fa80a7ab444"), looks := false }, kinds := [], alts := [], laidByText := true, laidKinds := [.data], laidTests := true, laidLooks := .later }
def RecordsChecksUptoCardSaid : Prop := Claim7.holds Tryd.pinned (.plain (OpenSpec.upto recordsChecksSpec)) recordsChecksUptoCard

/-- THE SECOND FORM's CARD OF 'gangwaylaw16.RecordsReads'. -/
def recordsReadsUptoCard : Claim7 := { stood := { row := recordsReadsUptoRow, standIns := [], harness := (true, "310ed2a0930d0cfead88340363a85efc802050913635970591d52fa80a7ab444"), looks := false }, kinds := [], alts := [], laidByText := true, laidKinds := [.data], laidTests := true, laidLooks := .later }
def RecordsReadsUptoCardSaid : Prop := Claim7.holds Tryd.pinned (.plain (OpenSpec.upto recordsReadsSpec)) recordsReadsUptoCard

/-- THE SECOND FORM's CARD OF 'gangwaylaw16.RecordsBack'. -/
def recordsBackUptoCard : Claim7 := { stood := { row := recordsBackUptoRow, standIns := [], harness := (true, "310ed2a0930d0cfead88340363a85efc802050913635970591d52fa80a7ab444"), looks := false }, kinds := [], alts := [], laidByText := true, laidKinds := [.data], laidTests := true, laidLooks := .later }
def RecordsBackUptoCardSaid : Prop := Claim7.holds Tryd.pinned (.plain (OpenSpec.upto recordsBackSpec)) recordsBackUptoCard

/-- THE SECOND FORM's CARD OF 'gangwaylaw16.RecordsOrder'. -/
def recordsOrderUptoCard : Claim7 := { stood := { row := recordsOrderUptoRow, standIns := [], harness := (true, "310ed2a0930d0cfead88340363a85efc802050913635970591d52fa80a7ab444"), looks := false }, kinds := [], alts := [], laidByText := true, laidKinds := [.data], laidTests := true, laidLooks := .later }
def RecordsOrderUptoCardSaid : Prop := Claim7.holds Tryd.pinned (.plain (OpenSpec.upto recordsOrderSpec)) recordsOrderUptoCard

/-- THE SECOND FORM's CARD OF 'gangwaylaw16.RecordsSpares'. -/
def recordsSparesUptoCard : Claim7 := { stood := { row := recordsSparesUptoRow, standIns := [], harness := (true, "310ed2a0930d0cfead88340363a85efc802050913635970591d52fa80a7ab444"), looks := false }, kinds := [], alts := [], laidByText := true, laidKinds := [.data], laidTests := true, laidLooks := .later }
def RecordsSparesUptoCardSaid : Prop := Claim7.holds Tryd.pinned (.plain (OpenSpec.upto recordsSparesSpec)) recordsSparesUptoCard
end Rows
end Go.Proofs.YtghojalpdkiooaaDoor
