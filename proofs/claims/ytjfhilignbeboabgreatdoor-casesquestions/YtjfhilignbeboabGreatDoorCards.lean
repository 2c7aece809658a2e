/-
  DERIVED. GIVEN WITH THE SEED: THE CARDS: each row of YtjfhilignbeboabGreatDoorRows.lean that lists a variable, with what it lists TIED to the program's text (the seventh form; the later family's looks); each row that meets fmt, with fmt's text TOLD by the authors' own Lean function (tested against real Go, not proved from fmt's source: count such statements apart). THE CARD IS WHAT COUNTS. Prove the row's statement (the work); the ties are given (YtjfhilignbeboabGreatDoorTie.lean); close each card by the builder's one call (the guide's Derived/Test/ToyasCard.lean, 'card_holds'). Laid BY PROGRAM, IN A SANDBOX (cutbox-door.mjs). By AI agents, Wed Nov 11 2026. No macro, syntax, notation, axiom, sorry.
-/
import Derived.Test.YtjfhilignbeboabGreatDoorRows
import GoSem.ClaimSeven
namespace Go.Proofs.YtjfhilignbeboabGreatDoor
namespace Rows

/-- THE TIED CARD OF 'gangwaylaw22.CasesQuestions'. -/
def casesQuestionsCard : Claim7 := { stood := { row := casesQuestionsRow, standIns := [], harness := (true, "afeb1de6109a6342c2b9addc82bbab747c192196ee2afff90c619ef3b7a0ed79"), looks := false }, kinds := [], alts := [], laidByText := true, laidKinds := [.data], laidTests := true, laidLooks := .later }
def CasesQuestionsCardSaid : Prop := Claim7.holds Tryz.pinned (.plain (OpenSpec.ofChange casesQuestionsSpec)) casesQuestionsCard

/-- THE SECOND FORM's CARD OF 'gangwaylaw22.CasesQuestions'. -/
def casesQuestionsUptoCard : Claim7 := { stood := { row := casesQuestionsUptoRow, standIns := [], harness := (true, "afeb1de6109a6342c2b9addc82bbab747c192196ee2afff90c619ef3b7a0ed79"), looks := false }, kinds := [], alts := [], laidByText := true, laidKinds := [.data], laidTests := true, laidLooks := .later }
def CasesQuestionsUptoCardSaid : Prop := Claim7.holds Tryz.pinned (.plain (OpenSpec.upto casesQuestionsSpec)) casesQuestionsUptoCard
end Rows
end Go.Proofs.YtjfhilignbeboabGreatDoor
