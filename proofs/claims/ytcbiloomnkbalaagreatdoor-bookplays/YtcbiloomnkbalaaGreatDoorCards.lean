/-
  DERIVED. GIVEN WITH THE SEED: THE CARDS: each row of YtcbiloomnkbalaaGreatDoorRows.lean that lists a variable, with what it lists TIED to the program's text (the seventh form; the later family's looks); each row that meets fmt, with fmt's text TOLD by the authors' own Lean function (tested against real Go, not proved from fmt's source: count such statements apart). THE CARD IS WHAT COUNTS. Prove the row's statement (the work); the ties are given (YtcbiloomnkbalaaGreatDoorTie.lean); close each card by the builder's one call (the guide's Derived/Test/ToyasCard.lean, 'card_holds'). Laid BY PROGRAM, IN A SANDBOX (cutbox-door.mjs). By AI agents, Wed Nov 11 2026. No macro, syntax, notation, axiom, sorry.
-/
import Derived.Test.YtcbiloomnkbalaaGreatDoorRows
import GoSem.ClaimSeven
namespace Go.Proofs.YtcbiloomnkbalaaGreatDoor
namespace Rows

/-- THE TIED CARD OF 'gangwaylaw17.BookPlays'. -/
def bookPlaysCard : Claim7 := { stood := { row := bookPlaysRow, standIns := [], harness := (true, "dcdfefa0efdbf71d435cc02cd2f364d70a31a410583708a19dcb293972135f85"), looks := false }, kinds := [], alts := [], laidByText := true, laidKinds := [.data], laidTests := true, laidLooks := .later }
def BookPlaysCardSaid : Prop := Claim7.holds Tryz.pinned (.plain (OpenSpec.ofChange bookPlaysSpec)) bookPlaysCard

/-- THE TIED CARD OF 'gangwaylaw17.BookNone'. -/
def bookNoneCard : Claim7 := { stood := { row := bookNoneRow, standIns := [], harness := (true, "dcdfefa0efdbf71d435cc02cd2f364d70a31a410583708a19dcb293972135f85"), looks := false }, kinds := [], alts := [], laidByText := true, laidKinds := [.data], laidTests := true, laidLooks := .later }
def BookNoneCardSaid : Prop := Claim7.holds Tryz.pinned (.plain (OpenSpec.ofChange bookNoneSpec)) bookNoneCard

/-- THE TIED CARD OF 'gangwaylaw17.BookSound'. -/
def bookSoundCard : Claim7 := { stood := { row := bookSoundRow, standIns := [], harness := (true, "dcdfefa0efdbf71d435cc02cd2f364d70a31a410583708a19dcb293972135f85"), looks := false }, kinds := [], alts := [], laidByText := true, laidKinds := [.data], laidTests := true, laidLooks := .later }
def BookSoundCardSaid : Prop := Claim7.holds Tryz.pinned (.plain (OpenSpec.ofChange bookSoundSpec)) bookSoundCard

/-- THE TIED CARD OF 'gangwaylaw17.BookBack'. -/
def bookBackCard : Claim7 := { stood := { row := bookBackRow, standIns := [], harness := (true, "dcdfefa0efdbf71d435cc02cd2f364d70a31a410583708a19dcb293972135f85"), looks := false }, kinds := [], alts := [], laidByText := true, laidKinds := [.data], laidTests := true, laidLooks := .later }
def BookBackCardSaid : Prop := Claim7.holds Tryz.pinned (.plain (OpenSpec.ofChange bookBackSpec)) bookBackCard

/-- THE TIED CARD OF 'gangwaylaw17.BookTicks'. -/
def bookTicksCard : Claim7 := { stood := { row := bookTicksRow, standIns := [], harness := (true, "dcdfefa0efdbf71d435cc02cd2f364d70a31a410583708a19dcb293972135f85"), looks := false }, kinds := [], alts := [], laidByText := true, laidKinds := [.data], laidTests := true, laidLooks := .later }
def BookTicksCardSaid : Prop := Claim7.holds Tryz.pinned (.plain (OpenSpec.ofChange bookTicksSpec)) bookTicksCard

/-- THE TIED CARD OF 'gangwaylaw17.BookGoes'. -/
def bookGoesCard : Claim7 := { stood := { row := bookGoesRow, standIns := [], harness := (true, "dcdfefa0efdbf71d435cc02cd2f364d70a31a410583708a19dcb293972135f85"), looks := false }, kinds := [], alts := [], laidByText := true, laidKinds := [.data], laidTests := true, laidLooks := .later }
def BookGoesCardSaid : Prop := Claim7.holds Tryz.pinned (.plain (OpenSpec.ofChange bookGoesSpec)) bookGoesCard

/-- THE SECOND FORM's CARD OF 'gangwaylaw17.BookPlays'. -/
def bookPlaysUptoCard : Claim7 := { stood := { row := bookPlaysUptoRow, standIns := [], harness := (true, "dcdfefa0efdbf71d435cc02cd2f364d70a31a410583708a19dcb293972135f85"), looks := false }, kinds := [], alts := [], laidByText := true, laidKinds := [.data], laidTests := true, laidLooks := .later }
def BookPlaysUptoCardSaid : Prop := Claim7.holds Tryz.pinned (.plain (OpenSpec.upto bookPlaysSpec)) bookPlaysUptoCard

/-- THE SECOND FORM's CARD OF 'gangwaylaw17.BookNone'. -/
def bookNoneUptoCard : Claim7 := { stood := { row := bookNoneUptoRow, standIns := [], harness := (true, "dcdfefa0efdbf71d435cc02cd2f364d70a31a410583708a19dcb293972135f85"), looks := false }, kinds := [], alts := [], laidByText := true, laidKinds := [.data], laidTests := true, laidLooks := .later }
def BookNoneUptoCardSaid : Prop := Claim7.holds Tryz.pinned (.plain (OpenSpec.upto bookNoneSpec)) bookNoneUptoCard

/-- THE SECOND FORM's CARD OF 'gangwaylaw17.BookSound'. -/
def bookSoundUptoCard : Claim7 := { stood := { row := bookSoundUptoRow, standIns := [], harness := (true, "dcdfefa0efdbf71d435cc02cd2f364d70a31a410583708a19dcb293972135f85"), looks := false }, kinds := [], alts := [], laidByText := true, laidKinds := [.data], laidTests := true, laidLooks := .later }
def BookSoundUptoCardSaid : Prop := Claim7.holds Tryz.pinned (.plain (OpenSpec.upto bookSoundSpec)) bookSoundUptoCard

/-- THE SECOND FORM's CARD OF 'gangwaylaw17.BookBack'. -/
def bookBackUptoCard : Claim7 := { stood := { row := bookBackUptoRow, standIns := [], harness := (true, "dcdfefa0efdbf71d435cc02cd2f364d70a31a410583708a19dcb293972135f85"), looks := false }, kinds := [], alts := [], laidByText := true, laidKinds := [.data], laidTests := true, laidLooks := .later }
def BookBackUptoCardSaid : Prop := Claim7.holds Tryz.pinned (.plain (OpenSpec.upto bookBackSpec)) bookBackUptoCard

/-- THE SECOND FORM's CARD OF 'gangwaylaw17.BookTicks'. -/
def bookTicksUptoCard : Claim7 := { stood := { row := bookTicksUptoRow, standIns := [], harness := (true, "dcdfefa0efdbf71d435cc02cd2f364d70a31a410583708a19dcb293972135f85"), looks := false }, kinds := [], alts := [], laidByText := true, laidKinds := [.data], laidTests := true, laidLooks := .later }
def BookTicksUptoCardSaid : Prop := Claim7.holds Tryz.pinned (.plain (OpenSpec.upto bookTicksSpec)) bookTicksUptoCard

/-- THE SECOND FORM's CARD OF 'gangwaylaw17.BookGoes'. -/
def bookGoesUptoCard : Claim7 := { stood := { row := bookGoesUptoRow, standIns := [], harness := (true, "dcdfefa0efdbf71d435cc02cd2f364d70a31a410583708a19dcb293972135f85"), looks := false }, kinds := [], alts := [], laidByText := true, laidKinds := [.data], laidTests := true, laidLooks := .later }
def BookGoesUptoCardSaid : Prop := Claim7.holds Tryz.pinned (.plain (OpenSpec.upto bookGoesSpec)) bookGoesUptoCard
end Rows
end Go.Proofs.YtcbiloomnkbalaaGreatDoor
