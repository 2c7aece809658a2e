/-
  NARROWER THAN 'FOR EVERY INPUT', by the rows' own cells (each row's printed sentence says how): BookPlays: laid · BookNone: laid · BookSound: laid · BookBack: laid · BookTicks: laid · BookGoes: laid.
  DERIVED. THE GIVEN ROWS OF THIS SEAT. 6 by the template 'for every input the law returns true; each argument reads behind the call as it read before'; 0 by the template 'total and deterministic' (their statements: YtcbiloomnkbalaaGreatDoorTotals.lean).
  GIVEN WITH THE SEED: the statements are not yours to turn. If you find one false, say at which input.
  Laid BY PROGRAM, IN A SANDBOX (cutbox-rows.mjs): the forced cells as the released guide's own fill.sh prints them over the translation 1b18183b1aa21803… (all of the seat's roots in one cut). By AI agents, Wed Nov 11 2026. No macro, syntax, notation, axiom, sorry.
-/
import Derived.Test.YtcbiloomnkbalaaGreatDoorChecked
import GoSem.Claim
import GoSem.ClaimJoined
import GoSem.ClaimMapViews
import Derived.JoinedTies
import Derived.KernelRfl
namespace Go.Proofs.YtcbiloomnkbalaaGreatDoor
/- THE CELL 'sum', in the pinned program and in every row, IS THE sha256 OF THE DUMP (.gsa) THAT YtcbiloomnkbalaaGreatDoorProg.lean LOADS. Nothing in Lean hashes anything: it is a label: what it is worth is what the hold of that sum in a sandbox is worth. -/
noncomputable def Tryz.pinned : Pinned := { name := "ytcbiloomnkbalaagreatdoor", sum := "1b18183b1aa218036303decd0980b0b3773b0c588e938933fe19d48b8ad636b0", checked := Tryz.checked }
namespace Rows
def none {H : Type} : Left H := { results := [], args := [] }

/- WHAT THE LISTED PACKAGE-LEVEL VARIABLES READ AS WHEN THE CALL BEGINS. Each datum BY PROGRAM (the guide's laid-datum.mjs) off the statement by which the dump's own 'gosem.cut.vars' lays the variable. In a bare row this is a premise. The card (YtcbiloomnkbalaaGreatDoorCards.lean) ties it to the program's text. -/
def laid_gangway_records_fieldsOf {H : Type} : DataW H := .agg [.agg [.lit (.bool false), .lit (.bool false), .lit (.bool false), .lit (.bool false)], .agg [.lit (.bool true), .lit (.bool true), .lit (.bool true), .lit (.bool false)], .agg [.lit (.bool true), .lit (.bool false), .lit (.bool false), .lit (.bool false)], .agg [.lit (.bool true), .lit (.bool false), .lit (.bool false), .lit (.bool false)], .agg [.lit (.bool true), .lit (.bool true), .lit (.bool false), .lit (.bool false)], .agg [.lit (.bool false), .lit (.bool false), .lit (.bool false), .lit (.bool true)]]

/-- 'gangwaylaw17.BookPlays': WHATEVER THE INPUT: true; the input reads as it did. -/
def bookPlaysSpec : ChangeSpec := { name := "bookPlays", fn := fun _ => fun
  | [d1, d2] => { results := [.lit (.bool true)], args := [d1, d2] }
  | _ => none }
def bookPlaysRow : OpenClaim := { program := "ytcbiloomnkbalaagreatdoor", sum := "1b18183b1aa218036303decd0980b0b3773b0c588e938933fe19d48b8ad636b0", func := "gangway/gangwaylaw17.BookPlays", spec := "bookPlays", unfollowed := true, recurses := true, named := ["gangway/records.fieldsOf"], apart := false, laid := [("gangway/records.fieldsOf", laid_gangway_records_fieldsOf)] }
def BookPlaysSaid : Prop := bookPlaysRow.holds Tryz.pinned (OpenSpec.ofChange bookPlaysSpec)

/-- ITS FALSE NEIGHBOUR: 'it returns false'. Refute it at one input. -/
def bookPlaysWrong : ChangeSpec := { name := "bookPlays", fn := fun _ => fun
  | [d1, d2] => { results := [.lit (.bool false)], args := [d1, d2] }
  | _ => none }
def BookPlaysWrongFalsely : Prop := bookPlaysRow.holds Tryz.pinned (OpenSpec.ofChange bookPlaysWrong)

/-- 'gangwaylaw17.BookNone': WHATEVER THE INPUT: true; the input reads as it did. -/
def bookNoneSpec : ChangeSpec := { name := "bookNone", fn := fun _ => fun
  | [d] => { results := [.lit (.bool true)], args := [d] }
  | _ => none }
def bookNoneRow : OpenClaim := { program := "ytcbiloomnkbalaagreatdoor", sum := "1b18183b1aa218036303decd0980b0b3773b0c588e938933fe19d48b8ad636b0", func := "gangway/gangwaylaw17.BookNone", spec := "bookNone", unfollowed := true, recurses := true, named := ["gangway/records.fieldsOf"], apart := false, laid := [("gangway/records.fieldsOf", laid_gangway_records_fieldsOf)] }
def BookNoneSaid : Prop := bookNoneRow.holds Tryz.pinned (OpenSpec.ofChange bookNoneSpec)

/-- ITS FALSE NEIGHBOUR: 'it returns false'. Refute it at one input. -/
def bookNoneWrong : ChangeSpec := { name := "bookNone", fn := fun _ => fun
  | [d] => { results := [.lit (.bool false)], args := [d] }
  | _ => none }
def BookNoneWrongFalsely : Prop := bookNoneRow.holds Tryz.pinned (OpenSpec.ofChange bookNoneWrong)

/-- 'gangwaylaw17.BookSound': WHATEVER THE INPUT: true; the input reads as it did. -/
def bookSoundSpec : ChangeSpec := { name := "bookSound", fn := fun _ => fun
  | [d] => { results := [.lit (.bool true)], args := [d] }
  | _ => none }
def bookSoundRow : OpenClaim := { program := "ytcbiloomnkbalaagreatdoor", sum := "1b18183b1aa218036303decd0980b0b3773b0c588e938933fe19d48b8ad636b0", func := "gangway/gangwaylaw17.BookSound", spec := "bookSound", unfollowed := true, recurses := true, named := ["gangway/records.fieldsOf"], apart := false, laid := [("gangway/records.fieldsOf", laid_gangway_records_fieldsOf)] }
def BookSoundSaid : Prop := bookSoundRow.holds Tryz.pinned (OpenSpec.ofChange bookSoundSpec)

/-- ITS FALSE NEIGHBOUR: 'it returns false'. Refute it at one input. -/
def bookSoundWrong : ChangeSpec := { name := "bookSound", fn := fun _ => fun
  | [d] => { results := [.lit (.bool false)], args := [d] }
  | _ => none }
def BookSoundWrongFalsely : Prop := bookSoundRow.holds Tryz.pinned (OpenSpec.ofChange bookSoundWrong)

/-- 'gangwaylaw17.BookBack': WHATEVER THE INPUT: true; the input reads as it did. -/
def bookBackSpec : ChangeSpec := { name := "bookBack", fn := fun _ => fun
  | [d1, d2] => { results := [.lit (.bool true)], args := [d1, d2] }
  | _ => none }
def bookBackRow : OpenClaim := { program := "ytcbiloomnkbalaagreatdoor", sum := "1b18183b1aa218036303decd0980b0b3773b0c588e938933fe19d48b8ad636b0", func := "gangway/gangwaylaw17.BookBack", spec := "bookBack", unfollowed := true, recurses := true, named := ["gangway/records.fieldsOf"], apart := false, laid := [("gangway/records.fieldsOf", laid_gangway_records_fieldsOf)] }
def BookBackSaid : Prop := bookBackRow.holds Tryz.pinned (OpenSpec.ofChange bookBackSpec)

/-- ITS FALSE NEIGHBOUR: 'it returns false'. Refute it at one input. -/
def bookBackWrong : ChangeSpec := { name := "bookBack", fn := fun _ => fun
  | [d1, d2] => { results := [.lit (.bool false)], args := [d1, d2] }
  | _ => none }
def BookBackWrongFalsely : Prop := bookBackRow.holds Tryz.pinned (OpenSpec.ofChange bookBackWrong)

/-- 'gangwaylaw17.BookTicks': WHATEVER THE INPUT: true; the input reads as it did. -/
def bookTicksSpec : ChangeSpec := { name := "bookTicks", fn := fun _ => fun
  | [d1, d2, d3] => { results := [.lit (.bool true)], args := [d1, d2, d3] }
  | _ => none }
def bookTicksRow : OpenClaim := { program := "ytcbiloomnkbalaagreatdoor", sum := "1b18183b1aa218036303decd0980b0b3773b0c588e938933fe19d48b8ad636b0", func := "gangway/gangwaylaw17.BookTicks", spec := "bookTicks", unfollowed := true, recurses := true, named := ["gangway/records.fieldsOf"], apart := false, laid := [("gangway/records.fieldsOf", laid_gangway_records_fieldsOf)] }
def BookTicksSaid : Prop := bookTicksRow.holds Tryz.pinned (OpenSpec.ofChange bookTicksSpec)

/-- ITS FALSE NEIGHBOUR: 'it returns false'. Refute it at one input. -/
def bookTicksWrong : ChangeSpec := { name := "bookTicks", fn := fun _ => fun
  | [d1, d2, d3] => { results := [.lit (.bool false)], args := [d1, d2, d3] }
  | _ => none }
def BookTicksWrongFalsely : Prop := bookTicksRow.holds Tryz.pinned (OpenSpec.ofChange bookTicksWrong)

/-- 'gangwaylaw17.BookGoes': WHATEVER THE INPUT: true; the input reads as it did. -/
def bookGoesSpec : ChangeSpec := { name := "bookGoes", fn := fun _ => fun
  | [d1, d2, d3] => { results := [.lit (.bool true)], args := [d1, d2, d3] }
  | _ => none }
def bookGoesRow : OpenClaim := { program := "ytcbiloomnkbalaagreatdoor", sum := "1b18183b1aa218036303decd0980b0b3773b0c588e938933fe19d48b8ad636b0", func := "gangway/gangwaylaw17.BookGoes", spec := "bookGoes", unfollowed := true, recurses := true, named := ["gangway/records.fieldsOf"], apart := false, laid := [("gangway/records.fieldsOf", laid_gangway_records_fieldsOf)] }
def BookGoesSaid : Prop := bookGoesRow.holds Tryz.pinned (OpenSpec.ofChange bookGoesSpec)

/-- ITS FALSE NEIGHBOUR: 'it returns false'. Refute it at one input. -/
def bookGoesWrong : ChangeSpec := { name := "bookGoes", fn := fun _ => fun
  | [d1, d2, d3] => { results := [.lit (.bool false)], args := [d1, d2, d3] }
  | _ => none }
def BookGoesWrongFalsely : Prop := bookGoesRow.holds Tryz.pinned (OpenSpec.ofChange bookGoesWrong)

/- THE SECOND FORM. 'bulk': how many values and letters a reading holds, each counted each time it is reached (what is shared counts as often as it is met; a slice's spare places count too). A statement '..UptoSaid' is the law's where the arguments, and the package variables that the reading takes, are together of bulk at most 1048576: NARROWER than '..Said'. Prove '..Said' where nothing that the law and all that it calls make is longer than what came in: it says more and counts as full. Else prove '..UptoSaid'. A law counts once. -/
mutual
def uptoBulk {H : Type} : DataW H → Nat
  | .lit (.string bytes) => bytes.length + 1
  | .lit _ => 1
  | .nil => 1
  | .ptr d => uptoBulk d + 1
  | .slice elems spare => uptoBulkAll elems + uptoBulkAll spare + 1
  | .agg parts => uptoBulkAll parts + 1
  | .iface _ d => uptoBulk d + 1
  | .map entries => uptoBulkEntries entries + 1
  | .held _ => 1
def uptoBulkAll {H : Type} : List (DataW H) → Nat
  | [] => 0
  | d :: r => uptoBulk d + uptoBulkAll r
def uptoBulkEntries {H : Type} : List (Lit × DataW H) → Nat
  | [] => 0
  | x :: r => uptoBulkEntry x + uptoBulkEntries r
def uptoBulkEntry {H : Type} : Lit × DataW H → Nat
  | (.string bytes, d) => bytes.length + uptoBulk d + 1
  | (_, d) => uptoBulk d + 1
 end
def uptoSmall : (H : Type) → List (DataW H) → Bool := fun _ ds => decide (uptoBulkAll ds ≤ 1048576)
def OpenSpec.upto (s : _root_.Go.ChangeSpec) : _root_.Go.OpenSpec := { _root_.Go.OpenSpec.ofChange s with cond := some uptoSmall }

/-- 'gangwaylaw17.BookPlays', WHERE WHAT IT READS IS OF BULK AT MOST 1048576: true; the input reads as it did. -/
def bookPlaysUptoRow : OpenClaim := { program := "ytcbiloomnkbalaagreatdoor", sum := "1b18183b1aa218036303decd0980b0b3773b0c588e938933fe19d48b8ad636b0", func := "gangway/gangwaylaw17.BookPlays", spec := "bookPlays", unfollowed := true, recurses := true, named := ["gangway/records.fieldsOf"], apart := false, laid := [("gangway/records.fieldsOf", laid_gangway_records_fieldsOf)], narrowed := true }
def BookPlaysUptoSaid : Prop := bookPlaysUptoRow.holds Tryz.pinned (OpenSpec.upto bookPlaysSpec)

/-- 'gangwaylaw17.BookNone', WHERE WHAT IT READS IS OF BULK AT MOST 1048576: true; the input reads as it did. -/
def bookNoneUptoRow : OpenClaim := { program := "ytcbiloomnkbalaagreatdoor", sum := "1b18183b1aa218036303decd0980b0b3773b0c588e938933fe19d48b8ad636b0", func := "gangway/gangwaylaw17.BookNone", spec := "bookNone", unfollowed := true, recurses := true, named := ["gangway/records.fieldsOf"], apart := false, laid := [("gangway/records.fieldsOf", laid_gangway_records_fieldsOf)], narrowed := true }
def BookNoneUptoSaid : Prop := bookNoneUptoRow.holds Tryz.pinned (OpenSpec.upto bookNoneSpec)

/-- 'gangwaylaw17.BookSound', WHERE WHAT IT READS IS OF BULK AT MOST 1048576: true; the input reads as it did. -/
def bookSoundUptoRow : OpenClaim := { program := "ytcbiloomnkbalaagreatdoor", sum := "1b18183b1aa218036303decd0980b0b3773b0c588e938933fe19d48b8ad636b0", func := "gangway/gangwaylaw17.BookSound", spec := "bookSound", unfollowed := true, recurses := true, named := ["gangway/records.fieldsOf"], apart := false, laid := [("gangway/records.fieldsOf", laid_gangway_records_fieldsOf)], narrowed := true }
def BookSoundUptoSaid : Prop := bookSoundUptoRow.holds Tryz.pinned (OpenSpec.upto bookSoundSpec)

/-- 'gangwaylaw17.BookBack', WHERE WHAT IT READS IS OF BULK AT MOST 1048576: true; the input reads as it did. -/
def bookBackUptoRow : OpenClaim := { program := "ytcbiloomnkbalaagreatdoor", sum := "1b18183b1aa218036303decd0980b0b3773b0c588e938933fe19d48b8ad636b0", func := "gangway/gangwaylaw17.BookBack", spec := "bookBack", unfollowed := true, recurses := true, named := ["gangway/records.fieldsOf"], apart := false, laid := [("gangway/records.fieldsOf", laid_gangway_records_fieldsOf)], narrowed := true }
def BookBackUptoSaid : Prop := bookBackUptoRow.holds Tryz.pinned (OpenSpec.upto bookBackSpec)

/-- 'gangwaylaw17.BookTicks', WHERE WHAT IT READS IS OF BULK AT MOST 1048576: true; the input reads as it did. -/
def bookTicksUptoRow : OpenClaim := { program := "ytcbiloomnkbalaagreatdoor", sum := "1b18183b1aa218036303decd0980b0b3773b0c588e938933fe19d48b8ad636b0", func := "gangway/gangwaylaw17.BookTicks", spec := "bookTicks", unfollowed := true, recurses := true, named := ["gangway/records.fieldsOf"], apart := false, laid := [("gangway/records.fieldsOf", laid_gangway_records_fieldsOf)], narrowed := true }
def BookTicksUptoSaid : Prop := bookTicksUptoRow.holds Tryz.pinned (OpenSpec.upto bookTicksSpec)

/-- 'gangwaylaw17.BookGoes', WHERE WHAT IT READS IS OF BULK AT MOST 1048576: true; the input reads as it did. -/
def bookGoesUptoRow : OpenClaim := { program := "ytcbiloomnkbalaagreatdoor", sum := "1b18183b1aa218036303decd0980b0b3773b0c588e938933fe19d48b8ad636b0", func := "gangway/gangwaylaw17.BookGoes", spec := "bookGoes", unfollowed := true, recurses := true, named := ["gangway/records.fieldsOf"], apart := false, laid := [("gangway/records.fieldsOf", laid_gangway_records_fieldsOf)], narrowed := true }
def BookGoesUptoSaid : Prop := bookGoesUptoRow.holds Tryz.pinned (OpenSpec.upto bookGoesSpec)

end Rows
end Go.Proofs.YtcbiloomnkbalaaGreatDoor
