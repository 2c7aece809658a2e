/-
  NARROWER THAN 'FOR EVERY INPUT', by the rows' own cells (each row's printed sentence says how): ReplayNumbers: laid · ReplayOf: laid · ReplayHistories: laid · ReplayRuns: laid · ReplayParts: laid · ReplayFinds: laid.
  DERIVED. THE GIVEN ROWS OF THIS SEAT. 6 by the template 'for every input the law returns true; each argument reads behind the call as it read before'; 0 by the template 'total and deterministic' (their statements: YtinkkocleognbaaGreatDoorTotals.lean).
  GIVEN WITH THE SEED: the statements are not yours to turn. If you find one false, say at which input.
  Laid BY PROGRAM, IN A SANDBOX (cutbox-rows.mjs): the forced cells as the released guide's own fill.sh prints them over the translation dfd36d4b3d317d75… (all of the seat's roots in one cut). By AI agents, Wed Nov 11 2026. No macro, syntax, notation, axiom, sorry.
-/
import Derived.Test.YtinkkocleognbaaGreatDoorChecked
import GoSem.Claim
import GoSem.ClaimJoined
import GoSem.ClaimMapViews
import Derived.JoinedTies
import Derived.KernelRfl
namespace Go.Proofs.YtinkkocleognbaaGreatDoor
/- THE CELL 'sum', in the pinned program and in every row, IS THE sha256 OF THE DUMP (.gsa) THAT YtinkkocleognbaaGreatDoorProg.lean LOADS. Nothing in Lean hashes anything: it is a label: what it is worth is what the hold of that sum in a sandbox is worth. -/
noncomputable def Tryz.pinned : Pinned := { name := "ytinkkocleognbaagreatdoor", sum := "dfd36d4b3d317d75628097f0d5437dfc1d56b3ba6f709a39d0d3deb61eef4e81", checked := Tryz.checked }
namespace Rows
def none {H : Type} : Left H := { results := [], args := [] }

/- WHAT THE LISTED PACKAGE-LEVEL VARIABLES READ AS WHEN THE CALL BEGINS. Each datum BY PROGRAM (the guide's laid-datum.mjs) off the statement by which the dump's own 'gosem.cut.vars' lays the variable. In a bare row this is a premise. The card (YtinkkocleognbaaGreatDoorCards.lean) ties it to the program's text. -/
def laid_gangway_records_fieldsOf {H : Type} : DataW H := .agg [.agg [.lit (.bool false), .lit (.bool false), .lit (.bool false), .lit (.bool false)], .agg [.lit (.bool true), .lit (.bool true), .lit (.bool true), .lit (.bool false)], .agg [.lit (.bool true), .lit (.bool false), .lit (.bool false), .lit (.bool false)], .agg [.lit (.bool true), .lit (.bool false), .lit (.bool false), .lit (.bool false)], .agg [.lit (.bool true), .lit (.bool true), .lit (.bool false), .lit (.bool false)], .agg [.lit (.bool false), .lit (.bool false), .lit (.bool false), .lit (.bool true)]]

/-- 'gangwaylaw19.ReplayNumbers': WHATEVER THE INPUT: true; the input reads as it did. -/
def replayNumbersSpec : ChangeSpec := { name := "replayNumbers", fn := fun _ => fun
  | [] => { results := [.lit (.bool true)], args := [] }
  | _ => none }
def replayNumbersRow : OpenClaim := { program := "ytinkkocleognbaagreatdoor", sum := "dfd36d4b3d317d75628097f0d5437dfc1d56b3ba6f709a39d0d3deb61eef4e81", func := "gangway/gangwaylaw19.ReplayNumbers", spec := "replayNumbers", unfollowed := true, recurses := true, named := ["gangway/records.fieldsOf"], apart := false, laid := [("gangway/records.fieldsOf", laid_gangway_records_fieldsOf)] }
def ReplayNumbersSaid : Prop := replayNumbersRow.holds Tryz.pinned (OpenSpec.ofChange replayNumbersSpec)

/-- ITS FALSE NEIGHBOUR: 'it returns false'. Refute it at one input. -/
def replayNumbersWrong : ChangeSpec := { name := "replayNumbers", fn := fun _ => fun
  | [] => { results := [.lit (.bool false)], args := [] }
  | _ => none }
def ReplayNumbersWrongFalsely : Prop := replayNumbersRow.holds Tryz.pinned (OpenSpec.ofChange replayNumbersWrong)

/-- 'gangwaylaw19.ReplayOf': WHATEVER THE INPUT: true; the input reads as it did. -/
def replayOfSpec : ChangeSpec := { name := "replayOf", fn := fun _ => fun
  | [d1, d2] => { results := [.lit (.bool true)], args := [d1, d2] }
  | _ => none }
def replayOfRow : OpenClaim := { program := "ytinkkocleognbaagreatdoor", sum := "dfd36d4b3d317d75628097f0d5437dfc1d56b3ba6f709a39d0d3deb61eef4e81", func := "gangway/gangwaylaw19.ReplayOf", spec := "replayOf", unfollowed := true, recurses := true, named := ["gangway/records.fieldsOf"], apart := false, laid := [("gangway/records.fieldsOf", laid_gangway_records_fieldsOf)] }
def ReplayOfSaid : Prop := replayOfRow.holds Tryz.pinned (OpenSpec.ofChange replayOfSpec)

/-- ITS FALSE NEIGHBOUR: 'it returns false'. Refute it at one input. -/
def replayOfWrong : ChangeSpec := { name := "replayOf", fn := fun _ => fun
  | [d1, d2] => { results := [.lit (.bool false)], args := [d1, d2] }
  | _ => none }
def ReplayOfWrongFalsely : Prop := replayOfRow.holds Tryz.pinned (OpenSpec.ofChange replayOfWrong)

/-- 'gangwaylaw19.ReplayHistories': WHATEVER THE INPUT: true; the input reads as it did. -/
def replayHistoriesSpec : ChangeSpec := { name := "replayHistories", fn := fun _ => fun
  | [d1, d2, d3, d4] => { results := [.lit (.bool true)], args := [d1, d2, d3, d4] }
  | _ => none }
def replayHistoriesRow : OpenClaim := { program := "ytinkkocleognbaagreatdoor", sum := "dfd36d4b3d317d75628097f0d5437dfc1d56b3ba6f709a39d0d3deb61eef4e81", func := "gangway/gangwaylaw19.ReplayHistories", spec := "replayHistories", unfollowed := true, recurses := true, named := ["gangway/records.fieldsOf"], apart := false, laid := [("gangway/records.fieldsOf", laid_gangway_records_fieldsOf)] }
def ReplayHistoriesSaid : Prop := replayHistoriesRow.holds Tryz.pinned (OpenSpec.ofChange replayHistoriesSpec)

/-- ITS FALSE NEIGHBOUR: 'it returns false'. Refute it at one input. -/
def replayHistoriesWrong : ChangeSpec := { name := "replayHistories", fn := fun _ => fun
  | [d1, d2, d3, d4] => { results := [.lit (.bool false)], args := [d1, d2, d3, d4] }
  | _ => none }
def ReplayHistoriesWrongFalsely : Prop := replayHistoriesRow.holds Tryz.pinned (OpenSpec.ofChange replayHistoriesWrong)

/-- 'gangwaylaw19.ReplayRuns': WHATEVER THE INPUT: true; the input reads as it did. -/
def replayRunsSpec : ChangeSpec := { name := "replayRuns", fn := fun _ => fun
  | [d1, d2, d3, d4] => { results := [.lit (.bool true)], args := [d1, d2, d3, d4] }
  | _ => none }
def replayRunsRow : OpenClaim := { program := "ytinkkocleognbaagreatdoor", sum := "dfd36d4b3d317d75628097f0d5437dfc1d56b3ba6f709a39d0d3deb61eef4e81", func := "gangway/gangwaylaw19.ReplayRuns", spec := "replayRuns", unfollowed := true, recurses := true, named := ["gangway/records.fieldsOf"], apart := false, laid := [("gangway/records.fieldsOf", laid_gangway_records_fieldsOf)] }
def ReplayRunsSaid : Prop := replayRunsRow.holds Tryz.pinned (OpenSpec.ofChange replayRunsSpec)

/-- ITS FALSE NEIGHBOUR: 'it returns false'. Refute it at one input. -/
def replayRunsWrong : ChangeSpec := { name := "replayRuns", fn := fun _ => fun
  | [d1, d2, d3, d4] => { results := [.lit (.bool false)], args := [d1, d2, d3, d4] }
  | _ => none }
def ReplayRunsWrongFalsely : Prop := replayRunsRow.holds Tryz.pinned (OpenSpec.ofChange replayRunsWrong)

/-- 'gangwaylaw19.ReplayParts': WHATEVER THE INPUT: true; the input reads as it did. -/
def replayPartsSpec : ChangeSpec := { name := "replayParts", fn := fun _ => fun
  | [d1, d2, d3, d4] => { results := [.lit (.bool true)], args := [d1, d2, d3, d4] }
  | _ => none }
def replayPartsRow : OpenClaim := { program := "ytinkkocleognbaagreatdoor", sum := "dfd36d4b3d317d75628097f0d5437dfc1d56b3ba6f709a39d0d3deb61eef4e81", func := "gangway/gangwaylaw19.ReplayParts", spec := "replayParts", unfollowed := true, recurses := true, named := ["gangway/records.fieldsOf"], apart := false, laid := [("gangway/records.fieldsOf", laid_gangway_records_fieldsOf)] }
def ReplayPartsSaid : Prop := replayPartsRow.holds Tryz.pinned (OpenSpec.ofChange replayPartsSpec)

/-- ITS FALSE NEIGHBOUR: 'it returns false'. Refute it at one input. -/
def replayPartsWrong : ChangeSpec := { name := "replayParts", fn := fun _ => fun
  | [d1, d2, d3, d4] => { results := [.lit (.bool false)], args := [d1, d2, d3, d4] }
  | _ => none }
def ReplayPartsWrongFalsely : Prop := replayPartsRow.holds Tryz.pinned (OpenSpec.ofChange replayPartsWrong)

/-- 'gangwaylaw19.ReplayFinds': WHATEVER THE INPUT: true; the input reads as it did. -/
def replayFindsSpec : ChangeSpec := { name := "replayFinds", fn := fun _ => fun
  | [d1, d2, d3, d4] => { results := [.lit (.bool true)], args := [d1, d2, d3, d4] }
  | _ => none }
def replayFindsRow : OpenClaim := { program := "ytinkkocleognbaagreatdoor", sum := "dfd36d4b3d317d75628097f0d5437dfc1d56b3ba6f709a39d0d3deb61eef4e81", func := "gangway/gangwaylaw19.ReplayFinds", spec := "replayFinds", unfollowed := true, recurses := true, named := ["gangway/records.fieldsOf"], apart := false, laid := [("gangway/records.fieldsOf", laid_gangway_records_fieldsOf)] }
def ReplayFindsSaid : Prop := replayFindsRow.holds Tryz.pinned (OpenSpec.ofChange replayFindsSpec)

/-- ITS FALSE NEIGHBOUR: 'it returns false'. Refute it at one input. -/
def replayFindsWrong : ChangeSpec := { name := "replayFinds", fn := fun _ => fun
  | [d1, d2, d3, d4] => { results := [.lit (.bool false)], args := [d1, d2, d3, d4] }
  | _ => none }
def ReplayFindsWrongFalsely : Prop := replayFindsRow.holds Tryz.pinned (OpenSpec.ofChange replayFindsWrong)

/- THE SECOND FORM. 'bulk': how many values and letters a reading holds, each counted each time it is reached (what is shared counts as often as it is met; a slice's spare places count too). A statement '..UptoSaid' is the law's where the arguments, and the package variables that the reading takes, are together of bulk at most 1048576: NARROWER than '..Said'. Prove '..Said' where nothing that the law and all that it calls make is longer than what came in: it says more and counts as full. Else prove '..UptoSaid'. A law counts once. -/
mutual
def uptoBulk {H : Type} : DataW H → Nat
  | .lit (.string bytes) => bytes.length + 1
  | .lit _ => 1
  | .nil => 1
  | .ptr d => uptoBulk d + 1
  | .slice elems spare => uptoBulkAll elems + uptoBulkAll spare + 1
  | .agg parts => uptoBulkAll parts + 1
  | .iface _ d => uptoBulk d + 1
  | .map entries => uptoBulkEntries entries + 1
  | .held _ => 1
def uptoBulkAll {H : Type} : List (DataW H) → Nat
  | [] => 0
  | d :: r => uptoBulk d + uptoBulkAll r
def uptoBulkEntries {H : Type} : List (Lit × DataW H) → Nat
  | [] => 0
  | x :: r => uptoBulkEntry x + uptoBulkEntries r
def uptoBulkEntry {H : Type} : Lit × DataW H → Nat
  | (.string bytes, d) => bytes.length + uptoBulk d + 1
  | (_, d) => uptoBulk d + 1
 end
def uptoSmall : (H : Type) → List (DataW H) → Bool := fun _ ds => decide (uptoBulkAll ds ≤ 1048576)
def OpenSpec.upto (s : _root_.Go.ChangeSpec) : _root_.Go.OpenSpec := { _root_.Go.OpenSpec.ofChange s with cond := some uptoSmall }

/-- 'gangwaylaw19.ReplayNumbers', WHERE WHAT IT READS IS OF BULK AT MOST 1048576: true; the input reads as it did. -/
def replayNumbersUptoRow : OpenClaim := { program := "ytinkkocleognbaagreatdoor", sum := "dfd36d4b3d317d75628097f0d5437dfc1d56b3ba6f709a39d0d3deb61eef4e81", func := "gangway/gangwaylaw19.ReplayNumbers", spec := "replayNumbers", unfollowed := true, recurses := true, named := ["gangway/records.fieldsOf"], apart := false, laid := [("gangway/records.fieldsOf", laid_gangway_records_fieldsOf)], narrowed := true }
def ReplayNumbersUptoSaid : Prop := replayNumbersUptoRow.holds Tryz.pinned (OpenSpec.upto replayNumbersSpec)

/-- 'gangwaylaw19.ReplayOf', WHERE WHAT IT READS IS OF BULK AT MOST 1048576: true; the input reads as it did. -/
def replayOfUptoRow : OpenClaim := { program := "ytinkkocleognbaagreatdoor", sum := "dfd36d4b3d317d75628097f0d5437dfc1d56b3ba6f709a39d0d3deb61eef4e81", func := "gangway/gangwaylaw19.ReplayOf", spec := "replayOf", unfollowed := true, recurses := true, named := ["gangway/records.fieldsOf"], apart := false, laid := [("gangway/records.fieldsOf", laid_gangway_records_fieldsOf)], narrowed := true }
def ReplayOfUptoSaid : Prop := replayOfUptoRow.holds Tryz.pinned (OpenSpec.upto replayOfSpec)

/-- 'gangwaylaw19.ReplayHistories', WHERE WHAT IT READS IS OF BULK AT MOST 1048576: true; the input reads as it did. -/
def replayHistoriesUptoRow : OpenClaim := { program := "ytinkkocleognbaagreatdoor", sum := "dfd36d4b3d317d75628097f0d5437dfc1d56b3ba6f709a39d0d3deb61eef4e81", func := "gangway/gangwaylaw19.ReplayHistories", spec := "replayHistories", unfollowed := true, recurses := true, named := ["gangway/records.fieldsOf"], apart := false, laid := [("gangway/records.fieldsOf", laid_gangway_records_fieldsOf)], narrowed := true }
def ReplayHistoriesUptoSaid : Prop := replayHistoriesUptoRow.holds Tryz.pinned (OpenSpec.upto replayHistoriesSpec)

/-- 'gangwaylaw19.ReplayRuns', WHERE WHAT IT READS IS OF BULK AT MOST 1048576: true; the input reads as it did. -/
def replayRunsUptoRow : OpenClaim := { program := "ytinkkocleognbaagreatdoor", sum := "dfd36d4b3d317d75628097f0d5437dfc1d56b3ba6f709a39d0d3deb61eef4e81", func := "gangway/gangwaylaw19.ReplayRuns", spec := "replayRuns", unfollowed := true, recurses := true, named := ["gangway/records.fieldsOf"], apart := false, laid := [("gangway/records.fieldsOf", laid_gangway_records_fieldsOf)], narrowed := true }
def ReplayRunsUptoSaid : Prop := replayRunsUptoRow.holds Tryz.pinned (OpenSpec.upto replayRunsSpec)

/-- 'gangwaylaw19.ReplayParts', WHERE WHAT IT READS IS OF BULK AT MOST 1048576: true; the input reads as it did. -/
def replayPartsUptoRow : OpenClaim := { program := "ytinkkocleognbaagreatdoor", sum := "dfd36d4b3d317d75628097f0d5437dfc1d56b3ba6f709a39d0d3deb61eef4e81", func := "gangway/gangwaylaw19.ReplayParts", spec := "replayParts", unfollowed := true, recurses := true, named := ["gangway/records.fieldsOf"], apart := false, laid := [("gangway/records.fieldsOf", laid_gangway_records_fieldsOf)], narrowed := true }
def ReplayPartsUptoSaid : Prop := replayPartsUptoRow.holds Tryz.pinned (OpenSpec.upto replayPartsSpec)

/-- 'gangwaylaw19.ReplayFinds', WHERE WHAT IT READS IS OF BULK AT MOST 1048576: true; the input reads as it did. -/
def replayFindsUptoRow : OpenClaim := { program := "ytinkkocleognbaagreatdoor", sum := "dfd36d4b3d317d75628097f0d5437dfc1d56b3ba6f709a39d0d3deb61eef4e81", func := "gangway/gangwaylaw19.ReplayFinds", spec := "replayFinds", unfollowed := true, recurses := true, named := ["gangway/records.fieldsOf"], apart := false, laid := [("gangway/records.fieldsOf", laid_gangway_records_fieldsOf)], narrowed := true }
def ReplayFindsUptoSaid : Prop := replayFindsUptoRow.holds Tryz.pinned (OpenSpec.upto replayFindsSpec)

end Rows
end Go.Proofs.YtinkkocleognbaaGreatDoor
