/-
  NARROWER THAN 'FOR EVERY INPUT', by the rows' own cells (each row's printed sentence says how): CasesNumbers: laid · CasesDecides: laid · CasesAsks: laid · CasesReplies: laid · CasesApply: laid · CasesRoom: laid.
  DERIVED. THE GIVEN ROWS OF THIS SEAT. 6 by the template 'for every input the law returns true; each argument reads behind the call as it read before'; 0 by the template 'total and deterministic' (their statements: YtjfhilignbeboaaGreatDoorTotals.lean).
  GIVEN WITH THE SEED: the statements are not yours to turn. If you find one false, say at which input.
  Laid BY PROGRAM, IN A SANDBOX (cutbox-rows.mjs): the forced cells as the released guide's own fill.sh prints them over the translation 3d2e16fe050f29c3… (all of the seat's roots in one cut). By AI agents, Wed Nov 11 2026. No macro, syntax, notation, axiom, sorry.
-/
import Derived.Test.YtjfhilignbeboaaGreatDoorChecked
import GoSem.Claim
import GoSem.ClaimJoined
import GoSem.ClaimMapViews
import Derived.JoinedTies
import Derived.KernelRfl
namespace Go.Proofs.YtjfhilignbeboaaGreatDoor
/- THE CELL 'sum', in the pinned program and in every row, IS THE sha256 OF THE DUMP (.gsa) THAT YtjfhilignbeboaaGreatDoorProg.lean LOADS. Nothing in Lean hashes anything: it is a label: what it is worth is what the hold of that sum in a sandbox is worth. -/
noncomputable def Tryz.pinned : Pinned := { name := "ytjfhilignbeboaagreatdoor", sum := "3d2e16fe050f29c39fd3a6baeb5bfb07614f155f9d7a16d2531b1bc7dd5f3457", checked := Tryz.checked }
namespace Rows
def none {H : Type} : Left H := { results := [], args := [] }

/- WHAT THE LISTED PACKAGE-LEVEL VARIABLES READ AS WHEN THE CALL BEGINS. Each datum BY PROGRAM (the guide's laid-datum.mjs) off the statement by which the dump's own 'gosem.cut.vars' lays the variable. In a bare row this is a premise. The card (YtjfhilignbeboaaGreatDoorCards.lean) ties it to the program's text. -/
def laid_gangway_records_fieldsOf {H : Type} : DataW H := .agg [.agg [.lit (.bool false), .lit (.bool false), .lit (.bool false), .lit (.bool false)], .agg [.lit (.bool true), .lit (.bool true), .lit (.bool true), .lit (.bool false)], .agg [.lit (.bool true), .lit (.bool false), .lit (.bool false), .lit (.bool false)], .agg [.lit (.bool true), .lit (.bool false), .lit (.bool false), .lit (.bool false)], .agg [.lit (.bool true), .lit (.bool true), .lit (.bool false), .lit (.bool false)], .agg [.lit (.bool false), .lit (.bool false), .lit (.bool false), .lit (.bool true)]]
def laid_gangway_replies_fieldsOf {H : Type} : DataW H := .agg [.lit (.int .u8 0), .lit (.int .u8 5), .lit (.int .u8 0), .lit (.int .u8 0), .lit (.int .u8 2), .lit (.int .u8 6), .lit (.int .u8 5), .lit (.int .u8 4), .lit (.int .u8 8), .lit (.int .u8 8), .lit (.int .u8 8)]

/-- 'gangwaylaw22.CasesNumbers': WHATEVER THE INPUT: true; the input reads as it did. -/
def casesNumbersSpec : ChangeSpec := { name := "casesNumbers", fn := fun _ => fun
  | [] => { results := [.lit (.bool true)], args := [] }
  | _ => none }
def casesNumbersRow : OpenClaim := { program := "ytjfhilignbeboaagreatdoor", sum := "3d2e16fe050f29c39fd3a6baeb5bfb07614f155f9d7a16d2531b1bc7dd5f3457", func := "gangway/gangwaylaw22.CasesNumbers", spec := "casesNumbers", unfollowed := true, recurses := true, named := ["gangway/records.fieldsOf"], apart := false, laid := [("gangway/records.fieldsOf", laid_gangway_records_fieldsOf)] }
def CasesNumbersSaid : Prop := casesNumbersRow.holds Tryz.pinned (OpenSpec.ofChange casesNumbersSpec)

/-- ITS FALSE NEIGHBOUR: 'it returns false'. Refute it at one input. -/
def casesNumbersWrong : ChangeSpec := { name := "casesNumbers", fn := fun _ => fun
  | [] => { results := [.lit (.bool false)], args := [] }
  | _ => none }
def CasesNumbersWrongFalsely : Prop := casesNumbersRow.holds Tryz.pinned (OpenSpec.ofChange casesNumbersWrong)

/-- 'gangwaylaw22.CasesDecides': WHATEVER THE INPUT: true; the input reads as it did. -/
def casesDecidesSpec : ChangeSpec := { name := "casesDecides", fn := fun _ => fun
  | [d1, d2, d3] => { results := [.lit (.bool true)], args := [d1, d2, d3] }
  | _ => none }
def casesDecidesRow : OpenClaim := { program := "ytjfhilignbeboaagreatdoor", sum := "3d2e16fe050f29c39fd3a6baeb5bfb07614f155f9d7a16d2531b1bc7dd5f3457", func := "gangway/gangwaylaw22.CasesDecides", spec := "casesDecides", unfollowed := true, recurses := true, named := ["gangway/records.fieldsOf"], apart := false, laid := [("gangway/records.fieldsOf", laid_gangway_records_fieldsOf)] }
def CasesDecidesSaid : Prop := casesDecidesRow.holds Tryz.pinned (OpenSpec.ofChange casesDecidesSpec)

/-- ITS FALSE NEIGHBOUR: 'it returns false'. Refute it at one input. -/
def casesDecidesWrong : ChangeSpec := { name := "casesDecides", fn := fun _ => fun
  | [d1, d2, d3] => { results := [.lit (.bool false)], args := [d1, d2, d3] }
  | _ => none }
def CasesDecidesWrongFalsely : Prop := casesDecidesRow.holds Tryz.pinned (OpenSpec.ofChange casesDecidesWrong)

/-- 'gangwaylaw22.CasesAsks': WHATEVER THE INPUT: true; the input reads as it did. -/
def casesAsksSpec : ChangeSpec := { name := "casesAsks", fn := fun _ => fun
  | [d1, d2, d3] => { results := [.lit (.bool true)], args := [d1, d2, d3] }
  | _ => none }
def casesAsksRow : OpenClaim := { program := "ytjfhilignbeboaagreatdoor", sum := "3d2e16fe050f29c39fd3a6baeb5bfb07614f155f9d7a16d2531b1bc7dd5f3457", func := "gangway/gangwaylaw22.CasesAsks", spec := "casesAsks", unfollowed := true, recurses := true, named := ["gangway/records.fieldsOf"], apart := false, laid := [("gangway/records.fieldsOf", laid_gangway_records_fieldsOf)] }
def CasesAsksSaid : Prop := casesAsksRow.holds Tryz.pinned (OpenSpec.ofChange casesAsksSpec)

/-- ITS FALSE NEIGHBOUR: 'it returns false'. Refute it at one input. -/
def casesAsksWrong : ChangeSpec := { name := "casesAsks", fn := fun _ => fun
  | [d1, d2, d3] => { results := [.lit (.bool false)], args := [d1, d2, d3] }
  | _ => none }
def CasesAsksWrongFalsely : Prop := casesAsksRow.holds Tryz.pinned (OpenSpec.ofChange casesAsksWrong)

/-- 'gangwaylaw22.CasesReplies': WHATEVER THE INPUT: true; the input reads as it did. -/
def casesRepliesSpec : ChangeSpec := { name := "casesReplies", fn := fun _ => fun
  | [d1, d2] => { results := [.lit (.bool true)], args := [d1, d2] }
  | _ => none }
def casesRepliesRow : OpenClaim := { program := "ytjfhilignbeboaagreatdoor", sum := "3d2e16fe050f29c39fd3a6baeb5bfb07614f155f9d7a16d2531b1bc7dd5f3457", func := "gangway/gangwaylaw22.CasesReplies", spec := "casesReplies", unfollowed := true, recurses := true, named := ["gangway/records.fieldsOf"], apart := false, laid := [("gangway/records.fieldsOf", laid_gangway_records_fieldsOf)] }
def CasesRepliesSaid : Prop := casesRepliesRow.holds Tryz.pinned (OpenSpec.ofChange casesRepliesSpec)

/-- ITS FALSE NEIGHBOUR: 'it returns false'. Refute it at one input. -/
def casesRepliesWrong : ChangeSpec := { name := "casesReplies", fn := fun _ => fun
  | [d1, d2] => { results := [.lit (.bool false)], args := [d1, d2] }
  | _ => none }
def CasesRepliesWrongFalsely : Prop := casesRepliesRow.holds Tryz.pinned (OpenSpec.ofChange casesRepliesWrong)

/-- 'gangwaylaw22.CasesApply': WHATEVER THE INPUT: true; the input reads as it did. -/
def casesApplySpec : ChangeSpec := { name := "casesApply", fn := fun _ => fun
  | [d1, d2, d3] => { results := [.lit (.bool true)], args := [d1, d2, d3] }
  | _ => none }
def casesApplyRow : OpenClaim := { program := "ytjfhilignbeboaagreatdoor", sum := "3d2e16fe050f29c39fd3a6baeb5bfb07614f155f9d7a16d2531b1bc7dd5f3457", func := "gangway/gangwaylaw22.CasesApply", spec := "casesApply", unfollowed := true, recurses := true, named := ["gangway/records.fieldsOf", "gangway/replies.fieldsOf"], apart := false, laid := [("gangway/records.fieldsOf", laid_gangway_records_fieldsOf), ("gangway/replies.fieldsOf", laid_gangway_replies_fieldsOf)] }
def CasesApplySaid : Prop := casesApplyRow.holds Tryz.pinned (OpenSpec.ofChange casesApplySpec)

/-- ITS FALSE NEIGHBOUR: 'it returns false'. Refute it at one input. -/
def casesApplyWrong : ChangeSpec := { name := "casesApply", fn := fun _ => fun
  | [d1, d2, d3] => { results := [.lit (.bool false)], args := [d1, d2, d3] }
  | _ => none }
def CasesApplyWrongFalsely : Prop := casesApplyRow.holds Tryz.pinned (OpenSpec.ofChange casesApplyWrong)

/-- 'gangwaylaw22.CasesRoom': WHATEVER THE INPUT: true; the input reads as it did. -/
def casesRoomSpec : ChangeSpec := { name := "casesRoom", fn := fun _ => fun
  | [d1, d2, d3] => { results := [.lit (.bool true)], args := [d1, d2, d3] }
  | _ => none }
def casesRoomRow : OpenClaim := { program := "ytjfhilignbeboaagreatdoor", sum := "3d2e16fe050f29c39fd3a6baeb5bfb07614f155f9d7a16d2531b1bc7dd5f3457", func := "gangway/gangwaylaw22.CasesRoom", spec := "casesRoom", unfollowed := true, recurses := true, named := ["gangway/records.fieldsOf"], apart := false, laid := [("gangway/records.fieldsOf", laid_gangway_records_fieldsOf)] }
def CasesRoomSaid : Prop := casesRoomRow.holds Tryz.pinned (OpenSpec.ofChange casesRoomSpec)

/-- ITS FALSE NEIGHBOUR: 'it returns false'. Refute it at one input. -/
def casesRoomWrong : ChangeSpec := { name := "casesRoom", fn := fun _ => fun
  | [d1, d2, d3] => { results := [.lit (.bool false)], args := [d1, d2, d3] }
  | _ => none }
def CasesRoomWrongFalsely : Prop := casesRoomRow.holds Tryz.pinned (OpenSpec.ofChange casesRoomWrong)

/- THE SECOND FORM. 'bulk': how many values and letters a reading holds, each counted each time it is reached (what is shared counts as often as it is met; a slice's spare places count too). A statement '..UptoSaid' is the law's where the arguments, and the package variables that the reading takes, are together of bulk at most 1048576: NARROWER than '..Said'. Prove '..Said' where nothing that the law and all that it calls make is longer than what came in: it says more and counts as full. Else prove '..UptoSaid'. A law counts once. -/
mutual
def uptoBulk {H : Type} : DataW H → Nat
  | .lit (.string bytes) => bytes.length + 1
  | .lit _ => 1
  | .nil => 1
  | .ptr d => uptoBulk d + 1
  | .slice elems spare => uptoBulkAll elems + uptoBulkAll spare + 1
  | .agg parts => uptoBulkAll parts + 1
  | .iface _ d => uptoBulk d + 1
  | .map entries => uptoBulkEntries entries + 1
  | .held _ => 1
def uptoBulkAll {H : Type} : List (DataW H) → Nat
  | [] => 0
  | d :: r => uptoBulk d + uptoBulkAll r
def uptoBulkEntries {H : Type} : List (Lit × DataW H) → Nat
  | [] => 0
  | x :: r => uptoBulkEntry x + uptoBulkEntries r
def uptoBulkEntry {H : Type} : Lit × DataW H → Nat
  | (.string bytes, d) => bytes.length + uptoBulk d + 1
  | (_, d) => uptoBulk d + 1
 end
def uptoSmall : (H : Type) → List (DataW H) → Bool := fun _ ds => decide (uptoBulkAll ds ≤ 1048576)
def OpenSpec.upto (s : _root_.Go.ChangeSpec) : _root_.Go.OpenSpec := { _root_.Go.OpenSpec.ofChange s with cond := some uptoSmall }

/-- 'gangwaylaw22.CasesNumbers', WHERE WHAT IT READS IS OF BULK AT MOST 1048576: true; the input reads as it did. -/
def casesNumbersUptoRow : OpenClaim := { program := "ytjfhilignbeboaagreatdoor", sum := "3d2e16fe050f29c39fd3a6baeb5bfb07614f155f9d7a16d2531b1bc7dd5f3457", func := "gangway/gangwaylaw22.CasesNumbers", spec := "casesNumbers", unfollowed := true, recurses := true, named := ["gangway/records.fieldsOf"], apart := false, laid := [("gangway/records.fieldsOf", laid_gangway_records_fieldsOf)], narrowed := true }
def CasesNumbersUptoSaid : Prop := casesNumbersUptoRow.holds Tryz.pinned (OpenSpec.upto casesNumbersSpec)

/-- 'gangwaylaw22.CasesDecides', WHERE WHAT IT READS IS OF BULK AT MOST 1048576: true; the input reads as it did. -/
def casesDecidesUptoRow : OpenClaim := { program := "ytjfhilignbeboaagreatdoor", sum := "3d2e16fe050f29c39fd3a6baeb5bfb07614f155f9d7a16d2531b1bc7dd5f3457", func := "gangway/gangwaylaw22.CasesDecides", spec := "casesDecides", unfollowed := true, recurses := true, named := ["gangway/records.fieldsOf"], apart := false, laid := [("gangway/records.fieldsOf", laid_gangway_records_fieldsOf)], narrowed := true }
def CasesDecidesUptoSaid : Prop := casesDecidesUptoRow.holds Tryz.pinned (OpenSpec.upto casesDecidesSpec)

/-- 'gangwaylaw22.CasesAsks', WHERE WHAT IT READS IS OF BULK AT MOST 1048576: true; the input reads as it did. -/
def casesAsksUptoRow : OpenClaim := { program := "ytjfhilignbeboaagreatdoor", sum := "3d2e16fe050f29c39fd3a6baeb5bfb07614f155f9d7a16d2531b1bc7dd5f3457", func := "gangway/gangwaylaw22.CasesAsks", spec := "casesAsks", unfollowed := true, recurses := true, named := ["gangway/records.fieldsOf"], apart := false, laid := [("gangway/records.fieldsOf", laid_gangway_records_fieldsOf)], narrowed := true }
def CasesAsksUptoSaid : Prop := casesAsksUptoRow.holds Tryz.pinned (OpenSpec.upto casesAsksSpec)

/-- 'gangwaylaw22.CasesReplies', WHERE WHAT IT READS IS OF BULK AT MOST 1048576: true; the input reads as it did. -/
def casesRepliesUptoRow : OpenClaim := { program := "ytjfhilignbeboaagreatdoor", sum := "3d2e16fe050f29c39fd3a6baeb5bfb07614f155f9d7a16d2531b1bc7dd5f3457", func := "gangway/gangwaylaw22.CasesReplies", spec := "casesReplies", unfollowed := true, recurses := true, named := ["gangway/records.fieldsOf"], apart := false, laid := [("gangway/records.fieldsOf", laid_gangway_records_fieldsOf)], narrowed := true }
def CasesRepliesUptoSaid : Prop := casesRepliesUptoRow.holds Tryz.pinned (OpenSpec.upto casesRepliesSpec)

/-- 'gangwaylaw22.CasesApply', WHERE WHAT IT READS IS OF BULK AT MOST 1048576: true; the input reads as it did. -/
def casesApplyUptoRow : OpenClaim := { program := "ytjfhilignbeboaagreatdoor", sum := "3d2e16fe050f29c39fd3a6baeb5bfb07614f155f9d7a16d2531b1bc7dd5f3457", func := "gangway/gangwaylaw22.CasesApply", spec := "casesApply", unfollowed := true, recurses := true, named := ["gangway/records.fieldsOf", "gangway/replies.fieldsOf"], apart := false, laid := [("gangway/records.fieldsOf", laid_gangway_records_fieldsOf), ("gangway/replies.fieldsOf", laid_gangway_replies_fieldsOf)], narrowed := true }
def CasesApplyUptoSaid : Prop := casesApplyUptoRow.holds Tryz.pinned (OpenSpec.upto casesApplySpec)

/-- 'gangwaylaw22.CasesRoom', WHERE WHAT IT READS IS OF BULK AT MOST 1048576: true; the input reads as it did. -/
def casesRoomUptoRow : OpenClaim := { program := "ytjfhilignbeboaagreatdoor", sum := "3d2e16fe050f29c39fd3a6baeb5bfb07614f155f9d7a16d2531b1bc7dd5f3457", func := "gangway/gangwaylaw22.CasesRoom", spec := "casesRoom", unfollowed := true, recurses := true, named := ["gangway/records.fieldsOf"], apart := false, laid := [("gangway/records.fieldsOf", laid_gangway_records_fieldsOf)], narrowed := true }
def CasesRoomUptoSaid : Prop := casesRoomUptoRow.holds Tryz.pinned (OpenSpec.upto casesRoomSpec)

end Rows
end Go.Proofs.YtjfhilignbeboaaGreatDoor
