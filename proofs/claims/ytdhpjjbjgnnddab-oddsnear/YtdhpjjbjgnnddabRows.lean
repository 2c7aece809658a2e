/-
  No cell of these rows narrows 'for every input' (looked for: loops, veiled, ifaces, maps, wideKeys, modest, calm, conditions, laid).
  DERIVED. THE GIVEN ROWS OF THIS SEAT. 3 by the template 'for every input the law returns true; each argument reads behind the call as it read before'; 0 by the template 'total and deterministic' (their statements: YtdhpjjbjgnnddabTotals.lean).
  GIVEN WITH THE SEED: the statements are not yours to turn. If you find one false, say at which input.
  Laid BY PROGRAM, IN A SANDBOX (cutbox-rows.mjs): the forced cells as the released guide's own fill.sh prints them over the translation 486c1636c6d386ec… (all of the seat's roots in one cut). By AI agents, Wed Nov 11 2026. No macro, syntax, notation, axiom, sorry.
-/
import Derived.Test.YtdhpjjbjgnnddabChecked
import GoSem.Claim
import GoSem.ClaimJoined
import GoSem.ClaimMapViews
import Derived.JoinedTies
import Derived.KernelRfl
namespace Go.Proofs.Ytdhpjjbjgnnddab
/- THE CELL 'sum', in the pinned program and in every row, IS THE sha256 OF THE DUMP (.gsa) THAT YtdhpjjbjgnnddabProg.lean LOADS. Nothing in Lean hashes anything: it is a label: what it is worth is what the hold of that sum in a sandbox is worth. -/
noncomputable def Try.pinned : Pinned := { name := "ytdhpjjbjgnnddab", sum := "486c1636c6d386ec5acabda990f6616fce3d5c348c09ae64bc57727e2b706174", checked := Try.checked }
namespace Rows
def none {H : Type} : Left H := { results := [], args := [] }

/-- 'gangwaylaw25.OddsExact': WHATEVER THE INPUT: true; the input reads as it did. -/
def oddsExactSpec : ChangeSpec := { name := "oddsExact", fn := fun _ => fun
  | [d] => { results := [.lit (.bool true)], args := [d] }
  | _ => none }
def oddsExactRow : OpenClaim := { program := "ytdhpjjbjgnnddab", sum := "486c1636c6d386ec5acabda990f6616fce3d5c348c09ae64bc57727e2b706174", func := "gangway/gangwaylaw25.OddsExact", spec := "oddsExact", inPlace := ["math.RoundToEven", "math.Float64bits"], apart := false }
def OddsExactSaid : Prop := oddsExactRow.holds Try.pinned (OpenSpec.ofChange oddsExactSpec)

/-- ITS FALSE NEIGHBOUR: 'it returns false'. Refute it at one input. -/
def oddsExactWrong : ChangeSpec := { name := "oddsExact", fn := fun _ => fun
  | [d] => { results := [.lit (.bool false)], args := [d] }
  | _ => none }
def OddsExactWrongFalsely : Prop := oddsExactRow.holds Try.pinned (OpenSpec.ofChange oddsExactWrong)

/-- 'gangwaylaw25.OddsNear': WHATEVER THE INPUT: true; the input reads as it did. -/
def oddsNearSpec : ChangeSpec := { name := "oddsNear", fn := fun _ => fun
  | [d] => { results := [.lit (.bool true)], args := [d] }
  | _ => none }
def oddsNearRow : OpenClaim := { program := "ytdhpjjbjgnnddab", sum := "486c1636c6d386ec5acabda990f6616fce3d5c348c09ae64bc57727e2b706174", func := "gangway/gangwaylaw25.OddsNear", spec := "oddsNear", inPlace := ["math.RoundToEven", "math.Float64bits"], apart := false }
def OddsNearSaid : Prop := oddsNearRow.holds Try.pinned (OpenSpec.ofChange oddsNearSpec)

/-- ITS FALSE NEIGHBOUR: 'it returns false'. Refute it at one input. -/
def oddsNearWrong : ChangeSpec := { name := "oddsNear", fn := fun _ => fun
  | [d] => { results := [.lit (.bool false)], args := [d] }
  | _ => none }
def OddsNearWrongFalsely : Prop := oddsNearRow.holds Try.pinned (OpenSpec.ofChange oddsNearWrong)

/-- 'gangwaylaw25.OddsSpares': WHATEVER THE INPUT: true; the input reads as it did. -/
def oddsSparesSpec : ChangeSpec := { name := "oddsSpares", fn := fun _ => fun
  | [d1, d2] => { results := [.lit (.bool true)], args := [d1, d2] }
  | _ => none }
def oddsSparesRow : OpenClaim := { program := "ytdhpjjbjgnnddab", sum := "486c1636c6d386ec5acabda990f6616fce3d5c348c09ae64bc57727e2b706174", func := "gangway/gangwaylaw25.OddsSpares", spec := "oddsSpares", inPlace := ["math.Float64bits", "math.RoundToEven"], apart := false }
def OddsSparesSaid : Prop := oddsSparesRow.holds Try.pinned (OpenSpec.ofChange oddsSparesSpec)

/-- ITS FALSE NEIGHBOUR: 'it returns false'. Refute it at one input. -/
def oddsSparesWrong : ChangeSpec := { name := "oddsSpares", fn := fun _ => fun
  | [d1, d2] => { results := [.lit (.bool false)], args := [d1, d2] }
  | _ => none }
def OddsSparesWrongFalsely : Prop := oddsSparesRow.holds Try.pinned (OpenSpec.ofChange oddsSparesWrong)

/- THE SECOND FORM. 'bulk': how many values and letters a reading holds, each counted each time it is reached (what is shared counts as often as it is met; a slice's spare places count too). A statement '..UptoSaid' is the law's where the arguments, and the package variables that the reading takes, are together of bulk at most 1048576: NARROWER than '..Said'. Prove '..Said' where nothing that the law and all that it calls make is longer than what came in: it says more and counts as full. Else prove '..UptoSaid'. A law counts once. -/
mutual
def uptoBulk {H : Type} : DataW H → Nat
  | .lit (.string bytes) => bytes.length + 1
  | .lit _ => 1
  | .nil => 1
  | .ptr d => uptoBulk d + 1
  | .slice elems spare => uptoBulkAll elems + uptoBulkAll spare + 1
  | .agg parts => uptoBulkAll parts + 1
  | .iface _ d => uptoBulk d + 1
  | .map entries => uptoBulkEntries entries + 1
  | .held _ => 1
def uptoBulkAll {H : Type} : List (DataW H) → Nat
  | [] => 0
  | d :: r => uptoBulk d + uptoBulkAll r
def uptoBulkEntries {H : Type} : List (Lit × DataW H) → Nat
  | [] => 0
  | x :: r => uptoBulkEntry x + uptoBulkEntries r
def uptoBulkEntry {H : Type} : Lit × DataW H → Nat
  | (.string bytes, d) => bytes.length + uptoBulk d + 1
  | (_, d) => uptoBulk d + 1
 end
def uptoSmall : (H : Type) → List (DataW H) → Bool := fun _ ds => decide (uptoBulkAll ds ≤ 1048576)
def OpenSpec.upto (s : _root_.Go.ChangeSpec) : _root_.Go.OpenSpec := { _root_.Go.OpenSpec.ofChange s with cond := some uptoSmall }

/-- 'gangwaylaw25.OddsExact', WHERE WHAT IT READS IS OF BULK AT MOST 1048576: true; the input reads as it did. -/
def oddsExactUptoRow : OpenClaim := { program := "ytdhpjjbjgnnddab", sum := "486c1636c6d386ec5acabda990f6616fce3d5c348c09ae64bc57727e2b706174", func := "gangway/gangwaylaw25.OddsExact", spec := "oddsExact", inPlace := ["math.RoundToEven", "math.Float64bits"], apart := false, narrowed := true }
def OddsExactUptoSaid : Prop := oddsExactUptoRow.holds Try.pinned (OpenSpec.upto oddsExactSpec)

/-- 'gangwaylaw25.OddsNear', WHERE WHAT IT READS IS OF BULK AT MOST 1048576: true; the input reads as it did. -/
def oddsNearUptoRow : OpenClaim := { program := "ytdhpjjbjgnnddab", sum := "486c1636c6d386ec5acabda990f6616fce3d5c348c09ae64bc57727e2b706174", func := "gangway/gangwaylaw25.OddsNear", spec := "oddsNear", inPlace := ["math.RoundToEven", "math.Float64bits"], apart := false, narrowed := true }
def OddsNearUptoSaid : Prop := oddsNearUptoRow.holds Try.pinned (OpenSpec.upto oddsNearSpec)

/-- 'gangwaylaw25.OddsSpares', WHERE WHAT IT READS IS OF BULK AT MOST 1048576: true; the input reads as it did. -/
def oddsSparesUptoRow : OpenClaim := { program := "ytdhpjjbjgnnddab", sum := "486c1636c6d386ec5acabda990f6616fce3d5c348c09ae64bc57727e2b706174", func := "gangway/gangwaylaw25.OddsSpares", spec := "oddsSpares", inPlace := ["math.Float64bits", "math.RoundToEven"], apart := false, narrowed := true }
def OddsSparesUptoSaid : Prop := oddsSparesUptoRow.holds Try.pinned (OpenSpec.upto oddsSparesSpec)

end Rows
end Go.Proofs.Ytdhpjjbjgnnddab
