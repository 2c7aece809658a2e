/- HeapPlays answers true. -/
import Derived.Test.YtkbhjdjdjfdikaaRk
import Derived.Test.YtkbhjdjdjfdikaaRm
namespace Go.Proofs.Ytkbhjdjdjfdikaa
open Go.RowKit Ap Go.Shelf
theorem Pa.is (w0 w : World) (k : Int) (h r b n : Nat) (S : Nat → Prop) (t : Pa w0 w k h r b n S) (hk : 0 ≤ k) (hn : n ≤ 50000) (xa : Int) (hx : I64 xa) : Calls Try.prog 12 #[.agg (paV h r k).toArray, .int .i64 xa] w fun e w' => e = .returned (.bool true) ∧ w.grownBy w' none := by
  obtain ⟨p, vl, E, X, N, B, rfl, t, s, h1, h2, -, -⟩ := t
  exact is_tw t s hk (by omega) (by omega) xa hx
theorem heapPlays_any (one two : Int) (ao : Option Addr) (len cap : Nat) (os : List OpD) (w : World) (hlen : os.length = len) (hO : OpsAt w ao os) (hok : ∀ o ∈ os, o.Ok) (hc : len ≤ cap) :
    Calls Try.prog 3 #[.int .i64 one, .int .i64 two, .slice ao len cap] w fun e w' => e = .returned (.bool true) ∧ w.grownBy w' none :=
  heapPlays_of Pa.is one two ao len cap os w hlen hO hok hc
end Go.Proofs.Ytkbhjdjdjfdikaa
