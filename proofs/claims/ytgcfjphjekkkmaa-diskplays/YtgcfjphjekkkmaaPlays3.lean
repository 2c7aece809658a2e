/- DiskPlays answers true. -/
import Derived.Test.YtgcfjphjekkkmaaPlays
import Derived.Test.YtgcfjphjekkkmaaPlays2
namespace Go.Proofs.Ytgcfjphjekkkmaa
open Go.RowKit Ap

theorem plays_any (s z : Int) (ao : Option Addr) (m cap : Nat) (os : List OpD) (w : World) (hm : os.length = m) (hm2 : m ≤ 140737488355328) (ho : OpsAt w ao os) :
    Calls Try.prog 3 #[.int .i64 s, .int .i64 z, .slice ao m cap] w fun e w' => e = .returned (.bool true) ∧ w.grownBy w' none := by
  cases hmay : mayB s z with
  | false => exact plays_bad s z hmay ao m cap os w hm hm2 ho
  | true =>
    by_cases hs : s ≤ 64 ∧ z ≤ 512
    · obtain ⟨h1, h2, h3, h4, _, _⟩ := (mayB_iff s z).1 hmay
      obtain ⟨a, rfl⟩ := Int.eq_ofNat_of_zero_le (show 0 ≤ s by omega)
      obtain ⟨b, rfl⟩ := Int.eq_ofNat_of_zero_le (show 0 ≤ z by omega)
      exact plays_ok a b hmay (by omega) (by omega) ao m cap os w hm hm2 ho
    · exact plays_big s z hmay hs _ w
end Go.Proofs.Ytgcfjphjekkkmaa
