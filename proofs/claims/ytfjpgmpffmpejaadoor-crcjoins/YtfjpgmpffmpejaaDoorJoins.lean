/- The walk of CrcJoins. -/
import Derived.Test.YtfjpgmpffmpejaaDoorAwake
import Derived.Test.YtfjpgmpffmpejaaDoorTurn2
namespace Go.Proofs.YtfjpgmpffmpejaaDoor
open Go.RowKit
attribute [local go_sem ↓] Go.wp_at_zero Go.wp_at_succ

set_option maxHeartbeats 1000000 in
theorem joins_any (a b : Nat) (n : Int) (w : World) (hT : Tab w) (ha : a < 4294967296) (hb : b < 4294967296) (hn : n < 9223372036854775808) (hn0 : -9223372036854775808 ≤ n) :
    Calls Tryd.prog 4 #[.int .u32 (a : Int), .int .u32 (b : Int), .int .i64 n] w fun e w' => e = .returned (.bool true) ∧ w.grownBy w' none := by
  have hJ := fun w => join_any a b n ha hb hn w
  have hK := fun w => rjoin_any a b n ha hb hn hn0 w
  generalize joinN a b n = J at *
  have HJ := hide (And.intro hJ hK)
  have HT := hide hT
  clear hJ hK hT
  go_enter Tryd.func4, Tryd.ntmps4
  go_wp2_with fail
  refine (HJ.out.1 _).mono ?_
  rintro e w1 ⟨rfl, rfl⟩
  go_wp2_with fail
  refine (HJ.out.2 _).mono ?_
  rintro e w2 ⟨rfl, hg2⟩
  have G2 := hide hg2
  clear hg2
  go_wp2_with fail
  refine (awake_any _ (HT.out.grown G2.out)).mono ?_
  rintro e w3 ⟨rfl, hg3⟩
  have G3 := hide (grown_trans G2.out hg3)
  clear hg3
  go_wp2
  go_ret
  exact ⟨rfl, G3.out⟩
end Go.Proofs.YtfjpgmpffmpejaaDoor
