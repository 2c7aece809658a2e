/- The contracts of CopyBytes and SameBytes, on rows of bytes. -/
import Derived.Test.YtbebblhnhpdpjaaL0
namespace Go.Proofs.Ytbebblhnhpdpjaa.Al
open Go.RowKit
attribute [local go_sem ↓] Go.wp_at_zero Go.wp_at_succ
attribute [local go_sem] run_store_float

set_option maxHeartbeats 400000 in
theorem copy_any (ao : Option Addr) (n cap : Nat) (xs : List Nat) (w : World) (hn : xs.length = n) (hat : At w ao xs) (hnil : ao = none → n = 0 ∧ cap = 0) (hb : n ≤ 17592186044416) :
    Calls Try.prog 30 #[.slice ao n cap] w fun e w' => ∃ v, e = .returned v ∧ w'.ownsRow w.heap.size 33 1 v n (bv xs) ∧ w.grownBy w' none := by
  have Hn := hide hn
  clear hn
  go_enter Try.func30, Try.ntmps30
  go_wp2_with (at_builtin; refine wpList_append_at rfl (.tmp 4) (.tmp 5) rfl w.heap.size (.slice none 0 0) 0 [] rfl (World.ownsRow_nil _ _ _ _) ao n cap xs rfl Hn.out hat hnil (by omega) (Nat.le_refl _) ?_)
  intro v' w' hown hg
  obtain ⟨ao', cap', rfl, hr⟩ := own_at hown
  clear hr
  go_wp2
  go_ret
  exact ⟨_, rfl, by simpa using hown, grown_then (grown_refl w none) hg (fun k e => by cases e)⟩

end Go.Proofs.Ytbebblhnhpdpjaa.Al
