/- The contracts of CopyBytes and SameBytes, on rows of bytes. -/
import Derived.Test.YtodonfdkegfmfabL0
namespace Go.Proofs.Ytodonfdkegfmfab.Al
open Go.RowKit
attribute [local go_sem ↓] Go.wp_at_zero Go.wp_at_succ

set_option maxHeartbeats 400000 in
theorem copy_any (ao : Option Addr) (n cap : Nat) (xs : List Nat) (w : World) (hn : xs.length = n) (hat : At w ao xs) (hnil : ao = none → n = 0 ∧ cap = 0) (hb : n ≤ 17592186044416) :
    Calls Try.prog 6 #[.slice ao n cap] w fun e w' => ∃ v, e = .returned v ∧ w'.ownsRow w.heap.size 22 1 v n (bv xs) ∧ w.grownBy w' none := by
  have Hn := hide hn
  clear hn
  go_enter Try.func6, Try.ntmps6
  go_wp2_with (at_builtin; refine wpList_append_at rfl (.tmp 4) (.tmp 5) rfl w.heap.size (.slice none 0 0) 0 [] rfl (World.ownsRow_nil _ _ _ _) ao n cap xs rfl Hn.out hat hnil (by omega) (Nat.le_refl _) ?_)
  intro v' w' hown hg
  obtain ⟨ao', cap', rfl, hr⟩ := own_at hown
  clear hr
  go_wp2
  go_ret
  exact ⟨_, rfl, by simpa using hown, grown_then (grown_refl w none) hg (fun k e => by cases e)⟩

set_option maxHeartbeats 1000000 in
theorem sameBytes_eq (ao bo : Option Addr) (n c d : Nat) (xs : List Nat) (w : World) (hn : xs.length = n) (ha : At w ao xs) (hb : At w bo xs) (hm : n ≤ 4611686018427387904) :
    Calls Try.prog 8 #[.slice ao n c, .slice bo n d] w fun e w' => e = .returned (.bool true) ∧ w.grownBy w' none := by
  have HA := hide (And.intro hn (And.intro ha hb))
  clear hn ha hb
  go_enter Try.func8, Try.ntmps8
  go_wp2
  go_loopg [5] n (fun k i wr => ∃ j : Nat, k + j = n ∧ i = .int .i64 j ∧ w.grownBy wr none)
  case atStart => exact ⟨0, by omega, rfl, grown_refl _ _⟩
  case round =>
    obtain ⟨j, hkj, rfl, hg⟩ := hrel
    by_cases hk : 0 < gk
    · obtain ⟨hn, ha, hb⟩ := HA.out
      have hj : j < xs.length := by omega
      obtain ⟨a, rfl, hca⟩ := ha j xs[j] (by simp [hj])
      obtain ⟨b, rfl, hcb⟩ := hb j xs[j] (by simp [hj])
      have hca' := hg.cell hca (by simp)
      have hcb' := hg.cell hcb (by simp)
      have h1 : (0 : Int) ≤ (j : Int) := by omega
      have h2 : (j : Int) < (n : Int) := by omega
      generalize xs[j] = x at *
      clear hn ha hb hca hcb hj
      go_wp2
      go_region_held3 (fun w' => w'.cell? (a.add j) = some (.int .u64 (x : Int)) ∧ w'.cell? (b.add j) = some (.int .u64 (x : Int))) (go_keep) (fail)
      go_wp2
      go_roundg (gk - 1)
      case measure => omega
      case rel => exact ⟨j + 1, by omega, by go_num, grown_trans hg (grown_drew _ _)⟩
    · have hj : j = n := by omega
      subst hj
      go_wp2
      go_ret
      exact ⟨rfl, hg⟩
end Go.Proofs.Ytodonfdkegfmfab.Al
