/- Contracts of the statements' own helpers: bits, Pick. -/
import Derived.Test.YtdhpjjbjgnnddabOl
import Derived.Test.YtdhpjjbjgnnddabOg
namespace Go.Proofs.Ytdhpjjbjgnnddab
open Go.RowKit
attribute [local go_sem ↓] Go.wp_at_zero Go.wp_at_succ
attribute [local go_sem] run_store_float

theorem At.take {w : World} {ao : Option Addr} {xs : List Nat} (h : At w ao xs) {j : Nat} (hj : j < xs.length) : ∃ a, ao = some a ∧ w.cell? (a.add j) = some (.float .f64 (xs.getD j 0)) :=
  h j _ (by rw [List.getD_eq_getElem?_getD, List.getElem?_eq_getElem hj]; rfl)

set_option maxHeartbeats 1000000 in
theorem bits_eq (ao bo : Option Addr) (n c d : Nat) (xs : List Nat) (w : World) (hn : n = xs.length) (ha : At w ao xs) (hb : At w bo xs) (hm : n ≤ 4611686018427387904) :
    Calls Try.prog 12 #[.slice ao n c, .slice bo n d] w fun e w' => e = .returned (.bool true) ∧ w.grownBy w' none := by
  have HA := hide (And.intro hn (And.intro ha hb))
  clear hn ha hb
  go_enter Try.func12, Try.ntmps12
  go_wp2
  go_loopg [5] n (fun k i wr => ∃ j : Nat, k + j = n ∧ i = .int .i64 j ∧ w.grownBy wr none)
  case atStart => exact ⟨0, by omega, rfl, grown_refl _ _⟩
  case round =>
    obtain ⟨j, hkj, rfl, hg⟩ := hrel
    by_cases hk : 0 < gk
    · obtain ⟨hn, ha, hb⟩ := HA.out
      have hj : j < xs.length := by omega
      obtain ⟨a, rfl, hca⟩ := ha.take hj
      obtain ⟨b, rfl, hcb⟩ := hb.take hj
      have hca' := hg.cell hca (by simp)
      have hcb' := hg.cell hcb (by simp)
      have h1 : (0 : Int) ≤ (j : Int) := by omega
      have h2 : (j : Int) < (n : Int) := by omega
      generalize xs.getD j 0 = x at *
      have hbx := run_bits x
      clear hn ha hb hca hcb hj
      go_wp2
      go_region_held3 (fun w' => w'.cell? (a.add j) = some (.float .f64 x) ∧ w'.cell? (b.add j) = some (.float .f64 x)) (go_keep) (fail)
      go_wp2
      go_roundg (gk - 1)
      case measure => omega
      case rel => exact ⟨j + 1, by omega, by go_num, grown_trans hg (grown_drew _ _)⟩
    · have hj : j = n := by omega
      subst hj
      go_wp2
      go_ret
      exact ⟨rfl, hg⟩
end Go.Proofs.Ytdhpjjbjgnnddab
