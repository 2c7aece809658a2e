/- The contract of PowerNil. -/
import Derived.Test.YtaopcidkgcekdaaNil
import Derived.Test.YtaopcidkgcekdaaAwk
namespace Go.Proofs.Ytaopcidkgcekdaa
open Go.RowKit Ap
attribute [local go_sem ↓] Go.wp_at_zero Go.wp_at_succ

set_option maxRecDepth 20000 in
set_option maxHeartbeats 4000000 in
theorem powerNil_any (a : Int) (v u : Value) (w : World) : Calls Try.prog 3 #[.int .i64 a, v, u] w fun e w' => e = .returned (.bool true) ∧ w.grownBy w' none := by
  go_enter Try.func3, Try.ntmps3
  go_wp2_with fail
  refine (dnew_none none w (Or.inl rfl)).mono ?_
  rintro e w' ⟨rfl, rfl⟩
  go_wp2_with fail
  have g1 := World.grownBy_alloc w' (.cells #[.bool false, .int .i64 0, .slice none 0 0, .slice none 0 0, .map none] 32) none
  have c1 : (w'.alloc (.cells #[.bool false, .int .i64 0, .slice none 0 0, .slice none 0 0, .map none] 32)).cell? ⟨w'.heap.size, 0, none⟩ = some (.bool false) := cell_row (l := [.bool false, .int .i64 0, .slice none 0 0, .slice none 0 0, .map none]) (heap_alloc_new w' _) 0
  have G1 := hide g1
  have H1 := hide (show NoDisk _ (some ⟨w'.heap.size, 0, none⟩) from Or.inr ⟨_, rfl, c1⟩)
  clear g1 c1
  generalize w'.alloc (.cells #[.bool false, .int .i64 0, .slice none 0 0, .slice none 0 0, .map none] 32) = w1 at *
  refine (dnew_none _ _ H1.out).mono ?_
  rintro e w2 ⟨rfl, rfl⟩
  go_wp2_with fail
  refine (none_any none _ (Or.inl rfl) a v u).mono ?_
  rintro e w3 ⟨rfl, rfl⟩
  go_wp2_with fail
  have g2 := World.grownBy_alloc w3 (.cells #[.pointer none, .bool false, .bool false, .int .i64 0, .int .i64 0] 35) none
  have c2 : (w3.alloc (.cells #[.pointer none, .bool false, .bool false, .int .i64 0, .int .i64 0] 35)).cell? ⟨w3.heap.size, 1, none⟩ = some (.bool false) := cell_row (l := [.pointer none, .bool false, .bool false, .int .i64 0, .int .i64 0]) (heap_alloc_new w3 _) 1
  have G2 := hide (grown_trans G1.out g2)
  have H2 := hide (show NoDev _ (some ⟨w3.heap.size, 0, none⟩) from Or.inr ⟨_, rfl, c2⟩)
  clear g2 c2
  generalize w3.alloc (.cells #[.pointer none, .bool false, .bool false, .int .i64 0, .int .i64 0] 35) = w4 at *
  refine (none_any _ _ H2.out a v u).mono ?_
  rintro e w5 ⟨rfl, rfl⟩
  go_wp2_with fail
  refine (awake_any _).mono ?_
  rintro e w6 ⟨rfl, g6⟩
  have G6 := hide (grown_trans G2.out g6)
  clear g6
  go_wp2
  go_ret
  exact ⟨rfl, G6.out⟩
end Go.Proofs.Ytaopcidkgcekdaa
