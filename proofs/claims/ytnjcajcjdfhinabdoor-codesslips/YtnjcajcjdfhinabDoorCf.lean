/- The contract of the statements' own awake. -/
import Derived.Test.YtnjcajcjdfhinabDoorCe
namespace Go.Proofs.YtnjcajcjdfhinabDoor
open Go.RowKit Cn
attribute [local go_sem ↓] Go.wp_at_zero Go.wp_at_succ

theorem tx1 : tx 1 = [50, 50, 50, 50, 50, 50, 51, 52] := by decide +kernel
theorem txM : tx 4294967295 = [53, 90, 90, 90, 90, 90, 90, 50] := by decide +kernel
theorem prsA : prs [50, 50, 50, 89, 74, 76, 50, 50] = (1000000, 0, 0) := by decide +kernel
theorem prsB : prs [50, 50, 50, 50, 50, 50, 54, 52] = (0, 7, 150) := by decide +kernel
theorem nrA : nr 1 32 = 3 := by decide +kernel
set_option maxRecDepth 100000 in
set_option maxHeartbeats 1000000 in
theorem awake_any (w : World) (hT : Tab w) : Calls Tryd.prog 4 #[] w fun e w' => e = .returned (.bool true) ∧ w.grownBy w' none := by
  have P1 : Hid (∀ w', w.grownBy w' none → Calls Tryd.prog 7 #[.string ⟨#[50, 50, 50, 89, 74, 76, 50, 50]⟩] w' fun e w'' => e = .returned (.tuple #[.int .u32 1000000, .int .i64 0, .int .i64 0]) ∧ w'.grownBy w'' none) := fun w' hg => by
    have := parse_any [50, 50, 50, 89, 74, 76, 50, 50] (by decide) w' (hT.grown hg)
    rw [prsA] at this; exact this
  have P2 : Hid (∀ w', w.grownBy w' none → Calls Tryd.prog 7 #[.string ⟨#[50, 50, 50, 50, 50, 50, 54, 52]⟩] w' fun e w'' => e = .returned (.tuple #[.int .u32 0, .int .i64 7, .int .i64 150]) ∧ w'.grownBy w'' none) := fun w' hg => by
    have := parse_any [50, 50, 50, 50, 50, 50, 54, 52] (by decide) w' (hT.grown hg)
    rw [prsB] at this; exact this
  have T1 : Hid (∀ w', w.grownBy w' none → Calls Tryd.prog 5 #[.int .u32 1] w' fun e w'' => e = .returned (.string ⟨#[50, 50, 50, 50, 50, 50, 51, 52]⟩) ∧ w'.grownBy w'' none) := fun w' hg => by
    have := text_any 1 (by decide) w' (hT.grown hg)
    rw [tx1] at this; exact this
  have T2 : Hid (∀ w', w.grownBy w' none → Calls Tryd.prog 5 #[.int .u32 4294967295] w' fun e w'' => e = .returned (.string ⟨#[53, 90, 90, 90, 90, 90, 90, 50]⟩) ∧ w'.grownBy w'' none) := fun w' hg => by
    have := text_any 4294967295 (by decide) w' (hT.grown hg)
    rw [txM] at this; exact this
  have N1 : Hid (∀ w', w.grownBy w' none → Calls Tryd.prog 8 #[.int .u32 1, .int .u32 32] w' fun e w'' => e = .returned (.int .i64 3) ∧ w'.grownBy w'' none) := fun w' hg => by
    have := near_any 1 32 (by decide) (by decide) w' (hT.grown hg)
    rw [nrA] at this; exact this
  clear hT
  go_enter Tryd.func4, Tryd.ntmps4
  go_wp2_with fail
  refine (P1.out _ (grown_refl w _)).mono ?_
  rintro e w1 ⟨rfl, hg1⟩
  have G1 := hide hg1
  clear hg1
  go_wp2_with fail
  refine (P2.out _ G1.out).mono ?_
  rintro e w2 ⟨rfl, hg2⟩
  have G2 := hide (grown_trans G1.out hg2)
  clear hg2 G1
  go_wp2_with fail
  refine (T1.out _ G2.out).mono ?_
  rintro e w3 ⟨rfl, hg3⟩
  have G3 := hide (grown_trans G2.out hg3)
  clear hg3 G2
  go_wp2_with fail
  refine (T2.out _ G3.out).mono ?_
  rintro e w4 ⟨rfl, hg4⟩
  have G4 := hide (grown_trans G3.out hg4)
  clear hg4 G3
  go_wp2_with fail
  refine (N1.out _ G4.out).mono ?_
  rintro e w5 ⟨rfl, hg5⟩
  have G5 := hide (grown_trans G4.out hg5)
  clear hg5 G4
  go_wp2
  go_ret
  exact ⟨rfl, G5.out⟩
end Go.Proofs.YtnjcajcjdfhinabDoor
