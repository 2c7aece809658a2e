/- CodesNumbers: the walk. -/
import Derived.Test.YtnjcajcjdfhinaaDoorCf
namespace Go.Proofs.YtnjcajcjdfhinaaDoor
open Go.RowKit Cn
attribute [local go_sem ↓] Go.wp_at_zero Go.wp_at_succ

def TL : List (List UInt8) := [[], [50, 50, 50, 50, 50, 50, 51], [50, 50, 50, 50, 50, 50, 51, 52, 53], [50, 50, 105, 50, 50, 50, 51, 52], [50, 50, 73, 50, 50, 50, 51, 52], [50, 50, 50, 50, 50, 50, 51, 53], [54, 50, 50, 50, 50, 50, 50, 50], [90, 90, 90, 90, 90, 90, 90, 90], [48]]
def PL : List Nat := [0, 7, 8, 2, 2, 7, 0, 0, 0]
theorem told9 : ∀ j : Fin 9, prs (TL.getD j.1 []) = (0, PL.getD j.1 0, 150) ∧ (TL.getD j.1 []).length ≤ 9 ∧ PL.getD j.1 0 ≤ 8 := by decide +kernel
def TV : List Value := TL.map str
def PV : List Value := PL.map fun (n : Nat) => Value.int .i64 (n : Int)
theorem TV_at {j : Nat} (h : j < 9) : TV[j]? = some (str (TL.getD j [])) := by
  have hl : j < TL.length := h
  unfold TV
  rw [List.getElem?_map, List.getD_eq_getElem?_getD, List.getElem?_eq_getElem hl]; rfl
theorem PV_at {j : Nat} (h : j < 9) : PV[j]? = some (.int .i64 ((PL.getD j 0 : Nat) : Int)) := by
  have hl : j < PL.length := h
  unfold PV
  rw [List.getElem?_map, List.getD_eq_getElem?_getD, List.getElem?_eq_getElem hl]; rfl
theorem tx0 : tx 0 = [50, 50, 50, 50, 50, 50, 50, 50] := by decide +kernel
theorem tx2 : tx 2 = [50, 50, 50, 50, 50, 50, 52, 54] := by decide +kernel
theorem tx31 : tx 31 = [50, 50, 50, 50, 50, 50, 90, 86] := by decide +kernel
theorem tx32 : tx 32 = [50, 50, 50, 50, 50, 51, 50, 54] := by decide +kernel
theorem nr12 : nr 1 2 = 2 := by decide +kernel
theorem nr0M : nr 0 4294967295 = 7 := by decide +kernel
theorem nr55 : nr 5 5 = 0 := by decide +kernel
set_option maxRecDepth 100000 in
set_option maxHeartbeats 2000000 in
theorem codesNumbers_any (w : World) (hT : Tab w) : Calls Tryd.prog 6 #[] w fun e w' => e = .returned (.bool true) ∧ w.grownBy w' none := by
  have A := hide (fun w' (hg : w.grownBy w' none) => awake_any w' (hT.grown hg))
  have HT := hide hT
  have T0 : Hid (∀ w', w.grownBy w' none → Calls Tryd.prog 9 #[.int .u32 0] w' fun e w'' => e = .returned (.string ⟨#[50, 50, 50, 50, 50, 50, 50, 50]⟩) ∧ w'.grownBy w'' none) := fun w' hg => by
    have := text_any 0 (by decide) w' (hT.grown hg)
    rw [tx0] at this; exact this
  have T2 : Hid (∀ w', w.grownBy w' none → Calls Tryd.prog 9 #[.int .u32 2] w' fun e w'' => e = .returned (.string ⟨#[50, 50, 50, 50, 50, 50, 52, 54]⟩) ∧ w'.grownBy w'' none) := fun w' hg => by
    have := text_any 2 (by decide) w' (hT.grown hg)
    rw [tx2] at this; exact this
  have T31 : Hid (∀ w', w.grownBy w' none → Calls Tryd.prog 9 #[.int .u32 31] w' fun e w'' => e = .returned (.string ⟨#[50, 50, 50, 50, 50, 50, 90, 86]⟩) ∧ w'.grownBy w'' none) := fun w' hg => by
    have := text_any 31 (by decide) w' (hT.grown hg)
    rw [tx31] at this; exact this
  have T32 : Hid (∀ w', w.grownBy w' none → Calls Tryd.prog 9 #[.int .u32 32] w' fun e w'' => e = .returned (.string ⟨#[50, 50, 50, 50, 50, 51, 50, 54]⟩) ∧ w'.grownBy w'' none) := fun w' hg => by
    have := text_any 32 (by decide) w' (hT.grown hg)
    rw [tx32] at this; exact this
  have N1 : Hid (∀ w', w.grownBy w' none → Calls Tryd.prog 14 #[.int .u32 1, .int .u32 2] w' fun e w'' => e = .returned (.int .i64 2) ∧ w'.grownBy w'' none) := fun w' hg => by
    have := near_any 1 2 (by decide) (by decide) w' (hT.grown hg)
    rw [nr12] at this; exact this
  have N2 : Hid (∀ w', w.grownBy w' none → Calls Tryd.prog 14 #[.int .u32 0, .int .u32 4294967295] w' fun e w'' => e = .returned (.int .i64 7) ∧ w'.grownBy w'' none) := fun w' hg => by
    have := near_any 0 4294967295 (by decide) (by decide) w' (hT.grown hg)
    rw [nr0M] at this; exact this
  have N3 : Hid (∀ w', w.grownBy w' none → Calls Tryd.prog 14 #[.int .u32 5, .int .u32 5] w' fun e w'' => e = .returned (.int .i64 0) ∧ w'.grownBy w'' none) := fun w' hg => by
    have := near_any 5 5 (by decide) (by decide) w' (hT.grown hg)
    rw [nr55] at this; exact this
  clear hT
  go_enter Tryd.func6, Tryd.ntmps6
  go_wp2
  go_loopg [3] 9 (fun k i wr => ∃ j : Nat, k + j = 9 ∧ i = .int .i64 (j : Int) ∧ wr.heap[w.heap.size]? = some (.cells TV.toArray 9 (0, 0)) ∧ wr.heap[w.heap.size + 1]? = some (.cells PV.toArray 3 (0, 0)) ∧ w.grownBy wr none)
  case atStart =>
    obtain ⟨h1, h2, h3⟩ := alloc2 w (.cells TV.toArray 9) (.cells PV.toArray 3)
    exact ⟨0, by omega, rfl, h1, h2, h3⟩
  case round =>
    obtain ⟨j, hkj, rfl, h1, h2, hg⟩ := hrel
    have hj0 : (0 : Int) ≤ (j : Int) := by omega
    by_cases hk : 0 < gk
    · have hj : j < 9 := by omega
      have hj1 : (j : Int) < 9 := by omega
      obtain ⟨hp, hl, hb⟩ := told9 ⟨j, hj⟩
      simp only at hp hl hb
      have c1 := (cell_row h1 j).trans (TV_at hj)
      have c2 := (cell_row h2 j).trans (PV_at hj)
      have P := hide (parse_any (TL.getD j []) (by omega) wr (HT.out.grown hg))
      rw [hp] at P
      unfold prsV at P
      simp only at P
      have HG := hide (And.intro h1 (And.intro h2 (And.intro hg c2)))
      unfold str at *
      generalize (⟨(TL.getD j []).toArray⟩ : ByteArray) = sb at *
      generalize PL.getD j 0 = pl at *
      clear h1 h2 hg hp hl c2 hj
      go_wp2_with fail
      refine P.out.mono ?_
      rintro e w1 ⟨rfl, hg1⟩
      have c2 := hg1.cell HG.out.2.2.2 (by simp)
      have G1 := hide hg1
      clear hg1
      go_wp2
      go_roundg (gk - 1)
      case measure => omega
      case rel => exact ⟨j + 1, by omega, by go_num, heap_kept HG.out.1 G1.out (by simp), heap_kept HG.out.2.1 G1.out (by simp), grown_trans HG.out.2.2.1 G1.out⟩
    · have hj : j = 9 := by omega
      subst hj
      have G0 := hide hg
      clear h1 h2 hg
      go_wp2_with fail
      refine (T0.out _ G0.out).mono ?_
      rintro e w1 ⟨rfl, hg1⟩
      have G1 := hide (grown_trans G0.out hg1)
      clear hg1 G0
      go_wp2_with fail
      refine (T2.out _ G1.out).mono ?_
      rintro e w2 ⟨rfl, hg2⟩
      have G2 := hide (grown_trans G1.out hg2)
      clear hg2 G1
      go_wp2_with fail
      refine (T31.out _ G2.out).mono ?_
      rintro e w3 ⟨rfl, hg3⟩
      have G3 := hide (grown_trans G2.out hg3)
      clear hg3 G2
      go_wp2_with fail
      refine (T32.out _ G3.out).mono ?_
      rintro e w4 ⟨rfl, hg4⟩
      have G4 := hide (grown_trans G3.out hg4)
      clear hg4 G3
      go_wp2_with fail
      refine (N1.out _ G4.out).mono ?_
      rintro e w5 ⟨rfl, hg5⟩
      have G5 := hide (grown_trans G4.out hg5)
      clear hg5 G4
      go_wp2_with fail
      refine (N2.out _ G5.out).mono ?_
      rintro e w6 ⟨rfl, hg6⟩
      have G6 := hide (grown_trans G5.out hg6)
      clear hg6 G5
      go_wp2_with fail
      refine (N3.out _ G6.out).mono ?_
      rintro e w7 ⟨rfl, hg7⟩
      have G7 := hide (grown_trans G6.out hg7)
      clear hg7 G6
      go_wp2_with fail
      refine (A.out _ G7.out).mono ?_
      rintro e w8 ⟨rfl, hg8⟩
      have G8 := hide (grown_trans G7.out hg8)
      clear hg8 G7
      go_wp2
      go_ret
      exact ⟨rfl, G8.out⟩
end Go.Proofs.YtnjcajcjdfhinaaDoor
