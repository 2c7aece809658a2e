/- OctetsNumbers' walk: the call answers true and leaves what was there. -/
import Derived.Test.YtckmghagfaecmaaNone
namespace Go.Proofs.Ytckmghagfaecmaa
open Go.RowKit

theorem NoRd.kept {w w' : World} {v : Value} (h : NoRd w v) (hg : w.grownBy w' none) : NoRd w' v := by
  rcases h with rfl | ⟨b, rfl, h⟩
  · exact Or.inl rfl
  · exact Or.inr ⟨b, rfl, hg.cell h (by simp)⟩

set_option maxHeartbeats 2000000 in
set_option maxRecDepth 100000 in
theorem numbers_any (w : World) : Calls Try.prog 3 #[] w fun e w' => e = .returned (.bool true) ∧ w.grownBy w' none := by
  go_enter Try.func3, Try.ntmps3
  go_wp2_with fail
  refine (byte_nil 1 _).mono ?_
  rintro e w1 ⟨rfl, hg1⟩
  go_wp2_with fail
  refine (two_nil 1 _ (by omega) (by omega)).mono ?_
  rintro e w2 ⟨rfl, hg2⟩
  go_wp2_with fail
  refine (four_nil 1 _ (by omega) (by omega)).mono ?_
  rintro e w3 ⟨rfl, hg3⟩
  go_wp2_with fail
  refine (eight_nil 1 _ (by omega) (by omega)).mono ?_
  rintro e w4 ⟨rfl, hg4⟩
  have G4 : Hid (w.grownBy w4 none) := grown_trans (grown_trans (grown_trans hg1 hg2) hg3) hg4
  clear hg1 hg2 hg3 hg4
  go_wp2_with fail
  refine (put_nil _ _).mono ?_
  rintro e w5 ⟨rfl, hw5⟩
  have G5 : Hid (w.grownBy w5 none) := by show w.grownBy w5 none; rw [hw5]; exact grown_trans G4.out (World.grownBy_alloc w4 _ _)
  clear hw5 G4
  go_wp2
  go_loopg [25] 2 (fun k i wr => ∃ j : Nat, k + j = 2 ∧ i = .int .i64 j ∧ w5.grownBy wr none ∧ wr.cell? ⟨w5.heap.size + 1, 0, none⟩ = some (.pointer none) ∧ wr.cell? ⟨w5.heap.size + 1, 1, none⟩ = some (.pointer (some ⟨w5.heap.size, 0, none⟩)) ∧ wr.cell? ⟨w5.heap.size, 2, none⟩ = some (.bool false))
  case atStart =>
    refine ⟨0, rfl, rfl, grown_trans (World.grownBy_alloc _ _ _) (World.grownBy_alloc _ _ _), ?_, ?_, ?_⟩
    all_goals simp [World.cell?_alloc_lt]
  case round =>
    obtain ⟨j, hkj, rfl, hg, ca, cb, cc⟩ := hrel
    by_cases hk : 0 < gk
    · obtain ⟨v, hv, hno⟩ : ∃ v, wr.cell? ⟨w5.heap.size + 1, j, none⟩ = some v ∧ NoRd wr v := by
        match j, hkj with
        | 0, _ => exact ⟨_, ca, Or.inl rfl⟩
        | 1, _ => exact ⟨_, cb, Or.inr ⟨_, rfl, cc⟩⟩
        | j + 2, h => omega
      have hj0 : (0 : Int) ≤ (j : Int) := by omega
      have hj : (j : Int) < 2 := by omega
      have HC := hide (And.intro hg (And.intro ca (And.intro cb cc)))
      clear hg ca cb cc
      have Hno := hide hno
      clear hno
      go_wp2_with fail
      refine (rbyte_none v _ Hno.out).mono ?_
      rintro e w' ⟨rfl, rfl⟩
      go_wp2_with fail
      refine (rtwo_none v _ Hno.out).mono ?_
      rintro e w' ⟨rfl, rfl⟩
      go_wp2_with fail
      refine (rfour_none v _ Hno.out).mono ?_
      rintro e w' ⟨rfl, rfl⟩
      go_wp2_with fail
      refine (reight_none v _ Hno.out).mono ?_
      rintro e w' ⟨rfl, rfl⟩
      go_wp2_with fail
      refine (take_none v 0 _ Hno.out).mono ?_
      rintro e w' ⟨rfl, rfl⟩
      go_wp2_with fail
      refine (take_none v 1 _ Hno.out).mono ?_
      rintro e w' ⟨rfl, rfl⟩
      go_wp2_with fail
      refine (left_none v _ Hno.out).mono ?_
      rintro e w' ⟨rfl, rfl⟩
      go_wp2_with fail
      refine (err_none v _ Hno.out).mono ?_
      rintro e w' ⟨rfl, rfl⟩
      go_wp2_with fail
      refine (end_none v _ Hno.out).mono ?_
      rintro e w' ⟨rfl, rfl⟩
      go_wp2
      go_roundg (gk - 1)
      case measure => omega
      case rel => exact ⟨j + 1, by omega, by go_num, HC.out⟩
    · have hj : j = 2 := by omega
      subst hj
      have G6 : Hid (w.grownBy wr none) := grown_trans G5.out hg
      clear hg ca cb cc G5
      go_wp2_with fail
      refine (of_any none 0 0 [] _ rfl (At.nil _ _) (fun _ => ⟨rfl, rfl⟩) (by omega)).mono ?_
      rintro e w7 ⟨A, rfl, hA, hRA, hg7⟩
      have G7 : Hid (w.grownBy w7 none) := grown_trans G6.out hg7
      have hA1 : w.heap.size ≤ A := by have := G6.out.size; omega
      have HRA := hide hRA
      clear hRA hg7
      go_wp2_with fail
      refine (of_any _ 1 1 [1] _ rfl (at_new w7 [1] _ rfl) (fun e => by cases e) (by omega)).mono ?_
      rintro e w8 ⟨B, rfl, hB, hRB, hg8⟩
      have hg8' : w7.grownBy w8 none := grown_trans (World.grownBy_alloc w7 _ none) hg8
      have G8 : Hid (w.grownBy w8 none) := grown_trans G7.out hg8'
      have hB1 : w.heap.size ≤ B := by have := G7.out.size; simp at hB; omega
      have hAB : A < B := by have := HRA.out.lt; simp at hB; omega
      have HRA8 := hide (HRA.out.kept hg8' (by simp) (NoBytes.none _))
      have HRB := hide hRB
      clear hRB hg8 hg8' HRA G7 G6
      go_wp2_with fail
      refine (of_any _ 1 1 [1] _ rfl (at_new w8 [1] _ rfl) (fun e => by cases e) (by omega)).mono ?_
      rintro e w9 ⟨C, rfl, hC, hRC, hg9⟩
      have hg9' : w8.grownBy w9 none := grown_trans (World.grownBy_alloc w8 _ none) hg9
      have G9 : Hid (w.grownBy w9 none) := grown_trans G8.out hg9'
      have hC1 : w.heap.size ≤ C := by have := G8.out.size; simp at hC; omega
      have hBC : B < C := by have := HRB.out.lt; simp at hC; omega
      have HRA9 := hide (HRA8.out.kept hg9' (by simp) (NoBytes.none _))
      have HRB9 := hide (HRB.out.kept hg9' (by simp) (NoBytes.none _))
      have HRC9 := hide hRC
      clear hRC hg9 hg9' HRA8 HRB G8
      go_wp2_with fail
      refine (rbyte_any A [] 0 _ HRA9.out (fun x hx => by cases hx)).mono ?_
      rw [show takeF [] 0 1 = ([], [], 4) from by decide]
      rintro e w10 ⟨rfl, hR, hg10⟩
      have G10 : Hid (w.grownBy w10 none) := grown_then G9.out hg10 (fun k e => by cases e; exact Or.inl hA1)
      have HRA10 := hide hR
      have HRB10 := hide (HRB9.out.kept hg10 (by simp; omega) HRA9.out.noBytes)
      have HRC10 := hide (HRC9.out.kept hg10 (by simp; omega) HRA9.out.noBytes)
      clear hR hg10 HRA9 HRB9 HRC9 G9
      go_wp2_with fail
      refine (take_any B [1] 0 (-1) _ HRB10.out (by omega) (by omega) (by simp)).mono ?_
      rw [show takeF [1] 0 (-1) = ([], [], 2) from by decide]
      rintro e w11 ⟨v, rfl, hown, hR, hg11⟩
      obtain ⟨ao, cap, rfl, hown'⟩ := own_at (xs := []) hown
      have G11 : Hid (w.grownBy w11 none) := grown_then G10.out hg11 (fun k e => by cases e; exact Or.inl hB1)
      have HRB11 := hide hR
      have HRA11 := hide (HRA10.out.kept hg11 (by simp; omega) HRB10.out.noBytes)
      have HRC11 := hide (HRC10.out.kept hg11 (by simp; omega) HRB10.out.noBytes)
      clear hR hg11 HRA10 HRB10 HRC10 G10 hown hown'
      go_wp2_with fail
      refine (len_nil _).mono ?_
      rintro e w' ⟨rfl, rfl⟩
      go_wp2_with fail
      refine (out_nil _).mono ?_
      rintro e w' ⟨rfl, rfl⟩
      go_wp2_with fail
      refine (err_any A [] 4 _ HRA11.out).mono ?_
      rintro e w' ⟨rfl, rfl⟩
      go_wp2_with fail
      refine (end_any B [] 2 _ HRB11.out).mono ?_
      rw [show endF [] 2 = 2 from by decide]
      rintro e w' ⟨rfl, rfl⟩
      go_wp2_with fail
      refine (end_any C [1] 0 _ HRC11.out).mono ?_
      rw [show endF [1] 0 = 5 from by decide]
      rintro e w' ⟨rfl, rfl⟩
      go_wp2_with fail
      refine (awake_any _).mono ?_
      rintro e w12 ⟨rfl, hg12⟩
      go_wp2
      go_ret
      exact ⟨rfl, grown_trans G11.out hg12⟩
end Go.Proofs.Ytckmghagfaecmaa
