/- CabinFar: the walk. -/
import Derived.Test.YtomoclicbjkpoaaDoorCh
namespace Go.Proofs.YtomoclicbjkpoaaDoor
open Go.RowKit Cx
attribute [local go_sem ↓] Go.wp_at_zero Go.wp_at_succ

theorem bes_one {W : Nat} {L : List Int} {s t : Nat} (h : bes W L s t = true) : (s : Int) - (t : Int) = 1 ∨ (t : Int) - (s : Int) = 1 := by
  unfold bes at h
  simp only [Bool.and_eq_true, beq_iff_eq] at h
  omega
theorem box5 {w : World} {g : Nat} {a b c d e : Value} {t : TypeId} (h : w.heap[g]? = some (.cells #[a, b, c, d, e] t)) : w.cell? ⟨g, 0, none⟩ = some a ∧ w.cell? ⟨g, 1, none⟩ = some b ∧ w.cell? ⟨g, 2, none⟩ = some c ∧ w.cell? ⟨g, 3, none⟩ = some d ∧ w.cell? ⟨g, 4, none⟩ = some e :=
  ⟨cell_row (l := [a, b, c, d, e]) h 0, cell_row (l := [a, b, c, d, e]) h 1, cell_row (l := [a, b, c, d, e]) h 2, cell_row (l := [a, b, c, d, e]) h 3, cell_row (l := [a, b, c, d, e]) h 4⟩
set_option maxHeartbeats 1000000 in
theorem cabinFar_any (p0 p1 p2 p3 p4 : Int) (w : World) (hE : Er w) :
    Calls Tryd.prog 8 #[.agg #[.int .i64 p0, .int .i64 p1, .int .i64 p2, .int .i64 p3, .int .i64 p4]] w fun e w' => e = .returned (.bool true) ∧ w.grownBy w' none := by
  have A := hide (fun w' (hg : w.grownBy w' none) => awake_any w' (hE.grown hg))
  have S := hide (some_any p0 p1 p2)
  have hr : (p0 % 64).toNat + 1 ≤ 64 := by omega
  have hq : (p1 % 16).toNat + 1 ≤ 16 := by omega
  have hr1 : 1 ≤ (p0 % 64).toNat + 1 := by omega
  have hq1 : 1 ≤ (p1 % 16).toNat + 1 := by omega
  generalize (p0 % 64).toNat + 1 = R at *
  generalize (p1 % 16).toNat + 1 = W at *
  obtain ⟨N, hN⟩ : ∃ N, N = R * W := ⟨_, rfl⟩
  have hNN : (R : Int) * (W : Int) = (N : Int) := by rw [hN, Int.natCast_mul]
  have hN1 : 1 ≤ N := by rw [hN]; exact Nat.mul_le_mul hr1 hq1
  have hN2 : N ≤ 64 * 16 := by rw [hN]; exact Nat.mul_le_mul hr hq
  have hwr : IntKind.i64.wrap ((R : Int) * (W : Int)) = (N : Int) := by rw [hNN]; exact IntWalk.i64_in _ (by omega)
  have P3 := hide (pick_nat p3 N hN1 (by omega))
  have P4 := hide (pick_nat p4 N hN1 (by omega))
  have hp3 : (p3 % (N : Int)).toNat < N := by have := Int.emod_lt_of_pos p3 (show (0 : Int) < (N : Int) by omega); have := Int.emod_nonneg p3 (show (N : Int) ≠ 0 by omega); omega
  have hp4 : (p4 % (N : Int)).toNat < N := by have := Int.emod_lt_of_pos p4 (show (0 : Int) < (N : Int) by omega); have := Int.emod_nonneg p4 (show (N : Int) ≠ 0 by omega); omega
  generalize (p3 % (N : Int)).toNat = s at *
  generalize (p4 % (N : Int)).toNat = t at *
  have HN := hide (And.intro hNN hN)
  clear hNN hN
  go_enter Tryd.func8, Tryd.ntmps8
  go_wp2_with fail
  refine (A.out _ (grown_alloc w _)).mono ?_
  rintro e w1 ⟨rfl, hg1⟩
  have hb1 := box_kept hg1
  obtain ⟨c0, c1, c2, c3, c4⟩ := box5 hb1
  have G1 := hide (And.intro (grown_trans (grown_alloc w _) hg1) hb1)
  clear hg1 hb1
  go_wp2_with fail
  refine (S.out _).mono ?_
  rintro e w2 ⟨⟨L, ao, n, cap, rfl, hcb, hok⟩, hg2⟩
  have hb2 := heap_kept G1.out.2 hg2 (by simp)
  have hb3 := heap_kept hb2 (grown_alloc w2 (.cells #[.int .i64 (R : Int), .int .i64 (W : Int), .slice ao n cap] 24)) (by simp)
  obtain ⟨c0, c1, c2, c3, c4⟩ := box5 hb3
  have G2 := hide (And.intro (grown_trans G1.out.1 hg2) (And.intro hcb hok))
  have hn3 := heap_alloc_new w2 (.cells #[.int .i64 (R : Int), .int .i64 (W : Int), .slice ao n cap] 24)
  obtain ⟨e0, e1, e2⟩ := box3 hn3
  clear hg2 hb2 hcb hok G1 hb3 hn3
  have hG : Hid (w.grownBy (w2.alloc (.cells #[.int .i64 (R : Int), .int .i64 (W : Int), .slice ao n cap] 24)) none) := grown_trans G2.out.1 (grown_alloc _ _)
  unfold cbV
  go_wp2
  generalize hw3 : w2.alloc (.cells #[.int .i64 (R : Int), .int .i64 (W : Int), .slice ao n cap] 24) = w3 at *
  have hcb3 : Hid (CbIn w3 ao n cap L) := by rw [← hw3]; exact G2.out.2.1.grown (grown_alloc _ _)
  clear hw3
  go_quiet (first | (go_at_call_of 30 (Value.int .i64 p3); exact Calls.quiet_of_same (P3.out _)) | (go_at_call_of 30 (Value.int .i64 p4); exact Calls.quiet_of_same (P4.out _)))
  go_wp2_with fail
  refine (beside_ok R W ao n cap L s t _ (hcb3.out.grown (grown_drewN _ _ _)) G2.out.2.2 (by rw [HN.out.1]; omega) (by rw [HN.out.1]; omega)).mono ?_
  rintro e w4 ⟨rfl, hg4⟩
  have G4 := hide (grown_trans (grown_trans hG.out (grown_drewN _ _ _)) hg4)
  have hbo := fun h => bes_one (W := W) (L := L) (s := s) (t := t) h
  generalize bes W L s t = z at *
  clear hg4 c0 c1 c2 c3 c4 e0 e1 e2
  cases z
  · clear hbo
    go_wp2
    go_ret
    exact ⟨rfl, G4.out⟩
  · rcases hbo rfl with h | h
    · clear hbo
      go_wp2
      go_ret
      exact ⟨rfl, G4.out⟩
    · clear hbo
      have h2 : ((s : Int) - (t : Int) == 1) = false := by simp; omega
      go_wp2
      go_ret
      exact ⟨rfl, G4.out⟩
end Go.Proofs.YtomoclicbjkpoaaDoor
