/- ReplayOf, walked: of a shape that may not be; of any. -/
import Derived.Test.YtinkkocleognbaaGreatDoorO7
namespace Go.Proofs.YtinkkocleognbaaGreatDoor
open Go.RowKit Go.Shelf
attribute [local go_sem ↓] Go.wp_at_zero Go.wp_at_succ
attribute [local go_sem] Oper.semAt_some
set_option maxRecDepth 100000 in
set_option maxHeartbeats 40000000 in
theorem of_bad {w : World} {A Bb Cc : Int} (ho : ¬ Gx.OkS A Bb Cc) {ao : Option Addr} {len cap : Nat} {rs : List Rc} (hl : rs.length = len) (hc : len ≤ cap) (hnil : ao = none → len = 0 ∧ cap = 0) (hR : RecsAt w ao rs) (hT : Rk.Tab w) : Calls Tryz.prog 4 #[.agg #[.int .i64 A, .int .i64 Bb, .int .i64 Cc], .slice ao len cap] w fun e w' => e = .returned (.bool true) ∧ w.grownBy w' none := by
  obtain ⟨rt, hrt⟩ : ∃ rt, rt = rs.take 120 := ⟨_, rfl⟩
  obtain ⟨n, hn⟩ : ∃ n, n = min len 120 := ⟨_, rfl⟩
  have hrl : rt.length = n := by rw [hrt, List.length_take, hl, hn]; omega
  have hRt : RecsAt w ao rt := by rw [hrt]; exact recs_take hR 120
  have hn120 : n ≤ 120 := by omega
  have HCut : Hid (∀ W, Calls Tryz.prog 14 #[.slice ao len cap] W fun e w' => e = .returned (.slice ao n cap) ∧ w' = W) := fun W => by rw [hn]; exact cut_any ao len cap hc W
  have HLent : Hid (∀ W, w.grownBy W none → Calls Tryz.prog 15 #[.slice ao n cap] W fun e w' => ∃ g c, e = .returned (.slice (some ⟨g, 0, none⟩) n c) ∧ LentR w' W.heap.size g c rt ∧ W.grownBy w' none) := fun W g => lentR_any ao n cap rt W hrl (hRt.grown g) (fun e => by have := hnil e; exact ⟨by omega, this.2⟩) (by omega)
  have HOf : Hid (∀ W v, Calls Tryz.prog 10 #[.agg #[.int .i64 A, .int .i64 Bb, .int .i64 Cc], v] W fun e w' => e = .returned (.tuple #[.pointer none, .int .i64 0, .int .i64 90]) ∧ W.grownBy w' none) := fun W v => of_no ho v
  have HDs : Hid (∀ W, Calls Tryz.prog 16 #[.agg #[.int .i64 A, .int .i64 Bb, .int .i64 Cc], .slice ao n cap] W fun e w' => e = .returned (.tuple #[.slice none 0 0, .int .i64 90]) ∧ W.grownBy w' none) := fun W => dstates_no ho
  have HKp : Hid (∀ W B0 g ci, w.grownBy W none → LentR W B0 g ci rt → Calls Tryz.prog 17 #[.slice (some ⟨g, 0, none⟩) n ci, .slice ao n cap] W fun e w' => e = .returned (.bool true) ∧ W.grownBy w' none) := fun W B0 g ci gW hL => keptR_any hL hrl (hRt.grown gW) (by omega)
  have HAw : Hid (∀ W, w.grownBy W none → Calls Tryz.prog 13 #[] W fun e w' => e = .returned (.bool true) ∧ W.grownBy w' none) := fun W g => awake_any W (hT.new g)
  clear hR hT hl hc hnil ho hRt hrt hn
  obtain ⟨w1, hw1⟩ : ∃ w1, w1 = ((w.alloc (.cells #[.int .i64 A, .int .i64 Bb, .int .i64 Cc] 23)).alloc (.cells #[.bool false] 4)) := ⟨_, rfl⟩
  have g1 : w.grownBy w1 none := by rw [hw1]; exact gn_alloc (grown_alloc w _) _
  have b2 : w1.heap[w.heap.size]? = some (.cells [Value.int .i64 A, .int .i64 Bb, .int .i64 Cc].toArray 23 (0, 0)) := by rw [hw1]; exact keep1 _ _ (heap_alloc_new w _)
  have b4 : w1.heap[w.heap.size + 1]? = some (.cells [Value.bool false].toArray 4 (0, 0)) := by
    rw [hw1]
    have := heap_alloc_new (w.alloc (.cells #[.int .i64 A, .int .i64 Bb, .int .i64 Cc] 23)) (.cells [Value.bool false].toArray 4)
    rw [World.size_alloc] at this
    exact this
  have HSh : Hid (∀ W, w1.grownBy W none → W.cell? ⟨w.heap.size, 0, none⟩ = some (.int .i64 A) ∧ W.cell? ⟨w.heap.size, 1, none⟩ = some (.int .i64 Bb) ∧ W.cell? ⟨w.heap.size, 2, none⟩ = some (.int .i64 Cc)) := fun W gW => by
    obtain ⟨s0, s1, s2, -⟩ := box3 ((gW.block _ (row_lt b2) (by simp)).trans b2)
    exact ⟨s0, s1, s2⟩
  have HG1 := hide g1
  have HB4 := hide b4
  have HW1 := hide hw1
  clear g1 b2 b4 hw1
  refine (callsIn_wide (n := 6)).1 (callsIn_of_wp_marks Tryz.func4 rfl trivial ?_ rfl)
  simp only [Tryz.ntmps4, List.size_toArray, List.length_cons, List.length_nil, Nat.reduceAdd, Nat.reduceSub, Array.replicate_succ, Array.replicate_zero, List.push_toArray, List.append_toArray, List.nil_append, List.cons_append]
  refine wpIn_wide.2 ?_
  go_wp2_with fail
  rw [← HW1.out]
  refine (HCut.out _).mono ?_
  clear HCut HW1
  rintro e wx ⟨rfl, hw⟩
  obtain rfl := hw.symm
  clear hw
  go_wp2_with fail
  refine (HLent.out _ HG1.out).mono ?_
  clear HLent
  rintro e w2 ⟨gi, ci, rfl, hL2, g2⟩
  have HL2 := hide hL2
  have G2 := hide g2
  obtain ⟨s0, s1, s2⟩ := HSh.out w2 g2
  clear hL2 g2
  go_wp2_with fail
  refine (HOf.out w2 _).mono ?_
  clear HOf s0 s1 s2
  rintro e w3 ⟨rfl, g3⟩
  have G3 := hide (grown_trans G2.out g3)
  have HL3 := hide (HL2.out.then g3)
  obtain ⟨s0, s1, s2⟩ := HSh.out w3 G3.out
  clear g3
  go_wp2_with fail
  refine (HDs.out w3).mono ?_
  clear HDs s0 s1 s2
  rintro e w4 ⟨rfl, g4⟩
  obtain ⟨w5, hw5⟩ : ∃ w5, w5 = w4.alloc (.cells #[.slice none 0 0] 56) := ⟨_, rfl⟩
  have g5 : w4.grownBy w5 none := by rw [hw5]; exact grown_alloc _ _
  have b9 : w5.heap[w4.heap.size]? = some (.cells [Value.slice none 0 0].toArray 56 (0, 0)) := by rw [hw5]; exact heap_alloc_new w4 _
  have G5 := hide (grown_trans G3.out (grown_trans g4 g5))
  have HL5 := hide (HL3.out.then (grown_trans g4 g5))
  obtain ⟨B9, hB9⟩ : ∃ B9, w4.heap.size = B9 := ⟨_, rfl⟩
  rw [hB9] at b9
  have HB9 := hide b9
  have HW5 := hide hw5
  clear g4 g5 b9 hw5 HL3 HL2 G2 G3
  go_wp2_with fail
  rw [← HW5.out]
  refine (HKp.out w5 _ _ _ (grown_trans HG1.out G5.out) HL5.out).mono ?_
  clear HKp
  rintro e w6 ⟨rfl, g6⟩
  have G6 := hide (grown_trans G5.out g6)
  have HB96 := hide ((g6.block _ (row_lt HB9.out) (by simp)).trans HB9.out)
  have c9 : w6.cell? ⟨B9, 0, none⟩ = some (.slice none 0 0) := by rw [cell_row HB96.out]; rfl
  clear g6 HL5 G5 HW5
  go_wp2_with fail
  refine (HAw.out w6 (grown_trans HG1.out G6.out)).mono ?_
  rintro e wz ⟨rfl, gz⟩
  have HRw : Hid (wz.heap[w.heap.size + 1]? = some (.cells [Value.bool false].toArray 4 (0, 0))) := ((grown_trans G6.out gz).block _ (row_lt HB4.out) (by simp)).trans HB4.out
  have cr : wz.cell? ⟨w.heap.size + 1, 0, none⟩ = some (.bool false) := by rw [cell_row HRw.out]; rfl
  have cz := free_row HRw.out 0
  have H9 := hide (grown_trans (grown_trans HG1.out G6.out) gz)
  clear gz c9
  go_wp2
  have gs := grown_setCell wz (w.heap.size + 1) 0 (Value.bool true)
  refine ⟨_, results_cell4 rfl _ _ (w.heap.size + 1) (.bool true) rfl (by rw [cell_row (row_setCell HRw.out 0 _)]; rfl), rfl, ?_⟩
  exact grown_then H9.out gs (fun j e => .inl (by cases e; omega))
theorem isOk_dec (a b c : Int) : Gx.OkS a b c ∨ ¬ Gx.OkS a b c := Classical.em _
theorem of_all {w : World} {A Bb Cc : Int} {ao : Option Addr} {len cap : Nat} {rs : List Rc} (hl : rs.length = len) (hc : len ≤ cap) (hnil : ao = none → len = 0 ∧ cap = 0) (hR : RecsAt w ao rs) (hO : ∀ r ∈ rs, r.Ok) (hT : Rk.Tab w) : Calls Tryz.prog 4 #[.agg #[.int .i64 A, .int .i64 Bb, .int .i64 Cc], .slice ao len cap] w fun e w' => e = .returned (.bool true) ∧ w.grownBy w' none := by
  by_cases h : Gx.OkS A Bb Cc
  · obtain ⟨a, rfl⟩ : ∃ a : Nat, A = (a : Int) := ⟨A.toNat, by unfold Gx.OkS at h; omega⟩
    obtain ⟨b, rfl⟩ : ∃ b : Nat, Bb = (b : Int) := ⟨Bb.toNat, by unfold Gx.OkS at h; omega⟩
    obtain ⟨c, rfl⟩ : ∃ c : Nat, Cc = (c : Int) := ⟨Cc.toNat, by unfold Gx.OkS at h; omega⟩
    exact of_yes h hl hc hnil hR hO hT
  · exact of_bad h hl hc hnil hR hT
end Go.Proofs.YtinkkocleognbaaGreatDoor
