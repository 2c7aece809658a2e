/- The walk of CabinKeeps. -/
import Derived.Test.YtomoclicbjkpoabDoorX4
import Derived.Test.YtomoclicbjkpoabDoorX5
namespace Go.Proofs.YtomoclicbjkpoabDoor
open Go.RowKit Cx
attribute [local go_sem ↓] Go.wp_at_zero Go.wp_at_succ

theorem box3c {w : World} {g : Nat} {u v x : Value} {t : TypeId} (h : w.heap[g]? = some (.cells #[u, v, x] t)) : w.cell? ⟨g, 0, none⟩ = some u ∧ w.cell? ⟨g, 1, none⟩ = some v ∧ w.cell? ⟨g, 2, none⟩ = some x :=
  ⟨cell_row (l := [u, v, x]) h 0, cell_row (l := [u, v, x]) h 1, cell_row (l := [u, v, x]) h 2⟩
/-- What ApartSpans leaves: all that is not of its rows. -/
theorem keptT_in {T : Nat → Prop} {w0 w w' : World} {ao : Option Addr} {n cap : Nat} {L : List Int} (h0 : CbIn w0 ao n cap L) (h : CbIn w ao n cap L) (hz : w0.heap.size ≤ w.heap.size) (hg : Ap.GrownT T w w') (hT : ∀ k, T k → w0.heap.size ≤ k) : CbIn w' ao n cap L := by
  refine ⟨fun j u hu => ?_, h.len, h.nil, h.fits, h.most, h.sm⟩
  obtain ⟨a, e, hc⟩ := h.at_ j u hu
  obtain ⟨a0, e0, hc0⟩ := h0.at_ j u hu
  rw [e] at e0
  cases e0
  have hlt : (a.add j).block < w0.heap.size := by
    rcases Nat.lt_or_ge (a.add j).block w0.heap.size with h1 | h1
    · exact h1
    · have : w0.heap[(a.add j).block]? = none := Array.getElem?_eq_none h1
      simp [World.cell?, this] at hc0
  have eb := hg.block (a.add j).block (by omega) (fun t => by have := hT _ t; omega)
  refine ⟨a, e, ?_⟩
  simp only [World.cell?, eb] at hc ⊢
  exact hc

set_option maxRecDepth 100000 in
set_option maxHeartbeats 2000000 in
theorem cabinKeeps_any (x y b : Int) (w : World) (hE : Er w) :
    Calls Tryd.prog 3 #[.int .i64 x, .int .i64 y, .int .i64 b] w fun e w' => e = .returned (.bool true) ∧ w.grownBy w' none := by
  have A := hide (fun w' (hg : w.grownBy w' none) => awake_any w' (hE.grown hg))
  have S := hide (some_any x y b)
  have hr : (x % 64).toNat + 1 ≤ 64 := by omega
  have hq : (y % 16).toNat + 1 ≤ 16 := by omega
  have hr1 : 1 ≤ (x % 64).toNat + 1 := by omega
  have hq1 : 1 ≤ (y % 16).toNat + 1 := by omega
  generalize (x % 64).toNat + 1 = R at *
  generalize (y % 16).toNat + 1 = W at *
  have hN1 : 0 < R * W := Nat.mul_pos hr1 hq1
  have hN2 : R * W ≤ 64 * 16 := Nat.mul_le_mul hr hq
  clear hE hr hq hr1 hq1
  go_enter Tryd.func3, Tryd.ntmps3
  go_wp2_with fail
  refine (A.out _ (grown_refl w _)).mono ?_
  rintro e w1 ⟨rfl, hg1⟩
  have G1 := hide hg1
  clear hg1
  go_wp2_with fail
  refine (S.out _).mono ?_
  rintro e w2 ⟨⟨L, ao, n, cap, rfl, hcb, hok⟩, hg2⟩
  have ga := grown_alloc w2 (.cells #[.int .i64 (R : Int), .int .i64 (W : Int), .slice ao n cap] 25)
  have G2 := hide (And.intro (grown_trans (grown_trans G1.out hg2) ga) (And.intro (hcb.grown ga) (heap_alloc_new w2 (.cells #[.int .i64 (R : Int), .int .i64 (W : Int), .slice ao n cap] 25))))
  have hws : w.heap.size ≤ w2.heap.size := (grown_trans G1.out hg2).size
  have hl0 : 0 < (prg W L (R * W)).length := prg_pos hN1
  have hl1 : (prg W L (R * W)).length ≤ 1024 := Nat.le_trans (prg_len_le W L _) hN2
  have HB := hide (fun w' hc => blocks_ok R W ao n cap L w' hc hok)
  generalize prg W L (R * W) = l at *
  clear hg2 hcb hok G1 ga hN1 hN2
  unfold cbV
  unfold cbV at HB
  go_wp2_with fail
  refine (HB.out _ G2.out.2.1).mono ?_
  rintro e w3 ⟨v, rfl, hv3, hg3⟩
  obtain ⟨va, vc, rfl⟩ := span_form hv3
  have G3 := hide (And.intro (grown_trans G2.out.1 hg3) (And.intro (G2.out.2.1.grown hg3) (And.intro (heap_kept G2.out.2.2 hg3 (by simp)) hv3)))
  obtain ⟨g, hgg⟩ : ∃ g, g = w2.heap.size := ⟨_, rfl⟩
  have hb3 : g + 1 ≤ w3.heap.size := by have := row_lt (heap_kept G2.out.2.2 hg3 (by simp)); omega
  have hz : w.heap.size ≤ g ∧ (w2.alloc (.cells #[.int .i64 (R : Int), .int .i64 (W : Int), .slice ao n cap] 25)).heap.size = g + 1 := by
    exact ⟨by omega, by rw [World.size_alloc, hgg]⟩
  rw [← hgg] at G3
  rw [hz.2] at G3
  have HC := hide G2.out.2.1
  clear hg3 hv3 G2
  rw [← hgg]
  clear hgg
  obtain ⟨c0, c1, c2⟩ := box3c G3.out.2.2.1
  go_wp2_with fail
  clear c0 c1 c2
  refine (HB.out _ G3.out.2.1).mono ?_
  rintro e w4 ⟨v, rfl, hv4, hg4⟩
  obtain ⟨ub, uc, rfl⟩ := span_form hv4
  have G4 := hide (And.intro (grown_trans G3.out.1 hg4) (And.intro (G3.out.2.1.grown hg4) (And.intro (heap_kept G3.out.2.2.1 hg4 (by simp)) (And.intro (span_grown G3.out.2.2.2 hg4) (And.intro hv4 (And.intro G3.out.2.2.2 hg4.size))))))
  clear hg4 hv4 G3
  have HCP := hide (copySpans_any _ l w4 G4.out.2.2.2.1 hl0 (by omega))
  have HSM := hide (fun w' (hg : w4.grownBy w' none) => sameSpans_eq (span_grown G4.out.2.2.2.1 hg) (span_grown G4.out.2.2.2.2.1 hg) (by omega))
  go_wp2_with fail
  refine HCP.out.mono ?_
  rintro e w5 ⟨v, rfl, hv5, hg5⟩
  obtain ⟨wa, wc, rfl⟩ := span_form hv5
  have G5 := hide (And.intro hg5 hv5)
  clear hg5 hv5 HCP
  go_wp2_with fail
  refine (HSM.out _ G5.out.1).mono ?_
  rintro e w6 ⟨rfl, hg6⟩
  have G6 := hide (And.intro (grown_trans G5.out.1 hg6) (span_grown G5.out.2 hg6))
  clear hg6 G5 HSM
  go_wp2_with fail
  have hRw : Af.Rw w6 (g + 1) [Value.slice va l.length vc, .slice ub l.length uc] := by
    obtain ⟨h1, h2, h3, h4, h5, h6, h7⟩ := G4.out
    refine Af.Rw.cons (span_grown h4 G6.out.1) (by omega) (fun u hu => ?_) (Af.Rw.cons (span_base (span_grown h5 G6.out.1) hb3) (by omega) (fun u hu => by cases hu) (Af.Rw.nil _ _))
    simp only [List.mem_singleton] at hu
    subst hu
    exact Af.own_newer h6 h5
  have HAP := hide (Af.apartL_rows (g + 1) [Value.slice va l.length vc, .slice ub l.length uc] w6 hRw (by have := G6.out.1.size; have := G4.out.2.2.2.2.2.2; omega) (by simp) (by simp))
  have hT : ∀ k, (∃ i, i < [Value.slice va l.length vc, .slice ub l.length uc].length ∧ ([Value.slice va l.length vc, .slice ub l.length uc].getD i undef).ownBlock = some k) → g + 1 ≤ k ∧ k < w4.heap.size := by
    obtain ⟨h1, h2, h3, h4, h5, h6, h7⟩ := G4.out
    rintro k ⟨i, hi, e⟩
    match i, hi, e with
    | 0, _, e => exact h4.lt k e
    | 1, _, e => have := h5.lt k e; exact ⟨by omega, this.2⟩
    | i + 2, hi, _ => simp at hi; omega
  have HT := hide hT
  clear hRw hT
  refine HAP.out.mono ?_
  rintro e w7 ⟨rfl, hg7⟩
  have G7 : Hid (w.grownBy w7 none ∧ CbIn w7 ao n cap L ∧ w7.heap[g]? = some (.cells #[.int .i64 (R : Int), .int .i64 (W : Int), .slice ao n cap] 25) ∧ w7.ownsRow w4.heap.size 52 2 (.slice wa l.length wc) l.length (spC l)) := by
    obtain ⟨h1, h2, h3, h4, h5, h6, h7⟩ := G4.out
    obtain ⟨k1, k2⟩ := G6.out
    have hgx := k1.size
    refine ⟨Af.grownT_after (grown_trans h1 k1) hg7 (fun k t => by have := HT.out k t; omega), keptT_in HC.out (h2.grown k1) (by rw [hz.2]; omega) hg7 (fun k t => by rw [hz.2]; exact (HT.out k t).1), ?_, ?_⟩
    · exact (hg7.block g (by omega) (fun t => by have := HT.out g t; omega)).trans (heap_kept h3 k1 (by simp))
    · exact Af.own_keptT k2 hg7 (fun k e t => by have := HT.out k t; have := k2.lt k e; omega)
  clear hg7 HAP HT G6 G4 HC
  obtain ⟨c0, c1, c2⟩ := box3c G7.out.2.2.1
  go_wp2_with fail
  clear c0 c1 c2
  refine (HB.out _ G7.out.2.1).mono ?_
  rintro e w8 ⟨v, rfl, hv8, hg8⟩
  obtain ⟨da, dc, rfl⟩ := span_form hv8
  have HS2 := hide (And.intro (sameSpans_eq hv8 (span_grown G7.out.2.2.2 hg8) (by omega)) (grown_trans G7.out.1 hg8))
  clear hv8 hg8 G7
  go_wp2_with fail
  refine HS2.out.1.mono ?_
  rintro e w9 ⟨rfl, hg9⟩
  have G9 := hide (grown_trans HS2.out.2 hg9)
  clear hg9 HS2
  go_wp2
  go_ret
  exact ⟨rfl, G9.out⟩
end Go.Proofs.YtomoclicbjkpoabDoor
