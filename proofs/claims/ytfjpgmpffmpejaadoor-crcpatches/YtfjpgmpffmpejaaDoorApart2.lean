/- The contract of ApartBytes. -/
import Derived.Test.YtfjpgmpffmpejaaDoorApart
namespace Go.Proofs.YtfjpgmpffmpejaaDoor
open Go.RowKit
attribute [local go_sem ↓] Go.wp_at_zero Go.wp_at_succ

theorem own_below {w w' : World} {B B1 n : Nat} {e : TypeId} {v : Value} {xs : List Value} (h : w.ownsRow B e 1 v n xs) (hb : Below B1 w w') (hw : w.heap.size ≤ B1) : w'.ownsRow B e 1 v n xs := by
  refine ⟨h.1, ?_⟩
  rcases h.2 with h1 | ⟨g, cap, cur, h1, h2, h3, h4⟩
  · exact Or.inl h1
  · exact Or.inr ⟨g, cap, cur, h1, h2, (hb.block g (Nat.lt_of_lt_of_le (row_lt h3) hw)).trans h3, h4⟩
theorem below_trans {B : Nat} {a b c : World} (h : Below B a b) (k : Below B b c) : Below B a c := ⟨k.os.trans h.os, k.tape.trans h.tape, k.output.trans h.output, Nat.le_trans h.size k.size, fun i hi => (k.block i hi).trans (h.block i hi)⟩

set_option maxRecDepth 100000 in
set_option maxHeartbeats 1000000 in
theorem apartBytes_any (B K L cap : Nat) (v : Nat → Value) (n : Nat → Nat) (f : Nat → List Value) (w0 w : World) (hF : Fl w B K (.slice (some ⟨L, 0, none⟩) K cap) v n f) (hG : w0.grownBy w none) (hB : w0.heap.size ≤ B) (hK : K ≤ 400000) (hK0 : 0 < K) (hn : ∀ k, k < K → n k ≤ 140737488355000) (hBw : B ≤ w.heap.size) :
    Calls Tryd.prog 22 #[.slice (some ⟨L, 0, none⟩) K cap] w fun e w' => e = .returned (.bool true) ∧ w0.grownBy w' none := by
  have HF := hide (And.intro hF hG)
  have HN := hide hn
  obtain ⟨b, hb⟩ : ∃ b, b = w.heap.size := ⟨_, rfl⟩
  have Hb := hide hb
  clear hF hG hn hb
  go_enter Tryd.func22, Tryd.ntmps22
  go_wp2
  rw [← Hb.out]
  go_loopg [4] K (fun q i wr => ∃ (j : Nat) (lsv : Value), q + j = K ∧ i = .int .i64 j ∧ wr.heap[b]? = some (.cells (bagC lsv).toArray 68 (0, 0)) ∧ wr.ownsRow b 23 1 lsv j ((List.range j).map v) ∧ Below b w wr ∧ b < wr.heap.size)
  case atStart =>
    have e : w.heap.size = b := Hb.out.symm
    refine ⟨0, .slice none 0 0, by omega, rfl, ?_, World.ownsRow_nil _ _ _ _, ?_, by simp; omega⟩
    · have := heap_alloc_new w (Obj.cells (bagC (.slice none 0 0)).toArray 68)
      rw [e] at this
      exact this
    · have := grown_below (World.grownBy_alloc w (Obj.cells (bagC (.slice none 0 0)).toArray 68) none)
      rw [e] at this
      exact this
  case round =>
    obtain ⟨j, lsv, hgj, rfl, hbag, hown, hbel, hbs⟩ := hrel
    by_cases hk : 0 < gk
    · have hj : j < K := by omega
      have hjK : (j : Int) < (K : Int) := by omega
      have hls := own_below HF.out.1.ls hbel (Nat.le_of_eq Hb.out.symm)
      have hcl : wr.cell? ⟨L, j, none⟩ = some (v j) := by rw [hls.cellAt j (by omega)]; simp [hj]
      obtain ⟨ao, c, hv⟩ := own_len (HF.out.1.row j hj)
      rw [hv] at hcl
      have hp := putBytes_any b b lsv j ((List.range j).map v) ao (n j) c wr hbag hown (by omega) (by omega) (Nat.le_refl _)
      have HP := hide hp
      have HQ := hide (And.intro hbel hv)
      obtain ⟨nj, hnj⟩ : ∃ x, x = n j := ⟨_, rfl⟩
      rw [← hnj] at hcl
      have HNJ := hide hnj
      clear hbag hown hbel hls hv hp hnj
      go_wp2_with fail
      have hp := HP.out
      rw [← HNJ.out] at hp
      refine hp.mono ?_
      rintro e w' ⟨rfl, lsv', h1, h2, h3⟩
      have e2 : ((List.range j).map v) ++ [Value.slice ao nj c] = (List.range (j + 1)).map v := by rw [List.range_succ, List.map_append, HNJ.out, ← HQ.out.2]; rfl
      rw [e2] at h2
      have HR := hide (And.intro h1 (And.intro h2 (And.intro (below_trans HQ.out.1 h3) (Nat.lt_of_lt_of_le hbs h3.size))))
      clear hp h1 h2 h3 e2 HP HQ HNJ
      go_wp2
      go_roundg (gk - 1)
      case measure => omega
      case rel => exact ⟨j + 1, lsv', by omega, by go_num, HR.out.1, HR.out.2.1, HR.out.2.2.1, HR.out.2.2.2⟩
    · have hj : j = K := by omega
      have hjK : ¬ (j : Int) < (K : Int) := by omega
      rw [hj] at hown
      have hw : w.heap.size ≤ b := Nat.le_of_eq Hb.out.symm
      obtain ⟨L', cap', hl⟩ : ∃ g cap, lsv = .slice (some ⟨g, 0, none⟩) K cap := by
        rcases hown.2 with ⟨_, h0⟩ | ⟨g, cap, cur, rfl, _⟩
        · omega
        · exact ⟨_, _, rfl⟩
      subst hl
      obtain ⟨hF, hG⟩ := HF.out
      have hF2 : Fl wr B K (.slice (some ⟨L', 0, none⟩) K cap') v n f := ⟨ownsRow_le hown (by omega), fun k hk' => own_below (hF.row k hk') hbel hw, hF.apart⟩
      have hG2 : w0.grownBy wr none := grown_trans hG (below_grown (by rw [Hb.out] at hbel; exact hbel))
      have hA := apart_any b B K L' cap' v n f w0 wr hF2 ⟨hG2, hbag⟩ hB hK HN.out (by omega)
      have HA := hide hA
      clear hown hbag hbel hF hG hF2 hG2 hA HF hj
      go_wp2_with fail
      refine HA.out.mono ?_
      rintro e w' ⟨rfl, hg⟩
      have HG := hide hg
      clear hg
      go_wp2
      go_ret
      exact ⟨rfl, HG.out⟩
end Go.Proofs.YtfjpgmpffmpejaaDoor
