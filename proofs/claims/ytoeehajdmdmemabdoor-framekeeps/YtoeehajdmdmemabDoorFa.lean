/- The contract of awake. -/
import Derived.Test.YtoeehajdmdmemabDoorFs
namespace Go.Proofs.YtoeehajdmdmemabDoor
open Go.RowKit
attribute [local go_sem ↓] Go.wp_at_zero Go.wp_at_succ

def awF : Fr := ⟨1, 2, [7]⟩
theorem awF_ok : awF.Ok := ⟨by decide, by decide, by decide, by decide, fun x hx => by simp [awF] at hx; omega⟩
theorem awF_get : getF awF.out = ⟨awF, 23, 0⟩ := by
  have := getF_out awF_ok (by decide) []
  rwa [List.append_nil] at this
theorem awF_cut : getF (awF.out.take 22) = ⟨noFr, 0, 4⟩ := by
  have hl := awF.out_length
  have hb : blen (awF.out.take 22) = 1 := by decide
  unfold getF
  rw [hb, if_neg (by simp; rw [hl]; decide), if_neg (by decide), if_pos (by simp; omega)]
theorem awF_row : rowF 1 1 awF.out = [awF] := by
  have := rowF_outs 1 [awF] 1 [] (by
    intro i f hf
    match i, hf with
    | 0, hf => simp at hf; subst hf; exact ⟨rfl, rfl, awF_ok, by decide⟩
    | i + 1, hf => simp at hf) (fun x hx => by cases hx) (by
    intro h
    have := h.1
    simp [getF] at this)
  simpa [outs] using this

set_option maxHeartbeats 2000000 in
theorem awake_any (w : World) (hT : Tab w) : Calls Tryd.prog 4 #[] w fun e w' => e = .returned (.bool true) ∧ w.grownBy w' none := by
  have HT := hide hT
  have g1 := hide (World.grownBy_alloc w (.cells #[.int .u8 7] 5) none)
  have HA := hide (at_new w [7] #[.int .u8 7] rfl)
  clear hT
  go_enter Tryd.func4, Tryd.ntmps4
  go_wp2_with fail
  refine (fput_any awF awF_ok (by decide) (some ⟨w.heap.size, 0, none⟩) 1 1 _ rfl HA.out (by omega) (by unfold maxLen; omega) (HT.out.grown g1.out) (by simp)).mono ?_
  rintro e w2 ⟨g, rfl, hgl, hrow, hg2⟩
  have HG2 := hide (grown_trans g1.out hg2)
  have HS : Hid (Src w2 (some ⟨g, 0, none⟩) 23 23 awF.out) := ⟨at_row hrow, awF.out_length, (fun e => by cases e), Nat.le_refl _, Fr.out_byt awF_ok.byt, by omega, HT.out.grown HG2.out⟩
  have HL : Hid (g < w2.heap.size) := row_lt hrow
  simp only [Nat.reduceAdd]
  clear hrow hg2 hgl g1 HA
  go_wp2_with fail
  refine (fget_any awF.out HS.out.byt _ 23 23 w2 HS.out.len HS.out.lies HS.out.nil HS.out.fits HS.out.sm HS.out.tab).mono ?_
  rw [awF_get]
  rintro e w3 ⟨v, rfl, hv, hg⟩
  simp only [awF, frV]
  obtain ⟨vo, vc, rfl⟩ := own_form hv
  have HS3 := hide (HS.out.grown hg)
  have HG3 := hide (grown_trans HG2.out hg)
  have HL3 : Hid (g < w3.heap.size) := Nat.lt_of_lt_of_le HL.out hg.size
  simp only [awF] at hv
  clear hv hg HS HG2 HL
  have hst := slice_to (some ⟨g, 0, none⟩) 23 23 22 (by omega)
  go_wp2_with fail
  have hga := World.grownBy_alloc w3 (.cells #[.int .u64 1, .int .u64 2, .slice vo awF.b.length vc] 34) none
  have hb4 := heap_alloc_new w3 (.cells [Value.int .u64 1, .int .u64 2, .slice vo awF.b.length vc].toArray 34)
  have HS4 := hide (HS3.out.grown hga)
  have HG4 := hide (grown_trans HG3.out hga)
  have HL4 : Hid (g < (w3.alloc (.cells #[.int .u64 1, .int .u64 2, .slice vo awF.b.length vc] 34)).heap.size) := Nat.lt_of_lt_of_le HL3.out hga.size
  obtain ⟨F, hF⟩ : ∃ F, F = w3.heap.size := ⟨_, rfl⟩
  rw [← hF] at hb4 ⊢
  have HB4 := hide hb4
  clear hga hb4 HS3 HG3 HL3 hF hst
  simp only [List.toArray] at HB4
  generalize w3.alloc (.cells #[.int .u64 1, .int .u64 2, .slice vo awF.b.length vc] 34) = w4 at *
  have hl22 : (awF.out.take 22).length = 22 := by have := awF.out_length; simp; rw [this]; decide
  refine (fget_any (awF.out.take 22) (HS4.out.byt.take 22) _ 22 23 w4 hl22 (HS4.out.lies.take 22) (fun e => by cases e) (by omega) (by omega) HS4.out.tab).mono ?_
  rw [awF_cut]
  rintro e w5 ⟨v, rfl, hv, hg⟩
  obtain ⟨uo, uc, rfl⟩ := own_form hv
  simp only [noFr, frV]
  have hga := World.grownBy_alloc w5 (.cells #[.int .u64 0, .int .u64 0, .slice uo 0 uc] 34) none
  have hg' := grown_trans hg hga
  have HS6 := hide (HS4.out.grown hg')
  have HG6 := hide (grown_trans HG4.out hg')
  have HL6 : Hid (g < (w5.alloc (.cells #[.int .u64 0, .int .u64 0, .slice uo 0 uc] 34)).heap.size) := Nat.lt_of_lt_of_le HL4.out hg'.size
  have HB6 := hide ((hg'.block F (row_lt HB4.out) (by simp)).trans HB4.out)
  clear hv hg hga hg' HS4 HG4 HL4 HB4 hl22
  simp only [List.length_nil]
  go_wp2_with fail
  generalize w5.alloc (.cells #[.int .u64 0, .int .u64 0, .slice uo 0 uc] 34) = w6 at *
  refine (scan_any (some ⟨g, 0, none⟩) 23 23 awF.out 1 1 w6 HS6.out (by omega) (by omega) (by omega)).mono ?_
  rw [awF_row]
  rintro e w7 ⟨v, ys, rfl, hys, hfs, hg⟩
  obtain ⟨ro, rc, rfl⟩ := own_form hfs.own
  have hyl : ys.length = 1 := by rw [← frs_length, hys]; rfl
  rw [hyl]
  have HG7 := hide (grown_trans HG6.out hg)
  have HB7 := hide ((hg.block F (row_lt HB6.out) (by simp)).trans HB6.out)
  clear hfs hg HS6 HG6 HL6 HB6 hys hyl
  rw [show fend [awF] = 23 from rfl]
  obtain ⟨d0, d1, d2⟩ := box_cells HB7.out
  go_wp2
  go_ret
  exact ⟨rfl, HG7.out⟩
end Go.Proofs.YtoeehajdmdmemabDoor
