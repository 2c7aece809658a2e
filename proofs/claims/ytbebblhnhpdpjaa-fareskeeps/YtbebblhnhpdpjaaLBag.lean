/- The contract of the bag's apart, where it holds lists of one kind alone. -/
import Derived.Test.YtbebblhnhpdpjaaLFlat
import Derived.Test.YtbebblhnhpdpjaaKNil
namespace Go.Proofs.Ytbebblhnhpdpjaa.Al
open Go.RowKit
attribute [local go_sem ↓] Go.wp_at_zero Go.wp_at_succ
attribute [local go_sem] run_store_float

/-- The cells of a bag: nothing but the lists of this kind. -/
def bagC (v : Value) : List Value := List.replicate 5 (.slice none 0 0) ++ v :: List.replicate 13 (.slice none 0 0)
theorem bagC_length (v : Value) : (bagC v).length = 19 := rfl
theorem bagC_at (v : Value) : (bagC v)[5]? = some v := rfl
theorem bagC_set (v v' : Value) : (bagC v).set 5 v' = bagC v' := rfl
theorem bagC_nil0 (v : Value) : (bagC v)[0]? = some (.slice none 0 0) := rfl
theorem bagC_nil1 (v : Value) : (bagC v)[1]? = some (.slice none 0 0) := rfl
theorem bagC_nil2 (v : Value) : (bagC v)[2]? = some (.slice none 0 0) := rfl
theorem bagC_nil3 (v : Value) : (bagC v)[3]? = some (.slice none 0 0) := rfl
theorem bagC_nil4 (v : Value) : (bagC v)[4]? = some (.slice none 0 0) := rfl
theorem bagC_nil6 (v : Value) : (bagC v)[6]? = some (.slice none 0 0) := rfl
theorem bagC_nil7 (v : Value) : (bagC v)[7]? = some (.slice none 0 0) := rfl
theorem bagC_nil8 (v : Value) : (bagC v)[8]? = some (.slice none 0 0) := rfl
theorem bagC_nil9 (v : Value) : (bagC v)[9]? = some (.slice none 0 0) := rfl
theorem bagC_nil10 (v : Value) : (bagC v)[10]? = some (.slice none 0 0) := rfl
theorem bagC_nil11 (v : Value) : (bagC v)[11]? = some (.slice none 0 0) := rfl
theorem bagC_nil12 (v : Value) : (bagC v)[12]? = some (.slice none 0 0) := rfl
theorem bagC_nil13 (v : Value) : (bagC v)[13]? = some (.slice none 0 0) := rfl
theorem bagC_nil14 (v : Value) : (bagC v)[14]? = some (.slice none 0 0) := rfl
theorem bagC_nil15 (v : Value) : (bagC v)[15]? = some (.slice none 0 0) := rfl
theorem bagC_nil16 (v : Value) : (bagC v)[16]? = some (.slice none 0 0) := rfl
theorem bagC_nil17 (v : Value) : (bagC v)[17]? = some (.slice none 0 0) := rfl
theorem bagC_nil18 (v : Value) : (bagC v)[18]? = some (.slice none 0 0) := rfl

set_option maxRecDepth 100000 in
set_option maxHeartbeats 4000000 in
theorem apart_any (b B K L cap : Nat) (v : Nat → Value) (n : Nat → Nat) (f : Nat → List Value) (T : Nat → Prop) (w0 w : World) (hF : Fl w B K (.slice (some ⟨L, 0, none⟩) K cap) v n f) (hG : Kp T w0 w b (bagC (.slice (some ⟨L, 0, none⟩) K cap)).toArray) (hT : ∀ i, i < K → ∀ k, (v i).ownBlock = some k → w0.heap.size ≤ k ∨ T k) (hK : K ≤ 400000) (hn : ∀ k, k < K → n k ≤ 17592186044000) (hBw : B ≤ w.heap.size) :
    Calls Try.prog 53 #[.pointer (some ⟨b, 0, none⟩)] w fun e w' => e = .returned (.bool true) ∧ GrownT T w0 w' := by
  have HF := hide hF
  have H0 := hide hG
  have HN := hide hn
  have HT := hide hT
  have S0 : w.heap.size ≤ w.heap.size := Nat.le_refl _
  clear hF hG hn hT
  go_enter Try.func53, Try.ntmps53
  have c0 : w.cell? ⟨b, 0, none⟩ = some (.slice none 0 0) := by rw [cell_row H0.out.2]; exact bagC_nil0 _
  go_wp2_with fail
  refine (Ap.nil_60 _).mono ?_
  rintro e w1 ⟨rfl, hg⟩
  have H1 := hide (H0.out.new hg)
  have HF := hide (HF.out.kept hg)
  have S1 : w.heap.size ≤ w1.heap.size := Nat.le_trans S0 hg.size
  clear hg c0 H0
  have c1 : w1.cell? ⟨b, 1, none⟩ = some (.slice none 0 0) := by rw [cell_row H1.out.2]; exact bagC_nil1 _
  go_wp2_with fail
  refine (Ap.nil_61 _).mono ?_
  rintro e w2 ⟨rfl, hg⟩
  have H2 := hide (H1.out.new hg)
  have HF := hide (HF.out.kept hg)
  have S2 : w.heap.size ≤ w2.heap.size := Nat.le_trans S1 hg.size
  clear hg c1 H1
  have c2 : w2.cell? ⟨b, 2, none⟩ = some (.slice none 0 0) := by rw [cell_row H2.out.2]; exact bagC_nil2 _
  go_wp2_with fail
  refine (Ap.nil_62 _).mono ?_
  rintro e w3 ⟨rfl, hg⟩
  have H3 := hide (H2.out.new hg)
  have HF := hide (HF.out.kept hg)
  have S3 : w.heap.size ≤ w3.heap.size := Nat.le_trans S2 hg.size
  clear hg c2 H2
  have c3 : w3.cell? ⟨b, 3, none⟩ = some (.slice none 0 0) := by rw [cell_row H3.out.2]; exact bagC_nil3 _
  go_wp2_with fail
  refine (Ap.nil_63 _).mono ?_
  rintro e w4 ⟨rfl, hg⟩
  have H4 := hide (H3.out.new hg)
  have HF := hide (HF.out.kept hg)
  have S4 : w.heap.size ≤ w4.heap.size := Nat.le_trans S3 hg.size
  clear hg c3 H3
  have c4 : w4.cell? ⟨b, 4, none⟩ = some (.slice none 0 0) := by rw [cell_row H4.out.2]; exact bagC_nil4 _
  go_wp2_with fail
  refine (Ap.nil_64 _).mono ?_
  rintro e w5 ⟨rfl, hg⟩
  have H5 := hide (H4.out.new hg)
  have HF := hide (HF.out.kept hg)
  have S5 : w.heap.size ≤ w5.heap.size := Nat.le_trans S4 hg.size
  clear hg c4 H4
  have c5 : w5.cell? ⟨b, 5, none⟩ = some (.slice (some ⟨L, 0, none⟩) K cap) := by rw [cell_row H5.out.2]; exact bagC_at _
  go_wp2_with fail
  refine (flat_any B K L cap v n f T w0 w5 b _ HF.out H5.out HT.out hK HN.out (Nat.le_trans hBw S5)).mono ?_
  rintro e w6 ⟨rfl, hk⟩
  have H6 := hide hk
  clear hk c5 H5 HF
  have c6 : w6.cell? ⟨b, 6, none⟩ = some (.slice none 0 0) := by rw [cell_row H6.out.2]; exact bagC_nil6 _
  go_wp2_with fail
  refine (Ap.nil_66 _).mono ?_
  rintro e w7 ⟨rfl, hg⟩
  have H7 := hide (H6.out.new hg)
  clear hg c6 H6
  have c7 : w7.cell? ⟨b, 7, none⟩ = some (.slice none 0 0) := by rw [cell_row H7.out.2]; exact bagC_nil7 _
  go_wp2_with fail
  refine (Ap.nil_67 _).mono ?_
  rintro e w8 ⟨rfl, hg⟩
  have H8 := hide (H7.out.new hg)
  clear hg c7 H7
  have c8 : w8.cell? ⟨b, 8, none⟩ = some (.slice none 0 0) := by rw [cell_row H8.out.2]; exact bagC_nil8 _
  go_wp2_with fail
  refine (Ap.nil_68 _).mono ?_
  rintro e w9 ⟨rfl, hg⟩
  have H9 := hide (H8.out.new hg)
  clear hg c8 H8
  have c9 : w9.cell? ⟨b, 9, none⟩ = some (.slice none 0 0) := by rw [cell_row H9.out.2]; exact bagC_nil9 _
  go_wp2_with fail
  refine (Ap.nil_69 _).mono ?_
  rintro e w10 ⟨rfl, hg⟩
  have H10 := hide (H9.out.new hg)
  clear hg c9 H9
  have c10 : w10.cell? ⟨b, 10, none⟩ = some (.slice none 0 0) := by rw [cell_row H10.out.2]; exact bagC_nil10 _
  go_wp2_with fail
  refine (Ap.nil_70 _).mono ?_
  rintro e w11 ⟨rfl, hg⟩
  have H11 := hide (H10.out.new hg)
  clear hg c10 H10
  have c11 : w11.cell? ⟨b, 11, none⟩ = some (.slice none 0 0) := by rw [cell_row H11.out.2]; exact bagC_nil11 _
  go_wp2_with fail
  refine (Ap.nil_71 _).mono ?_
  rintro e w12 ⟨rfl, hg⟩
  have H12 := hide (H11.out.new hg)
  clear hg c11 H11
  have c12 : w12.cell? ⟨b, 12, none⟩ = some (.slice none 0 0) := by rw [cell_row H12.out.2]; exact bagC_nil12 _
  go_wp2_with fail
  refine (Ap.nil_72 _).mono ?_
  rintro e w13 ⟨rfl, hg⟩
  have H13 := hide (H12.out.new hg)
  clear hg c12 H12
  have c13 : w13.cell? ⟨b, 13, none⟩ = some (.slice none 0 0) := by rw [cell_row H13.out.2]; exact bagC_nil13 _
  go_wp2_with fail
  refine (Ap.nil_73 _).mono ?_
  rintro e w14 ⟨rfl, hg⟩
  have H14 := hide (H13.out.new hg)
  clear hg c13 H13
  have c14 : w14.cell? ⟨b, 14, none⟩ = some (.slice none 0 0) := by rw [cell_row H14.out.2]; exact bagC_nil14 _
  go_wp2_with fail
  refine (Ap.nil_74 _).mono ?_
  rintro e w15 ⟨rfl, hg⟩
  have H15 := hide (H14.out.new hg)
  clear hg c14 H14
  have c15 : w15.cell? ⟨b, 15, none⟩ = some (.slice none 0 0) := by rw [cell_row H15.out.2]; exact bagC_nil15 _
  go_wp2_with fail
  refine (Ap.nil_75 _).mono ?_
  rintro e w16 ⟨rfl, hg⟩
  have H16 := hide (H15.out.new hg)
  clear hg c15 H15
  have c16 : w16.cell? ⟨b, 16, none⟩ = some (.slice none 0 0) := by rw [cell_row H16.out.2]; exact bagC_nil16 _
  go_wp2_with fail
  refine (Ap.nil_76 _).mono ?_
  rintro e w17 ⟨rfl, hg⟩
  have H17 := hide (H16.out.new hg)
  clear hg c16 H16
  have c17 : w17.cell? ⟨b, 17, none⟩ = some (.slice none 0 0) := by rw [cell_row H17.out.2]; exact bagC_nil17 _
  go_wp2_with fail
  refine (Ap.nil_77 _).mono ?_
  rintro e w18 ⟨rfl, hg⟩
  have H18 := hide (H17.out.new hg)
  clear hg c17 H17
  have c18 : w18.cell? ⟨b, 18, none⟩ = some (.slice none 0 0) := by rw [cell_row H18.out.2]; exact bagC_nil18 _
  go_wp2_with fail
  refine (Ap.nil_78 _).mono ?_
  rintro e w19 ⟨rfl, hg⟩
  have H19 := hide (H18.out.new hg)
  clear hg c18 H18
  go_wp2
  go_ret
  exact ⟨rfl, H19.out.1⟩
end Go.Proofs.Ytbebblhnhpdpjaa.Al
