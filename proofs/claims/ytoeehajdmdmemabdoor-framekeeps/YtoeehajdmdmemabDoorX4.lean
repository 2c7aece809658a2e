/- The contract of the bag's apart, of frames and their bodies. -/
import Derived.Test.YtoeehajdmdmemabDoorX3
import Derived.Test.YtoeehajdmdmemabDoorKNil
namespace Go.Proofs.YtoeehajdmdmemabDoor.Af
open Go.RowKit
open Ap (Kp GrownT make_none)
attribute [local go_sem ↓] Go.wp_at_zero Go.wp_at_succ

set_option maxRecDepth 100000 in
set_option maxHeartbeats 1000000 in
theorem nil_37 (w : World) : Calls Tryd.prog 37 #[.slice none 0 0] w fun e w' => e = .returned (.bool true) ∧ w.grownBy w' none := by
  have hmk := fun w => make_none 53 22 Tryd.underlying53 (by kernel_rfl) w
  go_enter Tryd.func37, Tryd.ntmps37
  go_wp2
  go_loopg [3, 4] 0 (fun _ i _ wr => i = .int .i64 0 ∧ w.grownBy wr none)
  case atStart => exact ⟨rfl, by first | exact hg | exact grown_refl _ _ | exact grown_trans hg (World.grownBy_alloc _ _ none)⟩
  case round =>
    obtain ⟨rfl, hg⟩ := hrel
    go_wp2
    go_loopg [6, 7, 8] 0 (fun _ i _ _ wr => i = .int .i64 0 ∧ w.grownBy wr none)
    case atStart => exact ⟨rfl, by first | exact hg | exact grown_refl _ _ | exact grown_trans hg (World.grownBy_alloc _ _ none)⟩
    case round =>
      obtain ⟨rfl, hg⟩ := hrel
      go_wp2
      go_loopg [9, 10] 0 (fun _ i _ wr => i = .int .i64 0 ∧ w.grownBy wr none)
      case atStart => exact ⟨rfl, by first | exact hg | exact grown_refl _ _ | exact grown_trans hg (World.grownBy_alloc _ _ none)⟩
      case round =>
        obtain ⟨rfl, hg⟩ := hrel
        go_wp2
        go_loopg [11, 12, 13] 0 (fun _ i _ _ wr => i = .int .i64 0 ∧ w.grownBy wr none)
        case atStart => exact ⟨rfl, by first | exact hg | exact grown_refl _ _ | exact grown_trans hg (World.grownBy_alloc _ _ none)⟩
        case round =>
          obtain ⟨rfl, hg⟩ := hrel
          go_wp2
          go_loopg [14, 15] 0 (fun _ i _ wr => i = .int .i64 0 ∧ w.grownBy wr none)
          case atStart => exact ⟨rfl, by first | exact hg | exact grown_refl _ _ | exact grown_trans hg (World.grownBy_alloc _ _ none)⟩
          case round =>
            obtain ⟨rfl, hg⟩ := hrel
            go_wp2
            go_ret
            exact ⟨rfl, hg⟩

theorem own_some {w : World} {B n sz : Nat} {e : TypeId} {v : Value} {xs : List Value} (h : w.ownsRow B e sz v n xs) (hn : 0 < n) : ∃ g cap, v = .slice (some ⟨g, 0, none⟩) n cap := by
  rcases h.2 with ⟨_, h0⟩ | ⟨g, cap, cur, rfl, _⟩
  · omega
  · exact ⟨g, cap, rfl⟩
theorem grownT_trans {T T1 : Nat → Prop} {a b c : World} (h : GrownT T a b) (k : GrownT T1 b c) (hT : ∀ j, T1 j → a.heap.size ≤ j ∨ T j) : GrownT T a c :=
  ⟨k.os.trans h.os, k.tape.trans h.tape, k.output.trans h.output, Nat.le_trans h.size k.size, fun i hi hn => (k.block i (Nat.lt_of_lt_of_le hi h.size) (fun t => by
    rcases hT i t with h1 | h1
    · omega
    · exact hn h1)).trans (h.block i hi hn)⟩
theorem ownT {T : Nat → Prop} {w w' : World} {B n sz : Nat} {e : TypeId} {v : Value} {xs : List Value} (h : w.ownsRow B e sz v n xs) (hg : GrownT T w w') (hne : ∀ k, v.ownBlock = some k → ¬ T k) : w'.ownsRow B e sz v n xs := by
  refine ⟨h.1, ?_⟩
  rcases h.2 with h1 | ⟨g, cap, cur, rfl, h2, h3, h4⟩
  · exact Or.inl h1
  · exact Or.inr ⟨g, cap, cur, rfl, h2, (hg.block g (row_lt h3) (hne g rfl)).trans h3, h4⟩
/-- Lists of frames stay where rows of bytes alone are written. -/
theorem Fl.keptT {T : Nat → Prop} {w w' : World} {B K : Nat} {lsv : Value} {v : Nat → Value} {n : Nat → Nat} {f : Nat → List Value} (h : Fl w B K lsv v n f) (hg : GrownT T w w') (hT : ∀ k, T k → ∃ c, w.heap[k]? = some (.cells c 5 (0, 0))) : Fl w' B K lsv v n f := by
  have hno : ∀ {B' n' sz : Nat} {e : TypeId} {u : Value} {xs : List Value}, w.ownsRow B' e sz u n' xs → e ≠ 5 → ∀ k, u.ownBlock = some k → ¬ T k := by
    intro B' n' sz e u xs ho he k hk ht
    obtain ⟨c, hc⟩ := hT k ht
    obtain ⟨c2, hc2⟩ := own_cells ho hk
    rw [hc] at hc2
    simp at hc2
    exact he hc2.2.symm
  exact ⟨ownT h.ls hg (hno h.ls (by decide)), fun k hk => ownT (h.row k hk) hg (hno (h.row k hk) (by decide)), h.apart⟩

set_option maxRecDepth 100000 in
set_option maxHeartbeats 4000000 in
theorem apart_any (b B K K2 L2 cap2 : Nat) (lsv : Value) (v v2 : Nat → Value) (n n2 : Nat → Nat) (f f2 : Nat → List Value) (T : Nat → Prop) (w0 w : World) (hF : Ap.Fl w B K lsv v n f) (hz : K = 0 → lsv = .slice none 0 0) (hF2 : Fl w B K2 (.slice (some ⟨L2, 0, none⟩) K2 cap2) v2 n2 f2) (hG : Kp T w0 w b (bagD lsv (.slice (some ⟨L2, 0, none⟩) K2 cap2)).toArray)
    (hT : ∀ i, i < K → ∀ k, (v i).ownBlock = some k → w0.heap.size ≤ k ∨ T k) (hT2 : ∀ i, i < K2 → ∀ k, (v2 i).ownBlock = some k → w0.heap.size ≤ k ∨ T k) (hK : K ≤ 400000) (hK2 : K2 ≤ 400000) (hn : ∀ k, k < K → n k ≤ 140737488355000) (hn2 : ∀ k, k < K2 → n2 k ≤ 1000000) (hBw : B ≤ w.heap.size) :
    Calls Tryd.prog 18 #[.pointer (some ⟨b, 0, none⟩)] w fun e w' => e = .returned (.bool true) ∧ GrownT T w0 w' := by
  have HF := hide hF
  have HF2 := hide hF2
  have H0 := hide hG
  have HN := hide (And.intro hn hn2)
  have HT := hide (And.intro hT hT2)
  have HZ := hide hz
  clear hF hF2 hG hn hT hn2 hT2 hz
  obtain ⟨la, lc, hl⟩ := own_slice HF.out.ls
  subst hl
  go_enter Tryd.func18, Tryd.ntmps18
  have c0 : w.cell? ⟨b, 0, none⟩ = some (.slice none 0 0) := by rw [cell_row H0.out.2]; rfl
  go_wp2_with fail
  refine (Ap.nil_33 _).mono ?_
  rintro e w1 ⟨rfl, hg⟩
  have H1 := hide (H0.out.new hg)
  have HF := hide (HF.out.kept hg)
  have HF2 := hide (HF2.out.kept hg)
  have S1 : w.heap.size ≤ w1.heap.size := hg.size
  clear hg c0 H0
  have c1 : w1.cell? ⟨b, 1, none⟩ = some (.slice none 0 0) := by rw [cell_row H1.out.2]; rfl
  go_wp2_with fail
  refine (Ap.nil_34 _).mono ?_
  rintro e w2 ⟨rfl, hg⟩
  have H2 := hide (H1.out.new hg)
  have HF := hide (HF.out.kept hg)
  have HF2 := hide (HF2.out.kept hg)
  have S2 : w.heap.size ≤ w2.heap.size := Nat.le_trans S1 hg.size
  clear hg c1 H1
  have c2 : w2.cell? ⟨b, 2, none⟩ = some (.slice none 0 0) := by rw [cell_row H2.out.2]; rfl
  go_wp2_with fail
  refine (Ap.nil_35 _).mono ?_
  rintro e w3 ⟨rfl, hg⟩
  have H3 := hide (H2.out.new hg)
  have HF := hide (HF.out.kept hg)
  have HF2 := hide (HF2.out.kept hg)
  have S3 : w.heap.size ≤ w3.heap.size := Nat.le_trans S2 hg.size
  clear hg c2 H2
  have c3 : w3.cell? ⟨b, 3, none⟩ = some (.slice none 0 0) := by rw [cell_row H3.out.2]; rfl
  go_wp2_with fail
  refine (Ap.nil_36 _).mono ?_
  rintro e w4 ⟨rfl, hg⟩
  have H4 := hide (H3.out.new hg)
  have HF := hide (HF.out.kept hg)
  have HF2 := hide (HF2.out.kept hg)
  have S4 : w.heap.size ≤ w4.heap.size := Nat.le_trans S3 hg.size
  clear hg c3 H3
  have c4 : w4.cell? ⟨b, 4, none⟩ = some (.slice la K lc) := by rw [cell_row H4.out.2]; exact bagD_b _ _
  go_wp2_with fail
  have hFlat : Calls Tryd.prog 37 #[.slice la K lc] w4 fun e w' => e = .returned (.bool true) ∧ Kp (fun k => ∃ i, i < K ∧ (v i).ownBlock = some k) w4 w' b (bagD (.slice la K lc) (.slice (some ⟨L2, 0, none⟩) K2 cap2)).toArray := by
    have hk0 : Kp (fun k => ∃ i, i < K ∧ (v i).ownBlock = some k) w4 w4 b (bagD (.slice la K lc) (.slice (some ⟨L2, 0, none⟩) K2 cap2)).toArray := ⟨GrownT.refl _ _, H4.out.2⟩
    by_cases h0 : K = 0
    · have e := HZ.out h0
      rw [e]
      rw [e] at hk0
      refine (nil_37 w4).mono ?_
      rintro e w5 ⟨rfl, hg⟩
      exact ⟨rfl, hk0.new hg⟩
    · obtain ⟨gl, cl, e⟩ := own_some HF.out.ls (by omega)
      rw [e]
      rw [e] at hk0
      have hF4 := HF.out
      rw [e] at hF4
      exact Ap.flat_any B K gl cl v n f _ w4 w4 b _ hF4 hk0 (fun i hi k e => Or.inr ⟨i, hi, e⟩) hK HN.out.1 (Nat.le_trans hBw S4)
  refine hFlat.mono ?_
  rintro e w5 ⟨rfl, hk⟩
  have H5 : Hid (Kp T w0 w5 b (bagD (.slice la K lc) (.slice (some ⟨L2, 0, none⟩) K2 cap2)).toArray) := ⟨grownT_trans H4.out.1 hk.1 (fun j ⟨i, hi, e⟩ => HT.out.1 i hi j e), hk.2⟩
  have HF2 := hide (HF2.out.keptT hk.1 (fun k ⟨i, hi, e⟩ => own_cells (HF.out.row i hi) e))
  have S5 : w.heap.size ≤ w5.heap.size := Nat.le_trans S4 hk.1.size
  clear hFlat hk c4 H4 HF HZ
  have c5 : w5.cell? ⟨b, 5, none⟩ = some (.slice none 0 0) := by rw [cell_row H5.out.2]; rfl
  go_wp2_with fail
  refine (Ap.nil_38 _).mono ?_
  rintro e w6 ⟨rfl, hg⟩
  have H6 := hide (H5.out.new hg)
  have HF2 := hide (HF2.out.kept hg)
  have S6 : w.heap.size ≤ w6.heap.size := Nat.le_trans S5 hg.size
  clear hg c5 H5
  have c6 : w6.cell? ⟨b, 6, none⟩ = some (.slice none 0 0) := by rw [cell_row H6.out.2]; rfl
  go_wp2_with fail
  refine (Ap.nil_39 _).mono ?_
  rintro e w7 ⟨rfl, hg⟩
  have H7 := hide (H6.out.new hg)
  have HF2 := hide (HF2.out.kept hg)
  have S7 : w.heap.size ≤ w7.heap.size := Nat.le_trans S6 hg.size
  clear hg c6 H6
  have c7 : w7.cell? ⟨b, 7, none⟩ = some (.slice none 0 0) := by rw [cell_row H7.out.2]; rfl
  go_wp2_with fail
  refine (Ap.nil_40 _).mono ?_
  rintro e w8 ⟨rfl, hg⟩
  have H8 := hide (H7.out.new hg)
  have HF2 := hide (HF2.out.kept hg)
  have S8 : w.heap.size ≤ w8.heap.size := Nat.le_trans S7 hg.size
  clear hg c7 H7
  have c8 : w8.cell? ⟨b, 8, none⟩ = some (.slice (some ⟨L2, 0, none⟩) K2 cap2) := by rw [cell_row H8.out.2]; exact bagD_f _ _
  go_wp2_with fail
  refine (flat_any B K2 L2 cap2 v2 n2 f2 T w0 w8 b _ HF2.out H8.out HT.out.2 hK2 HN.out.2 (Nat.le_trans hBw S8)).mono ?_
  rintro e w9 ⟨rfl, hk⟩
  have H9 := hide hk
  clear hk c8 H8 HF2
  have c9 : w9.cell? ⟨b, 9, none⟩ = some (.slice none 0 0) := by rw [cell_row H9.out.2]; rfl
  go_wp2_with fail
  refine (Ap.nil_42 _).mono ?_
  rintro e w10 ⟨rfl, hg⟩
  have H10 := hide (H9.out.new hg)
  clear hg c9 H9
  have c10 : w10.cell? ⟨b, 10, none⟩ = some (.slice none 0 0) := by rw [cell_row H10.out.2]; rfl
  go_wp2_with fail
  refine (Ap.nil_43 _).mono ?_
  rintro e w11 ⟨rfl, hg⟩
  have H11 := hide (H10.out.new hg)
  clear hg c10 H10
  have c11 : w11.cell? ⟨b, 11, none⟩ = some (.slice none 0 0) := by rw [cell_row H11.out.2]; rfl
  go_wp2_with fail
  refine (Ap.nil_44 _).mono ?_
  rintro e w12 ⟨rfl, hg⟩
  have H12 := hide (H11.out.new hg)
  clear hg c11 H11
  have c12 : w12.cell? ⟨b, 12, none⟩ = some (.slice none 0 0) := by rw [cell_row H12.out.2]; rfl
  go_wp2_with fail
  refine (Ap.nil_45 _).mono ?_
  rintro e w13 ⟨rfl, hg⟩
  have H13 := hide (H12.out.new hg)
  clear hg c12 H12
  have c13 : w13.cell? ⟨b, 13, none⟩ = some (.slice none 0 0) := by rw [cell_row H13.out.2]; rfl
  go_wp2_with fail
  refine (Ap.nil_46 _).mono ?_
  rintro e w14 ⟨rfl, hg⟩
  have H14 := hide (H13.out.new hg)
  clear hg c13 H13
  have c14 : w14.cell? ⟨b, 14, none⟩ = some (.slice none 0 0) := by rw [cell_row H14.out.2]; rfl
  go_wp2_with fail
  refine (Ap.nil_47 _).mono ?_
  rintro e w15 ⟨rfl, hg⟩
  have H15 := hide (H14.out.new hg)
  clear hg c14 H14
  have c15 : w15.cell? ⟨b, 15, none⟩ = some (.slice none 0 0) := by rw [cell_row H15.out.2]; rfl
  go_wp2_with fail
  refine (Ap.nil_48 _).mono ?_
  rintro e w16 ⟨rfl, hg⟩
  have H16 := hide (H15.out.new hg)
  clear hg c15 H15
  have c16 : w16.cell? ⟨b, 16, none⟩ = some (.slice none 0 0) := by rw [cell_row H16.out.2]; rfl
  go_wp2_with fail
  refine (Ap.nil_49 _).mono ?_
  rintro e w17 ⟨rfl, hg⟩
  have H17 := hide (H16.out.new hg)
  clear hg c16 H16
  have c17 : w17.cell? ⟨b, 17, none⟩ = some (.slice none 0 0) := by rw [cell_row H17.out.2]; rfl
  go_wp2_with fail
  refine (Ap.nil_50 _).mono ?_
  rintro e w18 ⟨rfl, hg⟩
  have H18 := hide (H17.out.new hg)
  clear hg c17 H17
  have c18 : w18.cell? ⟨b, 18, none⟩ = some (.slice none 0 0) := by rw [cell_row H18.out.2]; rfl
  go_wp2_with fail
  refine (Ap.nil_51 _).mono ?_
  rintro e w19 ⟨rfl, hg⟩
  have H19 := hide (H18.out.new hg)
  clear hg c18 H18
  go_wp2
  go_ret
  exact ⟨rfl, H19.out.1⟩
end Go.Proofs.YtoeehajdmdmemabDoor.Af
