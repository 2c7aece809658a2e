/- Texts joined: FX4, FX5, FX8, Sp0. -/
import Derived.Test.YtofdijaipjkfbaaGreatDoorJsAe
import Derived.Test.YtofdijaipjkfbaaGreatDoorJsAf
import Derived.Test.YtofdijaipjkfbaaGreatDoorJkBa
/- The contract of the bag's apart, of frames and their bodies. -/
namespace Go.Proofs.YtofdijaipjkfbaaGreatDoor.Fm.Af
open Go.RowKit
open Ap (Kp GrownT make_none)
attribute [local go_sem ↓] Go.wp_at_zero Go.wp_at_succ

set_option maxRecDepth 100000 in
set_option maxHeartbeats 1000000 in
theorem nil_122 (w : World) : Calls Tryz.prog 122 #[.slice none 0 0] w fun e w' => e = .returned (.bool true) ∧ w.grownBy w' none := by
  have hmk := fun w => make_none 51 39 Tryz.underlying51 (by kernel_rfl) w
  go_enter Tryz.func122, Tryz.ntmps122
  go_wp2
  go_loopg [3, 4] 0 (fun _ i _ wr => i = .int .i64 0 ∧ w.grownBy wr none)
  case atStart => exact ⟨rfl, by first | exact hg | exact grown_refl _ _ | exact grown_trans hg (World.grownBy_alloc _ _ none)⟩
  case round =>
    obtain ⟨rfl, hg⟩ := hrel
    go_wp2
    go_loopg [6, 7, 8] 0 (fun _ i _ _ wr => i = .int .i64 0 ∧ w.grownBy wr none)
    case atStart => exact ⟨rfl, by first | exact hg | exact grown_refl _ _ | exact grown_trans hg (World.grownBy_alloc _ _ none)⟩
    case round =>
      obtain ⟨rfl, hg⟩ := hrel
      go_wp2
      go_loopg [9, 10] 0 (fun _ i _ wr => i = .int .i64 0 ∧ w.grownBy wr none)
      case atStart => exact ⟨rfl, by first | exact hg | exact grown_refl _ _ | exact grown_trans hg (World.grownBy_alloc _ _ none)⟩
      case round =>
        obtain ⟨rfl, hg⟩ := hrel
        go_wp2
        go_loopg [11, 12, 13] 0 (fun _ i _ _ wr => i = .int .i64 0 ∧ w.grownBy wr none)
        case atStart => exact ⟨rfl, by first | exact hg | exact grown_refl _ _ | exact grown_trans hg (World.grownBy_alloc _ _ none)⟩
        case round =>
          obtain ⟨rfl, hg⟩ := hrel
          go_wp2
          go_loopg [14, 15] 0 (fun _ i _ wr => i = .int .i64 0 ∧ w.grownBy wr none)
          case atStart => exact ⟨rfl, by first | exact hg | exact grown_refl _ _ | exact grown_trans hg (World.grownBy_alloc _ _ none)⟩
          case round =>
            obtain ⟨rfl, hg⟩ := hrel
            go_wp2
            go_ret
            exact ⟨rfl, hg⟩

theorem own_some {w : World} {B n sz : Nat} {e : TypeId} {v : Value} {xs : List Value} (h : w.ownsRow B e sz v n xs) (hn : 0 < n) : ∃ g cap, v = .slice (some ⟨g, 0, none⟩) n cap := by
  rcases h.2 with ⟨_, h0⟩ | ⟨g, cap, cur, rfl, _⟩
  · omega
  · exact ⟨g, cap, rfl⟩
theorem grownT_trans {T T1 : Nat → Prop} {a b c : World} (h : GrownT T a b) (k : GrownT T1 b c) (hT : ∀ j, T1 j → a.heap.size ≤ j ∨ T j) : GrownT T a c :=
  ⟨k.os.trans h.os, k.tape.trans h.tape, k.output.trans h.output, Nat.le_trans h.size k.size, fun i hi hn => (k.block i (Nat.lt_of_lt_of_le hi h.size) (fun t => by
    rcases hT i t with h1 | h1
    · omega
    · exact hn h1)).trans (h.block i hi hn)⟩
theorem ownT {T : Nat → Prop} {w w' : World} {B n sz : Nat} {e : TypeId} {v : Value} {xs : List Value} (h : w.ownsRow B e sz v n xs) (hg : GrownT T w w') (hne : ∀ k, v.ownBlock = some k → ¬ T k) : w'.ownsRow B e sz v n xs := by
  refine ⟨h.1, ?_⟩
  rcases h.2 with h1 | ⟨g, cap, cur, rfl, h2, h3, h4⟩
  · exact Or.inl h1
  · exact Or.inr ⟨g, cap, cur, rfl, h2, (hg.block g (row_lt h3) (hne g rfl)).trans h3, h4⟩
/-- Lists of frames stay where rows of bytes alone are written. -/
theorem Fl.keptT {T : Nat → Prop} {w w' : World} {B K : Nat} {lsv : Value} {v : Nat → Value} {n : Nat → Nat} {f : Nat → List Value} (h : Fl w B K lsv v n f) (hg : GrownT T w w') (hT : ∀ k, T k → ∃ c, w.heap[k]? = some (.cells c 5 (0, 0))) : Fl w' B K lsv v n f := by
  have hno : ∀ {B' n' sz : Nat} {e : TypeId} {u : Value} {xs : List Value}, w.ownsRow B' e sz u n' xs → e ≠ 5 → ∀ k, u.ownBlock = some k → ¬ T k := by
    intro B' n' sz e u xs ho he k hk ht
    obtain ⟨c, hc⟩ := hT k ht
    obtain ⟨c2, hc2⟩ := own_cells ho hk
    rw [hc] at hc2
    simp at hc2
    exact he hc2.2.symm
  exact ⟨ownT h.ls hg (hno h.ls (by decide)), fun k hk => ownT (h.row k hk) hg (hno (h.row k hk) (by decide)), h.apart⟩

set_option maxRecDepth 100000 in
set_option maxHeartbeats 4000000 in
theorem apart_any (b B K K2 L2 cap2 : Nat) (lsv : Value) (v v2 : Nat → Value) (n n2 : Nat → Nat) (f f2 : Nat → List Value) (T : Nat → Prop) (w0 w : World) (hF : Ap.Fl w B K lsv v n f) (hz : K = 0 → lsv = .slice none 0 0) (hF2 : Fl w B K2 (.slice (some ⟨L2, 0, none⟩) K2 cap2) v2 n2 f2) (hG : Kp T w0 w b (bagD lsv (.slice (some ⟨L2, 0, none⟩) K2 cap2)).toArray)
    (hT : ∀ i, i < K → ∀ k, (v i).ownBlock = some k → w0.heap.size ≤ k ∨ T k) (hT2 : ∀ i, i < K2 → ∀ k, (v2 i).ownBlock = some k → w0.heap.size ≤ k ∨ T k) (hK : K ≤ 400000) (hK2 : K2 ≤ 400000) (hn : ∀ k, k < K → n k ≤ 140737488355000) (hn2 : ∀ k, k < K2 → n2 k ≤ 1000000) (hBw : B ≤ w.heap.size) :
    Calls Tryz.prog 79 #[.pointer (some ⟨b, 0, none⟩)] w fun e w' => e = .returned (.bool true) ∧ GrownT T w0 w' := by
  have HF := hide hF
  have HF2 := hide hF2
  have H0 := hide hG
  have HN := hide (And.intro hn hn2)
  have HT := hide (And.intro hT hT2)
  have HZ := hide hz
  clear hF hF2 hG hn hT hn2 hT2 hz
  obtain ⟨la, lc, hl⟩ := own_slice HF.out.ls
  subst hl
  go_enter Tryz.func79, Tryz.ntmps79
  have c0 : w.cell? ⟨b, 0, none⟩ = some (.slice none 0 0) := by rw [cell_row H0.out.2]; rfl
  go_wp2_with fail
  refine (Ap.nil_118 _).mono ?_
  rintro e w1 ⟨rfl, hg⟩
  have H1 := hide (H0.out.new hg)
  have HF := hide (HF.out.kept hg)
  have HF2 := hide (HF2.out.kept hg)
  have S1 : w.heap.size ≤ w1.heap.size := hg.size
  clear hg c0 H0
  have c1 : w1.cell? ⟨b, 1, none⟩ = some (.slice none 0 0) := by rw [cell_row H1.out.2]; rfl
  go_wp2_with fail
  refine (Ap.nil_119 _).mono ?_
  rintro e w2 ⟨rfl, hg⟩
  have H2 := hide (H1.out.new hg)
  have HF := hide (HF.out.kept hg)
  have HF2 := hide (HF2.out.kept hg)
  have S2 : w.heap.size ≤ w2.heap.size := Nat.le_trans S1 hg.size
  clear hg c1 H1
  have c2 : w2.cell? ⟨b, 2, none⟩ = some (.slice none 0 0) := by rw [cell_row H2.out.2]; rfl
  go_wp2_with fail
  refine (Ap.nil_120 _).mono ?_
  rintro e w3 ⟨rfl, hg⟩
  have H3 := hide (H2.out.new hg)
  have HF := hide (HF.out.kept hg)
  have HF2 := hide (HF2.out.kept hg)
  have S3 : w.heap.size ≤ w3.heap.size := Nat.le_trans S2 hg.size
  clear hg c2 H2
  have c3 : w3.cell? ⟨b, 3, none⟩ = some (.slice none 0 0) := by rw [cell_row H3.out.2]; rfl
  go_wp2_with fail
  refine (Ap.nil_121 _).mono ?_
  rintro e w4 ⟨rfl, hg⟩
  have H4 := hide (H3.out.new hg)
  have HF := hide (HF.out.kept hg)
  have HF2 := hide (HF2.out.kept hg)
  have S4 : w.heap.size ≤ w4.heap.size := Nat.le_trans S3 hg.size
  clear hg c3 H3
  have c4 : w4.cell? ⟨b, 4, none⟩ = some (.slice la K lc) := by rw [cell_row H4.out.2]; exact bagD_b _ _
  go_wp2_with fail
  have hFlat : Calls Tryz.prog 122 #[.slice la K lc] w4 fun e w' => e = .returned (.bool true) ∧ Kp (fun k => ∃ i, i < K ∧ (v i).ownBlock = some k) w4 w' b (bagD (.slice la K lc) (.slice (some ⟨L2, 0, none⟩) K2 cap2)).toArray := by
    have hk0 : Kp (fun k => ∃ i, i < K ∧ (v i).ownBlock = some k) w4 w4 b (bagD (.slice la K lc) (.slice (some ⟨L2, 0, none⟩) K2 cap2)).toArray := ⟨GrownT.refl _ _, H4.out.2⟩
    by_cases h0 : K = 0
    · have e := HZ.out h0
      rw [e]
      rw [e] at hk0
      refine (nil_122 w4).mono ?_
      rintro e w5 ⟨rfl, hg⟩
      exact ⟨rfl, hk0.new hg⟩
    · obtain ⟨gl, cl, e⟩ := own_some HF.out.ls (by omega)
      rw [e]
      rw [e] at hk0
      have hF4 := HF.out
      rw [e] at hF4
      exact Ap.flat_any B K gl cl v n f _ w4 w4 b _ hF4 hk0 (fun i hi k e => Or.inr ⟨i, hi, e⟩) hK HN.out.1 (Nat.le_trans hBw S4)
  refine hFlat.mono ?_
  rintro e w5 ⟨rfl, hk⟩
  have H5 : Hid (Kp T w0 w5 b (bagD (.slice la K lc) (.slice (some ⟨L2, 0, none⟩) K2 cap2)).toArray) := ⟨grownT_trans H4.out.1 hk.1 (fun j ⟨i, hi, e⟩ => HT.out.1 i hi j e), hk.2⟩
  have HF2 := hide (HF2.out.keptT hk.1 (fun k ⟨i, hi, e⟩ => own_cells (HF.out.row i hi) e))
  have S5 : w.heap.size ≤ w5.heap.size := Nat.le_trans S4 hk.1.size
  clear hFlat hk c4 H4 HF HZ
  have c5 : w5.cell? ⟨b, 5, none⟩ = some (.slice none 0 0) := by rw [cell_row H5.out.2]; rfl
  go_wp2_with fail
  refine (Ap.nil_123 _).mono ?_
  rintro e w6 ⟨rfl, hg⟩
  have H6 := hide (H5.out.new hg)
  have HF2 := hide (HF2.out.kept hg)
  have S6 : w.heap.size ≤ w6.heap.size := Nat.le_trans S5 hg.size
  clear hg c5 H5
  have c6 : w6.cell? ⟨b, 6, none⟩ = some (.slice none 0 0) := by rw [cell_row H6.out.2]; rfl
  go_wp2_with fail
  refine (Ap.nil_124 _).mono ?_
  rintro e w7 ⟨rfl, hg⟩
  have H7 := hide (H6.out.new hg)
  have HF2 := hide (HF2.out.kept hg)
  have S7 : w.heap.size ≤ w7.heap.size := Nat.le_trans S6 hg.size
  clear hg c6 H6
  have c7 : w7.cell? ⟨b, 7, none⟩ = some (.slice none 0 0) := by rw [cell_row H7.out.2]; rfl
  go_wp2_with fail
  refine (Ap.nil_125 _).mono ?_
  rintro e w8 ⟨rfl, hg⟩
  have H8 := hide (H7.out.new hg)
  have HF2 := hide (HF2.out.kept hg)
  have S8 : w.heap.size ≤ w8.heap.size := Nat.le_trans S7 hg.size
  clear hg c7 H7
  have c8 : w8.cell? ⟨b, 8, none⟩ = some (.slice (some ⟨L2, 0, none⟩) K2 cap2) := by rw [cell_row H8.out.2]; exact bagD_f _ _
  go_wp2_with fail
  refine (flat_any B K2 L2 cap2 v2 n2 f2 T w0 w8 b _ HF2.out H8.out HT.out.2 hK2 HN.out.2 (Nat.le_trans hBw S8)).mono ?_
  rintro e w9 ⟨rfl, hk⟩
  have H9 := hide hk
  clear hk c8 H8 HF2
  have c9 : w9.cell? ⟨b, 9, none⟩ = some (.slice none 0 0) := by rw [cell_row H9.out.2]; rfl
  go_wp2_with fail
  refine (Ap.nil_127 _).mono ?_
  rintro e w10 ⟨rfl, hg⟩
  have H10 := hide (H9.out.new hg)
  clear hg c9 H9
  have c10 : w10.cell? ⟨b, 10, none⟩ = some (.slice none 0 0) := by rw [cell_row H10.out.2]; rfl
  go_wp2_with fail
  refine (Ap.nil_128 _).mono ?_
  rintro e w11 ⟨rfl, hg⟩
  have H11 := hide (H10.out.new hg)
  clear hg c10 H10
  have c11 : w11.cell? ⟨b, 11, none⟩ = some (.slice none 0 0) := by rw [cell_row H11.out.2]; rfl
  go_wp2_with fail
  refine (Ap.nil_129 _).mono ?_
  rintro e w12 ⟨rfl, hg⟩
  have H12 := hide (H11.out.new hg)
  clear hg c11 H11
  have c12 : w12.cell? ⟨b, 12, none⟩ = some (.slice none 0 0) := by rw [cell_row H12.out.2]; rfl
  go_wp2_with fail
  refine (Ap.nil_130 _).mono ?_
  rintro e w13 ⟨rfl, hg⟩
  have H13 := hide (H12.out.new hg)
  clear hg c12 H12
  have c13 : w13.cell? ⟨b, 13, none⟩ = some (.slice none 0 0) := by rw [cell_row H13.out.2]; rfl
  go_wp2_with fail
  refine (Ap.nil_131 _).mono ?_
  rintro e w14 ⟨rfl, hg⟩
  have H14 := hide (H13.out.new hg)
  clear hg c13 H13
  have c14 : w14.cell? ⟨b, 14, none⟩ = some (.slice none 0 0) := by rw [cell_row H14.out.2]; rfl
  go_wp2_with fail
  refine (Ap.nil_132 _).mono ?_
  rintro e w15 ⟨rfl, hg⟩
  have H15 := hide (H14.out.new hg)
  clear hg c14 H14
  have c15 : w15.cell? ⟨b, 15, none⟩ = some (.slice none 0 0) := by rw [cell_row H15.out.2]; rfl
  go_wp2_with fail
  refine (Ap.nil_133 _).mono ?_
  rintro e w16 ⟨rfl, hg⟩
  have H16 := hide (H15.out.new hg)
  clear hg c15 H15
  have c16 : w16.cell? ⟨b, 16, none⟩ = some (.slice none 0 0) := by rw [cell_row H16.out.2]; rfl
  go_wp2_with fail
  refine (Ap.nil_134 _).mono ?_
  rintro e w17 ⟨rfl, hg⟩
  have H17 := hide (H16.out.new hg)
  clear hg c16 H16
  have c17 : w17.cell? ⟨b, 17, none⟩ = some (.slice none 0 0) := by rw [cell_row H17.out.2]; rfl
  go_wp2_with fail
  refine (Ap.nil_135 _).mono ?_
  rintro e w18 ⟨rfl, hg⟩
  have H18 := hide (H17.out.new hg)
  clear hg c17 H17
  have c18 : w18.cell? ⟨b, 18, none⟩ = some (.slice none 0 0) := by rw [cell_row H18.out.2]; rfl
  go_wp2_with fail
  refine (Ap.nil_136 _).mono ?_
  rintro e w19 ⟨rfl, hg⟩
  have H19 := hide (H18.out.new hg)
  clear hg c18 H18
  go_wp2
  go_ret
  exact ⟨rfl, H19.out.1⟩
end Go.Proofs.YtofdijaipjkfbaaGreatDoor.Fm.Af
/- The contract of ApartFrames. -/
namespace Go.Proofs.YtofdijaipjkfbaaGreatDoor.Fm.Af
open Go.RowKit
open Ap (Kp GrownT)
attribute [local go_sem ↓] Go.wp_at_zero Go.wp_at_succ

theorem own_below {w w' : World} {B B1 n sz : Nat} {e : TypeId} {v : Value} {xs : List Value} (h : w.ownsRow B e sz v n xs) (hb : Below B1 w w') (hw : w.heap.size ≤ B1) : w'.ownsRow B e sz v n xs := by
  refine ⟨h.1, ?_⟩
  rcases h.2 with h1 | ⟨g, cap, cur, h1, h2, h3, h4⟩
  · exact Or.inl h1
  · exact Or.inr ⟨g, cap, cur, h1, h2, (hb.block g (Nat.lt_of_lt_of_le (row_lt h3) hw)).trans h3, h4⟩
theorem lies_of {w : World} {B : Nat} {v : Value} {ys : List El} (h : w.ownsRow B 104 3 v ys.length (fcl ys)) (hs : ∀ y ∈ ys, ∃ bo m k, y.v = .slice bo m k) : ∃ ao c, v = .slice ao ys.length c ∧ Lies w ao ys ∧ ∀ a, ao = some a → a.block < w.heap.size := by
  rcases h.2 with ⟨rfl, h0⟩ | ⟨g, cap, cur, rfl, hb, hg, _⟩
  · exact ⟨none, 0, by rw [h0], (fun j x hx => by have := (List.getElem?_eq_some_iff.1 hx).1; omega), fun a e => by cases e⟩
  · refine ⟨_, cap, rfl, fun j x hx => ?_, fun a e => by cases e; exact row_lt hg⟩
    have hj := (List.getElem?_eq_some_iff.1 hx).1
    obtain ⟨e0, e1, e2⟩ := fcl_at ys j x hx
    rw [Nat.mul_comm] at e0 e1 e2
    exact ⟨g, rfl, by rw [h.cellAt _ (by omega)]; exact e0, by rw [h.cellAt _ (by omega)]; exact e1, by rw [h.cellAt _ (by omega)]; exact e2, hs x (List.mem_of_getElem? hx)⟩
/-- The bodies of the first j lists. -/
def pre (Y : Nat → List El) (j : Nat) : List Value := (List.range j).flatMap fun i => (Y i).map El.v
theorem pre_succ (Y : Nat → List El) (j : Nat) : pre Y (j + 1) = pre Y j ++ (Y j).map El.v := by simp [pre, List.range_succ]
/-- Lists of frames that lie apart, bodies and all. -/
structure Fw (w : World) (B J : Nat) (V : Nat → Value) (Y : Nat → List El) (T : Nat → Prop) : Prop where
  row : ∀ j, j < J → w.ownsRow B 104 3 (V j) (Y j).length (fcl (Y j))
  far : ∀ i k, i < J → k < J → i ≠ k → (V i).ownBlock = none ∨ (V i).ownBlock ≠ (V k).ownBlock
  inT : ∀ j, j < J → ∀ k, (V j).ownBlock = some k → T k
  body : ∀ k, k < (pre Y J).length → ∃ n xs, w.ownsRow B 5 1 ((pre Y J).getD k undef) n xs ∧ n ≤ 75
  apart : ∀ i k, i < k → k < (pre Y J).length → ((pre Y J).getD i undef).ownBlock = none ∨ ((pre Y J).getD i undef).ownBlock ≠ ((pre Y J).getD k undef).ownBlock
  bodyT : ∀ i, i < (pre Y J).length → ∀ k, ((pre Y J).getD i undef).ownBlock = some k → T k
  slices : ∀ j, j < J → ∀ y ∈ Y j, ∃ bo m k, y.v = .slice bo m k
  few : (pre Y J).length ≤ 100000
  short : ∀ j, j < J → (Y j).length ≤ 100000
theorem pre_le (Y : Nat → List El) {i j : Nat} (h : i ≤ j) : (pre Y i).length ≤ (pre Y j).length := by
  induction h with
  | refl => exact Nat.le_refl _
  | step h ih => rw [pre_succ, List.length_append]; omega
theorem map_getD (vs : List Value) : (List.range vs.length).map (fun k => vs.getD k undef) = vs := by
  apply List.ext_getElem?
  intro k
  rw [List.getElem?_map]
  by_cases hk : k < vs.length
  · simp [hk, List.getD_eq_getElem?_getD]
  · simp [hk]
theorem apart_swap {x y : Value} (h : x.ownBlock = none ∨ x.ownBlock ≠ y.ownBlock) : y.ownBlock = none ∨ y.ownBlock ≠ x.ownBlock := by
  rcases h with h | h
  · cases hb : y.ownBlock with
    | none => exact Or.inl rfl
    | some k => right; rw [h]; simp
  · exact Or.inr (fun e => h e.symm)

set_option maxRecDepth 100000 in
set_option maxHeartbeats 2000000 in
theorem apartFrames_any (B J LS cap : Nat) (V : Nat → Value) (Y : Nat → List El) (T : Nat → Prop) (w : World) (hF : Fw w B J V Y T) (hls : ∀ j, j < J → w.cell? ⟨LS, j, none⟩ = some (V j)) (hLS : LS < w.heap.size) (hJ : J ≤ 1000) (hJ0 : 0 < J) (hB : B ≤ w.heap.size) :
    Calls Tryz.prog 32 #[.slice (some ⟨LS, 0, none⟩) J cap] w fun e w' => e = .returned (.bool true) ∧ GrownT T w w' := by
  have HF := hide (And.intro hF hls)
  obtain ⟨b, hb⟩ : ∃ b, b = w.heap.size := ⟨_, rfl⟩
  have Hb := hide hb
  clear hF hls hb
  go_enter Tryz.func32, Tryz.ntmps32
  go_wp2
  rw [← Hb.out]
  go_loopg [4] J (fun q i wr => ∃ (j : Nat) (lsv usv : Value), q + j = J ∧ i = .int .i64 j ∧ Hid (Bag wr b b lsv usv (pre Y j).length j (pre Y j) ((List.range j).map V) ∧ Below b w wr))
  case atStart =>
    have e : w.heap.size = b := Hb.out.symm
    have h1 := heap_alloc_new w (Obj.cells (bagD (.slice none 0 0) (.slice none 0 0)).toArray 132)
    have h2 := Ap.grown_below (World.grownBy_alloc w (Obj.cells (bagD (.slice none 0 0) (.slice none 0 0)).toArray 132) none)
    rw [e] at h1 h2
    exact ⟨0, .slice none 0 0, .slice none 0 0, by omega, rfl, hide ⟨⟨h1, World.ownsRow_nil _ _ _ _, World.ownsRow_nil _ _ _ _, fun _ => rfl, Nat.le_refl _, Nat.le_trans (Nat.le_of_eq e.symm) h2.size⟩, h2⟩⟩
  case round =>
    obtain ⟨j, lsv, usv, hgj, rfl, HR⟩ := hrel
    by_cases hk : 0 < gk
    · have hj : j < J := by omega
      have hjJ : (j : Int) < (J : Int) := by omega
      have hw : w.heap.size ≤ b := Nat.le_of_eq Hb.out.symm
      obtain ⟨ao, c, hv, hL, hA⟩ := lies_of (HF.out.1.row j hj) (HF.out.1.slices j hj)
      have hcl : wr.cell? ⟨LS, j, none⟩ = some (V j) := by
        have h1 := HF.out.2 j hj
        have h2 := HR.out.2.block LS (by omega)
        simp only [World.cell?, h2] at h1 ⊢
        exact h1
      rw [hv] at hcl
      have HP := hide (putFrames_any b b lsv usv (pre Y j).length j (pre Y j) ((List.range j).map V) ao (Y j).length c (Y j) wr HR.out.1 rfl (hL.below HR.out.2 (fun a e => by have := hA a e; omega)) (fun a e => by have := hA a e; omega) (by have h1 := pre_le Y (show j + 1 ≤ J by omega); rw [pre_succ, List.length_append, List.length_map] at h1; have := HF.out.1.few; omega) (by omega))
      have HE : Hid ((pre Y j).length + (Y j).length = (pre Y (j + 1)).length ∧ pre Y j ++ (Y j).map El.v = pre Y (j + 1) ∧ (List.range j).map V ++ [.slice ao (Y j).length c] = (List.range (j + 1)).map V) := ⟨by rw [pre_succ, List.length_append, List.length_map], (pre_succ Y j).symm, by rw [List.range_succ, List.map_append, ← hv]; rfl⟩
      obtain ⟨nj, hnj⟩ : ∃ x, x = (Y j).length := ⟨_, rfl⟩
      rw [← hnj] at hcl HP HE
      clear hv hL hA hnj
      go_wp2_with fail
      refine HP.out.mono ?_
      rintro e w' ⟨rfl, lsv', usv', h1, h2⟩
      rw [HE.out.1, HE.out.2.1, HE.out.2.2] at h1
      have H2 := hide (And.intro h1 (below_trans HR.out.2 h2))
      clear h1 h2 HP HE hcl
      go_wp2
      go_roundg (gk - 1)
      case measure => omega
      case rel => exact ⟨j + 1, lsv', usv', by omega, by go_num, H2⟩
    · have hj : j = J := by omega
      have hjJ : ¬ (j : Int) < (J : Int) := by omega
      have hw : w.heap.size ≤ b := Nat.le_of_eq Hb.out.symm
      obtain ⟨hBag, hbel⟩ := HR.out
      rw [hj] at hBag
      obtain ⟨L2, cap2, hl⟩ := own_some hBag.fs hJ0
      subst hl
      have hF := HF.out.1
      obtain ⟨n, hn⟩ : ∃ n : Nat → Nat, ∀ k, k < (pre Y J).length → ∃ xs, w.ownsRow B 5 1 ((pre Y J).getD k undef) (n k) xs ∧ n k ≤ 75 :=
        ⟨fun k => if h : k < (pre Y J).length then Classical.choose (hF.body k h) else 0, fun k hk => by simp only [hk, dif_pos]; exact Classical.choose_spec (hF.body k hk)⟩
      obtain ⟨f, hf⟩ : ∃ f : Nat → List Value, ∀ k, k < (pre Y J).length → w.ownsRow B 5 1 ((pre Y J).getD k undef) (n k) (f k) :=
        ⟨fun k => if h : k < (pre Y J).length then Classical.choose (hn k h) else [], fun k hk => by simp only [hk, dif_pos]; exact (Classical.choose_spec (hn k hk)).1⟩
      have hF1 : Ap.Fl wr B (pre Y J).length lsv (fun k => (pre Y J).getD k undef) n f := by
        refine ⟨?_, fun k hk => own_below (hf k hk) hbel hw, fun i k hi hk hik => ?_⟩
        · rw [map_getD]; exact Ap.ownsRow_le hBag.bs (by omega)
        · by_cases h : i < k
          · exact hF.apart i k h hk
          · exact apart_swap (hF.apart k i (by omega) hi)
      have hF2 : Fl wr B J (.slice (some ⟨L2, 0, none⟩) J cap2) V (fun j => (Y j).length) (fun j => fcl (Y j)) :=
        ⟨Ap.ownsRow_le hBag.fs (by omega), fun k hk => own_below (hF.row k hk) hbel hw, hF.far⟩
      have hG2 : GrownT T w wr := (GrownT.refl T w).step (Ap.below_grown (by rw [Hb.out] at hbel; exact hbel)) (fun j e => by cases e)
      have HA := hide (apart_any b B (pre Y J).length J L2 cap2 lsv (fun k => (pre Y J).getD k undef) V n (fun j => (Y j).length) f (fun j => fcl (Y j)) T w wr hF1 hBag.z hF2 ⟨hG2, hBag.bag⟩ (fun i hi k e => Or.inr (hF.bodyT i hi k e)) (fun i hi k e => Or.inr (hF.inT i hi k e)) (by have := hF.few; omega) (by omega) (fun k hk => by obtain ⟨_, _, h⟩ := hn k hk; omega) (fun k hk => by have := hF.short k hk; omega) (by have := hBag.Bw; omega))
      clear hBag hbel hF hn hf hF1 hF2 hG2 HF hj HR
      go_wp2_with fail
      refine HA.out.mono ?_
      rintro e w' ⟨rfl, hg⟩
      have HG := hide hg
      clear hg
      go_wp2
      go_ret
      exact ⟨rfl, HG.out⟩
end Go.Proofs.YtofdijaipjkfbaaGreatDoor.Fm.Af
/- Two rows of frames that lie apart. -/
namespace Go.Proofs.YtofdijaipjkfbaaGreatDoor.Fm
open Go.RowKit
open Ap (GrownT)
open Af (Fw pre pre_succ ownT apartFrames_any)
attribute [local go_sem ↓] Go.wp_at_zero Go.wp_at_succ

theorem grownT_after {T : Nat → Prop} {w0 w w' : World} (h : w0.grownBy w none) (hg : GrownT T w w') (hT : ∀ k, T k → w0.heap.size ≤ k) : w0.grownBy w' none :=
  ⟨hg.os.trans h.os, hg.tape.trans h.tape, hg.output.trans h.output, Nat.le_trans h.size hg.size, fun k hk _ => (hg.block k (Nat.lt_of_lt_of_le hk h.size) (fun t => by have := hT k t; omega)).trans (h.block k hk (by simp))⟩
theorem FsAt.keptT {T : Nat → Prop} {w w' : World} {base : Nat} {v : Value} {ys : List El} (h : FsAt w base v ys) (hg : GrownT T w w') (hT : ∀ k, T k → k < base) : FsAt w' base v ys :=
  ⟨ownT h.own hg (fun k e t => by have h1 := (h.own.lt k e).1; have h2 := hT k t; omega), fun y hy => by
    obtain ⟨a1, a2, a3⟩ := h.each y hy
    exact ⟨⟨ownT a1.own hg (fun k e t => by have h1 := (a1.own.lt k e).1; have h2 := hT k t; omega), a1.top, Nat.le_trans a1.size hg.size⟩, a2, a3⟩, h.apart⟩
/-- Bodies that were made one behind the other. -/
structure Bods (w : World) (A Z : Nat) (L : List El) : Prop where
  each : ∀ y ∈ L, y.At w ∧ A ≤ y.lo ∧ y.f.b.length ≤ 75 ∧ y.hi ≤ Z
  apart : L.Pairwise (fun x y => x.hi ≤ y.lo)
theorem getD_map {L : List El} {k : Nat} (hk : k < (L.map El.v).length) : ∃ y, L[k]? = some y ∧ (L.map El.v).getD k undef = y.v := by
  have hk' : k < L.length := by simpa using hk
  exact ⟨L[k], List.getElem?_eq_getElem hk', by simp [List.getD_eq_getElem?_getD, hk']⟩
theorem Bods.body {w : World} {A Z : Nat} {L : List El} (h : Bods w A Z L) : ∀ k, k < (L.map El.v).length → ∃ n xs, w.ownsRow A 5 1 ((L.map El.v).getD k undef) n xs ∧ n ≤ 75 := fun k hk => by
  obtain ⟨y, hy, e⟩ := getD_map hk
  obtain ⟨h1, h2, h3, _⟩ := h.each y (List.mem_of_getElem? hy)
  rw [e]
  exact ⟨_, _, own_base h1.own h2, h3⟩
theorem Bods.far {w : World} {A Z : Nat} {L : List El} (h : Bods w A Z L) : ∀ i k, i < k → k < (L.map El.v).length → ((L.map El.v).getD i undef).ownBlock = none ∨ ((L.map El.v).getD i undef).ownBlock ≠ ((L.map El.v).getD k undef).ownBlock := fun i k hik hk => by
  obtain ⟨x, hx, e1⟩ := getD_map (L := L) (k := i) (by omega)
  obtain ⟨y, hy, e2⟩ := getD_map hk
  rw [e1, e2]
  have hp : x.hi ≤ y.lo := by
    have h1 := List.getElem?_eq_some_iff.1 hx
    have h2 := List.getElem?_eq_some_iff.1 hy
    obtain ⟨l1, rfl⟩ := h1
    obtain ⟨l2, rfl⟩ := h2
    exact List.pairwise_iff_getElem.1 h.apart i k l1 l2 hik
  obtain ⟨a1, _, _⟩ := h.each x (List.mem_of_getElem? hx)
  obtain ⟨b1, _, _⟩ := h.each y (List.mem_of_getElem? hy)
  cases hb : x.v.ownBlock with
  | none => exact Or.inl rfl
  | some q =>
    right
    intro e
    have t1 := a1.top q hb
    have t2 := (b1.own.lt q e.symm).1
    omega
theorem Bods.inT {w : World} {A Z : Nat} {L : List El} (h : Bods w A Z L) : ∀ i, i < (L.map El.v).length → ∀ k, ((L.map El.v).getD i undef).ownBlock = some k → A ≤ k ∧ k < Z := fun i hi k e => by
  obtain ⟨y, hy, e2⟩ := getD_map hi
  rw [e2] at e
  obtain ⟨a1, a2, _, a4⟩ := h.each y (List.mem_of_getElem? hy)
  have t1 := a1.top k e
  have t2 := (a1.own.lt k e).1
  omega
theorem El.At.slice {x : El} {w : World} (h : x.At w) : ∃ bo m k, x.v = .slice bo m k := by
  obtain ⟨bo, k, e⟩ := own_form h.own
  exact ⟨bo, _, k, e⟩
theorem two_fw {w : World} {A M Z : Nat} {v v' : Value} {ys zs : List El} (h1 : FsAt w A v ys) (h2 : FsAt w M v' zs) (hAM : A ≤ M) (hMZ : M ≤ Z) (t1 : ∀ k, v.ownBlock = some k → k < M) (u1 : ∀ y ∈ ys, y.hi ≤ M) (t2 : ∀ k, v'.ownBlock = some k → k < Z) (u2 : ∀ y ∈ zs, y.hi ≤ Z) (l1 : ys.length ≤ 5000) (l2 : zs.length ≤ 5000) :
    Fw w A 2 (fun j => if j = 0 then v else v') (fun j => if j = 0 then ys else zs) (fun k => A ≤ k ∧ k < Z) := by
  have e : pre (fun j => if j = 0 then ys else zs) 2 = (ys ++ zs).map El.v := by simp [pre, List.range_succ]
  have hB : Bods w A Z (ys ++ zs) := by
    refine ⟨fun y hy => ?_, List.pairwise_append.2 ⟨h1.apart, h2.apart, fun x hx y hy => ?_⟩⟩
    · rcases List.mem_append.1 hy with h | h
      · obtain ⟨a1, a2, a3, a4⟩ := h1.each y h
        exact ⟨a1, a2, Nat.le_trans a4 (by decide), Nat.le_trans (u1 y h) hMZ⟩
      · obtain ⟨a1, a2, a3, a4⟩ := h2.each y h
        exact ⟨a1, Nat.le_trans hAM a2, Nat.le_trans a4 (by decide), u2 y h⟩
    · have b1 := u1 x hx
      have b2 := (h2.each y hy).2.1
      omega
  have hfar : v.ownBlock = none ∨ v.ownBlock ≠ v'.ownBlock := by
    cases hb : v.ownBlock with
    | none => exact Or.inl rfl
    | some k => exact Or.inr (fun e => by have b1 := t1 k hb; have b2 := (h2.own.lt k e.symm).1; omega)
  refine ⟨fun j hj => ?_, fun i k hi hk hik => ?_, fun j hj k hk => ?_, ?_, ?_, ?_, fun j hj y hy => ?_, ?_, fun j hj => ?_⟩
  · rcases (show j = 0 ∨ j = 1 by omega) with rfl | rfl
    · exact h1.own
    · exact own_base h2.own hAM
  · rcases (show i = 0 ∨ i = 1 by omega) with rfl | rfl <;> rcases (show k = 0 ∨ k = 1 by omega) with rfl | rfl
    · exact absurd rfl hik
    · exact hfar
    · exact Af.apart_swap hfar
    · exact absurd rfl hik
  · rcases (show j = 0 ∨ j = 1 by omega) with rfl | rfl
    · have b1 := (h1.own.lt k hk).1; have b2 := t1 k hk; exact ⟨b1, by omega⟩
    · have b1 := (h2.own.lt k hk).1; have b2 := t2 k hk; exact ⟨by omega, b2⟩
  · rw [e]; exact hB.body
  · rw [e]; exact hB.far
  · rw [e]; exact hB.inT
  · rcases (show j = 0 ∨ j = 1 by omega) with rfl | rfl
    · exact (h1.each y hy).1.slice
    · exact (h2.each y hy).1.slice
  · rw [e]; simp; omega
  · rcases (show j = 0 ∨ j = 1 by omega) with rfl | rfl
    · show ys.length ≤ _; omega
    · show zs.length ≤ _; omega
end Go.Proofs.YtofdijaipjkfbaaGreatDoor.Fm
/- WalSpares: what is needed of memory. -/
namespace Go.Proofs.YtofdijaipjkfbaaGreatDoor
open Go.RowKit Ap
section
variable {w0 w w' w9 : World} {b r c : Nat} {k : Dk} {D : List Nat} {g : Lg} {S : Int} {fs : List Fm.Fr} {n F C : Nat} {s : Dv} {W : List Wt} {T : Nat → Prop}
theorem At.front {ao : Option Addr} {xs ys : List Nat} (h : At w ao (xs ++ ys)) : At w ao xs := by
  have := h.take xs.length
  rwa [List.take_left] at this
theorem At.blk {q : Nat} {xs : List Nat} {o : Obj} (h : At w (some ⟨q, 0, none⟩) xs) (h1 : w.heap[q]? = some o) (h2 : w'.heap[q]? = some o) : At w' (some ⟨q, 0, none⟩) xs := by
  intro j u hu
  obtain ⟨a, e, hc⟩ := h j u hu
  cases e
  refine ⟨_, rfl, ?_⟩
  rw [Addr.add_lit] at hc ⊢
  rw [← hc]
  simp only [World.cell?, h1, h2]
/-- All blocks of a log are there. -/
theorem LgAt.lt (h : LgAt w0 w n b r F C s k D W g) : ∀ i, (foot k W i ∨ i = b ∨ lfoot g i) → i < w.heap.size := by
  rintro i (e | rfl | e | e)
  · exact h.dev.disk.disk.lt i e
  · exact h.dev.dev.lt
  · rw [e]; exact row_lt h.head
  · obtain ⟨d, hd⟩ := Fm.own_cells h.row e
    exact row_lt hd
theorem LgAt.rlt (h : LgAt w0 w n b r F C s k D W g) : r < w.heap.size := row_lt h.rg.head
/-- New blocks were written. -/
theorem FrS.over (h : FrS w0 w 8 b r k c D g S fs) (hk : Kept w w' T) (hT : ∀ i, T i → w.heap.size ≤ i) : FrS w0 w' 8 b r k c D g S fs :=
  h.away hk (fun i hi => ⟨fun e => by have := h.at_.lt i e; have := hT i hi; omega, by have := hT i hi; have := h.at_.grown0.size; omega, fun e => by have := h.at_.rlt; have := hT i hi; omega⟩)
theorem FrS.over2 {w1 : World} (h : FrS w0 w 8 b r k c D g S fs) (hl : ∀ i, (foot k [] i ∨ i = b ∨ lfoot g i) → i < w1.heap.size) (hr : r < w1.heap.size) (h0 : w0.heap.size ≤ w1.heap.size) (hk : Kept w w' T) (hT : ∀ i, T i → w1.heap.size ≤ i) : FrS w0 w' 8 b r k c D g S fs :=
  h.away hk (fun i hi => ⟨fun e => by have := hl i e; have := hT i hi; omega, by have := hT i hi; omega, fun e => by have := hT i hi; omega⟩)
theorem InS.off2 {v : Value} {bs : List (List Nat)} (h : InS w0 w v bs) (hk : Kept w w' T) (hT : ∀ i, v.ownBlock = some i → ¬ T i) : InS w0 w' v bs := by
  obtain ⟨vs, h1, h2⟩ := h
  exact ⟨vs, owns_off h1 hk hT, h2⟩
theorem InS.lt {v : Value} {bs : List (List Nat)} (h : InS w0 w v bs) : ∀ i, v.ownBlock = some i → i < w.heap.size := by
  obtain ⟨vs, h1, _⟩ := h
  intro i hi
  obtain ⟨d, hd⟩ := Fm.own_cells h1 hi
  exact row_lt hd
theorem Kept.toT (h : Kept w w' T) : GrownT T w w' := ⟨h.os, h.tape, h.output, h.size, h.block⟩
theorem kept_of_T (h : GrownT T w w') : Kept w w' T := ⟨h.os, h.tape, h.output, h.size, h.block⟩
end
end Go.Proofs.YtofdijaipjkfbaaGreatDoor
