/- Texts joined: LBag, LApart2, Qi. -/
import Derived.Test.YtnnmaknjhfjojaaGreatDoorJsAb
import Derived.Test.YtnnmaknjhfjojaaGreatDoorJrAk
import Derived.Test.YtnnmaknjhfjojaaGreatDoorJsAa
/- The contract of the bag's apart, where it holds lists of one kind alone. -/
namespace Go.Proofs.YtnnmaknjhfjojaaGreatDoor.Al
open Go.RowKit
attribute [local go_sem ↓] Go.wp_at_zero Go.wp_at_succ

/-- The cells of a bag: nothing but the lists of this kind. -/
def bagC (v : Value) : List Value := List.replicate 1 (.slice none 0 0) ++ v :: List.replicate 17 (.slice none 0 0)
theorem bagC_length (v : Value) : (bagC v).length = 19 := rfl
theorem bagC_at (v : Value) : (bagC v)[1]? = some v := rfl
theorem bagC_set (v v' : Value) : (bagC v).set 1 v' = bagC v' := rfl
theorem bagC_nil0 (v : Value) : (bagC v)[0]? = some (.slice none 0 0) := rfl
theorem bagC_nil2 (v : Value) : (bagC v)[2]? = some (.slice none 0 0) := rfl
theorem bagC_nil3 (v : Value) : (bagC v)[3]? = some (.slice none 0 0) := rfl
theorem bagC_nil4 (v : Value) : (bagC v)[4]? = some (.slice none 0 0) := rfl
theorem bagC_nil5 (v : Value) : (bagC v)[5]? = some (.slice none 0 0) := rfl
theorem bagC_nil6 (v : Value) : (bagC v)[6]? = some (.slice none 0 0) := rfl
theorem bagC_nil7 (v : Value) : (bagC v)[7]? = some (.slice none 0 0) := rfl
theorem bagC_nil8 (v : Value) : (bagC v)[8]? = some (.slice none 0 0) := rfl
theorem bagC_nil9 (v : Value) : (bagC v)[9]? = some (.slice none 0 0) := rfl
theorem bagC_nil10 (v : Value) : (bagC v)[10]? = some (.slice none 0 0) := rfl
theorem bagC_nil11 (v : Value) : (bagC v)[11]? = some (.slice none 0 0) := rfl
theorem bagC_nil12 (v : Value) : (bagC v)[12]? = some (.slice none 0 0) := rfl
theorem bagC_nil13 (v : Value) : (bagC v)[13]? = some (.slice none 0 0) := rfl
theorem bagC_nil14 (v : Value) : (bagC v)[14]? = some (.slice none 0 0) := rfl
theorem bagC_nil15 (v : Value) : (bagC v)[15]? = some (.slice none 0 0) := rfl
theorem bagC_nil16 (v : Value) : (bagC v)[16]? = some (.slice none 0 0) := rfl
theorem bagC_nil17 (v : Value) : (bagC v)[17]? = some (.slice none 0 0) := rfl
theorem bagC_nil18 (v : Value) : (bagC v)[18]? = some (.slice none 0 0) := rfl

set_option maxRecDepth 100000 in
set_option maxHeartbeats 4000000 in
theorem apart_any (b B K L cap : Nat) (v : Nat → Value) (n : Nat → Nat) (f : Nat → List Value) (T : Nat → Prop) (w0 w : World) (hF : Fl w B K (.slice (some ⟨L, 0, none⟩) K cap) v n f) (hG : Kp T w0 w b (bagC (.slice (some ⟨L, 0, none⟩) K cap)).toArray) (hT : ∀ i, i < K → ∀ k, (v i).ownBlock = some k → w0.heap.size ≤ k ∨ T k) (hK : K ≤ 400000) (hn : ∀ k, k < K → n k ≤ 17592186044000) (hBw : B ≤ w.heap.size) :
    Calls Tryz.prog 35 #[.pointer (some ⟨b, 0, none⟩)] w fun e w' => e = .returned (.bool true) ∧ GrownT T w0 w' := by
  have HF := hide hF
  have H0 := hide hG
  have HN := hide hn
  have HT := hide hT
  have S0 : w.heap.size ≤ w.heap.size := Nat.le_refl _
  clear hF hG hn hT
  go_enter Tryz.func35, Tryz.ntmps35
  have c0 : w.cell? ⟨b, 0, none⟩ = some (.slice none 0 0) := by rw [cell_row H0.out.2]; exact bagC_nil0 _
  go_wp2_with fail
  refine (Ap.nil_50 _).mono ?_
  rintro e w1 ⟨rfl, hg⟩
  have H1 := hide (H0.out.new hg)
  have HF := hide (HF.out.kept hg)
  have S1 : w.heap.size ≤ w1.heap.size := Nat.le_trans S0 hg.size
  clear hg c0 H0
  have c1 : w1.cell? ⟨b, 1, none⟩ = some (.slice (some ⟨L, 0, none⟩) K cap) := by rw [cell_row H1.out.2]; exact bagC_at _
  go_wp2_with fail
  refine (flat_any B K L cap v n f T w0 w1 b _ HF.out H1.out HT.out hK HN.out (Nat.le_trans hBw S1)).mono ?_
  rintro e w2 ⟨rfl, hk⟩
  have H2 := hide hk
  clear hk c1 H1 HF
  have c2 : w2.cell? ⟨b, 2, none⟩ = some (.slice none 0 0) := by rw [cell_row H2.out.2]; exact bagC_nil2 _
  go_wp2_with fail
  refine (Ap.nil_52 _).mono ?_
  rintro e w3 ⟨rfl, hg⟩
  have H3 := hide (H2.out.new hg)
  clear hg c2 H2
  have c3 : w3.cell? ⟨b, 3, none⟩ = some (.slice none 0 0) := by rw [cell_row H3.out.2]; exact bagC_nil3 _
  go_wp2_with fail
  refine (Ap.nil_53 _).mono ?_
  rintro e w4 ⟨rfl, hg⟩
  have H4 := hide (H3.out.new hg)
  clear hg c3 H3
  have c4 : w4.cell? ⟨b, 4, none⟩ = some (.slice none 0 0) := by rw [cell_row H4.out.2]; exact bagC_nil4 _
  go_wp2_with fail
  refine (Ap.nil_54 _).mono ?_
  rintro e w5 ⟨rfl, hg⟩
  have H5 := hide (H4.out.new hg)
  clear hg c4 H4
  have c5 : w5.cell? ⟨b, 5, none⟩ = some (.slice none 0 0) := by rw [cell_row H5.out.2]; exact bagC_nil5 _
  go_wp2_with fail
  refine (Ap.nil_55 _).mono ?_
  rintro e w6 ⟨rfl, hg⟩
  have H6 := hide (H5.out.new hg)
  clear hg c5 H5
  have c6 : w6.cell? ⟨b, 6, none⟩ = some (.slice none 0 0) := by rw [cell_row H6.out.2]; exact bagC_nil6 _
  go_wp2_with fail
  refine (Ap.nil_56 _).mono ?_
  rintro e w7 ⟨rfl, hg⟩
  have H7 := hide (H6.out.new hg)
  clear hg c6 H6
  have c7 : w7.cell? ⟨b, 7, none⟩ = some (.slice none 0 0) := by rw [cell_row H7.out.2]; exact bagC_nil7 _
  go_wp2_with fail
  refine (Ap.nil_57 _).mono ?_
  rintro e w8 ⟨rfl, hg⟩
  have H8 := hide (H7.out.new hg)
  clear hg c7 H7
  have c8 : w8.cell? ⟨b, 8, none⟩ = some (.slice none 0 0) := by rw [cell_row H8.out.2]; exact bagC_nil8 _
  go_wp2_with fail
  refine (Ap.nil_58 _).mono ?_
  rintro e w9 ⟨rfl, hg⟩
  have H9 := hide (H8.out.new hg)
  clear hg c8 H8
  have c9 : w9.cell? ⟨b, 9, none⟩ = some (.slice none 0 0) := by rw [cell_row H9.out.2]; exact bagC_nil9 _
  go_wp2_with fail
  refine (Ap.nil_59 _).mono ?_
  rintro e w10 ⟨rfl, hg⟩
  have H10 := hide (H9.out.new hg)
  clear hg c9 H9
  have c10 : w10.cell? ⟨b, 10, none⟩ = some (.slice none 0 0) := by rw [cell_row H10.out.2]; exact bagC_nil10 _
  go_wp2_with fail
  refine (Ap.nil_60 _).mono ?_
  rintro e w11 ⟨rfl, hg⟩
  have H11 := hide (H10.out.new hg)
  clear hg c10 H10
  have c11 : w11.cell? ⟨b, 11, none⟩ = some (.slice none 0 0) := by rw [cell_row H11.out.2]; exact bagC_nil11 _
  go_wp2_with fail
  refine (Ap.nil_61 _).mono ?_
  rintro e w12 ⟨rfl, hg⟩
  have H12 := hide (H11.out.new hg)
  clear hg c11 H11
  have c12 : w12.cell? ⟨b, 12, none⟩ = some (.slice none 0 0) := by rw [cell_row H12.out.2]; exact bagC_nil12 _
  go_wp2_with fail
  refine (Ap.nil_62 _).mono ?_
  rintro e w13 ⟨rfl, hg⟩
  have H13 := hide (H12.out.new hg)
  clear hg c12 H12
  have c13 : w13.cell? ⟨b, 13, none⟩ = some (.slice none 0 0) := by rw [cell_row H13.out.2]; exact bagC_nil13 _
  go_wp2_with fail
  refine (Ap.nil_63 _).mono ?_
  rintro e w14 ⟨rfl, hg⟩
  have H14 := hide (H13.out.new hg)
  clear hg c13 H13
  have c14 : w14.cell? ⟨b, 14, none⟩ = some (.slice none 0 0) := by rw [cell_row H14.out.2]; exact bagC_nil14 _
  go_wp2_with fail
  refine (Ap.nil_64 _).mono ?_
  rintro e w15 ⟨rfl, hg⟩
  have H15 := hide (H14.out.new hg)
  clear hg c14 H14
  have c15 : w15.cell? ⟨b, 15, none⟩ = some (.slice none 0 0) := by rw [cell_row H15.out.2]; exact bagC_nil15 _
  go_wp2_with fail
  refine (Ap.nil_65 _).mono ?_
  rintro e w16 ⟨rfl, hg⟩
  have H16 := hide (H15.out.new hg)
  clear hg c15 H15
  have c16 : w16.cell? ⟨b, 16, none⟩ = some (.slice none 0 0) := by rw [cell_row H16.out.2]; exact bagC_nil16 _
  go_wp2_with fail
  refine (Ap.nil_66 _).mono ?_
  rintro e w17 ⟨rfl, hg⟩
  have H17 := hide (H16.out.new hg)
  clear hg c16 H16
  have c17 : w17.cell? ⟨b, 17, none⟩ = some (.slice none 0 0) := by rw [cell_row H17.out.2]; exact bagC_nil17 _
  go_wp2_with fail
  refine (Ap.nil_67 _).mono ?_
  rintro e w18 ⟨rfl, hg⟩
  have H18 := hide (H17.out.new hg)
  clear hg c17 H17
  have c18 : w18.cell? ⟨b, 18, none⟩ = some (.slice none 0 0) := by rw [cell_row H18.out.2]; exact bagC_nil18 _
  go_wp2_with fail
  refine (Ap.nil_68 _).mono ?_
  rintro e w19 ⟨rfl, hg⟩
  have H19 := hide (H18.out.new hg)
  clear hg c18 H18
  go_wp2
  go_ret
  exact ⟨rfl, H19.out.1⟩
end Go.Proofs.YtnnmaknjhfjojaaGreatDoor.Al
/- The contract of ApartBytes. -/
namespace Go.Proofs.YtnnmaknjhfjojaaGreatDoor.Al
open Go.RowKit
attribute [local go_sem ↓] Go.wp_at_zero Go.wp_at_succ

theorem lists_append {w : World} {ops : Array Oper} {rest : List Oper} {o : Oper} {a : Act} {Q : Exit → Act → World → Prop} (hgd : o.guard = none) (s x : Operand)
    (ho : o.op = .call { callee := .builtin .append, args := #[s, x], argTypes := #[51, 51] }) (base : Nat) (v : Value) (n : Nat) (xs : List Value) (hs : a.eval s = v) (hown : w.ownsRow base 22 1 v n xs)
    (ad : Addr) (c : Nat) (y : Value) (hx : a.eval x = .slice (some ad) 1 c) (hy : y.oneCell' = true) (hcell : w.cell? ad = some y) (hoff : ad.add 0 = ad) (hbytes : n ≤ 400000) (hbase : base ≤ w.heap.size)
    (h : ∀ v' w', w'.ownsRow base 22 1 v' (n + 1) (xs ++ [y]) → w.grownBy w' v.ownBlock → wpList Tryz.prog ops Q rest (a.put o.dst v') w') : wpList Tryz.prog ops Q (o :: rest) a w := by
  obtain ⟨i0, hi, hz0, hz1, hz2⟩ := info_parts Tryz.info22
  refine wpList_append_own _ hgd s x 51 ho base 22 i0 (.slice none 0 0) 1 24 Tryz.underlying51 hi hz0 hz1 hz2 rfl (by decide) v n xs hs hown ad 1 c [y] hx rfl ?_ ?_ (by unfold maxLen; omega) (by omega) hbase (fun v' w' h1 h2 _ => h v' w' h1 h2)
  · intro j u hu
    cases j with
    | zero => simp at hu; rw [hoff, ← hu]; exact hcell
    | succ j => simp at hu
  · intro u hu; simp at hu; rw [hu]; exact hy

set_option maxHeartbeats 1000000 in
theorem put_any (b B : Nat) (lsv : Value) (K : Nat) (vs : List Value) (ao : Option Addr) (n c : Nat) (w : World) (hb : w.heap[b]? = some (.cells (bagC lsv).toArray 90 (0, 0))) (hown : w.ownsRow B 22 1 lsv K vs) (hK : K ≤ 400000) (hB : B ≤ w.heap.size) (hBb : B ≤ b) :
    Calls Tryz.prog 41 #[.pointer (some ⟨b, 0, none⟩), .slice ao n c] w fun e w' => e = .returned (.tuple #[]) ∧ ∃ lsv', w'.heap[b]? = some (.cells (bagC lsv').toArray 90 (0, 0)) ∧ w'.ownsRow B 22 1 lsv' (K + 1) (vs ++ [.slice ao n c]) ∧ Below B w w' := by
  have c4 : w.cell? ⟨b, 1, none⟩ = some lsv := by rw [cell_row hb]; exact bagC_at _
  have H := hide (And.intro hb hown)
  have hlt := row_lt hb
  obtain ⟨al, cl, hl⟩ : ∃ al cl, lsv = .slice al K cl := by
    rcases hown.2 with ⟨rfl, rfl⟩ | ⟨g, cap, cur, rfl, _⟩
    · exact ⟨_, _, rfl⟩
    · exact ⟨_, _, rfl⟩
  subst hl
  clear hb hown
  go_enter Tryz.func41, Tryz.ntmps41
  go_wp2_with (at_builtin; refine lists_append rfl (.tmp 8) (.tmp 10) rfl B (.slice al K cl) K vs rfl (H.out.2.alloc _) ⟨w.heap.size, 0, none⟩ 1 (.slice ao n c) rfl rfl ?_ (by rfl) hK (by simp; omega) ?_)
  · exact cell_new w (.slice ao n c) 22
  · intro v' w' hown' hgr
    obtain ⟨hb, hown⟩ := H.out
    have hb1 : (w.alloc (.cells #[Value.slice ao n c] 22)).heap[b]? = some (.cells (bagC (.slice al K cl)).toArray 90 (0, 0)) := by
      rw [← hb]; exact Below.heap_alloc _ _ _ hlt
    have hneb : (Value.slice al K cl).ownBlock = none ∨ (Value.slice al K cl).ownBlock ≠ some b := by
      rcases hown.2 with ⟨h1, _⟩ | ⟨g, cap, cur, h1, _, hg, _⟩
      · rw [h1]; exact Or.inl rfl
      · rw [h1]; right; simp only [Value.ownBlock, ne_eq, Option.some.injEq]; rintro rfl; rw [hb] at hg; simp at hg
    have hb2 : w'.heap[b]? = some (.cells (bagC (.slice al K cl)).toArray 90 (0, 0)) := by
      refine (hgr.block b (row_lt hb1) ?_).trans hb1
      rcases hneb with h | h
      · rw [h]; simp
      · exact fun e => h e.symm
    have d4 : w'.cell? ⟨b, 1, none⟩ = some (.slice al K cl) := by rw [cell_row hb2]; exact bagC_at _
    have f4 : w'.frozen? ⟨b, 1, none⟩ = false := free_row hb2 _
    obtain ⟨ax, cx, hxv⟩ : ∃ al cl, v' = .slice al (K + 1) cl := by
      rcases hown'.2 with ⟨rfl, h0⟩ | ⟨g, cap, cur, rfl, _⟩
      · omega
      · exact ⟨_, _, rfl⟩
    subst hxv
    have hlt2 : ∀ k, (Value.slice al K cl).ownBlock = some k → B ≤ k := fun k e => (hown.lt k e).1
    have H2 := hide (And.intro hb2 (And.intro hown' (And.intro hgr hlt2)))
    clear hb hown hb1 hneb hb2 hown' hgr hlt2
    go_wp2
    go_end0
    obtain ⟨hb2, hown', hgr, hlt2⟩ := H2.out
    refine ⟨rfl, _, (row_setCell hb2 1 _).trans (by rw [bagC_set]), ?_, ?_⟩
    · refine hown'.kept (grown_setCell _ b 1 _) ?_
      rcases hown'.2 with ⟨h1, _⟩ | ⟨g, cap, cur, h1, _, hg, _⟩
      · rw [h1]; exact Or.inl rfl
      · rw [h1]; right; simp only [Value.ownBlock, ne_eq, Option.some.injEq]; rintro rfl; rw [hb2] at hg; simp at hg
    · have g1 : w.grownBy (w.alloc (.cells #[Value.slice ao n c] 22)) none := World.grownBy_alloc w _ none
      have g3 := grown_setCell w' b 1 (.slice ax (K + 1) cx)
      refine ⟨?_, ?_, ?_, ?_, ?_⟩
      · exact g3.os.trans (hgr.os.trans g1.os)
      · exact g3.tape.trans (hgr.tape.trans g1.tape)
      · exact g3.output.trans (hgr.output.trans g1.output)
      · exact Nat.le_trans g1.size (Nat.le_trans hgr.size g3.size)
      · intro k hk
        have hkw : k < w.heap.size := by omega
        rw [g3.block k (Nat.lt_of_lt_of_le (Nat.lt_of_lt_of_le hkw g1.size) hgr.size) (by simp; omega), hgr.block k (Nat.lt_of_lt_of_le hkw g1.size) (fun e => by have := hlt2 k e.symm; omega), g1.block k hkw (by simp)]

theorem own_below {w w' : World} {B B1 n : Nat} {e : TypeId} {v : Value} {xs : List Value} (h : w.ownsRow B e 1 v n xs) (hb : Below B1 w w') (hw : w.heap.size ≤ B1) : w'.ownsRow B e 1 v n xs := by
  refine ⟨h.1, ?_⟩
  rcases h.2 with h1 | ⟨g, cap, cur, h1, h2, h3, h4⟩
  · exact Or.inl h1
  · exact Or.inr ⟨g, cap, cur, h1, h2, (hb.block g (Nat.lt_of_lt_of_le (row_lt h3) hw)).trans h3, h4⟩
theorem below_trans {B : Nat} {a b c : World} (h : Below B a b) (k : Below B b c) : Below B a c := ⟨k.os.trans h.os, k.tape.trans h.tape, k.output.trans h.output, Nat.le_trans h.size k.size, fun i hi => (k.block i hi).trans (h.block i hi)⟩

set_option maxRecDepth 100000 in
set_option maxHeartbeats 1000000 in
theorem apartL_any (B K L cap : Nat) (v : Nat → Value) (n : Nat → Nat) (f : Nat → List Value) (T : Nat → Prop) (w0 w : World) (hF : Fl w B K (.slice (some ⟨L, 0, none⟩) K cap) v n f) (hG : GrownT T w0 w) (hT : ∀ i, i < K → ∀ k, (v i).ownBlock = some k → w0.heap.size ≤ k ∨ T k) (hK : K ≤ 400000) (hK0 : 0 < K) (hn : ∀ k, k < K → n k ≤ 17592186044000) (hBw : B ≤ w.heap.size) :
    Calls Tryz.prog 19 #[.slice (some ⟨L, 0, none⟩) K cap] w fun e w' => e = .returned (.bool true) ∧ GrownT T w0 w' := by
  have HF := hide (And.intro hF hG)
  have HN := hide hn
  have HT := hide hT
  clear hT
  obtain ⟨b, hb⟩ : ∃ b, b = w.heap.size := ⟨_, rfl⟩
  have Hb := hide hb
  clear hF hG hn hb
  go_enter Tryz.func19, Tryz.ntmps19
  go_wp2
  rw [← Hb.out]
  go_loopg [4] K (fun q i wr => ∃ (j : Nat) (lsv : Value), q + j = K ∧ i = .int .i64 j ∧ wr.heap[b]? = some (.cells (bagC lsv).toArray 90 (0, 0)) ∧ wr.ownsRow b 22 1 lsv j ((List.range j).map v) ∧ Below b w wr ∧ b < wr.heap.size)
  case atStart =>
    have e : w.heap.size = b := Hb.out.symm
    refine ⟨0, .slice none 0 0, by omega, rfl, ?_, World.ownsRow_nil _ _ _ _, ?_, by simp; omega⟩
    · have := heap_alloc_new w (Obj.cells (bagC (.slice none 0 0)).toArray 90)
      rw [e] at this
      exact this
    · have := grown_below (World.grownBy_alloc w (Obj.cells (bagC (.slice none 0 0)).toArray 90) none)
      rw [e] at this
      exact this
  case round =>
    obtain ⟨j, lsv, hgj, rfl, hbag, hown, hbel, hbs⟩ := hrel
    by_cases hk : 0 < gk
    · have hj : j < K := by omega
      have hjK : (j : Int) < (K : Int) := by omega
      have hls := own_below HF.out.1.ls hbel (Nat.le_of_eq Hb.out.symm)
      have hcl : wr.cell? ⟨L, j, none⟩ = some (v j) := by rw [hls.cellAt j (by omega)]; simp [hj]
      obtain ⟨ao, c, hv⟩ := own_len (HF.out.1.row j hj)
      rw [hv] at hcl
      have hp := put_any b b lsv j ((List.range j).map v) ao (n j) c wr hbag hown (by omega) (by omega) (Nat.le_refl _)
      have HP := hide hp
      have HQ := hide (And.intro hbel hv)
      obtain ⟨nj, hnj⟩ : ∃ x, x = n j := ⟨_, rfl⟩
      rw [← hnj] at hcl
      have HNJ := hide hnj
      clear hbag hown hbel hls hv hp hnj
      go_wp2_with fail
      have hp := HP.out
      rw [← HNJ.out] at hp
      refine hp.mono ?_
      rintro e w' ⟨rfl, lsv', h1, h2, h3⟩
      have e2 : ((List.range j).map v) ++ [Value.slice ao nj c] = (List.range (j + 1)).map v := by rw [List.range_succ, List.map_append, HNJ.out, ← HQ.out.2]; rfl
      rw [e2] at h2
      have HR := hide (And.intro h1 (And.intro h2 (And.intro (below_trans HQ.out.1 h3) (Nat.lt_of_lt_of_le hbs h3.size))))
      clear hp h1 h2 h3 e2 HP HQ HNJ
      go_wp2
      go_roundg (gk - 1)
      case measure => omega
      case rel => exact ⟨j + 1, lsv', by omega, by go_num, HR.out.1, HR.out.2.1, HR.out.2.2.1, HR.out.2.2.2⟩
    · have hj : j = K := by omega
      have hjK : ¬ (j : Int) < (K : Int) := by omega
      rw [hj] at hown
      have hw : w.heap.size ≤ b := Nat.le_of_eq Hb.out.symm
      obtain ⟨L', cap', hl⟩ : ∃ g cap, lsv = .slice (some ⟨g, 0, none⟩) K cap := by
        rcases hown.2 with ⟨_, h0⟩ | ⟨g, cap, cur, rfl, _⟩
        · omega
        · exact ⟨_, _, rfl⟩
      subst hl
      obtain ⟨hF, hG⟩ := HF.out
      have hF2 : Fl wr B K (.slice (some ⟨L', 0, none⟩) K cap') v n f := ⟨ownsRow_le hown (by omega), fun k hk' => own_below (hF.row k hk') hbel hw, hF.apart⟩
      have hG2 : GrownT T w0 wr := hG.step (below_grown (by rw [Hb.out] at hbel; exact hbel)) (fun j e => by cases e)
      have hA := apart_any b B K L' cap' v n f T w0 wr hF2 ⟨hG2, hbag⟩ HT.out hK HN.out (by omega)
      have HA := hide hA
      clear hown hbag hbel hF hG hF2 hG2 hA HF hj
      go_wp2_with fail
      refine HA.out.mono ?_
      rintro e w' ⟨rfl, hg⟩
      have HG := hide hg
      clear hg
      go_wp2
      go_ret
      exact ⟨rfl, HG.out⟩
/-- A block of bytes, as an owned row. -/
theorem own_of_row {w : World} {B A n : Nat} {xs : List Value} (h : w.heap[A]? = some (.cells xs.toArray 3 (0, 0))) (hn : xs.length = n) (hB : B ≤ A) (hm : n ≤ maxLen) : w.ownsRow B 3 1 (.slice (some ⟨A, 0, none⟩) n n) n xs :=
  ⟨by simpa using hn, Or.inr ⟨A, n, xs.toArray, rfl, hB, h, Nat.le_refl _, hm, by simpa using hn, by rw [Nat.mul_one]; simp [← hn]⟩⟩
theorem own_keptT {T : Nat → Prop} {w w' : World} {B n : Nat} {e : TypeId} {v : Value} {xs : List Value} (h : w.ownsRow B e 1 v n xs) (hg : GrownT T w w') (hne : ∀ k, v.ownBlock = some k → ¬ T k) : w'.ownsRow B e 1 v n xs := by
  refine ⟨h.1, ?_⟩
  rcases h.2 with h1 | ⟨g, cap, cur, rfl, h2, h3, h4⟩
  · exact Or.inl h1
  · exact Or.inr ⟨g, cap, cur, rfl, h2, (hg.block g (row_lt h3) (hne g rfl)).trans h3, h4⟩
theorem grownT_after {T : Nat → Prop} {w0 w w' : World} (h : w0.grownBy w none) (hg : GrownT T w w') (hT : ∀ k, T k → w0.heap.size ≤ k) : w0.grownBy w' none :=
  ⟨hg.os.trans h.os, hg.tape.trans h.tape, hg.output.trans h.output, Nat.le_trans h.size hg.size, fun k hk _ => (hg.block k (Nat.lt_of_lt_of_le hk h.size) (fun t => by have := hT k t; omega)).trans (h.block k hk (by simp))⟩
theorem own_newer {w w1 : World} {B n m : Nat} {x y : Value} {xs ys : List Value} (hx : w.ownsRow B 3 1 x n xs) (hy : w1.ownsRow w.heap.size 3 1 y m ys) : x.ownBlock = none ∨ x.ownBlock ≠ y.ownBlock := by
  cases hb : x.ownBlock with
  | none => exact Or.inl rfl
  | some k =>
    right
    intro e
    have h1 := (hx.lt k hb).2
    have h2 := (hy.lt k e.symm).1
    omega
theorem apart_swap {x y : Value} (h : x.ownBlock = none ∨ x.ownBlock ≠ y.ownBlock) : y.ownBlock = none ∨ y.ownBlock ≠ x.ownBlock := by
  rcases h with h | h
  · cases hb : y.ownBlock with
    | none => exact Or.inl rfl
    | some k => right; rw [h]; simp
  · exact Or.inr (fun e => h e.symm)
/-- Rows, one behind the other, as the lists that ApartBytes is handed. -/
structure Rw (w : World) (B : Nat) (vs : List Value) : Prop where
  row : ∀ k, k < vs.length → ∃ n xs, w.ownsRow B 3 1 (vs.getD k undef) n xs ∧ n ≤ 17592186044000
  apart : ∀ i k, i < k → k < vs.length → (vs.getD i undef).ownBlock = none ∨ (vs.getD i undef).ownBlock ≠ (vs.getD k undef).ownBlock
theorem Rw.nil (w : World) (B : Nat) : Rw w B [] := ⟨fun k hk => by simp at hk, fun i k _ hk => by simp at hk⟩
theorem Rw.cons {w : World} {B n : Nat} {v : Value} {xs : List Value} {vs : List Value} (h : w.ownsRow B 3 1 v n xs) (hn : n ≤ 17592186044000) (ha : ∀ u ∈ vs, v.ownBlock = none ∨ v.ownBlock ≠ u.ownBlock) (hs : Rw w B vs) : Rw w B (v :: vs) := by
  refine ⟨fun k hk => ?_, fun i k hik hk => ?_⟩
  · cases k with
    | zero => exact ⟨n, xs, h, hn⟩
    | succ k => simpa using hs.row k (by simpa using hk)
  · cases k with
    | zero => omega
    | succ k =>
      have hk' : k < vs.length := by simpa using hk
      cases i with
      | zero =>
        have := ha (vs.getD k undef) (by simp [List.getD_eq_getElem?_getD, hk'])
        simpa using this
      | succ i => simpa using hs.apart i k (by omega) hk'
/-- ApartBytes of rows that lie apart. -/
theorem apartL_rows (B : Nat) (vs : List Value) (w : World) (hR : Rw w B vs) (hB : B ≤ w.heap.size) (hK : vs.length ≤ 400000) (hK0 : 0 < vs.length) :
    Calls Tryz.prog 19 #[.slice (some ⟨w.heap.size, 0, none⟩) vs.length vs.length] (w.alloc (.cells vs.toArray 22)) fun e w' => e = .returned (.bool true) ∧ GrownT (fun b => ∃ k, k < vs.length ∧ (vs.getD k undef).ownBlock = some b) w w' := by
  obtain ⟨n, hn⟩ : ∃ n : Nat → Nat, ∀ k, k < vs.length → ∃ xs, w.ownsRow B 3 1 (vs.getD k undef) (n k) xs ∧ n k ≤ 17592186044000 :=
    ⟨fun k => if h : k < vs.length then Classical.choose (hR.row k h) else 0, fun k hk => by simp only [hk, dif_pos]; exact Classical.choose_spec (hR.row k hk)⟩
  obtain ⟨f, hf⟩ : ∃ f : Nat → List Value, ∀ k, k < vs.length → w.ownsRow B 3 1 (vs.getD k undef) (n k) (f k) :=
    ⟨fun k => if h : k < vs.length then Classical.choose (hn k h) else [], fun k hk => by simp only [hk, dif_pos]; exact (Classical.choose_spec (hn k hk)).1⟩
  have hF : Fl (w.alloc (.cells vs.toArray 22)) B vs.length (.slice (some ⟨w.heap.size, 0, none⟩) vs.length vs.length) (fun k => vs.getD k undef) n f := by
    refine ⟨?_, fun k hk => (hf k hk).alloc _, fun i k hi hk hik => ?_⟩
    · have h := World.ownsRow_lit (base := B) (e := 22) (size := 1) w vs.toArray vs.length hB (by unfold maxLen; omega) (by simp)
      have e : (List.range vs.length).map (fun k => vs.getD k undef) = vs := by
        apply List.ext_getElem?
        intro k
        rw [List.getElem?_map]
        by_cases hk : k < vs.length
        · simp [hk, List.getD_eq_getElem?_getD]
        · simp [hk]
      rw [e]
      simpa using h
    · by_cases h : i < k
      · exact hR.apart i k h hk
      · exact apart_swap (hR.apart k i (by omega) hi)
  refine (apartL_any B vs.length w.heap.size vs.length _ n f (fun b => ∃ k, k < vs.length ∧ (vs.getD k undef).ownBlock = some b) w _ hF ((GrownT.refl _ w).step (World.grownBy_alloc w _ none) (fun j e => by cases e)) (fun i hi k e => Or.inr ⟨i, hi, e⟩) hK hK0 (fun k hk => by obtain ⟨_, _, h⟩ := hn k hk; exact h) (by simp; omega)).mono ?_
  rintro e w' ⟨rfl, h⟩
  exact ⟨rfl, h⟩
/-- The same, where the lists are new since w0. -/
theorem apartL_new (B K L cap : Nat) (v : Nat → Value) (n : Nat → Nat) (f : Nat → List Value) (w0 w : World) (hF : Fl w B K (.slice (some ⟨L, 0, none⟩) K cap) v n f) (hG : w0.grownBy w none) (hB : w0.heap.size ≤ B) (hK : K ≤ 400000) (hK0 : 0 < K) (hn : ∀ k, k < K → n k ≤ 17592186044000) (hBw : B ≤ w.heap.size) :
    Calls Tryz.prog 19 #[.slice (some ⟨L, 0, none⟩) K cap] w fun e w' => e = .returned (.bool true) ∧ w0.grownBy w' none := by
  refine (apartL_any B K L cap v n f (fun _ => False) w0 w hF ((GrownT.refl _ w0).step hG (fun j e => by cases e)) (fun i hi k e => Or.inl (Nat.le_trans hB ((hF.row i hi).lt k e).1)) hK hK0 hn hBw).mono ?_
  rintro e w' ⟨rfl, h⟩
  exact ⟨rfl, h.grown (fun k t => t.elim)⟩
end Go.Proofs.YtnnmaknjhfjojaaGreatDoor.Al
/- A party's seats are the document's. -/
namespace Go.Proofs.YtnnmaknjhfjojaaGreatDoor
open Go.RowKit Cx Pn
attribute [local go_sem ↓] Go.wp_at_zero Go.wp_at_succ

theorem rP_ris (R W : Int) (L : List Int) (B : Nat) (T : List Int) : Ris (rP R W L B T) := by
  unfold rP
  split
  · exact dr_ris _ _ _
  · intro i j p q h; simp at h
theorem Told.len {E k ec : Int} {P : List (Nat × Nat)} {xs : List Nat} (h : Told E P k ec xs) (hr : Ris P) : xs.length ≤ 16 := by
  rcases h with ⟨-, -, rfl⟩ | ⟨-, -, -, rfl⟩ | ⟨-, -, -, -, -, rfl⟩ | ⟨-, n, ps, -, -, h4, -, -, hg, rfl⟩
  · simp
  · simp
  · simp
  · rw [srt_len hr hg]; exact h4
set_option maxRecDepth 40000 in
set_option maxHeartbeats 8000000 in
theorem pseats_any (R W o k : Int) (ao : Option Addr) (n cap : Nat) (L : List Int) (to : Option Addr) (m tc : Nat) (T : List Int) (w : World) (hc : CbIn w ao n cap L) (ht : CbIn w to m tc T) (hT : Bt.Tab w) :
    Calls Tryz.prog 4 #[askV R W (.slice ao n cap) (.slice to m tc) o, .int .i64 k] w fun e w' => e = .returned (.bool true) ∧ w.grownBy w' none := by
  have hG := grown_alloc w (.cells #[.int .i64 R, .int .i64 W, .slice ao n cap, .slice to m tc, .int .i64 o] 26)
  have hX := heap_alloc_new w (.cells #[.int .i64 R, .int .i64 W, .slice ao n cap, .slice to m tc, .int .i64 o] 26)
  have HS := hide (set_any R W o ao n cap L to m tc T _ (hc.grown hG) (ht.grown hG) (by have := Tab.pos hT; have := hG.size; omega))
  have HL := hide (fun w' (hg : w.grownBy w' none) => lentCabin_any R W ao n cap L w' (hc.grown hg))
  have hbl := bdN_le R W L o
  have hlen := tkL_len (bdN R W L o) T
  have hri := rP_ris R W L (bdN R W L o) T
  have HR := hide (fun ao cap b g w' (h1 : CbIn w' ao n cap L) (h2 : Bt.SetAt w' b g (tkL (bdN R W L o) T)) (h3 : Bt.Tab w') => seat_all R W ao n cap L b g (bdN R W L o) T k w' h1 h2 h3)
  have HD := hide (fun w' (hg : w.grownBy w' none) => rseat_all R W ao n cap L (bdN R W L o) to m tc T k w' (hc.grown hg) (ht.grown hg) (bdN_le R W L o))
  have hnl := hc.len
  have hsm := hc.sm
  have H0 := hide (And.intro hc (And.intro ht (And.intro hT hnl)))
  generalize bdN R W L o = B at *
  generalize hE : rE R W L B = E at *
  generalize hP : rP R W L B T = P at *
  generalize tkL B T = S at *
  have HX := hide (And.intro hG hX)
  have HLn := hide hlen
  have HRi := hide hri
  clear hc ht hT hG hX hE hP hlen hnl hri
  unfold askV at *
  unfold cbV at *
  go_enter Tryz.func4, Tryz.ntmps4
  obtain ⟨b0, b1, b2, b3, b4⟩ := box5 HX.out.2
  go_wp2_with fail
  refine HS.out.mono ?_
  rintro e w3 ⟨b, g, rfl, hset3, hb3, hg3, hgw3⟩
  have G3 := hide (And.intro hset3 (And.intro (heap_kept HX.out.2 hgw3 (by simp)) (grown_trans HX.out.1 hgw3)))
  have hwlt := row_lt G3.out.2.1
  clear HS hset3 hb3 hg3 hgw3 b0 b1 b2 b3 b4
  obtain ⟨b0, b1, b2, b3, b4⟩ := box5 G3.out.2.1
  go_wp2_with fail
  refine (HL.out _ G3.out.2.2).mono ?_
  rintro e w4 ⟨v, rfl, hlent, hg4⟩
  obtain ⟨gl, cl, rfl, hcb4⟩ := hlent.cb (by have := H0.out.2.2.2; omega)
  obtain ⟨gl', cl', hv', hl12, hclm, hglb, hgl, hmk, cur, hcur, hcs⟩ := hlent.all
  injection hv' with hv1 hv2 hv3
  injection hv1 with hv1
  injection hv1 with hv1
  subst hv1
  subst hv3
  rw [H0.out.2.2.2] at hcb4 hl12 ⊢
  have G4 := hide (And.intro (Set_grown G3.out.1 hg4) (And.intro (heap_kept G3.out.2.1 hg4 (by simp)) (And.intro (grown_trans G3.out.2.2 hg4) (And.intro hcb4 (And.intro hmk (And.intro (show ∃ cur, w4.heap[gl]? = some (.cells cur 3 (0, 0)) ∧ cur.size = cl from ⟨cur, hcur, hcs⟩) (And.intro hl12 (And.intro hclm (show w.heap.size ≤ gl by have := G3.out.2.2.size; omega)))))))))
  clear hg4 hlent hcb4 hl12 hclm hglb hgl hmk hcur hcs hv2 b0 b1 b2 b3 b4
  go_wp2_with fail
  have g5 := grown_alloc w4 (.cells #[.int .i64 R, .int .i64 W, .slice (some ⟨gl, 0, none⟩) n cl] 24)
  have x5 := heap_alloc_new w4 (.cells #[.int .i64 R, .int .i64 W, .slice (some ⟨gl, 0, none⟩) n cl] 24)
  obtain ⟨q1, q2, q3, q4, q5, ⟨cur, q6, q7⟩, q8, q9, q10⟩ := G4.out
  have F5 := hide (And.intro (Set_grown q1 g5) (And.intro (heap_kept q2 g5 (by simp)) (And.intro (grown_trans q3 g5) (And.intro (q4.grown g5) (And.intro (q5.grown g5) (And.intro x5 (And.intro q10 (And.intro (heap_kept q6 g5 (by simp)) (And.intro (H0.out.2.2.1.kept (grown_trans q3 g5) (by simp)) (And.intro q7 (And.intro q8 q9)))))))))))
  generalize w4.alloc (.cells #[.int .i64 R, .int .i64 W, .slice (some ⟨gl, 0, none⟩) n cl] 24) = w5 at *
  obtain ⟨lb, hlb⟩ : ∃ lb, lb = w4.heap.size := ⟨_, rfl⟩
  rw [← hlb] at F5 ⊢
  clear g5 x5 q1 q2 q3 q4 q5 q6 q7 q8 q9 q10 hlb G4 G3
  refine (Bt.bytes_any b g S w5 F5.out.1).mono ?_
  rintro e w6 ⟨rfl, hby, hg6⟩
  obtain ⟨nb, hnb⟩ : ∃ nb, nb = (S.length + 7) / 8 := ⟨_, rfl⟩
  rw [← hnb]
  have HNb := hide hnb
  have F6 := hide (And.intro hg6 hby)
  clear hg6 hby hnb
  obtain ⟨l0, l1, l2⟩ := box3d (heap_kept F5.out.2.2.2.2.2.1 F6.out.1 (by simp))
  go_wp2_with fail
  refine (HR.out _ _ b g w6 (F5.out.2.2.2.1.grown F6.out.1) (Set_grown F5.out.1 F6.out.1) (Tab_grown F5.out.2.2.2.2.2.2.2.2.1 F6.out.1)).mono ?_
  rintro e w7 ⟨v1, ec, xs, rfl, htold, hown1, hg7⟩
  obtain ⟨vo1, vc1, rfl, -, -, -, -, -, -⟩ := own_at hown1
  have HTd := hide htold
  have hxl := htold.len HRi.out
  clear htold
  have F7 := hide (And.intro (grown_trans F6.out.1 hg7) (And.intro (heap_kept F6.out.2 hg7 (by simp)) hown1))
  clear hg7 hown1 l0 l1 l2
  obtain ⟨l0, l1, l2⟩ := box3d (heap_kept F5.out.2.2.2.2.2.1 F7.out.1 (by simp))
  go_wp2_with fail
  refine (HR.out _ _ b g w7 (F5.out.2.2.2.1.grown F7.out.1) (Set_grown F5.out.1 F7.out.1) (Tab_grown F5.out.2.2.2.2.2.2.2.2.1 F7.out.1)).mono ?_
  rintro e w8 ⟨v2, ec2, xs2, rfl, htold2, hown2, hg8⟩
  obtain ⟨rfl, rfl⟩ := HTd.out.uniq htold2
  obtain ⟨vo2, vc2, rfl, -, -, -, -, -, -⟩ := own_at hown2
  clear htold2
  have hap := Al.own_newer F7.out.2.2 hown2
  have F8 := hide (And.intro (grown_trans F7.out.1 hg8) (And.intro (heap_kept F7.out.2.1 hg8 (by simp)) (And.intro (own_grown F7.out.2.2 hg8) (And.intro hown2 (And.intro hap (And.intro F6.out.1.size hg8.size))))))
  have hs67 := F7.out.1.size
  clear hg8 hown2 hap l0 l1 l2
  obtain ⟨b0, b1, b2, b3, b4⟩ := box5 (heap_kept F5.out.2.1 F8.out.1 (by simp))
  go_wp2_with fail
  refine (HD.out _ (grown_trans F5.out.2.2.1 F8.out.1)).mono ?_
  rintro e w9 ⟨v3, ec3, xs3, rfl, htold3, hown3, hg9⟩
  obtain ⟨rfl, rfl⟩ := HTd.out.uniq htold3
  obtain ⟨vo3, vc3, rfl, -, -, -, -, -, -⟩ := own_at hown3
  clear htold3
  have F9 := hide (And.intro (grown_trans F8.out.1 hg9) (And.intro (heap_kept F8.out.2.1 hg9 (by simp)) (And.intro (own_grown F8.out.2.2.1 hg9) (And.intro (own_grown F8.out.2.2.2.1 hg9) hown3))))
  clear hg9 hown3 b0 b1 b2 b3 b4
  have hEE : (ec3 == ec3) = true := by simp
  go_wp2_with fail
  refine (sameOwn_eq F9.out.2.2.1 F9.out.2.2.2.2 (by omega)).mono ?_
  rintro e w10 ⟨rfl, hg10⟩
  have FA := hide (And.intro (grown_trans F9.out.1 hg10) (And.intro (heap_kept F9.out.2.1 hg10 (by simp)) (And.intro (own_grown F9.out.2.2.1 hg10) (And.intro (own_grown F9.out.2.2.2.1 hg10) (own_grown F9.out.2.2.2.2 hg10)))))
  clear hg10
  go_wp2_with fail
  refine (sameOwn_eq FA.out.2.2.2.1 FA.out.2.2.2.2 (by omega)).mono ?_
  rintro e w11 ⟨rfl, hg11⟩
  have FB := hide (And.intro (grown_trans FA.out.1 hg11) (And.intro (heap_kept FA.out.2.1 hg11 (by simp)) (And.intro (own_grown FA.out.2.2.1 hg11) (own_grown FA.out.2.2.2.1 hg11))))
  clear hg11
  obtain ⟨l0, l1, l2⟩ := box3d (heap_kept F5.out.2.2.2.2.2.1 FB.out.1 (by simp))
  obtain ⟨b0, b1, b2, b3, b4⟩ := box5 (heap_kept F5.out.2.1 FB.out.1 (by simp))
  go_wp2_with fail
  refine (keptCabin_any R W gl cl ao n cap L w11 H0.out.2.2.2 F5.out.2.2.2.2.2.2.2.2.2.2.1 F5.out.2.2.2.2.2.2.2.2.2.2.2 (F5.out.2.2.2.2.1.grown FB.out.1) (H0.out.1.at_.grown (grown_trans F5.out.2.2.1 FB.out.1)) (by omega)).mono ?_
  rintro e w12 ⟨rfl, hg12⟩
  have FC := hide (And.intro (grown_trans FB.out.1 hg12) (And.intro (heap_kept FB.out.2.1 hg12 (by simp)) (And.intro (own_grown FB.out.2.2.1 hg12) (own_grown FB.out.2.2.2 hg12))))
  clear hg12 l0 l1 l2 b0 b1 b2 b3 b4
  go_wp2_with fail
  refine (Bt.bytes_any b g S w12 (Set_grown F5.out.1 FC.out.1)).mono ?_
  rintro e w13 ⟨rfl, hby, hg13⟩
  rw [← HNb.out]
  have FD := hide (And.intro (grown_trans FC.out.1 hg13) (And.intro (heap_kept FC.out.2.1 hg13 (by simp)) (And.intro (own_grown FC.out.2.2.1 hg13) (And.intro (own_grown FC.out.2.2.2 hg13) hby))))
  clear hg13 hby
  go_wp2_with fail
  refine (sameB_eq w12.heap.size w5.heap.size nb nb nb (Bt.bytesL S) w13 (by rw [HNb.out]; exact Bt.bytesL_length S) FD.out.2.2.2.2 FD.out.2.1 (by have := HNb.out; have := HLn.out; omega)).mono ?_
  rintro e w14 ⟨rfl, hg14⟩
  have FE := hide (And.intro (grown_trans FD.out.1 hg14) (And.intro (own_grown FD.out.2.2.1 hg14) (own_grown FD.out.2.2.2.1 hg14)))
  clear hg14
  obtain ⟨l0, l1, l2⟩ := box3d (heap_kept F5.out.2.2.2.2.2.1 FE.out.1 (by simp))
  go_wp2_with fail
  obtain ⟨cur, hcur, hcs⟩ : ∃ cur, w5.heap[gl]? = some (.cells cur 3 (0, 0)) ∧ cur.size = cl := ⟨cur, F5.out.2.2.2.2.2.2.2.1, F5.out.2.2.2.2.2.2.2.2.2.1⟩
  have hgl5 := row_lt hcur
  refine (overCabin_any R W gl cl n w14 ⟨cur, heap_kept hcur FE.out.1 (by simp), hcs⟩ F5.out.2.2.2.2.2.2.2.2.2.2.1 F5.out.2.2.2.2.2.2.2.2.2.2.2 (by omega)).mono ?_
  rintro e w15 ⟨rfl, hg15⟩
  have hb6 := F8.out.2.2.2.2.2.1
  have hb7 := F8.out.2.2.2.2.2.2
  have o1 := own_base (base' := w5.heap.size) (own_below FE.out.2.1 hg15 (by omega)) (by omega)
  have o2 := own_base (base' := w5.heap.size) (own_below FE.out.2.2 hg15 (by omega)) (by omega)
  have G15 := grown_then (grown_trans F5.out.2.2.1 FE.out.1) hg15 (fun k e => by cases e; exact Or.inl F5.out.2.2.2.2.2.2.1)
  have hs15 := Nat.le_trans FE.out.1.size hg15.size
  have hrw : Al.Rw w15 w5.heap.size [.slice vo1 xs3.length vc1, .slice vo2 xs3.length vc2] := Al.Rw.cons o1 (by omega) (fun u hu => by rw [List.mem_singleton] at hu; subst hu; exact F8.out.2.2.2.2.1) (Al.Rw.cons o2 (by omega) (fun u hu => by cases hu) (Al.Rw.nil _ _))
  have HAp := hide (Al.apartL_rows w5.heap.size _ w15 hrw hs15 (by simp) (by simp))
  have FF := hide (And.intro G15 (And.intro o1 o2))
  have hs5 := F5.out.2.2.1.size
  clear hg15 o1 o2 G15 hrw hcur hcs l0 l1 l2
  go_wp2_with fail
  refine HAp.out.mono ?_
  rintro e w16 ⟨rfl, hgt⟩
  have G16 := Al.grownT_after FF.out.1 hgt (fun k hT => by
    obtain ⟨i, hi, hk⟩ := hT
    match i, hi, hk with
    | 0, _, hk => exact Nat.le_trans hs5 (FF.out.2.1.lt k hk).1
    | 1, _, hk => exact Nat.le_trans hs5 (FF.out.2.2.lt k hk).1)
  have FG := hide G16
  clear hgt G16 HAp
  go_wp2_with fail
  refine (awake_any w16 (H0.out.2.2.1.kept FG.out (by simp))).mono ?_
  rintro e w17 ⟨rfl, hg17⟩
  have FH := hide (grown_trans FG.out hg17)
  clear hg17
  go_wp2
  go_ret
  exact ⟨rfl, FH.out⟩
end Go.Proofs.YtnnmaknjhfjojaaGreatDoor
