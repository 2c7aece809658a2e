/- The contracts of the bag: putBytes, apart; of ApartBytes. -/
import Derived.Test.YtoflohjlmagjpaaDoorKFlat
import Derived.Test.YtoflohjlmagjpaaDoorKNil

namespace Go.Proofs.YtoflohjlmagjpaaDoor.Ap
open Go.RowKit
attribute [local go_sem ↓] Go.wp_at_zero Go.wp_at_succ

/-- The cells of a bag: nothing but the lists of bytes. -/
def bagC (v : Value) : List Value := List.replicate 4 (.slice none 0 0) ++ v :: List.replicate 14 (.slice none 0 0)
theorem bagC_length (v : Value) : (bagC v).length = 19 := rfl
theorem bagC_at (v : Value) : (bagC v)[4]? = some v := rfl
theorem bagC_set (v v' : Value) : (bagC v).set 4 v' = bagC v' := rfl
theorem bagC_nil (v : Value) (j : Nat) (h : j < 19) (h4 : j ≠ 4) : (bagC v)[j]? = some (.slice none 0 0) := by
  unfold bagC
  by_cases h1 : j < 4
  · rw [List.getElem?_append_left (by simpa using h1), List.getElem?_replicate, if_pos h1]
  · rw [List.getElem?_append_right (by simp; omega), List.length_replicate]
    obtain ⟨m, hm⟩ : ∃ m, j - 4 = m + 1 := ⟨j - 5, by omega⟩
    rw [hm, List.getElem?_cons_succ, List.getElem?_replicate, if_pos (by omega)]

theorem lists_append {w : World} {ops : Array Oper} {rest : List Oper} {o : Oper} {a : Act} {Q : Exit → Act → World → Prop} (hgd : o.guard = none) (s x : Operand)
    (ho : o.op = .call { callee := .builtin .append, args := #[s, x], argTypes := #[33, 33] }) (base : Nat) (v : Value) (n : Nat) (xs : List Value) (hs : a.eval s = v) (hown : w.ownsRow base 27 1 v n xs)
    (ad : Addr) (c : Nat) (y : Value) (hx : a.eval x = .slice (some ad) 1 c) (hy : y.oneCell' = true) (hcell : w.cell? ad = some y) (hoff : ad.add 0 = ad) (hbytes : n ≤ 400000) (hbase : base ≤ w.heap.size)
    (h : ∀ v' w', w'.ownsRow base 27 1 v' (n + 1) (xs ++ [y]) → w.grownBy w' v.ownBlock → wpList Tryd.prog ops Q rest (a.put o.dst v') w') : wpList Tryd.prog ops Q (o :: rest) a w := by
  obtain ⟨i0, hi, hz0, hz1, hz2⟩ := info_parts Tryd.info27
  refine wpList_append_own _ hgd s x 33 ho base 27 i0 (.slice none 0 0) 1 24 Tryd.underlying33 hi hz0 hz1 hz2 rfl (by decide) v n xs hs hown ad 1 c [y] hx rfl ?_ ?_ (by unfold maxLen; omega) (by omega) hbase (fun v' w' h1 h2 _ => h v' w' h1 h2)
  · intro j u hu
    cases j with
    | zero => simp at hu; rw [hoff, ← hu]; exact hcell
    | succ j => simp at hu
  · intro u hu; simp at hu; rw [hu]; exact hy

set_option maxHeartbeats 1000000 in
theorem putBytes_any (b B : Nat) (lsv : Value) (K : Nat) (vs : List Value) (ao : Option Addr) (n c : Nat) (w : World) (hb : w.heap[b]? = some (.cells (bagC lsv).toArray 79 (0, 0))) (hown : w.ownsRow B 27 1 lsv K vs) (hK : K ≤ 400000) (hB : B ≤ w.heap.size) (hBb : B ≤ b) :
    Calls Tryd.prog 30 #[.pointer (some ⟨b, 0, none⟩), .slice ao n c] w fun e w' => e = .returned (.tuple #[]) ∧ ∃ lsv', w'.heap[b]? = some (.cells (bagC lsv').toArray 79 (0, 0)) ∧ w'.ownsRow B 27 1 lsv' (K + 1) (vs ++ [.slice ao n c]) ∧ Below B w w' := by
  have c4 : w.cell? ⟨b, 4, none⟩ = some lsv := by rw [cell_row hb]; exact bagC_at _
  have H := hide (And.intro hb hown)
  have hlt := row_lt hb
  obtain ⟨al, cl, hl⟩ : ∃ al cl, lsv = .slice al K cl := by
    rcases hown.2 with ⟨rfl, rfl⟩ | ⟨g, cap, cur, rfl, _⟩
    · exact ⟨_, _, rfl⟩
    · exact ⟨_, _, rfl⟩
  subst hl
  clear hb hown
  go_enter Tryd.func30, Tryd.ntmps30
  go_wp2_with (at_builtin; refine lists_append rfl (.tmp 8) (.tmp 10) rfl B (.slice al K cl) K vs rfl (H.out.2.alloc _) ⟨w.heap.size, 0, none⟩ 1 (.slice ao n c) rfl rfl ?_ (by rfl) hK (by simp; omega) ?_)
  · exact cell_new w (.slice ao n c) 27
  · intro v' w' hown' hgr
    obtain ⟨hb, hown⟩ := H.out
    have hb1 : (w.alloc (.cells #[Value.slice ao n c] 27)).heap[b]? = some (.cells (bagC (.slice al K cl)).toArray 79 (0, 0)) := by
      rw [← hb]; exact Below.heap_alloc _ _ _ hlt
    have hneb : (Value.slice al K cl).ownBlock = none ∨ (Value.slice al K cl).ownBlock ≠ some b := by
      rcases hown.2 with ⟨h1, _⟩ | ⟨g, cap, cur, h1, _, hg, _⟩
      · rw [h1]; exact Or.inl rfl
      · rw [h1]; right; simp only [Value.ownBlock, ne_eq, Option.some.injEq]; rintro rfl; rw [hb] at hg; simp at hg
    have hb2 : w'.heap[b]? = some (.cells (bagC (.slice al K cl)).toArray 79 (0, 0)) := by
      refine (hgr.block b (row_lt hb1) ?_).trans hb1
      rcases hneb with h | h
      · rw [h]; simp
      · exact fun e => h e.symm
    have d4 : w'.cell? ⟨b, 4, none⟩ = some (.slice al K cl) := by rw [cell_row hb2]; exact bagC_at _
    have f4 : w'.frozen? ⟨b, 4, none⟩ = false := free_row hb2 _
    obtain ⟨ax, cx, hxv⟩ : ∃ al cl, v' = .slice al (K + 1) cl := by
      rcases hown'.2 with ⟨rfl, h0⟩ | ⟨g, cap, cur, rfl, _⟩
      · omega
      · exact ⟨_, _, rfl⟩
    subst hxv
    have hlt2 : ∀ k, (Value.slice al K cl).ownBlock = some k → B ≤ k := fun k e => (hown.lt k e).1
    have H2 := hide (And.intro hb2 (And.intro hown' (And.intro hgr hlt2)))
    clear hb hown hb1 hneb hb2 hown' hgr hlt2
    go_wp2
    go_end0
    obtain ⟨hb2, hown', hgr, hlt2⟩ := H2.out
    refine ⟨rfl, _, (row_setCell hb2 4 _).trans (by rw [bagC_set]), ?_, ?_⟩
    · refine hown'.kept (grown_setCell _ b 4 _) ?_
      rcases hown'.2 with ⟨h1, _⟩ | ⟨g, cap, cur, h1, _, hg, _⟩
      · rw [h1]; exact Or.inl rfl
      · rw [h1]; right; simp only [Value.ownBlock, ne_eq, Option.some.injEq]; rintro rfl; rw [hb2] at hg; simp at hg
    · have g1 : w.grownBy (w.alloc (.cells #[Value.slice ao n c] 27)) none := World.grownBy_alloc w _ none
      have g3 := grown_setCell w' b 4 (.slice ax (K + 1) cx)
      refine ⟨?_, ?_, ?_, ?_, ?_⟩
      · exact g3.os.trans (hgr.os.trans g1.os)
      · exact g3.tape.trans (hgr.tape.trans g1.tape)
      · exact g3.output.trans (hgr.output.trans g1.output)
      · exact Nat.le_trans g1.size (Nat.le_trans hgr.size g3.size)
      · intro k hk
        have hkw : k < w.heap.size := by omega
        rw [g3.block k (Nat.lt_of_lt_of_le (Nat.lt_of_lt_of_le hkw g1.size) hgr.size) (by simp; omega), hgr.block k (Nat.lt_of_lt_of_le hkw g1.size) (fun e => by have := hlt2 k e.symm; omega), g1.block k hkw (by simp)]

set_option maxRecDepth 100000 in
set_option maxHeartbeats 4000000 in
theorem apart_any (b B K L cap : Nat) (v : Nat → Value) (n : Nat → Nat) (f : Nat → List Value) (T : Nat → Prop) (w0 w : World) (hF : Fl w B K (.slice (some ⟨L, 0, none⟩) K cap) v n f) (hG : Kp T w0 w b (bagC (.slice (some ⟨L, 0, none⟩) K cap)).toArray) (hT : ∀ i, i < K → ∀ k, (v i).ownBlock = some k → w0.heap.size ≤ k ∨ T k) (hK : K ≤ 400000) (hn : ∀ k, k < K → n k ≤ 140737488355000) (hBw : B ≤ w.heap.size) :
    Calls Tryd.prog 31 #[.pointer (some ⟨b, 0, none⟩)] w fun e w' => e = .returned (.bool true) ∧ GrownT T w0 w' := by
  have HF := hide hF
  have H0 := hide hG
  have HN := hide hn
  have HT := hide hT
  clear hF hG hn hT
  go_enter Tryd.func31, Tryd.ntmps31
  have c0 : w.cell? ⟨b, 0, none⟩ = some (.slice none 0 0) := by rw [cell_row H0.out.2]; exact bagC_nil _ 0 (by decide) (by decide)
  go_wp2_with fail
  refine (nil_44 _).mono ?_
  rintro e w1 ⟨rfl, hg⟩
  have H1 := hide (H0.out.new hg)
  have HF := hide (HF.out.kept hg)
  have S1 : w.heap.size ≤ w1.heap.size := hg.size
  clear hg c0 H0
  have c1 : w1.cell? ⟨b, 1, none⟩ = some (.slice none 0 0) := by rw [cell_row H1.out.2]; exact bagC_nil _ 1 (by decide) (by decide)
  go_wp2_with fail
  refine (nil_45 _).mono ?_
  rintro e w2 ⟨rfl, hg⟩
  have H2 := hide (H1.out.new hg)
  have HF := hide (HF.out.kept hg)
  have S2 : w.heap.size ≤ w2.heap.size := Nat.le_trans S1 hg.size
  clear hg c1 H1
  have c2 : w2.cell? ⟨b, 2, none⟩ = some (.slice none 0 0) := by rw [cell_row H2.out.2]; exact bagC_nil _ 2 (by decide) (by decide)
  go_wp2_with fail
  refine (nil_46 _).mono ?_
  rintro e w3 ⟨rfl, hg⟩
  have H3 := hide (H2.out.new hg)
  have HF := hide (HF.out.kept hg)
  have S3 : w.heap.size ≤ w3.heap.size := Nat.le_trans S2 hg.size
  clear hg c2 H2
  have c3 : w3.cell? ⟨b, 3, none⟩ = some (.slice none 0 0) := by rw [cell_row H3.out.2]; exact bagC_nil _ 3 (by decide) (by decide)
  go_wp2_with fail
  refine (nil_47 _).mono ?_
  rintro e w4 ⟨rfl, hg⟩
  have H4 := hide (H3.out.new hg)
  have HF := hide (HF.out.kept hg)
  have S4 : w.heap.size ≤ w4.heap.size := Nat.le_trans S3 hg.size
  clear hg c3 H3
  have c4 : w4.cell? ⟨b, 4, none⟩ = some (.slice (some ⟨L, 0, none⟩) K cap) := by rw [cell_row H4.out.2]; exact bagC_at _
  go_wp2_with fail
  refine (flat_any B K L cap v n f T w0 w4 b _ HF.out H4.out HT.out hK HN.out (Nat.le_trans hBw S4)).mono ?_
  rintro e w5 ⟨rfl, hk⟩
  have H5 := hide hk
  clear hk c4 H4 HF
  have c5 : w5.cell? ⟨b, 5, none⟩ = some (.slice none 0 0) := by rw [cell_row H5.out.2]; exact bagC_nil _ 5 (by decide) (by decide)
  go_wp2_with fail
  refine (nil_49 _).mono ?_
  rintro e w6 ⟨rfl, hg⟩
  have H6 := hide (H5.out.new hg)
  clear hg c5 H5
  have c6 : w6.cell? ⟨b, 6, none⟩ = some (.slice none 0 0) := by rw [cell_row H6.out.2]; exact bagC_nil _ 6 (by decide) (by decide)
  go_wp2_with fail
  refine (nil_50 _).mono ?_
  rintro e w7 ⟨rfl, hg⟩
  have H7 := hide (H6.out.new hg)
  clear hg c6 H6
  have c7 : w7.cell? ⟨b, 7, none⟩ = some (.slice none 0 0) := by rw [cell_row H7.out.2]; exact bagC_nil _ 7 (by decide) (by decide)
  go_wp2_with fail
  refine (nil_51 _).mono ?_
  rintro e w8 ⟨rfl, hg⟩
  have H8 := hide (H7.out.new hg)
  clear hg c7 H7
  have c8 : w8.cell? ⟨b, 8, none⟩ = some (.slice none 0 0) := by rw [cell_row H8.out.2]; exact bagC_nil _ 8 (by decide) (by decide)
  go_wp2_with fail
  refine (nil_52 _).mono ?_
  rintro e w9 ⟨rfl, hg⟩
  have H9 := hide (H8.out.new hg)
  clear hg c8 H8
  have c9 : w9.cell? ⟨b, 9, none⟩ = some (.slice none 0 0) := by rw [cell_row H9.out.2]; exact bagC_nil _ 9 (by decide) (by decide)
  go_wp2_with fail
  refine (nil_53 _).mono ?_
  rintro e w10 ⟨rfl, hg⟩
  have H10 := hide (H9.out.new hg)
  clear hg c9 H9
  have c10 : w10.cell? ⟨b, 10, none⟩ = some (.slice none 0 0) := by rw [cell_row H10.out.2]; exact bagC_nil _ 10 (by decide) (by decide)
  go_wp2_with fail
  refine (nil_54 _).mono ?_
  rintro e w11 ⟨rfl, hg⟩
  have H11 := hide (H10.out.new hg)
  clear hg c10 H10
  have c11 : w11.cell? ⟨b, 11, none⟩ = some (.slice none 0 0) := by rw [cell_row H11.out.2]; exact bagC_nil _ 11 (by decide) (by decide)
  go_wp2_with fail
  refine (nil_55 _).mono ?_
  rintro e w12 ⟨rfl, hg⟩
  have H12 := hide (H11.out.new hg)
  clear hg c11 H11
  have c12 : w12.cell? ⟨b, 12, none⟩ = some (.slice none 0 0) := by rw [cell_row H12.out.2]; exact bagC_nil _ 12 (by decide) (by decide)
  go_wp2_with fail
  refine (nil_56 _).mono ?_
  rintro e w13 ⟨rfl, hg⟩
  have H13 := hide (H12.out.new hg)
  clear hg c12 H12
  have c13 : w13.cell? ⟨b, 13, none⟩ = some (.slice none 0 0) := by rw [cell_row H13.out.2]; exact bagC_nil _ 13 (by decide) (by decide)
  go_wp2_with fail
  refine (nil_57 _).mono ?_
  rintro e w14 ⟨rfl, hg⟩
  have H14 := hide (H13.out.new hg)
  clear hg c13 H13
  have c14 : w14.cell? ⟨b, 14, none⟩ = some (.slice none 0 0) := by rw [cell_row H14.out.2]; exact bagC_nil _ 14 (by decide) (by decide)
  go_wp2_with fail
  refine (nil_58 _).mono ?_
  rintro e w15 ⟨rfl, hg⟩
  have H15 := hide (H14.out.new hg)
  clear hg c14 H14
  have c15 : w15.cell? ⟨b, 15, none⟩ = some (.slice none 0 0) := by rw [cell_row H15.out.2]; exact bagC_nil _ 15 (by decide) (by decide)
  go_wp2_with fail
  refine (nil_59 _).mono ?_
  rintro e w16 ⟨rfl, hg⟩
  have H16 := hide (H15.out.new hg)
  clear hg c15 H15
  have c16 : w16.cell? ⟨b, 16, none⟩ = some (.slice none 0 0) := by rw [cell_row H16.out.2]; exact bagC_nil _ 16 (by decide) (by decide)
  go_wp2_with fail
  refine (nil_60 _).mono ?_
  rintro e w17 ⟨rfl, hg⟩
  have H17 := hide (H16.out.new hg)
  clear hg c16 H16
  have c17 : w17.cell? ⟨b, 17, none⟩ = some (.slice none 0 0) := by rw [cell_row H17.out.2]; exact bagC_nil _ 17 (by decide) (by decide)
  go_wp2_with fail
  refine (nil_61 _).mono ?_
  rintro e w18 ⟨rfl, hg⟩
  have H18 := hide (H17.out.new hg)
  clear hg c17 H17
  have c18 : w18.cell? ⟨b, 18, none⟩ = some (.slice none 0 0) := by rw [cell_row H18.out.2]; exact bagC_nil _ 18 (by decide) (by decide)
  go_wp2_with fail
  refine (nil_62 _).mono ?_
  rintro e w19 ⟨rfl, hg⟩
  have H19 := hide (H18.out.new hg)
  clear hg c18 H18
  go_wp2
  go_ret
  exact ⟨rfl, H19.out.1⟩
end Go.Proofs.YtoflohjlmagjpaaDoor.Ap
