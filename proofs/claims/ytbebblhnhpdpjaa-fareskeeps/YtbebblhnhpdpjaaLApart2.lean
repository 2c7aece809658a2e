/- The contract of ApartBytes. -/
import Derived.Test.YtbebblhnhpdpjaaLBag
namespace Go.Proofs.Ytbebblhnhpdpjaa.Al
open Go.RowKit
attribute [local go_sem ↓] Go.wp_at_zero Go.wp_at_succ
attribute [local go_sem] run_store_float

theorem lists_append {w : World} {ops : Array Oper} {rest : List Oper} {o : Oper} {a : Act} {Q : Exit → Act → World → Prop} (hgd : o.guard = none) (s x : Operand)
    (ho : o.op = .call { callee := .builtin .append, args := #[s, x], argTypes := #[53, 53] }) (base : Nat) (v : Value) (n : Nat) (xs : List Value) (hs : a.eval s = v) (hown : w.ownsRow base 27 1 v n xs)
    (ad : Addr) (c : Nat) (y : Value) (hx : a.eval x = .slice (some ad) 1 c) (hy : y.oneCell' = true) (hcell : w.cell? ad = some y) (hoff : ad.add 0 = ad) (hbytes : n ≤ 400000) (hbase : base ≤ w.heap.size)
    (h : ∀ v' w', w'.ownsRow base 27 1 v' (n + 1) (xs ++ [y]) → w.grownBy w' v.ownBlock → wpList Try.prog ops Q rest (a.put o.dst v') w') : wpList Try.prog ops Q (o :: rest) a w := by
  obtain ⟨i0, hi, hz0, hz1, hz2⟩ := info_parts Try.info27
  refine wpList_append_own _ hgd s x 53 ho base 27 i0 (.slice none 0 0) 1 24 Try.underlying53 hi hz0 hz1 hz2 rfl (by decide) v n xs hs hown ad 1 c [y] hx rfl ?_ ?_ (by unfold maxLen; omega) (by omega) hbase (fun v' w' h1 h2 _ => h v' w' h1 h2)
  · intro j u hu
    cases j with
    | zero => simp at hu; rw [hoff, ← hu]; exact hcell
    | succ j => simp at hu
  · intro u hu; simp at hu; rw [hu]; exact hy

set_option maxHeartbeats 1000000 in
theorem put_any (b B : Nat) (lsv : Value) (K : Nat) (vs : List Value) (ao : Option Addr) (n c : Nat) (w : World) (hb : w.heap[b]? = some (.cells (bagC lsv).toArray 91 (0, 0))) (hown : w.ownsRow B 27 1 lsv K vs) (hK : K ≤ 400000) (hB : B ≤ w.heap.size) (hBb : B ≤ b) :
    Calls Try.prog 52 #[.pointer (some ⟨b, 0, none⟩), .slice ao n c] w fun e w' => e = .returned (.tuple #[]) ∧ ∃ lsv', w'.heap[b]? = some (.cells (bagC lsv').toArray 91 (0, 0)) ∧ w'.ownsRow B 27 1 lsv' (K + 1) (vs ++ [.slice ao n c]) ∧ Below B w w' := by
  have c4 : w.cell? ⟨b, 5, none⟩ = some lsv := by rw [cell_row hb]; exact bagC_at _
  have H := hide (And.intro hb hown)
  have hlt := row_lt hb
  obtain ⟨al, cl, hl⟩ : ∃ al cl, lsv = .slice al K cl := by
    rcases hown.2 with ⟨rfl, rfl⟩ | ⟨g, cap, cur, rfl, _⟩
    · exact ⟨_, _, rfl⟩
    · exact ⟨_, _, rfl⟩
  subst hl
  clear hb hown
  go_enter Try.func52, Try.ntmps52
  go_wp2_with (at_builtin; refine lists_append rfl (.tmp 8) (.tmp 10) rfl B (.slice al K cl) K vs rfl (H.out.2.alloc _) ⟨w.heap.size, 0, none⟩ 1 (.slice ao n c) rfl rfl ?_ (by rfl) hK (by simp; omega) ?_)
  · exact cell_new w (.slice ao n c) 27
  · intro v' w' hown' hgr
    obtain ⟨hb, hown⟩ := H.out
    have hb1 : (w.alloc (.cells #[Value.slice ao n c] 27)).heap[b]? = some (.cells (bagC (.slice al K cl)).toArray 91 (0, 0)) := by
      rw [← hb]; exact Below.heap_alloc _ _ _ hlt
    have hneb : (Value.slice al K cl).ownBlock = none ∨ (Value.slice al K cl).ownBlock ≠ some b := by
      rcases hown.2 with ⟨h1, _⟩ | ⟨g, cap, cur, h1, _, hg, _⟩
      · rw [h1]; exact Or.inl rfl
      · rw [h1]; right; simp only [Value.ownBlock, ne_eq, Option.some.injEq]; rintro rfl; rw [hb] at hg; simp at hg
    have hb2 : w'.heap[b]? = some (.cells (bagC (.slice al K cl)).toArray 91 (0, 0)) := by
      refine (hgr.block b (row_lt hb1) ?_).trans hb1
      rcases hneb with h | h
      · rw [h]; simp
      · exact fun e => h e.symm
    have d4 : w'.cell? ⟨b, 5, none⟩ = some (.slice al K cl) := by rw [cell_row hb2]; exact bagC_at _
    have f4 : w'.frozen? ⟨b, 5, none⟩ = false := free_row hb2 _
    obtain ⟨ax, cx, hxv⟩ : ∃ al cl, v' = .slice al (K + 1) cl := by
      rcases hown'.2 with ⟨rfl, h0⟩ | ⟨g, cap, cur, rfl, _⟩
      · omega
      · exact ⟨_, _, rfl⟩
    subst hxv
    have hlt2 : ∀ k, (Value.slice al K cl).ownBlock = some k → B ≤ k := fun k e => (hown.lt k e).1
    have H2 := hide (And.intro hb2 (And.intro hown' (And.intro hgr hlt2)))
    clear hb hown hb1 hneb hb2 hown' hgr hlt2
    go_wp2
    go_end0
    obtain ⟨hb2, hown', hgr, hlt2⟩ := H2.out
    refine ⟨rfl, _, (row_setCell hb2 5 _).trans (by rw [bagC_set]), ?_, ?_⟩
    · refine hown'.kept (grown_setCell _ b 5 _) ?_
      rcases hown'.2 with ⟨h1, _⟩ | ⟨g, cap, cur, h1, _, hg, _⟩
      · rw [h1]; exact Or.inl rfl
      · rw [h1]; right; simp only [Value.ownBlock, ne_eq, Option.some.injEq]; rintro rfl; rw [hb2] at hg; simp at hg
    · have g1 : w.grownBy (w.alloc (.cells #[Value.slice ao n c] 27)) none := World.grownBy_alloc w _ none
      have g3 := grown_setCell w' b 5 (.slice ax (K + 1) cx)
      refine ⟨?_, ?_, ?_, ?_, ?_⟩
      · exact g3.os.trans (hgr.os.trans g1.os)
      · exact g3.tape.trans (hgr.tape.trans g1.tape)
      · exact g3.output.trans (hgr.output.trans g1.output)
      · exact Nat.le_trans g1.size (Nat.le_trans hgr.size g3.size)
      · intro k hk
        have hkw : k < w.heap.size := by omega
        rw [g3.block k (Nat.lt_of_lt_of_le (Nat.lt_of_lt_of_le hkw g1.size) hgr.size) (by simp; omega), hgr.block k (Nat.lt_of_lt_of_le hkw g1.size) (fun e => by have := hlt2 k e.symm; omega), g1.block k hkw (by simp)]

theorem own_below {w w' : World} {B B1 n : Nat} {e : TypeId} {v : Value} {xs : List Value} (h : w.ownsRow B e 1 v n xs) (hb : Below B1 w w') (hw : w.heap.size ≤ B1) : w'.ownsRow B e 1 v n xs := by
  refine ⟨h.1, ?_⟩
  rcases h.2 with h1 | ⟨g, cap, cur, h1, h2, h3, h4⟩
  · exact Or.inl h1
  · exact Or.inr ⟨g, cap, cur, h1, h2, (hb.block g (Nat.lt_of_lt_of_le (row_lt h3) hw)).trans h3, h4⟩
theorem below_trans {B : Nat} {a b c : World} (h : Below B a b) (k : Below B b c) : Below B a c := ⟨k.os.trans h.os, k.tape.trans h.tape, k.output.trans h.output, Nat.le_trans h.size k.size, fun i hi => (k.block i hi).trans (h.block i hi)⟩

set_option maxRecDepth 100000 in
set_option maxHeartbeats 1000000 in
theorem apartL_any (B K L cap : Nat) (v : Nat → Value) (n : Nat → Nat) (f : Nat → List Value) (T : Nat → Prop) (w0 w : World) (hF : Fl w B K (.slice (some ⟨L, 0, none⟩) K cap) v n f) (hG : GrownT T w0 w) (hT : ∀ i, i < K → ∀ k, (v i).ownBlock = some k → w0.heap.size ≤ k ∨ T k) (hK : K ≤ 400000) (hK0 : 0 < K) (hn : ∀ k, k < K → n k ≤ 17592186044000) (hBw : B ≤ w.heap.size) :
    Calls Try.prog 31 #[.slice (some ⟨L, 0, none⟩) K cap] w fun e w' => e = .returned (.bool true) ∧ GrownT T w0 w' := by
  have HF := hide (And.intro hF hG)
  have HN := hide hn
  have HT := hide hT
  clear hT
  obtain ⟨b, hb⟩ : ∃ b, b = w.heap.size := ⟨_, rfl⟩
  have Hb := hide hb
  clear hF hG hn hb
  go_enter Try.func31, Try.ntmps31
  go_wp2
  rw [← Hb.out]
  go_loopg [4] K (fun q i wr => ∃ (j : Nat) (lsv : Value), q + j = K ∧ i = .int .i64 j ∧ wr.heap[b]? = some (.cells (bagC lsv).toArray 91 (0, 0)) ∧ wr.ownsRow b 27 1 lsv j ((List.range j).map v) ∧ Below b w wr ∧ b < wr.heap.size)
  case atStart =>
    have e : w.heap.size = b := Hb.out.symm
    refine ⟨0, .slice none 0 0, by omega, rfl, ?_, World.ownsRow_nil _ _ _ _, ?_, by simp; omega⟩
    · have := heap_alloc_new w (Obj.cells (bagC (.slice none 0 0)).toArray 91)
      rw [e] at this
      exact this
    · have := grown_below (World.grownBy_alloc w (Obj.cells (bagC (.slice none 0 0)).toArray 91) none)
      rw [e] at this
      exact this
  case round =>
    obtain ⟨j, lsv, hgj, rfl, hbag, hown, hbel, hbs⟩ := hrel
    by_cases hk : 0 < gk
    · have hj : j < K := by omega
      have hjK : (j : Int) < (K : Int) := by omega
      have hls := own_below HF.out.1.ls hbel (Nat.le_of_eq Hb.out.symm)
      have hcl : wr.cell? ⟨L, j, none⟩ = some (v j) := by rw [hls.cellAt j (by omega)]; simp [hj]
      obtain ⟨ao, c, hv⟩ := own_len (HF.out.1.row j hj)
      rw [hv] at hcl
      have hp := put_any b b lsv j ((List.range j).map v) ao (n j) c wr hbag hown (by omega) (by omega) (Nat.le_refl _)
      have HP := hide hp
      have HQ := hide (And.intro hbel hv)
      obtain ⟨nj, hnj⟩ : ∃ x, x = n j := ⟨_, rfl⟩
      rw [← hnj] at hcl
      have HNJ := hide hnj
      clear hbag hown hbel hls hv hp hnj
      go_wp2_with fail
      have hp := HP.out
      rw [← HNJ.out] at hp
      refine hp.mono ?_
      rintro e w' ⟨rfl, lsv', h1, h2, h3⟩
      have e2 : ((List.range j).map v) ++ [Value.slice ao nj c] = (List.range (j + 1)).map v := by rw [List.range_succ, List.map_append, HNJ.out, ← HQ.out.2]; rfl
      rw [e2] at h2
      have HR := hide (And.intro h1 (And.intro h2 (And.intro (below_trans HQ.out.1 h3) (Nat.lt_of_lt_of_le hbs h3.size))))
      clear hp h1 h2 h3 e2 HP HQ HNJ
      go_wp2
      go_roundg (gk - 1)
      case measure => omega
      case rel => exact ⟨j + 1, lsv', by omega, by go_num, HR.out.1, HR.out.2.1, HR.out.2.2.1, HR.out.2.2.2⟩
    · have hj : j = K := by omega
      have hjK : ¬ (j : Int) < (K : Int) := by omega
      rw [hj] at hown
      have hw : w.heap.size ≤ b := Nat.le_of_eq Hb.out.symm
      obtain ⟨L', cap', hl⟩ : ∃ g cap, lsv = .slice (some ⟨g, 0, none⟩) K cap := by
        rcases hown.2 with ⟨_, h0⟩ | ⟨g, cap, cur, rfl, _⟩
        · omega
        · exact ⟨_, _, rfl⟩
      subst hl
      obtain ⟨hF, hG⟩ := HF.out
      have hF2 : Fl wr B K (.slice (some ⟨L', 0, none⟩) K cap') v n f := ⟨ownsRow_le hown (by omega), fun k hk' => own_below (hF.row k hk') hbel hw, hF.apart⟩
      have hG2 : GrownT T w0 wr := hG.step (below_grown (by rw [Hb.out] at hbel; exact hbel)) (fun j e => by cases e)
      have hA := apart_any b B K L' cap' v n f T w0 wr hF2 ⟨hG2, hbag⟩ HT.out hK HN.out (by omega)
      have HA := hide hA
      clear hown hbag hbel hF hG hF2 hG2 hA HF hj
      go_wp2_with fail
      refine HA.out.mono ?_
      rintro e w' ⟨rfl, hg⟩
      have HG := hide hg
      clear hg
      go_wp2
      go_ret
      exact ⟨rfl, HG.out⟩
/-- A block of bytes, as an owned row. -/
theorem own_of_row {w : World} {B A n : Nat} {xs : List Value} (h : w.heap[A]? = some (.cells xs.toArray 33 (0, 0))) (hn : xs.length = n) (hB : B ≤ A) (hm : n ≤ maxLen) : w.ownsRow B 33 1 (.slice (some ⟨A, 0, none⟩) n n) n xs :=
  ⟨by simpa using hn, Or.inr ⟨A, n, xs.toArray, rfl, hB, h, Nat.le_refl _, hm, by simpa using hn, by rw [Nat.mul_one]; simp [← hn]⟩⟩
theorem own_keptT {T : Nat → Prop} {w w' : World} {B n : Nat} {e : TypeId} {v : Value} {xs : List Value} (h : w.ownsRow B e 1 v n xs) (hg : GrownT T w w') (hne : ∀ k, v.ownBlock = some k → ¬ T k) : w'.ownsRow B e 1 v n xs := by
  refine ⟨h.1, ?_⟩
  rcases h.2 with h1 | ⟨g, cap, cur, rfl, h2, h3, h4⟩
  · exact Or.inl h1
  · exact Or.inr ⟨g, cap, cur, rfl, h2, (hg.block g (row_lt h3) (hne g rfl)).trans h3, h4⟩
theorem grownT_after {T : Nat → Prop} {w0 w w' : World} (h : w0.grownBy w none) (hg : GrownT T w w') (hT : ∀ k, T k → w0.heap.size ≤ k) : w0.grownBy w' none :=
  ⟨hg.os.trans h.os, hg.tape.trans h.tape, hg.output.trans h.output, Nat.le_trans h.size hg.size, fun k hk _ => (hg.block k (Nat.lt_of_lt_of_le hk h.size) (fun t => by have := hT k t; omega)).trans (h.block k hk (by simp))⟩
theorem own_newer {w w1 : World} {B n m : Nat} {x y : Value} {xs ys : List Value} (hx : w.ownsRow B 33 1 x n xs) (hy : w1.ownsRow w.heap.size 33 1 y m ys) : x.ownBlock = none ∨ x.ownBlock ≠ y.ownBlock := by
  cases hb : x.ownBlock with
  | none => exact Or.inl rfl
  | some k =>
    right
    intro e
    have h1 := (hx.lt k hb).2
    have h2 := (hy.lt k e.symm).1
    omega
theorem apart_swap {x y : Value} (h : x.ownBlock = none ∨ x.ownBlock ≠ y.ownBlock) : y.ownBlock = none ∨ y.ownBlock ≠ x.ownBlock := by
  rcases h with h | h
  · cases hb : y.ownBlock with
    | none => exact Or.inl rfl
    | some k => right; rw [h]; simp
  · exact Or.inr (fun e => h e.symm)
/-- Rows, one behind the other, as the lists that ApartBytes is handed. -/
structure Rw (w : World) (B : Nat) (vs : List Value) : Prop where
  row : ∀ k, k < vs.length → ∃ n xs, w.ownsRow B 33 1 (vs.getD k undef) n xs ∧ n ≤ 17592186044000
  apart : ∀ i k, i < k → k < vs.length → (vs.getD i undef).ownBlock = none ∨ (vs.getD i undef).ownBlock ≠ (vs.getD k undef).ownBlock
theorem Rw.nil (w : World) (B : Nat) : Rw w B [] := ⟨fun k hk => by simp at hk, fun i k _ hk => by simp at hk⟩
theorem Rw.cons {w : World} {B n : Nat} {v : Value} {xs : List Value} {vs : List Value} (h : w.ownsRow B 33 1 v n xs) (hn : n ≤ 17592186044000) (ha : ∀ u ∈ vs, v.ownBlock = none ∨ v.ownBlock ≠ u.ownBlock) (hs : Rw w B vs) : Rw w B (v :: vs) := by
  refine ⟨fun k hk => ?_, fun i k hik hk => ?_⟩
  · cases k with
    | zero => exact ⟨n, xs, h, hn⟩
    | succ k => simpa using hs.row k (by simpa using hk)
  · cases k with
    | zero => omega
    | succ k =>
      have hk' : k < vs.length := by simpa using hk
      cases i with
      | zero =>
        have := ha (vs.getD k undef) (by simp [List.getD_eq_getElem?_getD, hk'])
        simpa using this
      | succ i => simpa using hs.apart i k (by omega) hk'
/-- ApartBytes of rows that lie apart. -/
theorem apartL_rows (B : Nat) (vs : List Value) (w : World) (hR : Rw w B vs) (hB : B ≤ w.heap.size) (hK : vs.length ≤ 400000) (hK0 : 0 < vs.length) :
    Calls Try.prog 31 #[.slice (some ⟨w.heap.size, 0, none⟩) vs.length vs.length] (w.alloc (.cells vs.toArray 27)) fun e w' => e = .returned (.bool true) ∧ GrownT (fun b => ∃ k, k < vs.length ∧ (vs.getD k undef).ownBlock = some b) w w' := by
  obtain ⟨n, hn⟩ : ∃ n : Nat → Nat, ∀ k, k < vs.length → ∃ xs, w.ownsRow B 33 1 (vs.getD k undef) (n k) xs ∧ n k ≤ 17592186044000 :=
    ⟨fun k => if h : k < vs.length then Classical.choose (hR.row k h) else 0, fun k hk => by simp only [hk, dif_pos]; exact Classical.choose_spec (hR.row k hk)⟩
  obtain ⟨f, hf⟩ : ∃ f : Nat → List Value, ∀ k, k < vs.length → w.ownsRow B 33 1 (vs.getD k undef) (n k) (f k) :=
    ⟨fun k => if h : k < vs.length then Classical.choose (hn k h) else [], fun k hk => by simp only [hk, dif_pos]; exact (Classical.choose_spec (hn k hk)).1⟩
  have hF : Fl (w.alloc (.cells vs.toArray 27)) B vs.length (.slice (some ⟨w.heap.size, 0, none⟩) vs.length vs.length) (fun k => vs.getD k undef) n f := by
    refine ⟨?_, fun k hk => (hf k hk).alloc _, fun i k hi hk hik => ?_⟩
    · have h := World.ownsRow_lit (base := B) (e := 27) (size := 1) w vs.toArray vs.length hB (by unfold maxLen; omega) (by simp)
      have e : (List.range vs.length).map (fun k => vs.getD k undef) = vs := by
        apply List.ext_getElem?
        intro k
        rw [List.getElem?_map]
        by_cases hk : k < vs.length
        · simp [hk, List.getD_eq_getElem?_getD]
        · simp [hk]
      rw [e]
      simpa using h
    · by_cases h : i < k
      · exact hR.apart i k h hk
      · exact apart_swap (hR.apart k i (by omega) hi)
  refine (apartL_any B vs.length w.heap.size vs.length _ n f (fun b => ∃ k, k < vs.length ∧ (vs.getD k undef).ownBlock = some b) w _ hF ((GrownT.refl _ w).step (World.grownBy_alloc w _ none) (fun j e => by cases e)) (fun i hi k e => Or.inr ⟨i, hi, e⟩) hK hK0 (fun k hk => by obtain ⟨_, _, h⟩ := hn k hk; exact h) (by simp; omega)).mono ?_
  rintro e w' ⟨rfl, h⟩
  exact ⟨rfl, h⟩
/-- The same, where the lists are new since w0. -/
theorem apartL_new (B K L cap : Nat) (v : Nat → Value) (n : Nat → Nat) (f : Nat → List Value) (w0 w : World) (hF : Fl w B K (.slice (some ⟨L, 0, none⟩) K cap) v n f) (hG : w0.grownBy w none) (hB : w0.heap.size ≤ B) (hK : K ≤ 400000) (hK0 : 0 < K) (hn : ∀ k, k < K → n k ≤ 17592186044000) (hBw : B ≤ w.heap.size) :
    Calls Try.prog 31 #[.slice (some ⟨L, 0, none⟩) K cap] w fun e w' => e = .returned (.bool true) ∧ w0.grownBy w' none := by
  refine (apartL_any B K L cap v n f (fun _ => False) w0 w hF ((GrownT.refl _ w0).step hG (fun j e => by cases e)) (fun i hi k e => Or.inl (Nat.le_trans hB ((hF.row i hi).lt k e).1)) hK hK0 hn hBw).mono ?_
  rintro e w' ⟨rfl, h⟩
  exact ⟨rfl, h.grown (fun k t => t.elim)⟩
end Go.Proofs.Ytbebblhnhpdpjaa.Al
