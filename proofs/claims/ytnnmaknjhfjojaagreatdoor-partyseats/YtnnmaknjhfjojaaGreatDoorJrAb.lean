/- Texts joined: Ci, Dc, Pn, Po, BtPop. -/
import Derived.Test.YtnnmaknjhfjojaaGreatDoorJrAa
/- Rows of spans; the contract of Blocks. -/
namespace Go.Proofs.YtnnmaknjhfjojaaGreatDoor
open Go.RowKit Cx
attribute [local go_sem ↓] Go.wp_at_zero Go.wp_at_succ

/-- Spans as cells, one behind the other. -/
def spC (l : List (Nat × Nat)) : List Value := l.flatMap fun p => [.int .i64 (p.1 : Int), .int .i64 (p.2 : Int)]
theorem spC_app (l m : List (Nat × Nat)) : spC (l ++ m) = spC l ++ spC m := by simp [spC]
theorem spC_len (l : List (Nat × Nat)) : (spC l).length = 2 * l.length := by
  induction l with
  | nil => rfl
  | cons p t ih => simp [spC] at ih ⊢; omega
theorem spC_get {l : List (Nat × Nat)} {i : Nat} {p : Nat × Nat} (h : l[i]? = some p) : (spC l)[i * 2]? = some (.int .i64 (p.1 : Int)) ∧ (spC l)[i * 2 + 1]? = some (.int .i64 (p.2 : Int)) := by
  induction l generalizing i with
  | nil => simp at h
  | cons q t ih =>
    cases i with
    | zero => simp at h; subst h; simp [spC]
    | succ k =>
      rw [List.getElem?_cons_succ] at h
      have h2 := ih h
      have e1 : spC (q :: t) = [.int .i64 (q.1 : Int), .int .i64 (q.2 : Int)] ++ spC t := by simp [spC]
      rw [e1, show (k + 1) * 2 = k * 2 + 2 by omega, List.getElem?_append_right (by simp), show k * 2 + 2 + 1 = k * 2 + 1 + 2 by omega, List.getElem?_append_right (by simp)]
      simpa using h2
theorem Tryz.info64 : (Tryz.prog.info? 64).map (fun i => (i.zero, i.size, i.bytes)) = some (some (.agg #[.int .i64 0, .int .i64 0]), 2, 16) := by kernel_rfl
theorem cell2_new (w : World) (a b : Value) (t : TypeId) : ∀ j u, [a, b][j]? = some u → (w.alloc (.cells #[a, b] t)).cell? ((⟨w.heap.size, 0, none⟩ : Addr).add j) = some u := by
  intro j u hu
  rw [Addr.add_lit, Nat.zero_add, cell_row (l := [a, b]) (heap_alloc_new w _)]; exact hu
theorem wpList_append_span {w : World} {ops : Array Oper} {rest : List Oper} {o : Oper} {a : Act} {Q : Exit → Act → World → Prop} (hgd : o.guard = none) (s x : Operand)
    (ho : o.op = .call { callee := .builtin .append, args := #[s, x], argTypes := #[33, 33] }) (base : Nat) (v : Value) (l : List (Nat × Nat)) (hs : a.eval s = v) (hown : w.ownsRow base 64 2 v l.length (spC l))
    (ad : Addr) (p : Nat × Nat) (hx : a.eval x = .slice (some ad) 1 1) (hat : ∀ j u, [Value.int .i64 (p.1 : Int), .int .i64 (p.2 : Int)][j]? = some u → w.cell? (ad.add j) = some u)
    (hlen : l.length ≤ 100000) (hbase : base ≤ w.heap.size)
    (h : ∀ v' w', w'.ownsRow base 64 2 v' (l ++ [p]).length (spC (l ++ [p])) → w.grownBy w' v.ownBlock → wpList Tryz.prog ops Q rest (a.put o.dst v') w') : wpList Tryz.prog ops Q (o :: rest) a w := by
  obtain ⟨i0, hi, hz0, hz1, hz2⟩ := info_parts Tryz.info64
  refine wpList_append_own _ hgd s x 33 ho base 64 i0 (.agg #[.int .i64 0, .int .i64 0]) 2 16 Tryz.underlying33 hi hz0 hz1 hz2 rfl (by decide) v l.length (spC l) hs hown ad 1 1 [.int .i64 (p.1 : Int), .int .i64 (p.2 : Int)] hx rfl hat (by simp [Value.oneCell']) (by unfold maxLen; omega) (by omega) hbase (fun v' w' h1 h2 _ => h v' w' ?_ h2)
  have e1 : spC l ++ [.int .i64 (p.1 : Int), .int .i64 (p.2 : Int)] = spC (l ++ [p]) := by rw [spC_app]; simp [spC]
  rw [e1] at h1
  simpa using h1
theorem span_form {w : World} {base n : Nat} {v : Value} {xs : List Value} (h : w.ownsRow base 64 2 v n xs) : ∃ ao cap, v = .slice ao n cap := by
  rcases h.2 with ⟨rfl, rfl⟩ | ⟨g, cap, cur, rfl, _⟩
  · exact ⟨none, 0, rfl⟩
  · exact ⟨_, cap, rfl⟩
theorem span_grown {w w' : World} {base n : Nat} {v : Value} {xs : List Value} (h : w.ownsRow base 64 2 v n xs) (hg : w.grownBy w' none) : w'.ownsRow base 64 2 v n xs := by
  obtain ⟨hl, h⟩ := h
  refine ⟨hl, ?_⟩
  rcases h with h | ⟨g, cap, cur, rfl, hb, hgc, hr⟩
  · exact Or.inl h
  · exact Or.inr ⟨g, cap, cur, rfl, hb, heap_kept hgc hg (by simp), hr⟩
theorem span_base {w : World} {base base' n : Nat} {v : Value} {xs : List Value} (h : w.ownsRow base 64 2 v n xs) (hb : base' ≤ base) : w.ownsRow base' 64 2 v n xs := by
  obtain ⟨hl, h⟩ := h
  refine ⟨hl, ?_⟩
  rcases h with h | ⟨g, cap, cur, rfl, hb', hr⟩
  · exact Or.inl h
  · exact Or.inr ⟨g, cap, cur, rfl, by omega, hr⟩

section
attribute [local go_sem ↓] wp_store61 wp_load61
attribute [local go_sem] blkOf_ptr offOf_ptr isPtr_ptr alloc_setRow
set_option maxRecDepth 100000 in
set_option maxHeartbeats 2000000 in
theorem blocks_ok (R W : Nat) (ao : Option Addr) (n cap : Nat) (L : List Int) (w : World) (hc : CbIn w ao n cap L) (ho : Ok R W L) :
    Calls Tryz.prog 47 #[cbV R W (.slice ao n cap)] w fun e w' => ∃ v, e = .returned (.tuple #[v, .int .i64 0]) ∧ w'.ownsRow w.heap.size 64 2 v (prg W L (R * W)).length (spC (prg W L (R * W))) ∧ w.grownBy w' none := by
  have C := hide (fun w' (hg : w.grownBy w' none) => check_any R W ao n cap L w' (hc.grown hg))
  rw [code_ok ho] at C
  have A := hide (fun w' (hg : w.grownBy w' none) => aislesOf_any R W ao n cap L w' (hc.grown hg) ho.2.2.2.1 ho.2.2.2.2)
  have S := hide (seatsOf_any R W (.slice ao n cap) ho.1 ho.2.1 ho.2.2.1 ho.2.2.2.1)
  have hW := ho.2.2.1
  have h7 := ho.2.2.2.1
  have hR := ho.2.1
  have B := hide (fun q w' => begins_any R W (.slice ao n cap) L q (by omega) (by omega) w')
  obtain ⟨N, hN⟩ : ∃ N, N = R * W := ⟨_, rfl⟩
  have hNN : (R : Int) * (W : Int) = (N : Int) := by rw [hN, Int.natCast_mul]
  have hN2 : N ≤ 64 * 16 := by rw [hN]; exact Nat.mul_le_mul (by omega) (by omega)
  rw [← hN]
  rw [hNN] at S
  obtain ⟨D, hD⟩ : ∃ D, D = arrC L := ⟨_, rfl⟩
  rw [← hD] at A B
  have hagg : aggOk (.agg D.toArray) = true := by rw [hD]; exact arrC_agg L
  have hDl : D.length = 17 := by rw [hD]; exact arrC_len L
  have HP := hide (And.intro (prg_succ W L) (And.intro (prg_len_le W L) (nx_spec (show 1 ≤ W by omega) L)))
  clear hc ho hN hNN hD
  unfold cbV at *
  go_enter Tryz.func47, Tryz.ntmps47
  go_wp2
  go_step3
  go_wp2_with fail
  refine (C.out _ (grown_alloc w _)).mono ?_
  rintro e w1 ⟨rfl, hw1⟩
  have hb1 := box_kept hw1
  have G1 := hide (And.intro (grown_trans (grown_alloc w _) hw1) hb1)
  obtain ⟨c0, c1, c2⟩ := box3 hb1
  clear hw1 hb1
  go_wp2_with fail
  refine (A.out _ G1.out.1).mono ?_
  rintro e w2 ⟨rfl, hw2⟩
  have hrk := zero61 w2 _ (show #[Value.bool false, .bool false, .bool false, .bool false, .bool false, .bool false, .bool false, .bool false, .bool false, .bool false, .bool false, .bool false, .bool false, .bool false, .bool false, .bool false, .bool false] = _ from by kernel_rfl)
  have hn := heap_alloc_new w2 (.cells D.toArray 125)
  have hb2 := heap_kept (heap_kept G1.out.2 hw2 (by simp)) (grown_alloc w2 (.cells D.toArray 125)) (by simp)
  have G2 := hide (And.intro (grown_trans (grown_trans G1.out.1 hw2) (grown_alloc w2 (.cells D.toArray 125))) (And.intro hb2 hn))
  have hgl : w.heap.size < w2.heap.size := by
    have h1 := row_lt (heap_kept G1.out.2 hw2 (by simp)); exact h1
  clear c0 c1 c2
  obtain ⟨c0, c1, c2⟩ := box3 hb2
  clear hw2 hn hb2 G1
  go_wp2_with fail
  go_step3
  go_wp2_with fail
  refine (S.out _).mono ?_
  rintro e w3 ⟨rfl, hw3⟩
  have G3 := hide (And.intro (grown_trans G2.out.1 hw3) (And.intro (heap_kept G2.out.2.1 hw3 (by simp)) (heap_kept G2.out.2.2 hw3 (by simp))))
  clear hw3 hrk c0 c1 c2 G2
  go_wp2
  generalize w2.heap.size = g at *
  go_loopg [6, 18] N (fun k v i wr => ∃ j : Nat, k + j = N ∧ i = .int .i64 (j : Int) ∧ wr.ownsRow (g + 1) 64 2 v (prg W L j).length (spC (prg W L j)) ∧ wr.heap[w.heap.size]? = some (.cells #[.int .i64 (R : Int), .int .i64 (W : Int), .slice ao n cap] 24) ∧ wr.heap[g]? = some (.cells D.toArray 125) ∧ w.grownBy wr none)
  case atStart => exact ⟨0, by omega, rfl, World.ownsRow_nil _ _ _ _, G3.out.2.1, G3.out.2.2, G3.out.1⟩
  case round =>
    obtain ⟨j, hkj, rfl, hown, hbx, har, hg⟩ := hrel
    obtain ⟨vo, vc, rfl⟩ := span_form hown
    by_cases hk : 0 < gk
    · have hj : j < N := by omega
      have hj2 : (j : Int) < (N : Int) := by omega
      obtain ⟨c0, c1, c2⟩ := box3 hbx
      have hrng := range_row har hDl
      have hok := hrng.1
      have hof := hrng.2
      have HB := hide (And.intro hown (And.intro hbx (And.intro har hg)))
      have hps := HP.out.1 j
      have hpl := HP.out.2.1 j
      have hnx := HP.out.2.2 j
      have HPS := hide (And.intro hps (And.intro hpl hnx))
      clear hown hbx har hg hrng hps hnx hpl
      have Bj := hide (B.out j)
      cases hbg : bg W L j with
      | false =>
        rw [hbg] at Bj
        have HS := hide HPS.out.1
        rw [hbg] at HS
        clear hbg HPS
        go_wp2_with fail
        refine (Bj.out _).mono ?_
        rintro e w4 ⟨rfl, hw4⟩
        have G4 := hide hw4
        clear hw4
        go_wp2
        go_roundg (gk - 1)
        case measure => omega
        case rel =>
          obtain ⟨hown, hbx, har, hg⟩ := HB.out
          have e1 := HS.out
          simp at e1
          refine ⟨j + 1, by omega, by go_num, ?_, heap_kept hbx G4.out (by simp), heap_kept har G4.out (by simp), grown_trans hg G4.out⟩
          rw [e1]; exact span_grown hown G4.out
      | true =>
        rw [hbg] at Bj
        have HS := hide HPS.out.1
        rw [hbg] at HS
        go_wp2_with fail
        refine (Bj.out _).mono ?_
        rintro e w4 ⟨rfl, hw4⟩
        have G4 := hide hw4
        clear hw4 c0 c1 c2 hok hof
        go_wp2
        have HX := hide HPS.out.2.2
        have hpl := HPS.out.2.1
        clear hbg HPS Bj
        generalize nx W L j = xn at *
        have hx1 := HX.out.1
        have hx2 := HX.out.2.1
        obtain ⟨K, rfl⟩ : ∃ K, K = gk := ⟨_, rfl⟩
        go_loopg [6, 8] (xn - 1) (fun k v6 i wi => ∃ c : Nat, 1 ≤ c ∧ k + c = xn ∧ v6 = .slice vo (prg W L j).length vc ∧ i = .int .i64 (c : Int) ∧ wr.grownBy wi none)
        case atStart => exact ⟨1, by omega, by omega, rfl, rfl, G4.out⟩
        case round =>
          obtain ⟨c, hc1, hkc, rfl, rfl, hgi⟩ := hrel
          obtain ⟨hown, hbx, har, hg⟩ := HB.out
          have hbx2 := heap_kept hbx hgi (by simp)
          have har2 := heap_kept har hgi (by simp)
          obtain ⟨c0, c1, c2⟩ := box3 hbx2
          have hrng := range_row har2 hDl
          have hok := hrng.1
          have hof := hrng.2
          have hcW : (c : Int) ≤ (W : Int) := by omega
          have Bc := hide (B.out (j + c))
          have e1 : ((j + c : Nat) : Int) = (j : Int) + (c : Int) := by omega
          rw [e1] at Bc
          have HI := hide (And.intro hbx2 (And.intro har2 (And.intro (grown_trans hg hgi) (And.intro hgi (span_grown hown hgi)))))
          clear hown hbx har hg hbx2 har2 hrng e1 hgi
          by_cases hcx : c = xn
          · subst hcx
            rw [HX.out.2.2.1] at Bc
            go_wp2_with fail
            refine (Bc.out _).mono ?_
            rintro e w5 ⟨rfl, hw5⟩
            have G5 := hide hw5
            clear hw5 hok hof c0 c1 c2
            go_wp2_with (at_builtin; refine wpList_append_span rfl (.tmp 38) (.tmp 42) rfl (g + 1) (.slice vo (prg W L j).length vc) (prg W L j) rfl (span_grown (span_grown HI.out.2.2.2.2 G5.out) (grown_alloc _ _)) ⟨_, 0, none⟩ (j, c) rfl (cell2_new _ _ _ _) (by omega) ?_ ?_)
            · have h1 := row_lt (heap_kept HI.out.2.1 G5.out (by simp))
              simp; omega
            · intro v' w6 hown6 hg6
              have hne : ∀ k, k < g + 1 → (Value.slice vo (prg W L j).length vc).ownBlock ≠ some k := fun k hk e => by
                have := (HI.out.2.2.2.2.lt k e).1; omega
              have HK : Hid (_ ∧ _ ∧ _ ∧ _) := And.intro hown6 (And.intro (heap_kept (heap_kept (heap_kept HI.out.1 G5.out (by simp)) (grown_alloc _ _) (by simp)) hg6 (fun e => hne _ (by omega) e.symm)) (And.intro (heap_kept (heap_kept (heap_kept HI.out.2.1 G5.out (by simp)) (grown_alloc _ _) (by simp)) hg6 (fun e => hne _ (by omega) e.symm)) (grown_then (grown_trans (grown_trans HI.out.2.2.1 G5.out) (grown_alloc _ _)) hg6 (fun k e => Or.inl (by have := (HI.out.2.2.2.2.lt k e).1; omega)))))
              clear hown6 hg6 hne
              go_wp2
              go_roundg (K - 1)
              case measure => omega
              case rel =>
                obtain ⟨h1, h2, h3, h4⟩ := HK.out
                have e1 := HS.out
                simp at e1
                refine ⟨j + 1, by omega, by go_num, ?_, h2, h3, h4⟩
                rw [e1, List.length_append]; exact h1
          · rw [HX.out.2.2.2 c hc1 (by omega)] at Bc
            go_wp2_with fail
            refine (Bc.out _).mono ?_
            rintro e w5 ⟨rfl, hw5⟩
            have G5 := hide hw5
            clear hw5 hok hof c0 c1 c2
            go_wp2
            go_roundg (gk - 1)
            case measure => omega
            case rel => exact ⟨c + 1, by omega, by omega, rfl, by go_num, grown_trans HI.out.2.2.2.1 G5.out⟩
    · have hj : j = N := by omega
      subst hj
      have HB := hide (And.intro hown hg)
      clear hown hbx har hg
      go_wp2
      rw [Exit.noGoto_ret]
      go_ret2
      exact ⟨_, rfl, span_base HB.out.1 (by omega), HB.out.2⟩
end
set_option maxHeartbeats 1000000 in
theorem blocks_bad (R W : Int) (ao : Option Addr) (n cap : Nat) (L : List Int) (w : World) (hc : CbIn w ao n cap L) (ho : ¬ Ok R W L) :
    Calls Tryz.prog 47 #[cbV R W (.slice ao n cap)] w fun e w' => e = .returned (.tuple #[.slice none 0 0, .int .i64 2]) ∧ w.grownBy w' none := by
  have C := hide (fun w' (hg : w.grownBy w' none) => check_any R W ao n cap L w' (hc.grown hg))
  rw [code_no ho] at C
  clear hc ho
  unfold cbV at *
  go_enter Tryz.func47, Tryz.ntmps47
  go_wp2
  go_step3
  go_wp2_with fail
  refine (C.out _ (grown_alloc w _)).mono ?_
  rintro e w1 ⟨rfl, hw1⟩
  have G1 := hide (grown_trans (grown_alloc w _) hw1)
  clear hw1
  go_wp2
  rw [Exit.noGoto_ret]
  go_ret2
  exact ⟨rfl, G1.out⟩
end Go.Proofs.YtnnmaknjhfjojaaGreatDoor
/- The document's cabin: Text, Parse; copies of a cabin. -/
namespace Go.Proofs.YtnnmaknjhfjojaaGreatDoor
open Go.RowKit Cx
attribute [local go_sem ↓] Go.wp_at_zero Go.wp_at_succ

end Go.Proofs.YtnnmaknjhfjojaaGreatDoor
/- Runs by numbers alone: the document's gathering seat by seat, and what the program gathers block by block. -/
namespace Go.Proofs.YtnnmaknjhfjojaaGreatDoor.Pn
open Cx

/-- Does a run begin with the seat i (which is free), where f says what is free and b where blocks begin? -/
def sta (f b : Nat → Bool) (i : Nat) : Bool := f i && !(decide (0 < i) && f (i - 1) && !b i)
/-- How many runs begin below i. -/
def st (f b : Nat → Bool) : Nat → Nat
  | 0 => 0
  | i + 1 => st f b i + (if sta f b i then 1 else 0)
/-- The document's runs of the seats below i. -/
def dr (f b : Nat → Bool) : Nat → List (Nat × Nat)
  | 0 => []
  | i + 1 => if f i then (if sta f b i then dr f b i ++ [(i, 1)] else bump (dr f b i)) else dr f b i

theorem st_mono {f b : Nat → Bool} {i j : Nat} (h : i ≤ j) : st f b i ≤ st f b j := by
  induction j with
  | zero => rw [Nat.le_zero.1 h]; exact Nat.le_refl _
  | succ j ih =>
    rcases Nat.lt_or_ge i (j + 1) with h1 | h1
    · exact Nat.le_trans (ih (by omega)) (Nat.le_add_right _ _)
    · rw [show i = j + 1 by omega]; exact Nat.le_refl _

/-- What the runs are: the k-th is the seats that are free with k + 1 beginnings up to them. -/
structure RI (f b : Nat → Bool) (i : Nat) (l : List (Nat × Nat)) : Prop where
  len : l.length = st f b i
  is : ∀ k p, l[k]? = some p → 1 ≤ p.2 ∧ p.1 + p.2 ≤ i ∧ ∀ j, (p.1 ≤ j ∧ j < p.1 + p.2) ↔ (j < i ∧ f j = true ∧ st f b (j + 1) = k + 1)

theorem RI.zero (f b : Nat → Bool) : RI f b 0 [] := ⟨rfl, fun k p h => by simp at h⟩
theorem st_pos {f b : Nat → Bool} {j : Nat} (h : f j = true) : 1 ≤ st f b (j + 1) := by
  induction j with
  | zero => simp [st, sta, h]
  | succ j ih =>
    unfold st
    by_cases hs : sta f b (j + 1) = true
    · rw [if_pos hs]; omega
    · unfold sta at hs
      rw [h] at hs
      simp at hs
      have := ih hs.1
      omega
theorem RI.gap {f b : Nat → Bool} {i : Nat} {l : List (Nat × Nat)} (h : RI f b i l) (hf : f i = false) : RI f b (i + 1) l := by
  have e : st f b (i + 1) = st f b i := by
    show st f b i + _ = _
    rw [if_neg (by simp [sta, hf])]; omega
  refine ⟨by rw [h.len, e], fun k p hk => ?_⟩
  obtain ⟨h1, h2, h3⟩ := h.is k p hk
  refine ⟨h1, by omega, fun j => ?_⟩
  rw [h3 j]
  constructor
  · rintro ⟨a, c, d⟩; exact ⟨by omega, c, d⟩
  · rintro ⟨a, c, d⟩
    refine ⟨?_, c, d⟩
    rcases Nat.lt_or_ge j i with hj | hj
    · exact hj
    · rw [show j = i by omega, hf] at c; cases c
theorem RI.new {f b : Nat → Bool} {i : Nat} {l : List (Nat × Nat)} (h : RI f b i l) (hs : sta f b i = true) : RI f b (i + 1) (l ++ [(i, 1)]) := by
  have e : st f b (i + 1) = st f b i + 1 := by
    show st f b i + _ = _
    rw [if_pos hs]
  have hf : f i = true := by unfold sta at hs; simp at hs; exact hs.1
  refine ⟨by rw [List.length_append, h.len, e]; rfl, fun k p hk => ?_⟩
  rcases Nat.lt_or_ge k l.length with hl | hl
  · rw [List.getElem?_append_left hl] at hk
    obtain ⟨h1, h2, h3⟩ := h.is k p hk
    refine ⟨h1, by omega, fun j => ?_⟩
    rw [h3 j]
    constructor
    · rintro ⟨a, c, d⟩; exact ⟨by omega, c, d⟩
    · rintro ⟨a, c, d⟩
      refine ⟨?_, c, d⟩
      rcases Nat.lt_or_ge j i with hj | hj
      · exact hj
      · rw [show j = i by omega, e] at d
        have := h.len; omega
  · rw [List.getElem?_append_right hl] at hk
    have hk0 : k - l.length = 0 := by
      rcases Nat.eq_zero_or_pos (k - l.length) with h0 | h0
      · exact h0
      · rw [List.getElem?_eq_none (by simp; omega)] at hk; cases hk
    rw [hk0] at hk
    simp at hk
    subst hk
    refine ⟨Nat.le_refl _, Nat.le_refl _, fun j => ?_⟩
    have hlen := h.len
    constructor
    · rintro ⟨a, c⟩
      simp only at a c
      obtain rfl : j = i := by omega
      exact ⟨by omega, hf, by omega⟩
    · rintro ⟨a, c, d⟩
      simp only
      rcases Nat.lt_or_ge j i with hj | hj
      · have := st_mono (f := f) (b := b) (show j + 1 ≤ i by omega); omega
      · omega
theorem RI.bump {f b : Nat → Bool} {i : Nat} {l : List (Nat × Nat)} (h : RI f b i l) (hf : f i = true) (hs : sta f b i = false) : RI f b (i + 1) (bump l) := by
  have e : st f b (i + 1) = st f b i := by
    show st f b i + _ = _
    rw [if_neg (by simp [hs])]; omega
  have hq : 0 < i ∧ f (i - 1) = true := by unfold sta at hs; rw [hf] at hs; simp at hs; exact ⟨by omega, hs.1.2⟩
  have hp := st_pos (b := b) hq.2
  rw [show i - 1 + 1 = i by omega] at hp
  obtain ⟨xs, q, rfl⟩ : ∃ xs q, l = xs ++ [q] := by
    rcases List.eq_nil_or_concat l with e | ⟨xs, a, e⟩
    · have := h.len; rw [e] at this; simp at this; omega
    · exact ⟨xs, a, by rw [e, List.concat_eq_append]⟩
  have hlen := h.len
  simp at hlen
  rw [bump_snoc]
  refine ⟨by rw [e, ← h.len]; simp, fun k p hk => ?_⟩
  rcases Nat.lt_or_ge k xs.length with hl | hl
  · rw [List.getElem?_append_left hl] at hk
    obtain ⟨h1, h2, h3⟩ := h.is k p (by rw [List.getElem?_append_left hl]; exact hk)
    refine ⟨h1, by omega, fun j => ?_⟩
    rw [h3 j]
    constructor
    · rintro ⟨a, c, d⟩; exact ⟨by omega, c, d⟩
    · rintro ⟨a, c, d⟩
      refine ⟨?_, c, d⟩
      rcases Nat.lt_or_ge j i with hj | hj
      · exact hj
      · rw [show j = i by omega, e] at d
        omega
  · rw [List.getElem?_append_right hl] at hk
    have hk0 : k - xs.length = 0 := by
      rcases Nat.eq_zero_or_pos (k - xs.length) with h0 | h0
      · exact h0
      · rw [List.getElem?_eq_none (by simp; omega)] at hk; cases hk
    rw [hk0] at hk
    simp at hk
    subst hk
    obtain rfl : k = xs.length := by omega
    obtain ⟨h1, h2, h3⟩ := h.is xs.length q (by simp)
    have h4 := (h3 (i - 1)).2 ⟨by omega, hq.2, by rw [show i - 1 + 1 = i by omega]; omega⟩
    refine ⟨by simp only; omega, by simp only; omega, fun j => ?_⟩
    simp only
    constructor
    · rintro ⟨a, c⟩
      rcases Nat.lt_or_ge j i with hj | hj
      · obtain ⟨g1, g2, g3⟩ := (h3 j).1 ⟨a, by omega⟩
        exact ⟨by omega, g2, g3⟩
      · obtain rfl : j = i := by omega
        exact ⟨by omega, hf, by omega⟩
    · rintro ⟨a, c, d⟩
      rcases Nat.lt_or_ge j i with hj | hj
      · have := (h3 j).2 ⟨hj, c, d⟩
        omega
      · omega
theorem dr_is (f b : Nat → Bool) : ∀ i, RI f b i (dr f b i)
  | 0 => RI.zero f b
  | i + 1 => by
    have ih := dr_is f b i
    unfold dr
    by_cases hf : f i = true
    · rw [if_pos hf]
      by_cases hs : sta f b i = true
      · rw [if_pos hs]; exact ih.new hs
      · rw [if_neg hs]; exact ih.bump hf (by simpa using hs)
    · rw [if_neg hf]; exact ih.gap (by simpa using hf)

/-- Seats that are taken add nothing. -/
theorem dr_gap {f b : Nat → Bool} {i e : Nat} (he : i ≤ e) (h : ∀ j, i ≤ j → j < e → f j = false) : dr f b e = dr f b i := by
  induction e with
  | zero => rw [Nat.le_zero.1 he]
  | succ e ih =>
    rcases Nat.lt_or_ge i (e + 1) with h1 | h1
    · have hf := h e (by omega) (by omega)
      show (if f e then (if sta f b e then dr f b e ++ [(e, 1)] else bump (dr f b e)) else dr f b e) = _
      rw [if_neg (by simp [hf])]
      exact ih (by omega) (fun j a c => h j a (by omega))
    · rw [show i = e + 1 by omega]
/-- Free seats of one block add one run. -/
theorem dr_run {f b : Nat → Bool} {s : Nat} : ∀ c, (∀ j, s ≤ j → j < s + (c + 1) → f j = true) → (∀ j, s < j → j < s + (c + 1) → b j = false) → (s = 0 ∨ f (s - 1) = false ∨ b s = true) → dr f b (s + (c + 1)) = dr f b s ++ [(s, c + 1)]
  | 0, h1, h2, h3 => by
    have hf := h1 s (by omega) (by omega)
    have hs : sta f b s = true := by
      unfold sta
      rw [hf]
      rcases h3 with rfl | h | h
      · rfl
      · simp [h]
      · simp [h]
    show (if f s then (if sta f b s then dr f b s ++ [(s, 1)] else bump (dr f b s)) else dr f b s) = _
    rw [if_pos hf, if_pos hs]
  | c + 1, h1, h2, h3 => by
    have ih := dr_run c (fun j a d => h1 j a (by omega)) (fun j a d => h2 j a (by omega)) h3
    have hf := h1 (s + (c + 1)) (by omega) (by omega)
    have hf' := h1 (s + (c + 1) - 1) (by omega) (by omega)
    have hs : sta f b (s + (c + 1)) = false := by
      unfold sta
      rw [hf, hf', h2 (s + (c + 1)) (by omega) (by omega)]
      simp
      omega
    show (if f (s + (c + 1)) then (if sta f b (s + (c + 1)) then dr f b (s + (c + 1)) ++ [(s + (c + 1), 1)] else bump (dr f b (s + (c + 1)))) else dr f b (s + (c + 1))) = _
    rw [if_pos hf, if_neg (by simp [hs]), ih, bump_snoc]
theorem dr_pos {f b : Nat → Bool} {n : Nat} {p : Nat × Nat} (h : p ∈ dr f b n) : 1 ≤ p.2 ∧ p.1 + p.2 ≤ n := by
  obtain ⟨k, hk⟩ := List.mem_iff_getElem?.1 h
  have := (dr_is f b n).is k p hk
  exact ⟨this.1, this.2.1⟩
theorem dr_len (f b : Nat → Bool) : ∀ n, (dr f b n).length ≤ n
  | 0 => by simp [dr]
  | n + 1 => by
    have ih := dr_len f b n
    unfold dr
    split
    · split
      · simp; omega
      · unfold bump; rw [List.length_modify]; omega
    · omega
/-- The runs rise, each behind the end of the one ahead. -/
theorem dr_rise {f b : Nat → Bool} {n k k' : Nat} {p q : Nat × Nat} (h : (dr f b n)[k]? = some p) (h' : (dr f b n)[k']? = some q) (hk : k < k') : p.1 + p.2 ≤ q.1 := by
  have R := dr_is f b n
  obtain ⟨a1, a2, a3⟩ := R.is k p h
  obtain ⟨b1, b2, b3⟩ := R.is k' q h'
  obtain ⟨c1, c2, c3⟩ := (a3 (p.1 + p.2 - 1)).1 ⟨by omega, by omega⟩
  obtain ⟨d1, d2, d3⟩ := (b3 q.1).1 ⟨by omega, by omega⟩
  rcases Nat.lt_or_ge (p.1 + p.2 - 1) q.1 with g | g
  · omega
  · have := st_mono (f := f) (b := b) (show q.1 + 1 ≤ p.1 + p.2 - 1 + 1 by omega)
    omega
/-- Each free seat lies in a run. -/
theorem dr_all {f b : Nat → Bool} {n j : Nat} (hj : j < n) (hf : f j = true) : ∃ k p, (dr f b n)[k]? = some p ∧ p.1 ≤ j ∧ j < p.1 + p.2 ∧ st f b (j + 1) = k + 1 := by
  have R := dr_is f b n
  have hp := st_pos (b := b) hf
  have hl := st_mono (f := f) (b := b) (show j + 1 ≤ n by omega)
  have hlen := R.len
  have hk : st f b (j + 1) - 1 < (dr f b n).length := by omega
  obtain ⟨g1, g2, g3⟩ := R.is _ _ (List.getElem?_eq_getElem hk)
  have := (g3 j).2 ⟨hj, hf, by omega⟩
  exact ⟨_, _, List.getElem?_eq_getElem hk, this.1, this.2, by omega⟩
/-- How many seats are free below n. -/
def fc (f : Nat → Bool) (n : Nat) : Nat := ((List.range n).filter f).length
theorem fc_succ (f : Nat → Bool) (n : Nat) : fc f (n + 1) = fc f n + (if f n then 1 else 0) := by
  unfold fc
  rw [List.range_succ, List.filter_append]
  by_cases h : f n = true <;> simp [h]
theorem dr_sum (f b : Nat → Bool) : ∀ n, ((dr f b n).map Prod.snd).sum = fc f n
  | 0 => by simp [dr, fc]
  | n + 1 => by
    have ih := dr_sum f b n
    rw [fc_succ]
    have R := dr_is f b n
    unfold dr
    by_cases hf : f n = true
    · rw [if_pos hf, if_pos hf]
      by_cases hs : sta f b n = true
      · rw [if_pos hs]; simp [ih]
      · rw [if_neg hs]
        have hq : 0 < n ∧ f (n - 1) = true := by unfold sta at hs; rw [hf] at hs; simp at hs; exact ⟨by omega, hs.1.2⟩
        have hp := st_pos (b := b) hq.2
        rw [show n - 1 + 1 = n by omega] at hp
        obtain ⟨xs, q, e⟩ : ∃ xs q, dr f b n = xs ++ [q] := by
          rcases List.eq_nil_or_concat (dr f b n) with e | ⟨xs, a, e⟩
          · have := R.len; rw [e] at this; simp at this; omega
          · exact ⟨xs, a, by rw [e, List.concat_eq_append]⟩
        rw [e, bump_snoc]
        rw [e] at ih
        simp at ih ⊢
        omega
    · rw [if_neg hf, if_neg hf]; omega
end Go.Proofs.YtnnmaknjhfjojaaGreatDoor.Pn
/- Which runs a party gets, by numbers alone: the pieces in the order in which they are taken, the seats in their order, and how many runs it must be. -/
namespace Go.Proofs.YtnnmaknjhfjojaaGreatDoor.Pn
open Cx

/-- The run at the place i is the one that is taken next: of those with n seats the shortest, else the longest; of like ones the first. -/
def Bs (P : List (Nat × Nat)) (n i : Nat) : Prop :=
  ∃ r, P[i]? = some r ∧ 0 < r.2 ∧ ((n ≤ r.2 ∧ ∀ j q, P[j]? = some q → n ≤ q.2 → r.2 < q.2 ∨ (r.2 = q.2 ∧ i ≤ j)) ∨ (∀ j q, P[j]? = some q → q.2 < n ∧ (q.2 < r.2 ∨ (q.2 = r.2 ∧ i ≤ j))))
theorem Bs.uniq {P : List (Nat × Nat)} {n i j : Nat} (h : Bs P n i) (h' : Bs P n j) : i = j := by
  obtain ⟨r, h1, _, h2⟩ := h
  obtain ⟨q, g1, _, g2⟩ := h'
  rcases h2 with ⟨a1, a2⟩ | a <;> rcases g2 with ⟨b1, b2⟩ | b
  · have := a2 j q g1 b1; have := b2 i r h1 a1; omega
  · have := b i r h1; omega
  · have := a j q g1; omega
  · have := a j q g1; have := b i r h1; omega
/-- The pieces that n people get of the runs P: the place of a run, and how many of its seats. -/
inductive Gr : List (Nat × Nat) → Nat → List (Nat × Nat) → Prop
  | done (P : List (Nat × Nat)) : Gr P 0 []
  | step (P : List (Nat × Nat)) (n i : Nat) (r : Nat × Nat) (ps : List (Nat × Nat)) : 0 < n → P[i]? = some r → Bs P n i → Gr (P.set i (0, 0)) (n - min r.2 n) ps → Gr P n ((i, min r.2 n) :: ps)
theorem Gr.uniq {P : List (Nat × Nat)} {n : Nat} {ps : List (Nat × Nat)} (h : Gr P n ps) : ∀ {qs}, Gr P n qs → ps = qs := by
  induction h with
  | done P =>
    intro qs h
    cases h with
    | done => rfl
    | step _ _ i r ps h0 => omega
  | step P n i r ps h0 h1 h2 h3 ih =>
    intro qs h
    cases h with
    | done => omega
    | step _ _ j q qs k0 k1 k2 k3 =>
      obtain rfl := h2.uniq k2
      rw [h1] at k1
      obtain rfl := Option.some.inj k1
      rw [ih k3]
/-- What is left to do, told from where it began. -/
def GrS (P0 : List (Nat × Nat)) (n0 : Nat) (P : List (Nat × Nat)) (n : Nat) (ps : List (Nat × Nat)) : Prop := ∀ qs, Gr P n qs → Gr P0 n0 (ps ++ qs)
theorem GrS.start (P : List (Nat × Nat)) (n : Nat) : GrS P n P n [] := fun _ h => h
theorem GrS.step {P0 P : List (Nat × Nat)} {n0 n i : Nat} {r : Nat × Nat} {ps : List (Nat × Nat)} (h : GrS P0 n0 P n ps) (h0 : 0 < n) (h1 : P[i]? = some r) (h2 : Bs P n i) : GrS P0 n0 (P.set i (0, 0)) (n - min r.2 n) (ps ++ [(i, min r.2 n)]) := by
  intro qs hq
  have := h _ (Gr.step P n i r qs h0 h1 h2 hq)
  simpa using this
theorem GrS.fin {P0 P : List (Nat × Nat)} {n0 : Nat} {ps : List (Nat × Nat)} (h : GrS P0 n0 P 0 ps) : Gr P0 n0 ps := by
  have := h [] (Gr.done P)
  simpa using this
theorem Gr.sum {P : List (Nat × Nat)} {n : Nat} {ps : List (Nat × Nat)} (h : Gr P n ps) : (ps.map Prod.snd).sum = n := by
  induction h with
  | done P => rfl
  | step P n i r ps h0 h1 h2 h3 ih => simp [ih]; omega
theorem Gr.mem {P : List (Nat × Nat)} {n : Nat} {ps : List (Nat × Nat)} (h : Gr P n ps) : ∀ p ∈ ps, ∃ r, P[p.1]? = some r ∧ 1 ≤ p.2 ∧ p.2 ≤ r.2 := by
  induction h with
  | done P => intro p hp; cases hp
  | step P n i r ps h0 h1 h2 h3 ih =>
    intro p hp
    rcases List.mem_cons.1 hp with rfl | hp
    · obtain ⟨q, g1, g2, _⟩ := h2
      rw [h1] at g1
      obtain rfl := Option.some.inj g1
      exact ⟨r, h1, by simp only; omega, by simp only; omega⟩
    · obtain ⟨q, g1, g2, g3⟩ := ih p hp
      rw [List.getElem?_set] at g1
      split at g1
      · split at g1
        · obtain rfl := Option.some.inj g1; simp at g3; omega
        · cases g1
      · exact ⟨q, g1, g2, g3⟩
theorem Gr.nodup {P : List (Nat × Nat)} {n : Nat} {ps : List (Nat × Nat)} (h : Gr P n ps) : (ps.map Prod.fst).Nodup := by
  induction h with
  | done P => exact List.nodup_nil
  | step P n i r ps h0 h1 h2 h3 ih =>
    rw [List.map_cons, List.nodup_cons]
    refine ⟨fun hm => ?_, ih⟩
    obtain ⟨p, hp, rfl⟩ := List.mem_map.1 hm
    obtain ⟨q, g1, g2, g3⟩ := h3.mem p hp
    rw [List.getElem?_set] at g1
    simp at g1
    obtain ⟨_, rfl⟩ := g1
    simp at g3; omega
/-- How many seats of the run at the place i are taken. -/
def tk (ps : List (Nat × Nat)) (i : Nat) : Nat := (ps.lookup i).getD 0
theorem tk_mem {ps : List (Nat × Nat)} (hn : (ps.map Prod.fst).Nodup) {p : Nat × Nat} (h : p ∈ ps) : tk ps p.1 = p.2 := by
  induction ps with
  | nil => cases h
  | cons q t ih =>
    obtain ⟨q1, q2⟩ := q
    rw [List.map_cons, List.nodup_cons] at hn
    unfold tk
    rw [List.lookup_cons]
    rcases List.mem_cons.1 h with rfl | h
    · simp
    · have hne : p.1 ≠ q1 := fun e => hn.1 (List.mem_map.2 ⟨p, h, e⟩)
      have : (p.1 == q1) = false := by simpa using hne
      rw [this]
      exact ih hn.2 h
theorem tk_pos {ps : List (Nat × Nat)} {i : Nat} (h : 0 < tk ps i) : (i, tk ps i) ∈ ps := by
  induction ps with
  | nil => simp [tk] at h
  | cons q t ih =>
    obtain ⟨q1, q2⟩ := q
    unfold tk at h ⊢
    rw [List.lookup_cons] at h ⊢
    by_cases he : i = q1
    · subst he; simp
    · have : (i == q1) = false := by simpa using he
      rw [this] at h ⊢
      exact List.mem_cons_of_mem _ (ih h)
theorem tk_le {P : List (Nat × Nat)} {n : Nat} {ps : List (Nat × Nat)} (h : Gr P n ps) (i : Nat) : tk ps i ≤ (P.getD i (0, 0)).2 := by
  rcases Nat.eq_zero_or_pos (tk ps i) with h0 | h0
  · omega
  · obtain ⟨r, h1, h2, h3⟩ := h.mem _ (tk_pos h0)
    simp only at h1 h3
    rw [List.getD_eq_getElem?_getD, h1]
    exact h3
/-- The seats as they are taken. -/
def sts (P ps : List (Nat × Nat)) : List Nat := ps.flatMap fun p => List.range' (P.getD p.1 (0, 0)).1 p.2
theorem sts_snoc (P ps : List (Nat × Nat)) (p : Nat × Nat) : sts P (ps ++ [p]) = sts P ps ++ List.range' (P.getD p.1 (0, 0)).1 p.2 := by
  unfold sts; rw [List.flatMap_append]; simp
/-- The seats in their order, of the first i runs. -/
def srt (P ps : List (Nat × Nat)) : Nat → List Nat
  | 0 => []
  | i + 1 => srt P ps i ++ List.range' (P.getD i (0, 0)).1 (tk ps i)
theorem mem_range' {a n x : Nat} : x ∈ List.range' a n ↔ a ≤ x ∧ x < a + n := by
  rw [List.mem_range'_1]
theorem mem_srt {P ps : List (Nat × Nat)} {x : Nat} : ∀ {i : Nat}, x ∈ srt P ps i ↔ ∃ j, j < i ∧ (P.getD j (0, 0)).1 ≤ x ∧ x < (P.getD j (0, 0)).1 + tk ps j
  | 0 => by simp [srt]
  | i + 1 => by
    unfold srt
    rw [List.mem_append, mem_srt, mem_range']
    constructor
    · rintro (⟨j, h1, h2⟩ | h)
      · exact ⟨j, by omega, h2⟩
      · exact ⟨i, by omega, h⟩
    · rintro ⟨j, h1, h2⟩
      rcases Nat.lt_or_ge j i with h | h
      · exact Or.inl ⟨j, h, h2⟩
      · rw [show j = i by omega] at h2; exact Or.inr h2
/-- Runs that rise, each behind the end of the one ahead. -/
def Ris (P : List (Nat × Nat)) : Prop := ∀ (i j : Nat) (p q : Nat × Nat), P[i]? = some p → P[j]? = some q → i < j → p.1 + p.2 ≤ q.1
theorem Ris.getD {P : List (Nat × Nat)} (h : Ris P) {i j : Nat} (hj : j < P.length) (hi : i < j) : (P.getD i (0, 0)).1 + (P.getD i (0, 0)).2 ≤ (P.getD j (0, 0)).1 := by
  rw [List.getD_eq_getElem?_getD, List.getD_eq_getElem?_getD, List.getElem?_eq_getElem hj, List.getElem?_eq_getElem (show i < P.length by omega)]
  exact h i j _ _ (List.getElem?_eq_getElem (by omega)) (List.getElem?_eq_getElem hj) hi
theorem range'_rise (a : Nat) : ∀ n, (List.range' a n).Pairwise (· < ·) := fun n => List.pairwise_lt_range'
theorem srt_rise {P ps : List (Nat × Nat)} {n : Nat} (hr : Ris P) (hg : Gr P n ps) : ∀ i, i ≤ P.length → (srt P ps i).Pairwise (· < ·)
  | 0, _ => List.Pairwise.nil
  | i + 1, hi => by
    unfold srt
    rw [List.pairwise_append]
    refine ⟨srt_rise hr hg i (by omega), range'_rise _ _, fun x hx y hy => ?_⟩
    obtain ⟨j, h1, h2, h3⟩ := mem_srt.1 hx
    have h4 := mem_range'.1 hy
    have h5 := hr.getD (show i < P.length by omega) h1
    have h6 := tk_le hg j
    omega
theorem rise_uniq : ∀ {a b : List Nat}, a.Pairwise (· < ·) → b.Pairwise (· < ·) → (∀ x, x ∈ a ↔ x ∈ b) → a = b
  | [], [], _, _, _ => rfl
  | [], y :: t, _, _, h => by have := (h y).2 (List.mem_cons_self); cases this
  | x :: s, [], _, _, h => by have := (h x).1 (List.mem_cons_self); cases this
  | x :: s, y :: t, ha, hb, h => by
    rw [List.pairwise_cons] at ha hb
    have h1 : x = y := by
      have a1 := (h x).1 List.mem_cons_self
      have a2 := (h y).2 List.mem_cons_self
      rcases List.mem_cons.1 a1 with e | e
      · exact e
      · rcases List.mem_cons.1 a2 with e' | e'
        · exact e'.symm
        · have := ha.1 _ e'; have := hb.1 _ e; omega
    subst h1
    congr 1
    refine rise_uniq ha.2 hb.2 fun z => ?_
    constructor
    · intro hz
      rcases List.mem_cons.1 ((h z).1 (List.mem_cons_of_mem _ hz)) with e | e
      · have := ha.1 _ hz; omega
      · exact e
    · intro hz
      rcases List.mem_cons.1 ((h z).2 (List.mem_cons_of_mem _ hz)) with e | e
      · have := hb.1 _ hz; omega
      · exact e
theorem mem_sts {P ps : List (Nat × Nat)} {n x : Nat} (hg : Gr P n ps) : x ∈ sts P ps ↔ x ∈ srt P ps P.length := by
  rw [mem_srt]
  unfold sts
  rw [List.mem_flatMap]
  constructor
  · rintro ⟨p, hp, hx⟩
    obtain ⟨r, h1, h2, h3⟩ := hg.mem p hp
    rw [mem_range'] at hx
    refine ⟨p.1, (List.getElem?_eq_some_iff.1 h1).1, ?_⟩
    rw [tk_mem hg.nodup hp]
    exact hx
  · rintro ⟨j, h1, h2, h3⟩
    exact ⟨_, tk_pos (by omega), mem_range'.2 ⟨h2, h3⟩⟩
theorem sts_nodup {P : List (Nat × Nat)} (hr : Ris P) : ∀ {ps : List (Nat × Nat)}, (ps.map Prod.fst).Nodup → (∀ p ∈ ps, ∃ r, P[p.1]? = some r ∧ 1 ≤ p.2 ∧ p.2 ≤ r.2) → (sts P ps).Nodup
  | [], _, _ => List.nodup_nil
  | p :: t, hn, hm => by
    rw [List.map_cons, List.nodup_cons] at hn
    show (List.range' (P.getD p.1 (0, 0)).1 p.2 ++ sts P t).Nodup
    rw [List.nodup_append]
    refine ⟨List.Pairwise.imp (fun h => Nat.ne_of_lt h) (range'_rise _ _), sts_nodup hr hn.2 (fun q hq => hm q (List.mem_cons_of_mem _ hq)), fun x hx y hy => ?_⟩
    unfold sts at hy
    obtain ⟨q, hq, hy⟩ := List.mem_flatMap.1 hy
    rw [mem_range'] at hx hy
    obtain ⟨r, a1, a2, a3⟩ := hm p List.mem_cons_self
    obtain ⟨s, b1, b2, b3⟩ := hm q (List.mem_cons_of_mem _ hq)
    have hne : p.1 ≠ q.1 := fun e => hn.1 (by rw [e]; exact List.mem_map_of_mem hq)
    rw [List.getD_eq_getElem?_getD, a1] at hx
    rw [List.getD_eq_getElem?_getD, b1] at hy
    simp only [Option.getD_some] at hx hy
    rcases Nat.lt_or_ge p.1 q.1 with g | g
    · have := hr _ _ _ _ a1 b1 g; omega
    · have := hr _ _ _ _ b1 a1 (by omega); omega
theorem sts_len (P : List (Nat × Nat)) : ∀ ps : List (Nat × Nat), (sts P ps).length = (ps.map Prod.snd).sum
  | [] => rfl
  | p :: t => by
    show (List.range' _ _ ++ sts P t).length = _
    rw [List.length_append, sts_len P t, List.length_range']; simp
theorem nodup_len : ∀ {a b : List Nat}, a.Nodup → b.Nodup → (∀ x, x ∈ a ↔ x ∈ b) → a.length = b.length := by
  intro a b ha hb h
  exact (List.perm_ext_iff_of_nodup ha hb |>.2 h).length_eq
theorem srt_len {P ps : List (Nat × Nat)} {n : Nat} (hr : Ris P) (hg : Gr P n ps) : (srt P ps P.length).length = n := by
  rw [← hg.sum, ← sts_len P ps]
  exact nodup_len (List.Pairwise.imp (fun h => Nat.ne_of_lt h) (srt_rise hr hg _ (Nat.le_refl _))) (sts_nodup hr hg.nodup hg.mem) (fun x => (mem_sts hg).symm)
/-- What stands among all seats behind the first i runs. -/
theorem srt_split (P ps : List (Nat × Nat)) (i : Nat) : ∀ m, ∃ rest, srt P ps (i + m) = srt P ps i ++ rest ∧ ∀ x ∈ rest, ∃ j, i ≤ j ∧ j < i + m ∧ (P.getD j (0, 0)).1 ≤ x
  | 0 => ⟨[], by simp, fun x h => by cases h⟩
  | m + 1 => by
    obtain ⟨rest, h1, h2⟩ := srt_split P ps i m
    refine ⟨rest ++ List.range' (P.getD (i + m) (0, 0)).1 (tk ps (i + m)), ?_, fun x hx => ?_⟩
    · show srt P ps (i + m) ++ _ = _
      rw [h1, List.append_assoc]; rfl
    · rcases List.mem_append.1 hx with h | h
      · obtain ⟨j, a, b, c⟩ := h2 x h; exact ⟨j, a, by omega, c⟩
      · exact ⟨i + m, by omega, by omega, (mem_range'.1 h).1⟩
theorem srt_at {P ps : List (Nat × Nat)} {i m : Nat} (hi : i < P.length) (hm : m < tk ps i) : (srt P ps P.length)[(srt P ps i).length + m]? = some ((P.getD i (0, 0)).1 + m) := by
  obtain ⟨rest, h1, _⟩ := srt_split P ps (i + 1) (P.length - (i + 1))
  rw [show i + 1 + (P.length - (i + 1)) = P.length by omega] at h1
  rw [h1]
  show ((srt P ps i ++ List.range' (P.getD i (0, 0)).1 (tk ps i)) ++ rest)[_]? = _
  rw [List.append_assoc, List.getElem?_append_right (by omega), Nat.add_sub_cancel_left, List.getElem?_append_left (by rw [List.length_range']; exact hm)]
  rw [List.getElem?_range']
  · simp
  · exact hm
theorem srt_behind {P ps : List (Nat × Nat)} (hr : Ris P) {i x : Nat} (hi : i < P.length) (hx : (srt P ps P.length)[(srt P ps (i + 1)).length]? = some x) : (P.getD i (0, 0)).1 + (P.getD i (0, 0)).2 ≤ x := by
  obtain ⟨rest, h1, h2⟩ := srt_split P ps (i + 1) (P.length - (i + 1))
  rw [show i + 1 + (P.length - (i + 1)) = P.length by omega] at h1 h2
  rw [h1, List.getElem?_append_right (Nat.le_refl _)] at hx
  obtain ⟨j, a, b, c⟩ := h2 x (List.mem_of_getElem? hx)
  have := hr.getD b (show i < j by omega)
  omega
theorem srt_step_len (P ps : List (Nat × Nat)) (i : Nat) : (srt P ps (i + 1)).length = (srt P ps i).length + tk ps i := by
  show (srt P ps i ++ _).length = _
  rw [List.length_append, List.length_range']
/-- In how many of the first i runs seats are taken. -/
def usd (ps : List (Nat × Nat)) : Nat → Nat
  | 0 => 0
  | i + 1 => usd ps i + (if 0 < tk ps i then 1 else 0)
theorem usd_len (ps : List (Nat × Nat)) : ∀ i, usd ps i = ((List.range i).filter fun j => decide (0 < tk ps j)).length
  | 0 => rfl
  | i + 1 => by
    unfold usd
    rw [usd_len ps i, List.range_succ, List.filter_append]
    by_cases h : 0 < tk ps i <;> simp [h]
theorem usd_all {P ps : List (Nat × Nat)} {n : Nat} (hg : Gr P n ps) : usd ps P.length = ps.length := by
  rw [usd_len, show ps.length = (ps.map Prod.fst).length by rw [List.length_map]]
  refine nodup_len (List.Pairwise.filter _ (List.Pairwise.imp (fun h => Nat.ne_of_lt h) List.pairwise_lt_range)) hg.nodup fun x => ?_
  rw [List.mem_filter, List.mem_range, List.mem_map]
  constructor
  · rintro ⟨h1, h2⟩
    exact ⟨_, tk_pos (by simpa using h2), rfl⟩
  · rintro ⟨p, hp, rfl⟩
    obtain ⟨r, h1, h2, h3⟩ := hg.mem p hp
    refine ⟨(List.getElem?_eq_some_iff.1 h1).1, ?_⟩
    rw [tk_mem hg.nodup hp]
    exact decide_eq_true h2
/-- The first of the longest runs. -/
def Mx (cs : List Nat) (i : Nat) : Prop := ∃ c, cs[i]? = some c ∧ ∀ j d, cs[j]? = some d → d < c ∨ (d = c ∧ i ≤ j)
theorem must_step {P ps : List (Nat × Nat)} {n i c : Nat} (hg : Gr P n ps) (h0 : 0 < n) (hm : Mx (P.map Prod.snd) i) (hc : (P.map Prod.snd)[i]? = some c) :
    (c < n ∧ ∃ qs, ps.length = qs.length + 1 ∧ Gr (P.set i (0, 0)) (n - c) qs) ∨ (n ≤ c ∧ ps.length = 1) := by
  obtain ⟨c', e, hm⟩ := hm
  rw [hc] at e
  obtain rfl := Option.some.inj e
  have hP : ∃ r, P[i]? = some r ∧ r.2 = c := by
    rw [List.getElem?_map] at hc
    cases hr : P[i]? with
    | none => rw [hr] at hc; cases hc
    | some r => rw [hr] at hc; exact ⟨r, rfl, Option.some.inj hc⟩
  obtain ⟨r, hr, rfl⟩ := hP
  have hall : ∀ j q, P[j]? = some q → q.2 < r.2 ∨ (q.2 = r.2 ∧ i ≤ j) := fun j q hq => hm j q.2 (by rw [List.getElem?_map, hq]; rfl)
  cases hg with
  | done => omega
  | step _ _ k q qs k0 k1 k2 k3 =>
    obtain ⟨q', e1, e2, e3⟩ := k2
    rw [k1] at e1
    obtain rfl := Option.some.inj e1
    have hq := hall k q k1
    rcases e3 with ⟨a1, a2⟩ | a
    · refine Or.inr ⟨by omega, ?_⟩
      rw [Nat.min_eq_right a1, Nat.sub_self] at k3
      cases k3 with
      | done => rfl
      | step _ _ _ _ _ z => omega
    · have h1 := a i r hr
      refine Or.inl ⟨h1.1, qs, rfl, ?_⟩
      obtain rfl : i = k := by omega
      rw [hr] at k1
      obtain rfl := Option.some.inj k1
      rw [Nat.min_eq_left (by omega)] at k3
      exact k3
theorem dr_ris (f b : Nat → Bool) (n : Nat) : Ris (dr f b n) := fun _ _ _ _ h1 h2 h3 => dr_rise h1 h2 h3
end Go.Proofs.YtnnmaknjhfjojaaGreatDoor.Pn
/- OnesCount64 counts: its reckoning by fields, as arithmetic of numbers alone. -/
namespace Go.Proofs.YtnnmaknjhfjojaaGreatDoor.Pop

/-- digits, the lowest first -/
def E (B : Nat) : List Nat → Nat
  | [] => 0
  | d :: ds => d + B * E B ds

def M (k : Nat) : Nat → Nat
  | 0 => 0
  | n + 1 => (2 ^ k - 1) + 2 ^ (2 * k) * M k n

def digs (k : Nat) : Nat → Nat → List Nat
  | 0, _ => []
  | n + 1, x => (x % 2 ^ k + x / 2 ^ k % 2 ^ k) :: digs k n (x / 2 ^ (2 * k))

theorem and_split (m u v X Y : Nat) (hu : u < 2 ^ m) (hv : v < 2 ^ m) :
    (u + 2 ^ m * X) &&& (v + 2 ^ m * Y) = (u &&& v) + 2 ^ m * (X &&& Y) := by
  have huv : u &&& v < 2 ^ m := Nat.and_lt_two_pow _ hv
  apply Nat.eq_of_testBit_eq
  intro i
  rw [Nat.testBit_and, Nat.add_comm u, Nat.add_comm v, Nat.add_comm (u &&& v), Nat.testBit_two_pow_mul_add _ hu, Nat.testBit_two_pow_mul_add _ hv, Nat.testBit_two_pow_mul_add _ huv]
  split
  · rw [Nat.testBit_and]
  · rw [Nat.testBit_and]

theorem low_and (k u : Nat) (_ : u < 2 ^ (2 * k)) : u &&& (2 ^ k - 1) = u % 2 ^ k := Nat.and_two_pow_sub_one_eq_mod u k

theorem M_lt (k n : Nat) : M k n < 2 ^ (2 * k * n) := by
  induction n with
  | zero => simp [M]
  | succ n ih =>
    have e : 2 * k * (n + 1) = 2 * k + 2 * k * n := by rw [Nat.mul_add]; omega
    rw [M, e, Nat.pow_add]
    have h1 : 2 ^ k ≤ 2 ^ (2 * k) := Nat.pow_le_pow_right (by decide) (by omega)
    have h0 : 0 < 2 ^ k := Nat.two_pow_pos k
    have : 2 ^ (2 * k) * M k n + 2 ^ (2 * k) ≤ 2 ^ (2 * k) * 2 ^ (2 * k * n) := by
      rw [← Nat.mul_succ]; exact Nat.mul_le_mul_left _ ih
    omega

theorem mask_even (k n x : Nat) : x &&& M k n = E (2 ^ (2 * k)) ((List.range n).map fun j => x / 2 ^ (2 * k * j) % 2 ^ k) := by
  induction n generalizing x with
  | zero => simp [M, E]
  | succ n ih =>
    have hp : 0 < 2 ^ (2 * k) := Nat.two_pow_pos _
    have h1 : 2 ^ k ≤ 2 ^ (2 * k) := Nat.pow_le_pow_right (by decide) (by omega)
    have h0 : 0 < 2 ^ k := Nat.two_pow_pos k
    have hx : x = x % 2 ^ (2 * k) + 2 ^ (2 * k) * (x / 2 ^ (2 * k)) := (Nat.mod_add_div x _).symm
    have := and_split (2 * k) (x % 2 ^ (2 * k)) (2 ^ k - 1) (x / 2 ^ (2 * k)) (M k n) (Nat.mod_lt _ hp) (by omega)
    rw [← hx] at this
    rw [M, this, ih, Nat.and_two_pow_sub_one_eq_mod, List.range_succ_eq_map]
    simp only [List.map_cons, List.map_map, E, Nat.mul_zero, Nat.pow_zero, Nat.div_one]
    congr 1
    · rw [Nat.mod_mod_of_dvd]; exact Nat.pow_dvd_pow 2 (by omega)
    · congr 2
      apply List.map_congr_left
      intro j _
      simp only [Function.comp_apply]
      rw [Nat.div_div_eq_div_mul, ← Nat.pow_add]
      congr 3
      rw [Nat.mul_succ]; omega


/-- as many digits as n, of f -/
def F (B n : Nat) (f : Nat → Nat) : Nat := E B ((List.range n).map f)

theorem F_zero (B : Nat) (f : Nat → Nat) : F B 0 f = 0 := by simp [F, E]

theorem F_succ (B n : Nat) (f : Nat → Nat) : F B (n + 1) f = f 0 + B * F B n (fun j => f (j + 1)) := by
  simp only [F, List.range_succ_eq_map, List.map_cons, List.map_map, E]
  rfl

theorem F_add (B n : Nat) (f g : Nat → Nat) : F B n f + F B n g = F B n (fun j => f j + g j) := by
  induction n generalizing f g with
  | zero => simp [F_zero]
  | succ n ih =>
    rw [F_succ, F_succ, F_succ, ← ih, Nat.mul_add]
    omega

theorem F_congr (B n : Nat) (f g : Nat → Nat) (h : ∀ j, j < n → f j = g j) : F B n f = F B n g := by
  unfold F
  congr 1
  exact List.map_congr_left (fun j hj => h j (List.mem_range.1 hj))

theorem F_digit (B n : Nat) (f : Nat → Nat) (hf : ∀ j, j < n → f j < B) (j : Nat) (hj : j < n) : F B n f / B ^ j % B = f j := by
  induction n generalizing f j with
  | zero => omega
  | succ n ih =>
    have h0 := hf 0 (by omega)
    rw [F_succ]
    cases j with
    | zero => rw [Nat.pow_zero, Nat.div_one, Nat.add_mul_mod_self_left, Nat.mod_eq_of_lt h0]
    | succ j =>
      have hB : 0 < B := by omega
      rw [Nat.pow_succ, Nat.mul_comm (B ^ j), ← Nat.div_div_eq_div_mul, Nat.add_mul_div_left _ _ hB, Nat.div_eq_of_lt h0, Nat.zero_add]
      exact ih (fun j => f (j + 1)) (fun j hj => hf (j + 1) (by omega)) j (by omega)

/-- the halves of the fields of 2k bits, added -/
theorem step (k n x : Nat) : (x / 2 ^ k &&& M k n) + (x &&& M k n) = F (2 ^ (2 * k)) n (fun j => x / 2 ^ (2 * k * j) % 2 ^ k + x / 2 ^ (2 * k * j + k) % 2 ^ k) := by
  rw [mask_even, mask_even, Nat.add_comm]
  have := F_add (2 ^ (2 * k)) n (fun j => x / 2 ^ (2 * k * j) % 2 ^ k) (fun j => x / 2 ^ k / 2 ^ (2 * k * j) % 2 ^ k)
  unfold F at this
  rw [this]
  unfold F
  congr 1
  apply List.map_congr_left
  intro j _
  rw [Nat.div_div_eq_div_mul, ← Nat.pow_add, Nat.add_comm k]

def bit (x i : Nat) : Nat := x / 2 ^ i % 2

/-- how many of the first n bits are set -/
def pop (x : Nat) : Nat → Nat
  | 0 => 0
  | n + 1 => pop x n + bit x n

def y1 (x : Nat) : Nat := (x / 2 &&& 6148914691236517205) + (x &&& 6148914691236517205)
def y2 (x : Nat) : Nat := (x / 4 &&& 3689348814741910323) + (x &&& 3689348814741910323)
def y3 (x : Nat) : Nat := (x / 16 + x) &&& 1085102592571150095

theorem M1 : M 1 32 = 6148914691236517205 := by decide
theorem M2 : M 2 16 = 3689348814741910323 := by decide
theorem M4 : M 4 8 = 1085102592571150095 := by decide

theorem bit_lt (x i : Nat) : bit x i < 2 := Nat.mod_lt _ (by decide)

def f1 (x j : Nat) : Nat := bit x (2 * j) + bit x (2 * j + 1)
def f2 (x j : Nat) : Nat := f1 x (2 * j) + f1 x (2 * j + 1)
theorem f1_le (x j : Nat) : f1 x j ≤ 2 := by have := bit_lt x (2 * j); have := bit_lt x (2 * j + 1); unfold f1; omega
theorem f2_le (x j : Nat) : f2 x j ≤ 4 := by have := f1_le x (2 * j); have := f1_le x (2 * j + 1); unfold f2; omega

theorem y1_eq (x : Nat) : y1 x = F 4 32 (f1 x) := by
  have := step 1 32 x
  rw [M1] at this
  exact this

theorem y2_eq (x : Nat) : y2 (y1 x) = F 16 16 (f2 x) := by
  have h := step 2 16 (y1 x)
  rw [M2] at h
  refine h.trans (F_congr _ _ _ _ fun j hj => ?_)
  have a := F_digit 4 32 (f1 x) (fun j _ => by have := f1_le x j; omega) (2 * j) (by omega)
  have b := F_digit 4 32 (f1 x) (fun j _ => by have := f1_le x j; omega) (2 * j + 1) (by omega)
  rw [← y1_eq] at a b
  have ea : (4 : Nat) ^ (2 * j) = 2 ^ (2 * 2 * j) := by rw [Nat.mul_assoc, Nat.pow_mul 2 2]
  have eb : (4 : Nat) ^ (2 * j + 1) = 2 ^ (2 * 2 * j + 2) := by
    rw [Nat.pow_succ, ea, Nat.pow_add]
  rw [ea] at a; rw [eb] at b
  show y1 x / 2 ^ (2 * 2 * j) % 4 + y1 x / 2 ^ (2 * 2 * j + 2) % 4 = f2 x j
  rw [a, b]; rfl

theorem F_more (B n : Nat) (f : Nat → Nat) (h : f n = 0) : F B (n + 1) f = F B n f := by
  induction n generalizing f with
  | zero => rw [F_succ, F_zero, F_zero, h]; omega
  | succ n ih => rw [F_succ, ih _ h, F_succ]

theorem F_div1 (B n : Nat) (f : Nat → Nat) (h0 : f 0 < B) (h : f n = 0) : F B n f / B = F B n (fun j => f (j + 1)) := by
  rw [← F_more B n f h, F_succ, Nat.add_mul_div_left _ _ (by omega), Nat.div_eq_of_lt h0, Nat.zero_add]

theorem F_div (B n k : Nat) (f : Nat → Nat) (hf : ∀ j, f j < B) (h : ∀ j, n ≤ j → f j = 0) : F B n f / B ^ k = F B n (fun j => f (j + k)) := by
  induction k with
  | zero => rw [Nat.pow_zero, Nat.div_one]; rfl
  | succ k ih =>
    rw [Nat.pow_succ, ← Nat.div_div_eq_div_mul, ih, F_div1 B n (fun j => f (j + k)) (hf _) (h _ (by omega))]
    exact F_congr _ _ _ _ fun j _ => by rw [Nat.add_assoc, Nat.add_comm 1 k]

theorem F_lt (B n : Nat) (f : Nat → Nat) (hf : ∀ j, f j < B) : F B n f < B ^ n := by
  induction n generalizing f with
  | zero => simp [F_zero]
  | succ n ih =>
    have := ih (fun j => f (j + 1)) (fun j => hf (j + 1))
    have h0 := hf 0
    rw [F_succ, Nat.pow_succ, Nat.mul_comm _ B]
    have : B * F B n (fun j => f (j + 1)) + B ≤ B * B ^ n := by rw [← Nat.mul_succ]; exact Nat.mul_le_mul_left _ this
    omega

theorem F_le (B n m : Nat) (f : Nat → Nat) (hf : ∀ j, f j ≤ m) (hm : m < B) : F B (n + 1) f < (m + 1) * B ^ n := by
  induction n generalizing f with
  | zero => have := hf 0; rw [F_succ, F_zero]; simp; omega
  | succ n ih =>
    have h := ih (fun j => f (j + 1)) (fun j => hf (j + 1))
    have h0 := hf 0
    rw [F_succ, Nat.pow_succ, ← Nat.mul_assoc, Nat.mul_comm _ B]
    have : B * F B (n + 1) (fun j => f (j + 1)) + B ≤ B * ((m + 1) * B ^ n) := by rw [← Nat.mul_succ]; exact Nat.mul_le_mul_left _ h
    omega

/-- a number and itself, shifted by k digits -/
theorem F_fold (B n k : Nat) (f : Nat → Nat) (m : Nat) (hf : ∀ j, f j ≤ m) (hm : m + m < B) (h : ∀ j, n ≤ j → f j = 0) :
    F B n f + F B n f / B ^ k = F B n (fun j => f j + f (j + k)) ∧ F B n f + F B n f / B ^ k < B ^ n := by
  have e : F B n f + F B n f / B ^ k = F B n (fun j => f j + f (j + k)) := by
    rw [F_div B n k f (fun j => by have := hf j; omega) h, F_add]
  refine ⟨e, ?_⟩
  rw [e]
  exact F_lt B n _ fun j => by have := hf j; have := hf (j + k); omega

/-- f below n, nought from there on -/
def upto (n : Nat) (f : Nat → Nat) (j : Nat) : Nat := if j < n then f j else 0

theorem F_upto (B n : Nat) (f : Nat → Nat) : F B n f = F B n (upto n f) := F_congr _ _ _ _ fun j hj => by simp [upto, hj]

theorem upto_le (n m : Nat) (f : Nat → Nat) (h : ∀ j, f j ≤ m) (j : Nat) : upto n f j ≤ m := by
  unfold upto; split
  · exact h j
  · omega

theorem upto_nought (n : Nat) (f : Nat → Nat) (j : Nat) (h : n ≤ j) : upto n f j = 0 := by simp [upto]; omega

theorem y3_eq (z : Nat) (g : Nat → Nat) (hg : ∀ j, g j ≤ 4) (hz : z = F 16 16 g) : z + z / 16 < 18446744073709551616 ∧ y3 z = F 256 8 (fun j => g (2 * j) + g (2 * j + 1)) := by
  rw [F_upto] at hz
  have hf := F_fold 16 16 1 (upto 16 g) 4 (upto_le _ _ _ hg) (by decide) (upto_nought _ _)
  rw [← hz] at hf
  have h := mask_even 4 8 (z / 16 + z)
  rw [M4] at h
  refine ⟨hf.2, h.trans ?_⟩
  have hs : z / 16 + z = F 16 16 (fun j => upto 16 g j + upto 16 g (j + 1)) := by rw [Nat.add_comm]; exact hf.1
  refine F_congr 256 8 _ _ fun j hj => ?_
  have d := F_digit 16 16 (fun j => upto 16 g j + upto 16 g (j + 1)) (fun j _ => by have := upto_le 16 4 g hg j; have := upto_le 16 4 g hg (j + 1); omega) (2 * j) (by omega)
  rw [← hs] at d
  have e : (16 : Nat) ^ (2 * j) = 2 ^ (2 * 4 * j) := by
    rw [Nat.mul_assoc, Nat.mul_comm 4, ← Nat.mul_assoc, Nat.mul_comm (2 * j), Nat.pow_mul 2 4]
  rw [e] at d
  refine d.trans ?_
  have h1 : 2 * j < 16 := by omega
  have h2 : 2 * j + 1 < 16 := by omega
  simp [upto, h1, h2]

theorem tail (e : Nat → Nat) (he : ∀ j, e j ≤ 8) (a b c d : Nat) (ha : a = F 256 8 e) (hb : b = (a + a / 256) % 18446744073709551616) (hc : c = (b + b / 65536) % 18446744073709551616) (hd : d = (c + c / 4294967296) % 18446744073709551616) :
    d % 128 = e 0 + e 1 + e 2 + e 3 + e 4 + e 5 + e 6 + e 7 ∧ d < 9223372036854775808 := by
  rw [F_upto] at ha
  have u := upto_le 8 8 e he
  have v := upto_nought 8 e
  have h1 := F_fold 256 8 1 (upto 8 e) 8 u (by decide) v
  rw [← ha] at h1
  have hb' := hb.trans (Nat.mod_eq_of_lt h1.2)
  have hb2 := hb'.trans h1.1
  have h2 := F_fold 256 8 2 (fun j => upto 8 e j + upto 8 e (j + 1)) 16 (fun j => by have := u j; have := u (j + 1); omega) (by decide) (fun j hj => by rw [v j hj, v (j + 1) (by omega)])
  rw [← hb2] at h2
  have hc2 := (hc.trans (Nat.mod_eq_of_lt h2.2)).trans h2.1
  have h3 := F_fold 256 8 4 (fun j => upto 8 e j + upto 8 e (j + 1) + (upto 8 e (j + 2) + upto 8 e (j + 2 + 1))) 32 (fun j => by have := u j; have := u (j + 1); have := u (j + 2); have := u (j + 2 + 1); omega) (by decide) (fun j hj => by rw [v j hj, v (j + 1) (by omega), v (j + 2) (by omega), v (j + 2 + 1) (by omega)])
  rw [← hc2] at h3
  have hd2 := (hd.trans (Nat.mod_eq_of_lt h3.2)).trans h3.1
  have hlt := F_le 256 7 64 _ (fun j => (by have := u j; have := u (j + 1); have := u (j + 2); have := u (j + 2 + 1); have := u (j + 4); have := u (j + 4 + 1); have := u (j + 4 + 2); have := u (j + 4 + 2 + 1); omega : upto 8 e j + upto 8 e (j + 1) + (upto 8 e (j + 2) + upto 8 e (j + 2 + 1)) + (upto 8 e (j + 4) + upto 8 e (j + 4 + 1) + (upto 8 e (j + 4 + 2) + upto 8 e (j + 4 + 2 + 1))) ≤ 64)) (by decide)
  rw [← hd2] at hlt
  refine ⟨?_, Nat.lt_trans hlt (by decide)⟩
  rw [hd2, F_succ]
  simp only [upto, Nat.zero_add, Nat.reduceAdd, Nat.reduceLT, if_true]
  have h0 := he 0; have h1 := he 1; have h2 := he 2; have h3 := he 3; have h4 := he 4; have h5 := he 5; have h6 := he 6; have h7 := he 7
  omega

theorem pop64 (x : Nat) : pop x 64 = f2 x 0 + f2 x 1 + f2 x 2 + f2 x 3 + f2 x 4 + f2 x 5 + f2 x 6 + f2 x 7 + f2 x 8 + f2 x 9 + f2 x 10 + f2 x 11 + f2 x 12 + f2 x 13 + f2 x 14 + f2 x 15 := by
  simp only [pop, f2, f1, Nat.reduceMul, Nat.reduceAdd]
  omega

/-- **math/bits.OnesCount64's reckoning is the number of set bits.** -/
theorem count (x a b c d : Nat) (ha : a = y3 (y2 (y1 x))) (hb : b = (a + a / 256) % 18446744073709551616) (hc : c = (b + b / 65536) % 18446744073709551616) (hd : d = (c + c / 4294967296) % 18446744073709551616) :
    d % 128 = pop x 64 ∧ d < 9223372036854775808 := by
  have h3 := (y3_eq (y2 (y1 x)) (f2 x) (f2_le x) (y2_eq x)).2
  have := tail (fun j => f2 x (2 * j) + f2 x (2 * j + 1)) (fun j => by have := f2_le x (2 * j); have := f2_le x (2 * j + 1); omega) a b c d (ha.trans h3) hb hc hd
  refine ⟨?_, this.2⟩
  rw [this.1, pop64]
  simp only [Nat.reduceMul, Nat.reduceAdd, Nat.mul_zero, Nat.zero_add]
  omega

end Go.Proofs.YtnnmaknjhfjojaaGreatDoor.Pop
