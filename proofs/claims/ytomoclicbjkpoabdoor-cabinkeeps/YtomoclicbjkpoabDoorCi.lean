/- Rows of spans; the contract of Blocks. -/
import Derived.Test.YtomoclicbjkpoabDoorCh
namespace Go.Proofs.YtomoclicbjkpoabDoor
open Go.RowKit Cx
attribute [local go_sem ↓] Go.wp_at_zero Go.wp_at_succ

/-- Spans as cells, one behind the other. -/
def spC (l : List (Nat × Nat)) : List Value := l.flatMap fun p => [.int .i64 (p.1 : Int), .int .i64 (p.2 : Int)]
theorem spC_app (l m : List (Nat × Nat)) : spC (l ++ m) = spC l ++ spC m := by simp [spC]
theorem spC_len (l : List (Nat × Nat)) : (spC l).length = 2 * l.length := by
  induction l with
  | nil => rfl
  | cons p t ih => simp [spC] at ih ⊢; omega
theorem spC_get {l : List (Nat × Nat)} {i : Nat} {p : Nat × Nat} (h : l[i]? = some p) : (spC l)[i * 2]? = some (.int .i64 (p.1 : Int)) ∧ (spC l)[i * 2 + 1]? = some (.int .i64 (p.2 : Int)) := by
  induction l generalizing i with
  | nil => simp at h
  | cons q t ih =>
    cases i with
    | zero => simp at h; subst h; simp [spC]
    | succ k =>
      rw [List.getElem?_cons_succ] at h
      have h2 := ih h
      have e1 : spC (q :: t) = [.int .i64 (q.1 : Int), .int .i64 (q.2 : Int)] ++ spC t := by simp [spC]
      rw [e1, show (k + 1) * 2 = k * 2 + 2 by omega, List.getElem?_append_right (by simp), show k * 2 + 2 + 1 = k * 2 + 1 + 2 by omega, List.getElem?_append_right (by simp)]
      simpa using h2
theorem Tryd.info52 : (Tryd.prog.info? 52).map (fun i => (i.zero, i.size, i.bytes)) = some (some (.agg #[.int .i64 0, .int .i64 0]), 2, 16) := by kernel_rfl
theorem cell2_new (w : World) (a b : Value) (t : TypeId) : ∀ j u, [a, b][j]? = some u → (w.alloc (.cells #[a, b] t)).cell? ((⟨w.heap.size, 0, none⟩ : Addr).add j) = some u := by
  intro j u hu
  rw [Addr.add_lit, Nat.zero_add, cell_row (l := [a, b]) (heap_alloc_new w _)]; exact hu
theorem wpList_append_span {w : World} {ops : Array Oper} {rest : List Oper} {o : Oper} {a : Act} {Q : Exit → Act → World → Prop} (hgd : o.guard = none) (s x : Operand)
    (ho : o.op = .call { callee := .builtin .append, args := #[s, x], argTypes := #[27, 27] }) (base : Nat) (v : Value) (l : List (Nat × Nat)) (hs : a.eval s = v) (hown : w.ownsRow base 52 2 v l.length (spC l))
    (ad : Addr) (p : Nat × Nat) (hx : a.eval x = .slice (some ad) 1 1) (hat : ∀ j u, [Value.int .i64 (p.1 : Int), .int .i64 (p.2 : Int)][j]? = some u → w.cell? (ad.add j) = some u)
    (hlen : l.length ≤ 100000) (hbase : base ≤ w.heap.size)
    (h : ∀ v' w', w'.ownsRow base 52 2 v' (l ++ [p]).length (spC (l ++ [p])) → w.grownBy w' v.ownBlock → wpList Tryd.prog ops Q rest (a.put o.dst v') w') : wpList Tryd.prog ops Q (o :: rest) a w := by
  obtain ⟨i0, hi, hz0, hz1, hz2⟩ := info_parts Tryd.info52
  refine wpList_append_own _ hgd s x 27 ho base 52 i0 (.agg #[.int .i64 0, .int .i64 0]) 2 16 Tryd.underlying27 hi hz0 hz1 hz2 rfl (by decide) v l.length (spC l) hs hown ad 1 1 [.int .i64 (p.1 : Int), .int .i64 (p.2 : Int)] hx rfl hat (by simp [Value.oneCell']) (by unfold maxLen; omega) (by omega) hbase (fun v' w' h1 h2 _ => h v' w' ?_ h2)
  have e1 : spC l ++ [.int .i64 (p.1 : Int), .int .i64 (p.2 : Int)] = spC (l ++ [p]) := by rw [spC_app]; simp [spC]
  rw [e1] at h1
  simpa using h1
theorem span_form {w : World} {base n : Nat} {v : Value} {xs : List Value} (h : w.ownsRow base 52 2 v n xs) : ∃ ao cap, v = .slice ao n cap := by
  rcases h.2 with ⟨rfl, rfl⟩ | ⟨g, cap, cur, rfl, _⟩
  · exact ⟨none, 0, rfl⟩
  · exact ⟨_, cap, rfl⟩
theorem span_grown {w w' : World} {base n : Nat} {v : Value} {xs : List Value} (h : w.ownsRow base 52 2 v n xs) (hg : w.grownBy w' none) : w'.ownsRow base 52 2 v n xs := by
  obtain ⟨hl, h⟩ := h
  refine ⟨hl, ?_⟩
  rcases h with h | ⟨g, cap, cur, rfl, hb, hgc, hr⟩
  · exact Or.inl h
  · exact Or.inr ⟨g, cap, cur, rfl, hb, heap_kept hgc hg (by simp), hr⟩
theorem span_base {w : World} {base base' n : Nat} {v : Value} {xs : List Value} (h : w.ownsRow base 52 2 v n xs) (hb : base' ≤ base) : w.ownsRow base' 52 2 v n xs := by
  obtain ⟨hl, h⟩ := h
  refine ⟨hl, ?_⟩
  rcases h with h | ⟨g, cap, cur, rfl, hb', hr⟩
  · exact Or.inl h
  · exact Or.inr ⟨g, cap, cur, rfl, by omega, hr⟩

section
attribute [local go_sem ↓] wp_store61 wp_load61
attribute [local go_sem] blkOf_ptr offOf_ptr isPtr_ptr alloc_setRow
set_option maxRecDepth 100000 in
set_option maxHeartbeats 2000000 in
theorem blocks_ok (R W : Nat) (ao : Option Addr) (n cap : Nat) (L : List Int) (w : World) (hc : CbIn w ao n cap L) (ho : Ok R W L) :
    Calls Tryd.prog 6 #[cbV R W (.slice ao n cap)] w fun e w' => ∃ v, e = .returned (.tuple #[v, .int .i64 0]) ∧ w'.ownsRow w.heap.size 52 2 v (prg W L (R * W)).length (spC (prg W L (R * W))) ∧ w.grownBy w' none := by
  have C := hide (fun w' (hg : w.grownBy w' none) => check_any R W ao n cap L w' (hc.grown hg))
  rw [code_ok ho] at C
  have A := hide (fun w' (hg : w.grownBy w' none) => aislesOf_any R W ao n cap L w' (hc.grown hg) ho.2.2.2.1 ho.2.2.2.2)
  have S := hide (seatsOf_any R W (.slice ao n cap) ho.1 ho.2.1 ho.2.2.1 ho.2.2.2.1)
  have hW := ho.2.2.1
  have h7 := ho.2.2.2.1
  have hR := ho.2.1
  have B := hide (fun q w' => begins_any R W (.slice ao n cap) L q (by omega) (by omega) w')
  obtain ⟨N, hN⟩ : ∃ N, N = R * W := ⟨_, rfl⟩
  have hNN : (R : Int) * (W : Int) = (N : Int) := by rw [hN, Int.natCast_mul]
  have hN2 : N ≤ 64 * 16 := by rw [hN]; exact Nat.mul_le_mul (by omega) (by omega)
  rw [← hN]
  rw [hNN] at S
  obtain ⟨D, hD⟩ : ∃ D, D = arrC L := ⟨_, rfl⟩
  rw [← hD] at A B
  have hagg : aggOk (.agg D.toArray) = true := by rw [hD]; exact arrC_agg L
  have hDl : D.length = 17 := by rw [hD]; exact arrC_len L
  have HP := hide (And.intro (prg_succ W L) (And.intro (prg_len_le W L) (nx_spec (show 1 ≤ W by omega) L)))
  clear hc ho hN hNN hD
  unfold cbV at *
  go_enter Tryd.func6, Tryd.ntmps6
  go_wp2
  go_step3
  go_wp2_with fail
  refine (C.out _ (grown_alloc w _)).mono ?_
  rintro e w1 ⟨rfl, hw1⟩
  have hb1 := box_kept hw1
  have G1 := hide (And.intro (grown_trans (grown_alloc w _) hw1) hb1)
  obtain ⟨c0, c1, c2⟩ := box3 hb1
  clear hw1 hb1
  go_wp2_with fail
  refine (A.out _ G1.out.1).mono ?_
  rintro e w2 ⟨rfl, hw2⟩
  have hrk := zero61 w2 _ (show #[Value.bool false, .bool false, .bool false, .bool false, .bool false, .bool false, .bool false, .bool false, .bool false, .bool false, .bool false, .bool false, .bool false, .bool false, .bool false, .bool false, .bool false] = _ from by kernel_rfl)
  have hn := heap_alloc_new w2 (.cells D.toArray 47)
  have hb2 := heap_kept (heap_kept G1.out.2 hw2 (by simp)) (grown_alloc w2 (.cells D.toArray 47)) (by simp)
  have G2 := hide (And.intro (grown_trans (grown_trans G1.out.1 hw2) (grown_alloc w2 (.cells D.toArray 47))) (And.intro hb2 hn))
  have hgl : w.heap.size < w2.heap.size := by
    have h1 := row_lt (heap_kept G1.out.2 hw2 (by simp)); exact h1
  clear c0 c1 c2
  obtain ⟨c0, c1, c2⟩ := box3 hb2
  clear hw2 hn hb2 G1
  go_wp2_with fail
  go_step3
  go_wp2_with fail
  refine (S.out _).mono ?_
  rintro e w3 ⟨rfl, hw3⟩
  have G3 := hide (And.intro (grown_trans G2.out.1 hw3) (And.intro (heap_kept G2.out.2.1 hw3 (by simp)) (heap_kept G2.out.2.2 hw3 (by simp))))
  clear hw3 hrk c0 c1 c2 G2
  go_wp2
  generalize w2.heap.size = g at *
  go_loopg [6, 18] N (fun k v i wr => ∃ j : Nat, k + j = N ∧ i = .int .i64 (j : Int) ∧ wr.ownsRow (g + 1) 52 2 v (prg W L j).length (spC (prg W L j)) ∧ wr.heap[w.heap.size]? = some (.cells #[.int .i64 (R : Int), .int .i64 (W : Int), .slice ao n cap] 25) ∧ wr.heap[g]? = some (.cells D.toArray 47) ∧ w.grownBy wr none)
  case atStart => exact ⟨0, by omega, rfl, World.ownsRow_nil _ _ _ _, G3.out.2.1, G3.out.2.2, G3.out.1⟩
  case round =>
    obtain ⟨j, hkj, rfl, hown, hbx, har, hg⟩ := hrel
    obtain ⟨vo, vc, rfl⟩ := span_form hown
    by_cases hk : 0 < gk
    · have hj : j < N := by omega
      have hj2 : (j : Int) < (N : Int) := by omega
      obtain ⟨c0, c1, c2⟩ := box3 hbx
      have hrng := range_row har hDl
      have hok := hrng.1
      have hof := hrng.2
      have HB := hide (And.intro hown (And.intro hbx (And.intro har hg)))
      have hps := HP.out.1 j
      have hpl := HP.out.2.1 j
      have hnx := HP.out.2.2 j
      have HPS := hide (And.intro hps (And.intro hpl hnx))
      clear hown hbx har hg hrng hps hnx hpl
      have Bj := hide (B.out j)
      cases hbg : bg W L j with
      | false =>
        rw [hbg] at Bj
        have HS := hide HPS.out.1
        rw [hbg] at HS
        clear hbg HPS
        go_wp2_with fail
        refine (Bj.out _).mono ?_
        rintro e w4 ⟨rfl, hw4⟩
        have G4 := hide hw4
        clear hw4
        go_wp2
        go_roundg (gk - 1)
        case measure => omega
        case rel =>
          obtain ⟨hown, hbx, har, hg⟩ := HB.out
          have e1 := HS.out
          simp at e1
          refine ⟨j + 1, by omega, by go_num, ?_, heap_kept hbx G4.out (by simp), heap_kept har G4.out (by simp), grown_trans hg G4.out⟩
          rw [e1]; exact span_grown hown G4.out
      | true =>
        rw [hbg] at Bj
        have HS := hide HPS.out.1
        rw [hbg] at HS
        go_wp2_with fail
        refine (Bj.out _).mono ?_
        rintro e w4 ⟨rfl, hw4⟩
        have G4 := hide hw4
        clear hw4 c0 c1 c2 hok hof
        go_wp2
        have HX := hide HPS.out.2.2
        have hpl := HPS.out.2.1
        clear hbg HPS Bj
        generalize nx W L j = xn at *
        have hx1 := HX.out.1
        have hx2 := HX.out.2.1
        obtain ⟨K, rfl⟩ : ∃ K, K = gk := ⟨_, rfl⟩
        go_loopg [6, 8] (xn - 1) (fun k v6 i wi => ∃ c : Nat, 1 ≤ c ∧ k + c = xn ∧ v6 = .slice vo (prg W L j).length vc ∧ i = .int .i64 (c : Int) ∧ wr.grownBy wi none)
        case atStart => exact ⟨1, by omega, by omega, rfl, rfl, G4.out⟩
        case round =>
          obtain ⟨c, hc1, hkc, rfl, rfl, hgi⟩ := hrel
          obtain ⟨hown, hbx, har, hg⟩ := HB.out
          have hbx2 := heap_kept hbx hgi (by simp)
          have har2 := heap_kept har hgi (by simp)
          obtain ⟨c0, c1, c2⟩ := box3 hbx2
          have hrng := range_row har2 hDl
          have hok := hrng.1
          have hof := hrng.2
          have hcW : (c : Int) ≤ (W : Int) := by omega
          have Bc := hide (B.out (j + c))
          have e1 : ((j + c : Nat) : Int) = (j : Int) + (c : Int) := by omega
          rw [e1] at Bc
          have HI := hide (And.intro hbx2 (And.intro har2 (And.intro (grown_trans hg hgi) (And.intro hgi (span_grown hown hgi)))))
          clear hown hbx har hg hbx2 har2 hrng e1 hgi
          by_cases hcx : c = xn
          · subst hcx
            rw [HX.out.2.2.1] at Bc
            go_wp2_with fail
            refine (Bc.out _).mono ?_
            rintro e w5 ⟨rfl, hw5⟩
            have G5 := hide hw5
            clear hw5 hok hof c0 c1 c2
            go_wp2_with (at_builtin; refine wpList_append_span rfl (.tmp 38) (.tmp 42) rfl (g + 1) (.slice vo (prg W L j).length vc) (prg W L j) rfl (span_grown (span_grown HI.out.2.2.2.2 G5.out) (grown_alloc _ _)) ⟨_, 0, none⟩ (j, c) rfl (cell2_new _ _ _ _) (by omega) ?_ ?_)
            · have h1 := row_lt (heap_kept HI.out.2.1 G5.out (by simp))
              simp; omega
            · intro v' w6 hown6 hg6
              have hne : ∀ k, k < g + 1 → (Value.slice vo (prg W L j).length vc).ownBlock ≠ some k := fun k hk e => by
                have := (HI.out.2.2.2.2.lt k e).1; omega
              have HK : Hid (_ ∧ _ ∧ _ ∧ _) := And.intro hown6 (And.intro (heap_kept (heap_kept (heap_kept HI.out.1 G5.out (by simp)) (grown_alloc _ _) (by simp)) hg6 (fun e => hne _ (by omega) e.symm)) (And.intro (heap_kept (heap_kept (heap_kept HI.out.2.1 G5.out (by simp)) (grown_alloc _ _) (by simp)) hg6 (fun e => hne _ (by omega) e.symm)) (grown_then (grown_trans (grown_trans HI.out.2.2.1 G5.out) (grown_alloc _ _)) hg6 (fun k e => Or.inl (by have := (HI.out.2.2.2.2.lt k e).1; omega)))))
              clear hown6 hg6 hne
              go_wp2
              go_roundg (K - 1)
              case measure => omega
              case rel =>
                obtain ⟨h1, h2, h3, h4⟩ := HK.out
                have e1 := HS.out
                simp at e1
                refine ⟨j + 1, by omega, by go_num, ?_, h2, h3, h4⟩
                rw [e1, List.length_append]; exact h1
          · rw [HX.out.2.2.2 c hc1 (by omega)] at Bc
            go_wp2_with fail
            refine (Bc.out _).mono ?_
            rintro e w5 ⟨rfl, hw5⟩
            have G5 := hide hw5
            clear hw5 hok hof c0 c1 c2
            go_wp2
            go_roundg (gk - 1)
            case measure => omega
            case rel => exact ⟨c + 1, by omega, by omega, rfl, by go_num, grown_trans HI.out.2.2.2.1 G5.out⟩
    · have hj : j = N := by omega
      subst hj
      have HB := hide (And.intro hown hg)
      clear hown hbx har hg
      go_wp2
      rw [Exit.noGoto_ret]
      go_ret2
      exact ⟨_, rfl, span_base HB.out.1 (by omega), HB.out.2⟩
end
set_option maxHeartbeats 1000000 in
theorem blocks_bad (R W : Int) (ao : Option Addr) (n cap : Nat) (L : List Int) (w : World) (hc : CbIn w ao n cap L) (ho : ¬ Ok R W L) :
    Calls Tryd.prog 6 #[cbV R W (.slice ao n cap)] w fun e w' => e = .returned (.tuple #[.slice none 0 0, .int .i64 2]) ∧ w.grownBy w' none := by
  have C := hide (fun w' (hg : w.grownBy w' none) => check_any R W ao n cap L w' (hc.grown hg))
  rw [code_no ho] at C
  clear hc ho
  unfold cbV at *
  go_enter Tryd.func6, Tryd.ntmps6
  go_wp2
  go_step3
  go_wp2_with fail
  refine (C.out _ (grown_alloc w _)).mono ?_
  rintro e w1 ⟨rfl, hw1⟩
  have G1 := hide (grown_trans (grown_alloc w _) hw1)
  clear hw1
  go_wp2
  rw [Exit.noGoto_ret]
  go_ret2
  exact ⟨rfl, G1.out⟩
end Go.Proofs.YtomoclicbjkpoabDoor
