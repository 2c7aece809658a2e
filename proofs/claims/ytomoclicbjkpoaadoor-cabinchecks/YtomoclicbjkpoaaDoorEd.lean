/- The document's Blocks. -/
import Derived.Test.YtomoclicbjkpoaaDoorEc
namespace Go.Proofs.YtomoclicbjkpoaaDoor
open Go.RowKit Cx
attribute [local go_sem ↓] Go.wp_at_zero Go.wp_at_succ

set_option maxHeartbeats 1000000 in
theorem dblocks_bad (R W : Int) (ao : Option Addr) (n cap : Nat) (L : List Int) (w : World) (hc : CbIn w ao n cap L) (ho : ¬ Ok R W L) :
    Calls Tryd.prog 15 #[cbV R W (.slice ao n cap)] w fun e w' => e = .returned (.tuple #[.slice none 0 0, .int .i64 2]) ∧ w.grownBy w' none := by
  have C := hide (fun w' (hg : w.grownBy w' none) => dcheck_any R W ao n cap L w' (hc.grown hg))
  rw [code_no ho] at C
  clear hc ho
  unfold cbV at *
  go_enter Tryd.func15, Tryd.ntmps15
  go_wp2_with fail
  refine (C.out _ (grown_alloc w _)).mono ?_
  rintro e w1 ⟨rfl, hw1⟩
  have G1 := hide (grown_trans (grown_alloc w _) hw1)
  clear hw1
  go_wp2
  go_ret2
  exact ⟨rfl, G1.out⟩
/-- The row behind the seat j is looked at, ahead of the count. -/
def docA (W : Nat) (L : List Int) (j : Nat) : List (Nat × Nat) := if bg W L j then doc W L j ++ [(j, 0)] else doc W L j
theorem docA_len (W : Nat) (L : List Int) (j : Nat) : (docA W L j).length ≤ j + 1 := by
  have := doc_len W L j
  unfold docA; split <;> simp <;> omega
theorem doc_cnt (W : Nat) (L : List Int) : ∀ n, ∀ p ∈ doc W L n, p.2 ≤ n
  | 0, p, h => by simp [doc] at h
  | n + 1, p, h => by
    have ih := doc_cnt W L n
    have hA : ∀ p ∈ docA W L n, p.2 ≤ n := by
      intro p hp
      unfold docA at hp
      split at hp
      · rcases List.mem_append.1 hp with h1 | h1
        · exact ih p h1
        · simp at h1; subst h1; exact Nat.zero_le _
      · exact ih p hp
    have e1 : doc W L (n + 1) = bump (docA W L n) := rfl
    rw [e1] at h
    unfold bump at h
    obtain ⟨i, hi⟩ := List.mem_iff_getElem?.1 h
    rw [List.getElem?_modify] at hi
    cases hx : (docA W L n)[i]? with
    | none => rw [hx] at hi; simp at hi
    | some q =>
      have hq := hA q (List.mem_of_getElem? hx)
      rw [hx] at hi
      simp only [Option.map_eq_map, Option.map_some, Option.some.injEq] at hi
      rw [← hi]
      split <;> simp <;> omega
theorem docA_cnt (W : Nat) (L : List Int) (n : Nat) : ∀ p ∈ docA W L n, p.2 ≤ n := by
  intro p hp
  unfold docA at hp
  split at hp
  · rcases List.mem_append.1 hp with h1 | h1
    · exact doc_cnt W L n p h1
    · simp at h1; subst h1; exact Nat.zero_le _
  · exact doc_cnt W L n p hp
theorem docA_set {W : Nat} {L : List Int} {j base : Nat} {v : Value} {w : World} (h : w.ownsRow base 53 2 v (docA W L j).length (spC (docA W L j))) :
    ∃ (g cap x i : Nat), v = .slice (some ⟨g, 0, none⟩) (i + 1) cap ∧ (docA W L j).length = i + 1 ∧ base ≤ g ∧ w.cell? ⟨g, i * 2 + 1, none⟩ = some (.int .i64 (x : Int)) ∧ w.frozen? ⟨g, i * 2 + 1, none⟩ = false ∧ x ≤ j ∧ i ≤ j ∧ i + 1 ≤ cap ∧ (w.setCell ⟨g, i * 2 + 1, none⟩ (.int .i64 ((x : Int) + 1))).ownsRow base 53 2 v (doc W L (j + 1)).length (spC (doc W L (j + 1))) := by
  have hne : docA W L j ≠ [] := doc_pos W L j
  have hpos : 0 < (docA W L j).length := by
    rcases Nat.eq_zero_or_pos (docA W L j).length with h0 | h0
    · exact absurd (List.eq_nil_of_length_eq_zero h0) hne
    · exact h0
  obtain ⟨p, hp, hs⟩ := spC_bump hne
  obtain ⟨g, cap, cur, hv, hb, hg, hcap, ht⟩ := span_row h hpos
  obtain ⟨-, hy⟩ := spC_get hp
  have hl := docA_len W L j
  have hx := docA_cnt W L j p (List.mem_of_getElem? hp)
  obtain ⟨i, hi⟩ : ∃ i, (docA W L j).length = i + 1 := ⟨(docA W L j).length - 1, by omega⟩
  have e1 : doc W L (j + 1) = bump (docA W L j) := rfl
  rw [hi] at hv hp hy hs hcap
  simp only [Nat.add_sub_cancel] at hp hy hs
  refine ⟨g, cap, p.2, i, hv, hi, hb, span_cell hg ht hy, free_row hg _, hx, by omega, hcap, ?_⟩
  subst hv
  rw [e1, bump_len, hs]
  rw [hi] at h ⊢
  exact span_set h (by rw [spC_len, hi]; omega)
set_option maxRecDepth 100000 in
set_option maxHeartbeats 2000000 in
theorem dblocks_ok (R W : Nat) (ao : Option Addr) (n cap : Nat) (L : List Int) (w : World) (hc : CbIn w ao n cap L) (ho : Ok R W L) :
    Calls Tryd.prog 15 #[cbV R W (.slice ao n cap)] w fun e w' => ∃ v, e = .returned (.tuple #[v, .int .i64 0]) ∧ w'.ownsRow w.heap.size 53 2 v (prg W L (R * W)).length (spC (prg W L (R * W))) ∧ w.grownBy w' none := by
  have C := hide (fun w' (hg : w.grownBy w' none) => dcheck_any R W ao n cap L w' (hc.grown hg))
  rw [code_ok ho] at C
  have hW := ho.2.2.1
  have h7 := ho.2.2.2.1
  have hR := ho.2.1
  have A := hide (fun i w' (hg : w.grownBy w' none) => aisle_any R W ao n cap L i w' (hc.grown hg))
  rw [← doc_all (by omega) L R]
  obtain ⟨N, hN⟩ : ∃ N, N = R * W := ⟨_, rfl⟩
  have hNN : (R : Int) * (W : Int) = (N : Int) := by rw [hN, Int.natCast_mul]
  have hN2 : N ≤ 64 * 16 := by rw [hN]; exact Nat.mul_le_mul (by omega) (by omega)
  have hwr : IntKind.i64.wrap ((R : Int) * (W : Int)) = (N : Int) := by rw [hNN]; exact IntWalk.i64_in _ (by omega)
  rw [← hN]
  have hW0 : ¬ W = 0 := by omega
  have hne : ((W : Int) == 0) = false := by simp; omega
  clear hc ho hN hNN
  unfold cbV at *
  go_enter Tryd.func15, Tryd.ntmps15
  go_wp2_with fail
  refine (C.out _ (grown_alloc w _)).mono ?_
  rintro e w1 ⟨rfl, hw1⟩
  have hb1 := box_kept hw1
  have hgl := row_lt hb1
  have G1 := hide (And.intro (grown_trans (grown_alloc w _) hw1) hb1)
  clear hw1 hb1
  go_wp2
  go_loopg [5, 6] N (fun k v i wr => ∃ j : Nat, k + j = N ∧ i = .int .i64 (j : Int) ∧ wr.ownsRow (w.heap.size + 1) 53 2 v (doc W L j).length (spC (doc W L j)) ∧ wr.heap[w.heap.size]? = some (.cells #[.int .i64 (R : Int), .int .i64 (W : Int), .slice ao n cap] 24) ∧ w.grownBy wr none)
  case atStart => exact ⟨0, by omega, rfl, World.ownsRow_nil _ _ _ _, G1.out.2, G1.out.1⟩
  case round =>
    obtain ⟨j, hkj, rfl, hown, hbx, hg⟩ := hrel
    obtain ⟨vo, vc, rfl⟩ := span_form hown
    obtain ⟨c0, c1, c2⟩ := box3 hbx
    by_cases hk : 0 < gk
    · have hj : j < N := by omega
      have hj2 : (j : Int) < (N : Int) := by omega
      have t1 := tmod_nat j W
      have t1' : (j : Int) % (W : Int) = ((j % W : Nat) : Int) := rfl
      have hq := Nat.mod_lt j (show W > 0 by omega)
      have hbg : bg W L j = (j % W == 0 || ai L (j % W)) := rfl
      have hdl := doc_len W L j
      have HD := hide (And.intro (show doc W L (j + 1) = bump (docA W L j) from rfl) (And.intro (show docA W L j ≠ [] from doc_pos W L j) (docA_len W L j)))
      have Aj := hide (A.out (j % W))
      have hyes : bg W L j = true → docA W L j = doc W L j ++ [(j, 0)] := fun h => by unfold docA; rw [if_pos h]
      have hno : bg W L j = false → docA W L j = doc W L j := fun h => by unfold docA; rw [h]; rfl
      have HB := hide (And.intro hown (And.intro hbx hg))
      clear hown hbx hg
      generalize j % W = q at *
      generalize ai L q = y at *
      clear HD
      by_cases h0 : q = 0
      · subst h0
        have hb : bg W L j = true := by rw [hbg]; rfl
        have e1 := hyes hb
        have HE := hide e1
        clear hyes hno hbg hb e1
        go_wp2_with (at_builtin; refine wpList_append_span rfl (.tmp 33) (.tmp 36) rfl (w.heap.size + 1) (.slice vo (doc W L j).length vc) (doc W L j) rfl (span_grown HB.out.1 (grown_alloc _ _)) ⟨_, 0, none⟩ (j, 0) rfl (cell2_new _ _ _ _) (by omega) ?_ ?_)
        · have h1 := row_lt HB.out.2.1
          simp; omega
        · intro v' w6 hown6 hg6
          rw [← HE.out] at hown6
          have hownA : w6.ownsRow (w.heap.size + 1) 53 2 v' (docA W L j).length (spC (docA W L j)) := by
            rw [show (docA W L j).length = (doc W L j).length + 1 by rw [HE.out]; simp]; exact hown6
          have hne6 : ∀ k, k < w.heap.size + 1 → (Value.slice vo (doc W L j).length vc).ownBlock ≠ some k := fun k hk e => by
            have := (HB.out.1.lt k e).1; omega
          have hbxA := heap_kept (heap_kept HB.out.2.1 (grown_alloc wr (.cells #[.int .i64 (j : Int), .int .i64 0] 53)) (by simp)) hg6 (fun e => hne6 _ (by omega) e.symm)
          have hgA := grown_then (grown_trans HB.out.2.2 (grown_alloc wr (.cells #[.int .i64 (j : Int), .int .i64 0] 53))) hg6 (fun k e => Or.inl (by have := (HB.out.1.lt k e).1; omega))
          clear hown6 hg6 hne6 c0 c1 c2
          obtain ⟨g, cap', x, i, rfl, hi, hbs, hcx, hfx, hxj, hij, hic, hset⟩ := docA_set hownA
          have i1 : (0 : Int) ≤ (i : Int) := by omega
          have hsub : ((i + 1 : Nat) : Int) - 1 = (i : Int) := by omega
          have HS : Hid (_ ∧ _ ∧ _ ∧ _) := And.intro hset (And.intro hbs (And.intro hbxA hgA))
          clear hset hbs hbxA hgA hownA hi
          go_wp2
          go_roundg (gk - 1)
          case measure => omega
          case rel =>
            obtain ⟨h1, h2, h3, h4⟩ := HS.out
            have s1 := grown_setCell w6 g (i * 2 + 1) (.int .i64 ((x : Int) + 1))
            exact ⟨j + 1, by omega, by go_num, h1, heap_kept h3 s1 (by intro e; simp at e; omega), grown_then h4 s1 (fun k e => by cases e; exact Or.inl (by omega))⟩
      · have h01 : (q == 0) = false := by simpa using h0
        have h02 : ((q : Int) == 0) = false := by simp; omega
        rw [h01, Bool.false_or] at hbg
        cases y
        · have e1 := hno hbg
          have HE := hide e1
          clear hyes hno hbg e1
          go_wp2_with fail
          refine (Aj.out _ HB.out.2.2).mono ?_
          rintro e w5 ⟨rfl, hw5⟩
          have hownA := span_grown HB.out.1 hw5
          rw [← HE.out] at hownA
          have hbxA := heap_kept HB.out.2.1 hw5 (by simp)
          have hgA := grown_trans HB.out.2.2 hw5
          clear hw5 c0 c1 c2
          obtain ⟨g, cap', x, i, hv, hi, hbs, hcx, hfx, hxj, hij, hic, hset⟩ := docA_set hownA
          injection hv with hv1 hv2 hv3
          subst hv1
          subst hv3
          have hdi : (doc W L j).length = i + 1 := by rw [← HE.out]; exact hi
          rw [hdi]
          rw [hi] at hset
          have i1 : (0 : Int) ≤ (i : Int) := by omega
          have hsub : ((i + 1 : Nat) : Int) - 1 = (i : Int) := by omega
          have HS : Hid (_ ∧ _ ∧ _ ∧ _) := And.intro hset (And.intro hbs (And.intro hbxA hgA))
          clear hset hbs hbxA hgA hownA hi hv2 hdi
          go_wp2
          go_roundg (gk - 1)
          case measure => omega
          case rel =>
            obtain ⟨h1, h2, h3, h4⟩ := HS.out
            have s1 := grown_setCell w5 g (i * 2 + 1) (.int .i64 ((x : Int) + 1))
            exact ⟨j + 1, by omega, by go_num, h1, heap_kept h3 s1 (by intro e; simp at e; omega), grown_then h4 s1 (fun k e => by cases e; exact Or.inl (by omega))⟩
        · have e1 := hyes hbg
          have HE := hide e1
          clear hyes hno hbg e1
          go_wp2_with fail
          refine (Aj.out _ HB.out.2.2).mono ?_
          rintro e w5 ⟨rfl, hw5⟩
          have G5 := hide (And.intro (span_grown HB.out.1 hw5) (And.intro (heap_kept HB.out.2.1 hw5 (by simp)) (grown_trans HB.out.2.2 hw5)))
          clear hw5 c0 c1 c2
          go_wp2_with (at_builtin; refine wpList_append_span rfl (.tmp 33) (.tmp 36) rfl (w.heap.size + 1) (.slice vo (doc W L j).length vc) (doc W L j) rfl (span_grown G5.out.1 (grown_alloc _ _)) ⟨_, 0, none⟩ (j, 0) rfl (cell2_new _ _ _ _) (by omega) ?_ ?_)
          · have h1 := row_lt G5.out.2.1
            simp; omega
          · intro v' w6 hown6 hg6
            rw [← HE.out] at hown6
            have hownA : w6.ownsRow (w.heap.size + 1) 53 2 v' (docA W L j).length (spC (docA W L j)) := by
              rw [show (docA W L j).length = (doc W L j).length + 1 by rw [HE.out]; simp]; exact hown6
            have hne6 : ∀ k, k < w.heap.size + 1 → (Value.slice vo (doc W L j).length vc).ownBlock ≠ some k := fun k hk e => by
              have := (G5.out.1.lt k e).1; omega
            have hbxA := heap_kept (heap_kept G5.out.2.1 (grown_alloc w5 (.cells #[.int .i64 (j : Int), .int .i64 0] 53)) (by simp)) hg6 (fun e => hne6 _ (by omega) e.symm)
            have hgA := grown_then (grown_trans G5.out.2.2 (grown_alloc w5 (.cells #[.int .i64 (j : Int), .int .i64 0] 53))) hg6 (fun k e => Or.inl (by have := (G5.out.1.lt k e).1; omega))
            clear hown6 hg6 hne6
            obtain ⟨g, cap', x, i, rfl, hi, hbs, hcx, hfx, hxj, hij, hic, hset⟩ := docA_set hownA
            have i1 : (0 : Int) ≤ (i : Int) := by omega
            have hsub : ((i + 1 : Nat) : Int) - 1 = (i : Int) := by omega
            have HS : Hid (_ ∧ _ ∧ _ ∧ _) := And.intro hset (And.intro hbs (And.intro hbxA hgA))
            clear hset hbs hbxA hgA hownA hi
            go_wp2
            go_roundg (gk - 1)
            case measure => omega
            case rel =>
              obtain ⟨h1, h2, h3, h4⟩ := HS.out
              have s1 := grown_setCell w6 g (i * 2 + 1) (.int .i64 ((x : Int) + 1))
              exact ⟨j + 1, by omega, by go_num, h1, heap_kept h3 s1 (by intro e; simp at e; omega), grown_then h4 s1 (fun k e => by cases e; exact Or.inl (by omega))⟩
    · have hj : j = N := by omega
      subst hj
      have HB := hide (And.intro hown hg)
      clear hown hbx hg
      have hnl : ¬ (j : Int) < (j : Int) := by omega
      go_wp2
      go_ret2
      exact ⟨_, rfl, span_base HB.out.1 (by omega), HB.out.2⟩
end Go.Proofs.YtomoclicbjkpoaaDoor
