/- Texts joined: Pk, Pq, Pr, Ps. -/
import Derived.Test.YtnnmaknjhfjojaaDoorJqAf
/- One party behind the other. -/
namespace Go.Proofs.YtnnmaknjhfjojaaDoor
open Go.RowKit Cx Pn
attribute [local go_sem ↓] Go.wp_at_zero Go.wp_at_succ

theorem pw_lt {ys : List Nat} (h : ys.Pairwise (· < ·)) {t i x y : Nat} (h1 : ys[t]? = some y) (h2 : ys[i]? = some x) (h3 : t < i) : y < x := by
  obtain ⟨a, rfl⟩ := List.getElem?_eq_some_iff.1 h1
  obtain ⟨b, rfl⟩ := List.getElem?_eq_some_iff.1 h2
  exact List.pairwise_iff_getElem.1 h t i a b h3
/-- A party is told its seats, or that there are not as many. -/
theorem seat_two {B M : Nat} {k : Int} {S : List Bool} {bb : Nat → Bool} {e : Ending} {w' : World} (hl : S.length = M) (h : SeatP B (dr (fr S) bb M) k e w') (h1 : 1 ≤ k) (h2 : k ≤ 16) :
    ∃ (v : Value) (n' : Nat) (ys : List Nat) (c : Int), e = .returned (.tuple #[v, .int .i64 c]) ∧ w'.ownsRow B 3 1 v n' ((ni ys).map (Value.int .i64)) ∧ ys.length = n' ∧ ys.Pairwise (· < ·) ∧ (∀ x ∈ ys, x < M ∧ S[x]? = some false) ∧ ((c = 0 ∧ (n' : Int) = k ∧ k + (Bt.cntL S : Int) ≤ (M : Int)) ∨ (c = 6 ∧ n' = 0 ∧ (M : Int) < k + (Bt.cntL S : Int))) := by
  have hs := dr_sum (fr S) bb M
  have hc := fc_all S
  rw [hl] at hc
  rcases h with ⟨h, -⟩ | ⟨n, rfl, h3, h4, ⟨h5, rfl⟩ | ⟨h5, v, ps, rfl, hgr, hown⟩⟩
  · omega
  · exact ⟨_, 0, [], 6, rfl, ⟨rfl, Or.inl ⟨rfl, rfl⟩⟩, rfl, List.Pairwise.nil, (fun x hx => by cases hx), Or.inr ⟨rfl, rfl, by omega⟩⟩
  · refine ⟨v, n, _, 0, rfl, hown, srt_len (dr_ris _ _ _) hgr, srt_rise (dr_ris _ _ _) hgr _ (Nat.le_refl _), fun x hx => ?_, Or.inl ⟨rfl, rfl, by omega⟩⟩
    obtain ⟨a, c⟩ := srt_free hgr hx
    exact ⟨a, fr_some (by omega) c⟩

set_option maxRecDepth 20000 in
set_option maxHeartbeats 4000000 in
theorem gone_any (R W o : Int) (ao : Option Addr) (n cap : Nat) (L : List Int) (to : Option Addr) (m tc : Nat) (T : List Int) (po : Option Addr) (q pc : Nat) (Q : List Int) (w : World) (hc : CbIn w ao n cap L) (ht : CbIn w to m tc T) (hq : CbIn w po q pc Q) (hT : Bt.Tab w) :
    Calls Tryd.prog 6 #[askV R W (.slice ao n cap) (.slice to m tc) o, .slice po q pc] w fun e w' => e = .returned (.bool true) ∧ w.grownBy w' none := by
  have hG := grown_alloc w (.cells #[.int .i64 R, .int .i64 W, .slice ao n cap, .slice to m tc, .int .i64 o] 41)
  have hX := heap_alloc_new w (.cells #[.int .i64 R, .int .i64 W, .slice ao n cap, .slice to m tc, .int .i64 o] 41)
  have HA := hide (awake_any _ (Tab_grown hT hG))
  have HS := hide (fun w' (hg : w.grownBy w' none) => set_any R W 0 ao n cap L to m tc T w' (hc.grown hg) (ht.grown hg) (by have := Tab.pos hT; have := hg.size; omega))
  have HN := hide (fun w' (hg : w.grownBy w' none) => nseats_any R W ao n cap L w' (hc.grown hg))
  have HC := hide (fun w' (hg : w.grownBy w' none) => copyCabin_any R W ao n cap L w' (hc.grown hg))
  have H0 := hide (And.intro hc (And.intro ht (And.intro hT hq)))
  have HX := hide (And.intro hG hX)
  have hql := hq.len
  have hqs := hq.sm
  clear hc ht hq hT hG hX
  unfold askV at *
  unfold cbV at *
  go_enter Tryd.func6, Tryd.ntmps6
  go_wp2_with fail
  refine HA.out.mono ?_
  rintro e w1 ⟨rfl, hg1⟩
  have hb1 := heap_kept HX.out.2 hg1 (by simp)
  have G1 := hide (grown_trans HX.out.1 hg1)
  have f4 := free_row hb1 4
  have hb2 : (w1.setCell ⟨w.heap.size, 4, none⟩ (.int .i64 0)).heap[w.heap.size]? = some (.cells #[.int .i64 R, .int .i64 W, .slice ao n cap, .slice to m tc, .int .i64 0] 41) := row_setCell (l := [.int .i64 R, .int .i64 W, .slice ao n cap, .slice to m tc, .int .i64 o]) hb1 4 _
  obtain ⟨b0, b1, b2, b3, b4⟩ := box5 hb1
  obtain ⟨c0, c1, c2, c3, c4⟩ := box5 hb2
  have G2 := hide (And.intro hb2 (grown_then G1.out (grown_setCell w1 w.heap.size 4 (.int .i64 0)) (fun k e => by cases e; exact Or.inl (Nat.le_refl _))))
  clear hb1 hb2 hg1
  go_wp2_with fail
  refine (HS.out _ G2.out.2).mono ?_
  rintro e w3 ⟨b, g, rfl, hset3, hb3, hg3, hgw3⟩
  have hsz2 := row_lt G2.out.1
  have e5 := box5 (heap_kept G2.out.1 hgw3 (by simp))
  obtain ⟨b0, b1, b2, b3, b4⟩ := e5
  have G3 := hide (And.intro hset3 (And.intro (show w.heap.size < b by omega) (And.intro (show w.heap.size < g by omega) (And.intro (heap_kept G2.out.1 hgw3 (by simp)) (grown_trans G2.out.2 hgw3)))))
  clear hset3 hb3 hg3 hgw3 c0 c1 c2 c3 c4 f4 hsz2
  go_wp2_with fail
  refine (HN.out _ G3.out.2.2.2.2).mono ?_
  rintro e w4 ⟨rfl, hg4⟩
  have G4 := hide (And.intro (Set_grown G3.out.1 hg4) (And.intro G3.out.2.1 (And.intro G3.out.2.2.1 (And.intro (heap_kept G3.out.2.2.2.1 hg4 (by simp)) (grown_trans G3.out.2.2.2.2 hg4)))))
  have hL := hide (tkL_len (bdN R W L 0) T)
  clear hg4 b0 b1 b2 b3 b4
  by_cases ho : Ok R W L
  · obtain ⟨r, c, rfl, rfl, hbd, hst, hM1, hM2⟩ := bd_ok ho
    rw [hbd] at G4 hL ⊢
    rw [hst]
    have HO := hide ho
    clear hbd hst ho G3
    generalize hM : r * c = M at *
    have HM := hide hM
    clear hM
    have hz : (((M : Nat) : Int) == 0) = false := by simp; omega
    have hSL := hL.out
    clear hL
    generalize tkL M T = S at *
    go_wp2
    have hMc := Bt.cntL_le S
    have hlen0 := G4.out.2.2.2.2.size
    have hwB : w.heap.size < w4.heap.size := row_lt G4.out.2.2.2.1
    have HQ := hide (And.intro H0.out.2.2.2 hql)
    clear hql hMc hlen0
    go_loopg [8] q (fun k i wr => ∃ (j : Nat) (S' : List Bool), k + j = q ∧ i = .int .i64 (j : Int) ∧ Bt.SetAt wr b g S' ∧ S'.length = M ∧ wr.heap[w.heap.size]? = some (.cells #[.int .i64 (r : Int), .int .i64 (c : Int), .slice ao n cap, .slice to m tc, .int .i64 0] 41) ∧ w.grownBy wr none)
    case atStart => exact ⟨0, S, by omega, rfl, G4.out.1, hSL, G4.out.2.2.2.1, G4.out.2.2.2.2⟩
    case round =>
      obtain ⟨j, S', hkj, rfl, hset, hSl, hbx, hgw⟩ := hrel
      have HB := hide (And.intro hset (And.intro hbx hgw))
      have HSl := hide hSl
      clear hset hbx hgw hSl hSL hz hwB
      by_cases hk : 0 < gk
      · by_cases h30 : (j : Int) < 30
        · have hj : j < Q.length := by rw [HQ.out.2]; omega
          obtain ⟨a, rfl, hcell⟩ := (HQ.out.1.grown HB.out.2.2).cell hj
          have h5 : (0 : Int) ≤ (j : Int) := by omega
          have h6 : (j : Int) < (q : Int) := by omega
          generalize Q[j] = x at *
          go_wp2_with fail
          refine (pick16 x wr).mono ?_
          rintro e w5 ⟨u, hu, rfl, rfl⟩
          have hcc := Bt.cntL_le S'
          rw [HSl.out] at hcc
          have HCt := hide (Bt.count_any b g S' w5 HB.out.1)
          obtain ⟨cc, hcc'⟩ : ∃ cc, cc = Bt.cntL S' := ⟨_, rfl⟩
          rw [← hcc'] at hcc HCt
          have HCC := hide hcc'
          clear hcc' hcell
          go_wp2_with fail
          refine HCt.out.mono ?_
          rintro e w6 ⟨rfl, rfl⟩
          obtain ⟨b0, b1, b2, b3, b4⟩ := box5 HB.out.2.1
          go_wp2_with fail
          refine (HC.out _ HB.out.2.2).mono ?_
          rintro e w7 ⟨ao', cap', rfl, hc7, hg7⟩
          have H7 := hide (And.intro hc7 hg7)
          clear hc7 hg7 b0 b1 b2 b3 b4 HCt
          go_wp2_with fail
          have HW := grown_trans HB.out.2.2 H7.out.2
          refine (seat_ok r c ao' n cap' L b g S' (1 + (u : Int)) w7 H7.out.1 HO.out (Set_grown HB.out.1 H7.out.2) (H0.out.2.2.1.kept HW (by simp)) (by rw [HSl.out, HM.out])).mono ?_
          rintro e w8 ⟨hse, hg8⟩
          rw [HM.out] at hse
          obtain ⟨v, n', ys, ec, rfl, hown, hyl, hyp, hyf, hcase⟩ := seat_two HSl.out hse (by omega) (by omega)
          rw [← HCC.out] at hcase
          have hgw7 := Nat.lt_of_lt_of_le (HB.out.1.lt.2) H7.out.2.size
          obtain ⟨ao8, cap8, hv8, hl8, -, -, -, -, -⟩ := own_at hown
          subst hv8
          have H8 := hide (And.intro (Set_grown HB.out.1 (grown_trans H7.out.2 hg8)) (And.intro (heap_kept HB.out.2.1 (grown_trans H7.out.2 hg8) (by simp)) (And.intro (grown_trans HW hg8) (And.intro hown (And.intro hgw7 (And.intro hyl (And.intro hyp hyf)))))))
          have hn16 : n' ≤ 16 := by rcases hcase with ⟨-, h, -⟩ | ⟨-, h, -⟩ <;> omega
          clear hse hown hg8 HW hgw7 hyl hyp hyf hl8
          rcases hcase with ⟨rfl, hn', hf⟩ | ⟨rfl, hn', hf⟩
          · have h9 : 1 + (u : Int) ≤ (M : Int) - (cc : Int) := by omega
            obtain ⟨ok, hok⟩ : ∃ ok, ok = gk := ⟨_, rfl⟩
            have HF := hide (And.intro hn' hf)
            clear hn' hf
            go_wp2
            have hgg := G4.out.2.2.1
            go_loopg [13] n' (fun k i w' => ∃ (t : Nat) (S2 : List Bool), k + t = n' ∧ i = .int .i64 (t : Int) ∧ Bt.SetAt w' b g S2 ∧ S2.length = M ∧ Bt.cntL S2 = cc + t ∧ (∀ i x, t ≤ i → ys[i]? = some x → S2[x]? = some false) ∧ w'.heap[w.heap.size]? = some (.cells #[.int .i64 (r : Int), .int .i64 (c : Int), .slice ao n cap, .slice to m tc, .int .i64 0] 41) ∧ w.grownBy w' none ∧ w'.ownsRow w7.heap.size 3 1 (.slice ao8 n' cap8) n' ((ni ys).map (Value.int .i64)))
            case atStart =>
              obtain ⟨z1, z2, z3, z4, z5, z6, z7, z8⟩ := H8.out
              exact ⟨0, S', by omega, rfl, z1, HSl.out, HCC.out.symm, fun i x _ hx => (z8 x (List.mem_of_getElem? hx)).2, z2, z3, z4⟩
            case round =>
              obtain ⟨t, S2, hkt, rfl, hs2, hl2, hc2, hf2, hb2, hg2, ho2⟩ := hrel
              have HI := hide (And.intro hs2 (And.intro hl2 (And.intro hc2 (And.intro hf2 (And.intro hb2 (And.intro hg2 ho2))))))
              clear hs2 hl2 hc2 hf2 hb2 hg2 ho2
              by_cases hk2 : 0 < gk
              · have ht : t < ys.length := by rw [H8.out.2.2.2.2.2.1]; omega
                obtain ⟨y, hy⟩ : ∃ y, ys[t]? = some y := ⟨_, List.getElem?_eq_getElem ht⟩
                have hyM := (H8.out.2.2.2.2.2.2.2 y (List.mem_of_getElem? hy)).1
                have hyf := HI.out.2.2.2.1 t y (Nat.le_refl _) hy
                obtain ⟨ao9, cap9, e9, -, -, -, at9, -, -⟩ := own_at HI.out.2.2.2.2.2.2
                cases e9
                obtain ⟨a8, rfl, hcell⟩ := at9 t (y : Int) (by simp [ni, hy])
                have HH := Bt.has_any b g S2 y _ HI.out.1 (by rw [HI.out.2.1]; exact hyM)
                have e0 : S2.getD y false = false := by rw [List.getD_eq_getElem?_getD, hyf]; rfl
                rw [e0] at HH
                have HHd := hide HH
                have HY := hide (And.intro hy hyf)
                have HyM := hide hyM
                have h55 : (0 : Int) ≤ (t : Int) := by omega
                have h66 : (t : Int) < (n' : Int) := by omega
                clear HH e0 at9 hy hyf ht hyM hgg
                go_wp2_with fail
                refine HHd.out.mono ?_
                rintro e wA ⟨rfl, hgA⟩
                have hcell' := hgA.cell hcell (by simp)
                have GA := hide hgA
                clear hcell hgA
                go_wp2_with fail
                refine (Bt.put_any b g S2 y wA (Set_grown HI.out.1 GA.out) (by rw [HI.out.2.1]; exact HyM.out)).mono ?_
                rintro e wB ⟨rfl, hsB, hgB⟩
                have GB := hide (And.intro hsB hgB)
                clear hsB hgB hcell'
                go_wp2
                go_roundg (gk - 1)
                case measure => omega
                case rel =>
                  obtain ⟨z1, z2, z3, z4, z5, z6, z7⟩ := HI.out
                  obtain ⟨hsB, hgB⟩ := GB.out
                  have hgg := G4.out.2.2.1
                  refine ⟨t + 1, S2.set y true, by omega, by go_num, hsB, by rw [List.length_set, z2], by rw [cntL_set HY.out.2, z3]; omega, fun i x hi hx => ?_, heap_kept (heap_kept z5 GA.out (by simp)) hgB (by simp; omega), grown_then (grown_trans z6 GA.out) hgB (fun k e => by cases e; exact Or.inl (by omega)), own_below (own_grown z7 GA.out) hgB H8.out.2.2.2.2.1⟩
                  have := pw_lt H8.out.2.2.2.2.2.2.1 HY.out.1 hx (by omega)
                  rw [List.getElem?_set_ne (by omega)]
                  exact z4 i x (by omega) hx
              · have ht : t = n' := by omega
                subst ht
                have HCt := hide (Bt.count_any b g S2 _ HI.out.1)
                have hcx := HI.out.2.2.1
                rw [hcx] at HCt
                clear hcx hgg
                go_wp2_with fail
                refine HCt.out.mono ?_
                rintro e wA ⟨rfl, rfl⟩
                go_wp2
                go_roundg (ok - 1)
                case measure => omega
                case rel => exact ⟨j + 1, S2, by omega, by go_num, HI.out.1, HI.out.2.1, HI.out.2.2.2.2.1, HI.out.2.2.2.2.2.1⟩
          · have h9 : (M : Int) - (cc : Int) < 1 + (u : Int) := by omega
            obtain ⟨ok, hok⟩ : ∃ ok, ok = gk := ⟨_, rfl⟩
            have HF := hide (And.intro hn' hf)
            clear hn' hf
            go_wp2
            have hgg := G4.out.2.2.1
            go_loopg [13] n' (fun k i w' => ∃ (t : Nat) (S2 : List Bool), k + t = n' ∧ i = .int .i64 (t : Int) ∧ Bt.SetAt w' b g S2 ∧ S2.length = M ∧ Bt.cntL S2 = cc + t ∧ (∀ i x, t ≤ i → ys[i]? = some x → S2[x]? = some false) ∧ w'.heap[w.heap.size]? = some (.cells #[.int .i64 (r : Int), .int .i64 (c : Int), .slice ao n cap, .slice to m tc, .int .i64 0] 41) ∧ w.grownBy w' none ∧ w'.ownsRow w7.heap.size 3 1 (.slice ao8 n' cap8) n' ((ni ys).map (Value.int .i64)))
            case atStart =>
              obtain ⟨z1, z2, z3, z4, z5, z6, z7, z8⟩ := H8.out
              exact ⟨0, S', by omega, rfl, z1, HSl.out, HCC.out.symm, fun i x _ hx => (z8 x (List.mem_of_getElem? hx)).2, z2, z3, z4⟩
            case round =>
              obtain ⟨t, S2, hkt, rfl, hs2, hl2, hc2, hf2, hb2, hg2, ho2⟩ := hrel
              have HI := hide (And.intro hs2 (And.intro hl2 (And.intro hc2 (And.intro hf2 (And.intro hb2 (And.intro hg2 ho2))))))
              clear hs2 hl2 hc2 hf2 hb2 hg2 ho2
              by_cases hk2 : 0 < gk
              · have ht : t < ys.length := by rw [H8.out.2.2.2.2.2.1]; omega
                obtain ⟨y, hy⟩ : ∃ y, ys[t]? = some y := ⟨_, List.getElem?_eq_getElem ht⟩
                have hyM := (H8.out.2.2.2.2.2.2.2 y (List.mem_of_getElem? hy)).1
                have hyf := HI.out.2.2.2.1 t y (Nat.le_refl _) hy
                obtain ⟨ao9, cap9, e9, -, -, -, at9, -, -⟩ := own_at HI.out.2.2.2.2.2.2
                cases e9
                obtain ⟨a8, rfl, hcell⟩ := at9 t (y : Int) (by simp [ni, hy])
                have HH := Bt.has_any b g S2 y _ HI.out.1 (by rw [HI.out.2.1]; exact hyM)
                have e0 : S2.getD y false = false := by rw [List.getD_eq_getElem?_getD, hyf]; rfl
                rw [e0] at HH
                have HHd := hide HH
                have HY := hide (And.intro hy hyf)
                have HyM := hide hyM
                have h55 : (0 : Int) ≤ (t : Int) := by omega
                have h66 : (t : Int) < (n' : Int) := by omega
                clear HH e0 at9 hy hyf ht hyM hgg
                go_wp2_with fail
                refine HHd.out.mono ?_
                rintro e wA ⟨rfl, hgA⟩
                have hcell' := hgA.cell hcell (by simp)
                have GA := hide hgA
                clear hcell hgA
                go_wp2_with fail
                refine (Bt.put_any b g S2 y wA (Set_grown HI.out.1 GA.out) (by rw [HI.out.2.1]; exact HyM.out)).mono ?_
                rintro e wB ⟨rfl, hsB, hgB⟩
                have GB := hide (And.intro hsB hgB)
                clear hsB hgB hcell'
                go_wp2
                go_roundg (gk - 1)
                case measure => omega
                case rel =>
                  obtain ⟨z1, z2, z3, z4, z5, z6, z7⟩ := HI.out
                  obtain ⟨hsB, hgB⟩ := GB.out
                  have hgg := G4.out.2.2.1
                  refine ⟨t + 1, S2.set y true, by omega, by go_num, hsB, by rw [List.length_set, z2], by rw [cntL_set HY.out.2, z3]; omega, fun i x hi hx => ?_, heap_kept (heap_kept z5 GA.out (by simp)) hgB (by simp; omega), grown_then (grown_trans z6 GA.out) hgB (fun k e => by cases e; exact Or.inl (by omega)), own_below (own_grown z7 GA.out) hgB H8.out.2.2.2.2.1⟩
                  have := pw_lt H8.out.2.2.2.2.2.2.1 HY.out.1 hx (by omega)
                  rw [List.getElem?_set_ne (by omega)]
                  exact z4 i x (by omega) hx
              · have ht : t = n' := by omega
                subst ht
                have HCt := hide (Bt.count_any b g S2 _ HI.out.1)
                have hcx := HI.out.2.2.1
                rw [hcx] at HCt
                clear hcx hgg
                go_wp2_with fail
                refine HCt.out.mono ?_
                rintro e wA ⟨rfl, rfl⟩
                go_wp2
                go_roundg (ok - 1)
                case measure => omega
                case rel => exact ⟨j + 1, S2, by omega, by go_num, HI.out.1, HI.out.2.1, HI.out.2.2.2.2.1, HI.out.2.2.2.2.2.1⟩
        · go_wp2
          go_ret
          exact ⟨rfl, HB.out.2.2⟩
      · have hj : j = q := by omega
        subst hj
        go_wp2
        go_ret
        exact ⟨rfl, HB.out.2.2⟩
  · have hst : stN R W L = 0 := by unfold stN; rw [if_neg ho]
    rw [hst]
    clear hst ho
    go_wp2
    go_ret
    exact ⟨rfl, G4.out.2.2.2.2⟩
end Go.Proofs.YtnnmaknjhfjojaaDoor
/- Rows of numbers by a function; which run a seat lies in. -/
namespace Go.Proofs.YtnnmaknjhfjojaaDoor
open Go.RowKit Cx Pn

/-- A row of m numbers. -/
def rowF (m : Nat) (X : Nat → Nat) : List Value := (List.range m).map fun j => Value.int .i64 (X j : Int)
theorem rowF_len (m : Nat) (X : Nat → Nat) : (rowF m X).length = m := by simp [rowF]
theorem rowF_get {m j : Nat} (X : Nat → Nat) (h : j < m) : (rowF m X)[j]? = some (Value.int .i64 (X j : Int)) := by simp [rowF, h]
theorem rowF_congr {m : Nat} {X Y : Nat → Nat} (h : ∀ j, j < m → X j = Y j) : rowF m X = rowF m Y := by
  unfold rowF
  apply List.map_congr_left
  intro j hj
  rw [h j (List.mem_range.1 hj)]
theorem rowF_set (m p v : Nat) (X : Nat → Nat) : (rowF m X).set p (Value.int .i64 (v : Int)) = rowF m fun j => if j = p then v else X j := by
  apply List.ext_getElem?
  intro j
  rw [List.getElem?_set]
  by_cases h : p = j
  · subst h
    rw [if_pos rfl, rowF_len]
    by_cases hp : p < m
    · rw [if_pos hp, rowF_get _ hp, if_pos rfl]
    · rw [if_neg hp, List.getElem?_eq_none (by rw [rowF_len]; omega)]
  · rw [if_neg h]
    by_cases hp : j < m
    · rw [rowF_get _ hp, rowF_get _ hp, if_neg (fun e => h e.symm)]
    · rw [List.getElem?_eq_none (by rw [rowF_len]; omega), List.getElem?_eq_none (by rw [rowF_len]; omega)]
theorem rowF_zero (m : Nat) : rowF m (fun _ => 0) = List.replicate m (Value.int .i64 0) := by
  unfold rowF
  rw [List.map_const']
  simp
theorem rowF_cell {w : World} {g m j : Nat} {X : Nat → Nat} (h : w.heap[g]? = some (.cells (rowF m X).toArray 3)) (hj : j < m) : w.cell? ⟨g, j, none⟩ = some (.int .i64 (X j : Int)) := by
  rw [cell_row h, rowF_get _ hj]
theorem make_all (n : Nat) (h0 : 1 ≤ n) (h : n ≤ 2000) (w : World) : (Instr.makeSlice 22 (.int .i64 (n : Int)) (.int .i64 (n : Int))).run Tryd.prog w = .ok (.slice (some ⟨w.heap.size, 0, none⟩) n n) (w.alloc (.cells (rowF n fun _ => 0).toArray 3)) := by
  obtain ⟨i0, hi, hz0, hz1, hz2⟩ := info_parts Tryd.info3
  have h1 : (n : Int).toNat = n := Int.toNat_natCast n
  have h2 : (Value.int .i64 0).cells = #[Value.int .i64 0] := rfl
  rw [run_make (P := Tryd.prog) (w := w) 22 3 i0 (.int .i64 0) Tryd.underlying22 hi hz0 .i64 .i64 (n : Int) (n : Int) (by omega) (by omega) (by rw [hz2]; omega) (by omega), hz1, h1, h2, Nat.mul_one, made_ints, rowF_zero]

/-- The run that a seat lies in, from 1 on, of the first i runs; 0 if it lies in none. -/
def at0 (f b : Nat → Bool) (i x : Nat) : Nat := if f x = true ∧ st f b (x + 1) ≤ i then st f b (x + 1) else 0
/-- The same with the first t seats of the next run, which begins with p. -/
def at1 (f b : Nat → Bool) (i p t x : Nat) : Nat := if p ≤ x ∧ x < p + t then i + 1 else at0 f b i x
theorem at0_zero (f b : Nat → Bool) (x : Nat) : at0 f b 0 x = 0 := by
  unfold at0
  split
  · rename_i h; have := st_pos (b := b) h.1; omega
  · rfl
theorem at1_zero (f b : Nat → Bool) (i p x : Nat) : at1 f b i p 0 x = at0 f b i x := by
  unfold at1; rw [if_neg (by omega)]
theorem at1_step (f b : Nat → Bool) (i p t x : Nat) : (if x = p + t then i + 1 else at1 f b i p t x) = at1 f b i p (t + 1) x := by
  unfold at1
  by_cases h : x = p + t
  · rw [if_pos h, if_pos (by omega)]
  · rw [if_neg h]
    by_cases h2 : p ≤ x ∧ x < p + t
    · rw [if_pos h2, if_pos (by omega)]
    · rw [if_neg h2, if_neg (by omega)]
theorem at1_end {f b : Nat → Bool} {M i : Nat} {p : Nat × Nat} (h : (dr f b M)[i]? = some p) {x : Nat} (hx : x < M) : at1 f b i p.1 p.2 x = at0 f b (i + 1) x := by
  obtain ⟨h1, h2, h3⟩ := (dr_is f b M).is i p h
  have h4 := h3 x
  unfold at1 at0
  by_cases h5 : p.1 ≤ x ∧ x < p.1 + p.2
  · obtain ⟨a, c, d⟩ := h4.1 h5
    rw [if_pos h5, if_pos ⟨c, by omega⟩, d]
  · rw [if_neg h5]
    by_cases h6 : f x = true ∧ st f b (x + 1) ≤ i
    · rw [if_pos h6, if_pos ⟨h6.1, by omega⟩]
    · rw [if_neg h6, if_neg]
      rintro ⟨a, c⟩
      have : st f b (x + 1) = i + 1 := by
        rcases Nat.lt_or_ge i (st f b (x + 1)) with g | g
        · omega
        · exact absurd ⟨a, g⟩ h6
      exact h5 (h4.2 ⟨hx, a, this⟩)
/-- Behind all runs. -/
theorem at0_all {f b : Nat → Bool} {M x : Nat} (hx : x < M) : at0 f b (dr f b M).length x = if f x = true then st f b (x + 1) else 0 := by
  have h1 := (dr_is f b M).len
  have h2 := st_mono (f := f) (b := b) (show x + 1 ≤ M by omega)
  unfold at0
  by_cases h : f x = true
  · rw [if_pos ⟨h, by omega⟩, if_pos h]
  · rw [if_neg (fun e => h e.1), if_neg h]
theorem fr_no {S : List Bool} {x : Nat} (hx : x < S.length) : fr S x = !S.getD x false := fr_of hx
/-- Two seats beside one another that are free lie in one run, or a block begins between them. -/
theorem st_next {f b : Nat → Bool} {t : Nat} (h0 : f t = true) (h1 : f (t + 1) = true) : (st f b (t + 1) = st f b (t + 2) ↔ b (t + 1) = false) := by
  have e : st f b (t + 2) = st f b (t + 1) + (if sta f b (t + 1) then 1 else 0) := rfl
  have e2 : sta f b (t + 1) = b (t + 1) := by unfold sta; simp [h0, h1]
  rw [e, e2]
  cases b (t + 1) <;> simp
theorem bes_next (W : Nat) (L : List Int) (t : Nat) : bes W L t (t + 1) = !bg W L (t + 1) := by
  unfold bes
  rw [Nat.max_eq_right (by omega), Nat.min_eq_left (by omega)]
  simp
/-- What is seen of a seat and the one ahead of it. -/
theorem at_beside {f : Nat → Bool} {W : Nat} {L : List Int} {M i t : Nat} {X' X : Int} {V : Bool} (ht : i = t + 1) (hi : i < M) (hX' : X' = ((at0 f (bg W L) (dr f (bg W L) M).length t : Nat) : Int)) (hX : X = ((at0 f (bg W L) (dr f (bg W L) M).length i : Nat) : Int)) (hV : V = bes W L t i) :
    decide (0 < X') = false ∨ (decide (0 < X') = true ∧ decide (0 < X) = false) ∨ (decide (0 < X') = true ∧ decide (0 < X) = true ∧ (X' == X) = V) := by
  subst ht
  rw [at0_all (by omega)] at hX' hX
  rw [bes_next] at hV
  by_cases h0 : f t = true
  · rw [if_pos h0] at hX'
    have p0 := st_pos (b := bg W L) h0
    by_cases h1 : f (t + 1) = true
    · rw [if_pos h1] at hX
      have p1 := st_pos (b := bg W L) h1
      have hn := st_next (b := bg W L) h0 h1
      refine Or.inr (Or.inr ⟨by simp; omega, by simp; omega, ?_⟩)
      rw [hX', hX, hV]
      cases hb : bg W L (t + 1)
      · rw [hn.2 hb]; simp
      · have hne : st f (bg W L) (t + 1) ≠ st f (bg W L) (t + 1 + 1) := fun e => by have := hn.1 e; rw [hb] at this; cases this
        have : ((st f (bg W L) (t + 1) : Int) == (st f (bg W L) (t + 1 + 1) : Int)) = false := by
          rw [beq_eq_false_iff_ne]; omega
        rw [this]; rfl
    · rw [if_neg h1] at hX
      exact Or.inr (Or.inl ⟨by simp; omega, by simp; omega⟩)
  · rw [if_neg h0] at hX'
    exact Or.inl (by simp; omega)
end Go.Proofs.YtnnmaknjhfjojaaDoor
/- Runs are free seats beside one another, as many as lie there. -/
namespace Go.Proofs.YtnnmaknjhfjojaaDoor
open Go.RowKit Cx Pn
attribute [local go_sem ↓] Go.wp_at_zero Go.wp_at_succ

theorem runs_bad (R W : Int) (ao : Option Addr) (n cap : Nat) (L : List Int) (p : Option Addr) (w : World) (hc : CbIn w ao n cap L) (ho : ¬ Ok R W L) :
    Calls Tryd.prog 8 #[cbV R W (.slice ao n cap), .pointer p] w fun e w' => e = .returned (.tuple #[.slice none 0 0, .int .i64 2]) ∧ w.grownBy w' none :=
  runs_err (.slice none 0 0) 2 R W ao n cap p w (by omega) fun w' hg => blocksOf_bad R W ao n cap L p w' (hc.grown hg) ho
/-- The runs' row where there is a run. -/
theorem span_some {w : World} {base : Nat} {vo : Option Addr} {vc : Nat} {P : List (Nat × Nat)} (h : w.ownsRow base 46 2 (.slice vo P.length vc) P.length (spC P)) {i : Nat} {p : Nat × Nat} (hp : P[i]? = some p) :
    ∃ g0, vo = some ⟨g0, 0, none⟩ ∧ SpRow w g0 P := by
  have hi := (List.getElem?_eq_some_iff.1 hp).1
  obtain ⟨g0, c0, cur0, e0, hb0, hg0, -, ht0⟩ := span_row h (by omega)
  cases e0
  exact ⟨g0, rfl, cur0, hg0, ht0⟩

set_option maxRecDepth 40000 in
set_option maxHeartbeats 8000000 in
theorem pright_any (R W o : Int) (ao : Option Addr) (n cap : Nat) (L : List Int) (to : Option Addr) (m tc : Nat) (T : List Int) (w : World) (hc : CbIn w ao n cap L) (ht : CbIn w to m tc T) (hT : Bt.Tab w) :
    Calls Tryd.prog 4 #[askV R W (.slice ao n cap) (.slice to m tc) o] w fun e w' => e = .returned (.bool true) ∧ w.grownBy w' none := by
  have hG := grown_alloc w (.cells #[.int .i64 R, .int .i64 W, .slice ao n cap, .slice to m tc, .int .i64 o] 41)
  have hX := heap_alloc_new w (.cells #[.int .i64 R, .int .i64 W, .slice ao n cap, .slice to m tc, .int .i64 o] 41)
  have HA := hide (awake_any _ (Tab_grown hT hG))
  have HS := hide (fun w' (hg : w.grownBy w' none) => set_any R W 0 ao n cap L to m tc T w' (hc.grown hg) (ht.grown hg) (by have := Tab.pos hT; have := hg.size; omega))
  have HN := hide (fun w' (hg : w.grownBy w' none) => nseats_any R W ao n cap L w' (hc.grown hg))
  have HC := hide (fun w' (hg : w.grownBy w' none) => copyCabin_any R W ao n cap L w' (hc.grown hg))
  have H0 := hide (And.intro hc (And.intro ht (And.intro hT trivial)))
  have HX := hide (And.intro hG hX)
  clear hc ht hT hG hX
  unfold askV at *
  unfold cbV at *
  go_enter Tryd.func4, Tryd.ntmps4
  go_wp2_with fail
  refine HA.out.mono ?_
  rintro e w1 ⟨rfl, hg1⟩
  have hb1 := heap_kept HX.out.2 hg1 (by simp)
  have G1 := hide (grown_trans HX.out.1 hg1)
  have f4 := free_row hb1 4
  have hb2 : (w1.setCell ⟨w.heap.size, 4, none⟩ (.int .i64 0)).heap[w.heap.size]? = some (.cells #[.int .i64 R, .int .i64 W, .slice ao n cap, .slice to m tc, .int .i64 0] 41) := row_setCell (l := [.int .i64 R, .int .i64 W, .slice ao n cap, .slice to m tc, .int .i64 o]) hb1 4 _
  obtain ⟨b0, b1, b2, b3, b4⟩ := box5 hb1
  obtain ⟨c0, c1, c2, c3, c4⟩ := box5 hb2
  have G2 := hide (And.intro hb2 (grown_then G1.out (grown_setCell w1 w.heap.size 4 (.int .i64 0)) (fun k e => by cases e; exact Or.inl (Nat.le_refl _))))
  clear hb1 hb2 hg1
  go_wp2_with fail
  refine (HS.out _ G2.out.2).mono ?_
  rintro e w3 ⟨b, g, rfl, hset3, hb3, hg3, hgw3⟩
  have hsz2 := row_lt G2.out.1
  have e5 := box5 (heap_kept G2.out.1 hgw3 (by simp))
  obtain ⟨b0, b1, b2, b3, b4⟩ := e5
  have G3 := hide (And.intro hset3 (And.intro (show w.heap.size < b by omega) (And.intro (show w.heap.size < g by omega) (And.intro (heap_kept G2.out.1 hgw3 (by simp)) (grown_trans G2.out.2 hgw3)))))
  clear hset3 hb3 hg3 hgw3 c0 c1 c2 c3 c4 f4 hsz2
  go_wp2_with fail
  refine (HC.out _ G3.out.2.2.2.2).mono ?_
  rintro e w4 ⟨ao', cap', rfl, hc4, hg4⟩
  have G4 := hide (And.intro (Set_grown G3.out.1 hg4) (And.intro hc4 (And.intro (heap_kept G3.out.2.2.2.1 hg4 (by simp)) (grown_trans G3.out.2.2.2.2 hg4))))
  have hL := hide (tkL_len (bdN R W L 0) T)
  clear hg4 hc4 b0 b1 b2 b3 b4
  by_cases ho : Ok R W L
  · obtain ⟨r, c, rfl, rfl, hbd, hst, hM1, hM2⟩ := bd_ok ho
    rw [hbd] at G4 hL ⊢
    have HO := hide ho
    have hSL := hL.out
    have hR := hide (runs_ok r c ao' n cap' L b g _ w4 G4.out.2.1 ho G4.out.1 (H0.out.2.2.1.kept G4.out.2.2.2 (by simp)) hSL)
    clear hbd hst ho G3 hL
    generalize tkL (r * c) T = S at *
    generalize hM : r * c = M at *
    have HM := hide hM
    clear hM
    go_wp2_with fail
    refine hR.out.mono ?_
    clear hR
    rintro e w5 ⟨v, rfl, hown, hg5⟩
    obtain ⟨N, hN⟩ : ∃ N, N = (dr (fr S) (bg c L) M).length := ⟨_, rfl⟩
    obtain ⟨vo, vc, rfl⟩ := span_form hown
    have hdl := dr_len (fr S) (bg c L) M
    rw [← hN] at hdl
    have H5 := hide (And.intro (Set_grown G4.out.1 hg5) (And.intro (G4.out.2.1.grown hg5) (And.intro (heap_kept G4.out.2.2.1 hg5 (by simp)) (And.intro (grown_trans G4.out.2.2.2 hg5) hown))))
    rw [← hN]
    have HN' := hide hN
    have HSL := hide hSL
    clear hown hg5 hN hSL
    have hmk := make_all M hM1 (by omega) w5
    go_wp2
    have hgA := grown_alloc w5 (.cells (rowF M fun _ => 0).toArray 3)
    have hxA := heap_alloc_new w5 (.cells (rowF M fun _ => 0).toArray 3)
    have HA0 := hide (And.intro hgA hxA)
    generalize w5.alloc (.cells (rowF M fun _ => 0).toArray 3) = w6 at *
    clear hgA hxA hmk
    go_loopg [9] N (fun k i wr => ∃ j : Nat, k + j = N ∧ i = .int .i64 (j : Int) ∧ wr.heap[w5.heap.size]? = some (.cells (rowF M (at0 (fr S) (bg c L) j)).toArray 3) ∧ w5.grownBy wr none)
    case atStart =>
      refine ⟨0, by omega, rfl, ?_, HA0.out.1⟩
      rw [HA0.out.2, rowF_congr (Y := at0 (fr S) (bg c L) 0) (fun j _ => (at0_zero _ _ j).symm)]
    case round =>
      obtain ⟨j, hkj, rfl, hat, hgw⟩ := hrel
      have HB := hide (And.intro hat hgw)
      clear hat hgw
      by_cases hk : 0 < gk
      · obtain ⟨p, hp⟩ : ∃ p, (dr (fr S) (bg c L) M)[j]? = some p := ⟨_, List.getElem?_eq_getElem (by rw [← HN'.out]; omega)⟩
        obtain ⟨g0, rfl, hsp0⟩ := span_some H5.out.2.2.2.2 hp
        have hri := dr_ris (fr S) (bg c L) M
        have hsr := hsp0.kept HB.out.2 (by simp)
        have hrun := dr_pos (List.mem_of_getElem? hp)
        obtain ⟨x0, x1⟩ := hsr.in_ j p hp
        obtain ⟨F, C⟩ := p
        simp only at x0 x1 hrun
        have HS := hide (And.intro hp hsr)
        have h5 : (0 : Int) ≤ (j : Int) := by omega
        have h6 : (j : Int) < (N : Int) := by omega
        have hsub : IntKind.i64.wrap ((M : Int) - (C : Int)) = ((M - C : Nat) : Int) := by rw [IntKind.wrap_i64]; omega
        obtain ⟨D, hD⟩ : ∃ D : Int, D = ((M - C : Nat) : Int) := ⟨_, rfl⟩
        rw [← hD] at hsub
        obtain ⟨F1, hF1⟩ : ∃ F1 : Int, F1 = (F : Int) := ⟨_, rfl⟩
        obtain ⟨C1, hC1⟩ : ∃ C1 : Int, C1 = (C : Int) := ⟨_, rfl⟩
        rw [← hF1] at x0
        rw [← hC1] at x1 hsub
        have k1 : decide (C1 < 1) = false := by simp; omega
        have k2 : decide ((M : Int) < C1) = false := by simp; omega
        have k3 : decide (F1 < 0) = false := by simp; omega
        have k4 : decide (D < F1) = false := by simp; omega
        have HK := hide (And.intro hrun (And.intro hF1 (And.intro hC1 hD)))
        obtain ⟨ok, hok⟩ : ∃ ok, ok = gk := ⟨_, rfl⟩
        rcases Nat.eq_zero_or_pos j with e | e
        · have d0 : decide (0 < j) = false := by simp; omega
          have HE := hide e
          clear hrun hF1 hC1 hD hri hp hsp0 hsr e
          go_wp2
          go_quiet (fail)
          clear k1 k2 k3 k4 hsub x0 x1
          obtain ⟨x0, x1⟩ := HS.out.2.in_ j (F, C) HS.out.1
          simp only at x0 x1
          go_wp2
          go_loopg [10] C (fun k i w' => ∃ t : Nat, k + t = C ∧ i = .int .i64 (t : Int) ∧ w'.heap[w5.heap.size]? = some (.cells (rowF M (at1 (fr S) (bg c L) j F t)).toArray 3) ∧ w5.grownBy w' none)
          case atStart =>
            refine ⟨0, by omega, rfl, ?_, grown_trans HB.out.2 (grown_drewN _ _ _)⟩
            rw [heap_kept HB.out.1 (grown_drewN wr _ none) (by simp), rowF_congr (Y := at1 (fr S) (bg c L) j F 0) (fun x _ => (at1_zero _ _ j F x).symm)]
          case round =>
            obtain ⟨t, hkt, rfl, hat, hgw⟩ := hrel
            have HI := hide (And.intro hat hgw)
            have hsp2 := (span_some H5.out.2.2.2.2 HS.out.1)
            obtain ⟨g0', e0, hsp2⟩ := hsp2
            cases e0
            obtain ⟨x0, x1⟩ := (hsp2.kept hgw (by simp)).in_ j (F, C) HS.out.1
            simp only at x0 x1
            have hrun := HK.out.1
            by_cases hk2 : 0 < gk
            · obtain ⟨z, hz⟩ : ∃ z, z = F + t := ⟨_, rfl⟩
              have hzi : (F : Int) + (t : Int) = (z : Int) := by omega
              have hcl := rowF_cell hat (show z < M by omega)
              have hfz := free_row hat z
              have hz0 : (0 : Int) ≤ (z : Int) := by omega
              have hz1 : (z : Int) < (M : Int) := by omega
              have hset := row_setCell hat z (.int .i64 ((j + 1 : Nat) : Int))
              rw [rowF_set, rowF_congr (Y := at1 (fr S) (bg c L) j F (t + 1)) (fun x _ => by rw [hz]; exact at1_step _ _ j F t x)] at hset
              have HZ := hide (And.intro hset (grown_then hgw (grown_setCell _ w5.heap.size z (.int .i64 ((j + 1 : Nat) : Int))) (fun k e => by cases e; exact Or.inl (Nat.le_refl _))))
              have HZ2 := hide hz
              have ht0 : (t : Int) < (C : Int) := by omega
              clear hat hgw hsp2 hset hz hrun
              go_wp2
              go_roundg (gk - 1)
              case measure => omega
              case rel => exact ⟨t + 1, by omega, by go_num, HZ.out.1, HZ.out.2⟩
            · have ht : t = C := by omega
              subst ht
              clear hat hgw hsp2 hrun
              go_wp2
              go_roundg (ok - 1)
              case measure => omega
              case rel =>
                refine ⟨j + 1, by omega, by go_num, ?_, HI.out.2⟩
                rw [HI.out.1, rowF_congr (Y := at0 (fr S) (bg c L) (j + 1)) (fun x hx => at1_end HS.out.1 hx)]
        · obtain ⟨q, hq⟩ : ∃ q, (dr (fr S) (bg c L) M)[j - 1]? = some q := ⟨_, List.getElem?_eq_getElem (by have := (List.getElem?_eq_some_iff.1 hp).1; omega)⟩
          have hri' := dr_rise hq hp (by omega)
          have hrunq := dr_pos (List.mem_of_getElem? hq)
          obtain ⟨t, ht⟩ : ∃ t, t = j - 1 := ⟨_, rfl⟩
          rw [← ht] at hq
          obtain ⟨y0, y1⟩ := hsr.in_ t q hq
          obtain ⟨F', C'⟩ := q
          simp only at y0 y1 hri' hrunq
          have hw : IntKind.i64.wrap ((j : Int) - 1) = (t : Int) := by rw [IntKind.wrap_i64]; omega
          obtain ⟨F2, hF2⟩ : ∃ F2 : Int, F2 = (F' : Int) := ⟨_, rfl⟩
          obtain ⟨C2, hC2⟩ : ∃ C2 : Int, C2 = (C' : Int) := ⟨_, rfl⟩
          rw [← hF2] at y0
          rw [← hC2] at y1
          obtain ⟨E2, hE2⟩ : ∃ E2 : Int, E2 = F2 + C2 := ⟨_, rfl⟩
          have hw2 : IntKind.i64.wrap (F2 + C2) = E2 := by rw [IntKind.wrap_i64]; omega
          have k5 : decide (F1 < E2) = false := by simp; omega
          have ht0 : (0 : Int) ≤ (t : Int) := by omega
          have ht1 : (t : Int) < (N : Int) := by omega
          have d0 : decide (0 < j) = true := by simp; omega
          clear hrun hF1 hC1 hD hri hp hsp0 hsr e hri' hrunq hq ht hF2 hC2 hE2
          go_wp2
          go_quiet (fail)
          clear k1 k2 k3 k4 hsub x0 x1
          obtain ⟨x0, x1⟩ := HS.out.2.in_ j (F, C) HS.out.1
          simp only at x0 x1
          go_wp2
          go_loopg [10] C (fun k i w' => ∃ t : Nat, k + t = C ∧ i = .int .i64 (t : Int) ∧ w'.heap[w5.heap.size]? = some (.cells (rowF M (at1 (fr S) (bg c L) j F t)).toArray 3) ∧ w5.grownBy w' none)
          case atStart =>
            refine ⟨0, by omega, rfl, ?_, grown_trans HB.out.2 (grown_drewN _ _ _)⟩
            rw [heap_kept HB.out.1 (grown_drewN wr _ none) (by simp), rowF_congr (Y := at1 (fr S) (bg c L) j F 0) (fun x _ => (at1_zero _ _ j F x).symm)]
          case round =>
            obtain ⟨t, hkt, rfl, hat, hgw⟩ := hrel
            have HI := hide (And.intro hat hgw)
            have hsp2 := (span_some H5.out.2.2.2.2 HS.out.1)
            obtain ⟨g0', e0, hsp2⟩ := hsp2
            cases e0
            obtain ⟨x0, x1⟩ := (hsp2.kept hgw (by simp)).in_ j (F, C) HS.out.1
            simp only at x0 x1
            have hrun := HK.out.1
            by_cases hk2 : 0 < gk
            · obtain ⟨z, hz⟩ : ∃ z, z = F + t := ⟨_, rfl⟩
              have hzi : (F : Int) + (t : Int) = (z : Int) := by omega
              have hcl := rowF_cell hat (show z < M by omega)
              have hfz := free_row hat z
              have hz0 : (0 : Int) ≤ (z : Int) := by omega
              have hz1 : (z : Int) < (M : Int) := by omega
              have hset := row_setCell hat z (.int .i64 ((j + 1 : Nat) : Int))
              rw [rowF_set, rowF_congr (Y := at1 (fr S) (bg c L) j F (t + 1)) (fun x _ => by rw [hz]; exact at1_step _ _ j F t x)] at hset
              have HZ := hide (And.intro hset (grown_then hgw (grown_setCell _ w5.heap.size z (.int .i64 ((j + 1 : Nat) : Int))) (fun k e => by cases e; exact Or.inl (Nat.le_refl _))))
              have HZ2 := hide hz
              have ht0 : (t : Int) < (C : Int) := by omega
              clear hat hgw hsp2 hset hz hrun
              go_wp2
              go_roundg (gk - 1)
              case measure => omega
              case rel => exact ⟨t + 1, by omega, by go_num, HZ.out.1, HZ.out.2⟩
            · have ht : t = C := by omega
              subst ht
              clear hat hgw hsp2 hrun
              go_wp2
              go_roundg (ok - 1)
              case measure => omega
              case rel =>
                refine ⟨j + 1, by omega, by go_num, ?_, HI.out.2⟩
                rw [HI.out.1, rowF_congr (Y := at0 (fr S) (bg c L) (j + 1)) (fun x hx => at1_end HS.out.1 hx)]
      · have hj : j = N := by omega
        subst hj
        have HAT := hide (show wr.heap[w5.heap.size]? = some (.cells (rowF M (at0 (fr S) (bg c L) (dr (fr S) (bg c L) M).length)).toArray 3) ∧ w5.grownBy wr none by have h := HN'.out; rw [← h]; exact HB.out)
        clear HB
        obtain ⟨wz, hwz⟩ : ∃ wz, wz = wr := ⟨_, rfl⟩
        rw [← hwz] at HAT ⊢
        clear hwz
        go_wp2
        go_loopg [11] M (fun k i wx => ∃ j : Nat, k + j = M ∧ i = .int .i64 (j : Int) ∧ wz.grownBy wx none)
        case atStart => exact ⟨0, by omega, rfl, grown_refl _ _⟩
        case round =>
          obtain ⟨i, hki, rfl, hgx⟩ := hrel
          have HG := hide hgx
          by_cases hk2 : 0 < gk
          · have hi : i < M := by omega
            have hcl := rowF_cell (heap_kept HAT.out.1 hgx (by simp)) hi
            have hall := at0_all (f := fr S) (b := bg c L) hi
            obtain ⟨X, hX⟩ : ∃ X : Int, X = ((at0 (fr S) (bg c L) (dr (fr S) (bg c L) M).length i : Nat) : Int) := ⟨_, rfl⟩
            rw [← hX] at hcl
            have hfr := fr_of (S := S) (i := i) (by rw [HSL.out]; exact hi)
            have HHas := hide (fun w' (hg : wz.grownBy w' none) => Bt.has_any b g S i w' (Set_grown (Set_grown H5.out.1 HAT.out.2) hg) (by rw [HSL.out]; exact hi))
            have hX2 : (decide (0 < X) = true ∧ S.getD i false = false ∧ fr S i = true ∧ X = ((st (fr S) (bg c L) (i + 1) : Nat) : Int)) ∨ (decide (0 < X) = false ∧ S.getD i false = true ∧ fr S i = false ∧ X = 0) := by
              rw [hX, hall]
              cases hv : S.getD i false
              · rw [hv] at hfr
                have h1 : fr S i = true := hfr
                have := st_pos (b := bg c L) h1
                exact Or.inl ⟨by rw [if_pos h1]; simp; omega, rfl, h1, by rw [if_pos h1]⟩
              · rw [hv] at hfr
                have h1 : fr S i = false := hfr
                exact Or.inr ⟨by rw [if_neg (by rw [h1]; simp)]; simp, rfl, h1, by rw [if_neg (by rw [h1]; simp)]; rfl⟩
            have hi0 : (0 : Int) ≤ (i : Int) := by omega
            have hi1 : (i : Int) < (M : Int) := by omega
            have HI := hide hi
            have HX' := hide (And.intro hX hall)
            clear hall hX hfr hi hgx
            rcases hX2 with ⟨hp, hg', hfi, hXs⟩ | ⟨hp, hg', hfi, hXs⟩
            all_goals
              rw [hg'] at HHas
              have HF := hide (And.intro hfi hXs)
              clear hg' hfi hXs
              go_wp2
              go_region_held3 (fun w' => w'.cell? ⟨w5.heap.size, i, none⟩ = some (.int .i64 X)) (first | (exact hcl) | assumption | go_keep) ((go_at_call 14; refine (HHas.out _ ?_).mono ?_; exact (grown_trans HG.out (grown_drew _ _)); rintro e w8 ⟨rfl, hg8⟩; have hk1 : w8.cell? ⟨w5.heap.size, i, none⟩ = some (.int .i64 X) := hg8.cell hcl (by simp)))
              have H8 := hide (grown_trans HG.out (grown_trans (grown_drew _ _) hg8))
              clear hg8 hcl hp
              by_cases hi00 : i = 0
              · have hz : ((i : Int) == 0) = true := by simp; omega
                go_wp2
                go_roundg (gk - 1)
                case measure => omega
                case rel => exact ⟨i + 1, by omega, by go_num, H8.out⟩
              · have hz : ((i : Int) == 0) = false := by simp; omega
                obtain ⟨b0, b1, b2, b3, b4⟩ := box5 (heap_kept H5.out.2.2.1 (grown_trans HAT.out.2 H8.out) (by simp))
                go_wp2_with fail
                refine (HC.out _ (grown_trans H5.out.2.2.2.1 (grown_trans HAT.out.2 H8.out))).mono ?_
                rintro e w9 ⟨ao2, cap2, rfl, hc9, hg9⟩
                have H9 := hide (And.intro hc9 (grown_trans H8.out hg9))
                clear hc9 hg9 b0 b1 b2 b3 b4
                obtain ⟨t, ht⟩ : ∃ t, i = t + 1 := ⟨i - 1, by omega⟩
                have hMi : (r : Int) * (c : Int) = (M : Int) := by rw [← HM.out]; simp
                have hw1 : (i : Int) - 1 = (t : Int) := by omega
                have hB := hide (beside_ok r c ao2 n cap2 L t i w9 H9.out.1 HO.out (by rw [hMi]; omega) (by rw [hMi]; omega))
                have HT1 := hide ht
                clear hMi ht
                go_wp2_with fail
                refine hB.out.mono ?_
                rintro e w10 ⟨rfl, hg10⟩
                clear hB
                have ht := HT1.out
                have H10 := hide (grown_trans H9.out.2 hg10)
                have hrw := heap_kept HAT.out.1 H10.out (by simp)
                have hc0 := rowF_cell hrw (show t < M by omega)
                have hc1 := rowF_cell hrw HI.out
                obtain ⟨X', hX'⟩ : ∃ X' : Int, X' = ((at0 (fr S) (bg c L) (dr (fr S) (bg c L) M).length t : Nat) : Int) := ⟨_, rfl⟩
                obtain ⟨V, hV⟩ : ∃ V, V = bes c L t i := ⟨_, rfl⟩
                have hcases := at_beside ht HI.out hX' HX'.out.1 hV
                rw [← hX'] at hc0
                rw [← HX'.out.1] at hc1
                rw [← hV]
                have hw : IntKind.i64.wrap ((i : Int) - 1) = (t : Int) := by rw [IntKind.wrap_i64]; omega
                have ht0 : (0 : Int) ≤ (t : Int) := by omega
                have ht1 : (t : Int) < (M : Int) := by omega
                clear hg10 hrw hX' hV hw1 ht
                rcases hcases with p1 | ⟨p1, p2⟩ | ⟨p1, p2, p3⟩
                · go_wp2
                  go_quiet (fail)
                  go_wp2
                  go_roundg (gk - 1)
                  case measure => omega
                  case rel => exact ⟨i + 1, by omega, by go_num, grown_trans H10.out (grown_drewN _ _ _)⟩
                · go_wp2
                  go_quiet (fail)
                  go_wp2
                  go_roundg (gk - 1)
                  case measure => omega
                  case rel => exact ⟨i + 1, by omega, by go_num, grown_trans H10.out (grown_drewN _ _ _)⟩
                · cases V
                  all_goals
                    go_wp2
                    go_quiet (fail)
                    go_wp2
                    go_roundg (gk - 1)
                    case measure => omega
                    case rel => exact ⟨i + 1, by omega, by go_num, grown_trans H10.out (grown_drewN _ _ _)⟩
          · have hj2 : i = M := by omega
            subst hj2
            clear hgx
            go_wp2
            go_ret
            exact ⟨rfl, grown_trans H5.out.2.2.2.1 (grown_trans HAT.out.2 HG.out)⟩
  · have hR := hide (runs_bad R W ao' n cap' L (some ⟨b, 0, none⟩) w4 G4.out.2.1 ho)
    have hst : stN R W L = 0 := by unfold stN; rw [if_neg ho]
    rw [hst] at HN
    clear hst ho
    go_wp2_with fail
    refine hR.out.mono ?_
    rintro e w5 ⟨rfl, hg5⟩
    have H5 := hide (And.intro (heap_kept G4.out.2.2.1 hg5 (by simp)) (grown_trans G4.out.2.2.2 hg5))
    obtain ⟨b0, b1, b2, b3, b4⟩ := box5 H5.out.1
    clear hg5
    go_wp2_with fail
    refine (HN.out _ H5.out.2).mono ?_
    rintro e w6 ⟨rfl, hg6⟩
    have H6 := hide (grown_trans H5.out.2 hg6)
    clear hg6 b0 b1 b2 b3 b4
    go_wp2
    go_ret
    exact ⟨rfl, H6.out⟩
end Go.Proofs.YtnnmaknjhfjojaaDoor
/- Rows of numbers that are written; the longest of what is left. -/
namespace Go.Proofs.YtnnmaknjhfjojaaDoor
open Go.RowKit Cx Pn

def nv (xs : List Nat) : List Value := xs.map fun (x : Nat) => Value.int .i64 (x : Int)
theorem nv_len (xs : List Nat) : (nv xs).length = xs.length := by simp [nv]
theorem nv_get {xs : List Nat} {i x : Nat} (h : xs[i]? = some x) : (nv xs)[i]? = some (.int .i64 (x : Int)) := by unfold nv; rw [List.getElem?_map, h]; rfl
theorem nv_set (xs : List Nat) (i x : Nat) : nv (xs.set i x) = (nv xs).set i (.int .i64 (x : Int)) := by
  unfold nv; rw [List.map_set]
/-- A block that begins with these numbers. -/
def NRow (w : World) (g : Nat) (xs : List Nat) : Prop := ∃ cur : Array Value, w.heap[g]? = some (.cells cur 3 (0, 0)) ∧ cur.toList.take xs.length = nv xs
theorem NRow.kept {w w' : World} {g : Nat} {xs : List Nat} {row : Option Nat} (h : NRow w g xs) (hg : w.grownBy w' row) (hr : some g ≠ row) : NRow w' g xs := by
  obtain ⟨cur, h1, h2⟩ := h
  exact ⟨cur, heap_kept h1 hg hr, h2⟩
theorem NRow.cell {w : World} {g i x : Nat} {xs : List Nat} (h : NRow w g xs) (hi : xs[i]? = some x) : w.cell? ⟨g, i, none⟩ = some (.int .i64 (x : Int)) := by
  obtain ⟨cur, h1, h2⟩ := h
  have h3 := nv_get hi
  rw [← h2, List.getElem?_take] at h3
  split at h3
  · rw [cell_of_row w g i cur 3 (0, 0) h1, ← Array.getElem?_toList]; exact h3
  · cases h3
theorem NRow.free {w : World} {g : Nat} {xs : List Nat} (h : NRow w g xs) (j : Nat) : w.frozen? ⟨g, j, none⟩ = false := by
  obtain ⟨cur, h1, -⟩ := h
  exact free_row h1 j
theorem NRow.set {w : World} {g : Nat} {xs : List Nat} (h : NRow w g xs) (i x : Nat) : NRow (w.setCell ⟨g, i, none⟩ (.int .i64 (x : Int))) g (xs.set i x) := by
  obtain ⟨cur, h1, h2⟩ := h
  have h3 : w.heap[g]? = some (.cells cur.toList.toArray 3) := by simpa using h1
  refine ⟨_, row_setCell h3 i (.int .i64 (x : Int)), ?_⟩
  rw [List.length_set, List.take_set, h2, nv_set]
theorem nrow_own {w : World} {base n : Nat} {v : Value} {xs : List Nat} (h : w.ownsRow base 3 1 v n (nv xs)) (hn : 0 < n) : ∃ g cap, v = .slice (some ⟨g, 0, none⟩) n cap ∧ base ≤ g ∧ NRow w g xs := by
  obtain ⟨hl, h⟩ := h
  rw [nv_len] at hl
  rcases h with ⟨_, h0⟩ | ⟨g, cap, cur, rfl, hb, hg, h1, h2, h3, h4⟩
  · omega
  · refine ⟨g, cap, rfl, hb, cur, hg, ?_⟩
    rw [show xs.length = n * 1 by omega]; exact h4
theorem make_cap (n : Nat) (h : n ≤ 2000) (w : World) : (Instr.makeSlice 22 (.int .i64 0) (.int .i64 (n : Int))).run Tryd.prog w = .ok (.slice (some ⟨w.heap.size, 0, none⟩) 0 n) (w.alloc (.cells (List.replicate n (Value.int .i64 0)).toArray 3)) := by
  obtain ⟨i0, hi, hz0, hz1, hz2⟩ := info_parts Tryd.info3
  have h1 : (n : Int).toNat = n := Int.toNat_natCast n
  have h2 : (Value.int .i64 0).cells = #[Value.int .i64 0] := rfl
  rw [run_make (P := Tryd.prog) (w := w) 22 3 i0 (.int .i64 0) Tryd.underlying22 hi hz0 .i64 .i64 0 (n : Int) (by omega) (by omega) (by rw [hz2]; omega) (by omega), hz1, h1, h2, Nat.mul_one, made_ints]
  rfl
/-- The first of the longest among the first k. -/
def Mxp (cs : List Nat) (b k : Nat) : Prop := ∃ c, cs[b]? = some c ∧ ∀ j d, j < k → cs[j]? = some d → d < c ∨ (d = c ∧ b ≤ j)
theorem Mxp.one {cs : List Nat} (h : 0 < cs.length) : Mxp cs 0 1 := by
  refine ⟨cs[0], List.getElem?_eq_getElem h, fun j d hj hd => ?_⟩
  obtain rfl : j = 0 := by omega
  rw [List.getElem?_eq_getElem h] at hd
  exact Or.inr ⟨(Option.some.inj hd).symm, Nat.le_refl _⟩
theorem Mxp.up {cs : List Nat} {b k c d : Nat} (h : Mxp cs b k) (hb : cs[b]? = some c) (hk : cs[k]? = some d) (hd : c < d) : Mxp cs k (k + 1) := by
  obtain ⟨c', e, h⟩ := h
  rw [hb] at e
  obtain rfl := Option.some.inj e
  refine ⟨d, hk, fun j x hj hx => ?_⟩
  rcases Nat.lt_or_ge j k with g | g
  · have := h j x g hx; omega
  · obtain rfl : j = k := by omega
    rw [hk] at hx
    exact Or.inr ⟨(Option.some.inj hx).symm, Nat.le_refl _⟩
theorem Mxp.stay {cs : List Nat} {b k c d : Nat} (h : Mxp cs b k) (hbk : b < k) (hb : cs[b]? = some c) (hk : cs[k]? = some d) (hd : ¬ c < d) : Mxp cs b (k + 1) := by
  obtain ⟨c', e, h⟩ := h
  rw [hb] at e
  obtain rfl := Option.some.inj e
  refine ⟨c, hb, fun j x hj hx => ?_⟩
  rcases Nat.lt_or_ge j k with g | g
  · exact h j x g hx
  · obtain rfl : j = k := by omega
    rw [hk] at hx
    have := Option.some.inj hx
    omega
theorem Mxp.all {cs : List Nat} {b : Nat} (h : Mxp cs b cs.length) : Mx cs b := by
  obtain ⟨c, e, h⟩ := h
  exact ⟨c, e, fun j d hd => h j d (List.getElem?_eq_some_iff.1 hd).1 hd⟩
/-- How many seats the first j runs have. -/
def sm (P : List (Nat × Nat)) (j : Nat) : Nat := ((P.take j).map Prod.snd).sum
theorem sm_step {P : List (Nat × Nat)} {j : Nat} {p : Nat × Nat} (h : P[j]? = some p) : sm P (j + 1) = sm P j + p.2 := by
  unfold sm
  rw [List.take_add_one, h]
  simp
theorem sm_all (P : List (Nat × Nat)) : sm P P.length = (P.map Prod.snd).sum := by unfold sm; rw [List.take_length]
theorem sm_le (P : List (Nat × Nat)) : ∀ (j m : Nat), sm P j ≤ sm P (j + m)
  | _, 0 => Nat.le_refl _
  | j, m + 1 => by
    have h1 := sm_le P j m
    rw [← Nat.add_assoc]
    rcases Nat.lt_or_ge (j + m) P.length with g | g
    · rw [sm_step (List.getElem?_eq_getElem g)]; omega
    · have : sm P (j + m + 1) = sm P (j + m) := by unfold sm; rw [List.take_of_length_le (by omega), List.take_of_length_le g]
      omega
theorem sm_top (P : List (Nat × Nat)) (j : Nat) (h : j ≤ P.length) : sm P j ≤ (P.map Prod.snd).sum := by
  have := sm_le P j (P.length - j)
  rw [show j + (P.length - j) = P.length by omega, sm_all] at this
  exact this
theorem cs_snoc {P : List (Nat × Nat)} {j : Nat} {p : Nat × Nat} (h : P[j]? = some p) : (P.take (j + 1)).map Prod.snd = (P.take j).map Prod.snd ++ [p.2] := by
  rw [List.take_add_one, h]; simp
theorem usd_le (ps : List (Nat × Nat)) : ∀ i, usd ps i ≤ i
  | 0 => Nat.le_refl _
  | i + 1 => by have := usd_le ps i; unfold usd; split <;> omega
theorem srt_len_le (P ps : List (Nat × Nat)) {i : Nat} (h : i ≤ P.length) : (srt P ps i).length ≤ (srt P ps P.length).length := by
  obtain ⟨rest, h1, -⟩ := srt_split P ps i (P.length - i)
  rw [show i + (P.length - i) = P.length by omega] at h1
  rw [h1, List.length_append]; omega
theorem getD_of {P : List (Nat × Nat)} {i : Nat} {p : Nat × Nat} (h : P[i]? = some p) : P.getD i (0, 0) = p := by
  rw [List.getD_eq_getElem?_getD, h]; rfl
theorem gr_len {P ps : List (Nat × Nat)} {n : Nat} (h : Gr P n ps) : ps.length ≤ (ps.map Prod.snd).sum := by
  induction h with
  | done P => exact Nat.le_refl _
  | step P n i r ps h0 h1 h2 h3 ih =>
    obtain ⟨q, e1, e2, -⟩ := h2
    rw [h1] at e1
    obtain rfl := Option.some.inj e1
    simp; omega
end Go.Proofs.YtnnmaknjhfjojaaDoor
