/- The document's cabin: Check, Wrong, aisle. -/
import Derived.Test.YtomoclicbjkpoaaDoorCi
namespace Go.Proofs.YtomoclicbjkpoaaDoor
open Go.RowKit Cx
attribute [local go_sem ↓] Go.wp_at_zero Go.wp_at_succ

set_option maxHeartbeats 1000000 in
theorem dcheck_no (R W : Int) (v : Value) (h : R < 1 ∨ 64 < R ∨ W < 1 ∨ 16 < W) (w : World) :
    Calls Tryd.prog 14 #[cbV R W v] w fun e w' => e = .returned (.int .i64 2) ∧ w.grownBy w' none := by
  have hG : ∀ o, w.grownBy (w.alloc o) none := fun o => grown_alloc w o
  unfold cbV
  by_cases h1 : R < 1
  · go_enter Tryd.func14, Tryd.ntmps14
    go_wp2
    go_ret
    exact ⟨rfl, hG _⟩
  · by_cases h2 : 64 < R
    · go_enter Tryd.func14, Tryd.ntmps14
      go_wp2
      go_ret
      exact ⟨rfl, hG _⟩
    · by_cases h3 : W < 1
      · go_enter Tryd.func14, Tryd.ntmps14
        go_wp2
        go_ret
        exact ⟨rfl, hG _⟩
      · have h4 : 16 < W := by omega
        go_enter Tryd.func14, Tryd.ntmps14
        go_wp2
        go_ret
        exact ⟨rfl, hG _⟩
set_option maxHeartbeats 1000000 in
theorem dcheck_any (R W : Int) (ao : Option Addr) (n cap : Nat) (L : List Int) (w : World) (hc : CbIn w ao n cap L) :
    Calls Tryd.prog 14 #[cbV R W (.slice ao n cap)] w fun e w' => e = .returned (.int .i64 (code R W L)) ∧ w.grownBy w' none := by
  by_cases hb : 1 ≤ R ∧ R ≤ 64 ∧ 1 ≤ W ∧ W ≤ 16
  · obtain ⟨h1, h2, h3, h4⟩ := hb
    have hlen := hc.len
    have hsm := hc.sm
    obtain ⟨z, hz⟩ : ∃ z, z = code R W L := ⟨_, rfl⟩
    rw [← hz]
    have HC := hide (And.intro hc hz)
    clear hc hz
    have HL := hide hlen
    clear hlen
    unfold cbV
    have hG : w.grownBy (w.alloc (.cells #[.int .i64 R, .int .i64 W, .slice ao n cap] 24)) none := grown_alloc w _
    have HG := hide (And.intro hG (heap_alloc_new w (.cells #[.int .i64 R, .int .i64 W, .slice ao n cap] 24)))
    clear hG
    go_enter Tryd.func14, Tryd.ntmps14
    go_wp2
    go_loopg [3, 4] n (fun k la i wr => ∃ j : Nat, k + j = n ∧ i = .int .i64 j ∧ la = .int .i64 ((L.take j).getLastD 0) ∧ rise W 0 (L.take j) ∧ wr.heap[w.heap.size]? = some (.cells #[.int .i64 R, .int .i64 W, .slice ao n cap] 24) ∧ w.grownBy wr none)
    case atStart => exact ⟨0, by omega, rfl, rfl, by simp [rise], HG.out.2, HG.out.1⟩
    case round =>
      obtain ⟨j, hkj, rfl, rfl, hr, hbx, hg⟩ := hrel
      obtain ⟨c0, c1, c2⟩ := box3 hbx
      have HB := hide (And.intro hbx hg)
      by_cases hk : 0 < gk
      · have hj : j < L.length := by rw [HL.out]; omega
        obtain ⟨a, rfl, hcell⟩ := (HC.out.1.grown hg).cell hj
        have hs := rise_snoc W (L.take j) L[j] 0
        have htk : L.take j ++ [L[j]] = L.take (j + 1) := by rw [List.take_add_one, List.getElem?_eq_getElem hj]; rfl
        have hla := getLastD_take hj 0
        rw [htk] at hs
        have HS := hide (And.intro hs (And.intro hla hr))
        have hout : ¬ (L.take j).getLastD 0 < L[j] ∨ ¬ L[j] < W → z = 2 := by
          intro h
          have h5 := HC.out.2
          rw [code_no] at h5
          · exact h5
          · intro ho
            have := (hs.1 (rise_take ho.2.2.2.2 _)).2
            omega
        have HO := hide hout
        clear hs hla hr htk hout hbx hg
        have h5 : (0 : Int) ≤ (j : Int) := by omega
        have h6 : (j : Int) < (n : Int) := by omega
        generalize hx : L[j] = x at *
        generalize hy : (L.take j).getLastD 0 = y at *
        have HX := hide (And.intro hx hy)
        clear hx hy
        by_cases h7 : y < x
        · have d1 : decide (x ≤ y) = false := by simp; omega
          by_cases h8 : x < W
          · have d2 : decide (W ≤ x) = false := by simp; omega
            go_wp2
            go_quiet (fail)
            go_wp2
            go_roundg (gk - 1)
            case measure => omega
            case rel =>
              obtain ⟨hs, hla, hr⟩ := HS.out
              exact ⟨j + 1, by omega, by go_num, by rw [hla], hs.2 ⟨hr, h7, h8⟩, HB.out.1, grown_trans HB.out.2 (grown_drewN _ _ _)⟩
          · have d2 : decide (W ≤ x) = true := by simp; omega
            have hz2 := HO.out (Or.inr h8)
            subst hz2
            go_wp2
            go_quiet (fail)
            go_wp2
            go_ret
            exact ⟨rfl, grown_trans HB.out.2 (grown_drewN _ _ _)⟩
        · have d1 : decide (x ≤ y) = true := by simp; omega
          have hz2 := HO.out (Or.inl h7)
          subst hz2
          go_wp2
          go_quiet (fail)
          go_wp2
          go_ret
          exact ⟨rfl, grown_trans HB.out.2 (grown_drewN _ _ _)⟩
      · have hj : j = n := by omega
        subst hj
        have h5 := HC.out.2
        rw [code_ok ⟨h1, h2, h3, h4, by rw [← HL.out, List.take_length] at hr; exact hr⟩] at h5
        subst h5
        clear hr hbx hg
        go_wp2
        go_ret
        exact ⟨rfl, HB.out.2⟩
  · rw [code_no (fun h => hb ⟨h.1, h.2.1, h.2.2.1, h.2.2.2.1⟩)]
    exact dcheck_no R W _ (by omega) w

set_option maxHeartbeats 1000000 in
theorem wrong_any (R W : Int) (ao : Option Addr) (n cap : Nat) (L : List Int) (x : Int) (w : World) (hc : CbIn w ao n cap L) :
    Calls Tryd.prog 43 #[cbV R W (.slice ao n cap), .int .i64 x] w fun e w' => e = .returned (.int .i64 (wrg R W L [x])) ∧ w.grownBy w' none := by
  have C := hide (fun w' (hg : w.grownBy w' none) => dcheck_any R W ao n cap L w' (hc.grown hg))
  by_cases ho : Ok R W L
  · rw [code_ok ho] at C
    have h5 : R * W ≤ 64 * 16 := Int.mul_le_mul ho.2.1 ho.2.2.2.1 (by have := ho.2.2.1; omega) (by omega)
    have h6 : 0 ≤ R * W := Int.mul_nonneg (by have := ho.1; omega) (by have := ho.2.2.1; omega)
    have hw : IntKind.i64.wrap (R * W) = R * W := IntWalk.i64_in _ (by omega)
    have hz1 : ¬ (0 ≤ x ∧ x < R * W) → wrg R W L [x] = 140 := fun h => wrg_seat ho (fun ha => h (ha x (by simp)))
    have hz2 : (0 ≤ x ∧ x < R * W) → wrg R W L [x] = 0 := fun h => wrg_ok ho (fun y hy => by simp at hy; subst hy; exact h)
    generalize wrg R W L [x] = z at *
    clear ho hc
    obtain ⟨NN, hNN⟩ : ∃ NN, NN = R * W := ⟨_, rfl⟩
    have hw2 : IntKind.i64.wrap (R * W) = NN := hw.trans hNN.symm
    rw [← hNN] at h5 h6 hz1 hz2
    clear hw hNN
    unfold cbV at *
    by_cases h1 : x < 0
    · have := hz1 (by omega)
      subst this
      clear hz1 hz2
      go_enter Tryd.func43, Tryd.ntmps43
      go_wp2_with fail
      refine (C.out _ (grown_alloc w _)).mono ?_
      rintro e w1 ⟨rfl, hg1⟩
      have G1 := hide (grown_trans (grown_alloc w _) hg1)
      clear hg1
      go_wp2
      go_ret
      exact ⟨rfl, G1.out⟩
    · by_cases h2 : x < NN
      · have := hz2 (by omega)
        subst this
        clear hz1 hz2
        go_enter Tryd.func43, Tryd.ntmps43
        go_wp2_with fail
        refine (C.out _ (grown_alloc w _)).mono ?_
        rintro e w1 ⟨rfl, hg1⟩
        obtain ⟨c0, c1, c2⟩ := box3 (box_kept hg1)
        have G1 := hide (grown_trans (grown_alloc w _) hg1)
        clear hg1
        go_wp2
        go_ret
        exact ⟨rfl, G1.out⟩
      · have := hz1 (by omega)
        subst this
        clear hz1 hz2
        go_enter Tryd.func43, Tryd.ntmps43
        go_wp2_with fail
        refine (C.out _ (grown_alloc w _)).mono ?_
        rintro e w1 ⟨rfl, hg1⟩
        obtain ⟨c0, c1, c2⟩ := box3 (box_kept hg1)
        have G1 := hide (grown_trans (grown_alloc w _) hg1)
        clear hg1
        go_wp2
        go_ret
        exact ⟨rfl, G1.out⟩
  · rw [code_no ho] at C
    rw [wrg_no ho]
    clear ho hc
    unfold cbV at *
    go_enter Tryd.func43, Tryd.ntmps43
    go_wp2_with fail
    refine (C.out _ (grown_alloc w _)).mono ?_
    rintro e w1 ⟨rfl, hg1⟩
    have G1 := hide (grown_trans (grown_alloc w _) hg1)
    clear hg1
    go_wp2
    go_ret
    exact ⟨rfl, G1.out⟩

theorem ai_take {L : List Int} {j i : Nat} (hj : j < L.length) (h : ai (L.take j) i = false) : ai (L.take (j + 1)) i = decide (L[j] = (i : Int)) := by
  unfold ai at *
  rw [List.take_add_one, List.getElem?_eq_getElem hj, Bool.eq_iff_iff]
  simp only [List.contains_iff_mem, List.mem_append, decide_eq_true_eq]
  have h2 : ¬ (i : Int) ∈ L.take j := by
    intro hm
    rw [← List.contains_iff_mem] at hm
    rw [hm] at h; cases h
  constructor
  · rintro (h3 | h3)
    · exact absurd h3 h2
    · simp at h3; exact h3.symm
  · intro h3; right; simp [h3]
theorem ai_true {L : List Int} {j i : Nat} (hj : j < L.length) (h : L[j] = (i : Int)) : ai L i = true := by
  unfold ai
  rw [List.contains_iff_mem, ← h]
  exact List.getElem_mem hj
set_option maxHeartbeats 1000000 in
theorem aisle_any (R W : Int) (ao : Option Addr) (n cap : Nat) (L : List Int) (i : Nat) (w : World) (hc : CbIn w ao n cap L) :
    Calls Tryd.prog 36 #[cbV R W (.slice ao n cap), .int .i64 (i : Int)] w fun e w' => e = .returned (.bool (ai L i)) ∧ w.grownBy w' none := by
  have hlen := hc.len
  have hsm := hc.sm
  obtain ⟨z, hz⟩ : ∃ z, z = ai L i := ⟨_, rfl⟩
  rw [← hz]
  have HC := hide (And.intro hc (And.intro hz hlen))
  clear hc hz hlen
  unfold cbV
  have HG := hide (And.intro (grown_alloc w (.cells #[.int .i64 R, .int .i64 W, .slice ao n cap] 24)) (heap_alloc_new w (.cells #[.int .i64 R, .int .i64 W, .slice ao n cap] 24)))
  go_enter Tryd.func36, Tryd.ntmps36
  go_wp2
  go_loopg [5] n (fun k v wr => ∃ j : Nat, k + j = n ∧ v = .int .i64 j ∧ ai (L.take j) i = false ∧ wr = w.alloc (.cells #[.int .i64 R, .int .i64 W, .slice ao n cap] 24))
  case atStart => exact ⟨0, by omega, rfl, by simp [ai], rfl⟩
  case round =>
    obtain ⟨j, hkj, rfl, hr, rfl⟩ := hrel
    by_cases hk : 0 < gk
    · have hj : j < L.length := by rw [HC.out.2.2]; omega
      obtain ⟨a, rfl, hcell⟩ := (HC.out.1.grown HG.out.1).cell hj
      have hs := ai_take hj hr
      have ht := ai_true (i := i) hj
      have h5 : (0 : Int) ≤ (j : Int) := by omega
      have h6 : (j : Int) < (n : Int) := by omega
      have HS := hide (And.intro hs ht)
      clear hs ht hr
      generalize L[j] = x at *
      by_cases h7 : x = (i : Int)
      · have := HS.out.2 h7
        rw [← HC.out.2.1] at this
        subst this
        subst h7
        go_wp2
        go_ret
        exact ⟨rfl, HG.out.1⟩
      · have h8 : (x == (i : Int)) = false := by simpa using h7
        go_wp2
        go_roundg (gk - 1)
        case measure => omega
        case rel => exact ⟨j + 1, by omega, by go_num, by rw [HS.out.1]; simpa using h7, rfl⟩
    · have hj : j = n := by omega
      subst hj
      rw [← HC.out.2.2, List.take_length, ← HC.out.2.1] at hr
      subst hr
      go_wp2
      go_ret
      exact ⟨rfl, HG.out.1⟩
end Go.Proofs.YtomoclicbjkpoaaDoor
