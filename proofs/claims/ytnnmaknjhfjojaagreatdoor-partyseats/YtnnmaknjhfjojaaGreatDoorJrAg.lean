/- Texts joined: Qc, Ea, Eb, K0, KFlat0. -/
import Derived.Test.YtnnmaknjhfjojaaGreatDoorJrAf
import Derived.WalkKit
import Derived.WalkSpells
import Derived.WalkLawsBesides
import Derived.Laws.CopyOwn
import Derived.Laws.Bits64b
import Derived.Laws.Bits64
import Derived.Deep.MidRow
import Derived.Test.YtnnmaknjhfjojaaGreatDoorChecked
import Derived.Deep.LoopGhost
import Derived.Deep.RegionHeld3
import Derived.Deep.DrawnRows
import Derived.Deep.QuietTactic
import Derived.Deep.RegionWith
import Derived.BigQuiet
import Derived.Deep.OwnRows
import Derived.Laws.AppendOwnNone
import Derived.Laws.BitsAllLaws
import Derived.Laws.OwnMore
import Derived.ArgAppend
/- The document's runs. -/
namespace Go.Proofs.YtnnmaknjhfjojaaGreatDoor
open Go.RowKit Cx Pn
attribute [local go_sem ↓] Go.wp_at_zero Go.wp_at_succ

theorem dr_set {f b : Nat → Bool} {j base : Nat} {v : Value} {w : World} (h : w.ownsRow base 64 2 v (dr f b j).length (spC (dr f b j))) (hne : dr f b j ≠ []) (e1 : dr f b (j + 1) = bump (dr f b j)) :
    ∃ (g cap x i : Nat), v = .slice (some ⟨g, 0, none⟩) (i + 1) cap ∧ (dr f b j).length = i + 1 ∧ base ≤ g ∧ w.cell? ⟨g, i * 2 + 1, none⟩ = some (.int .i64 (x : Int)) ∧ w.frozen? ⟨g, i * 2 + 1, none⟩ = false ∧ x ≤ j ∧ i ≤ j ∧ i + 1 ≤ cap ∧ (w.setCell ⟨g, i * 2 + 1, none⟩ (.int .i64 ((x : Int) + 1))).ownsRow base 64 2 v (dr f b (j + 1)).length (spC (dr f b (j + 1))) := by
  have hpos : 0 < (dr f b j).length := by
    rcases Nat.eq_zero_or_pos (dr f b j).length with h0 | h0
    · exact absurd (List.eq_nil_of_length_eq_zero h0) hne
    · exact h0
  obtain ⟨p, hp, hs⟩ := spC_bump hne
  obtain ⟨g, cap, cur, hv, hb, hg, hcap, ht⟩ := span_row h hpos
  obtain ⟨-, hy⟩ := spC_get hp
  have hl := dr_len f b j
  have hx := (dr_pos (List.mem_of_getElem? hp)).2
  obtain ⟨i, hi⟩ : ∃ i, (dr f b j).length = i + 1 := ⟨(dr f b j).length - 1, by omega⟩
  rw [hi] at hv hp hy hs hcap
  simp only [Nat.add_sub_cancel] at hp hy hs
  refine ⟨g, cap, p.2, i, hv, hi, hb, span_cell hg ht hy, free_row hg _, by omega, by omega, hcap, ?_⟩
  subst hv
  rw [e1, bump_len, hs]
  rw [hi] at h ⊢
  exact span_set h (by rw [spC_len, hi]; omega)
theorem dr_no {f b : Nat → Bool} {j : Nat} (h : f j = false) : dr f b (j + 1) = dr f b j := by
  show (if f j then _ else _) = _
  rw [h]; rfl
theorem dr_new {f b : Nat → Bool} {j : Nat} (h : f j = true) (h2 : j = 0 ∨ f (j - 1) = false ∨ b j = true) : dr f b (j + 1) = dr f b j ++ [(j, 1)] := by
  have hs : sta f b j = true := by
    unfold sta
    rcases h2 with rfl | e | e
    · simp [h]
    · simp [h, e]
    · simp [h, e]
  show (if f j then (if sta f b j then _ else _) else _) = _
  rw [h, hs]; rfl
theorem dr_on {f b : Nat → Bool} {j : Nat} (h : f j = true) (h0 : 0 < j) (h1 : f (j - 1) = true) (h2 : b j = false) : dr f b (j + 1) = bump (dr f b j) ∧ dr f b j ≠ [] := by
  have hs : sta f b j = false := by
    unfold sta
    simp [h, h1, h2]; omega
  refine ⟨?_, ?_⟩
  · show (if f j then (if sta f b j then _ else _) else _) = _
    rw [h, hs]; rfl
  · intro e
    obtain ⟨k, p, hk, -⟩ := dr_all (b := b) (show j - 1 < j by omega) h1
    rw [e] at hk
    cases hk

theorem rruns_bad (R W x : Int) (ao : Option Addr) (n cap : Nat) (L : List Int) (tv : Value) (w : World) (hc : CbIn w ao n cap L) (ho : ¬ Ok R W L) :
    Calls Tryz.prog 9 #[cbV R W (.slice ao n cap), .int .i64 x, tv] w fun e w' => e = .returned (.tuple #[.slice none 0 0, .int .i64 2]) ∧ w.grownBy w' none := by
  have hG := grown_alloc w (.cells #[.int .i64 R, .int .i64 W, .slice ao n cap] 24)
  have H := hide (right_any R W ao n cap L _ (hc.grown hG))
  rw [decide_eq_false ho] at H
  have HG := hide hG
  clear hG hc ho
  unfold cbV at *
  go_enter Tryz.func9, Tryz.ntmps9
  go_wp2_with fail
  refine H.out.mono ?_
  rintro e w1 ⟨rfl, hg1⟩
  have H1 := hide (grown_trans HG.out hg1)
  clear hg1
  go_wp2
  go_ret2
  exact ⟨rfl, H1.out⟩
theorem rruns_long (R W : Nat) (x : Int) (ao : Option Addr) (n cap : Nat) (L : List Int) (tv : Value) (w : World) (hc : CbIn w ao n cap L) (ho : Ok R W L) (hx : x ≠ (R : Int) * (W : Int)) :
    Calls Tryz.prog 9 #[cbV R W (.slice ao n cap), .int .i64 x, tv] w fun e w' => e = .returned (.tuple #[.slice none 0 0, .int .i64 3]) ∧ w.grownBy w' none := by
  have hG := grown_alloc w (.cells #[.int .i64 (R : Int), .int .i64 (W : Int), .slice ao n cap] 24)
  have hX := heap_alloc_new w (.cells #[.int .i64 (R : Int), .int .i64 (W : Int), .slice ao n cap] 24)
  have H := hide (right_any R W ao n cap L _ (hc.grown hG))
  rw [decide_eq_true ho] at H
  obtain ⟨M, hM⟩ : ∃ M, M = R * W := ⟨_, rfl⟩
  have hmul : (R : Int) * (W : Int) = (M : Int) := by rw [hM]; simp
  have h1024 : M ≤ 64 * 16 := by
    have h1 := ho.2.1
    have h2 := ho.2.2.2.1
    rw [hM]; exact Nat.mul_le_mul (by omega) (by omega)
  rw [hmul] at hx
  have hne : (x == (M : Int)) = false := by simpa using hx
  have HG := hide (And.intro hG hX)
  clear hG hc ho hX hM
  unfold cbV at *
  go_enter Tryz.func9, Tryz.ntmps9
  go_wp2_with fail
  refine H.out.mono ?_
  rintro e w1 ⟨rfl, hg1⟩
  obtain ⟨b0, b1, b2⟩ := box3 (heap_kept HG.out.2 hg1 (by simp))
  have H1 := hide (grown_trans HG.out.1 hg1)
  clear hg1
  go_wp2
  go_ret2
  exact ⟨rfl, H1.out⟩
set_option maxRecDepth 20000 in
set_option maxHeartbeats 4000000 in
theorem rruns_ok (R W M : Nat) (ao : Option Addr) (n cap : Nat) (L : List Int) (to : Option Addr) (m tc : Nat) (T : List Int) (w : World) (hc : CbIn w ao n cap L) (ht : CbIn w to m tc T) (ho : Ok R W L) (hM : R * W = M) :
    Calls Tryz.prog 9 #[cbV R W (.slice ao n cap), .int .i64 (M : Int), .slice to m tc] w fun e w' => ∃ v, e = .returned (.tuple #[v, .int .i64 0]) ∧ w'.ownsRow w.heap.size 64 2 v (dr (fr (tkL M T)) (bg W L) M).length (spC (dr (fr (tkL M T)) (bg W L) M)) ∧ w.grownBy w' none := by
  have hG := grown_alloc w (.cells #[.int .i64 (R : Int), .int .i64 (W : Int), .slice ao n cap] 24)
  have hX := heap_alloc_new w (.cells #[.int .i64 (R : Int), .int .i64 (W : Int), .slice ao n cap] 24)
  have H := hide (right_any R W ao n cap L _ (hc.grown hG))
  rw [decide_eq_true ho] at H
  have hmul : (R : Int) * (W : Int) = (M : Int) := by rw [← hM]; simp
  have o1 := ho.1
  have o2 := ho.2.1
  have o3 := ho.2.2.1
  have o4 := ho.2.2.2.1
  have h1024 : M ≤ 64 * 16 := by rw [← hM]; exact Nat.mul_le_mul (by omega) (by omega)
  have hM1 : 1 * 1 ≤ M := by rw [← hM]; exact Nat.mul_le_mul (by omega) (by omega)
  have HF := hide (fun w' (hg : w.grownBy w' none) => rfree_any R W M (.slice ao n cap) to m tc T w' (ht.grown hg) hM (by omega) (by omega) (by omega) (by omega))
  have HBg := hide (fun s w' (hg : w.grownBy w' none) => rbeg_any R W ao n cap L s w' (hc.grown hg) (by omega) (by omega))
  have HG := hide (And.intro hG hX)
  obtain ⟨f, hf⟩ : ∃ f, f = fr (tkL M T) := ⟨_, rfl⟩
  obtain ⟨bb, hbb⟩ : ∃ bb, bb = bg W L := ⟨_, rfl⟩
  rw [← hf] at HF ⊢
  rw [← hbb]
  have HB0 := hide hbb
  clear hG hc ho hX hM ht hf hbb
  unfold cbV at *
  go_enter Tryz.func9, Tryz.ntmps9
  go_wp2_with fail
  refine H.out.mono ?_
  rintro e w1 ⟨rfl, hg1⟩
  obtain ⟨b0, b1, b2⟩ := box3 (heap_kept HG.out.2 hg1 (by simp))
  have H1 := hide (And.intro (grown_trans HG.out.1 hg1) (heap_kept HG.out.2 hg1 (by simp)))
  clear hg1 H
  go_wp2_with fail
  refine (HF.out _ H1.out.1).mono ?_
  rintro e w2 ⟨G, rfl, hr, hGg, hg2⟩
  have hsb := row_lt H1.out.2
  have H2 := hide (And.intro hr (And.intro (heap_kept H1.out.2 hg2 (by simp)) (grown_trans H1.out.1 hg2)))
  clear hr hg2 b0 b1 b2
  have hlt2 := row_lt H2.out.1
  obtain ⟨B, hB⟩ : ∃ B, B = w2.heap.size := ⟨_, rfl⟩
  rw [← hB] at hlt2
  have hwB : w.heap.size ≤ B := by omega
  have HBs := hide hB
  clear hB
  go_wp2
  go_loopg [9, 10] M (fun k v i wr => ∃ j : Nat, k + j = M ∧ i = .int .i64 (j : Int) ∧ wr.ownsRow B 64 2 v (dr f bb j).length (spC (dr f bb j)) ∧ w2.grownBy wr none)
  case atStart => exact ⟨0, by omega, rfl, World.ownsRow_nil _ _ _ _, grown_refl _ _⟩
  case round =>
    obtain ⟨j, hkj, rfl, hown, hgw⟩ := hrel
    obtain ⟨vo, vc, rfl⟩ := span_form hown
    have HB := hide (And.intro hown hgw)
    by_cases hk : 0 < gk
    · have hrow := heap_kept H2.out.1 hgw (by simp)
      have hcl := rowB_cell hrow (show j < M by omega)
      obtain ⟨b0, b1, b2⟩ := box3 (heap_kept H2.out.2.1 hgw (by simp))
      have h5 : (0 : Int) ≤ (j : Int) := by omega
      have h6 : (j : Int) < (M : Int) := by omega
      have hdl := dr_len f bb j
      by_cases hfj : f j = true
      · rw [hfj] at hcl
        rcases Nat.eq_zero_or_pos j with e | e
        · have hnew := dr_new (b := bb) hfj (Or.inl e)
          have HE := hide hnew
          have e2 : ¬ (0 : Int) < (j : Int) := by omega
          clear hnew hfj hown hgw hrow e
          go_wp2_with (at_builtin; refine wpList_append_span rfl (.tmp 60) (.tmp 63) rfl B (.slice vo (dr f bb j).length vc) (dr f bb j) rfl (span_grown HB.out.1 (grown_alloc _ _)) ⟨_, 0, none⟩ (j, 1) rfl (cell2_new _ _ _ _) (by omega) ?_ ?_)
          · have h1 := HB.out.2.size
            have h2 := HBs.out
            simp; omega
          · intro v' w6 hown6 hg6
            rw [← HE.out] at hown6
            have hgA := grown_then (grown_trans HB.out.2 (grown_alloc wr (.cells #[.int .i64 (j : Int), .int .i64 1] 64))) hg6 (fun k e => Or.inl (by have h1 := (HB.out.1.lt k e).1; have h2 := HBs.out; omega))
            have HZ := hide (And.intro hown6 hgA)
            clear hown6 hgA hg6
            go_wp2
            go_roundg (gk - 1)
            case measure => omega
            case rel =>
              have h8 := HZ.out.1
              have h9 : (dr f bb (j + 1)).length = (dr f bb j).length + 1 := by rw [HE.out]; simp
              exact ⟨j + 1, by omega, by go_num, by rw [h9]; simpa using h8, HZ.out.2⟩
        · obtain ⟨t, htj⟩ : ∃ t, t = j - 1 := ⟨_, rfl⟩
          have hsub : (j : Int) - 1 = (t : Int) := by omega
          have hcl2 := rowB_cell hrow (show t < M by omega)
          have t0 : (0 : Int) ≤ (t : Int) := by omega
          have t1 : (t : Int) < (M : Int) := by omega
          have e2 : (0 : Int) < (j : Int) := by omega
          by_cases hft : f t = true
          · rw [hft] at hcl2
            have hbe := hide (HBg.out j _ (grown_trans H2.out.2.2 hgw))
            cases hbj : bg W L j
            · have hbb' : bb j = false := by rw [HB0.out]; exact hbj
              rw [hbj] at hbe
              obtain ⟨hon, hne⟩ := dr_on (b := bb) hfj e (by rw [← htj]; exact hft) hbb'
              have HE := hide (And.intro hon hne)
              clear hon hne hfj hft hown hgw hrow htj hbj hbb'
              go_wp2_with fail
              refine hbe.out.mono ?_
              rintro e w5 ⟨rfl, hg5⟩
              obtain ⟨g, cap', x, i, hv, hi, hbs, hcx, hfx, hxj, hij, hic, hset⟩ := dr_set (span_grown HB.out.1 hg5) HE.out.2 HE.out.1
              injection hv with hv1 hv2 hv3
              subst hv1
              subst hv3
              have i1 : (0 : Int) ≤ (i : Int) := by omega
              have hsub2 : ((i + 1 : Nat) : Int) - 1 = (i : Int) := by omega
              have HS := hide (And.intro hset (And.intro hbs (grown_trans HB.out.2 hg5)))
              have hBw := HBs.out
              clear hset hbs hg5 hbe hcl hcl2 b0 b1 b2 hv2
              have HI := hide hi
              rw [hi]
              clear hi
              go_wp2
              go_roundg (gk - 1)
              case measure => omega
              case rel =>
                obtain ⟨h1, h2, h3⟩ := HS.out
                have s1 := grown_setCell w5 g (i * 2 + 1) (.int .i64 ((x : Int) + 1))
                exact ⟨j + 1, by omega, by go_num, by rw [HI.out] at h1; exact h1, grown_then h3 s1 (fun k e => by cases e; exact Or.inl (by omega))⟩
            · have hbb' : bb j = true := by rw [HB0.out]; exact hbj
              rw [hbj] at hbe
              have hnew := dr_new (b := bb) hfj (Or.inr (Or.inr hbb'))
              have HE := hide hnew
              clear hnew hfj hft hown hgw hrow htj hbj hbb'
              go_wp2_with fail
              refine hbe.out.mono ?_
              rintro e w5 ⟨rfl, hg5⟩
              have HB5 := hide (And.intro (span_grown HB.out.1 hg5) (grown_trans HB.out.2 hg5))
              clear hg5 hbe hcl hcl2 b0 b1 b2
              go_wp2_with (at_builtin; refine wpList_append_span rfl (.tmp 60) (.tmp 63) rfl B (.slice vo (dr f bb j).length vc) (dr f bb j) rfl (span_grown HB5.out.1 (grown_alloc _ _)) ⟨_, 0, none⟩ (j, 1) rfl (cell2_new _ _ _ _) (by omega) ?_ ?_)
              · have h1 := HB5.out.2.size
                have h2 := HBs.out
                simp; omega
              · intro v' w6 hown6 hg6
                rw [← HE.out] at hown6
                have hgA := grown_then (grown_trans HB5.out.2 (grown_alloc w5 (.cells #[.int .i64 (j : Int), .int .i64 1] 64))) hg6 (fun k e => Or.inl (by have h1 := (HB5.out.1.lt k e).1; have h2 := HBs.out; omega))
                have HZ := hide (And.intro hown6 hgA)
                clear hown6 hgA hg6
                go_wp2
                go_roundg (gk - 1)
                case measure => omega
                case rel =>
                  have h8 := HZ.out.1
                  have h9 : (dr f bb (j + 1)).length = (dr f bb j).length + 1 := by rw [HE.out]; simp
                  exact ⟨j + 1, by omega, by go_num, by rw [h9]; simpa using h8, HZ.out.2⟩
          · have hft' : f t = false := by simpa using hft
            rw [hft'] at hcl2
            have hnew := dr_new (b := bb) hfj (Or.inr (Or.inl (by rw [← htj]; exact hft')))
            have HE := hide hnew
            clear hnew hfj hft hown hgw hrow htj hft'
            go_wp2_with (at_builtin; refine wpList_append_span rfl (.tmp 60) (.tmp 63) rfl B (.slice vo (dr f bb j).length vc) (dr f bb j) rfl (span_grown HB.out.1 (grown_alloc _ _)) ⟨_, 0, none⟩ (j, 1) rfl (cell2_new _ _ _ _) (by omega) ?_ ?_)
            · have h1 := HB.out.2.size
              have h2 := HBs.out
              simp; omega
            · intro v' w6 hown6 hg6
              rw [← HE.out] at hown6
              have hgA := grown_then (grown_trans HB.out.2 (grown_alloc wr (.cells #[.int .i64 (j : Int), .int .i64 1] 64))) hg6 (fun k e => Or.inl (by have h1 := (HB.out.1.lt k e).1; have h2 := HBs.out; omega))
              have HZ := hide (And.intro hown6 hgA)
              clear hown6 hgA hg6
              go_wp2
              go_roundg (gk - 1)
              case measure => omega
              case rel =>
                have h8 := HZ.out.1
                have h9 : (dr f bb (j + 1)).length = (dr f bb j).length + 1 := by rw [HE.out]; simp
                exact ⟨j + 1, by omega, by go_num, by rw [h9]; simpa using h8, HZ.out.2⟩
      · have hfj' : f j = false := by simpa using hfj
        rw [hfj'] at hcl
        have hno := dr_no (b := bb) hfj'
        have HE := hide hno
        clear hno hfj hfj' hown hgw hrow
        go_wp2
        go_roundg (gk - 1)
        case measure => omega
        case rel => exact ⟨j + 1, by omega, by go_num, by rw [HE.out]; exact HB.out.1, HB.out.2⟩
    · have hj : j = M := by omega
      subst hj
      clear hown hgw
      go_wp2
      go_ret2
      exact ⟨_, rfl, span_base HB.out.1 hwB, grown_trans H2.out.2.2 HB.out.2⟩
end Go.Proofs.YtnnmaknjhfjojaaGreatDoor
/- The contracts of the statements' own helpers for ints that are lent: mark, LentInts, KeptInts, OverInts, SameInts. -/
namespace Go.Proofs.YtnnmaknjhfjojaaGreatDoor
open Go.RowKit Cx
attribute [local go_sem ↓] Go.wp_at_zero Go.wp_at_succ

def zrow (n : Nat) : List Value := List.replicate n (.int .i64 0)
theorem made_zrow (n : Nat) : madeCells #[.int .i64 0] n = (zrow n).toArray := by
  apply Array.ext'
  rw [toList_madeCells_one]
  rfl
set_option maxHeartbeats 1000000 in
theorem same_eq (ao bo : Option Addr) (n c d : Nat) (xs : List Int) (w : World) (hn : xs.length = n) (ha : At w ao xs) (hb : At w bo xs) (hm : n ≤ 4611686018427387904) :
    Calls Tryz.prog 18 #[.slice ao n c, .slice bo n d] w fun e w' => e = .returned (.bool true) ∧ w.grownBy w' none := by
  have HA := hide (And.intro hn (And.intro ha hb))
  clear hn ha hb
  go_enter Tryz.func18, Tryz.ntmps18
  go_wp2
  go_loopg [5] n (fun k i wr => ∃ j : Nat, k + j = n ∧ i = .int .i64 j ∧ w.grownBy wr none)
  case atStart => exact ⟨0, by omega, rfl, grown_refl _ _⟩
  case round =>
    obtain ⟨j, hkj, rfl, hg⟩ := hrel
    by_cases hk : 0 < gk
    · obtain ⟨hn, ha, hb⟩ := HA.out
      have hj : j < xs.length := by omega
      obtain ⟨a, rfl, hca⟩ := ha j xs[j] (by simp [hj])
      obtain ⟨b, rfl, hcb⟩ := hb j xs[j] (by simp [hj])
      have hca' := hg.cell hca (by simp)
      have hcb' := hg.cell hcb (by simp)
      have h1 : (0 : Int) ≤ (j : Int) := by omega
      have h2 : (j : Int) < (n : Int) := by omega
      generalize xs[j] = x at *
      clear hn ha hb hca hcb hj
      go_wp2
      go_region_held3 (fun w' => w'.cell? (a.add j) = some (.int .i64 x) ∧ w'.cell? (b.add j) = some (.int .i64 x)) (go_keep) (fail)
      go_wp2
      go_roundg (gk - 1)
      case measure => omega
      case rel => exact ⟨j + 1, by omega, by go_num, grown_trans hg (grown_drew _ _)⟩
    · have hj : j = n := by omega
      subst hj
      go_wp2
      go_ret
      exact ⟨rfl, hg⟩

/-- The mark of a place. -/
def markB (k i : Int) : Int := 1000003 * (k + 7) + i
set_option maxHeartbeats 400000 in
theorem mark_any (k i : Int) (w : World) (_hk0 : 0 ≤ k) (_hk : k ≤ 1000000) (_hi0 : 0 ≤ i) (_hi : i ≤ 1000000000000000000) :
    Calls Tryz.prog 44 #[.int .i64 k, .int .i64 i] w fun e w' => e = .returned (.int .i64 (markB k i)) ∧ w' = w := by
  go_enter Tryz.func44, Tryz.ntmps44
  go_wp2
  go_ret
  exact ⟨rfl, rfl⟩

/-- The first j marks. -/
def marks (k : Int) (j : Nat) : List Int := (List.range j).map fun (i : Nat) => markB k (i : Int)
theorem marks_length (k : Int) (j : Nat) : (marks k j).length = j := by simp [marks]
theorem marks_succ (k : Int) (j : Nat) : marks k (j + 1) = marks k j ++ [markB k (j : Int)] := by simp [marks, List.range_succ]
theorem marks_get (k : Int) (j i : Nat) (h : i < j) : (marks k j)[i]? = some (markB k (i : Int)) := by simp [marks, h]

theorem slice_to (ao : Option Addr) (len cap n : Nat) (h : n ≤ cap) (w : World) : (Instr.slice 22 (.slice ao len cap) none (some (.int .i64 (n : Int))) none).run Tryz.prog w = .ok (.slice ao n cap) w := by
  simp [Instr.slice, run_underlying Tryz.underlying22, Instr.sliceBounds, Instr.sliceBound, asIntOf, h]
  intro _; cases ao <;> simp [Addr.add]
theorem make_cap (n : Nat) (h : n ≤ 17592186044300) (w : World) : (Instr.makeSlice 22 (.int .i64 0) (.int .i64 ((n : Int) + 12))).run Tryz.prog w = .ok (.slice (some ⟨w.heap.size, 0, none⟩) 0 (n + 12)) (w.alloc (.cells (zrow (n + 12)).toArray 3)) := by
  obtain ⟨i0, hi, hz0, hz1, hz2⟩ := info_parts Tryz.info3
  rw [run_make (P := Tryz.prog) (w := w) 22 3 i0 (.int .i64 0) Tryz.underlying22 hi hz0 .i64 .i64 0 ((n : Int) + 12) (by omega) (by omega) (by rw [hz2]; omega) (by omega), hz1]
  have e : ((n : Int) + 12).toNat = n + 12 := by omega
  rw [e, Nat.mul_one]
  show Result.ok _ (w.alloc (.cells (madeCells #[.int .i64 0] (n + 12)) 3)) = _
  rw [made_zrow]
  rfl

/-- Bytes that were lent: they, and twelve marks behind their end. -/
def LentAt (w : World) (B : Nat) (v : Value) (xs : List Int) : Prop :=
  ∃ g cap, v = .slice (some ⟨g, 0, none⟩) xs.length cap ∧ w.ownsRow B 3 1 (.slice (some ⟨g, 0, none⟩) (xs.length + 12) cap) (xs.length + 12) ((xs ++ marks 1 12).map (Value.int .i64))

theorem cell_new (w : World) (v : Value) (t : TypeId) : (w.alloc (.cells #[v] t)).cell? ⟨w.heap.size, 0, none⟩ = some v := by
  rw [cell_of_row _ _ 0 #[v] t (0, 0) (heap_alloc_new w _)]; rfl

set_option maxHeartbeats 1000000 in
theorem lent_any (ao : Option Addr) (n cap : Nat) (xs : List Int) (w : World) (hn : xs.length = n) (hat : At w ao xs) (hnil : ao = none → n = 0 ∧ cap = 0) (hb : n ≤ 17592186044100) :
    Calls Tryz.prog 23 #[.slice ao n cap] w fun e w' => ∃ v, e = .returned v ∧ LentAt w' w.heap.size v xs ∧ w.grownBy w' none := by
  have Hn := hide hn
  have hmk := make_cap n (by omega)
  clear hn
  go_enter Tryz.func23, Tryz.ntmps23
  go_wp2_with (at_builtin; refine wpList_append_at rfl (.tmp 9) (.tmp 10) rfl w.heap.size (.slice (some ⟨w.heap.size, 0, none⟩) 0 (n + 12)) 0 [] rfl ?_ ao n cap xs rfl Hn.out ?_ hnil (by omega) (by simp) ?_)
  · exact World.ownsRow_made w _ (n + 12) (Nat.le_refl _) (by unfold maxLen; omega) (by simp [zrow])
  · exact hat.kept (World.grownBy_alloc w _ none) (by simp)
  · intro v1 w1 hown hg
    have G1 : Hid (w.grownBy w1 none) := grown_then (World.grownBy_alloc w _ none) hg (fun k e => by cases e; exact Or.inl (Nat.le_refl _))
    have HO := hide hown
    clear hown hg hmk
    go_wp2
    go_loopg [3, 4] 12 (fun k v i wr => ∃ j : Nat, k + j = 12 ∧ i = .int .i64 j ∧ wr.ownsRow w.heap.size 3 1 v (n + j) ((xs ++ marks 1 j).map (Value.int .i64)) ∧ w.grownBy wr none)
    case atStart => exact ⟨0, rfl, rfl, by simpa [marks] using HO.out, G1.out⟩
    case round =>
      obtain ⟨j, hkj, rfl, hown, hg⟩ := hrel
      by_cases hk : 0 < gk
      · have HO2 := hide (And.intro hown hg)
        clear hown hg
        go_wp2_with (first | (go_at_call 44; refine (mark_any 1 j _ (by omega) (by omega) (by omega) (by omega)).mono ?_; rintro e w' ⟨rfl, rfl⟩) | (at_builtin; refine wpList_append_at rfl (.tmp 16) (.tmp 19) rfl w.heap.size _ (n + j) ((xs ++ marks 1 j).map (Value.int .i64)) rfl (HO2.out.1.alloc _) (some ⟨_, 0, none⟩) 1 1 [markB 1 j] rfl rfl ?_ (fun e => by cases e) (by omega) ?_ ?_))
        · exact at_new1 _ _
        · have := HO2.out.2.size; simp; omega
        · intro v' w' hown' hg'
          go_wp2
          go_roundg (gk - 1)
          case measure => omega
          case rel =>
            refine ⟨j + 1, by omega, by go_num, ?_, ?_⟩
            · rw [marks_succ]; simpa [Nat.add_assoc] using hown'
            · refine grown_then (grown_trans HO2.out.2 (World.grownBy_alloc _ _ none)) hg' (fun k e => Or.inl (HO2.out.1.lt k e).1)
      · have hj : j = 12 := by omega
        subst hj
        obtain ⟨ao', cap', rfl, hl, hnc, hcm, hat', hnil', h5⟩ := own_at hown
        obtain ⟨a', rfl⟩ : ∃ a', ao' = some a' := by
          cases ao' with
          | none => have := (hnil' rfl).1; omega
          | some a' => exact ⟨a', rfl⟩
        have hst := slice_to (some a') (n + 12) cap' n (by omega)
        have HO2 := hide (And.intro hown hg)
        clear hown hg hl hcm hat' hnil' h5
        go_wp2
        go_ret
        obtain ⟨hown, hg⟩ := HO2.out
        rcases hown.2 with ⟨hx, _⟩ | ⟨g, cap2, cur, hv, hr⟩
        · cases hx
        · cases hv
          refine ⟨_, rfl, ⟨g, cap', by rw [Hn.out]; rfl, ?_⟩, hg⟩
          rw [Hn.out]; exact hown
/-- What is lent, as bytes that lie somewhere: they and the marks. -/
theorem LentAt.all {w : World} {B : Nat} {v : Value} {xs : List Int} (h : LentAt w B v xs) : ∃ g cap, v = .slice (some ⟨g, 0, none⟩) xs.length cap ∧ xs.length + 12 ≤ cap ∧ cap ≤ maxLen ∧ B ≤ g ∧ g < w.heap.size ∧
    At w (some ⟨g, 0, none⟩) (xs ++ marks 1 12) ∧ ∃ cur, w.heap[g]? = some (.cells cur 3 (0, 0)) ∧ cur.size = cap := by
  obtain ⟨g, cap, rfl, hown⟩ := h
  obtain ⟨ao', cap', hv, hl, hnc, hcm, hat', hnil', h5⟩ := own_at hown
  cases hv
  obtain ⟨hb, hlt, _⟩ := h5 _ rfl
  rcases hown.2 with ⟨hx, _⟩ | ⟨g2, cap2, cur, hv, _, hc, _, _, hs, _⟩
  · cases hx
  · cases hv
    exact ⟨g, cap, rfl, hnc, hcm, hb, hlt, hat', cur, hc, by simpa using hs⟩
theorem LentAt.at {w : World} {B : Nat} {v : Value} {xs : List Int} (h : LentAt w B v xs) : ∃ g cap, v = .slice (some ⟨g, 0, none⟩) xs.length cap ∧ xs.length ≤ cap ∧ cap ≤ maxLen ∧ B ≤ g ∧ g < w.heap.size ∧ At w (some ⟨g, 0, none⟩) xs ∧ ∃ cur, w.heap[g]? = some (.cells cur 3 (0, 0)) := by
  obtain ⟨g, cap, hv, h1, h2, h3, h4, h5, cur, hc, _⟩ := h.all
  refine ⟨g, cap, hv, by omega, h2, h3, h4, ?_, cur, hc⟩
  intro j u hu
  exact h5 j u (by rw [List.getElem?_append_left (List.getElem?_eq_some_iff.1 hu).1, hu])

set_option maxHeartbeats 1000000 in
theorem kept_any (g cap : Nat) (bo : Option Addr) (n d : Nat) (xs : List Int) (w : World) (hn : xs.length = n) (hc1 : n + 12 ≤ cap) (_hc2 : cap ≤ maxLen) (ha : At w (some ⟨g, 0, none⟩) (xs ++ marks 1 12)) (hb : At w bo xs) (hm : n ≤ 17592186044300) :
    Calls Tryz.prog 32 #[.slice (some ⟨g, 0, none⟩) n cap, .slice bo n d] w fun e w' => e = .returned (.bool true) ∧ w.grownBy w' none := by
  have HA := hide (And.intro hn (And.intro ha hb))
  unfold maxLen at _hc2
  have hst := slice_to (some ⟨g, 0, none⟩) n cap (n + 12) hc1
  have hst2 : ∀ w', (Instr.slice 22 (.slice (some ⟨g, 0, none⟩) n cap) none (some (.int .i64 ((n : Int) + 12))) none).run Tryz.prog w' = .ok (.slice (some ⟨g, 0, none⟩) (n + 12) cap) w' := hst
  clear hn ha hb hst
  go_enter Tryz.func32, Tryz.ntmps32
  go_wp2
  go_loopg [6] (n + 12) (fun k i wr => ∃ j : Nat, k + j = n + 12 ∧ i = .int .i64 j ∧ w.grownBy wr none)
  case atStart => exact ⟨0, by omega, rfl, grown_refl _ _⟩
  case round =>
    obtain ⟨j, hkj, rfl, hg⟩ := hrel
    by_cases hk : 0 < gk
    · obtain ⟨hn, ha, hb⟩ := HA.out
      have hj0 : (0 : Int) ≤ (j : Int) := by omega
      have hj1 : (j : Int) < ((n + 12 : Nat) : Int) := by omega
      by_cases hj : j < n
      · have hjx : j < xs.length := by omega
        obtain ⟨a, e1, hca⟩ := ha j xs[j] (by rw [List.getElem?_append_left hjx]; simp [hjx])
        cases e1
        obtain ⟨b, rfl, hcb⟩ := hb j xs[j] (by simp [hjx])
        have hca' := hg.cell hca (by simp)
        have hcb' := hg.cell hcb (by simp)
        rw [Addr.add_lit, Nat.zero_add] at hca'
        generalize xs[j] = x at *
        have hjn : (j : Int) < (n : Int) := by omega
        have hd1 : decide (n ≤ j) = false := by simp; omega
        clear hn ha hb hca hcb hst2 hjx
        go_wp2
        go_quiet (fail)
        go_wp2
        go_roundg (gk - 1)
        case measure => omega
        case rel => exact ⟨j + 1, by omega, by go_num, grown_trans hg (grown_drewN _ _ _)⟩
      · obtain ⟨i, hji⟩ : ∃ i, j = n + i := ⟨j - n, by omega⟩
        have hi : i < 12 := by omega
        obtain ⟨a, e1, hca⟩ := ha j (markB 1 i) (by rw [hji, List.getElem?_append_right (by omega), hn, Nat.add_sub_cancel_left, marks_get 1 12 i hi])
        cases e1
        have hca' := hg.cell hca (by simp)
        rw [Addr.add_lit, Nat.zero_add] at hca'
        have hd1 : decide (j < n) = false := by simp; omega
        have hd3 : decide (n ≤ j) = true := by simp; omega
        have hmk : ∀ w, Calls Tryz.prog 44 #[.int .i64 1, .int .i64 (i : Int)] w fun e w' => e = .returned (.int .i64 (markB 1 i)) ∧ w' = w := fun w => mark_any 1 i w (by omega) (by omega) (by omega) (by omega)
        have Hmk := hide hmk
        have hsub : (j : Int) - (n : Int) = (i : Int) := by omega
        have HJ := hide hji
        have hwi : IntKind.i64.wrap (i : Int) = (i : Int) := by rw [IntKind.wrap_i64]; omega
        generalize markB 1 (i : Int) = x at *
        clear hn ha hb hca hst2 hmk hji
        go_wp2
        go_quiet ((go_at_call 44; exact Calls.quiet_of_same (Hmk.out _)))
        go_wp2
        go_roundg (gk - 1)
        case measure => omega
        case rel => exact ⟨j + 1, by omega, by go_num, grown_trans hg (grown_drewN _ _ _)⟩
    · have hj : j = n + 12 := by omega
      subst hj
      go_wp2
      go_ret
      exact ⟨rfl, hg⟩
set_option maxHeartbeats 1000000 in
theorem over_any (g cap n : Nat) (w : World) (hb : ∃ cur, w.heap[g]? = some (.cells cur 3 (0, 0)) ∧ cur.size = cap) (hc1 : n + 12 ≤ cap) (_hc2 : cap ≤ maxLen) (hm : n ≤ 17592186044300) :
    Calls Tryz.prog 33 #[.slice (some ⟨g, 0, none⟩) n cap] w fun e w' => e = .returned (.tuple #[]) ∧ w.grownBy w' (some g) := by
  unfold maxLen at _hc2
  have hst2 : ∀ w', (Instr.slice 22 (.slice (some ⟨g, 0, none⟩) n cap) none (some (.int .i64 ((n : Int) + 12))) none).run Tryz.prog w' = .ok (.slice (some ⟨g, 0, none⟩) (n + 12) cap) w' := slice_to (some ⟨g, 0, none⟩) n cap (n + 12) hc1
  have HB := hide hb
  clear hb
  go_enter Tryz.func33, Tryz.ntmps33
  go_wp2
  go_loopg [3] (n + 12) (fun k i wr => ∃ j : Nat, k + j = n + 12 ∧ i = .int .i64 j ∧ (∃ cur, wr.heap[g]? = some (.cells cur 3 (0, 0)) ∧ cur.size = cap) ∧ w.grownBy wr (some g))
  case atStart => exact ⟨0, by omega, rfl, HB.out, grown_refl _ _⟩
  case round =>
    obtain ⟨j, hkj, rfl, ⟨cur, hb, hs⟩, hg⟩ := hrel
    by_cases hk : 0 < gk
    · have hj1 : (j : Int) < ((n + 12 : Nat) : Int) := by omega
      have hjs : j < cur.size := by omega
      have hc : wr.cell? ⟨g, j, none⟩ = some cur[j] := by rw [cell_of_row wr g j cur 3 (0, 0) hb]; simp [hjs]
      have hf : wr.frozen? ⟨g, j, none⟩ = false := free_row hb _
      have Hb := hide (And.intro hb hs)
      obtain ⟨y, hy⟩ : ∃ y, y = cur[j] := ⟨_, rfl⟩
      rw [← hy] at hc
      clear hb hs hy hst2
      go_wp2_with (first | (go_at_call 44; refine (mark_any 2 j _ (by omega) (by omega) (by omega) (by omega)).mono ?_; rintro e w' ⟨rfl, rfl⟩) | go_in)
      go_roundg (gk - 1)
      case measure => omega
      case rel =>
        refine ⟨j + 1, by omega, by go_num, ⟨cur.setIfInBounds j (.int .i64 (markB 2 j)), ?_, by simp [Hb.out.2]⟩, grown_trans hg (grown_setCell _ g j _)⟩
        have h1 : _ = some (Obj.cells cur.toList.toArray 3 (0, 0)) := Hb.out.1
        have := row_setCell h1 j (.int .i64 (markB 2 j))
        rw [this]
        simp only [Option.some.injEq, Obj.cells.injEq, and_true]
        exact Array.ext' (by simp)
    · have hj : j = n + 12 := by omega
      subst hj
      clear hb hs
      go_wp2
      go_end0
      exact ⟨rfl, hg⟩

end Go.Proofs.YtnnmaknjhfjojaaGreatDoor
/- The contracts of the statements' own helpers for cabins: LentCabin, SameCabin, KeptCabin, OverCabin. -/
namespace Go.Proofs.YtnnmaknjhfjojaaGreatDoor
open Go.RowKit Cx
attribute [local go_sem ↓] Go.wp_at_zero Go.wp_at_succ

theorem LentAt.kept {w w' : World} {B k : Nat} {v : Value} {xs : List Int} {c : Array Value} {t : TypeId} {fr : Nat × Nat} (h : LentAt w B v xs) (hg : w.grownBy w' (some k)) (hk : w.heap[k]? = some (.cells c t fr)) (hne : t ≠ 3) : LentAt w' B v xs := by
  obtain ⟨g, cap, hv, ho⟩ := h
  exact ⟨g, cap, hv, own_kept ho hg hk hne⟩
theorem LentAt.grown {w w' : World} {B : Nat} {v : Value} {xs : List Int} (h : LentAt w B v xs) (hg : w.grownBy w' none) : LentAt w' B v xs := by
  obtain ⟨g, cap, hv, ho⟩ := h
  exact ⟨g, cap, hv, own_grown ho hg⟩
theorem LentAt.base {w : World} {B B' : Nat} {v : Value} {xs : List Int} (h : LentAt w B v xs) (hb : B' ≤ B) : LentAt w B' v xs := by
  obtain ⟨g, cap, hv, ho⟩ := h
  exact ⟨g, cap, hv, own_base ho hb⟩
theorem LentAt.cb {w : World} {B : Nat} {v : Value} {xs : List Int} (h : LentAt w B v xs) (hs : xs.length ≤ 17592186044000) : ∃ g cap, v = .slice (some ⟨g, 0, none⟩) xs.length cap ∧ CbIn w (some ⟨g, 0, none⟩) xs.length cap xs := by
  obtain ⟨g, cap, hv, h1, h2, h3, h4, h5, -⟩ := h.at
  exact ⟨g, cap, hv, h5, rfl, (fun e => by cases e), h1, h2, hs⟩

set_option maxHeartbeats 1000000 in
theorem lentCabin_any (R W : Int) (ao : Option Addr) (n cap : Nat) (L : List Int) (w : World) (hc : CbIn w ao n cap L) :
    Calls Tryz.prog 6 #[cbV R W (.slice ao n cap)] w fun e w' => ∃ v, e = .returned (cbV R W v) ∧ LentAt w' w.heap.size v L ∧ w.grownBy w' none := by
  have C := hide (fun w' (hg : w.grownBy w' none) => lent_any ao n cap L w' hc.len (hc.at_.grown hg) hc.nil (by have := hc.sm; omega))
  clear hc
  unfold cbV
  have g2 := grown2 w (.cells #[.int .i64 R, .int .i64 W, .slice ao n cap] 24) (.cells #[.int .i64 0, .int .i64 0, .slice none 0 0] 24)
  have hb1 : ((w.alloc (.cells #[.int .i64 R, .int .i64 W, .slice ao n cap] 24)).alloc (.cells #[.int .i64 0, .int .i64 0, .slice none 0 0] 24)).heap[w.heap.size]? = _ := heap_kept (heap_alloc_new w (.cells #[.int .i64 R, .int .i64 W, .slice ao n cap] 24)) (grown_alloc _ _) (by simp)
  have hb2 := heap_alloc_new (w.alloc (.cells #[.int .i64 R, .int .i64 W, .slice ao n cap] 24)) (.cells #[.int .i64 0, .int .i64 0, .slice none 0 0] 24)
  rw [alloc_size] at hb2
  have HB := hide (And.intro g2 (And.intro hb1 hb2))
  clear g2 hb1 hb2
  go_enter Tryz.func6, Tryz.ntmps6
  go_wp2_with fail
  refine (C.out _ HB.out.1).mono ?_
  rintro e w1 ⟨v, rfl, hl, hg1⟩
  have hl2 := hl.base (B' := w.heap.size) HB.out.1.size
  have k1 := heap_kept HB.out.2.1 hg1 (by simp)
  have k2 := heap_kept HB.out.2.2 hg1 (by simp)
  obtain ⟨gv, vc, rfl, -⟩ := hl.all
  have HR := hide (And.intro hl2 (And.intro (grown_trans HB.out.1 hg1) (And.intro k1 k2)))
  obtain ⟨c0, c1, c2⟩ := box3 k1
  obtain ⟨d0, d1, d2⟩ := box3 k2
  have f2 := free_row k1 2
  have e0 := free_row k2 0
  have e1 := free_row k2 1
  have e2 := free_row k2 2
  clear hl hl2 hg1 k1 k2 HB C
  go_wp2
  obtain ⟨hl, hg1, k1, k2⟩ := HR.out
  have s1 := grown_setCell w1 w.heap.size 2 (.slice (some ⟨gv, 0, none⟩) L.length vc)
  have k3 := heap_kept k2 s1 (by simp)
  obtain ⟨s2, s3⟩ := set3 k3 (.int .i64 R) (.int .i64 W) (.slice (some ⟨gv, 0, none⟩) L.length vc)
  refine bodyPost_ret (results_cell_row rfl _ _ (w.heap.size + 1) 24 #[.int .i64 R, .int .i64 W, .slice (some ⟨gv, 0, none⟩) L.length vc] (0, 0) _ rfl s2 Tryz.underlying24 rfl (by kernel_rfl)) rfl ⟨_, rfl, ?_, ?_⟩
  · exact (hl.kept s1 k1 (by decide)).kept s3 k3 (by decide)
  · exact grown_then (grown_then hg1 s1 (fun k e => by cases e; exact Or.inl (Nat.le_refl _))) s3 (fun k e => by cases e; exact Or.inl (by omega))

set_option maxHeartbeats 1000000 in
theorem sameCabin_any (R W : Int) (ao bo : Option Addr) (n c d : Nat) (L : List Int) (w : World) (hn : L.length = n) (ha : At w ao L) (hb : At w bo L) (hm : n ≤ 4611686018427387904) :
    Calls Tryz.prog 31 #[cbV R W (.slice ao n c), cbV R W (.slice bo n d)] w fun r w' => r = .returned (.bool true) ∧ w.grownBy w' none := by
  unfold cbV
  have HA := hide (And.intro hn (And.intro ha hb))
  clear hn ha hb
  go_enter Tryz.func31, Tryz.ntmps31
  go_wp2_with fail
  have g := grown2 w (.cells #[.int .i64 R, .int .i64 W, .slice ao n c] 24) (.cells #[.int .i64 R, .int .i64 W, .slice bo n d] 24)
  refine (same_eq ao bo n c d L _ HA.out.1 (HA.out.2.1.grown g) (HA.out.2.2.grown g) hm).mono ?_
  rintro r w1 ⟨rfl, hg⟩
  have G := hide (grown_trans g hg)
  clear g hg
  go_wp2
  go_ret
  exact ⟨rfl, G.out⟩

set_option maxHeartbeats 1000000 in
theorem keptCabin_any (R W : Int) (g cap : Nat) (bo : Option Addr) (n d : Nat) (L : List Int) (w : World) (hn : L.length = n) (hc1 : n + 12 ≤ cap) (hc2 : cap ≤ maxLen) (ha : At w (some ⟨g, 0, none⟩) (L ++ marks 1 12)) (hb : At w bo L) (hm : n ≤ 17592186044300) :
    Calls Tryz.prog 11 #[cbV R W (.slice (some ⟨g, 0, none⟩) n cap), cbV R W (.slice bo n d)] w fun r w' => r = .returned (.bool true) ∧ w.grownBy w' none := by
  unfold cbV
  have HA := hide (And.intro hn (And.intro ha hb))
  have HC := hide (And.intro hc1 hc2)
  clear hn ha hb hc1 hc2
  have g1 := grown2 w (.cells #[.int .i64 R, .int .i64 W, .slice (some ⟨g, 0, none⟩) n cap] 24) (.cells #[.int .i64 R, .int .i64 W, .slice bo n d] 24)
  have bx : ((w.alloc (.cells #[.int .i64 R, .int .i64 W, .slice (some ⟨g, 0, none⟩) n cap] 24)).alloc (.cells #[.int .i64 R, .int .i64 W, .slice bo n d] 24)).heap[w.heap.size]? = _ := heap_kept (heap_alloc_new w _) (grown_alloc _ _) (by simp)
  have by' := heap_alloc_new (w.alloc (.cells #[.int .i64 R, .int .i64 W, .slice (some ⟨g, 0, none⟩) n cap] 24)) (.cells #[.int .i64 R, .int .i64 W, .slice bo n d] 24)
  rw [alloc_size] at by'
  have HG := hide (And.intro g1 (And.intro bx by'))
  clear g1 bx by'
  go_enter Tryz.func11, Tryz.ntmps11
  go_wp2_with fail
  have X := sameCabin_any R W (some ⟨g, 0, none⟩) bo n cap d L ((w.alloc (.cells #[.int .i64 R, .int .i64 W, .slice (some ⟨g, 0, none⟩) n cap] 24)).alloc (.cells #[.int .i64 R, .int .i64 W, .slice bo n d] 24)) HA.out.1 (by
    have := (HA.out.2.1.grown HG.out.1).take n
    rwa [List.take_left' HA.out.1] at this) (HA.out.2.2.grown HG.out.1) (by omega)
  refine X.mono ?_
  clear X
  rintro r w1 ⟨rfl, hg⟩
  have k1 := heap_kept HG.out.2.1 hg (by simp)
  have k2 := heap_kept HG.out.2.2 hg (by simp)
  have G := hide (grown_trans HG.out.1 hg)
  obtain ⟨c0, c1, c2⟩ := box3 k1
  obtain ⟨d0, d1, d2⟩ := box3 k2
  clear hg k1 k2 HG
  go_wp2_with fail
  refine (kept_any g cap bo n d L _ HA.out.1 HC.out.1 HC.out.2 (HA.out.2.1.grown G.out) (HA.out.2.2.grown G.out) hm).mono ?_
  rintro r w2 ⟨rfl, hg⟩
  have G2 := hide (grown_trans G.out hg)
  clear hg
  go_wp2
  go_ret
  exact ⟨rfl, G2.out⟩
set_option maxHeartbeats 1000000 in
theorem overCabin_any (R W : Int) (g cap n : Nat) (w : World) (hb : ∃ cur, w.heap[g]? = some (.cells cur 3 (0, 0)) ∧ cur.size = cap) (hc1 : n + 12 ≤ cap) (hc2 : cap ≤ maxLen) (hm : n ≤ 17592186044300) :
    Calls Tryz.prog 13 #[cbV R W (.slice (some ⟨g, 0, none⟩) n cap)] w fun r w' => r = .returned (.tuple #[]) ∧ w.grownBy w' (some g) := by
  unfold cbV
  have HB := hide (And.intro hb (And.intro hc1 hc2))
  clear hb hc1 hc2
  go_enter Tryz.func13, Tryz.ntmps13
  go_wp2_with fail
  have X := over_any g cap n (w.alloc (.cells #[.int .i64 R, .int .i64 W, .slice (some ⟨g, 0, none⟩) n cap] 24)) (by
    obtain ⟨cur, h1, h2⟩ := HB.out.1
    exact ⟨cur, heap_kept h1 (grown_alloc _ _) (by simp), h2⟩) HB.out.2.1 HB.out.2.2 hm
  refine X.mono ?_
  clear X
  rintro r w1 ⟨rfl, hg⟩
  have G := hide (grown_trans (grown_none (grown_alloc w _) _) hg)
  clear hg
  go_wp2
  go_end0
  exact ⟨rfl, G.out⟩
end Go.Proofs.YtnnmaknjhfjojaaGreatDoor
/- Rows of bytes, and the marks of places: shared by the texts on lists that lie apart. -/
namespace Go.Proofs.YtnnmaknjhfjojaaGreatDoor.Ap
open Go.RowKit

theorem hide {p : Prop} (h : p) : Hid p := h

theorem grown_then {a b c : World} {row row' : Option Nat} (h : a.grownBy b row) (k : b.grownBy c row') (hr : ∀ j, row' = some j → a.heap.size ≤ j ∨ row = some j) : a.grownBy c row :=
  ⟨k.os.trans h.os, k.tape.trans h.tape, k.output.trans h.output, Nat.le_trans h.size k.size, fun i hi hne =>
    (k.block i (Nat.lt_of_lt_of_le hi h.size) (fun e => by
      rcases hr i e.symm with h1 | h1
      · omega
      · exact hne h1.symm)).trans (h.block i hi hne)⟩
theorem grown_trans {a b c : World} {row : Option Nat} (h : a.grownBy b row) (k : b.grownBy c row) : a.grownBy c row := grown_then h k (fun _ e => Or.inr e)
theorem grown_refl (w : World) (row : Option Nat) : w.grownBy w row := ⟨rfl, rfl, rfl, Nat.le_refl _, fun _ _ _ => rfl⟩
theorem grown_drew (w : World) (row : Option Nat) : w.grownBy w.drew row := ⟨rfl, rfl, rfl, Nat.le_refl _, fun _ _ _ => rfl⟩
theorem grown_none {a b : World} (h : a.grownBy b none) (row : Option Nat) : a.grownBy b row := grown_then (grown_refl a row) h (fun _ e => by cases e)
theorem grown_setCell (w : World) (g j : Nat) (u : Value) : w.grownBy (w.setCell ⟨g, j, none⟩ u) (some g) :=
  ⟨rfl, rfl, rfl, by simp [World.setCell], fun k _ hne => Below.heap_setCell _ _ _ _ (by intro e; exact hne (by simp [e]))⟩
theorem grown_below {a b : World} (h : a.grownBy b none) : Below a.heap.size a b := ⟨h.os, h.tape, h.output, h.size, fun k hk => h.block k hk (fun e => by cases e)⟩
theorem below_grown {a b : World} (h : Below a.heap.size a b) : a.grownBy b none := ⟨h.os, h.tape, h.output, h.size, fun k hk _ => h.block k hk⟩

theorem cell_row {w : World} {g : Nat} {l : List Value} {t : TypeId} {fr : Nat × Nat} (h : w.heap[g]? = some (.cells l.toArray t fr)) (j : Nat) : w.cell? ⟨g, j, none⟩ = l[j]? := by
  rw [cell_of_row w g j l.toArray t fr h]; simp
theorem free_row {w : World} {g : Nat} {c : Array Value} {t : TypeId} (h : w.heap[g]? = some (.cells c t (0, 0))) (j : Nat) : w.frozen? ⟨g, j, none⟩ = false := by
  simp [World.frozen?, h]
theorem row_setCell {w : World} {g : Nat} {l : List Value} {t : TypeId} {fr : Nat × Nat} (h : w.heap[g]? = some (.cells l.toArray t fr)) (j : Nat) (u : Value) : (w.setCell ⟨g, j, none⟩ u).heap[g]? = some (.cells (l.set j u).toArray t fr) := by
  simp [World.setCell, Array.getElem?_modify, h]
theorem row_lt {w : World} {g : Nat} {o : Obj} (h : w.heap[g]? = some o) : g < w.heap.size := (Array.getElem?_eq_some_iff.1 h).1


/-- The bytes xs lie where ao leads. -/
def At (w : World) (ao : Option Addr) (xs : List Nat) : Prop := ∀ j u, xs[j]? = some u → ∃ a, ao = some a ∧ w.cell? (a.add j) = some (.int .u8 ((u : Nat) : Int))
theorem addr_add_block (a : Addr) (j : Nat) : (a.add j).block = a.block := by unfold Addr.add; split <;> rfl
theorem At.nil (w : World) (ao : Option Addr) : At w ao [] := fun j u h => by simp at h
theorem At.kept {w w' : World} {ao : Option Addr} {xs : List Nat} {row : Option Nat} (h : At w ao xs) (hg : w.grownBy w' row) (hr : ∀ a, ao = some a → some a.block ≠ row) : At w' ao xs := by
  intro j u hu
  obtain ⟨a, ha, hcell⟩ := h j u hu
  exact ⟨a, ha, hg.cell hcell (by rw [addr_add_block]; exact hr a ha)⟩
theorem At.grown {w w' : World} {ao : Option Addr} {xs : List Nat} (h : At w ao xs) (hg : w.grownBy w' none) : At w' ao xs := h.kept hg (by simp)
/-- They are bytes. -/
def Bytes (xs : List Nat) : Prop := ∀ x ∈ xs, x < 256

theorem Tryz.info5 : (Tryz.prog.info? 5).map (fun i => (i.zero, i.size, i.bytes)) = some (some (.int .u8 0), 1, 1) := by kernel_rfl

/-- Bytes as they lie in cells. -/
def bv (xs : List Nat) : List Value := xs.map fun (x : Nat) => Value.int .u8 (x : Int)
theorem bv_length (xs : List Nat) : (bv xs).length = xs.length := by simp [bv]
theorem bv_append (xs ys : List Nat) : bv (xs ++ ys) = bv xs ++ bv ys := by simp [bv]
theorem bv_get (xs : List Nat) (j u : Nat) (h : xs[j]? = some u) : (bv xs)[j]? = some (.int .u8 (u : Int)) := by simp [bv, h]
theorem bv_set (xs : List Nat) (j u : Nat) : bv (xs.set j u) = (bv xs).set j (.int .u8 (u : Int)) := by simp [bv, List.map_set]
theorem At.take {w : World} {ao : Option Addr} {xs : List Nat} (h : At w ao xs) (j : Nat) : At w ao (xs.take j) := by
  intro i u hu
  rw [List.getElem?_take] at hu
  split at hu
  · exact h i u hu
  · cases hu
theorem at_row {w : World} {A : Nat} {xs : List Nat} {t : TypeId} {fr : Nat × Nat} (h : w.heap[A]? = some (.cells (bv xs).toArray t fr)) : At w (some ⟨A, 0, none⟩) xs := by
  intro j u hu
  refine ⟨_, rfl, ?_⟩
  rw [Addr.add_lit, Nat.zero_add, cell_row h, bv_get xs j u hu]
theorem at_new (w : World) (xs : List Nat) (C : Array Value) (hC : C = (bv xs).toArray) (t : TypeId) : At (w.alloc (.cells C t)) (some ⟨w.heap.size, 0, none⟩) xs := by
  subst hC; exact at_row (heap_alloc_new w _)
/-- append(s, x...), s the call's own, x bytes that lie somewhere (or nil). -/
theorem wpList_append_at {w : World} {ops : Array Oper} {rest : List Oper} {o : Oper} {a : Act} {Q : Exit → Act → World → Prop} (hgd : o.guard = none) (s x : Operand)
    (ho : o.op = .call { callee := .builtin .append, args := #[s, x], argTypes := #[31, 31] }) (base : Nat) (v : Value) (n : Nat) (xs : List Nat) (hs : a.eval s = v) (hown : w.ownsRow base 5 1 v n (bv xs))
    (ao : Option Addr) (m c : Nat) (ys : List Nat) (hx : a.eval x = .slice ao m c) (hm : ys.length = m) (hat : At w ao ys) (hnil : ao = none → m = 0 ∧ c = 0)
    (hbytes : n + m ≤ 140737488355328) (hbase : base ≤ w.heap.size)
    (h : ∀ v' w', w'.ownsRow base 5 1 v' (n + m) (bv (xs ++ ys)) → w.grownBy w' v.ownBlock → wpList Tryz.prog ops Q rest (a.put o.dst v') w') : wpList Tryz.prog ops Q (o :: rest) a w := by
  obtain ⟨i0, hi, hz0, hz1, hz2⟩ := info_parts Tryz.info5
  cases ao with
  | none =>
    obtain ⟨rfl, rfl⟩ := hnil rfl
    refine wpList_append_own_none hgd s x 31 ho base 5 i0 1 Tryz.underlying31 hi v n (bv xs) hs hown hx (h v w ?_ (grown_refl w _))
    have : ys = [] := List.eq_nil_of_length_eq_zero hm
    subst this
    simpa using hown
  | some ad =>
    refine wpList_append_own _ hgd s x 31 ho base 5 i0 (.int .u8 0) 1 1 Tryz.underlying31 hi hz0 hz1 hz2 rfl (by decide) v n (bv xs) hs hown ad m c (bv ys) hx (by simp [bv_length, hm]) ?_ ?_ (by unfold maxLen; omega) (by omega) hbase (fun v' w' h1 h2 _ => h v' w' (by rw [bv_append]; exact h1) h2)
    · intro j u hu
      rw [bv, List.getElem?_map] at hu
      cases hj : ys[j]? with
      | none => simp [hj] at hu
      | some y =>
        simp [hj] at hu
        obtain ⟨a', ha', hc'⟩ := hat j y hj
        cases ha'
        rw [← hu]; exact hc'
    · intro u hu; rw [bv, List.mem_map] at hu; obtain ⟨y, _, rfl⟩ := hu; rfl

/-- An owned row of bytes, as bytes that lie somewhere. -/
theorem own_at {w : World} {base n : Nat} {v : Value} {xs : List Nat} (h : w.ownsRow base 5 1 v n (bv xs)) :
    ∃ ao cap, v = .slice ao n cap ∧ xs.length = n ∧ n ≤ cap ∧ cap ≤ maxLen ∧ At w ao xs ∧ (ao = none → n = 0 ∧ cap = 0) ∧ (∀ a, ao = some a → a = ⟨a.block, 0, none⟩ ∧ base ≤ a.block ∧ a.block < w.heap.size) := by
  obtain ⟨hl, h⟩ := h
  simp [bv_length] at hl
  rcases h with ⟨rfl, rfl⟩ | ⟨g, cap, cur, rfl, hb, hg, hn, hm, hs, ht⟩
  · have : xs = [] := List.eq_nil_of_length_eq_zero hl
    subst this
    exact ⟨none, 0, rfl, rfl, Nat.le_refl _, Nat.zero_le _, At.nil _ _, fun _ => ⟨rfl, rfl⟩, fun a e => by cases e⟩
  · refine ⟨some ⟨g, 0, none⟩, cap, rfl, hl, hn, hm, ?_, (fun e => by cases e), fun a e => by cases e; exact ⟨rfl, hb, row_lt hg⟩⟩
    intro j u hu
    refine ⟨_, rfl, ?_⟩
    rw [Addr.add_lit, Nat.zero_add, cell_of_row w g j cur 5 (0, 0) hg]
    have h1 : (cur.toList.take (n * 1))[j]? = some (Value.int .u8 u) := by rw [ht]; exact bv_get xs j u hu
    rw [List.getElem?_take] at h1
    split at h1
    · simpa using h1
    · cases h1

theorem grown_drewN (w : World) (n : Nat) (row : Option Nat) : w.grownBy (w.drewN n) row := ⟨rfl, rfl, rfl, Nat.le_refl _, fun _ _ _ => rfl⟩
attribute [local go_sem ↓] Go.wp_at_zero Go.wp_at_succ

/-- The mark of a place. -/
def markB (k i : Int) : Int := IntKind.u64.wrap ((1000003 * (k + 7) + i) * 11400714819323198485) / 72057594037927936 % 256
theorem markB_byte (k i : Int) : 0 ≤ markB k i ∧ markB k i < 256 := by unfold markB; omega
set_option maxHeartbeats 400000 in
theorem mark_any (k i : Int) (w : World) (_hk0 : 0 ≤ k) (_hk : k ≤ 1000000) (_hi0 : 0 ≤ i) (_hi : i ≤ 1000000000000000000) :
    Calls Tryz.prog 81 #[.int .i64 k, .int .i64 i] w fun e w' => e = .returned (.int .u8 (markB k i)) ∧ w' = w := by
  go_enter Tryz.func81, Tryz.ntmps81
  go_wp2
  go_ret
  exact ⟨rfl, rfl⟩

/-- The first j marks. -/
def mkN (k : Int) (i : Nat) : Nat := (markB k (i : Int)).toNat
theorem mkN_cast (k : Int) (i : Nat) : markB k (i : Int) = ((mkN k i : Nat) : Int) := by have := markB_byte k (i : Int); unfold mkN; omega
def marks (k : Int) (j : Nat) : List Nat := (List.range j).map fun (i : Nat) => mkN k i
theorem marks_length (k : Int) (j : Nat) : (marks k j).length = j := by simp [marks]
theorem marks_succ (k : Int) (j : Nat) : marks k (j + 1) = marks k j ++ [mkN k j] := by simp [marks, List.range_succ]
theorem marks_get (k : Int) (j i : Nat) (h : i < j) : (marks k j)[i]? = some (mkN k i) := by simp [marks, h]
theorem markN_any (k : Int) (i : Nat) (w : World) (hk0 : 0 ≤ k) (hk : k ≤ 1000000) (hi : i ≤ 1000000000000000000) :
    Calls Tryz.prog 81 #[.int .i64 k, .int .i64 (i : Int)] w fun e w' => e = .returned (.int .u8 ((mkN k i : Nat) : Int)) ∧ w' = w := by
  rw [← mkN_cast]; exact mark_any k (i : Int) w hk0 hk (by omega) (by omega)

theorem made_zrow (n : Nat) : madeCells #[.int .u8 0] n = (List.replicate n (Value.int .u8 0)).toArray := by
  apply Array.ext'
  rw [toList_madeCells_one]
def zrow (n : Nat) : List Value := List.replicate n (.int .u8 0)
theorem slice_to (ao : Option Addr) (len cap n : Nat) (h : n ≤ cap) (w : World) : (Instr.slice 31 (.slice ao len cap) none (some (.int .i64 (n : Int))) none).run Tryz.prog w = .ok (.slice ao n cap) w := by
  simp [Instr.slice, run_underlying Tryz.underlying31, Instr.sliceBounds, Instr.sliceBound, asIntOf, h]
  intro _; cases ao <;> simp [Addr.add]
theorem make_cap (n : Nat) (h : n ≤ 140737488355328) (w : World) : (Instr.makeSlice 31 (.int .i64 0) (.int .i64 ((n : Int) + 12))).run Tryz.prog w = .ok (.slice (some ⟨w.heap.size, 0, none⟩) 0 (n + 12)) (w.alloc (.cells (zrow (n + 12)).toArray 5)) := by
  obtain ⟨i0, hi, hz0, hz1, hz2⟩ := info_parts Tryz.info5
  rw [run_make (P := Tryz.prog) (w := w) 31 5 i0 (.int .u8 0) Tryz.underlying31 hi hz0 .i64 .i64 0 ((n : Int) + 12) (by omega) (by omega) (by rw [hz2]; omega) (by omega), hz1]
  have e : ((n : Int) + 12).toNat = n + 12 := by omega
  rw [e, Nat.mul_one]
  show Result.ok _ (w.alloc (.cells (madeCells #[.int .u8 0] (n + 12)) 5)) = _
  rw [made_zrow]
  rfl

theorem cell_new (w : World) (v : Value) (t : TypeId) : (w.alloc (.cells #[v] t)).cell? ⟨w.heap.size, 0, none⟩ = some v := by
  rw [cell_of_row _ _ 0 #[v] t (0, 0) (heap_alloc_new w _)]; rfl

end Go.Proofs.YtnnmaknjhfjojaaGreatDoor.Ap
/- Rows of bytes that lie apart: what keeps them; append that leaves the row ahead of it as it was. Plain lemmas for flatBytes. -/
namespace Go.Proofs.YtnnmaknjhfjojaaGreatDoor.Ap
open Go.RowKit

theorem ownsRow_le {w : World} {base base' size n : Nat} {e : TypeId} {v : Value} {xs : List Value} (h : w.ownsRow base e size v n xs) (hb : base' ≤ base) : w.ownsRow base' e size v n xs := by
  refine ⟨h.1, ?_⟩
  rcases h.2 with h1 | ⟨g, cap, cur, h1, h2, h3⟩
  · exact Or.inl h1
  · exact Or.inr ⟨g, cap, cur, h1, by omega, h3⟩
/-- append(s, x...), s the call's own, x bytes that lie somewhere: s still reads as it did; what is answered lies where s lies, or in a new place. -/
theorem run_append_keep (w : World) (ty : TypeId) (base : Nat) (v : Value) (n : Nat) (xs : List Value) (hown : w.ownsRow base 5 1 v n xs) (a : Addr) (m c : Nat) (ys : List Nat) (hl : ys.length = m) (h0 : 0 < m) (hat : At w (some a) ys)
    (hbytes : n + m ≤ 140737488355328) (hbase : base ≤ w.heap.size) :
    ∃ v' w', (Builtin.append_ #[31, 31] ty #[v, .slice (some a) m c]).run Tryz.prog w = .ok v' w' ∧ w'.ownsRow base 5 1 v' (n + m) (xs ++ bv ys) ∧ w'.ownsRow base 5 1 v n xs ∧ w.grownBy w' v.ownBlock ∧
      (v'.ownBlock = v.ownBlock ∨ ∀ k, v'.ownBlock = some k → w.heap.size ≤ k) := by
  obtain ⟨i0, hi, hz0, hz1, hz2⟩ := info_parts Tryz.info5
  have hnews : ∀ j u, (bv ys)[j]? = some u → w.cell? (a.add j) = some u := by
    intro j u hu
    rw [bv, List.getElem?_map] at hu
    cases hj : ys[j]? with
    | none => simp [hj] at hu
    | some y =>
      simp [hj] at hu
      obtain ⟨a', ha', hc'⟩ := hat j y hj
      cases ha'
      rw [← hu]; exact hc'
  have h1 : ∀ u ∈ bv ys, u.oneCell' = true := by intro u hu; rw [bv, List.mem_map] at hu; obtain ⟨y, _, rfl⟩ := hu; rfl
  have hbl : (bv ys).length = m := by rw [bv_length, hl]
  rcases hown.2 with ⟨rfl, rfl⟩ | ⟨g, cap, cur, rfl, hbg, hg, hnc, hcm, hcs, htake⟩
  · have hx : xs = [] := List.eq_nil_of_length_eq_zero (by simpa using hown.1)
    subst hx
    have hr := run_append_nil (P := Tryz.prog) w 31 ty 5 i0 (.int .u8 0) Tryz.underlying31 hi hz0 a m c (bv ys) (by rw [hz1, hbl, Nat.mul_one]) hnews h0 (by omega) (by rw [hz2]; omega)
    have hge := grownCap_ge w m 0 5
    have hcm2 : grownCap w m 0 5 ≤ maxLen := grownCap_le_maxLen w m 0 5 (by unfold maxLen; omega)
    have hgr : w.grownBy (w.drew.alloc (.cells ((bv ys).toArray ++ Builtin.zeroCells (Value.int .u8 0).cells (grownCap w m 0 5 - m)) 5)) none := grown_trans (grown_drew w none) (World.grownBy_alloc w.drew _ none)
    refine ⟨_, _, hr, ⟨by simp [hbl], .inr ⟨w.heap.size, _, _, by rw [Nat.zero_add], hbase, heap_alloc_new w.drew _, by omega, hcm2, ?_, ?_⟩⟩, World.ownsRow_nil _ _ _ _, hgr, Or.inr (fun k e => by cases e; exact Nat.le_refl _)⟩
    · simp only [Array.size_append, List.size_toArray, size_zeroCells, hbl, Nat.mul_one]
      have : (Value.int .u8 0).cells.size = 1 := rfl
      rw [this]; omega
    · simp only [Array.toList_append, List.nil_append, Nat.zero_add, Nat.mul_one]
      rw [List.take_append_of_le_length (by simp [hbl]), List.take_of_length_le (by simp [hbl])]
  · by_cases hroom : n + m ≤ cap
    · have hfit : n * i0.size + (bv ys).length ≤ cur.size := by rw [hz1, hbl, hcs]; omega
      have hr := run_append_room (P := Tryz.prog) w 31 ty 5 i0 Tryz.underlying31 hi g n cap cur hg a m c (bv ys) (by rw [hz1, hbl, Nat.mul_one]) hnews h1 hroom hfit
      rw [hz1, Nat.mul_one, hbl] at hr
      have hxl : xs.length = n := by simpa using hown.1
      rw [Nat.mul_one] at htake
      have hlen2 : (cur.toList.take n ++ bv ys ++ cur.toList.drop (n + m)).toArray.size = cap * 1 := by
        simp only [List.size_toArray, List.length_append, List.length_take, List.length_drop, Array.length_toList, hbl]; omega
      refine ⟨_, _, hr, ⟨by simp [hxl, hbl], .inr ⟨g, cap, _, rfl, hbg, setRow_heap w g cur _ 5 _ hg, hroom, hcm, hlen2, ?_⟩⟩, ⟨hown.1, .inr ⟨g, cap, _, rfl, hbg, setRow_heap w g cur _ 5 _ hg, hnc, hcm, hlen2, ?_⟩⟩, (⟨rfl, rfl, rfl, by simp, fun k _ hk => setRow_other w g k _ (fun e => hk (by simp [Value.ownBlock, e]))⟩), Or.inl rfl⟩
      · rw [htake, Nat.mul_one]
        rw [List.take_append_of_le_length (by simp [hxl, hbl]), List.take_of_length_le (by simp [hxl, hbl])]
      · rw [htake, Nat.mul_one, List.append_assoc]
        rw [List.take_append_of_le_length (by omega), List.take_of_length_le (by omega)]
    · have holds : ∀ j u, xs[j]? = some u → w.cell? ((⟨g, 0, none⟩ : Addr).add j) = some u := hown.cells (g := g) rfl
      obtain ⟨v', w', hr, h2, h3⟩ := run_append_arg_grows (P := Tryz.prog) w 31 ty 5 i0 (.int .u8 0) 1 1 Tryz.underlying31 hi hz0 hz1 hz2 rfl (by decide) ⟨g, 0, none⟩ n cap xs hown.1 holds a m c (bv ys) (by simp [hbl]) hnews (by omega) (by unfold maxLen; omega) (by omega)
      refine ⟨v', w', hr, ownsRow_le h2 hbase, hown.kept h3 (Or.inr (by simp [Value.ownBlock])), grown_none h3 _, Or.inr (fun k e => (h2.lt k e).1)⟩

/-- The same as a step of the walk. -/
theorem wpList_append_keep {w : World} {ops : Array Oper} {rest : List Oper} {o : Oper} {a : Act} {Q : Exit → Act → World → Prop} (hgd : o.guard = none) (s x : Operand)
    (ho : o.op = .call { callee := .builtin .append, args := #[s, x], argTypes := #[31, 31] }) (base : Nat) (v : Value) (n : Nat) (xs : List Value) (hs : a.eval s = v) (hown : w.ownsRow base 5 1 v n xs)
    (ad : Addr) (m c : Nat) (ys : List Nat) (hx : a.eval x = .slice (some ad) m c) (hl : ys.length = m) (h0 : 0 < m) (hat : At w (some ad) ys) (hbytes : n + m ≤ 140737488355328) (hbase : base ≤ w.heap.size)
    (h : ∀ v' w', w'.ownsRow base 5 1 v' (n + m) (xs ++ bv ys) → w'.ownsRow base 5 1 v n xs → w.grownBy w' v.ownBlock → (v'.ownBlock = v.ownBlock ∨ ∀ k, v'.ownBlock = some k → w.heap.size ≤ k) → wpList Tryz.prog ops Q rest (a.put o.dst v') w') : wpList Tryz.prog ops Q (o :: rest) a w := by
  refine wpList_plain hgd fun K hK => ?_
  obtain ⟨v', w', hr, h1, h2, h3, h4⟩ := run_append_keep w o.type base v n xs hown ad m c ys hl h0 hat hbytes hbase
  unfold Oper.wp execOp
  simp only [ho, resolve, invoke, builtin, Sem.run_bind, Sem.run_pure, Result.andThen_ok, List.map_toArray, List.map_cons, List.map_nil, hs, hx, hr]
  exact hK _ _ (h v' w' h1 h2 h3 h4)

/-- Two rows of unlike kinds of cells lie apart. -/
theorem own_ne {w : World} {B B' n n' s s' : Nat} {e e' : TypeId} {v v' : Value} {xs xs' : List Value} (h : w.ownsRow B e s v n xs) (h' : w.ownsRow B' e' s' v' n' xs') (he : e ≠ e') : v.ownBlock = none ∨ v.ownBlock ≠ v'.ownBlock := by
  rcases h.2 with ⟨rfl, _⟩ | ⟨g, cap, cur, rfl, _, hg, _⟩
  · exact Or.inl rfl
  · right
    rcases h'.2 with ⟨rfl, _⟩ | ⟨g', cap', cur', rfl, _, hg', _⟩
    · simp [Value.ownBlock]
    · simp only [Value.ownBlock, ne_eq, Option.some.injEq]
      rintro rfl
      rw [hg] at hg'
      simp at hg'
      exact he hg'.2

/-- The lists ls, each a row of its own: K values v k of n k bytes, that hold f k. -/
structure Fl (w : World) (B K : Nat) (lsv : Value) (v : Nat → Value) (n : Nat → Nat) (f : Nat → List Value) : Prop where
  ls : w.ownsRow B 31 1 lsv K ((List.range K).map v)
  row : ∀ k, k < K → w.ownsRow B 5 1 (v k) (n k) (f k)
  apart : ∀ i k, i < K → k < K → i ≠ k → (v i).ownBlock = none ∨ (v i).ownBlock ≠ (v k).ownBlock
theorem Fl.kept {w w' : World} {B K : Nat} {lsv : Value} {v : Nat → Value} {n : Nat → Nat} {f : Nat → List Value} (h : Fl w B K lsv v n f) (hg : w.grownBy w' none) : Fl w' B K lsv v n f :=
  ⟨h.ls.kept hg (by cases lsv.ownBlock <;> simp), fun k hk => (h.row k hk).kept hg (by cases (v k).ownBlock <;> simp), h.apart⟩
/-- One row is written; the others stay. -/
theorem Fl.wrote {w w' : World} {B K : Nat} {lsv : Value} {v : Nat → Value} {n : Nat → Nat} {f f' : Nat → List Value} (h : Fl w B K lsv v n f) (j : Nat) (hj : j < K) (hg : w.grownBy w' (v j).ownBlock) (hrow : w'.ownsRow B 5 1 (v j) (n j) (f' j))
    (hf : ∀ k, k ≠ j → f' k = f k) : Fl w' B K lsv v n f' := by
  refine ⟨h.ls.kept hg (own_ne h.ls (h.row j hj) (by decide)), fun k hk => ?_, h.apart⟩
  by_cases e : k = j
  · subst e; exact hrow
  · rw [hf k e]
    exact (h.row k hk).kept hg (h.apart k j hk hj e)
end Go.Proofs.YtnnmaknjhfjojaaGreatDoor.Ap
