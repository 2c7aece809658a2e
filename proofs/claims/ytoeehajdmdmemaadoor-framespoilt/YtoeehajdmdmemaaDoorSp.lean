/- The walk of FrameSpoilt. -/
import Derived.Test.YtoeehajdmdmemaaDoorGe
import Derived.Test.YtoeehajdmdmemaaDoorSx
namespace Go.Proofs.YtoeehajdmdmemaaDoor
open Go.RowKit
attribute [local go_sem ↓] Go.wp_at_zero Go.wp_at_succ

theorem own_row {w : World} {base g n : Nat} {xs : List Int} (h : w.heap[g]? = some (.cells (xs.map (Value.int .u8)).toArray 5 (0, 0))) (hb : base ≤ g) (hn : xs.length = n) (hm : n ≤ maxLen) : w.ownsRow base 5 1 (.slice (some ⟨g, 0, none⟩) n n) n (xs.map (Value.int .u8)) := by
  refine ⟨by simp [hn], Or.inr ⟨g, n, (xs.map (Value.int .u8)).toArray, rfl, hb, h, Nat.le_refl _, hm, by simp [hn], ?_⟩⟩
  exact List.take_of_length_le (by simp; omega)

set_option maxHeartbeats 2000000 in
theorem spoilt_any (f : Fr) (hf : f.Ok) (ao : Option Addr) (n cap : Nat) (p by_ : Int) (w : World) (hn : f.b.length = n) (hat : At w ao f.b) (hc : n ≤ cap) (hcm : cap ≤ maxLen) (hm : n ≤ 140737488351232) (hb0 : 0 ≤ by_) (hb1 : by_ < 256) (hT : Tab w) :
    Calls Tryd.prog 8 #[frV f.e f.s (.slice ao n cap), .int .i64 p, .int .u8 by_] w fun r w' => r = .returned (.bool true) ∧ w.grownBy w' none := by
  have HF := hide (And.intro hf (And.intro hn (And.intro hat (And.intro hc (And.intro hcm hT)))))
  have g1 := World.grownBy_alloc w (.cells #[.int .u64 f.e, .int .u64 f.s, .slice ao n cap] 25) none
  have BX := hide (heap_alloc_new w (.cells [Value.int .u64 f.e, .int .u64 f.s, .slice ao n cap].toArray 25))
  have G1 := hide g1
  unfold frV
  clear hf hn hat hc hcm hT g1
  go_enter Tryd.func8, Tryd.ntmps8
  go_wp2_with fail
  simp only [List.toArray] at BX
  generalize w.alloc (.cells #[.int .u64 f.e, .int .u64 f.s, .slice ao n cap] 25) = w1 at *
  refine (awake_any w1 (HF.out.2.2.2.2.2.grown G1.out)).mono ?_
  rintro r w2 ⟨rfl, hg⟩
  have G2 := hide (grown_trans G1.out hg)
  have BX2 := hide ((hg.block _ (row_lt BX.out) (by simp)).trans BX.out)
  clear hg G1 BX
  obtain ⟨c0, c1, c2⟩ := box_cells BX2.out
  by_cases h32 : 32 < n
  · go_wp2_with fail
    refine (put_long f.e f.s ao n cap w2 h32 (by omega)).mono ?_
    rintro r w3 ⟨rfl, hg⟩
    have G3 := hide (grown_trans G2.out hg)
    have BX3 := hide ((hg.block _ (row_lt BX2.out) (by simp)).trans BX2.out)
    clear hg G2 BX2 c0 c1 c2
    obtain ⟨c0, c1, c2⟩ := box_cells BX3.out
    have h32' : (32 : Int) < (n : Int) := by omega
    go_wp2
    go_ret
    exact ⟨rfl, G3.out⟩
  · go_wp2_with fail
    refine (fput_any f HF.out.1 (by have := HF.out.2.1; omega) ao n cap w2 HF.out.2.1 (HF.out.2.2.1.kept G2.out (fun _ _ e => by cases e)) HF.out.2.2.2.1 HF.out.2.2.2.2.1 (HF.out.2.2.2.2.2.grown G2.out) (by have := tab_lt (HF.out.2.2.2.2.2.grown G2.out); exact this)).mono ?_
    rintro r w3 ⟨g, rfl, hgl, hrow, hg⟩
    have G3 := hide (grown_trans G2.out hg)
    have HR := hide hrow
    have HGl : Hid (w.heap.size ≤ g) := by have := G2.out.size; show _ ≤ _; omega
    clear hg G2 BX2 c0 c1 c2 hrow hgl
    have hq0 := Int.emod_nonneg p (show ((20 + n : Nat) : Int) ≠ 0 by omega)
    have hq1 := Int.emod_lt_of_pos p (show (0 : Int) < ((20 + n : Nat) : Int) by omega)
    have HPk : Hid (∀ w, Calls Tryd.prog 31 #[.int .i64 p, .int .i64 ((20 + n : Nat) : Int)] w fun e w' => e = .returned (.int .i64 (p % ((20 + n : Nat) : Int))) ∧ w' = w) := fun w => pick_any p _ (20 + n) w rfl (by omega) (by omega)
    obtain ⟨q, hq⟩ := Int.eq_ofNat_of_zero_le hq0
    rw [hq] at hq1 HPk
    have hqn : q < 20 + n := by omega
    have hsub : ((22 + n : Nat) : Int) - 2 = ((20 + n : Nat) : Int) := by omega
    have hnn : ¬ ((22 + n : Nat) : Int) < 22 := by omega
    clear hq hq0 hq1
    go_wp2_with fail
    rw [show (22 + (n : Int) - 2) = ((20 + n : Nat) : Int) by omega]
    refine (HPk.out w3).mono ?_
    rintro r w4 ⟨rfl, rfl⟩
    obtain ⟨K, hK⟩ : ∃ K, K = 2 + q := ⟨_, rfl⟩
    have hKi : (2 : Int) + (q : Int) = (K : Int) := by omega
    have hKl : K < f.out.length := by rw [f.out_length]; have := HF.out.2.1; omega
    have hK2 : 2 ≤ K := by omega
    have hKn : K < 22 + n := by omega
    have hKu : (K : Int) < 22 + (n : Int) := by omega
    have hwr : IntKind.i64.wrap (K : Int) = (K : Int) := by rw [IntKind.wrap_i64]; omega
    have hcell : w4.cell? ⟨g, K, none⟩ = some (.int .u8 f.out[K]) := by rw [cell_row HR.out, List.getElem?_map, List.getElem?_eq_getElem hKl]; rfl
    have hfz := free_row HR.out K
    have hby := Fr.out_byt HF.out.1.byt f.out[K] (List.getElem_mem hKl)
    clear HPk hK hqn hsub hnn
    obtain ⟨b', hb', hb0', hb1'⟩ : ∃ b', b' = (if by_ = 0 then 1 else by_) ∧ 0 < b' ∧ b' < 256 := ⟨_, rfl, by split <;> omega, by split <;> omega⟩
    have hx := bits_xorI hby ⟨Int.le_of_lt hb0', hb1'⟩
    have hxb := xorI_byte hby ⟨Int.le_of_lt hb0', hb1'⟩
    have HSp := hide (spoilt HF.out.1 (by have := HF.out.2.1; omega) K b' hK2 hKl ⟨hb0', hb1'⟩ [1, 2, 3])
    obtain ⟨Y, hY⟩ : ∃ Y, Y = xorI f.out[K] b' := ⟨_, rfl⟩
    rw [← hY] at hx hxb HSp
    have HY := hide hY
    clear hY
    generalize hX : f.out[K] = X at *
    have HX := hide hX
    clear hX
    have hrow5 := row_setCell (l := f.out.map (Value.int .u8)) HR.out K (.int .u8 Y)
    rw [← List.map_set] at hrow5
    have g5 := grown_then G3.out (grown_setCell w4 g K (.int .u8 Y)) (fun j e => by cases e; exact Or.inl HGl.out)
    have hl5 : (f.out.set K Y).length = 22 + n := by rw [List.length_set, f.out_length, HF.out.2.1]
    have OW := hide (own_row hrow5 HGl.out hl5 (by unfold maxLen; omega))
    have G5 := hide g5
    have Hby : Hid (Byt (f.out.set K Y ++ [1, 2, 3])) := (byt_set (Fr.out_byt HF.out.1.byt) K hxb).append (fun x hx => by simp at hx; omega)
    have HL5 := hide hl5
    have HN5 : Hid (At ((w4.setCell ⟨g, K, none⟩ (.int .u8 Y)).alloc (.cells #[.int .u8 1, .int .u8 2, .int .u8 3] 5)) (some ⟨w4.heap.size, 0, none⟩) [1, 2, 3]) := by
      have := at_new (w4.setCell ⟨g, K, none⟩ (.int .u8 Y)) [1, 2, 3] #[.int .u8 1, .int .u8 2, .int .u8 3] rfl
      rwa [show (w4.setCell ⟨g, K, none⟩ (.int .u8 Y)).heap.size = w4.heap.size by simp [World.setCell]] at this
    clear hrow5 g5 hl5
    rcases Classical.em (by_ = 0) with hz | hz
    case' inl =>
      rw [if_pos hz] at hb'
      subst hz
      subst hb'
      go_wp2_with (at_builtin; refine wpList_append_at rfl (.tmp 47) (.tmp 48) rfl w.heap.size _ (22 + n) _ rfl (own_grown OW.out (World.grownBy_alloc _ _ none)) (some ⟨w4.heap.size, 0, none⟩) 3 3 [1, 2, 3] rfl rfl HN5.out (fun e => by cases e) (by omega) (by have := G5.out.size; simp at this ⊢; omega) ?_)
    case' inr =>
      rw [if_neg hz] at hb'
      subst hb'
      have hz' : (b' == 0) = false := by simpa using hz
      go_wp2_with (at_builtin; refine wpList_append_at rfl (.tmp 47) (.tmp 48) rfl w.heap.size _ (22 + n) _ rfl (own_grown OW.out (World.grownBy_alloc _ _ none)) (some ⟨w4.heap.size, 0, none⟩) 3 3 [1, 2, 3] rfl rfl HN5.out (fun e => by cases e) (by omega) (by have := G5.out.size; simp at this ⊢; omega) ?_)
    all_goals
      intro v' w6 ho hg
      have G6 := hide (grown_then (grown_trans G5.out (World.grownBy_alloc _ _ none)) hg (fun j e => by cases e; exact Or.inl HGl.out))
      have ho' : w6.ownsRow w.heap.size 5 1 v' (22 + n + 3) ((f.out.set K Y ++ [1, 2, 3]).map (Value.int .u8)) := by rw [List.map_append, List.map_set]; exact ho
      obtain ⟨vo, vc, rfl, q1, q2, q3, q4, q5, q6⟩ := own_at ho'
      have HQ := hide (And.intro q1 (And.intro q2 (And.intro q4 q5)))
      clear ho ho' hg q1 q2 q3 q4 q5 q6 G3 G5 HR hcell hfz OW
      go_wp2_with fail
      refine (fget_any _ Hby.out vo (22 + n + 3) vc w6 HQ.out.1 HQ.out.2.2.1 HQ.out.2.2.2 HQ.out.2.1 (by omega) (HF.out.2.2.2.2.2.grown G6.out)).mono ?_
      rw [HSp.out]
      rintro r w7 ⟨v, rfl, hv, hg⟩
      obtain ⟨uo, uc, rfl⟩ := own_form hv
      have G7 := hide (grown_trans (grown_trans G6.out hg) (World.grownBy_alloc w7 (.cells #[.int .u64 0, .int .u64 0, .slice uo 0 uc] 25) none))
      clear hv hg G6
      simp only [noFr, frV, List.length_nil]
      go_wp2_with fail
      refine (sameFr 0 0 uo none 0 uc 0 [] _ rfl (At.nil _ _) (At.nil _ _) (by omega)).mono ?_
      rintro r w8 ⟨rfl, hg⟩
      have G8 := hide (grown_trans G7.out hg)
      clear hg G7
      go_wp2
      go_ret
      exact ⟨rfl, G8.out⟩
end Go.Proofs.YtoeehajdmdmemaaDoor
