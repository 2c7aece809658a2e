/- The document's cabin: Text, Parse; copies of a cabin. -/
import Derived.Test.YtomoclicbjkpoaaDoorDb
namespace Go.Proofs.YtomoclicbjkpoaaDoor
open Go.RowKit Cx
attribute [local go_sem ↓] Go.wp_at_zero Go.wp_at_succ

set_option maxHeartbeats 1000000 in
theorem dtext_bad (R W : Int) (ao : Option Addr) (n cap : Nat) (L : List Int) (x : Int) (w : World) (hc : CbIn w ao n cap L) (hz : wrg R W L [x] ≠ 0) :
    Calls Tryd.prog 24 #[cbV R W (.slice ao n cap), .int .i64 x] w fun e w' => e = .returned (.tuple #[str [], .int .i64 (wrg R W L [x])]) ∧ w.grownBy w' none := by
  have C := hide (fun w' (hg : w.grownBy w' none) => wrong_any R W ao n cap L x w' (hc.grown hg))
  generalize wrg R W L [x] = z at *
  have hz1 : (z == 0) = false := by simpa using hz
  clear hc
  unfold cbV str at *
  go_enter Tryd.func24, Tryd.ntmps24
  go_wp2_with fail
  refine (C.out _ (grown_alloc w _)).mono ?_
  rintro e w1 ⟨rfl, hg1⟩
  have G1 := hide (grown_trans (grown_alloc w _) hg1)
  clear hg1
  go_wp2
  go_ret2
  exact ⟨rfl, G1.out⟩
theorem row64 {R : Int} {W s : Nat} {L : List Int} (ho : Ok R W L) (hs : (s : Int) < R * W) : s / W < 64 ∧ s < 1024 := by
  have hW := ho.2.2.1
  have hR1 := ho.1
  have hR := ho.2.1
  have h4 : s < 1024 := by
    have h5 : R * W ≤ 64 * 16 := Int.mul_le_mul ho.2.1 ho.2.2.2.1 (by omega) (by omega)
    omega
  obtain ⟨r, rfl⟩ : ∃ r : Nat, R = (r : Int) := ⟨R.toNat, by omega⟩
  have h9 : (s : Int) < ((r * W : Nat) : Int) := by rw [Int.natCast_mul]; exact hs
  have h8 := Cx.row_lt (R := r) (W := W) (s := s) (by omega) (by omega)
  exact ⟨by omega, h4⟩
set_option maxHeartbeats 1000000 in
theorem dtext_ok (R : Int) (W : Nat) (ao : Option Addr) (n cap : Nat) (L : List Int) (s : Nat) (w : World) (hc : CbIn w ao n cap L) (ho : Ok R W L) (hs : (s : Int) < R * W) :
    Calls Tryd.prog 24 #[cbV R W (.slice ao n cap), .int .i64 s] w fun e w' => e = .returned (.tuple #[str (txt W s), .int .i64 0]) ∧ w.grownBy w' none := by
  have hz : wrg R W L [(s : Int)] = 0 := wrg_ok ho (by intro y hy; simp at hy; subst hy; omega)
  have C := hide (fun w' (hg : w.grownBy w' none) => wrong_any R W ao n cap L s w' (hc.grown hg))
  rw [hz] at C
  have hW := ho.2.2.1
  have h7 := ho.2.2.2.1
  obtain ⟨hr, h4⟩ := row64 ho hs
  have h6 := Nat.mod_lt s (show W > 0 by omega)
  have I := hide (number_any (s / W + 1) (Nat.succ_pos _) (by omega))
  have hsl := slice_letter (s % W) (by omega)
  have h1 := tmod_nat s W
  have h2 := tdiv_nat s W
  have h1' : (s : Int) % (W : Int) = ((s % W : Nat) : Int) := rfl
  have h2' : (s : Int) / (W : Int) = ((s / W : Nat) : Int) := rfl
  have hadd : ∀ w', (Op.stringOp .add ⟨(dg (s / W + 1)).toArray⟩ ⟨[lt (s % W)].toArray⟩).run Tryd.prog w' = .ok (.string ⟨(dg (s / W + 1) ++ [lt (s % W)]).toArray⟩) w' := fun w' => by
    have h9 := dg_len (s / W + 1)
    rw [← app_str]
    have e1 := size_str (dg (s / W + 1))
    have e2 := size_str [lt (s % W)]
    exact run_string_add_sum _ ⟨(dg (s / W + 1)).toArray⟩ ⟨[lt (s % W)].toArray⟩ (by rw [e1, e2, List.length_singleton]; omega)
  unfold txt
  unfold str at *
  generalize (⟨(dg (s / W + 1) ++ [lt (s % W)]).toArray⟩ : ByteArray) = st at *
  generalize (⟨(dg (s / W + 1)).toArray⟩ : ByteArray) = sa at *
  generalize (⟨[lt (s % W)].toArray⟩ : ByteArray) = sb at *
  have e1 : ((s / W + 1 : Nat) : Int) = ((s / W : Nat) : Int) + 1 := by omega
  rw [e1] at I
  clear e1
  have hne : ((W : Int) == 0) = false := by simp; omega
  generalize s / W = r at *
  generalize s % W = c at *
  have hwr : IntKind.i64.wrap ((r : Int) + 1) = (r : Int) + 1 := IntWalk.i64_in _ (by omega)
  have hwc : IntKind.i64.wrap ((c : Int) + 1) = (c : Int) + 1 := IntWalk.i64_in _ (by omega)
  have hwr2 : IntKind.i64.wrap (r : Int) = (r : Int) := IntWalk.i64_in _ (by omega)
  have hqq : ∀ w', (Op.intDiv .quo .i64 (s : Int) (W : Int)).run Tryd.prog w' = .ok (.int .i64 (r : Int)) w' := fun w' => by
    unfold Op.intDiv
    rw [if_neg (by omega)]
    show Result.ok (Value.int .i64 (IntKind.i64.wrap ((s : Int).tdiv (W : Int)))) w' = _
    rw [h2, hwr2]
  clear hc ho hs hz
  unfold cbV at *
  go_enter Tryd.func24, Tryd.ntmps24
  go_wp2_with fail
  refine (C.out _ (grown_alloc w _)).mono ?_
  rintro e w1 ⟨rfl, hg1⟩
  obtain ⟨c0, c1, c2⟩ := box3 (box_kept hg1)
  have G1 := hide (grown_trans (grown_alloc w _) hg1)
  clear hg1
  go_wp2
  go_region_with (go_at_call 44; refine (I.out _).mono ?_; rintro e w2 ⟨rfl, hw2⟩; have hk := hw2.cell (a := ⟨w.heap.size, 1, none⟩) (v := .int .i64 (W : Int)) c1 (by simp); have G2 := hide hw2; clear hw2)
  go_wp2
  go_ret2
  exact ⟨rfl, grown_trans (grown_trans G1.out (first_grown _ _ _)) G2.out⟩

set_option maxHeartbeats 1000000 in
theorem dparse_bad (R W : Int) (ao : Option Addr) (n cap : Nat) (L : List Int) (sb : ByteArray) (w : World) (hc : CbIn w ao n cap L) (hz : ¬ Ok R W L) :
    Calls Tryd.prog 28 #[cbV R W (.slice ao n cap), .string sb] w fun e w' => e = .returned (.tuple #[.int .i64 0, .int .i64 2]) ∧ w.grownBy w' none := by
  have C := hide (fun w' (hg : w.grownBy w' none) => dcheck_any R W ao n cap L w' (hc.grown hg))
  rw [code_no hz] at C
  clear hc hz
  unfold cbV at *
  go_enter Tryd.func28, Tryd.ntmps28
  go_wp2_with fail
  refine (C.out _ (grown_alloc w _)).mono ?_
  rintro e w1 ⟨rfl, hg1⟩
  have G1 := hide (grown_trans (grown_alloc w _) hg1)
  clear hg1
  go_wp2
  go_ret2
  exact ⟨rfl, G1.out⟩
/-- Among the seats below j none has this text. -/
def Not (W : Nat) (l : List UInt8) (j : Nat) : Prop := ∀ s, s < j → txt W s ≠ l
set_option maxHeartbeats 1000000 in
theorem dparse_ok (R W : Nat) (ao : Option Addr) (n cap : Nat) (L : List Int) (l : List UInt8) (w : World) (hc : CbIn w ao n cap L) (ho : Ok R W L) :
    Calls Tryd.prog 28 #[cbV R W (.slice ao n cap), str l] w fun e w' => e = .returned (prsV (prs R W l)) ∧ w.grownBy w' none := by
  have C := hide (fun w' (hg : w.grownBy w' none) => dcheck_any R W ao n cap L w' (hc.grown hg))
  rw [code_ok ho] at C
  have hW := ho.2.2.1
  have h7 := ho.2.2.2.1
  have hR := ho.2.1
  obtain ⟨N, hN⟩ : ∃ N, N = R * W := ⟨_, rfl⟩
  have hNN : (R : Int) * (W : Int) = (N : Int) := by rw [hN, Int.natCast_mul]
  have hN2 : N ≤ 64 * 16 := by rw [hN]; exact Nat.mul_le_mul (by omega) (by omega)
  have hwr : IntKind.i64.wrap ((R : Int) * (W : Int)) = (N : Int) := by rw [hNN]; exact IntWalk.i64_in _ (by omega)
  obtain ⟨V, hV⟩ : ∃ V, V = prsV (prs R W l) := ⟨_, rfl⟩
  rw [← hV]
  have HH := hide (And.intro hN (And.intro hNN (And.intro hV (And.intro hc ho))))
  clear hN hNN hV hc ho
  unfold cbV str at *
  obtain ⟨sl, hsl⟩ : ∃ sl, sl = (⟨l.toArray⟩ : ByteArray) := ⟨_, rfl⟩
  rw [← hsl]
  have HSL := hide hsl
  clear hsl
  go_enter Tryd.func28, Tryd.ntmps28
  go_wp2_with fail
  refine (C.out _ (grown_alloc w _)).mono ?_
  rintro e w1 ⟨rfl, hg1⟩
  have hb1 := box_kept hg1
  have G1 := hide (And.intro (grown_trans (grown_alloc w _) hg1) hb1)
  clear hg1 hb1
  go_wp2
  go_loopg [7] N (fun k i wr => ∃ j : Nat, k + j = N ∧ i = .int .i64 (j : Int) ∧ Not W l j ∧ wr.heap[w.heap.size]? = some (.cells #[.int .i64 (R : Int), .int .i64 (W : Int), .slice ao n cap] 24) ∧ w.grownBy wr none)
  case atStart => exact ⟨0, by omega, rfl, (fun s h => absurd h (by omega)), G1.out.2, G1.out.1⟩
  case round =>
    obtain ⟨j, hkj, rfl, hnot, hbx, hg⟩ := hrel
    obtain ⟨hN, hNN, hV, hc, ho⟩ := HH.out
    obtain ⟨c0, c1, c2⟩ := box3 hbx
    by_cases hk : 0 < gk
    · have hj : j < N := by omega
      have hj2 : (j : Int) < (N : Int) := by omega
      have T := hide (dtext_ok R W ao n cap L j wr (hc.grown hg) ho (by rw [hNN]; omega))
      have HB := hide (And.intro hbx (And.intro hg hnot))
      unfold cbV str at T
      by_cases hx : txt W j = l
      · have hres : V = .tuple #[.int .i64 (j : Int), .int .i64 0] := by
          rw [hV, ← hx, prs_some (by omega) (by omega) (by omega) (by rw [← hN]; exact hj)]; rfl
        have HR := hide hres
        rw [hx, ← HSL.out] at T
        clear hres hV hN hNN hc ho hbx hg hnot hx
        have hbe : (sl.toList == sl.toList) = true := by rw [beq_iff_eq]
        go_wp2_with fail
        refine T.out.mono ?_
        rintro e w2 ⟨rfl, hg2⟩
        have G2 := hide hg2
        clear hg2
        go_wp2
        go_ret2
        exact ⟨by rw [HR.out]; rfl, grown_trans HB.out.2.1 G2.out⟩
      · have hbe := str_ne hx
        rw [← HSL.out] at hbe
        have HX := hide hx
        clear hV hN hNN hc ho hbx hg hnot hx
        generalize (⟨(txt W j).toArray⟩ : ByteArray) = st at *
        go_wp2_with fail
        refine T.out.mono ?_
        rintro e w2 ⟨rfl, hg2⟩
        have G2 := hide hg2
        clear hg2
        go_wp2
        go_roundg (gk - 1)
        case measure => omega
        case rel =>
          refine ⟨j + 1, by omega, by go_num, ?_, heap_kept HB.out.1 G2.out (by simp), grown_trans HB.out.2.1 G2.out⟩
          intro s hs
          rcases Nat.lt_or_ge s j with h | h
          · exact HB.out.2.2 s h
          · have : s = j := by omega
            subst this; exact HX.out
    · have hj : j = N := by omega
      subst hj
      have hres : V = .tuple #[.int .i64 0, .int .i64 140] := by
        rw [hV, prs_none (fun s hs => hnot s (by rw [hN]; exact hs))]; rfl
      have HR := hide (And.intro hres hg)
      clear hres hV hN hNN hc ho hbx hg hnot
      go_wp2
      go_ret2
      exact ⟨by rw [HR.out.1]; rfl, HR.out.2⟩

set_option maxHeartbeats 1000000 in
theorem copyInts_any (ao : Option Addr) (n cap : Nat) (L : List Int) (w : World) (hc : CbIn w ao n cap L) :
    Calls Tryd.prog 41 #[.slice ao n cap] w fun e w' => ∃ ao' cap', e = .returned (.slice ao' n cap') ∧ CbIn w' ao' n cap' L ∧ (∀ a, ao' = some a → w.heap.size ≤ a.block) ∧ w.grownBy w' none := by
  have hsm := hc.sm
  have HC := hide hc
  clear hc
  go_enter Tryd.func41, Tryd.ntmps41
  go_wp2_with (at_builtin; refine wpList_append_at rfl (.tmp 4) (.tmp 5) rfl w.heap.size (.slice none 0 0) 0 [] rfl (World.ownsRow_nil _ _ _ _) ao n cap L rfl HC.out.len HC.out.at_ HC.out.nil (by omega) (Nat.le_refl _) ?_)
  intro v' w' hown hg
  obtain ⟨ao', cap', rfl, hcb, hbs⟩ := cb_own hown hsm
  have HR := hide (And.intro hcb (And.intro hbs hg))
  clear hown hg hcb hbs
  go_wp2
  go_ret
  exact ⟨_, _, rfl, HR.out.1, HR.out.2.1, grown_then (grown_refl w none) HR.out.2.2 (fun k e => by cases e)⟩
set_option maxHeartbeats 1000000 in
theorem copyCabin_any (R W : Int) (ao : Option Addr) (n cap : Nat) (L : List Int) (w : World) (hc : CbIn w ao n cap L) :
    Calls Tryd.prog 20 #[cbV R W (.slice ao n cap)] w fun e w' => ∃ ao' cap', e = .returned (cbV R W (.slice ao' n cap')) ∧ CbIn w' ao' n cap' L ∧ w.grownBy w' none := by
  have C := hide (fun w' (hg : w.grownBy w' none) => copyInts_any ao n cap L w' (hc.grown hg))
  clear hc
  unfold cbV
  have g2 := grown2 w (.cells #[.int .i64 R, .int .i64 W, .slice ao n cap] 24) (.cells #[.int .i64 0, .int .i64 0, .slice none 0 0] 24)
  have hb1 : ((w.alloc (.cells #[.int .i64 R, .int .i64 W, .slice ao n cap] 24)).alloc (.cells #[.int .i64 0, .int .i64 0, .slice none 0 0] 24)).heap[w.heap.size]? = _ := heap_kept (heap_alloc_new w (.cells #[.int .i64 R, .int .i64 W, .slice ao n cap] 24)) (grown_alloc _ _) (by simp)
  have hb2 := heap_alloc_new (w.alloc (.cells #[.int .i64 R, .int .i64 W, .slice ao n cap] 24)) (.cells #[.int .i64 0, .int .i64 0, .slice none 0 0] 24)
  rw [alloc_size] at hb2
  have hz : ((w.alloc (.cells #[.int .i64 R, .int .i64 W, .slice ao n cap] 24)).alloc (.cells #[.int .i64 0, .int .i64 0, .slice none 0 0] 24)).heap.size = w.heap.size + 2 := by rw [alloc_size, alloc_size]
  have HB := hide (And.intro g2 (And.intro hb1 (And.intro hb2 hz)))
  clear g2 hb1 hb2 hz
  go_enter Tryd.func20, Tryd.ntmps20
  go_wp2_with fail
  refine (C.out _ HB.out.1).mono ?_
  rintro e w1 ⟨ao', cap', rfl, hcb, hbs, hg1⟩
  rw [HB.out.2.2.2] at hbs
  have k1 := heap_kept HB.out.2.1 hg1 (by simp)
  have k2 := heap_kept HB.out.2.2.1 hg1 (by simp)
  have HR := hide (And.intro hcb (And.intro hbs (And.intro (grown_trans HB.out.1 hg1) (And.intro k1 k2))))
  obtain ⟨c0, c1, c2⟩ := box3 k1
  obtain ⟨d0, d1, d2⟩ := box3 k2
  have f2 := free_row k1 2
  have e0 := free_row k2 0
  have e1 := free_row k2 1
  have e2 := free_row k2 2
  clear hcb hbs hg1 k1 k2 HB C
  go_wp2
  obtain ⟨hcb, hbs, hg1, k1, k2⟩ := HR.out
  have s1 := grown_setCell w1 w.heap.size 2 (.slice ao' n cap')
  have k3 := heap_kept k2 s1 (by simp)
  obtain ⟨s2, s3⟩ := set3 k3 (.int .i64 R) (.int .i64 W) (.slice ao' n cap')
  refine bodyPost_ret (results_cell_row rfl _ _ (w.heap.size + 1) 24 #[.int .i64 R, .int .i64 W, .slice ao' n cap'] (0, 0) _ rfl s2 Tryd.underlying24 rfl (by kernel_rfl)) rfl ⟨ao', cap', rfl, ?_, ?_⟩
  · exact (hcb.kept s1 (fun a e h => by have h1 := hbs a e; simp at h; omega)).kept s3 (fun a e h => by have h1 := hbs a e; simp at h; omega)
  · exact grown_then (grown_then hg1 s1 (fun k e => by cases e; exact Or.inl (Nat.le_refl _))) s3 (fun k e => by cases e; exact Or.inl (by omega))
end Go.Proofs.YtomoclicbjkpoaaDoor
