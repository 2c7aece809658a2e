/- CabinBack: the walk. -/
import Derived.Test.YtomoclicbjkpoaaDoorCh
namespace Go.Proofs.YtomoclicbjkpoaaDoor
open Go.RowKit Cx
attribute [local go_sem ↓] Go.wp_at_zero Go.wp_at_succ

/-- The text of the seat ahead. -/
def lastL (W s : Nat) : List UInt8 := if s = 0 then [] else txt W (s - 1)
theorem lastL_ne {R W s : Nat} (hW : 1 ≤ W) (hW2 : W ≤ 16) (hR : R ≤ 64) (hs : s < R * W) : txt W s ≠ lastL W s := by
  unfold lastL
  split
  · intro e; have := txt_len W s; rw [e] at this; simp at this
  · intro e
    have := txt_inj hW hW2 hR hs (show s - 1 < R * W by omega) e
    omega
theorem lastL_succ (W s : Nat) : lastL W (s + 1) = txt W s := by simp [lastL]
set_option maxRecDepth 100000 in
set_option maxHeartbeats 2000000 in
theorem cabinBack_any (x y b : Int) (w : World) (hE : Er w) :
    Calls Tryd.prog 6 #[.int .i64 x, .int .i64 y, .int .i64 b] w fun e w' => e = .returned (.bool true) ∧ w.grownBy w' none := by
  have A := hide (fun w' (hg : w.grownBy w' none) => awake_any w' (hE.grown hg))
  have S := hide (some_any x y b)
  have hr : (x % 64).toNat + 1 ≤ 64 := by omega
  have hq : (y % 16).toNat + 1 ≤ 16 := by omega
  have hr1 : 1 ≤ (x % 64).toNat + 1 := by omega
  have hq1 : 1 ≤ (y % 16).toNat + 1 := by omega
  generalize (x % 64).toNat + 1 = R at *
  generalize (y % 16).toNat + 1 = W at *
  obtain ⟨N, hN⟩ : ∃ N, N = R * W := ⟨_, rfl⟩
  have hNN : (R : Int) * (W : Int) = (N : Int) := by rw [hN, Int.natCast_mul]
  have hN2 : N ≤ 64 * 16 := by rw [hN]; exact Nat.mul_le_mul hr hq
  have hwr : IntKind.i64.wrap ((R : Int) * (W : Int)) = (N : Int) := by rw [hNN]; exact IntWalk.i64_in _ (by omega)
  have HN := hide (And.intro hNN hN)
  have HE := hide hE
  clear hNN hN hE
  go_enter Tryd.func6, Tryd.ntmps6
  go_wp2_with fail
  refine (A.out _ (grown_refl w _)).mono ?_
  rintro e w1 ⟨rfl, hg1⟩
  have G1 := hide hg1
  clear hg1
  go_wp2_with fail
  refine (S.out _).mono ?_
  rintro e w2 ⟨⟨L, ao, n, cap, rfl, hcb, hok⟩, hg2⟩
  have G2 := hide (And.intro (grown_trans (grown_trans G1.out hg2) (grown_alloc w2 (.cells #[.int .i64 (R : Int), .int .i64 (W : Int), .slice ao n cap] 24))) (And.intro (hcb.grown (grown_alloc w2 (.cells #[.int .i64 (R : Int), .int .i64 (W : Int), .slice ao n cap] 24))) (heap_alloc_new w2 (.cells #[.int .i64 (R : Int), .int .i64 (W : Int), .slice ao n cap] 24))))
  have HO := hide hok
  clear hg2 hcb hok G1
  unfold cbV
  go_wp2_with fail
  have X := seats_any R W ao n cap L _ G2.out.2.1
  rw [if_pos HO.out, code_ok HO.out, HN.out.1] at X
  refine X.mono ?_
  clear X
  rintro e w3 ⟨rfl, hg3⟩
  have hb3 := heap_kept G2.out.2.2 hg3 (by simp)
  have G3 := hide (And.intro (grown_trans G2.out.1 hg3) (And.intro (G2.out.2.1.grown hg3) hb3))
  obtain ⟨c0, c1, c2⟩ := box3 hb3
  clear hg3 hb3 G2
  go_wp2
  generalize w2.heap.size = g at *
  clear c0 c1 c2
  go_loopg [10, 11] N (fun k la i wr => ∃ s : Nat, k + s = N ∧ i = .int .i64 (s : Int) ∧ la = str (lastL W s) ∧ w.grownBy wr none ∧ CbIn wr ao n cap L ∧ wr.heap[g]? = some (.cells #[.int .i64 (R : Int), .int .i64 (W : Int), .slice ao n cap] 24))
  case atStart => exact ⟨0, by omega, rfl, rfl, G3.out.1, G3.out.2.1, G3.out.2.2⟩
  case round =>
    obtain ⟨s, hks, rfl, rfl, hg, hcb, hbx⟩ := hrel
    by_cases hk : 0 < gk
    · have hs : s < N := by omega
      have hs2 : (s : Int) < (N : Int) := by omega
      have hsR : s < R * W := by rw [← HN.out.2]; exact hs
      have HT := hide (fun w' (hg' : wr.grownBy w' none) => text_ok R W ao n cap L s w' (hcb.grown hg') HO.out (by rw [HN.out.1]; omega))
      have HPl := hide (fun w' (hg' : wr.grownBy w' none) => place_ok R W ao n cap L s w' (hcb.grown hg') HO.out (by rw [HN.out.1]; omega))
      have HPa := hide (fun w' (hg' : wr.grownBy w' none) => parse_ok R W ao n cap L (dg (s / W + 1)) (lt (s % W)) (by have := dg_len (s / W + 1); omega) w' (HE.out.grown (grown_trans hg hg')) (hcb.grown hg') HO.out)
      have e1 : dg (s / W + 1) ++ [lt (s % W)] = txt W s := rfl
      rw [e1, prs_some hq1 hq hr hsR] at HPa
      unfold prsV at HPa
      simp only at HPa
      have hne := str_ne (lastL_ne hq1 hq hr hsR)
      have hlen := txt_len W s
      have hsz := size_str (txt W s)
      have hix := index_last (dg (s / W + 1)) (lt (s % W))
      rw [e1] at hix
      have hdl : (dg (s / W + 1)).length + 1 = (txt W s).length := by rw [← e1]; simp
      have hsub : ((⟨(txt W s).toArray⟩ : ByteArray).size : Int) - 1 = ((dg (s / W + 1)).length : Int) := by rw [hsz]; omega
      have hm := Nat.mod_lt s (show W > 0 by omega)
      have hlet := lt_letter ⟨s % W, by omega⟩
      simp only at hlet
      have hdm := Nat.div_add_mod s W
      have hpm : (((s / W : Nat) : Int)) * (W : Int) = ((W * (s / W) : Nat) : Int) := by rw [Int.natCast_mul, Int.mul_comm]
      have hs3 : s < 1024 := by omega
      have hlast : Hid (lastL W (s + 1) = txt W s) := lastL_succ W s
      clear e1
      unfold str at *
      obtain ⟨sb, hsb⟩ : ∃ sb, sb = (⟨(txt W s).toArray⟩ : ByteArray) := ⟨_, rfl⟩
      rw [← hsb] at HT HPa hne hsz hix hsub
      have HSB : Hid (_ ∧ _) := And.intro hsb hlast.out
      clear hsb hlast
      have hz1 : (2 : Int) ≤ (sb.size : Int) := by omega
      have hz2 : (sb.size : Int) ≤ 3 := by omega
      have hxx : ((lt (s % W)).toNat == 73) = false := by simp; omega
      have hxi : (((lt (s % W)).toNat : Int) == 73) = false := by simp; omega
      have hx1 : (65 : Int) ≤ ((lt (s % W)).toNat : Int) := by omega
      have hx2 : ((lt (s % W)).toNat : Int) ≤ 81 := by omega
      generalize (lt (s % W)).toNat = xn at *
      generalize (⟨(lastL W s).toArray⟩ : ByteArray) = sl at *
      generalize (dg (s / W + 1)).length = m at *
      obtain ⟨pm, hpe⟩ : ∃ pm : Nat, pm = W * (s / W) := ⟨_, rfl⟩
      rw [← hpe] at hdm hpm
      have hwp : IntKind.i64.wrap (((s / W : Nat) : Int) * (W : Int)) = (pm : Int) := by rw [hpm]; exact IntWalk.i64_in _ (by omega)
      have hsum : (pm : Int) + ((s % W : Nat) : Int) = (s : Int) := by omega
      have hcW : ((s % W : Nat) : Int) < (W : Int) := by omega
      have hc0 : (0 : Int) ≤ ((s % W : Nat) : Int) := by omega
      clear hpe hpm hdm
      generalize s / W = r at *
      generalize s % W = c at *
      obtain ⟨c0, c1, c2⟩ := box3 hbx
      have HB := hide (And.intro hg (And.intro hcb hbx))
      clear hg hcb hbx hlet hm hlen hsz hsR
      unfold cbV at *
      go_wp2_with fail
      refine (HT.out _ (grown_refl _ _)).mono ?_
      rintro e w4 ⟨rfl, hg4⟩
      have G4 := hide hg4
      clear c0 c1 c2
      obtain ⟨c0, c1, c2⟩ := box3 (heap_kept HB.out.2.2 hg4 (by simp))
      clear hg4
      go_wp2_with fail
      refine (HPa.out _ G4.out).mono ?_
      rintro e w5 ⟨rfl, hg5⟩
      have G5 := hide (grown_trans G4.out hg5)
      clear c0 c1 c2
      obtain ⟨c0, c1, c2⟩ := box3 (heap_kept HB.out.2.2 G5.out (by simp))
      clear hg5 G4
      go_wp2_with fail
      refine (HPl.out _ G5.out).mono ?_
      rintro e w6 ⟨rfl, hg6⟩
      have G6 := hide (grown_trans G5.out hg6)
      clear c0 c1 c2
      obtain ⟨c0, c1, c2⟩ := box3 (heap_kept HB.out.2.2 G6.out (by simp))
      clear hg6 G5
      go_wp2
      go_roundg (gk - 1)
      case measure => omega
      case rel =>
        refine ⟨s + 1, by omega, by go_num, ?_, grown_trans HB.out.1 G6.out, HB.out.2.1.grown G6.out, heap_kept HB.out.2.2 G6.out (by simp)⟩
        rw [HSB.out.2, HSB.out.1]
    · have hs : s = N := by omega
      subst hs
      obtain ⟨c0, c1, c2⟩ := box3 hbx
      have hz1 : wrg R W L [(s : Int)] = 140 := wrg_seat HO.out (fun h => by have := h s (by simp); rw [HN.out.1] at this; omega)
      have hz2 : wrg R W L [(-1 : Int)] = 140 := wrg_seat HO.out (fun h => by have := h (-1) (by simp); omega)
      have B1 := hide (fun w' (hg' : wr.grownBy w' none) => text_bad R W ao n cap L s w' (hcb.grown hg') (by rw [hz1]; decide))
      have B2 := hide (fun w' (hg' : wr.grownBy w' none) => text_bad R W ao n cap L (-1) w' (hcb.grown hg') (by rw [hz2]; decide))
      rw [hz1] at B1
      rw [hz2] at B2
      have HB := hide (And.intro hg (And.intro hcb hbx))
      clear hg hcb hbx hz1 hz2
      unfold cbV str at *
      go_wp2_with fail
      refine (B1.out _ (grown_refl _ _)).mono ?_
      rintro e w4 ⟨rfl, hg4⟩
      have G4 := hide hg4
      clear c0 c1 c2
      obtain ⟨c0, c1, c2⟩ := box3 (heap_kept HB.out.2.2 hg4 (by simp))
      clear hg4
      go_wp2_with fail
      refine (B2.out _ G4.out).mono ?_
      rintro e w5 ⟨rfl, hg5⟩
      have G5 := hide (grown_trans G4.out hg5)
      clear hg5 G4
      go_wp2
      go_ret
      exact ⟨rfl, grown_trans HB.out.1 G5.out⟩
end Go.Proofs.YtomoclicbjkpoaaDoor
