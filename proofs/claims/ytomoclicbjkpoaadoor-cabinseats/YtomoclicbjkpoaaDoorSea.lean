/- CabinSeats: the walk. -/
import Derived.Test.YtomoclicbjkpoaaDoorDe
namespace Go.Proofs.YtomoclicbjkpoaaDoor
open Go.RowKit Cx
attribute [local go_sem ↓] Go.wp_at_zero Go.wp_at_succ

/-- What a function answers of every copy of a cabin. -/
def Tells (f : FuncId) (R W : Int) (L : List Int) (args : List Value) (v : Value) : Prop :=
  ∀ ao n cap (w : World), CbIn w ao n cap L → Calls Tryd.prog f (cbV R W (.slice ao n cap) :: args).toArray w fun e w' => e = .returned v ∧ w.grownBy w' none
set_option maxRecDepth 100000 in
set_option maxHeartbeats 2000000 in
theorem seats_core (R W : Int) (ao : Option Addr) (n cap : Nat) (L : List Int) (a b : Int) (w : World) (hE : Er w) (hc : CbIn w ao n cap L)
    (sb : ByteArray) (z1 z2 r c : Int) (wn xn bs : Bool)
    (T1 : Tells 19 R W L [.int .i64 a] (.tuple #[.string sb, .int .i64 z1])) (T2 : Tells 21 R W L [.int .i64 a] (.tuple #[.int .i64 r, .int .i64 c, .int .i64 z1]))
    (T3 : Tells 22 R W L [.int .i64 a] (.tuple #[.bool wn, .bool xn, .int .i64 z1])) (T4 : Tells 23 R W L [.int .i64 a, .int .i64 b] (.tuple #[.bool bs, .int .i64 z2]))
    (D1 : Tells 24 R W L [.int .i64 a] (.tuple #[.string sb, .int .i64 z1])) (D3 : Tells 25 R W L [.int .i64 a] (.tuple #[.bool wn, .bool xn, .int .i64 z1]))
    (D4 : Tells 26 R W L [.int .i64 a, .int .i64 b] (.tuple #[.bool bs, .int .i64 z2]))
    (hfin : (z1 ≠ 0 ∧ r = 0 ∧ c = 0) ∨ (z1 = 0 ∧ ∃ s q : Nat, a = (s : Int) ∧ W = (q : Int) ∧ 1 ≤ q ∧ s < 1024 ∧ r = ((s / q : Nat) : Int) ∧ c = ((s % q : Nat) : Int))) :
    Calls Tryd.prog 4 #[cbV R W (.slice ao n cap), .int .i64 a, .int .i64 b] w fun e w' => e = .returned (.bool true) ∧ w.grownBy w' none := by
  have A := hide (fun w' (hg : w.grownBy w' none) => awake_any w' (hE.grown hg))
  have HC := hide (fun w' (hg : w.grownBy w' none) => copyCabin_any R W ao n cap L w' (hc.grown hg))
  have T1 := hide T1
  have T2 := hide T2
  have T3 := hide T3
  have T4 := hide T4
  have D1 := hide D1
  have D3 := hide D3
  have D4 := hide D4
  have HF := hide hfin
  have HH := hide hc
  have hself : (sb.toList == sb.toList) = true := by rw [beq_iff_eq]
  clear hfin hE hc
  unfold cbV at *
  go_enter Tryd.func4, Tryd.ntmps4
  go_wp2_with fail
  refine (A.out _ (grown_alloc w _)).mono ?_
  rintro e w0 ⟨rfl, hg0⟩
  have hb0 := box_kept hg0
  have G0 := hide (And.intro (grown_trans (grown_alloc w _) hg0) hb0)
  clear hg0 hb0
  obtain ⟨c0, c1, c2⟩ := box3 G0.out.2
  go_wp2_with fail
  refine (HC.out _ G0.out.1).mono ?_
  rintro e v1 ⟨ao1, cap1, rfl, hcb, hg⟩
  have F1 := hide (And.intro (grown_trans G0.out.1 hg) (And.intro (heap_kept G0.out.2 hg (by simp)) hcb))
  clear hg hcb c0 c1 c2 G0
  go_wp2_with fail
  refine (T1.out _ _ _ _ F1.out.2.2).mono ?_
  rintro e w1 ⟨rfl, hg⟩
  have G1 := hide (And.intro (grown_trans F1.out.1 hg) (heap_kept F1.out.2.1 hg (by simp)))
  clear hg F1
  obtain ⟨c0, c1, c2⟩ := box3 G1.out.2
  go_wp2_with fail
  refine (HC.out _ G1.out.1).mono ?_
  rintro e v2 ⟨ao2, cap2, rfl, hcb, hg⟩
  have F2 := hide (And.intro (grown_trans G1.out.1 hg) (And.intro (heap_kept G1.out.2 hg (by simp)) hcb))
  clear hg hcb c0 c1 c2 G1
  go_wp2_with fail
  refine (T2.out _ _ _ _ F2.out.2.2).mono ?_
  rintro e w2 ⟨rfl, hg⟩
  have G2 := hide (And.intro (grown_trans F2.out.1 hg) (heap_kept F2.out.2.1 hg (by simp)))
  clear hg F2
  obtain ⟨c0, c1, c2⟩ := box3 G2.out.2
  go_wp2_with fail
  refine (HC.out _ G2.out.1).mono ?_
  rintro e v3 ⟨ao3, cap3, rfl, hcb, hg⟩
  have F3 := hide (And.intro (grown_trans G2.out.1 hg) (And.intro (heap_kept G2.out.2 hg (by simp)) hcb))
  clear hg hcb c0 c1 c2 G2
  go_wp2_with fail
  refine (T3.out _ _ _ _ F3.out.2.2).mono ?_
  rintro e w3 ⟨rfl, hg⟩
  have G3 := hide (And.intro (grown_trans F3.out.1 hg) (heap_kept F3.out.2.1 hg (by simp)))
  clear hg F3
  obtain ⟨c0, c1, c2⟩ := box3 G3.out.2
  go_wp2_with fail
  refine (HC.out _ G3.out.1).mono ?_
  rintro e v4 ⟨ao4, cap4, rfl, hcb, hg⟩
  have F4 := hide (And.intro (grown_trans G3.out.1 hg) (And.intro (heap_kept G3.out.2 hg (by simp)) hcb))
  clear hg hcb c0 c1 c2 G3
  go_wp2_with fail
  refine (T4.out _ _ _ _ F4.out.2.2).mono ?_
  rintro e w4 ⟨rfl, hg⟩
  have G4 := hide (And.intro (grown_trans F4.out.1 hg) (heap_kept F4.out.2.1 hg (by simp)))
  clear hg F4
  obtain ⟨c0, c1, c2⟩ := box3 G4.out.2
  go_wp2_with fail
  refine (D1.out _ _ _ _ (HH.out.grown G4.out.1)).mono ?_
  rintro e w5 ⟨rfl, hg⟩
  have G5 := hide (And.intro (grown_trans G4.out.1 hg) (heap_kept G4.out.2 hg (by simp)))
  clear hg c0 c1 c2 G4
  obtain ⟨c0, c1, c2⟩ := box3 G5.out.2
  go_wp2_with fail
  refine (D3.out _ _ _ _ (HH.out.grown G5.out.1)).mono ?_
  rintro e w6 ⟨rfl, hg⟩
  have G6 := hide (And.intro (grown_trans G5.out.1 hg) (heap_kept G5.out.2 hg (by simp)))
  clear hg c0 c1 c2 G5
  obtain ⟨c0, c1, c2⟩ := box3 G6.out.2
  go_wp2_with fail
  refine (D4.out _ _ _ _ (HH.out.grown G6.out.1)).mono ?_
  rintro e w7 ⟨rfl, hg⟩
  have G7 := hide (And.intro (grown_trans G6.out.1 hg) (heap_kept G6.out.2 hg (by simp)))
  clear hg c0 c1 c2 G6
  obtain ⟨c0, c1, c2⟩ := box3 G7.out.2
  rcases HF.out with ⟨h1, h2, h3⟩ | ⟨h1, s, q, h2, h3, h4, h5, h6, h7⟩
  · subst h2
    subst h3
    have hz : (z1 == 0) = false := by simpa using h1
    have h1' : ¬ z1 = 0 := h1
    have hz2 : decide (z1 = 0) = false := by simpa using h1
    clear h1 HF
    go_wp2
    go_ret
    exact ⟨rfl, G7.out.1⟩
  · subst h1
    subst h2
    subst h3
    subst h6
    subst h7
    clear HF
    have hW0 : ¬ q = 0 := by omega
    have hne : ((q : Int) == 0) = false := by simp; omega
    have t1 := tmod_nat s q
    have t2 := tdiv_nat s q
    have t1' : (s : Int) % (q : Int) = ((s % q : Nat) : Int) := rfl
    have t2' : (s : Int) / (q : Int) = ((s / q : Nat) : Int) := rfl
    have hdl : s / q ≤ s := Nat.div_le_self _ _
    have hml := Nat.mod_lt s (show q > 0 by omega)
    have hw1 : IntKind.i64.wrap ((s / q : Nat) : Int) = ((s / q : Nat) : Int) := IntWalk.i64_in _ (by have := Int.natCast_nonneg (s / q); omega)
    clear T1 T2 T3 T4 D1 D3 D4
    generalize s / q = rr at *
    generalize s % q = cc at *
    go_wp2
    go_ret
    exact ⟨rfl, G7.out.1⟩
theorem tells_of {f : FuncId} {R W : Int} {L : List Int} {args : List Value} {v v' : Value} (h : Tells f R W L args v) (e : v = v') : Tells f R W L args v' := e ▸ h
theorem cabinSeats_any (R W : Int) (ao : Option Addr) (n cap : Nat) (L : List Int) (a b : Int) (w : World) (hE : Er w) (hc : CbIn w ao n cap L) :
    Calls Tryd.prog 4 #[cbV R W (.slice ao n cap), .int .i64 a, .int .i64 b] w fun e w' => e = .returned (.bool true) ∧ w.grownBy w' none := by
  have hbes : ∃ bs, Tells 23 R W L [.int .i64 a, .int .i64 b] (.tuple #[.bool bs, .int .i64 (wrg R W L [a, b])]) ∧ Tells 26 R W L [.int .i64 a, .int .i64 b] (.tuple #[.bool bs, .int .i64 (wrg R W L [a, b])]) := by
    by_cases hz : wrg R W L [a, b] = 0
    · have ho : Ok R W L := by
        by_cases ho : Ok R W L
        · exact ho
        · rw [wrg_no ho] at hz; cases hz
      have hall : All R W [a, b] := by
        by_cases ha : All R W [a, b]
        · exact ha
        · rw [wrg_seat ho ha] at hz; cases hz
      have ha := hall a (by simp)
      have hb := hall b (by simp)
      obtain ⟨s, rfl⟩ : ∃ s : Nat, a = (s : Int) := ⟨a.toNat, by omega⟩
      obtain ⟨t, rfl⟩ : ∃ t : Nat, b = (t : Int) := ⟨b.toNat, by omega⟩
      obtain ⟨q, rfl⟩ : ∃ q : Nat, W = (q : Int) := ⟨W.toNat, by have := ho.2.2.1; omega⟩
      rw [hz]
      exact ⟨bes q L s t, fun ao n cap w hc => beside_ok R q ao n cap L s t w hc ho ha.2 hb.2, fun ao n cap w hc => dbeside_ok R q ao n cap L s t w hc ho ha.2 hb.2⟩
    · exact ⟨false, fun ao n cap w hc => beside_bad R W ao n cap L a b w hc hz, fun ao n cap w hc => dbeside_bad R W ao n cap L a b w hc hz⟩
  obtain ⟨bs, B1, B2⟩ := hbes
  by_cases hz : wrg R W L [a] = 0
  · have ho : Ok R W L := by
      by_cases ho : Ok R W L
      · exact ho
      · rw [wrg_no ho] at hz; cases hz
    have hall : All R W [a] := by
      by_cases ha : All R W [a]
      · exact ha
      · rw [wrg_seat ho ha] at hz; cases hz
    have ha := hall a (by simp)
    obtain ⟨s, rfl⟩ : ∃ s : Nat, a = (s : Int) := ⟨a.toNat, by omega⟩
    obtain ⟨q, rfl⟩ : ∃ q : Nat, W = (q : Int) := ⟨W.toNat, by have := ho.2.2.1; omega⟩
    have hq := ho.2.2.1
    have hr := row64 ho ha.2
    exact seats_core R q ao n cap L s b w hE hc ⟨(txt q s).toArray⟩ 0 (wrg R q L [(s : Int), b]) _ _ (win q (s % q)) (ai L (s % q) || ai L (s % q + 1)) bs
      (fun ao n cap w hc => text_ok R q ao n cap L s w hc ho ha.2) (fun ao n cap w hc => place_ok R q ao n cap L s w hc ho ha.2) (fun ao n cap w hc => window_ok R q ao n cap L s w hc ho ha.2) B1
      (fun ao n cap w hc => dtext_ok R q ao n cap L s w hc ho ha.2) (fun ao n cap w hc => dwindow_ok R q ao n cap L s w hc ho ha.2) B2
      (Or.inr ⟨rfl, s, q, rfl, rfl, by omega, hr.2, rfl, rfl⟩)
  · exact seats_core R W ao n cap L a b w hE hc ⟨#[]⟩ (wrg R W L [a]) (wrg R W L [a, b]) 0 0 false false bs
      (fun ao n cap w hc => text_bad R W ao n cap L a w hc hz) (fun ao n cap w hc => place_bad R W ao n cap L a w hc hz) (fun ao n cap w hc => window_bad R W ao n cap L a w hc hz) B1
      (fun ao n cap w hc => dtext_bad R W ao n cap L a w hc hz) (fun ao n cap w hc => dwindow_bad R W ao n cap L a w hc hz) B2
      (Or.inl ⟨hz, rfl, rfl⟩)
end Go.Proofs.YtomoclicbjkpoaaDoor
