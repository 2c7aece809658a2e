/- Fares: FaresTells walked. -/
import Derived.Test.YtbebblhnhpdpjaaWq
namespace Go.Proofs.Ytbebblhnhpdpjaa
open Go.RowKit
attribute [local go_sem ↓] Go.wp_at_zero Go.wp_at_succ
attribute [local go_sem] run_store_float

/-- What the lists are that Values and Limits tell. -/
def vT (l : List Fa) (seats : Int) : List Nat := if cE l seats = 0 then vs seats.toNat l else []
def lT (l : List Fa) (seats : Int) : List Nat := if cE l seats = 0 then lms seats.toNat l l.length else []
theorem vT_length (l : List Fa) (seats : Int) : (vT l seats).length ≤ 1025 := by
  unfold vT
  split
  · rename_i h
    obtain ⟨-, s, hs, hs2⟩ := cE_zero h
    rw [vs_length]; omega
  · simp
theorem lT_length (l : List Fa) (seats : Int) : (lT l seats).length ≤ 16 := by
  unfold lT
  split
  · rename_i h
    obtain ⟨hm, -⟩ := cE_zero h
    rw [lms_length]; exact (mayB_good hm).1.2
  · simp
theorem Fb.ownT {w : World} {b B : Nat} {xs : List Nat} (h : Fb w b xs) (hB : B ≤ b) (hl : xs.length ≤ 1000000) : w.ownsRow B 33 1 (.slice (some ⟨b, 0, none⟩) xs.length xs.length) xs.length (fv xs) :=
  ⟨by rw [fv_length, Nat.mul_one], Or.inr ⟨b, xs.length, _, rfl, hB, h, Nat.le_refl _, by unfold maxLen; omega, by simp [fv_length], by rw [Nat.mul_one]; exact List.take_of_length_le (by simp [fv_length])⟩⟩
theorem valuesT_own (ao : Option Addr) (cap n : Nat) (l : List Fa) (seats : Int) (w : World) (hn : n = l.length) (hb : FasAt w ao l) (hs : n ≤ 140737488355328) :
    Calls Try.prog 12 #[.slice ao n cap, .int .i64 seats] w fun e w' => ∃ v, e = .returned (.tuple #[v, .int .i64 (cE l seats)]) ∧ w'.ownsRow w.heap.size 33 1 v (vT l seats).length (fv (vT l seats)) ∧ w.grownBy w' none := by
  refine (values_any w ao cap n l seats w hn hb hs (grown_refl _ _)).mono ?_
  rintro e w' ⟨h, hg⟩
  rcases h with ⟨hne, rfl⟩ | ⟨hz, s, b, rfl, hs2, rfl, hfb, hlo⟩
  · have e1 : vT l seats = [] := by unfold vT; rw [if_neg hne]
    rw [e1]
    exact ⟨_, rfl, World.ownsRow_nil _ _ _ _, hg⟩
  · have e1 : vT l (s : Int) = vs s l := by unfold vT; rw [if_pos hz]; rfl
    have hl := vs_length s l
    have ho := hfb.ownT hlo (by omega)
    rw [e1, hz]
    rw [hl] at ho ⊢
    exact ⟨_, rfl, ho, hg⟩
theorem limitsT_own (ao : Option Addr) (cap n : Nat) (l : List Fa) (seats : Int) (w : World) (hn : n = l.length) (hb : FasAt w ao l) (hs : n ≤ 140737488355328) :
    Calls Try.prog 13 #[.slice ao n cap, .int .i64 seats] w fun e w' => ∃ v, e = .returned (.tuple #[v, .int .i64 (cE l seats)]) ∧ w'.ownsRow w.heap.size 3 1 v (lT l seats).length (iv (lT l seats)) ∧ w.grownBy w' none := by
  refine (limits_any w ao cap n l seats w hn hb hs (grown_refl _ _)).mono ?_
  rintro e w' ⟨h, hg⟩
  rcases h with ⟨hne, rfl⟩ | ⟨hz, s, x, rfl, hs2, rfl, hown⟩
  · have e1 : lT l seats = [] := by unfold lT; rw [if_neg hne]
    rw [e1]
    exact ⟨_, rfl, World.ownsRow_nil _ _ _ _, hg⟩
  · have e1 : lT l (s : Int) = lms s l l.length := by unfold lT; rw [if_pos hz]; rfl
    have hl := lms_length s l l.length
    rw [e1, hz]
    rw [hl]
    exact ⟨_, rfl, hown, hg⟩

theorem rvaluesT (ao : Option Addr) (cap n : Nat) (l : List Fa) (seats : Int) (w : World) (hn : n = l.length) (hb : FasAt w ao l) (hs : n ≤ 140737488355328) :
    Calls Try.prog 16 #[.slice ao n cap, .int .i64 seats] w fun e w' => ∃ a c, e = .returned (.tuple #[.slice a (vT l seats).length c, .int .i64 (cE l seats)]) ∧ At w' a (vT l seats) ∧ w.grownBy w' none := by
  refine (rvalues_any ao cap n l seats w hn hb hs).mono ?_
  rintro e w' ⟨h, hg⟩
  rcases h with ⟨hne, rfl⟩ | ⟨hz, s, a, c, rfl, hs2, rfl, hat⟩
  · have e1 : vT l seats = [] := by unfold vT; rw [if_neg hne]
    rw [e1]
    exact ⟨_, _, rfl, At.nil _ _, hg⟩
  · have e1 : vT l (s : Int) = vs s l := by unfold vT; rw [if_pos hz]; rfl
    rw [e1, hz, vs_length]
    exact ⟨_, _, rfl, hat, hg⟩
theorem rlimitsT (ao : Option Addr) (cap n : Nat) (l : List Fa) (seats : Int) (w : World) (hn : n = l.length) (hb : FasAt w ao l) (hs : n ≤ 140737488355328) :
    Calls Try.prog 17 #[.slice ao n cap, .int .i64 seats] w fun e w' => ∃ v, e = .returned (.tuple #[v, .int .i64 (cE l seats)]) ∧ w'.ownsRow w.heap.size 3 1 v (lT l seats).length (iv (lT l seats)) ∧ w.grownBy w' none := by
  refine (rlimits_any ao cap n l seats w hn hb hs).mono ?_
  rintro e w' ⟨h, hg⟩
  rcases h with ⟨hne, rfl⟩ | ⟨hz, s, x, rfl, hs2, rfl, hown⟩
  · have e1 : lT l seats = [] := by unfold lT; rw [if_neg hne]
    rw [e1]
    exact ⟨_, rfl, World.ownsRow_nil _ _ _ _, hg⟩
  · have e1 : lT l (s : Int) = lms s l l.length := by unfold lT; rw [if_pos hz]; rfl
    have hl := lms_length s l l.length
    rw [e1, hz]
    rw [hl]
    exact ⟨_, rfl, hown, hg⟩

set_option maxRecDepth 100000 in
set_option maxHeartbeats 4000000 in
theorem faresTells_any (ao : Option Addr) (cap n : Nat) (l : List Fa) (seats : Int) (w : World) (hn : n = l.length) (hb : FasAt w ao l) (hs : n ≤ 4398046510976) (hz : Sz2 l) :
    Calls Try.prog 3 #[.slice ao n cap, .int .i64 seats] w fun e w' => e = .returned (.bool true) ∧ w.grownBy w' none := by
  have HB := hide hb
  have HN := hide hn
  have HZ := hide hz
  have hvl := vT_length l seats
  have hll := lT_length l seats
  obtain ⟨m1, hm1⟩ : ∃ m, m = (vT l seats).length := ⟨_, rfl⟩
  obtain ⟨m2, hm2⟩ : ∃ m, m = (lT l seats).length := ⟨_, rfl⟩
  have HM1 := hide hm1
  have HM2 := hide hm2
  rw [← hm1] at hvl
  rw [← hm2] at hll
  have CV := hide (fun ao cap w hb => valuesT_own ao cap n l seats w hn hb (by omega))
  have CL := hide (fun ao cap w hb => limitsT_own ao cap n l seats w hn hb (by omega))
  have CB := hide (fun ao cap w hb => bid_any w ao cap n l seats w hn hb (by omega) (grown_refl _ _))
  have CC := hide (fun ao cap w hb => check_any ao cap n l w hn hb (by omega))
  have RV := hide (fun ao cap w hb => rvaluesT ao cap n l seats w hn hb (by omega))
  have RL := hide (fun ao cap w hb => rlimitsT ao cap n l seats w hn hb (by omega))
  have RB := hide (fun ao cap w hb => rbid_any ao cap n l seats w hn hb (by omega))
  have RC := hide (fun ao cap w hb => rcheck_any ao cap n l w hn hb (by omega))
  rw [← hm1] at CV RV
  rw [← hm2] at CL RL
  clear hb hn hz hm1 hm2
  generalize vT l seats = X at *
  generalize lT l seats = Y at *
  generalize cE l seats = ce at *
  generalize bE l seats = be at *
  generalize fE l = fe at *
  go_enter Try.func3, Try.ntmps3
  go_wp2_with fail
  refine (awake_any w).mono ?_
  rintro e w1 ⟨rfl, hg1⟩
  have HG1 := hide hg1
  have HLent := hide (lentFares_any ao cap n l w1 HN.out (HB.out.grown hg1) hs HZ.out)
  clear hg1
  go_wp2_with fail
  refine HLent.out.mono ?_
  rintro e w2 ⟨g, c, pre, rfl, hm, hle, hg2⟩
  have hf2 := hle.fares
  rw [hm] at hf2
  have HLe := hide (And.intro hm (And.intro hle hf2))
  have HG2 := hide (grown_trans HG1.out hg2)
  clear hm hle hf2 hg2 HLent HG1 HZ
  have C := hide (CC.out _ c w2 HLe.out.2.2)
  go_wp2_with fail
  refine C.out.mono ?_
  rintro e w3 ⟨rfl, hg3⟩
  have HG3 := hide hg3
  clear hg3 C CC
  have C := hide (CV.out _ c w3 (HLe.out.2.2.grown HG3.out))
  go_wp2_with fail
  refine C.out.mono ?_
  rintro e w4 ⟨v4, rfl, ho4, hg4⟩
  obtain ⟨a4, c4, e4, -, -, -, hat4, -, -⟩ := own_at ho4
  subst e4
  have HA4 := hide hat4
  have HG4 := hide (grown_trans HG3.out hg4)
  clear ho4 hat4 hg4 C CV HG3
  have C := hide (CL.out _ c w4 (HLe.out.2.2.grown HG4.out))
  go_wp2_with fail
  refine C.out.mono ?_
  rintro e w5 ⟨v5, rfl, ho5, hg5⟩
  obtain ⟨a5, c5, e5, -, -, -, hat5, -, -⟩ := ownI_at ho5
  subst e5
  have HA5 := hide (And.intro (HA4.out.grown hg5) hat5)
  have HG5 := hide (grown_trans HG4.out hg5)
  clear ho5 hat5 hg5 C CL HG4 HA4
  have C := hide (CB.out _ c w5 (HLe.out.2.2.grown HG5.out))
  go_wp2_with fail
  refine C.out.mono ?_
  rintro e w6 ⟨rfl, hg6⟩
  have HA6 := hide (And.intro (HA5.out.1.grown hg6) (HA5.out.2.grown hg6))
  have HG6 := hide (grown_trans HG5.out hg6)
  clear hg6 C CB HG5 HA5
  have C := hide (keptFares_any (cap := cap) HN.out HLe.out.1 (HLe.out.2.1.grown HG6.out) ((HB.out.grown HG2.out).grown HG6.out) hs)
  go_wp2_with fail
  refine C.out.mono ?_
  rintro e w7 ⟨rfl, hg7⟩
  have HA7 := hide (And.intro (HA6.out.1.grown hg7) (HA6.out.2.grown hg7))
  have HG7 := hide (grown_trans HG2.out (grown_trans HG6.out hg7))
  clear hg7 C HG6 HA6 HLe HG2
  have C := hide (RV.out ao cap w7 (HB.out.grown HG7.out))
  go_wp2_with fail
  refine C.out.mono ?_
  rintro e w8 ⟨a8, c8, rfl, hat8, hg8⟩
  have HA8 := hide (And.intro (HA7.out.1.grown hg8) (And.intro (HA7.out.2.grown hg8) hat8))
  have HG8 := hide (grown_trans HG7.out hg8)
  clear hat8 hg8 C RV HG7 HA7
  have C := hide (RL.out ao cap w8 (HB.out.grown HG8.out))
  go_wp2_with fail
  refine C.out.mono ?_
  rintro e w9 ⟨v9, rfl, ho9, hg9⟩
  obtain ⟨a9, c9, e9, -, -, -, hat9, -, -⟩ := ownI_at ho9
  subst e9
  have HA9 := hide (And.intro (HA8.out.1.grown hg9) (And.intro (HA8.out.2.1.grown hg9) (And.intro (HA8.out.2.2.grown hg9) hat9)))
  have HG9 := hide (grown_trans HG8.out hg9)
  clear ho9 hat9 hg9 C RL HG8 HA8
  have C := hide (RB.out ao cap w9 (HB.out.grown HG9.out))
  go_wp2_with fail
  refine C.out.mono ?_
  rintro e w10 ⟨rfl, hg10⟩
  have HA10 := hide (And.intro (HA9.out.1.grown hg10) (And.intro (HA9.out.2.1.grown hg10) (And.intro (HA9.out.2.2.1.grown hg10) (HA9.out.2.2.2.grown hg10))))
  have HG10 := hide (grown_trans HG9.out hg10)
  clear hg10 C RB HG9 HA9
  have C := hide (RC.out ao cap w10 (HB.out.grown HG10.out))
  go_wp2_with fail
  refine C.out.mono ?_
  rintro e w11 ⟨rfl, hg11⟩
  have HA11 := hide (And.intro (HA10.out.1.grown hg11) (And.intro (HA10.out.2.1.grown hg11) (And.intro (HA10.out.2.2.1.grown hg11) (HA10.out.2.2.2.grown hg11))))
  have HG11 := hide (grown_trans HG10.out hg11)
  clear hg11 C RC HG10 HA10
  have C := hide (same_eq a4 a8 m1 c4 c8 X w11 HM1.out HA11.out.1 HA11.out.2.2.1 (by omega))
  go_wp2_with fail
  refine C.out.mono ?_
  rintro e w12 ⟨rfl, hg12⟩
  have HG12 := hide (grown_trans HG11.out hg12)
  have D := hide (sameI_eq a5 a9 m2 c5 c9 Y w12 HM2.out (HA11.out.2.1.grown hg12) (HA11.out.2.2.2.grown hg12) (by omega))
  clear hg12 C HG11 HA11
  go_wp2_with fail
  refine D.out.mono ?_
  rintro e w13 ⟨rfl, hg13⟩
  have HG13 := hide (grown_trans HG12.out hg13)
  clear hg13 D HG12
  go_wp2_with fail
  refine (bits_any be w13).mono ?_
  rintro e w14 ⟨rfl, hw14⟩
  obtain rfl := hw14
  go_wp2
  go_ret
  exact ⟨rfl, HG13.out⟩
end Go.Proofs.Ytbebblhnhpdpjaa
