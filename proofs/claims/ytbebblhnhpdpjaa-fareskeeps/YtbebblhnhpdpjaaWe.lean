/- Fares: FaresKeeps walked. -/
import Derived.Test.YtbebblhnhpdpjaaWb
import Derived.Test.YtbebblhnhpdpjaaLApart2
import Derived.Test.YtbebblhnhpdpjaaIApart2
namespace Go.Proofs.Ytbebblhnhpdpjaa
open Go.RowKit
attribute [local go_sem ↓] Go.wp_at_zero Go.wp_at_succ
attribute [local go_sem] run_store_float

/-- What the lists are that Values and Limits tell. -/
def vl (l : List Fa) (seats : Int) : List Nat := if cE l seats = 0 then vs seats.toNat l else []
def ll (l : List Fa) (seats : Int) : List Nat := if cE l seats = 0 then lms seats.toNat l l.length else []
theorem vl_length (l : List Fa) (seats : Int) : (vl l seats).length ≤ 1025 := by
  unfold vl
  split
  · rename_i h
    obtain ⟨-, s, hs, hs2⟩ := cE_zero h
    rw [vs_length]; omega
  · simp
theorem ll_length (l : List Fa) (seats : Int) : (ll l seats).length ≤ 16 := by
  unfold ll
  split
  · rename_i h
    obtain ⟨hm, -⟩ := cE_zero h
    rw [lms_length]; exact (mayB_good hm).1.2
  · simp
theorem Fb.own {w : World} {b B : Nat} {xs : List Nat} (h : Fb w b xs) (hB : B ≤ b) (hl : xs.length ≤ 1000000) : w.ownsRow B 33 1 (.slice (some ⟨b, 0, none⟩) xs.length xs.length) xs.length (fv xs) :=
  ⟨by rw [fv_length, Nat.mul_one], Or.inr ⟨b, xs.length, _, rfl, hB, h, Nat.le_refl _, by unfold maxLen; omega, by simp [fv_length], by rw [Nat.mul_one]; exact List.take_of_length_le (by simp [fv_length])⟩⟩
theorem values_own (ao : Option Addr) (cap n : Nat) (l : List Fa) (seats : Int) (w : World) (hn : n = l.length) (hb : FasAt w ao l) (hs : n ≤ 140737488355328) :
    Calls Try.prog 12 #[.slice ao n cap, .int .i64 seats] w fun e w' => ∃ v, e = .returned (.tuple #[v, .int .i64 (cE l seats)]) ∧ w'.ownsRow w.heap.size 33 1 v (vl l seats).length (fv (vl l seats)) ∧ w.grownBy w' none := by
  refine (values_any w ao cap n l seats w hn hb hs (grown_refl _ _)).mono ?_
  rintro e w' ⟨h, hg⟩
  rcases h with ⟨hne, rfl⟩ | ⟨hz, s, b, rfl, hs2, rfl, hfb, hlo⟩
  · have e1 : vl l seats = [] := by unfold vl; rw [if_neg hne]
    rw [e1]
    exact ⟨_, rfl, World.ownsRow_nil _ _ _ _, hg⟩
  · have e1 : vl l (s : Int) = vs s l := by unfold vl; rw [if_pos hz]; rfl
    have hl := vs_length s l
    have ho := hfb.own hlo (by omega)
    rw [e1, hz]
    rw [hl] at ho ⊢
    exact ⟨_, rfl, ho, hg⟩
theorem limits_own (ao : Option Addr) (cap n : Nat) (l : List Fa) (seats : Int) (w : World) (hn : n = l.length) (hb : FasAt w ao l) (hs : n ≤ 140737488355328) :
    Calls Try.prog 13 #[.slice ao n cap, .int .i64 seats] w fun e w' => ∃ v, e = .returned (.tuple #[v, .int .i64 (cE l seats)]) ∧ w'.ownsRow w.heap.size 3 1 v (ll l seats).length (iv (ll l seats)) ∧ w.grownBy w' none := by
  refine (limits_any w ao cap n l seats w hn hb hs (grown_refl _ _)).mono ?_
  rintro e w' ⟨h, hg⟩
  rcases h with ⟨hne, rfl⟩ | ⟨hz, s, x, rfl, hs2, rfl, hown⟩
  · have e1 : ll l seats = [] := by unfold ll; rw [if_neg hne]
    rw [e1]
    exact ⟨_, rfl, World.ownsRow_nil _ _ _ _, hg⟩
  · have e1 : ll l (s : Int) = lms s l l.length := by unfold ll; rw [if_pos hz]; rfl
    have hl := lms_length s l l.length
    rw [e1, hz]
    rw [hl]
    exact ⟨_, rfl, hown, hg⟩
theorem own_newerT {w w1 : World} {B n m : Nat} {x y : Value} {xs ys : List Value} {t t' : TypeId} (hx : w.ownsRow B t 1 x n xs) (hy : w1.ownsRow w.heap.size t' 1 y m ys) : x.ownBlock = none ∨ x.ownBlock ≠ y.ownBlock := by
  cases h : x.ownBlock with
  | none => exact Or.inl rfl
  | some k =>
    refine Or.inr fun e => ?_
    have h1 := (hx.lt k h).2
    have h2 := (hy.lt k e.symm).1
    omega

set_option maxRecDepth 100000 in
set_option maxHeartbeats 4000000 in
theorem faresKeeps_any (ao : Option Addr) (cap n : Nat) (l : List Fa) (seats : Int) (w : World) (hn : n = l.length) (hb : FasAt w ao l) (hs : n ≤ 4398046511104) (hz : Sz l) :
    Calls Try.prog 8 #[.slice ao n cap, .int .i64 seats] w fun e w' => e = .returned (.bool true) ∧ w.grownBy w' none := by
  have HB := hide hb
  have HN := hide hn
  have HZ := hide hz
  have hvl := vl_length l seats
  have hll := ll_length l seats
  obtain ⟨m1, hm1⟩ : ∃ m, m = (vl l seats).length := ⟨_, rfl⟩
  obtain ⟨m2, hm2⟩ : ∃ m, m = (ll l seats).length := ⟨_, rfl⟩
  have HM1 := hide hm1
  have HM2 := hide hm2
  rw [← hm1] at hvl
  rw [← hm2] at hll
  have HV := hide (fun ao cap w hb => values_own ao cap n l seats w hn hb (by omega))
  have HL := hide (fun ao cap w hb => limits_own ao cap n l seats w hn hb (by omega))
  rw [← hm1] at HV
  rw [← hm2] at HL
  clear hb hn hz hm1 hm2
  generalize vl l seats = X at *
  generalize ll l seats = Y at *
  generalize cE l seats = ce at *
  go_enter Try.func8, Try.ntmps8
  go_wp2_with fail
  refine (awake_any w).mono ?_
  rintro e w1 ⟨rfl, hg1⟩
  have HG1 := hide hg1
  have HC1 := hide (copied ao cap n l w1 HN.out (HB.out.grown hg1) hs HZ.out)
  clear hg1
  go_wp2_with fail
  refine HC1.out.mono ?_
  rintro e w2 ⟨ao2, cap2, rfl, hf2, hg2⟩
  have HF2 := hide hf2
  have HG2 := hide (grown_trans HG1.out hg2)
  clear hf2 hg2 HC1 HG1 HB HZ
  have V1 := hide (HV.out ao2 cap2 w2 HF2.out)
  go_wp2_with fail
  refine V1.out.mono ?_
  rintro e w3 ⟨va, rfl, hoa, hg3⟩
  have HA := hide hoa
  have HG3 := hide hg3
  have V2 := hide (HV.out ao2 cap2 w3 (HF2.out.grown hg3))
  obtain ⟨aa, ca, hea⟩ := own_form hoa
  subst hea
  have LA := hide (fun k e => hoa.lt k e)
  clear hoa hg3 V1
  go_wp2_with fail
  refine V2.out.mono ?_
  rintro e w4 ⟨vb, rfl, hob, hg4⟩
  have HB4 := hide hob
  have HA4 := hide (own_grownT HA.out hg4)
  have HAB := hide (own_newerT HA.out hob)
  have HG4 := hide (grown_trans HG3.out hg4)
  have hle3 := HG3.out.size
  have hle4 := hg4.size
  obtain ⟨ab, cb, heb⟩ := own_form hob
  subst heb
  have LB := hide (fun k e => hob.lt k e)
  have V3 := hide (HL.out ao2 cap2 w4 (HF2.out.grown HG4.out))
  clear hob hg4 V2 HG3 HA
  go_wp2_with fail
  refine V3.out.mono ?_
  rintro e w5 ⟨vc, rfl, hoc, hg5⟩
  have HC5 := hide hoc
  have HA5 := hide (own_grownT HA4.out hg5)
  have HB5 := hide (own_grownT HB4.out hg5)
  have HG5 := hide (grown_trans HG4.out hg5)
  have hle5 := hg5.size
  obtain ⟨ac, cc, hec⟩ := own_form hoc
  subst hec
  have LC := hide (fun k e => hoc.lt k e)
  have V4 := hide (HL.out ao2 cap2 w5 (HF2.out.grown HG5.out))
  clear hoc hg5 V3 HG4 HA4 HB4
  go_wp2_with fail
  refine V4.out.mono ?_
  rintro e w6 ⟨vd, rfl, hod, hg6⟩
  have HD6 := hide hod
  have HA6 := hide (own_grownT HA5.out hg6)
  have HB6 := hide (own_grownT HB5.out hg6)
  have HC6 := hide (own_grownT HC5.out hg6)
  have HCD := hide (own_newerT HC5.out hod)
  have HG6 := hide (grown_trans HG5.out hg6)
  have hle6 := hg6.size
  obtain ⟨ad', cd', hed⟩ := own_form hod
  subst hed
  have LD := hide (fun k e => hod.lt k e)
  clear hod hg6 V4 HG5 HA5 HB5 HC5
  obtain ⟨_, _, e1, -, -, -, hata, hnila, -⟩ := own_at HA6.out
  cases e1
  obtain ⟨_, _, e1, -, -, -, hatb, -, -⟩ := own_at HB6.out
  cases e1
  obtain ⟨_, _, e1, -, -, -, hatc, -, -⟩ := ownI_at HC6.out
  cases e1
  obtain ⟨_, _, e1, -, -, -, hatd, -, -⟩ := ownI_at HD6.out
  cases e1
  have HS1 := hide (same_eq aa ab m1 ca cb X w6 HM1.out hata hatb (by omega))
  have HAT := hide (And.intro hata (And.intro hnila (And.intro hatc hatd)))
  clear hata hatb hatc hatd hnila
  go_wp2_with fail
  refine HS1.out.mono ?_
  rintro e w7 ⟨rfl, hg7⟩
  have HG7 := hide hg7
  clear hg7 HS1
  have HS2 := hide (sameI_eq ac ad' m2 cc cd' Y w7 HM2.out (HAT.out.2.2.1.grown HG7.out) (HAT.out.2.2.2.grown HG7.out) (by omega))
  go_wp2_with fail
  refine HS2.out.mono ?_
  rintro e w8 ⟨rfl, hg8⟩
  have HG8 := hide (grown_trans HG7.out hg8)
  have hle8 := HG8.out.size
  clear hg8 HS2 HG7
  have HCo := hide (copyR_any aa m1 ca X w8 HM1.out.symm (HAT.out.1.grown HG8.out) HAT.out.2.1 (by omega))
  go_wp2_with fail
  refine HCo.out.mono ?_
  rintro e w9 ⟨vw, rfl, how, hg9⟩
  have HW9 := hide how
  have HG9 := hide (grown_trans HG8.out hg9)
  have hle9 := hg9.size
  obtain ⟨aw, cw, hew⟩ := own_form how
  subst hew
  have LW := hide (fun k e => how.lt k e)
  clear how hg9 HCo HG8 HAT
  have hA9 := own_grownT HA6.out HG9.out
  have hB9 := own_grownT HB6.out HG9.out
  have hC9 := own_grownT HC6.out HG9.out
  have hD9 := own_grownT HD6.out HG9.out
  have hR : Al.Rw w9 0 [.slice aa m1 ca, .slice ab m1 cb] := Al.Rw.cons (own_lowT hA9 (Nat.zero_le _)) (by omega) (fun u hu => by simp at hu; subst hu; exact HAB.out) (Al.Rw.cons (own_lowT hB9 (Nat.zero_le _)) (by omega) (fun u hu => by cases hu) (Al.Rw.nil _ _))
  have HR := hide (Al.apartL_rows 0 _ w9 hR (Nat.zero_le _) (by simp) (by simp))
  have HX := hide (And.intro hA9 (And.intro hB9 (And.intro hC9 hD9)))
  clear hR hA9 hB9 hC9 hD9 HA6 HB6 HC6 HD6 HAB
  go_wp2_with fail
  refine HR.out.mono ?_
  rintro e w10 ⟨rfl, hg10⟩
  have hT : ∀ k, (∃ i, i < [Value.slice aa m1 ca, .slice ab m1 cb].length ∧ (([.slice aa m1 ca, .slice ab m1 cb] : List Value).getD i undef).ownBlock = some k) → (w2.heap.size ≤ k ∧ k < w4.heap.size) := by
    rintro k ⟨i, hi, e⟩
    have : i = 0 ∨ i = 1 := by simp at hi; omega
    rcases this with rfl | rfl
    · have := LA.out k e; omega
    · have := LB.out k e; omega
  have hc10 := Al.own_keptT HX.out.2.2.1 hg10 (fun k e t => by have := hT k t; have := (LC.out k e).1; omega)
  have hd10 := Al.own_keptT HX.out.2.2.2 hg10 (fun k e t => by have := hT k t; have := (LD.out k e).1; omega)
  have hw10 := Al.own_keptT HW9.out hg10 (fun k e t => by have := hT k t; have := (LW.out k e).1; omega)
  have HG10 := hide (Al.grownT_after (grown_trans HG6.out HG9.out) hg10 (fun k t => (hT k t).1))
  have hsz10 := HG10.out.size
  have HX10 := hide (And.intro hc10 (And.intro hd10 hw10))
  have hR : Ai.Rw w10 0 [.slice ac m2 cc, .slice ad' m2 cd'] := Ai.Rw.cons (own_lowT hc10 (Nat.zero_le _)) (by omega) (fun u hu => by simp at hu; subst hu; exact HCD.out) (Ai.Rw.cons (own_lowT hd10 (Nat.zero_le _)) (by omega) (fun u hu => by cases hu) (Ai.Rw.nil _ _))
  have HR2 := hide (Ai.apartL_rows 0 _ w10 hR (Nat.zero_le _) (by simp) (by simp))
  clear hT hc10 hd10 hw10 hR hg10 HR HX HW9 LA LB HG6 HG9 HCD
  go_wp2_with fail
  refine HR2.out.mono ?_
  rintro e w11 ⟨rfl, hg11⟩
  have hT : ∀ k, (∃ i, i < [Value.slice ac m2 cc, .slice ad' m2 cd'].length ∧ (([.slice ac m2 cc, .slice ad' m2 cd'] : List Value).getD i undef).ownBlock = some k) → (w4.heap.size ≤ k ∧ k < w6.heap.size) := by
    rintro k ⟨i, hi, e⟩
    have : i = 0 ∨ i = 1 := by simp at hi; omega
    rcases this with rfl | rfl
    · have := LC.out k e; omega
    · have := LD.out k e; omega
  have hw11 := Ai.own_keptT HX10.out.2.2 hg11 (fun k e t => by have := hT k t; have := (LW.out k e).1; omega)
  have HG11 := hide (Ai.grownT_after HG10.out hg11 (fun k t => by have := (hT k t).1; omega))
  have HW11 := hide hw11
  clear hT hw11 hg11 HR2 HX10 LC LD LW HG10
  have V5 := hide (HV.out ao2 cap2 w11 (HF2.out.grown HG11.out))
  go_wp2_with fail
  refine V5.out.mono ?_
  rintro e w12 ⟨vx, rfl, hox, hg12⟩
  obtain ⟨ax, cx, hex⟩ := own_form hox
  subst hex
  obtain ⟨_, _, e1, -, -, -, hatx, -, -⟩ := own_at hox
  cases e1
  obtain ⟨_, _, e1, -, -, -, hatw, -, -⟩ := own_at (own_grownT HW11.out hg12)
  cases e1
  have HS5 := hide (same_eq ax aw m1 cx cw X w12 HM1.out hatx hatw (by omega))
  have HG12 := hide (grown_trans HG2.out (grown_trans HG11.out hg12))
  clear hatx hatw hox hg12 V5 HW11 HG11
  go_wp2_with fail
  refine HS5.out.mono ?_
  rintro e w13 ⟨rfl, hg13⟩
  have HG13 := hide (grown_trans HG12.out hg13)
  go_wp2
  go_ret
  exact ⟨rfl, HG13.out⟩
end Go.Proofs.Ytbebblhnhpdpjaa
