/- The walk of CrcLinear. -/
import Derived.Test.YtfjpgmpffmpejabDoorAwake
import Derived.Deep.CutRange
import Derived.Deep.DeepCutAuto
namespace Go.Proofs.YtfjpgmpffmpejabDoor
open Go.RowKit
attribute [local go_sem ↓] Go.wp_at_zero Go.wp_at_succ

theorem made_zrow (n : Nat) : madeCells #[.int .u8 0] n = (List.replicate n (Value.int .u8 0)).toArray := by
  apply Array.ext'
  rw [toList_madeCells_one]
theorem bv_noughts (n : Nat) : bv (List.replicate n 0) = List.replicate n (Value.int .u8 0) := by simp [bv]
theorem make_bytes (n : Nat) (h : n ≤ 281474976710656) (w : World) : (Instr.makeSlice 22 (.int .i64 (n : Int)) (.int .i64 (n : Int))).run Tryd.prog w = .ok (.slice (some ⟨w.heap.size, 0, none⟩) n n) (w.alloc (.cells (bv (List.replicate n 0)).toArray 5)) := by
  rw [run_make_row' (P := Tryd.prog) 22 5 (.int .u8 0) 1 Tryd.underlying22 Tryd.info5 rfl .i64 .i64 n (by omega) (by omega) w, made_zrow, bv_noughts]
theorem slice_to (ao : Option Addr) (len cap n : Nat) (h : n ≤ cap) (w : World) : (Instr.slice 22 (.slice ao len cap) none (some (.int .i64 (n : Int))) none).run Tryd.prog w = .ok (.slice ao n cap) w := by
  simp [Instr.slice, run_underlying Tryd.underlying22, Instr.sliceBounds, Instr.sliceBound, asIntOf, h]
  intro _; cases ao <;> simp [Addr.add]

/-- The first j bytes of a row, noughts behind them. -/
def fil (us : List Nat) (n j : Nat) : List Nat := us.take j ++ List.replicate (n - j) 0
theorem fil_length {us : List Nat} {n : Nat} (h : us.length = n) {j : Nat} (hj : j ≤ n) : (fil us n j).length = n := by simp [fil, h]; omega
theorem fil_full {us : List Nat} {n : Nat} (h : us.length = n) : fil us n n = us := by simp [fil, ← h]
theorem fil_set {us : List Nat} {n : Nat} (h : us.length = n) {j : Nat} (hj : j < n) (v : Nat) (hv : us[j]? = some v) : (fil us n j).set j v = fil us n (j + 1) := by
  have h1 : (us.take j).length = j := by simp [h]; omega
  have e : n - j = (n - (j + 1)) + 1 := by omega
  unfold fil
  rw [List.set_append_right _ _ (by omega), h1, Nat.sub_self, e, List.replicate_succ, List.set_cons_zero, List.take_succ_eq_append_getElem (by omega)]
  have : us[j] = v := by have := List.getElem?_eq_getElem (l := us) (i := j) (by omega); rw [this] at hv; simpa using hv
  rw [this]; simp

set_option maxRecDepth 100000 in
set_option maxHeartbeats 1000000 in
theorem linear_any (ao bo co : Option Addr) (la ca lb cb lc cc n : Nat) (xs ys zs : List Nat) (w : World) (hT : Tab w) (hla : n ≤ la) (hlb : n ≤ lb) (hlc : n ≤ lc) (hn : n = la ∨ n = lb ∨ n = lc)
    (hca : la ≤ ca) (hcb : lb ≤ cb) (hcc : lc ≤ cc) (hx : xs.length = n) (hy : ys.length = n) (hz : zs.length = n) (hbx : Bytes xs) (hby : Bytes ys) (hbz : Bytes zs)
    (hax : At w ao xs) (hay : At w bo ys) (haz : At w co zs) (hnx : ao = none → n = 0 ∧ ca = 0) (hny : bo = none → n = 0 ∧ cb = 0) (hnz : co = none → n = 0 ∧ cc = 0) (hm : n ≤ 140737488351232) :
    Calls Tryd.prog 4 #[.slice ao la ca, .slice bo lb cb, .slice co lc cc] w fun e w' => e = .returned (.bool true) ∧ w.grownBy w' none := by
  have HT := hide hT
  have hmk := make_bytes n (by omega)
  have HX := hide (And.intro hx (And.intro hbx (And.intro hax hnx)))
  have HY := hide (And.intro hy (And.intro hby (And.intro hay hny)))
  have HZ := hide (And.intro hz (And.intro hbz (And.intro haz hnz)))
  have hsa := slice_to ao la ca n (by omega)
  have hsb := slice_to bo lb cb n (by omega)
  have hsc := slice_to co lc cc n (by omega)
  have HSL := hide (And.intro hsa (And.intro hsb hsc))
  have HMK := hide hmk
  clear hT hx hbx hax hnx hy hby hay hny hz hbz haz hnz hsa hsb hsc hmk
  go_enter Tryd.func4, Tryd.ntmps4
  go_wp2_with fail
  refine (awake_any _ HT.out).mono ?_
  rintro e w1 ⟨rfl, hg1⟩
  have G1 := hide hg1
  clear hg1
  go_upto_region 3 with fail
  go_cut [7] (fun s7 wx => s7 = .int .i64 (n : Int) ∧ wx = w1)
  case first =>
    go_wp2_with fail
    all_goals
      go_meet
      case rel => exact ⟨congrArg _ (by omega), rfl⟩
  case rest =>
    obtain ⟨rfl, rfl⟩ := hcut
    have HLL := hide (And.intro hla (And.intro hlb hlc))
    clear hn hlb hlc hla hca hcb hcc
    have hmk := HMK.out
    go_wp2_with fail
    clear hmk
    have hL1 := HX.out.1
    have hL2 := HY.out.1
    have hL3 := HZ.out.1
    obtain ⟨us, hus⟩ : ∃ us, us = Poly.xors (Poly.xors xs ys) zs := ⟨_, rfl⟩
    have hul : us.length = n := by rw [hus, Poly.xors_length _ _ (by rw [Poly.xors_length _ _ (by omega)]; omega), Poly.xors_length _ _ (by omega), hL1]
    have hug : ∀ (j x y z : Nat), xs[j]? = some x → ys[j]? = some y → zs[j]? = some z → us[j]? = some (x ^^^ y ^^^ z) := by
      intro j x y z h1 h2 h3
      rw [hus]
      simp [Poly.xors, List.getElem?_zipWith, h1, h2, h3]
    have hub : Bytes us := by
      intro u hu
      obtain ⟨j, hj, rfl⟩ := List.mem_iff_getElem.1 hu
      have e1 := List.getElem?_eq_getElem (l := xs) (i := j) (by omega)
      have e2 := List.getElem?_eq_getElem (l := ys) (i := j) (by omega)
      have e3 := List.getElem?_eq_getElem (l := zs) (i := j) (by omega)
      have h := hug j _ _ _ e1 e2 e3
      rw [List.getElem?_eq_getElem hj] at h
      rw [Option.some.inj h]
      exact Poly.xor_lt_byte (Poly.xor_lt_byte (HX.out.2.1 _ (List.getElem_mem _)) (HY.out.2.1 _ (List.getElem_mem _))) (HZ.out.2.1 _ (List.getElem_mem _))
    have HL := hide (Poly.more_linear 0 xs ys zs (by omega) (by omega))
    rw [← hus] at HL
    have HU := hide (And.intro hul (And.intro hug hub))
    clear hul hug hub hus hL1 hL2 hL3
    go_loopg [9] n (fun k i wr => ∃ j : Nat, k + j = n ∧ i = .int .i64 j ∧ wr.ownsRow wc.heap.size 5 1 (.slice (some ⟨wc.heap.size, 0, none⟩) n n) n (bv (fil us n j)) ∧ w.grownBy wr none)
    case atStart =>
      refine ⟨0, by omega, rfl, ?_, grown_trans G1.out (World.grownBy_alloc _ _ none)⟩
      have h0 : fil us n 0 = List.replicate n 0 := by simp [fil]
      rw [h0]
      exact World.ownsRow_lit wc (bv (List.replicate n 0)).toArray n (Nat.le_refl _) (by unfold maxLen; omega) (by simp [bv_length])
    case round =>
      obtain ⟨j, hkj, rfl, hown, hg⟩ := hrel
      by_cases hk : 0 < gk
      · have hx1 := HX.out.1
        have hy1 := HY.out.1
        have hz1 := HZ.out.1
        have e1 := List.getElem?_eq_getElem (l := xs) (i := j) (by omega)
        have e2 := List.getElem?_eq_getElem (l := ys) (i := j) (by omega)
        have e3 := List.getElem?_eq_getElem (l := zs) (i := j) (by omega)
        have b1 := HX.out.2.1 _ (List.getElem_mem (l := xs) (n := j) (by omega))
        have b2 := HY.out.2.1 _ (List.getElem_mem (l := ys) (n := j) (by omega))
        have b3 := HZ.out.2.1 _ (List.getElem_mem (l := zs) (n := j) (by omega))
        obtain ⟨a, rfl, c1⟩ := HX.out.2.2.1 j _ e1
        obtain ⟨b, rfl, c2⟩ := HY.out.2.2.1 j _ e2
        obtain ⟨c, rfl, c3⟩ := HZ.out.2.2.1 j _ e3
        have c1' := hg.cell c1 (by simp)
        have c2' := hg.cell c2 (by simp)
        have c3' := hg.cell c3 (by simp)
        have hset := fil_set HU.out.1 (show j < n by omega) _ (HU.out.2.1 j _ _ _ e1 e2 e3)
        have hcu : wr.cell? ⟨wc.heap.size, j, none⟩ = some (.int .u8 ((0 : Nat) : Int)) := by
          rw [hown.cellAt j (by omega)]
          refine bv_get _ _ _ ?_
          have h1 : (us.take j).length = j := by rw [List.length_take, HU.out.1]; omega
          rw [fil, List.getElem?_append_right (by omega), h1, Nat.sub_self, List.getElem?_replicate, if_pos (by omega)]
        have hfu := hown.frozenAt j
        generalize xs[j]'(by omega) = x at *
        generalize ys[j]'(by omega) = y at *
        generalize zs[j]'(by omega) = z at *
        have q1 := bits_xor_u8 x y b1 b2
        have q1l := Poly.xor_lt_byte b1 b2
        generalize x ^^^ y = xy at *
        have q2 := bits_xor_u8 xy z q1l b3
        generalize xy ^^^ z = u at *
        have hlt : (j : Int) < (n : Int) := by omega
        obtain ⟨hla, hlb, hlc⟩ := HLL.out
        have t1 : (j : Int) < (la : Int) := by omega
        have t2 : (j : Int) < (lb : Int) := by omega
        have t3 : (j : Int) < (lc : Int) := by omega
        have HS := hide (And.intro hset (And.intro hown hg))
        clear hset hown hg e1 e2 e3 c1 c2 c3 hx1 hy1 hz1 hla hlb hlc
        go_wp2
        go_region
        go_wp2
        go_roundg (gk - 1)
        case measure => omega
        case rel =>
          obtain ⟨hset, hown, hg⟩ := HS.out
          have hst := hown.stored j (.int .u8 (u : Int))
          refine ⟨j + 1, by omega, by go_num, ?_, grown_then hg (grown_trans hst.2 (grown_drew _ _)) (fun k e => by cases e; exact Or.inl G1.out.size)⟩
          rw [← hset, bv_set]
          exact hst.1.drew
      · have hj : j = n := by omega
        have hj1 : ¬ (j : Int) < (n : Int) := by omega
        rw [hj, fil_full HU.out.1] at hown
        obtain ⟨ao2, cap2, e2, -, -, -, hat2, -⟩ := own_at hown
        cases e2
        obtain ⟨hul, hug, hub⟩ := HU.out
        have hS0 := fun (bo : Option Addr) (c : Nat) (w : World) (h : At w bo us) (t : Tab w) => sum_any bo n c us w hul hub h t (by omega)
        have hS1 := fun (bo : Option Addr) (c : Nat) (w : World) (h : At w bo xs) (t : Tab w) => sum_any bo n c xs w HX.out.1 HX.out.2.1 h t (by omega)
        have hS2 := fun (bo : Option Addr) (c : Nat) (w : World) (h : At w bo ys) (t : Tab w) => sum_any bo n c ys w HY.out.1 HY.out.2.1 h t (by omega)
        have hS3 := fun (bo : Option Addr) (c : Nat) (w : World) (h : At w bo zs) (t : Tab w) => sum_any bo n c zs w HZ.out.1 HZ.out.2.1 h t (by omega)
        have l1 := Poly.more_lt xs (s := 0) (by decide) HX.out.2.1
        have l2 := Poly.more_lt ys (s := 0) (by decide) HY.out.2.1
        have l3 := Poly.more_lt zs (s := 0) (by decide) HZ.out.2.1
        have hlin := HL.out
        generalize Poly.more 0 us = S0 at *
        generalize Poly.more 0 xs = S1 at *
        generalize Poly.more 0 ys = S2 at *
        generalize Poly.more 0 zs = S3 at *
        have q1 := bits_xor_u32 S1 S2 l1 l2
        have q2 := bits_xor_u32 (S1 ^^^ S2) S3 (Poly.xor_lt32 l1 l2) l3
        rw [← hlin] at q2
        generalize S1 ^^^ S2 = S12 at *
        have HS := hide (And.intro hS0 (And.intro hS1 (And.intro hS2 hS3)))
        have H0 := hide (And.intro (hat2.grown (grown_drew _ _)) (grown_trans hg (grown_drew _ none)))
        clear hown hg hat2 hul hug hub hS0 hS1 hS2 hS3 hlin HL HU hj hkj hk
        obtain ⟨ha1, ha2, ha3⟩ := HSL.out
        go_wp2
        go_region_held3 (fun w' => True) (trivial) ((first
          | (go_at_call_of 7 (Value.slice ao n ca); refine (copy_any ao n ca xs _ HX.out.1 (HX.out.2.2.1.grown H0.out.2) HX.out.2.2.2 (by omega)).mono ?_; rintro e wA ⟨v, rfl, hown, hgA⟩; obtain ⟨aA, cA, rfl, -, -, -, hatA, -⟩ := own_at hown; have HA := hide (And.intro hatA (grown_trans H0.out.2 hgA)); clear hown hgA hatA)
          | (go_at_call_of 7 (Value.slice bo n cb); refine (copy_any bo n cb ys _ HY.out.1 (HY.out.2.2.1.grown HA.out.2) HY.out.2.2.2 (by omega)).mono ?_; rintro e wB ⟨v, rfl, hown, hgB⟩; obtain ⟨aB, cB, rfl, -, -, -, hatB, -⟩ := own_at hown; have HB := hide (And.intro hatB (grown_trans HA.out.2 hgB)); clear hown hgB hatB)
          | (go_at_call_of 7 (Value.slice co n cc); refine (copy_any co n cc zs _ HZ.out.1 (HZ.out.2.2.1.grown HB.out.2) HZ.out.2.2.2 (by omega)).mono ?_; rintro e wC ⟨v, rfl, hown, hgC⟩; obtain ⟨aC, cC, rfl, -, -, -, hatC, -⟩ := own_at hown; have HC := hide (And.intro hatC (grown_trans HB.out.2 hgC)); clear hown hgC hatC)
          | (go_at_call_of 8 (Value.slice (some ⟨wc.heap.size, 0, none⟩) n n); refine (HS.out.1 _ _ _ H0.out.1 (HT.out.grown H0.out.2)).mono ?_; rintro e w' ⟨rfl, rfl⟩)
          | (go_at_call_of 8 (Value.slice aA n cA); refine (HS.out.2.1 _ _ _ HA.out.1 (HT.out.grown HA.out.2)).mono ?_; rintro e w' ⟨rfl, rfl⟩)
          | (go_at_call_of 8 (Value.slice aB n cB); refine (HS.out.2.2.1 _ _ _ HB.out.1 (HT.out.grown HB.out.2)).mono ?_; rintro e w' ⟨rfl, rfl⟩)
          | (go_at_call_of 8 (Value.slice aC n cC); refine (HS.out.2.2.2 _ _ _ HC.out.1 (HT.out.grown HC.out.2)).mono ?_; rintro e w' ⟨rfl, rfl⟩)))
        go_wp2
        go_ret
        exact ⟨rfl, HC.out.2⟩

/-- Of rows of any lengths. -/
theorem linear_all (ao bo co : Option Addr) (la ca lb cb lc cc : Nat) (xs ys zs : List Nat) (w : World) (hT : Tab w) (hca : la ≤ ca) (hcb : lb ≤ cb) (hcc : lc ≤ cc)
    (hx : xs.length = la) (hy : ys.length = lb) (hz : zs.length = lc) (hbx : Bytes xs) (hby : Bytes ys) (hbz : Bytes zs) (hax : At w ao xs) (hay : At w bo ys) (haz : At w co zs)
    (hnx : ao = none → la = 0 ∧ ca = 0) (hny : bo = none → lb = 0 ∧ cb = 0) (hnz : co = none → lc = 0 ∧ cc = 0) (hm : la ≤ 140737488351232) :
    Calls Tryd.prog 4 #[.slice ao la ca, .slice bo lb cb, .slice co lc cc] w fun e w' => e = .returned (.bool true) ∧ w.grownBy w' none := by
  obtain ⟨n, h1, h2, h3, h4⟩ : ∃ n, n ≤ la ∧ n ≤ lb ∧ n ≤ lc ∧ (n = la ∨ n = lb ∨ n = lc) := by
    by_cases p1 : la ≤ lb
    · by_cases p2 : la ≤ lc
      · exact ⟨la, by omega⟩
      · exact ⟨lc, by omega⟩
    · by_cases p2 : lb ≤ lc
      · exact ⟨lb, by omega⟩
      · exact ⟨lc, by omega⟩
  exact linear_any ao bo co la ca lb cb lc cc n (xs.take n) (ys.take n) (zs.take n) w hT h1 h2 h3 h4 hca hcb hcc (by simp; omega) (by simp; omega) (by simp; omega) (hbx.take n) (hby.take n) (hbz.take n)
    (hax.take n) (hay.take n) (haz.take n) (fun e => by have := hnx e; omega) (fun e => by have := hny e; omega) (fun e => by have := hnz e; omega) (by omega)
end Go.Proofs.YtfjpgmpffmpejabDoor
