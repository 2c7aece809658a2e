/- The walk of CrcMends. -/
import Derived.Test.YtfjpgmpffmpejabDoorLinear
namespace Go.Proofs.YtfjpgmpffmpejabDoor
open Go.RowKit

theorem pch_other (l : List Nat) (at' t i j : Nat) (h : j < at' ∨ at' + i ≤ j) : (pch l at' t i)[j]? = l[j]? := by
  induction i with
  | zero => rfl
  | succ i ih =>
    rw [pch, List.getElem?_set_ne (by omega)]
    exact ih (by omega)
theorem patchL_take (l : List Nat) (at' want : Nat) : (patchL l at' want).take at' = l.take at' := by
  apply List.ext_getElem?
  intro j
  rw [List.getElem?_take, List.getElem?_take]
  split
  · exact pch_other _ _ _ _ _ (Or.inl (by omega))
  · rfl
theorem patchL_drop (l : List Nat) (at' want : Nat) : (patchL l at' want).drop (at' + 4) = l.drop (at' + 4) := by
  apply List.ext_getElem?
  intro j
  rw [List.getElem?_drop, List.getElem?_drop]
  exact pch_other _ _ _ _ _ (Or.inr (by omega))
theorem patchL_sum {l : List Nat} {at' want : Nat} (hl : Bytes l) (h : at' + 4 ≤ l.length) (hw : want < 4294967296) : Poly.more 0 (patchL l at' want) = want :=
  Poly.more_mended l _ at' want hl hw (patchL_length ..) (by omega) (patchL_LE hl h hw)
theorem patchL_back {l : List Nat} {at' want : Nat} (hl : Bytes l) (h : at' + 4 ≤ l.length) (hw : want < 4294967296) : patchL (patchL l at' want) at' (Poly.more 0 l) = l := by
  have hb := patchL_bytes (want := want) hl h
  have hlen := patchL_length l at' want
  have hS := Poly.more_lt l (s := 0) (by decide) hl
  apply Poly.LE_inj (patchL_bytes hb (by omega)) hl (by rw [patchL_length, hlen])
  rw [patchL_LE hb (by omega) hS, patchL_LE hl h hw, Poly.turnOf_back l _ at' want hlen (patchL_sum hl h hw), Poly.xor_cancel]

/-- Where 'x[m:]' begins. -/
def cutA (ao : Option Addr) (n cap : Nat) : Option Addr := if cap = n then ao else ao.map (fun x => x.add n)
theorem At.cut {w : World} {ao : Option Addr} {xs : List Nat} (h : At w ao xs) (n cap : Nat) (hc : xs.length ≤ cap) : At w (cutA ao n cap) (xs.drop n) := by
  intro j u hu
  rw [List.getElem?_drop] at hu
  obtain ⟨a, ha, hcell⟩ := h _ _ hu
  unfold cutA
  split
  · rename_i e
    have := (List.getElem?_eq_some_iff.1 hu).1
    omega
  · refine ⟨a.add n, by simp [ha], ?_⟩
    rw [Addr.add_add]; exact hcell

theorem slice_from (ao : Option Addr) (len cap n : Nat) (h : n ≤ len) (w : World) : (Instr.slice 22 (.slice ao len cap) (some (.int .i64 (n : Int))) none none).run Tryd.prog w = .ok (.slice (cutA ao n cap) (len - n) (cap - n)) w := by
  simp [Instr.slice, run_underlying Tryd.underlying22, Instr.sliceBounds, Instr.sliceBound, asIntOf, h, cutA]

attribute [local go_sem ↓] Go.wp_at_zero Go.wp_at_succ

set_option maxRecDepth 100000 in
set_option maxHeartbeats 1000000 in
theorem mends_bad (ao : Option Addr) (n c : Nat) (p : Int) (want : Nat) (xs : List Nat) (w : World) (hT : Tab w) (hn : xs.length = n) (ha : At w ao xs) (hna : ao = none → n = 0 ∧ c = 0) (hs : n ≤ 140737488351232) (hp : p < 0 ∨ (n : Int) - 4 < p) :
    Calls Tryd.prog 3 #[.slice ao n c, .int .i64 p, .int .u32 (want : Int)] w fun e w' => e = .returned (.bool true) ∧ w.grownBy w' none := by
  have HX := hide (And.intro hn (And.intro ha hna))
  have HT := hide hT
  have HP := hide hp
  have hw : IntKind.i64.wrap ((n : Int) - 4) = (n : Int) - 4 := by rw [IntKind.wrap_i64]; omega
  clear hn ha hna hT
  by_cases h0 : p < 0
  · clear hp
    go_enter Tryd.func3, Tryd.ntmps3
    go_wp2_with fail
    refine (awake_any _ HT.out).mono ?_
    rintro e w1 ⟨rfl, hg1⟩
    have G1 := hide hg1
    clear hg1
    go_wp2_with fail
    refine (copy_any ao n c xs _ HX.out.1 (HX.out.2.1.grown G1.out) HX.out.2.2 (by omega)).mono ?_
    rintro e w2 ⟨v, rfl, hown, hg2⟩
    obtain ⟨a2, c2, rfl, -, -, -, -, -⟩ := own_at hown
    have G2 := hide (grown_trans G1.out hg2)
    clear hown hg2
    go_wp2_with fail
    refine (patch_bad a2 n c2 p (want : Int) _ HP.out (by omega)).mono ?_
    rintro e w3 ⟨rfl, rfl⟩
    go_wp2
    go_ret
    exact ⟨rfl, G2.out⟩
  · have h1 : (n : Int) - 4 < p := by omega
    clear hp
    go_enter Tryd.func3, Tryd.ntmps3
    go_wp2_with fail
    refine (awake_any _ HT.out).mono ?_
    rintro e w1 ⟨rfl, hg1⟩
    have G1 := hide hg1
    clear hg1
    go_wp2_with fail
    refine (copy_any ao n c xs _ HX.out.1 (HX.out.2.1.grown G1.out) HX.out.2.2 (by omega)).mono ?_
    rintro e w2 ⟨v, rfl, hown, hg2⟩
    obtain ⟨a2, c2, rfl, -, -, -, -, -⟩ := own_at hown
    have G2 := hide (grown_trans G1.out hg2)
    clear hown hg2
    go_wp2_with fail
    refine (patch_bad a2 n c2 p (want : Int) _ HP.out (by omega)).mono ?_
    rintro e w3 ⟨rfl, rfl⟩
    go_wp2
    go_ret
    exact ⟨rfl, G2.out⟩

set_option maxRecDepth 100000 in
set_option maxHeartbeats 1000000 in
theorem mends_any (ao : Option Addr) (n c at' want : Nat) (xs : List Nat) (w : World) (hT : Tab w) (hn : xs.length = n) (hx : Bytes xs) (ha : At w ao xs) (hna : ao = none → n = 0 ∧ c = 0) (hnc : n ≤ c) (hs : n ≤ 140737488351232) (hat : at' + 4 ≤ n) (hwant : want < 4294967296) :
    Calls Tryd.prog 3 #[.slice ao n c, .int .i64 (at' : Int), .int .u32 (want : Int)] w fun e w' => e = .returned (.bool true) ∧ w.grownBy w' none := by
  have HX := hide (And.intro hn (And.intro hx (And.intro ha hna)))
  have HT := hide hT
  have hw : IntKind.i64.wrap ((n : Int) - 4) = (n : Int) - 4 := by rw [IntKind.wrap_i64]; omega
  have h4 : at' + 4 ≤ xs.length := by omega
  have hsum := patchL_sum (want := want) hx h4 hwant
  have hback := patchL_back (want := want) hx h4 hwant
  have htk := patchL_take xs at' want
  have hdr := patchL_drop xs at' want
  have hbR := patchL_bytes (want := want) hx h4
  have hlR : (patchL xs at' want).length = n := by rw [patchL_length, hn]
  have hS := Poly.more_lt xs (s := 0) (by decide) hx
  have hSum := fun (bo : Option Addr) (c : Nat) (w : World) (h : At w bo xs) (t : Tab w) => sum_any bo n c xs w hn hx h t (by omega)
  have hPat := fun (bo : Option Addr) (c : Nat) (w : World) (h : At w bo xs) (hnil : bo = none → n = 0 ∧ c = 0) (t : Tab w) => patch_any bo n c at' want xs w hn hx h hnil t (by omega) hat hwant
  obtain ⟨R, hR⟩ : ∃ R, R = patchL xs at' want := ⟨_, rfl⟩
  rw [← hR] at hsum hback htk hdr hbR hlR hPat
  have hSumR := fun (bo : Option Addr) (c : Nat) (w : World) (h : At w bo R) (t : Tab w) => sum_any bo n c R w hlR hbR h t (by omega)
  rw [hsum] at hSumR
  have hPatR := fun (bo : Option Addr) (c : Nat) (w : World) (h : At w bo R) (hnil : bo = none → n = 0 ∧ c = 0) (t : Tab w) => patch_any bo n c at' (Poly.more 0 xs) R w hlR hbR h hnil t (by omega) hat hS
  rw [hback] at hPatR
  generalize Poly.more 0 xs = S at *
  have HS := hide (And.intro hSum (And.intro hPat (And.intro hSumR hPatR)))
  have HR := hide (And.intro htk (And.intro hdr hlR))
  clear hSum hPat hSumR hPatR hsum hback htk hdr hbR hR h4 hn hx ha hna hT hlR
  have i1 : ¬ (n : Int) - 4 < (at' : Int) := by omega
  go_enter Tryd.func3, Tryd.ntmps3
  go_wp2_with fail
  refine (awake_any _ HT.out).mono ?_
  rintro e w1 ⟨rfl, hg1⟩
  have G1 := hide hg1
  clear hg1
  go_wp2_with fail
  refine (copy_any ao n c xs _ HX.out.1 (HX.out.2.2.1.grown G1.out) HX.out.2.2.2 (by omega)).mono ?_
  rintro e w2 ⟨v, rfl, hown, hg2⟩
  obtain ⟨a2, c2, rfl, -, -, -, hat2, hnil2, -⟩ := own_at hown
  have G2 := hide (And.intro (grown_trans G1.out hg2) (And.intro hat2 hnil2))
  clear hown hg2 hat2 hnil2
  go_wp2_with fail
  refine (HS.out.2.1 a2 c2 w2 G2.out.2.1 G2.out.2.2 (HT.out.grown G2.out.1)).mono ?_
  rintro e w3 ⟨v, rfl, hown, hg3⟩
  obtain ⟨a3, c3, rfl, -, hc3, hm3, hat3, hnil3, -⟩ := own_at hown
  have G3 := hide (And.intro (grown_trans G2.out.1 hg3) (And.intro hat3 hnil3))
  unfold maxLen at hm3
  clear hown hg3 hat3 hnil3 G2 G1
  go_wp2_with fail
  refine (HS.out.2.2.1 a3 c3 w3 G3.out.2.1 (HT.out.grown G3.out.1)).mono ?_
  rintro e w4 ⟨rfl, rfl⟩
  have hw4 : IntKind.i64.wrap ((at' : Int) + 4) = (at' : Int) + 4 := by rw [IntKind.wrap_i64]; omega
  have s1 := slice_to a3 n c3 at' (by omega)
  have s2 := slice_to ao n c at' (by omega)
  have s3 : ∀ w, (Instr.slice 22 (.slice a3 n c3) (some (.int .i64 ((at' : Int) + 4))) none none).run Tryd.prog w = .ok (.slice (cutA a3 (at' + 4) c3) (n - (at' + 4)) (c3 - (at' + 4))) w := slice_from a3 n c3 (at' + 4) hat
  have s4 : ∀ w, (Instr.slice 22 (.slice ao n c) (some (.int .i64 ((at' : Int) + 4))) none none).run Tryd.prog w = .ok (.slice (cutA ao (at' + 4) c) (n - (at' + 4)) (c - (at' + 4))) w := slice_from ao n c (at' + 4) hat
  have HQ : Hid (At w4.drew a3 (xs.take at') ∧ At w4.drew ao (xs.take at') ∧ At w4.drew (cutA a3 (at' + 4) c3) (xs.drop (at' + 4)) ∧ At w4.drew (cutA ao (at' + 4) c) (xs.drop (at' + 4))) := by
    obtain ⟨htk, hdr, hlR⟩ := HR.out
    have hax := HX.out.2.2.1.grown (grown_trans G3.out.1 (grown_drew w4 none))
    have hnx := HX.out.1
    have har : At w4.drew a3 R := G3.out.2.1.grown (grown_drew _ _)
    refine ⟨?_, hax.take _, ?_, hax.cut _ _ (by omega)⟩
    · rw [← htk]; exact har.take _
    · rw [← hdr]; exact har.cut _ _ (by omega)
  go_wp2_with fail
  go_region_held3 (fun w' => True) (trivial) ((first
    | (go_at_call_of 9 (Value.slice a3 at' c3); refine (sameBytes_eq a3 ao at' _ _ (xs.take at') _ (by rw [List.length_take, HX.out.1]; omega) HQ.out.1 HQ.out.2.1 (by omega)).mono ?_; rintro e w5 ⟨rfl, hg5⟩; have G5 := hide hg5; clear hg5)
    | (go_at_call 9; refine (sameBytes_eq _ _ (n - (at' + 4)) _ _ (xs.drop (at' + 4)) _ (by rw [List.length_drop, HX.out.1]) (HQ.out.2.2.1.grown G5.out) (HQ.out.2.2.2.grown G5.out) (by omega)).mono ?_; rintro e w6 ⟨rfl, hg6⟩; have G6 := hide (grown_trans G5.out hg6); clear hg6)))
  have hG6 : w.grownBy w6 none := grown_trans G3.out.1 (grown_trans (grown_drew _ none) G6.out)
  have K6 := hide (And.intro hG6 (G3.out.2.1.grown (grown_trans (grown_drew _ none) G6.out)))
  clear hG6 G6 G5 HQ s1 s2 s3 s4 hw4
  go_wp2_with fail
  refine (copy_any a3 n c3 R _ HR.out.2.2 K6.out.2 G3.out.2.2 (by omega)).mono ?_
  rintro e w7 ⟨v, rfl, hown, hg7⟩
  obtain ⟨a7, c7, rfl, -, -, -, hat7, hnil7, -⟩ := own_at hown
  have K7 := hide (And.intro (grown_trans K6.out.1 hg7) (And.intro hat7 hnil7))
  clear hown hg7 hat7 hnil7 K6 G3 HR
  go_wp2_with fail
  refine (copy_any ao n c xs _ HX.out.1 (HX.out.2.2.1.grown K7.out.1) HX.out.2.2.2 (by omega)).mono ?_
  rintro e w8 ⟨v, rfl, hown, hg8⟩
  obtain ⟨a8, c8, rfl, -, -, -, hat8, -, -⟩ := own_at hown
  have K8 := hide (And.intro (grown_trans K7.out.1 hg8) (And.intro hat8 (And.intro (K7.out.2.1.grown hg8) K7.out.2.2)))
  clear hown hg8 hat8 K7
  go_wp2_with fail
  refine (HS.out.1 a8 c8 w8 K8.out.2.1 (HT.out.grown K8.out.1)).mono ?_
  rintro e w9 ⟨rfl, rfl⟩
  go_wp2_with fail
  refine (HS.out.2.2.2 a7 c7 w9 K8.out.2.2.1 K8.out.2.2.2 (HT.out.grown K8.out.1)).mono ?_
  rintro e w10 ⟨v, rfl, hown, hg10⟩
  obtain ⟨a10, c10, rfl, -, -, -, hat10, -, -⟩ := own_at hown
  have K10 := hide (And.intro (grown_trans K8.out.1 hg10) hat10)
  clear hown hg10 hat10 K8
  go_wp2_with fail
  refine (sameBytes_eq a10 ao n c10 c xs _ HX.out.1 K10.out.2 (HX.out.2.2.1.grown K10.out.1) (by omega)).mono ?_
  rintro e w11 ⟨rfl, hg11⟩
  have K11 := hide (grown_trans K10.out.1 hg11)
  clear hg11
  go_wp2
  go_ret
  exact ⟨rfl, K11.out⟩

/-- At every place. -/
theorem mends_all (ao : Option Addr) (n c : Nat) (p : Int) (want : Nat) (xs : List Nat) (w : World) (hT : Tab w) (hn : xs.length = n) (hx : Bytes xs) (ha : At w ao xs) (hna : ao = none → n = 0 ∧ c = 0) (hnc : n ≤ c) (hs : n ≤ 140737488351232) (hwant : want < 4294967296) :
    Calls Tryd.prog 3 #[.slice ao n c, .int .i64 p, .int .u32 (want : Int)] w fun e w' => e = .returned (.bool true) ∧ w.grownBy w' none := by
  by_cases h : p < 0 ∨ (n : Int) - 4 < p
  · exact mends_bad ao n c p want xs w hT hn ha hna hs h
  · obtain ⟨at', rfl⟩ : ∃ at' : Nat, p = (at' : Int) := ⟨p.toNat, by omega⟩
    exact mends_any ao n c at' want xs w hT hn hx ha hna hnc hs (by omega) hwant
end Go.Proofs.YtfjpgmpffmpejabDoor
