/- The walks of CrcNumbers and CrcAlong. -/
import Derived.Test.YtfjpgmpffmpejaaDoorAwake
namespace Go.Proofs.YtfjpgmpffmpejaaDoor
open Go.RowKit
attribute [local go_sem ↓] Go.wp_at_zero Go.wp_at_succ

theorem nu_nil (s : Nat) (_h : s < 4294967296) : Poly.more s [] = s := by
  rw [Poly.more, Poly.run_nil, Nat.xor_comm 4294967295 s, Poly.xor_cancel]
set_option maxRecDepth 100000 in
theorem nu_zero : Poly.more 0 [0] = 3523407757 := by decide
set_option maxRecDepth 100000 in
theorem nu_a : Poly.more 0 [97] = 3904355907 := by decide
theorem nu_join : joinN 5 3 (-9) = 6 := by decide

section
attribute [local go_sem] conv_const
set_option maxRecDepth 100000 in
set_option maxHeartbeats 1000000 in
theorem numbers_any (w : World) (hT : Tab w) : Calls Tryd.prog 6 #[] w fun e w' => e = .returned (.bool true) ∧ w.grownBy w' none := by
  have HT := hide hT
  clear hT
  go_enter Tryd.func6, Tryd.ntmps6
  go_wp2_with fail
  have hg1 := grown_alloc w (Obj.cells (bv [97, 98, 99, 100]).toArray 5 (4, 5))
  refine (patch_bad _ 4 4 1 0 _ (by decide) (by decide)).mono ?_
  rintro e w1 ⟨rfl, hw1⟩
  replace hg1 : w.grownBy w1 none := by rw [hw1]; exact hg1
  have H1 := hide hg1
  clear hg1 hw1
  go_wp2_with fail
  have hg2 := grown_alloc w1 (Obj.cells (bv [97, 98, 99]).toArray 5 (3, 4))
  refine (patch_bad _ 3 3 0 0 _ (by decide) (by decide)).mono ?_
  rintro e w2 ⟨rfl, hw2⟩
  replace hg2 : w1.grownBy w2 none := by rw [hw2]; exact hg2
  have H2 := hide (grown_trans H1.out hg2)
  clear hg2 hw2 H1
  go_wp2_with fail
  have h3 := sum_any none 0 0 [] w2 rfl (bytes_dec (by decide)) (At.nil _ _) (HT.out.grown H2.out) (by decide)
  rw [nu_nil 0 (by decide)] at h3
  refine h3.mono ?_
  clear h3
  rintro e w3 ⟨rfl, rfl⟩
  go_wp2_with fail
  have ha4 := at_const w3 [0] _ rfl 5 (0, 0)
  have hg4 := grown_alloc w3 (Obj.cells (bv [0]).toArray 5)
  refine (sum_any _ 1 1 [0] _ rfl (bytes_dec (by decide)) ha4 (HT.out.grown (grown_trans H2.out hg4)) (by decide)).mono ?_
  rintro e w4 ⟨rfl, hw4⟩
  rw [nu_zero]
  rw [← hw4] at hg4
  have H4 := hide (grown_trans H2.out hg4)
  clear hw4 hg4 ha4 H2
  go_wp2_with fail
  have ha5 := at_const w4 [97] _ rfl 5 (1, 2)
  have hg5 := grown_alloc w4 (Obj.cells (bv [97]).toArray 5 (1, 2))
  refine (sum_any _ 1 1 [97] _ rfl (bytes_dec (by decide)) ha5 (HT.out.grown (grown_trans H4.out hg5)) (by decide)).mono ?_
  rintro e w5 ⟨rfl, hw5⟩
  rw [nu_a]
  rw [← hw5] at hg5
  have H5 := hide (grown_trans H4.out hg5)
  clear hw5 hg5 ha5 H4
  go_wp2_with fail
  have h6 := more_any 891568578 none 0 0 [] w5 (by decide) rfl (bytes_dec (by decide)) (At.nil _ _) (HT.out.grown H5.out) (by decide)
  rw [nu_nil 891568578 (by decide)] at h6
  refine h6.mono ?_
  clear h6
  rintro e w6 ⟨rfl, rfl⟩
  go_wp2_with fail
  have hj := join_any 5 3 (-9) (by decide) (by decide) (by decide) w6
  rw [nu_join] at hj
  refine hj.mono ?_
  rintro e w7 ⟨rfl, rfl⟩
  clear hj
  go_wp2_with fail
  refine (awake_any _ (HT.out.grown H5.out)).mono ?_
  rintro e w8 ⟨rfl, hg8⟩
  have H8 := hide (grown_trans H5.out hg8)
  clear hg8
  go_wp2
  go_ret
  exact ⟨rfl, H8.out⟩
end

set_option maxHeartbeats 1000000 in
theorem along_any (ao bo : Option Addr) (n c m d : Nat) (xs ys : List Nat) (w : World) (hT : Tab w) (hn : xs.length = n) (hx : Bytes xs) (ha : At w ao xs) (hna : ao = none → n = 0 ∧ c = 0)
    (hm : ys.length = m) (hy : Bytes ys) (hb : At w bo ys) (hnb : bo = none → m = 0 ∧ d = 0) (hs : n + m ≤ 140737488355328) :
    Calls Tryd.prog 7 #[.slice ao n c, .slice bo m d] w fun e w' => e = .returned (.bool true) ∧ w.grownBy w' none := by
  have HX := hide (And.intro hn (And.intro hx (And.intro ha hna)))
  have HY := hide (And.intro hm (And.intro hy (And.intro hb hnb)))
  have HT := hide hT
  have hxy : Bytes (xs ++ ys) := fun z hz => by
    rcases List.mem_append.1 hz with h | h
    · exact hx z h
    · exact hy z h
  have HB := hide hxy
  have hl1 := Poly.more_lt xs (s := 0) (by decide) hx
  have hl2 := Poly.more_lt ys (s := 0) (by decide) hy
  have h1 := Poly.more_along xs ys
  have h2 : joinN (Poly.more 0 xs) (Poly.more 0 ys) (m : Int) = Poly.more 0 (xs ++ ys) := by
    rw [← Poly.join_along xs ys, hm]; rfl
  have hS1 : ∀ (bo : Option Addr) (c : Nat) (w : World), At w bo xs → Tab w → Calls Tryd.prog 10 #[.slice bo n c] w fun e w' => e = .returned (.int .u32 ((Poly.more 0 xs : Nat) : Int)) ∧ w' = w := fun bo c w h t => sum_any bo n c xs w hn hx h t (by omega)
  have hS2 : ∀ (bo : Option Addr) (c : Nat) (w : World), At w bo ys → Tab w → Calls Tryd.prog 10 #[.slice bo m c] w fun e w' => e = .returned (.int .u32 ((Poly.more 0 ys : Nat) : Int)) ∧ w' = w := fun bo c w h t => sum_any bo m c ys w hm hy h t (by omega)
  have hS : ∀ (bo : Option Addr) (c : Nat) (w : World), At w bo (xs ++ ys) → Tab w → Calls Tryd.prog 10 #[.slice bo (n + m : Nat) c] w fun e w' => e = .returned (.int .u32 ((Poly.more 0 (xs ++ ys) : Nat) : Int)) ∧ w' = w := fun bo c w h t => sum_any bo (n + m) c (xs ++ ys) w (by simp [hn, hm]) hxy h t (by omega)
  have hM : ∀ (bo : Option Addr) (c : Nat) (w : World), At w bo ys → Tab w → Calls Tryd.prog 12 #[.int .u32 ((Poly.more 0 xs : Nat) : Int), .slice bo m c] w fun e w' => e = .returned (.int .u32 ((Poly.more 0 (xs ++ ys) : Nat) : Int)) ∧ w' = w := fun bo c w h t => by
    rw [← h1]; exact more_any _ bo m c ys w hl1 hm hy h t (by omega)
  have hJ := fun w => join_any (Poly.more 0 xs) (Poly.more 0 ys) (m : Int) hl1 hl2 (by omega) w
  rw [h2] at hJ
  generalize Poly.more 0 (xs ++ ys) = S at *
  generalize Poly.more 0 xs = S1 at *
  generalize Poly.more 0 ys = S2 at *
  have HS := hide (And.intro hS1 (And.intro hS2 (And.intro hS (And.intro hM hJ))))
  clear h1 h2 hS1 hS2 hS hM hJ
  clear hn hx ha hna hm hy hb hnb hT hxy HB
  go_enter Tryd.func7, Tryd.ntmps7
  go_wp2_with fail
  refine (awake_any _ HT.out).mono ?_
  rintro e w1 ⟨rfl, hg1⟩
  have G1 := hide hg1
  clear hg1
  go_wp2_with fail
  obtain ⟨hn, hx, ha, hna⟩ := HX.out
  refine (copy_any ao n c xs w1 hn (ha.grown G1.out) hna (by omega)).mono ?_
  rintro e w2 ⟨v, rfl, hown, hg2⟩
  obtain ⟨ao2, cap2, rfl, hr⟩ := own_at hown
  have H3 := hide (And.intro hown (And.intro (grown_trans G1.out hg2) hg2))
  clear hn hx ha hna hown hg2 hr
  obtain ⟨hm, hy, hb, hnb⟩ := HY.out
  go_wp2_with (at_builtin; refine wpList_append_at rfl (.tmp 10) (.tmp 11) rfl w1.heap.size (.slice ao2 n cap2) n xs rfl H3.out.1 bo m d ys rfl hm (hb.grown H3.out.2.1) hnb hs H3.out.2.2.size ?_)
  clear hm hy hb hnb
  intro v3 w3 hown3 hg3
  have hg3' : w.grownBy w3 none := grown_then H3.out.2.1 hg3 (fun k e => Or.inl (Nat.le_trans G1.out.size (H3.out.1.lt k e).1))
  obtain ⟨ao3, cap3, rfl, _, _, _, hat3, _⟩ := own_at hown3
  have H4 := hide (And.intro hat3 hg3')
  clear hown3 hg3 hg3' hat3 H3 G1
  go_wp2_with fail
  refine (HS.out.2.2.1 ao3 cap3 w3 H4.out.1 (HT.out.grown H4.out.2)).mono ?_
  rintro e w4 ⟨rfl, rfl⟩
  have G4 := hide H4.out.2
  clear H4
  go_wp2_with fail
  obtain ⟨hn, hx, ha, hna⟩ := HX.out
  refine (copy_any ao n c xs w4 hn (ha.grown G4.out) hna (by omega)).mono ?_
  rintro e w5 ⟨v, rfl, hown, hg5⟩
  obtain ⟨ao5, cap5, rfl, _, _, _, hat5, _⟩ := own_at hown
  have H5 := hide (And.intro hat5 (grown_trans G4.out hg5))
  clear hn hx ha hna hown hg5 hat5 G4
  go_wp2_with fail
  refine (HS.out.1 ao5 cap5 w5 H5.out.1 (HT.out.grown H5.out.2)).mono ?_
  rintro e w6 ⟨rfl, rfl⟩
  have G6 := hide H5.out.2
  clear H5
  go_wp2_with fail
  obtain ⟨hm, hy, hb, hnb⟩ := HY.out
  refine (copy_any bo m d ys w6 hm (hb.grown G6.out) hnb (by omega)).mono ?_
  rintro e w7 ⟨v, rfl, hown, hg7⟩
  obtain ⟨ao7, cap7, rfl, _, _, _, hat7, _⟩ := own_at hown
  have H7 := hide (And.intro hat7 (grown_trans G6.out hg7))
  clear hm hy hb hnb hown hg7 hat7 G6
  go_wp2_with fail
  refine (HS.out.2.2.2.1 ao7 cap7 w7 H7.out.1 (HT.out.grown H7.out.2)).mono ?_
  rintro e w8 ⟨rfl, rfl⟩
  have G8 := hide H7.out.2
  clear H7
  go_wp2_with fail
  obtain ⟨hn, hx, ha, hna⟩ := HX.out
  refine (copy_any ao n c xs w8 hn (ha.grown G8.out) hna (by omega)).mono ?_
  rintro e w9 ⟨v, rfl, hown, hg9⟩
  obtain ⟨ao9, cap9, rfl, _, _, _, hat9, _⟩ := own_at hown
  have H9 := hide (And.intro hat9 (grown_trans G8.out hg9))
  clear hn hx ha hna hown hg9 hat9 G8
  go_wp2_with fail
  refine (HS.out.1 ao9 cap9 w9 H9.out.1 (HT.out.grown H9.out.2)).mono ?_
  rintro e w10 ⟨rfl, rfl⟩
  have G10 := hide H9.out.2
  clear H9
  go_wp2_with fail
  obtain ⟨hm, hy, hb, hnb⟩ := HY.out
  refine (copy_any bo m d ys w10 hm (hb.grown G10.out) hnb (by omega)).mono ?_
  rintro e w11 ⟨v, rfl, hown, hg11⟩
  obtain ⟨ao11, cap11, rfl, _, _, _, hat11, _⟩ := own_at hown
  have H11 := hide (And.intro hat11 (grown_trans G10.out hg11))
  clear hm hy hb hnb hown hg11 hat11 G10
  go_wp2_with fail
  refine (HS.out.2.1 ao11 cap11 w11 H11.out.1 (HT.out.grown H11.out.2)).mono ?_
  rintro e w12 ⟨rfl, rfl⟩
  have G12 := hide H11.out.2
  clear H11
  go_wp2_with fail
  refine (HS.out.2.2.2.2 w12).mono ?_
  rintro e w13 ⟨rfl, rfl⟩
  go_wp2
  go_ret
  exact ⟨rfl, G12.out⟩
end Go.Proofs.YtfjpgmpffmpejaaDoor
