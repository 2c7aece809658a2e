/- The walk of CrcSums. -/
import Derived.Test.YtfjpgmpffmpejaaDoorAwake
import Derived.Test.YtfjpgmpffmpejaaDoorLent
import Derived.Test.YtfjpgmpffmpejaaDoorRef
namespace Go.Proofs.YtfjpgmpffmpejaaDoor
open Go.RowKit
attribute [local go_sem ↓] Go.wp_at_zero Go.wp_at_succ

theorem Tryd.size5 : (Tryd.prog.info? 5).map (·.size) = some 1 := by kernel_rfl
/-- A row into whose beginning bytes were copied. -/
theorem at_splice {w : World} {g : Nat} {cur : List Value} {xs zs : List Nat} (h : w.heap[g]? = some (.cells (splice cur 0 (bv zs)).toArray 5 (0, 0)))
    (hold : ∀ (j u : Nat), xs[j]? = some u → cur[j]? = some (Value.int .u8 (u : Int))) : At w (some ⟨g, 0, none⟩) (zs ++ xs.drop zs.length) := by
  intro j u hu
  refine ⟨_, rfl, ?_⟩
  rw [Addr.add_lit, Nat.zero_add, cell_row h]
  simp only [splice, List.take_zero, List.nil_append, Nat.zero_add, bv_length]
  by_cases hj : j < zs.length
  · rw [List.getElem?_append_left hj] at hu
    rw [List.getElem?_append_left (by rw [bv_length]; exact hj)]
    exact bv_get _ _ _ hu
  · rw [List.getElem?_append_right (by omega), List.getElem?_drop] at hu
    rw [List.getElem?_append_right (by rw [bv_length]; omega), bv_length, List.getElem?_drop]
    exact hold _ _ hu

/-- copy(in, c), in a row of its own, c bytes that lie below. -/
theorem run_copy_at (w w6 : World) (g n cap : Nat) (co : Option Addr) (m d : Nat) (cur : List Value) (zs : List Nat) (hcur : w6.heap[g]? = some (.cells cur.toArray 5 (0, 0))) (hz : zs.length = Nat.min m n) (hzn : zs.length ≤ cur.length)
    (hat : At w6 co zs) (hG : w.grownBy w6 none) (hB : w.heap.size ≤ g) :
    ∃ W, (Builtin.copy_ #[23, 23] 3 #[.slice (some ⟨g, 0, none⟩) n cap, .slice co m d]).run Tryd.prog w6 = .ok (goInt zs.length) W ∧ W.heap[g]? = some (.cells (splice cur 0 (bv zs)).toArray 5 (0, 0)) ∧ w.grownBy W none := by
  by_cases h0 : zs.length = 0
  · have hzs : zs = [] := List.eq_nil_of_length_eq_zero h0
    subst hzs
    exact ⟨w6, run_copy_none w6 23 23 3 5 _ co n cap m d Tryd.underlying23 Tryd.size5 hz.symm, by simpa [splice, bv] using hcur, hG⟩
  · obtain ⟨a, rfl, _⟩ := hat 0 (zs[0]'(by omega)) (by simp)
    have hrun := run_copy_row (P := Tryd.prog) w6 23 23 3 5 g 0 n cap a m d cur.toArray 5 (bv zs) Tryd.underlying23 Tryd.size5 hcur (by rw [bv_length]; exact hz) ?_ (by rw [bv_length]; simpa using hzn) ?_
    · rw [bv_length] at hrun
      refine ⟨_, hrun, ?_, ?_⟩
      · have := setRow_heap w6 g cur.toArray (cur.take 0 ++ (bv zs ++ cur.drop (0 + zs.length))).toArray 5 (0, 0) hcur
        simpa [splice, bv_length] using this
      · exact below_grown (below_setRow (grown_below hG) hB _)
    · intro j v hv
      rw [bv, List.getElem?_map] at hv
      cases hj : zs[j]? with
      | none => simp [hj] at hv
      | some y =>
        simp [hj] at hv
        obtain ⟨a', ea', hc'⟩ := hat j y hj
        cases ea'
        rw [← hv]; exact hc'
    · intro v hv
      rw [bv, List.mem_map] at hv
      obtain ⟨y, _, rfl⟩ := hv
      rfl

set_option maxRecDepth 100000 in
set_option maxHeartbeats 1000000 in
theorem sums_any (s : Nat) (bo co : Option Addr) (n c m d : Nat) (xs ys : List Nat) (w : World) (hT : Tab w) (hs : s < 4294967296) (hn : xs.length = n) (hx : Bytes xs) (hb : At w bo xs) (hnb : bo = none → n = 0 ∧ c = 0)
    (hm : ys.length = m) (hy : Bytes ys) (hc : At w co ys) (hn1 : n ≤ 140737488351232) :
    Calls Tryd.prog 3 #[.int .u32 (s : Int), .slice bo n c, .slice co m d] w fun e w' => e = .returned (.bool true) ∧ w.grownBy w' none := by
  have HT := hide hT
  have HX := hide (And.intro hn (And.intro hx (And.intro hb hnb)))
  have HY := hide (And.intro hm (And.intro hy hc))
  -- the sums ahead of the copy
  have hS := fun (bo : Option Addr) (c : Nat) (w : World) (h : At w bo xs) (t : Tab w) => sum_any bo n c xs w hn hx h t (by omega)
  have hM := fun (bo : Option Addr) (c : Nat) (w : World) (h : At w bo xs) (t : Tab w) => more_any s bo n c xs w hs hn hx h t (by omega)
  have hS' := fun (bo : Option Addr) (c : Nat) (w : World) (h : At w bo xs) => rsum_any bo n c xs w hn hx h (by omega)
  have hM' := fun (bo : Option Addr) (c : Nat) (w : World) (h : At w bo xs) => rmore_any s bo n c xs w hs hn hx h (by omega)
  generalize Poly.more 0 xs = S at *
  generalize Poly.more s xs = M at *
  have H1 := hide (And.intro hS (And.intro hM (And.intro hS' hM')))
  clear hS hM hS' hM'
  -- the sums behind it
  obtain ⟨zs, hzs⟩ : ∃ zs, zs = ys.take (Nat.min m n) := ⟨_, rfl⟩
  have hzl : zs.length = Nat.min m n := by
    rw [hzs, List.length_take, hm]; have := Nat.min_le_left m n; simp only [Nat.min_def]; split <;> (try split) <;> omega
  have hzn : zs.length ≤ n := by rw [hzl]; exact Nat.min_le_right _ _
  have hzb : Bytes zs := by rw [hzs]; exact hy.take _
  obtain ⟨vs, hvs⟩ : ∃ vs, vs = zs ++ xs.drop zs.length := ⟨_, rfl⟩
  have hvl : vs.length = n := by rw [hvs, List.length_append, List.length_drop, hn]; omega
  have hvb : Bytes vs := by
    intro z hz
    rw [hvs] at hz
    rcases List.mem_append.1 hz with h | h
    · exact hzb z h
    · exact hx z (List.mem_of_mem_drop h)
  have hzat : ∀ w' : World, At w' co ys → At w' co zs := fun w' h => by rw [hzs]; exact h.take _
  have hS := fun (bo : Option Addr) (c : Nat) (w : World) (h : At w bo vs) (t : Tab w) => sum_any bo n c vs w hvl hvb h t (by omega)
  have hM := fun (bo : Option Addr) (c : Nat) (w : World) (h : At w bo vs) (t : Tab w) => more_any s bo n c vs w hs hvl hvb h t (by omega)
  have hS' := fun (bo : Option Addr) (c : Nat) (w : World) (h : At w bo vs) => rsum_any bo n c vs w hvl hvb h (by omega)
  have hM' := fun (bo : Option Addr) (c : Nat) (w : World) (h : At w bo vs) => rmore_any s bo n c vs w hs hvl hvb h (by omega)
  generalize Poly.more 0 vs = S2 at *
  generalize Poly.more s vs = M2 at *
  have H2 := hide (And.intro hS (And.intro hM (And.intro hS' hM')))
  have HV := hide (And.intro hvs (And.intro hzl (And.intro hzn hzat)))
  clear hS hM hS' hM' hvs hzl hzn hzat hvl hvb hzb hzs hn hx hb hnb hm hy hc hT
  go_enter Tryd.func3, Tryd.ntmps3
  go_wp2_with fail
  obtain ⟨hn, hx, hb, hnb⟩ := HX.out
  refine (lent_any bo n c xs w hn hb hnb (by omega)).mono ?_
  rintro e w1 ⟨v, rfl, hL, hg1⟩
  obtain ⟨g, cap, rfl, hc1, hc2, hB, hlt, hall, cur, hcur, hcs⟩ := hL.all
  have hatx := hL.at
  obtain ⟨g', cap', e', -, -, -, -, hatx, -⟩ := hatx
  cases e'
  rw [hn] at hc1 ⊢
  have HL := hide (And.intro hall (And.intro hatx (And.intro hcur (And.intro hcs hg1))))
  clear hn hx hb hnb hL hall hatx hcur hcs hg1
  go_wp2_with fail
  refine (H1.out.1 _ _ w1 HL.out.2.1 (HT.out.grown HL.out.2.2.2.2)).mono ?_
  rintro e w2 ⟨rfl, rfl⟩
  go_wp2_with fail
  refine (H1.out.2.2.1 _ _ w2 (HX.out.2.2.1.grown HL.out.2.2.2.2)).mono ?_
  rintro e w3 ⟨rfl, rfl⟩
  go_wp2_with fail
  refine (H1.out.2.1 _ _ w3 HL.out.2.1 (HT.out.grown HL.out.2.2.2.2)).mono ?_
  rintro e w4 ⟨rfl, rfl⟩
  go_wp2_with fail
  refine (H1.out.2.2.2 _ _ w4 (HX.out.2.2.1.grown HL.out.2.2.2.2)).mono ?_
  rintro e w5 ⟨rfl, rfl⟩
  go_wp2_with fail
  refine (kept_any g cap bo n c xs w5 HX.out.1 hc1 hc2 HL.out.1 (HX.out.2.2.1.grown HL.out.2.2.2.2) (by omega)).mono ?_
  rintro e w6 ⟨rfl, hg6⟩
  have HG := hide hg6
  clear hg6 H1
  obtain ⟨hall, hatx, hcur, hcs, hg1⟩ := HL.out
  have hcur6 : w6.heap[g]? = some (.cells cur.toList.toArray 5 (0, 0)) := by
    rw [HG.out.block g hlt (by simp)]; simpa using hcur
  have hold : ∀ (j u : Nat), xs[j]? = some u → cur.toList[j]? = some (Value.int .u8 (u : Int)) := by
    intro j u hu
    obtain ⟨a, ea, hca⟩ := hatx j u hu
    cases ea
    rw [Addr.add_lit, Nat.zero_add, cell_of_row _ g j cur 5 (0, 0) hcur] at hca
    simpa using hca
  have hG : w.grownBy w6 none := grown_trans hg1 HG.out
  obtain ⟨hvs, hzl, hzn, hzat⟩ := HV.out
  have hzy := hzat w6 (HY.out.2.2.grown hG)
  have hcl : cur.toList.length = cap := by simpa using hcs
  obtain ⟨w7, hrun, hrow, hg7⟩ := run_copy_at w w6 g n cap co m d cur.toList zs hcur6 hzl (by omega) hzy hG hB
  have hatv : At w7 (some ⟨g, 0, none⟩) vs := by rw [hvs]; exact at_splice hrow hold
  have H7 := hide (And.intro hatv hg7)
  clear hall hatx hcur hcs hg1 hcur6 hold hG hvs hzl hzn hzat hzy hcl HL HG HV hrow hatv hg7
  go_wp2_with fail
  refine (H2.out.1 _ _ w7 H7.out.1 (HT.out.grown H7.out.2)).mono ?_
  rintro e w8 ⟨rfl, rfl⟩
  go_wp2_with fail
  refine (H2.out.2.2.1 _ _ w8 H7.out.1).mono ?_
  rintro e w9 ⟨rfl, rfl⟩
  go_wp2_with fail
  refine (H2.out.2.1 _ _ w9 H7.out.1 (HT.out.grown H7.out.2)).mono ?_
  rintro e w10 ⟨rfl, rfl⟩
  go_wp2_with fail
  refine (H2.out.2.2.2 _ _ w10 H7.out.1).mono ?_
  rintro e w11 ⟨rfl, rfl⟩
  go_wp2_with fail
  refine (awake_any _ (HT.out.grown H7.out.2)).mono ?_
  rintro e w12 ⟨rfl, hg12⟩
  have G12 := hide (grown_trans H7.out.2 hg12)
  clear hg12
  go_wp2
  go_ret
  exact ⟨rfl, G12.out⟩
end Go.Proofs.YtfjpgmpffmpejaaDoor
