/- Records that are lent: marks, LentRecords, cut. -/
import Derived.Test.YtinkkocleognbaaGreatDoorO4
namespace Go.Proofs.YtinkkocleognbaaGreatDoor
open Go.RowKit Go.Shelf
attribute [local go_sem ↓] Go.wp_at_zero Go.wp_at_succ
attribute [local go_sem] Oper.semAt_some
def mkI (k i : Int) : Int := 1000003 * (k + 7) + i
/-- The mark of a place among records. -/
def mkR (k : Int) (i : Nat) : Rc := ⟨0, 0, 0, mkI k i, 0⟩
theorem mk81_any (k i : Int) (w : World) (hk0 : 0 ≤ k) (hk : k ≤ 1000) (hi0 : 0 ≤ i) (hi : i ≤ 100000000) : Calls Tryz.prog 81 #[.int .i64 k, .int .i64 i] w fun e w' => e = .returned (.int .i64 (mkI k i)) ∧ w' = w := by
  have W1 : IntKind.i64.wrap (k + 7) = k + 7 := by rw [IntKind.wrap_i64]; omega
  have W2 : IntKind.i64.wrap (1000003 * (k + 7)) = 1000003 * (k + 7) := by rw [IntKind.wrap_i64]; omega
  have W3 : IntKind.i64.wrap (1000003 * (k + 7) + i) = mkI k i := by rw [IntKind.wrap_i64]; unfold mkI; omega
  clear hk0 hk hi0 hi
  go_enter Tryz.func81, Tryz.ntmps81
  go_wp2
  go_ret
  exact ⟨rfl, rfl⟩
theorem results_cell1 {fn : Func} {p : Tmp} {ty : TypeId} (h : fn.results = #[.cell p ty]) (tmps : Array Value) (P : Program) (w : World) :
    (results fn tmps).run P w = ((asAddr (tmps.getD p undef)).run P w).andThen fun a w₁ => (loadVar ty a).run P w₁ := by
  simp only [results, h]
  simp [Sem.run_bind, Result.andThen]
theorem mk45_any (k : Int) (j : Nat) (i : Int) (hij : i = (j : Int)) (w : World) (hk0 : 0 ≤ k) (hk : k ≤ 1000) (hi : j ≤ 100000000) : Calls Tryz.prog 45 #[.int .i64 k, .int .i64 i] w fun e w' => e = .returned (.agg #[.int .i64 0, .int .u32 0, .int .i64 0, .int .i64 (mkI k j), .int .i64 0]) ∧ w.grownBy w' none := by
  subst hij
  have q := mk81_any k (j : Int) (w.alloc (.cells #[.int .i64 0, .int .u32 0, .int .i64 0, .int .i64 0, .int .i64 0] 47)) hk0 hk (by omega) (by omega)
  have HG := hide (grown_alloc w (.cells #[.int .i64 0, .int .u32 0, .int .i64 0, .int .i64 (mkI k j), .int .i64 0] 47))
  have b := heap_alloc_new w (.cells [Value.int .i64 0, .int .u32 0, .int .i64 0, .int .i64 (mkI k j), .int .i64 0].toArray 47)
  have e0 := cell_row b 0
  have e1 := cell_row b 1
  have e2 := cell_row b 2
  have e3 := cell_row b 3
  have e4 := cell_row b 4
  clear hk0 hk hi b
  generalize mkI k j = M at *
  go_enter Tryz.func45, Tryz.ntmps45
  go_wp2_with fail
  refine q.mono ?_
  clear q
  rintro e wx ⟨rfl, hw⟩
  obtain rfl := hw.symm
  clear hw
  go_wp2
  generalize w.alloc (.cells #[.int .i64 0, .int .u32 0, .int .i64 0, .int .i64 M, .int .i64 0] 47) = w9 at *
  refine bodyPost_ret (v := .agg #[.int .i64 0, .int .u32 0, .int .i64 0, .int .i64 M, .int .i64 0]) ?_ rfl ?_
  · rw [results_cell1 rfl]; go_simp
  exact ⟨rfl, HG.out⟩
theorem slice_toR (ao : Option Addr) (len cap n : Nat) (h : n ≤ cap) (w : World) : (Instr.slice 48 (.slice ao len cap) none (some (.int .i64 (n : Int))) none).run Tryz.prog w = .ok (.slice ao n cap) w := by
  simp [Instr.slice, run_underlying Tryz.underlying48, Instr.sliceBounds, Instr.sliceBound, asIntOf, h]
  intro _; cases ao <;> simp [Addr.add]
/-- The first records of many. -/
theorem cut_any (ao : Option Addr) (n cap : Nat) (hc : n ≤ cap) (w : World) : Calls Tryz.prog 14 #[.slice ao n cap] w fun e w' => e = .returned (.slice ao (min n 120) cap) ∧ w' = w := by
  by_cases h : 120 < n
  · have hs := slice_toR ao n cap 120 (by omega)
    have hs : ∀ w, (Instr.slice 48 (.slice ao n cap) none (some (.int .i64 120)) none).run Tryz.prog w = .ok (.slice ao 120 cap) w := hs
    have h1 : (120 : Int) < (n : Int) := by omega
    rw [Nat.min_eq_right (by omega)]
    clear h hc
    go_enter Tryz.func14, Tryz.ntmps14
    go_wp2
    go_ret
    exact ⟨rfl, rfl⟩
  · have h1 : (n : Int) ≤ 120 := by omega
    rw [Nat.min_eq_left (by omega)]
    clear h hc
    go_enter Tryz.func14, Tryz.ntmps14
    go_wp2
    go_ret
    exact ⟨rfl, rfl⟩
def mks (k : Int) (j : Nat) : List Rc := (List.range j).map fun i => mkR k i
theorem mks_length (k : Int) (j : Nat) : (mks k j).length = j := by simp [mks]
theorem mks_succ (k : Int) (j : Nat) : mks k (j + 1) = mks k j ++ [mkR k j] := by simp [mks, List.range_succ]
theorem mks_get (k : Int) (j i : Nat) (h : i < j) : (mks k j)[i]? = some (mkR k i) := by simp [mks, h]
theorem make_capR (n : Nat) (h : n ≤ 65536) (w : World) : (Instr.makeSlice 48 (.int .i64 0) (.int .i64 ((n : Int) + 12))).run Tryz.prog w = .ok (.slice (some ⟨w.heap.size, 0, none⟩) 0 (n + 12)) (w.alloc (.cells (madeCells #[.int .i64 0, .int .u32 0, .int .i64 0, .int .i64 0, .int .i64 0] ((n + 12) * 5)) 47)) := by
  obtain ⟨i0, hi, hz0, hz1, hz2⟩ := info_parts info47
  rw [run_make (P := Tryz.prog) (w := w) 48 47 i0 _ Tryz.underlying48 hi hz0 .i64 .i64 0 ((n : Int) + 12) (by omega) (by omega) (by rw [hz2]; omega) (by omega), hz1]
  have e : ((n : Int) + 12).toNat = n + 12 := by omega
  rw [e]
  rfl
/-- Records that were lent: they, and twelve marks behind their end. -/
structure LentR (w : World) (B g cap : Nat) (rs : List Rc) : Prop where
  own : w.ownsRow B 47 5 (.slice (some ⟨g, 0, none⟩) (rs.length + 12) cap) (rs.length + 12) (rcs (rs ++ mks 1 12))
set_option maxRecDepth 20000 in
set_option maxHeartbeats 4000000 in
theorem lentR_any (ao : Option Addr) (n cap : Nat) (rs : List Rc) (w : World) (hn : rs.length = n) (hat : RecsAt w ao rs) (hnil : ao = none → n = 0 ∧ cap = 0) (hb : n ≤ 10000) :
    Calls Tryz.prog 15 #[.slice ao n cap] w fun e w' => ∃ g c, e = .returned (.slice (some ⟨g, 0, none⟩) n c) ∧ LentR w' w.heap.size g c rs ∧ w.grownBy w' none := by
  have Hn := hide hn
  have hmk := make_capR n (by omega)
  have W1 : IntKind.i64.wrap ((n : Int) + 12) = (n : Int) + 12 := by rw [IntKind.wrap_i64]; omega
  obtain ⟨i0, hi0, hz0, hz1, hz2⟩ := info_parts info47
  have HI0 := hide (And.intro hi0 (And.intro hz0 (And.intro hz1 hz2)))
  have g1 := grown_alloc w (.cells (madeCells #[.int .i64 0, .int .u32 0, .int .i64 0, .int .i64 0, .int .i64 0] ((n + 12) * 5)) 47)
  have hr0 : (w.alloc (.cells (madeCells #[.int .i64 0, .int .u32 0, .int .i64 0, .int .i64 0, .int .i64 0] ((n + 12) * 5)) 47)).ownsRow w.heap.size 47 5 (.slice (some ⟨w.heap.size, 0, none⟩) 0 (n + 12)) 0 [] := ⟨rfl, Or.inr ⟨w.heap.size, n + 12, _, rfl, Nat.le_refl _, heap_alloc_new w _, Nat.zero_le _, by unfold maxLen; omega, by simp [madeCells], by simp⟩⟩
  have H0 := hide (And.intro g1 (And.intro hr0 (hat.grown g1)))
  have HB := hide hb
  clear hn hi0 hz0 hz1 hz2 g1 hr0 hat
  go_enter Tryz.func15, Tryz.ntmps15
  cases ao with
  | none =>
    obtain ⟨rfl, rfl⟩ := hnil rfl
    have hrs : rs = [] := List.eq_nil_of_length_eq_zero Hn.out
    have HO : Hid ((w.alloc (.cells (madeCells #[.int .i64 0, .int .u32 0, .int .i64 0, .int .i64 0, .int .i64 0] 60) 47)).ownsRow w.heap.size 47 5 (.slice (some ⟨w.heap.size, 0, none⟩) 0 12) 0 (rcs rs)) := by rw [hrs]; exact H0.out.2.1
    have G1 := hide H0.out.1
    have hmk0 : ∀ w, (Instr.makeSlice 48 (.int .i64 0) (.int .i64 12)).run Tryz.prog w = .ok (.slice (some ⟨w.heap.size, 0, none⟩) 0 12) (w.alloc (.cells (madeCells #[.int .i64 0, .int .u32 0, .int .i64 0, .int .i64 0, .int .i64 0] 60) 47)) := make_capR 0 (by decide)
    clear H0 hnil hrs hmk
    go_wp2
    generalize w.alloc (.cells (madeCells #[.int .i64 0, .int .u32 0, .int .i64 0, .int .i64 0, .int .i64 0] 60) 47) = w1 at *
    go_loopg [3, 4] 12 (fun k v i wr => ∃ j : Nat, k + j = 12 ∧ i = .int .i64 j ∧ wr.ownsRow w.heap.size 47 5 v j (rcs (rs ++ mks 1 j)) ∧ w.grownBy wr none)
    case atStart => exact ⟨0, rfl, rfl, by simpa [mks] using HO.out, G1.out⟩
    case round =>
      obtain ⟨j, hkj, rfl, hown, hg⟩ := hrel
      by_cases hk : 0 < gk
      · have HO2 := hide (And.intro hown hg)
        have HGK := hide (And.intro hk hkj)
        obtain ⟨vo, vcap, rfl, -⟩ := Ix.own_form hown
        have qm := mk45_any 1 j (j : Int) rfl wr (by decide) (by decide) (by omega)
        have hj12 : (j : Int) < 12 := by omega
        clear hown hg hk hkj
        go_wp2_with fail
        refine qm.mono ?_
        clear qm
        rintro e w2 ⟨rfl, hg2⟩
        have ga := grown_alloc w2 (.cells #[.int .i64 0, .int .u32 0, .int .i64 0, .int .i64 (mkI 1 (j : Int)), .int .i64 0] 47)
        have HO3 := hide (And.intro (own_keep (own_keep HO2.out.1 hg2) ga) (grown_trans (grown_trans HO2.out.2 hg2) ga))
        have HCl : Hid (∀ (x : Nat) (u : Value), (rcs [mkR 1 j])[x]? = some u → (w2.alloc (.cells #[.int .i64 0, .int .u32 0, .int .i64 0, .int .i64 (mkI 1 (j : Int)), .int .i64 0] 47)).cell? (Addr.add ⟨w2.heap.size, 0, none⟩ x) = some u) := fun x u hx => by
          rw [Addr.add_lit, Nat.zero_add, cell_row (heap_alloc_new w2 (.cells [Value.int .i64 0, .int .u32 0, .int .i64 0, .int .i64 (mkI 1 (j : Int)), .int .i64 0].toArray 47))]
          exact hx
        clear hg2 ga HO2
        go_wp2_with (at_builtin; refine wpList_append_own _ rfl (.tmp 16) (.tmp 19) 48 rfl w.heap.size 47 i0 (.agg #[.int .i64 0, .int .u32 0, .int .i64 0, .int .i64 0, .int .i64 0]) 5 40 Tryz.underlying48 HI0.out.1 HI0.out.2.1 HI0.out.2.2.1 HI0.out.2.2.2 rfl (by decide) (.slice vo j vcap) j (rcs (rs ++ mks 1 j)) rfl HO3.out.1 ⟨w2.heap.size, 0, none⟩ 1 1 (rcs [mkR 1 j]) rfl rfl HCl.out (rcs_one _) (by unfold maxLen; have := HB.out; omega) (by have := HB.out; omega) HO3.out.2.size ?_)
        intro v4 w4 ho4 hg4 hv4
        clear hv4
        have HZ : Hid (w4.ownsRow w.heap.size 47 5 v4 (j + 1) (rcs (rs ++ mks 1 (j + 1))) ∧ w.grownBy w4 none) := ⟨by rw [mks_succ, ← List.append_assoc, rcs_append (rs ++ mks 1 j)]; exact ho4, grown_then HO3.out.2 hg4 (fun k e => Or.inl (Ix.own_block HO3.out.1 e).1)⟩
        clear ho4 hg4 HO3 HCl
        go_wp2
        go_roundg (gk - 1)
        case measure => have := HGK.out; omega
        case rel => exact ⟨j + 1, by have := HGK.out; omega, by have := HGK.out; go_num, HZ.out.1, HZ.out.2⟩
      · obtain rfl : j = 12 := by omega
        obtain ⟨g, c, cur, rfl, -⟩ := Ix.own_row hown (by omega)
        have hcap := (Ix.own_form hown)
        have hle : 12 ≤ c := by obtain ⟨vo, cc, e, h⟩ := hcap; cases e; exact h
        have hst := slice_toR (some ⟨g, 0, none⟩) 12 c 0 (by omega)
        have HZ : Hid (LentR wr w.heap.size g c rs ∧ w.grownBy wr none) := ⟨⟨by rw [Hn.out, Nat.zero_add]; exact hown⟩, hg⟩
        clear hown hg hcap hle hkj hk
        have hst : ∀ w, (Instr.slice 48 (.slice (some ⟨g, 0, none⟩) 12 c) none (some (.int .i64 0)) none).run Tryz.prog w = .ok (.slice (some ⟨g, 0, none⟩) 0 c) w := hst
        go_wp2
        go_ret
        exact ⟨g, c, rfl, HZ.out.1, HZ.out.2⟩
  | some a =>
    have hcells : ∀ j u, (rcs rs)[j]? = some u → (w.alloc (.cells (madeCells #[.int .i64 0, .int .u32 0, .int .i64 0, .int .i64 0, .int .i64 0] ((n + 12) * 5)) 47)).cell? (Addr.add a j) = some u := by
      by_cases h0 : rs = []
      · subst h0; intro j u hj; simp [rcs] at hj
      · obtain ⟨g, off, e⟩ := H0.out.2.2.form h0
        cases e
        exact H0.out.2.2.cells
    have HC := hide hcells
    clear hcells hnil
    go_wp2_with (at_builtin; refine wpList_append_own _ rfl (.tmp 9) (.tmp 10) 48 rfl w.heap.size 47 i0 (.agg #[.int .i64 0, .int .u32 0, .int .i64 0, .int .i64 0, .int .i64 0]) 5 40 Tryz.underlying48 HI0.out.1 HI0.out.2.1 HI0.out.2.2.1 HI0.out.2.2.2 rfl (by decide) (.slice (some ⟨w.heap.size, 0, none⟩) 0 (n + 12)) 0 [] rfl H0.out.2.1 a n cap (rcs rs) rfl (by rw [rcs_length, Hn.out]) HC.out (rcs_one _) (by unfold maxLen; omega) (by omega) H0.out.1.size ?_)
    intro v1 w1 ho hg hv
    clear hv
    have HO : Hid (w1.ownsRow w.heap.size 47 5 v1 n (rcs rs)) := by unfold Hid; simpa using ho
    have G1 : Hid (w.grownBy w1 none) := grown_then H0.out.1 hg (fun k e => by cases e; exact Or.inl (Nat.le_refl _))
    obtain ⟨vo1, vc1, rfl, -⟩ := Ix.own_form HO.out
    clear ho hg H0 HC hmk
    go_wp2
    go_loopg [3, 4] 12 (fun k v i wr => ∃ j : Nat, k + j = 12 ∧ i = .int .i64 j ∧ wr.ownsRow w.heap.size 47 5 v (n + j) (rcs (rs ++ mks 1 j)) ∧ w.grownBy wr none)
    case atStart => exact ⟨0, rfl, rfl, by simpa [mks] using HO.out, G1.out⟩
    case round =>
      obtain ⟨j, hkj, rfl, hown, hg⟩ := hrel
      by_cases hk : 0 < gk
      · have HO2 := hide (And.intro hown hg)
        have HGK := hide (And.intro hk hkj)
        obtain ⟨vo, vcap, rfl, -⟩ := Ix.own_form hown
        have qm := mk45_any 1 j (j : Int) rfl wr (by decide) (by decide) (by omega)
        have hj12 : (j : Int) < 12 := by omega
        clear hown hg hk hkj
        go_wp2_with fail
        refine qm.mono ?_
        clear qm
        rintro e w2 ⟨rfl, hg2⟩
        have ga := grown_alloc w2 (.cells #[.int .i64 0, .int .u32 0, .int .i64 0, .int .i64 (mkI 1 (j : Int)), .int .i64 0] 47)
        have HO3 := hide (And.intro (own_keep (own_keep HO2.out.1 hg2) ga) (grown_trans (grown_trans HO2.out.2 hg2) ga))
        have HCl : Hid (∀ (x : Nat) (u : Value), (rcs [mkR 1 j])[x]? = some u → (w2.alloc (.cells #[.int .i64 0, .int .u32 0, .int .i64 0, .int .i64 (mkI 1 (j : Int)), .int .i64 0] 47)).cell? (Addr.add ⟨w2.heap.size, 0, none⟩ x) = some u) := fun x u hx => by
          rw [Addr.add_lit, Nat.zero_add, cell_row (heap_alloc_new w2 (.cells [Value.int .i64 0, .int .u32 0, .int .i64 0, .int .i64 (mkI 1 (j : Int)), .int .i64 0].toArray 47))]
          exact hx
        clear hg2 ga HO2
        go_wp2_with (at_builtin; refine wpList_append_own _ rfl (.tmp 16) (.tmp 19) 48 rfl w.heap.size 47 i0 (.agg #[.int .i64 0, .int .u32 0, .int .i64 0, .int .i64 0, .int .i64 0]) 5 40 Tryz.underlying48 HI0.out.1 HI0.out.2.1 HI0.out.2.2.1 HI0.out.2.2.2 rfl (by decide) (.slice vo (n + j) vcap) (n + j) (rcs (rs ++ mks 1 j)) rfl HO3.out.1 ⟨w2.heap.size, 0, none⟩ 1 1 (rcs [mkR 1 j]) rfl rfl HCl.out (rcs_one _) (by unfold maxLen; have := HB.out; omega) (by have := HB.out; omega) HO3.out.2.size ?_)
        intro v4 w4 ho4 hg4 hv4
        clear hv4
        have HZ : Hid (w4.ownsRow w.heap.size 47 5 v4 (n + (j + 1)) (rcs (rs ++ mks 1 (j + 1))) ∧ w.grownBy w4 none) := ⟨by rw [mks_succ, ← List.append_assoc, rcs_append (rs ++ mks 1 j)]; exact ho4, grown_then HO3.out.2 hg4 (fun k e => Or.inl (Ix.own_block HO3.out.1 e).1)⟩
        clear ho4 hg4 HO3 HCl
        go_wp2
        go_roundg (gk - 1)
        case measure => have := HGK.out; omega
        case rel => exact ⟨j + 1, by have := HGK.out; omega, by have := HGK.out; go_num, HZ.out.1, HZ.out.2⟩
      · obtain rfl : j = 12 := by omega
        obtain ⟨g, c, cur, rfl, -⟩ := Ix.own_row hown (by omega)
        have hcap := (Ix.own_form hown)
        have hle : n + 12 ≤ c := by obtain ⟨vo, cc, e, h⟩ := hcap; cases e; exact h
        have hst := slice_toR (some ⟨g, 0, none⟩) (n + 12) c n (by omega)
        have HZ : Hid (LentR wr w.heap.size g c rs ∧ w.grownBy wr none) := ⟨⟨by rw [Hn.out]; exact hown⟩, hg⟩
        clear hown hg hcap hle hkj hk
        go_wp2
        go_ret
        exact ⟨g, c, rfl, HZ.out.1, HZ.out.2⟩
end Go.Proofs.YtinkkocleognbaaGreatDoor
