/- The contracts of CopyFrame, CopyFrames. -/
import Derived.Test.YtoeehajdmdmemabDoorFl
import Derived.Laws.Rows
namespace Go.Proofs.YtoeehajdmdmemabDoor
open Go.RowKit
attribute [local go_sem ↓] Go.wp_at_zero Go.wp_at_succ

/-- The two boxes of CopyFrame, written: what is left. -/
theorem boxes_set {w w2 : World} {e s : Int} {x v : Value} {n : Nat} {xs : List Value} (h0 : w2.heap[w.heap.size]? = some (.cells [Value.int .u64 e, .int .u64 s, x].toArray 34 (0, 0))) (h1 : w2.heap[w.heap.size + 1]? = some (.cells [Value.int .u64 0, .int .u64 0, .slice none 0 0].toArray 34 (0, 0))) (hg : w.grownBy w2 none) (ho : w2.ownsRow w.heap.size 5 1 v n xs) :
    ((((w2.setCell ⟨w.heap.size, 2, none⟩ v).setCell ⟨w.heap.size + 1, 0, none⟩ (.int .u64 e)).setCell ⟨w.heap.size + 1, 1, none⟩ (.int .u64 s)).setCell ⟨w.heap.size + 1, 2, none⟩ v).heap[w.heap.size + 1]? = some (.cells #[.int .u64 e, .int .u64 s, v] 34 (0, 0)) ∧
    ((((w2.setCell ⟨w.heap.size, 2, none⟩ v).setCell ⟨w.heap.size + 1, 0, none⟩ (.int .u64 e)).setCell ⟨w.heap.size + 1, 1, none⟩ (.int .u64 s)).setCell ⟨w.heap.size + 1, 2, none⟩ v).ownsRow w.heap.size 5 1 v n xs ∧
    w.grownBy ((((w2.setCell ⟨w.heap.size, 2, none⟩ v).setCell ⟨w.heap.size + 1, 0, none⟩ (.int .u64 e)).setCell ⟨w.heap.size + 1, 1, none⟩ (.int .u64 s)).setCell ⟨w.heap.size + 1, 2, none⟩ v) none := by
  have g1 := grown_setCell w2 w.heap.size 2 v
  have r1 := (g1.block (w.heap.size + 1) (row_lt h1) (by simp)).trans h1
  have o1 := own_kept ho g1 h0 (by decide)
  have g2 := grown_setCell (w2.setCell ⟨w.heap.size, 2, none⟩ v) (w.heap.size + 1) 0 (.int .u64 e)
  have r2 := row_setCell r1 0 (.int .u64 e)
  have o2 := own_kept o1 g2 r1 (by decide)
  have g3 := grown_setCell ((w2.setCell ⟨w.heap.size, 2, none⟩ v).setCell ⟨w.heap.size + 1, 0, none⟩ (.int .u64 e)) (w.heap.size + 1) 1 (.int .u64 s)
  have r3 := row_setCell r2 1 (.int .u64 s)
  have o3 := own_kept o2 g3 r2 (by decide)
  have g4 := grown_setCell (((w2.setCell ⟨w.heap.size, 2, none⟩ v).setCell ⟨w.heap.size + 1, 0, none⟩ (.int .u64 e)).setCell ⟨w.heap.size + 1, 1, none⟩ (.int .u64 s)) (w.heap.size + 1) 2 v
  have r4 := row_setCell r3 2 v
  have o4 := own_kept o3 g4 r3 (by decide)
  refine ⟨r4, o4, ?_⟩
  refine grown_then (grown_then (grown_then (grown_then hg g1 ?_) g2 ?_) g3 ?_) g4 ?_
  all_goals
    intro j e
    cases e
    exact Or.inl (by omega)

set_option maxHeartbeats 1000000 in
theorem copyFrame_any (e s : Int) (ao : Option Addr) (n c : Nat) (xs : List Int) (w : World) (hn : xs.length = n) (hat : At w ao xs) (hnil : ao = none → n = 0 ∧ c = 0) (hb : n ≤ 32) :
    Calls Tryd.prog 15 #[frV e s (.slice ao n c)] w fun r w' => ∃ v, r = .returned (frV e s v) ∧ w'.ownsRow w.heap.size 5 1 v n (xs.map (Value.int .u8)) ∧ w.grownBy w' none := by
  unfold frV
  have ga := grown_trans (World.grownBy_alloc w (.cells #[.int .u64 e, .int .u64 s, .slice ao n c] 34) none) (World.grownBy_alloc _ (.cells #[.int .u64 0, .int .u64 0, .slice none 0 0] 34) none)
  have HC := hide (copy_any ao n c xs _ hn (hat.kept ga (fun _ _ e => by cases e)) hnil (by omega))
  have h0 : ((w.alloc (.cells #[.int .u64 e, .int .u64 s, .slice ao n c] 34)).alloc (.cells #[.int .u64 0, .int .u64 0, .slice none 0 0] 34)).heap[w.heap.size]? = some (.cells [Value.int .u64 e, .int .u64 s, .slice ao n c].toArray 34 (0, 0)) := ((World.grownBy_alloc (w.alloc (.cells #[.int .u64 e, .int .u64 s, .slice ao n c] 34)) (.cells #[.int .u64 0, .int .u64 0, .slice none 0 0] 34) none).block w.heap.size (by simp) (by simp)).trans (heap_alloc_new w _)
  have h1 : ((w.alloc (.cells #[.int .u64 e, .int .u64 s, .slice ao n c] 34)).alloc (.cells #[.int .u64 0, .int .u64 0, .slice none 0 0] 34)).heap[w.heap.size + 1]? = some (.cells [Value.int .u64 0, .int .u64 0, .slice none 0 0].toArray 34 (0, 0)) := by
    have h := heap_alloc_new (w.alloc (.cells #[.int .u64 e, .int .u64 s, .slice ao n c] 34)) (.cells #[.int .u64 0, .int .u64 0, .slice none 0 0] 34)
    rw [World.size_alloc] at h
    exact h
  have HR := hide (And.intro ga (And.intro h0 h1))
  clear ga h0 h1 hn hat hnil
  go_enter Tryd.func15, Tryd.ntmps15
  go_wp2_with fail
  refine HC.out.mono ?_
  rintro r w2 ⟨v, rfl, ho, hg⟩
  obtain ⟨ga, h0, h1⟩ := HR.out
  have k0 := (hg.block _ (row_lt h0) (by simp)).trans h0
  have k1 := (hg.block _ (row_lt h1) (by simp)).trans h1
  have gw := grown_trans ga hg
  have ho2 : w2.ownsRow w.heap.size 5 1 v n (xs.map (Value.int .u8)) := own_base ho (by simp; omega)
  have HX := hide (boxes_set k0 k1 gw ho2)
  obtain ⟨vo, vc, hv⟩ := own_form ho
  subst hv
  have c0 : w2.cell? ⟨w.heap.size, 0, none⟩ = some (.int .u64 e) := cell_row k0 0
  have c1 : w2.cell? ⟨w.heap.size, 1, none⟩ = some (.int .u64 s) := cell_row k0 1
  have c2 : w2.cell? ⟨w.heap.size, 2, none⟩ = some (.slice ao n c) := cell_row k0 2
  have d0 : w2.cell? ⟨w.heap.size + 1, 0, none⟩ = some (.int .u64 0) := cell_row k1 0
  have d1 : w2.cell? ⟨w.heap.size + 1, 1, none⟩ = some (.int .u64 0) := cell_row k1 1
  have d2 : w2.cell? ⟨w.heap.size + 1, 2, none⟩ = some (.slice none 0 0) := cell_row k1 2
  have f2 : w2.frozen? ⟨w.heap.size, 2, none⟩ = false := free_row k0 2
  have e0 : w2.frozen? ⟨w.heap.size + 1, 0, none⟩ = false := free_row k1 0
  have e1 : w2.frozen? ⟨w.heap.size + 1, 1, none⟩ = false := free_row k1 1
  have e2 : w2.frozen? ⟨w.heap.size + 1, 2, none⟩ = false := free_row k1 2
  clear ga h0 h1 k0 k1 gw ho2 ho hg HR HC
  go_wp2
  refine bodyPost_ret (results_cell_row rfl _ _ (w.heap.size + 1) 34 #[.int .u64 e, .int .u64 s, .slice vo n vc] (0, 0) _ rfl HX.out.1 Tryd.underlying34 rfl (by kernel_rfl)) rfl ⟨_, rfl, HX.out.2.1, HX.out.2.2⟩

set_option maxRecDepth 100000 in
set_option maxHeartbeats 2000000 in
theorem copyFrames_any (base : Nat) (v : Value) (ys : List El) (w : World) (h : FsAt w base v ys) (hn : ys.length ≤ 100000) :
    Calls Tryd.prog 7 #[v] w fun r w' => ∃ v', r = .returned v' ∧ ∃ zs, frs zs = frs ys ∧ FsAt w' w.heap.size v' zs ∧ w.grownBy w' none := by
  obtain ⟨i0, hi, hz0, hz1, hz2⟩ := info_parts Tryd.info34
  have HI := hide (And.intro hi (And.intro hz0 (And.intro hz1 hz2)))
  clear hi hz0 hz1 hz2
  obtain ⟨ao, cap, rfl, hR, hc⟩ := h.read
  have H := hide (And.intro h hR)
  obtain ⟨n, hnn⟩ : ∃ n, n = ys.length := ⟨_, rfl⟩
  have HN := hide hnn
  rw [← hnn] at hn hc ⊢
  clear h hR hnn
  go_enter Tryd.func7, Tryd.ntmps7
  go_wp2
  go_loopg [3, 4] n (fun q o i wr => ∃ (j : Nat) (pre : List El), q + j = n ∧ i = .int .i64 j ∧ Hid (pre.length = j ∧ frs pre = (frs ys).take j ∧ FsAt wr w.heap.size o pre ∧ w.grownBy wr none))
  case atStart => exact ⟨0, [], by omega, rfl, hide ⟨rfl, rfl, FsAt.nil _ _, grown_refl _ _⟩⟩
  case round =>
    obtain ⟨j, pre, hqj, rfl, HR⟩ := hrel
    obtain ⟨po, pc, hpv⟩ := own_form HR.out.2.2.1.own
    by_cases hk : 0 < gk
    · have hj : (j : Int) < (n : Int) := by omega
      obtain ⟨x, hx⟩ : ∃ x, ys[j]? = some x := ⟨_, List.getElem?_eq_getElem (by have := HN.out; omega)⟩
      obtain ⟨g, rfl, hC⟩ := (H.out.2.grown HR.out.2.2.2) j x hx
      have hx' := H.out.1.each x (List.mem_of_getElem? hx)
      obtain ⟨bo, bc, hv, q1, q2, q3, q4, q5, q6⟩ := own_at ((hx'.1.grown HR.out.2.2.2).own)
      have c0 := hC.c0
      have c1 := hC.c1
      have c2 := hC.c2
      rw [hv] at c2
      have HP := hide (copyFrame_any x.f.e x.f.s bo x.f.b.length bc x.f.b wr rfl q4 q5 hx'.2.2.2)
      have HX := hide (And.intro hx (And.intro hx'.2.2.1 hx'.2.2.2))
      obtain ⟨m, hm⟩ : ∃ m, m = x.f.b.length := ⟨_, rfl⟩
      rw [← hm] at c2 HP
      have HM := hide hm
      unfold frV at HP
      clear hx hC hx' hv q1 q2 q3 q4 q5 q6 hm
      subst hpv
      go_wp2_with fail
      refine HP.out.mono ?_
      rintro r w2 ⟨nv, rfl, ho, hg⟩
      obtain ⟨no, nc, hnv⟩ := own_form ho
      subst hnv
      have HQ := hide (And.intro ho hg)
      clear ho hg HP c0 c1 c2
      have ga := World.grownBy_alloc w2 (.cells #[.int .u64 x.f.e, .int .u64 x.f.s, .slice no m nc] 34) none
      have gb := World.grownBy_alloc (w2.alloc (.cells #[.int .u64 x.f.e, .int .u64 x.f.s, .slice no m nc] 34)) (.cells #[.int .u64 x.f.e, .int .u64 x.f.s, .slice no m nc] 34) none
      have HG := hide (grown_trans ga gb)
      clear ga gb
      have hpl : Hid (pre.length = j) := HR.out.1
      go_wp2_with (at_builtin; refine wpList_append_own _ rfl (.tmp 17) (.tmp 19) 26 rfl w.heap.size 34 i0 (.agg #[.int .u64 0, .int .u64 0, .slice none 0 0]) 3 40 Tryd.underlying26 HI.out.1 HI.out.2.1 HI.out.2.2.1 HI.out.2.2.2 rfl (by decide) (.slice po pre.length pc) pre.length (fcl pre) rfl (own_grown HR.out.2.2.1.own (grown_trans HQ.out.2 HG.out)) ⟨w2.heap.size + 1, 0, none⟩ 1 1 [.int .u64 x.f.e, .int .u64 x.f.s, .slice no m nc] rfl rfl ?_ (by simp [Value.oneCell']) (by unfold maxLen; have := hpl.out; omega) (by have := hpl.out; omega) ?_ ?_)
      · have h := cell3_new (w2.alloc (.cells #[.int .u64 x.f.e, .int .u64 x.f.s, .slice no m nc] 34)) (.int .u64 x.f.e) (.int .u64 x.f.s) (.slice no m nc) 34
        rw [World.size_alloc] at h
        exact h
      · have h1 := HR.out.2.2.2.size; have h2 := HQ.out.2.size; simp; omega
      · intro v' w3 ho3 hg3 _
        have hF := (HR.out.2.2.1.grown HQ.out.2).grown HG.out
        have hxAt : El.At ⟨0, x.f, .slice no m nc, wr.heap.size, w2.heap.size⟩ w2 := ⟨by rw [← HM.out]; exact HQ.out.1, fun k e => (HQ.out.1.lt k e).2, Nat.le_refl _⟩
        have hp : FsAt w3 w.heap.size v' (pre ++ [⟨0, x.f, .slice no m nc, wr.heap.size, w2.heap.size⟩]) :=
          hF.push (by exact ho3) hg3 (hxAt.grown HG.out) HR.out.2.2.2.size HX.out.2.1 HX.out.2.2 (fun y hy => (HR.out.2.2.1.each y hy).1.size)
        have hgw : w.grownBy w3 none := grown_then (grown_trans (grown_trans HR.out.2.2.2 HQ.out.2) HG.out) hg3 (fun k e => Or.inl (HR.out.2.2.1.own.lt k e).1)
        have hfr : frs (pre ++ [⟨0, x.f, .slice no m nc, wr.heap.size, w2.heap.size⟩]) = (frs ys).take (j + 1) := by
          rw [frs_snoc, HR.out.2.1, List.take_add_one, frs_at HX.out.1]
          rfl
        have H3 := hide (And.intro hp (And.intro hgw hfr))
        obtain ⟨ao3, c3, hv3⟩ := own_form ho3
        subst hv3
        clear hF hxAt hp hgw hfr ho3 hg3
        go_wp2
        go_roundg (gk - 1)
        case measure => omega
        case rel => exact ⟨j + 1, _, by omega, by go_num, hide ⟨by rw [List.length_append]; simp [hpl.out], H3.out.2.2, H3.out.1, H3.out.2.1⟩⟩
    · obtain rfl : j = n := by omega
      have hj : ¬ (j : Int) < (j : Int) := by omega
      subst hpv
      have HE : Hid ((frs ys).take j = frs ys) := List.take_of_length_le (by rw [frs_length]; exact Nat.le_of_eq HN.out.symm)
      go_wp2
      go_ret
      exact ⟨_, rfl, pre, HR.out.2.1.trans HE.out, HR.out.2.2.1, HR.out.2.2.2⟩
end Go.Proofs.YtoeehajdmdmemabDoor
