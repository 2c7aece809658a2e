/- One step of both. -/
import Derived.Test.YtoocaioilpgmeaaRd
namespace Go.Proofs.Ytoocaioilpgmeaa
open Go.RowKit Ix Go.Shelf
attribute [local go_sem ↓] Go.wp_at_zero Go.wp_at_succ
theorem eql_b (b : Bool) (w : World) : (binOp .eql 4 (.bool b) (.bool b)).run Try.prog w = .ok (.bool true) w := by cases b <;> kernel_rfl
set_option maxRecDepth 20000 in
set_option maxHeartbeats 4000000 in
theorem answers_tw {w0 w : World} {p : Ip} {r : Nat} {vl : Value} {M : List (Nat × Int)} {lo : Bool} (t : Tw w0 w p r vl M M lo) (o : OpD) (ho : o.Ok) :
    Calls Try.prog 20 #[.pointer (some ⟨p.x, 0, none⟩), .pointer (some ⟨r, 0, none⟩), .agg #[.int .i64 o.K, .int .u32 (o.I : Int), .int .i64 o.V]] w fun e w' => e = .returned (.bool true) ∧ ∃ vl', Tw w0 w' p r vl' (stM M p.m o) (stM M p.m o) (stL lo o) ∧ (∀ i, i < w0.heap.size → w'.heap[i]? = w.heap[i]?) := by
  obtain ⟨K, I, V⟩ := o
  obtain ⟨hK, hI, hV⟩ := ho
  simp only at hK hI hV ⊢
  obtain ⟨w1, hw1⟩ : ∃ w1, w1 = w.alloc (.cells #[.int .i64 K, .int .u32 (I : Int), .int .i64 V] 47) := ⟨_, rfl⟩
  have g1 : w.grownBy w1 none := by rw [hw1]; exact World.grownBy_alloc w _ none
  have nb : w1.heap[w.heap.size]? = some (.cells [Value.int .i64 K, .int .u32 (I : Int), .int .i64 V].toArray 47 (0, 0)) := by rw [hw1]; exact heap_alloc_new w _
  obtain ⟨bx, hbx⟩ : ∃ bx, bx = w.heap.size := ⟨_, rfl⟩
  rw [← hbx] at nb
  have t1 := t.then g1
  have hfew := t.io.few
  have hA := t.io.asc
  obtain ⟨Bk, hBk⟩ : ∃ Bk : World → Prop, Bk = fun W => W.heap[bx]? = some (.cells [Value.int .i64 K, .int .u32 (I : Int), .int .i64 V].toArray 47 (0, 0)) := ⟨_, rfl⟩
  have hbk1 : Bk w1 := by rw [hBk]; exact nb
  have HT : Hid (Tw w0 w p r vl M M lo ∧ r < bx ∧ (∀ i, vl.ownBlock = some i → i < bx)) := ⟨t, by rw [hbx]; exact t.rf.lt.1, fun i hi => by rw [hbx]; exact t.rf.lt.2 i hi⟩
  have HBk : Hid (∀ (W W' : World) {S : Nat → Prop}, Bk W → Kept W W' S → (∀ i, S i → i < bx) → Bk W') := by
    intro W W' S hb hk hS
    rw [hBk] at hb ⊢
    exact hk.at hb (fun e => by have := hS _ e; omega)
  have HBc : Hid (∀ W, Bk W → W.cell? ⟨bx, 0, none⟩ = some (.int .i64 K) ∧ W.cell? ⟨bx, 1, none⟩ = some (.int .u32 (I : Int)) ∧ W.cell? ⟨bx, 2, none⟩ = some (.int .i64 V)) := by
    intro W hb
    rw [hBk] at hb
    exact ⟨cell_row hb 0, cell_row hb 1, cell_row hb 2⟩
  obtain ⟨y0, y1, y2⟩ := HBc.out w1 hbk1
  have HW := hide (And.intro hw1 (And.intro hbx (And.intro t1 (And.intro hbk1 (And.intro hfew hA)))))
  have HG0 : Hid (∀ W vl2 M2 X2 l2, Tw w0 W p r vl2 M2 X2 l2 → ∀ i, i < w0.heap.size → W.heap[i]? = w.heap[i]?) := fun W vl2 M2 X2 l2 tw i hi => (tw.gr.block i hi (by simp)).trans (t.gr.block i hi (by simp)).symm
  clear hw1 g1 nb hbx t1 hfew hA hBk hbk1 t
  by_cases e1 : K = 1
  · subst e1
    have HA : Hid (∀ (W : World) (vl2 : Value) (X2 : List (Nat × Int)), Tw w0 W p r vl2 M X2 lo → Bk W → Calls Try.prog 10 #[.pointer (some ⟨p.x, 0, none⟩), .int .u32 (I : Int), .int .i64 V] W fun e W' => e = .returned (.int .i64 (putE M I p.m)) ∧ Tw w0 W' p r vl2 (putM M I p.m V) X2 true ∧ Bk W') := fun W vl2 X2 tw hb => by
      refine (put_io tw.io I hI V hV.1 hV.2).mono ?_
      rintro e W' ⟨rfl, h', k'⟩
      exact ⟨rfl, tw.ix h' k', HBk.out W W' hb k' (fun i hi => by have := HT.out.1.io.lt i hi; have := HW.out.2.1; omega)⟩
    have HR : Hid (∀ (W : World) (M2 : List (Nat × Int)) (lo2 : Bool), Tw w0 W p r vl M2 M lo2 → Bk W → Calls Try.prog 33 #[.pointer (some ⟨r, 0, none⟩), .int .u32 (I : Int), .int .i64 V] W fun e W' => e = .returned (.int .i64 (putE M I p.m)) ∧ ∃ vl', Tw w0 W' p r vl' M2 (putM M I p.m V) lo2 ∧ Bk W') := fun W M2 lo2 tw hb => by
      refine (rput_at tw.rf (by have := HW.out.2.2.2.2.1; omega) HW.out.2.2.2.2.2 tw.gr.size I V).mono ?_
      rintro e W' ⟨rfl, vl', h', k'⟩
      exact ⟨rfl, _, tw.ref h' k', HBk.out W W' hb k'.kept (fun i hi => by
        rcases hi with hi | hi
        · rw [hi]; exact HT.out.2.1
        · exact HT.out.2.2 i hi)⟩
    clear hI hV
    generalize hres : putE M I p.m = rv at *
    generalize hupM : putM M I p.m V = M' at *
    have HUP := hide (And.intro hres hupM)
    clear hupM hres
    have heq := eql_b
    have HT0 : Hid (Tw w0 w1.drew p r vl M M lo ∧ Bk w1.drew) := ⟨HW.out.2.2.1.then (grown_drew _ _), HBk.out w1 _ HW.out.2.2.2.1 (Kept.new (grown_drew w1 none) (fun _ => False)) (fun _ e => e.elim)⟩
    have hc0 := HBc.out _ HT0.out.2
    go_enter Try.func20, Try.ntmps20
    go_upto_region 3 with fail
    rw [← HW.out.1, ← HW.out.2.1]
    go_region_held3 (fun W => W.cell? ⟨bx, 0, none⟩ = some (.int .i64 1) ∧ W.cell? ⟨bx, 1, none⟩ = some (.int .u32 (I : Int)) ∧ W.cell? ⟨bx, 2, none⟩ = some (.int .i64 V)) (first | assumption | exact ⟨y0, y1, y2⟩ | exact hc0) (first
      | (go_at_call 10; refine (HA.out _ _ _ HT0.out.1 HT0.out.2).mono ?_; rintro e4 w4 ⟨rfl, ta, hba⟩; have hka := HBc.out _ hba; have HTA := hide (And.intro ta hba); clear ta hba)
      | (go_at_call 10; refine (HA.out _ _ _ HTR.out.1 HTR.out.2).mono ?_; rintro e4 w4 ⟨rfl, ta, hba⟩; have hka := HBc.out _ hba; have HTF := hide ta; clear ta hba)
      | (go_at_call 33; refine (HR.out _ _ _ HT0.out.1 HT0.out.2).mono ?_; rintro e5 w5 ⟨rfl, vl', tr, hbr⟩; have hkr := HBc.out _ hbr; have HTR := hide (And.intro tr hbr); clear tr hbr)
      | (go_at_call 33; refine (HR.out _ _ _ HTA.out.1 HTA.out.2).mono ?_; rintro e5 w5 ⟨rfl, vl', tr, hbr⟩; have hkr := HBc.out _ hbr; have HTF := hide tr; clear tr hbr))
    all_goals
      go_wp2
      go_ret
      refine ⟨by simp, vl', ?_, HG0.out _ _ _ _ _ HTF.out⟩
      rw [show stM M p.m ⟨1, I, V⟩ = M' by rw [← HUP.out.2]; simp [stM], show stL lo ⟨1, I, V⟩ = true by simp [stL]]
      exact HTF.out
  by_cases e2 : K = 2
  · subst e2
    clear e1
    have HA : Hid (∀ (W : World) (vl2 : Value) (X2 : List (Nat × Int)), Tw w0 W p r vl2 M X2 lo → Bk W → Calls Try.prog 11 #[.pointer (some ⟨p.x, 0, none⟩), .int .u32 (I : Int), .int .i64 V] W fun e W' => e = .returned (.bool (lk M I).isSome) ∧ Tw w0 W' p r vl2 (up M I V) X2 true ∧ Bk W') := fun W vl2 X2 tw hb => by
      refine (set_io tw.io I hI V hV.1 hV.2).mono ?_
      rintro e W' ⟨rfl, h', k'⟩
      exact ⟨rfl, tw.ix h' k', HBk.out W W' hb k' (fun i hi => by have := HT.out.1.io.lt i hi; have := HW.out.2.1; omega)⟩
    have HR : Hid (∀ (W : World) (M2 : List (Nat × Int)) (lo2 : Bool), Tw w0 W p r vl M2 M lo2 → Bk W → Calls Try.prog 34 #[.pointer (some ⟨r, 0, none⟩), .int .u32 (I : Int), .int .i64 V] W fun e W' => e = .returned (.bool (lk M I).isSome) ∧ ∃ vl', Tw w0 W' p r vl' M2 (up M I V) lo2 ∧ Bk W') := fun W M2 lo2 tw hb => by
      refine (rset_at tw.rf (by have := HW.out.2.2.2.2.1; omega) HW.out.2.2.2.2.2 I V).mono ?_
      rintro e W' ⟨rfl, h', k'⟩
      exact ⟨rfl, _, tw.ref h' k', HBk.out W W' hb k'.kept (fun i hi => by
        rcases hi with hi | hi
        · rw [hi]; exact HT.out.2.1
        · exact HT.out.2.2 i hi)⟩
    clear hI hV
    generalize hres : (lk M I).isSome = rv at *
    generalize hupM : up M I V = M' at *
    have HUP := hide (And.intro hres hupM)
    clear hupM hres
    have heq := eql_b
    have HT0 : Hid (Tw w0 w1.drew p r vl M M lo ∧ Bk w1.drew) := ⟨HW.out.2.2.1.then (grown_drew _ _), HBk.out w1 _ HW.out.2.2.2.1 (Kept.new (grown_drew w1 none) (fun _ => False)) (fun _ e => e.elim)⟩
    have hc0 := HBc.out _ HT0.out.2
    go_enter Try.func20, Try.ntmps20
    go_upto_region 5 with fail
    rw [← HW.out.1, ← HW.out.2.1]
    go_region_held3 (fun W => W.cell? ⟨bx, 0, none⟩ = some (.int .i64 2) ∧ W.cell? ⟨bx, 1, none⟩ = some (.int .u32 (I : Int)) ∧ W.cell? ⟨bx, 2, none⟩ = some (.int .i64 V)) (first | assumption | exact ⟨y0, y1, y2⟩ | exact hc0) (first
      | (go_at_call 11; refine (HA.out _ _ _ HT0.out.1 HT0.out.2).mono ?_; rintro e4 w4 ⟨rfl, ta, hba⟩; have hka := HBc.out _ hba; have HTA := hide (And.intro ta hba); clear ta hba)
      | (go_at_call 11; refine (HA.out _ _ _ HTR.out.1 HTR.out.2).mono ?_; rintro e4 w4 ⟨rfl, ta, hba⟩; have hka := HBc.out _ hba; have HTF := hide ta; clear ta hba)
      | (go_at_call 34; refine (HR.out _ _ _ HT0.out.1 HT0.out.2).mono ?_; rintro e5 w5 ⟨rfl, vl', tr, hbr⟩; have hkr := HBc.out _ hbr; have HTR := hide (And.intro tr hbr); clear tr hbr)
      | (go_at_call 34; refine (HR.out _ _ _ HTA.out.1 HTA.out.2).mono ?_; rintro e5 w5 ⟨rfl, vl', tr, hbr⟩; have hkr := HBc.out _ hbr; have HTF := hide tr; clear tr hbr))
    all_goals
      go_wp2
      go_ret
      refine ⟨by simp, vl', ?_, HG0.out _ _ _ _ _ HTF.out⟩
      rw [show stM M p.m ⟨2, I, V⟩ = M' by rw [← HUP.out.2]; simp [stM], show stL lo ⟨2, I, V⟩ = true by simp [stL]]
      exact HTF.out
  by_cases e4 : K = 4
  · subst e4
    clear e1 e2
    have HA : Hid (∀ (W : World) (vl2 : Value) (X2 : List (Nat × Int)), Tw w0 W p r vl2 M X2 lo → Bk W → Calls Try.prog 12 #[.pointer (some ⟨p.x, 0, none⟩), .int .u32 (I : Int)] W fun e W' => e = .returned (.bool (lk M I).isSome) ∧ Tw w0 W' p r vl2 (dr M I) X2 true ∧ Bk W') := fun W vl2 X2 tw hb => by
      refine (drop_io tw.io I hI).mono ?_
      rintro e W' ⟨rfl, h', k'⟩
      exact ⟨rfl, tw.ix h' k', HBk.out W W' hb k' (fun i hi => by have := HT.out.1.io.lt i hi; have := HW.out.2.1; omega)⟩
    have HR : Hid (∀ (W : World) (M2 : List (Nat × Int)) (lo2 : Bool), Tw w0 W p r vl M2 M lo2 → Bk W → Calls Try.prog 36 #[.pointer (some ⟨r, 0, none⟩), .int .u32 (I : Int)] W fun e W' => e = .returned (.bool (lk M I).isSome) ∧ ∃ vl', Tw w0 W' p r vl' M2 (dr M I) lo2 ∧ Bk W') := fun W M2 lo2 tw hb => by
      refine (rdrop_at tw.rf (by have := HW.out.2.2.2.2.1; omega) HW.out.2.2.2.2.2 tw.gr.size I).mono ?_
      rintro e W' ⟨rfl, vl', h', k'⟩
      exact ⟨rfl, _, tw.ref h' k', HBk.out W W' hb k'.kept (fun i hi => by
        rcases hi with hi | hi
        · rw [hi]; exact HT.out.2.1
        · exact HT.out.2.2 i hi)⟩
    clear hI hV
    generalize hres : (lk M I).isSome = rv at *
    generalize hupM : dr M I = M' at *
    have HUP := hide (And.intro hres hupM)
    clear hupM hres
    have heq := eql_b
    have HT0 : Hid (Tw w0 w1.drew p r vl M M lo ∧ Bk w1.drew) := ⟨HW.out.2.2.1.then (grown_drew _ _), HBk.out w1 _ HW.out.2.2.2.1 (Kept.new (grown_drew w1 none) (fun _ => False)) (fun _ e => e.elim)⟩
    have hc0 := HBc.out _ HT0.out.2
    go_enter Try.func20, Try.ntmps20
    go_upto_region 11 with fail
    rw [← HW.out.1, ← HW.out.2.1]
    go_region_held3 (fun W => W.cell? ⟨bx, 0, none⟩ = some (.int .i64 4) ∧ W.cell? ⟨bx, 1, none⟩ = some (.int .u32 (I : Int)) ∧ W.cell? ⟨bx, 2, none⟩ = some (.int .i64 V)) (first | assumption | exact ⟨y0, y1, y2⟩ | exact hc0) (first
      | (go_at_call 12; refine (HA.out _ _ _ HT0.out.1 HT0.out.2).mono ?_; rintro e4 w4 ⟨rfl, ta, hba⟩; have hka := HBc.out _ hba; have HTA := hide (And.intro ta hba); clear ta hba)
      | (go_at_call 12; refine (HA.out _ _ _ HTR.out.1 HTR.out.2).mono ?_; rintro e4 w4 ⟨rfl, ta, hba⟩; have hka := HBc.out _ hba; have HTF := hide ta; clear ta hba)
      | (go_at_call 36; refine (HR.out _ _ _ HT0.out.1 HT0.out.2).mono ?_; rintro e5 w5 ⟨rfl, vl', tr, hbr⟩; have hkr := HBc.out _ hbr; have HTR := hide (And.intro tr hbr); clear tr hbr)
      | (go_at_call 36; refine (HR.out _ _ _ HTA.out.1 HTA.out.2).mono ?_; rintro e5 w5 ⟨rfl, vl', tr, hbr⟩; have hkr := HBc.out _ hbr; have HTF := hide tr; clear tr hbr))
    all_goals
      go_wp2
      go_ret
      refine ⟨by simp, vl', ?_, HG0.out _ _ _ _ _ HTF.out⟩
      rw [show stM M p.m ⟨4, I, V⟩ = M' by rw [← HUP.out.2]; simp [stM], show stL lo ⟨4, I, V⟩ = true by simp [stL]]
      exact HTF.out
  by_cases e3 : K = 3
  · subst e3
    clear e1 e2 e4
    have hg := get_io HW.out.2.2.1.io I hI
    generalize hres : (lk M I).isSome = rv at *
    generalize hupM : (lk M I).getD 0 = gv at *
    have HUP := hide (And.intro hres hupM)
    clear hupM hres
    have heq := eql_b
    go_enter Try.func20, Try.ntmps20
    go_upto_region 7 with fail
    rw [← HW.out.1, ← HW.out.2.1]
    go_wp2_with fail
    refine hg.mono ?_
    clear hg
    rintro e w2 ⟨rfl, h2, k2⟩
    have t2 := HW.out.2.2.1.ix h2 k2
    have hb2 := HBk.out w1 w2 HW.out.2.2.2.1 k2 (fun i hi => by have := HT.out.1.io.lt i hi; have := HW.out.2.1; omega)
    obtain ⟨z0, z1, z2⟩ := HBc.out w2 hb2
    have hg2 := rget_at t2.rf (by have := HW.out.2.2.2.2.1; omega) HW.out.2.2.2.2.2 I
    rw [HUP.out.1, HUP.out.2] at hg2
    have H2 := hide t2
    clear h2 k2 t2 hb2 y0 y1 y2
    go_wp2_with fail
    refine hg2.mono ?_
    clear hg2
    rintro e w3 ⟨rfl, g3⟩
    have H3 := hide (H2.out.then g3)
    clear g3
    go_wp2
    go_ret
    refine ⟨by simp, vl, ?_, HG0.out _ _ _ _ _ H3.out⟩
    rw [show stM M p.m ⟨3, I, V⟩ = M by simp [stM], show stL lo ⟨3, I, V⟩ = true by simp [stL]]
    exact H3.out
  by_cases e5 : K = 5
  · subst e5
    clear e1 e2 e3 e4
    obtain ⟨-, c1⟩ := HW.out.2.2.1.rf.cells
    have his := is_at HW.out.2.2.1.io HW.out.2.2.1.rf.row
    go_enter Try.func20, Try.ntmps20
    go_upto_region 13 with fail
    rw [← HW.out.1, ← HW.out.2.1]
    go_wp2_with fail
    refine his.mono ?_
    clear his
    rintro e w2 ⟨rfl, g2⟩
    have H2 := hide (HW.out.2.2.1.then g2)
    clear g2
    go_wp2
    go_ret
    refine ⟨rfl, vl, ?_, HG0.out _ _ _ _ _ H2.out⟩
    rw [show stM M p.m ⟨5, I, V⟩ = M by simp [stM], show stL lo ⟨5, I, V⟩ = lo by simp [stL]]
    exact H2.out
  · have q1 : (K == 1) = false := by simpa using e1
    have q2 : (K == 2) = false := by simpa using e2
    have q3 : (K == 3) = false := by simpa using e3
    have q4 : (K == 4) = false := by simpa using e4
    have q5 : (K == 5) = false := by simpa using e5
    have d1 : decide (K = 1) = false := by simpa using e1
    have d2 : decide (K = 2) = false := by simpa using e2
    have d3 : decide (K = 3) = false := by simpa using e3
    have d4 : decide (K = 4) = false := by simpa using e4
    have d5 : decide (K = 5) = false := by simpa using e5
    have HE := hide (And.intro e1 (And.intro e2 (And.intro e3 e4)))
    clear e1 e2 e3 e4 e5 hK
    go_enter Try.func20, Try.ntmps20
    go_wp2
    go_ret
    rw [← HW.out.1]
    have e1 := HE.out.1
    have e2 := HE.out.2.1
    have e3 := HE.out.2.2.1
    have e4 := HE.out.2.2.2
    refine ⟨rfl, vl, ?_, HG0.out _ _ _ _ _ HW.out.2.2.1⟩
    rw [show stM M p.m ⟨K, I, V⟩ = M by simp [stM, e1, e2, e4], show stL lo ⟨K, I, V⟩ = lo by simp [stL]; omega]
    exact HW.out.2.2.1
end Go.Proofs.Ytoocaioilpgmeaa
