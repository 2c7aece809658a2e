/- Texts joined: An, Cy, BkW. -/
import Derived.Test.YtjfhilignbeboabGreatDoorJzAn
import Derived.Test.YtjfhilignbeboabGreatDoorJzAo
import Derived.Test.YtjfhilignbeboabGreatDoorJzAp
import Derived.Test.YtjfhilignbeboabGreatDoorJzG
import Derived.Test.YtjfhilignbeboabGreatDoorJzAh
namespace Go.Proofs.YtjfhilignbeboabGreatDoor
/- cases: Answer. -/
open Go.RowKit
attribute [local go_sem ↓] Go.wp_at_zero Go.wp_at_succ
attribute [local go_sem] Oper.semAt_some
def anV (a : Rt.Ry × Int) : Value := .tuple #[Rt.ryV a.1, .int .i64 a.2]
theorem results_c1t1 {fn : Func} {p u : Tmp} (h : fn.results = #[.cell p 38, .tmp u]) (tmps : Array Value) (w : World) (g : Nat) (cs : Array Value) (hp : tmps.getD p undef = .pointer (some ⟨g, 0, none⟩)) (hg : w.heap[g]? = some (.cells cs 38 (0, 0))) (h7 : cs.size = 7) :
    (results fn tmps).run Tryz.prog w = .ok (.tuple #[.agg cs, tmps.getD u undef]) w := by
  have hp' : tmps[p]?.getD undef = .pointer (some ⟨g, 0, none⟩) := by simpa using hp
  have i7 : (Tryz.prog.info? 38).map (·.size) = some cs.size := by rw [h7]; kernel_rfl
  simp [results, h, hp', asAddr, run_loadVar_row w g 38 38 cs (0, 0) _ hg Tryz.underlying38 rfl i7, Result.andThen]
theorem cell_set1 {W : World} {g o h j : Nat} {v x : Value} (hh : W.cell? ⟨g, o, none⟩ = some v) (hne : h ≠ g) : (W.setCell ⟨h, j, none⟩ x).cell? ⟨g, o, none⟩ = some v := (grown_setCell W h j x).cell hh (fun e => hne (Option.some.inj e).symm)
section
variable {w W : World} {p : Bp} {S : Sb} {K : Nat} {Bs : List (Nat × List Value × TypeId)}
theorem Mt.two (h : BkAt w p S K) (a b : List Value) (s t : TypeId) : Mt w ((w.alloc (.cells a.toArray s)).alloc (.cells b.toArray t)) p S K [(w.heap.size + 1, b, t), (w.heap.size, a, s)] := by
  have m0 := ((Mt.start h).box a s).box b t
  rw [show (w.alloc (.cells a.toArray s)).heap.size = w.heap.size + 1 from by show (w.heap.push _).size = _; simp] at m0
  exact m0
theorem Mt.put1 {X : Nat} {cs : List Value} {ty : TypeId} (h : Mt w W p S K ((X, cs, ty) :: Bs)) (hne : ∀ y ∈ Bs, y.1 ≠ X) (j : Nat) (v : Value) : Mt w (W.setCell ⟨X, j, none⟩ v) p S K ((X, cs.set j v, ty) :: Bs) := by
  obtain ⟨h1, h2, h3⟩ := h.bx _ (List.mem_cons_self ..)
  have m := h.wrote (grown_setCell W X j v) h2 h3
  refine ⟨m.bk, m.st, fun y hy => ?_⟩
  rcases List.mem_cons.1 hy with rfl | hy
  · exact ⟨row_setCell h1 j v, h2, h3⟩
  · obtain ⟨k1, k2, k3⟩ := h.bx y (List.mem_cons_of_mem _ hy)
    exact ⟨((grown_setCell W X j v).block _ (row_lt k1) (fun e => hne y hy (Option.some.inj e))).trans k1, k2, k3⟩
theorem an_end {g : Nat} {l7 : List Value} (M : Mt w W p S K Bs) (m7 : (g, l7, 38) ∈ Bs) (hl7 : l7.length = 7) (s t u v x y z : Value) :
    (((((((W.setCell ⟨g, 0, none⟩ s).setCell ⟨g, 1, none⟩ t).setCell ⟨g, 2, none⟩ u).setCell ⟨g, 3, none⟩ v).setCell ⟨g, 4, none⟩ x).setCell ⟨g, 5, none⟩ y).setCell ⟨g, 6, none⟩ z).heap[g]? = some (.cells [s, t, u, v, x, y, z].toArray 38 (0, 0)) ∧ Mt w (((((((W.setCell ⟨g, 0, none⟩ s).setCell ⟨g, 1, none⟩ t).setCell ⟨g, 2, none⟩ u).setCell ⟨g, 3, none⟩ v).setCell ⟨g, 4, none⟩ x).setCell ⟨g, 5, none⟩ y).setCell ⟨g, 6, none⟩ z) p S K [] := by
  obtain ⟨b7, n7, o7⟩ := M.bx _ m7
  obtain ⟨r3, r4⟩ := set7w W hl7 b7 s t u v x y z
  exact ⟨r3, M.wrote r4 n7 o7⟩
set_option maxHeartbeats 4000000 in
theorem answer_may (h : BkAt w p S K) (ho : S.Ok) (q : Rs.Rq) (hq : q.Ok) (hm : ¬ q.May) : Calls Tryz.prog 6 #[.pointer (some ⟨p.b, 0, none⟩), Rs.rqV q] w fun e w' => e = .returned (anV (Rt.zRy, 200)) ∧ Mt w w' p S K [] := by
  have HN : Hid (∀ W, BkAt W p S K → Calls Tryz.prog 17 #[.pointer (some ⟨p.b, 0, none⟩)] W fun e w' => e = .returned (.bool false) ∧ Mt W w' p S K []) := fun W hW => isNone_no hW ho
  have HQ := hide (fun W => Rs.check_any q hq W)
  have HM := hide (Mt.two h (Rs.rqC q) [Value.int .u32 0, .int .i64 0, .int .i64 0, .int .u32 0, .int .i64 0, .int .i64 0, .int .i64 0] 42 38)
  have hk : Rs.chk q = 200 := by unfold Rs.chk; rw [if_neg hm]
  rw [hk] at HQ
  clear hk hm h ho hq
  unfold Rs.rqV at *
  unfold Rs.rqC at HM
  unfold anV Rt.ryV Rt.zRy
  simp only
  generalize hb : p.b = b at *
  have HB := hide hb
  clear hb
  go_enter Tryz.func6, Tryz.ntmps6
  go_wp2_with fail
  refine (HN.out _ HM.out.bk).mono ?_
  rintro e w1 ⟨rfl, m1⟩
  have M1 := hide (HM.out.mt m1)
  clear m1 HM HN
  obtain ⟨c0, c1, c2, c3, c4⟩ := bx5 M1.out.b1
  go_wp2_with fail
  refine (HQ.out _).mono ?_
  rintro e w2 ⟨rfl, hg⟩
  have M2 := hide (M1.out.then hg)
  clear hg M1 HQ c0 c1 c2 c3 c4
  obtain ⟨⟨x0, x1, x2, x3, x4, x5, x6⟩, x7⟩ := bxf7 M2.out.b0
  go_wp2
  obtain ⟨r1, r3⟩ := an_end M2.out (g := w.heap.size + 1) (List.mem_cons_self ..) rfl (.int .u32 0) (.int .i64 0) (.int .i64 0) (.int .u32 0) (.int .i64 0) (.int .i64 0) (.int .i64 0)
  exact bodyPost_ret (results_c1t1 rfl _ _ (w.heap.size + 1) _ rfl r1 rfl) rfl ⟨rfl, r3⟩
set_option maxHeartbeats 4000000 in
theorem answer_kind (h : BkAt w p S K) (ho : S.Ok) (q : Rs.Rq) (hq : q.Ok) (hm : q.May) (h5 : q.k ≠ 5) (h6 : q.k ≠ 6) (h8 : q.k ≠ 10) : Calls Tryz.prog 6 #[.pointer (some ⟨p.b, 0, none⟩), Rs.rqV q] w fun e w' => e = .returned (anV (Rt.zRy, 200)) ∧ Mt w w' p S K [] := by
  have HN : Hid (∀ W, BkAt W p S K → Calls Tryz.prog 17 #[.pointer (some ⟨p.b, 0, none⟩)] W fun e w' => e = .returned (.bool false) ∧ Mt W w' p S K []) := fun W hW => isNone_no hW ho
  have HQ := hide (fun W => Rs.check_any q hq W)
  have HM := hide (Mt.two h (Rs.rqC q) [Value.int .u32 0, .int .i64 0, .int .i64 0, .int .u32 0, .int .i64 0, .int .i64 0, .int .i64 0] 42 38)
  have hk : Rs.chk q = 0 := by unfold Rs.chk; rw [if_pos hm]
  rw [hk] at HQ
  have f5 : (q.k == 5) = false := by simpa using h5
  have g5 : decide (q.k = 5) = false := by simpa using h5
  have f6 : (q.k == 6) = false := by simpa using h6
  have g6 : decide (q.k = 6) = false := by simpa using h6
  have f8 : (q.k == 10) = false := by simpa using h8
  have g8 : decide (q.k = 10) = false := by simpa using h8
  clear hk hm h ho hq h5 h6 h8
  unfold Rs.rqV at *
  unfold Rs.rqC at HM
  unfold anV Rt.ryV Rt.zRy
  simp only
  generalize hb : p.b = b at *
  have HB := hide hb
  clear hb
  go_enter Tryz.func6, Tryz.ntmps6
  go_wp2_with fail
  refine (HN.out _ HM.out.bk).mono ?_
  rintro e w1 ⟨rfl, m1⟩
  have M1 := hide (HM.out.mt m1)
  clear m1 HM HN
  obtain ⟨c0, c1, c2, c3, c4⟩ := bx5 M1.out.b1
  go_wp2_with fail
  refine (HQ.out _).mono ?_
  rintro e w2 ⟨rfl, hg⟩
  have M2 := hide (M1.out.then hg)
  clear hg M1 HQ c0 c1 c2 c3 c4
  obtain ⟨c0, c1, c2, c3, c4⟩ := bx5 M2.out.b1
  have M3 := hide (M2.out.box [.int .u32 q.t, .int .i64 q.k, .int .i64 0, .int .u32 0, .int .i64 0, .int .i64 0, .int .i64 0] 38)
  obtain ⟨k0, k1, k2, k3, k4⟩ := bx5 M3.out.b2
  obtain ⟨⟨x0, x1, x2, x3, x4, x5, x6⟩, x7⟩ := bxf7 M3.out.b1
  go_wp2
  obtain ⟨r1, r3⟩ := an_end M3.out (g := w.heap.size + 1) (List.mem_cons_of_mem _ (List.mem_cons_self ..)) rfl (.int .u32 0) (.int .i64 0) (.int .i64 0) (.int .u32 0) (.int .i64 0) (.int .i64 0) (.int .i64 0)
  exact bodyPost_ret (results_c1t1 rfl _ _ (w.heap.size + 1) _ rfl r1 rfl) rfl ⟨rfl, r3⟩
set_option maxRecDepth 20000 in
set_option maxHeartbeats 8000000 in
theorem answer_5 (h : BkAt w p S K) (ho : S.Ok) (t i s u : Int) (hq : Rs.Rq.Ok ⟨5, t, i, s, u⟩) (hm : Rs.Rq.May ⟨5, t, i, s, u⟩) : Calls Tryz.prog 6 #[.pointer (some ⟨p.b, 0, none⟩), .agg #[.int .i64 5, .int .u32 t, .int .u32 i, .int .i64 s, .int .i64 u]] w fun e w' => e = .returned (anV (ans S ⟨5, t, i, s, u⟩)) ∧ Mt w w' p S K [] := by
  obtain ⟨res, hres⟩ : ∃ res, res = ans S ⟨5, t, i, s, u⟩ := ⟨_, rfl⟩
  rw [← hres]
  have hrs : res = (ansY S ⟨5, t, i, s, u⟩, 0) := by rw [hres]; unfold ans; rw [if_pos ⟨hm, by simp⟩]
  have hk : Rs.chk ⟨5, t, i, s, u⟩ = 0 := by unfold Rs.chk; rw [if_pos hm]
  have HN : Hid (∀ W, BkAt W p S K → Calls Tryz.prog 17 #[.pointer (some ⟨p.b, 0, none⟩)] W fun e w' => e = .returned (.bool false) ∧ Mt W w' p S K []) := fun W hW => isNone_no hW ho
  have HQ := hide (fun W => Rs.check_any ⟨5, t, i, s, u⟩ hq W)
  have HM := hide (Mt.two h (Rs.rqC ⟨5, t, i, s, u⟩) [Value.int .u32 0, .int .i64 0, .int .i64 0, .int .u32 0, .int .i64 0, .int .i64 0, .int .i64 0] 42 38)
  rw [hk] at HQ
  obtain ⟨n, hn⟩ := Int.eq_ofNat_of_zero_le hq.i0
  simp only at hn
  have HGt : Hid (∀ W, BkAt W p S K → Calls Tryz.prog 19 #[.pointer (some ⟨p.b, 0, none⟩), .int .u32 i] W fun e w' => e = .returned (.tuple #[bgV ((fnd S.L n).getD ⟨0, 0, 0⟩), .int .i64 (if (fnd S.L n).isSome then 0 else 171)]) ∧ Mt W w' p S K []) := fun W hW => by
    have := get_any hW ho.wk n (by have := hq.i1; simp only at this; omega)
    rw [← hn] at this
    exact this.mono (fun e w' x => ⟨x.1, (Mt.start hW).go x.2.2 x.2.1⟩)
  have HZ : Hid (res = (⟨t, 5, (if (fnd S.L n).isSome then 0 else 171), 0, (((fnd S.L n).getD ⟨0, 0, 0⟩).s : Int), ((fnd S.L n).getD ⟨0, 0, 0⟩).u, 0⟩, 0)) := by rw [Hid, hrs, hn]; rfl
  clear h ho hq hm hres hrs hk hn
  generalize (fnd S.L n).getD ⟨0, 0, 0⟩ = x at *
  generalize (if (fnd S.L n).isSome = true then (0 : Int) else 171) = er at *
  obtain ⟨xi, xs, xu⟩ := x
  unfold bgV at HGt
  unfold Rs.rqV at *
  unfold Rs.rqC at HM
  simp only at *
  generalize hb : p.b = b at *
  have HB := hide hb
  clear hb
  go_enter Tryz.func6, Tryz.ntmps6
  go_wp2_with fail
  refine (HN.out _ HM.out.bk).mono ?_
  rintro e w1 ⟨rfl, m1⟩
  have M1 := hide (HM.out.mt m1)
  clear m1 HM HN
  obtain ⟨c0, c1, c2, c3, c4⟩ := bx5 M1.out.b1
  go_wp2_with fail
  refine (HQ.out _).mono ?_
  rintro e w2 ⟨rfl, hg⟩
  have M2 := hide (M1.out.then hg)
  clear hg M1 HQ c0 c1 c2 c3 c4
  obtain ⟨c0, c1, c2, c3, c4⟩ := bx5 M2.out.b1
  have HNe : Hid (w.heap.size + 1 < w2.heap.size) := row_lt M2.out.b0
  have M3 := hide (M2.out.box [.int .u32 t, .int .i64 5, .int .i64 0, .int .u32 0, .int .i64 0, .int .i64 0, .int .i64 0] 38)
  obtain ⟨k0, k1, k2, k3, k4⟩ := bx5 M3.out.b2
  go_wp2_with fail
  generalize hY : w2.heap.size = Y at *
  generalize World.alloc w2 _ = w3 at *
  clear hY M2 c0 c1 c2 c3 c4
  refine (HGt.out _ M3.out.bk).mono ?_
  rintro e w4 ⟨rfl, m4⟩
  have M4 := hide (M3.out.mt m4)
  clear m4 M3 HGt k0 k1 k2 k3 k4
  have HNz : Hid (Y < w4.heap.size) := row_lt M4.out.b0
  have M5 := hide (M4.out.box [.int .u32 (xi : Int), .int .i64 (xs : Int), .int .i64 xu] 34)
  clear M4
  go_wp2
  generalize hZb : w4.heap.size = Z at *
  generalize World.alloc w4 _ = w5 at *
  clear hZb
  have n1 : Hid (Y ≠ Z) := fun e => by have := HNz.out; omega
  have M6 := hide (M5.out.then (grown_drew w5 none))
  obtain ⟨z0, z1, z2, z3⟩ := box3 M6.out.b0
  have hS0 : w5.drew.cell? ⟨Z, 1, none⟩ = some (.int .i64 (xs : Int)) ∧ w5.drew.cell? ⟨Z, 2, none⟩ = some (.int .i64 xu) := ⟨z1, z2⟩
  obtain ⟨⟨x0, x1, x2, x3, x4, x5, x6⟩, x7⟩ := bxf7 M6.out.b1
  clear M5 z0 z1 z2 z3
  refine wp_region_held_drew (S := (fun W => W.cell? ⟨Z, 1, none⟩ = some (.int .i64 (xs : Int)) ∧ W.cell? ⟨Z, 2, none⟩ = some (.int .i64 xu))) (by kernel_rfl) ?_ (fun hHeld => ?_)
  · (exact hS0)
  generalize World.drew w5 = wd at *
  refine tkH (i := 0) (v := ?_) rfl ?_ ?_
  rotate_left
  · (intro w hSw; (try dsimp only at hSw); (go_simp <;> with_reducible rfl))
  try simp only [Act.put, List.setIfInBounds_toArray]
  refine tkH (i := 1) (v := ?_) rfl ?_ ?_
  rotate_left
  · (intro w hSw; (try dsimp only at hSw); (go_simp <;> with_reducible rfl))
  try simp only [Act.put]
  refine tkH (i := 2) (v := ?_) rfl ?_ ?_
  rotate_left
  · (intro w hSw; (try dsimp only at hSw); (go_simp <;> with_reducible rfl))
  try simp only [Act.put]
  refine tkH (i := 3) (v := ?_) rfl ?_ ?_
  rotate_left
  · (intro w hSw; (try dsimp only at hSw); (go_simp <;> with_reducible rfl))
  try simp only [Act.put]
  refine tkH (i := 4) (v := ?_) rfl ?_ ?_
  rotate_left
  · (intro w hSw; (try dsimp only at hSw); (go_simp <;> with_reducible rfl))
  try simp only [Act.put]
  refine tkH (i := 5) (v := ?_) rfl ?_ ?_
  rotate_left
  · (intro w hSw; (try dsimp only at hSw); (go_simp <;> with_reducible rfl))
  try simp only [Act.put]
  refine rdH (i := 6) rfl (fun K hK => ?_)
  go_simp
  refine hK.out _ _ ?_ (fun hHeld => ?_)
  · ((try dsimp only); first | with_reducible exact ⟨cell_set1 hS0.1 n1.out, cell_set1 hS0.2 n1.out⟩ | with_reducible exact ⟨cell_set1 (cell_set1 hS0.1 n1.out) n1.out, cell_set1 (cell_set1 hS0.2 n1.out) n1.out⟩ | with_reducible exact ⟨cell_set1 (cell_set1 (cell_set1 hS0.1 n1.out) n1.out) n1.out, cell_set1 (cell_set1 (cell_set1 hS0.2 n1.out) n1.out) n1.out⟩)
  clear hK K
  try simp only [Act.put, List.setIfInBounds_toArray, List.set_cons_zero, List.set_cons_succ]
  refine tkH (i := 7) (v := ?_) rfl ?_ ?_
  rotate_left
  · (intro w hSw; (try dsimp only at hSw); (go_simp <;> with_reducible rfl))
  try simp only [Act.put, List.setIfInBounds_toArray]
  refine rdH (i := 8) rfl (fun K hK => ?_)
  go_simp
  refine hK.out _ _ ?_ (fun hHeld => ?_)
  · ((try dsimp only); first | with_reducible exact ⟨cell_set1 hS0.1 n1.out, cell_set1 hS0.2 n1.out⟩ | with_reducible exact ⟨cell_set1 (cell_set1 hS0.1 n1.out) n1.out, cell_set1 (cell_set1 hS0.2 n1.out) n1.out⟩ | with_reducible exact ⟨cell_set1 (cell_set1 (cell_set1 hS0.1 n1.out) n1.out) n1.out, cell_set1 (cell_set1 (cell_set1 hS0.2 n1.out) n1.out) n1.out⟩)
  clear hK K
  try simp only [Act.put, List.setIfInBounds_toArray, List.set_cons_zero, List.set_cons_succ]
  refine tkH (i := 9) (v := ?_) rfl ?_ ?_
  rotate_left
  · (intro w hSw; (try dsimp only at hSw); (go_simp <;> with_reducible rfl))
  try simp only [Act.put, List.setIfInBounds_toArray]
  refine rdH (i := 10) rfl (fun K hK => ?_)
  go_simp
  refine hK.out _ _ ?_ (fun hHeld => ?_)
  · ((try dsimp only); first | with_reducible exact ⟨cell_set1 hS0.1 n1.out, cell_set1 hS0.2 n1.out⟩ | with_reducible exact ⟨cell_set1 (cell_set1 hS0.1 n1.out) n1.out, cell_set1 (cell_set1 hS0.2 n1.out) n1.out⟩ | with_reducible exact ⟨cell_set1 (cell_set1 (cell_set1 hS0.1 n1.out) n1.out) n1.out, cell_set1 (cell_set1 (cell_set1 hS0.2 n1.out) n1.out) n1.out⟩)
  clear hK K
  try simp only [Act.put, List.setIfInBounds_toArray, List.set_cons_zero, List.set_cons_succ]
  refine wpAnyH_done (by kernel_rfl) ?_ _
  have hne : ∀ y ∈ [(w.heap.size + 1, [Value.int .u32 0, .int .i64 0, .int .i64 0, .int .u32 0, .int .i64 0, .int .i64 0, .int .i64 0], (38 : TypeId))], y.1 ≠ Y := fun y hy => by
    rcases List.mem_cons.1 hy with rfl | hy
    · exact fun e => by have := HNe.out; simp only at e; omega
    · cases hy
  have M7 := hide ((((M6.out.sub (Cs := [(Y, _, 38), (w.heap.size + 1, _, 38)]) (fun y hy => by
    rcases List.mem_cons.1 hy with rfl | hy
    · exact (List.mem_cons_of_mem _ (List.mem_cons_self ..))
    · rcases List.mem_cons.1 hy with rfl | hy
      · exact (List.mem_cons_of_mem _ (List.mem_cons_of_mem _ (List.mem_cons_self ..)))
      · cases hy)).put1 hne 2 (.int .i64 er)).put1 hne 4 (.int .i64 (xs : Int))).put1 hne 5 (.int .i64 xu))
  clear hne M6 x0 x1 x2 x3 x4 x5 x6 x7
  generalize World.setCell (World.setCell (World.setCell wd _ _) _ _) _ _ = w9 at *
  obtain ⟨y0, y1, y2, y3, y4, y5, y6⟩ := bx7 M7.out.b0
  obtain ⟨⟨x0, x1, x2, x3, x4, x5, x6⟩, x7⟩ := bxf7 M7.out.b1
  go_wp2
  obtain ⟨r1, r3⟩ := an_end M7.out (g := w.heap.size + 1) (List.mem_cons_of_mem _ (List.mem_cons_self ..)) rfl (.int .u32 t) (.int .i64 5) (.int .i64 er) (.int .u32 0) (.int .i64 (xs : Int)) (.int .i64 xu) (.int .i64 0)
  exact bodyPost_ret (results_c1t1 rfl _ _ (w.heap.size + 1) _ rfl r1 rfl) rfl ⟨by rw [HZ.out]; rfl, r3⟩
set_option maxRecDepth 20000 in
set_option maxHeartbeats 8000000 in
theorem answer_6 (h : BkAt w p S K) (ho : S.Ok) (t i s u : Int) (hq : Rs.Rq.Ok ⟨6, t, i, s, u⟩) (hm : Rs.Rq.May ⟨6, t, i, s, u⟩) : Calls Tryz.prog 6 #[.pointer (some ⟨p.b, 0, none⟩), .agg #[.int .i64 6, .int .u32 t, .int .u32 i, .int .i64 s, .int .i64 u]] w fun e w' => e = .returned (anV (ans S ⟨6, t, i, s, u⟩)) ∧ Mt w w' p S K [] := by
  obtain ⟨res, hres⟩ : ∃ res, res = ans S ⟨6, t, i, s, u⟩ := ⟨_, rfl⟩
  rw [← hres]
  have hrs : res = (ansY S ⟨6, t, i, s, u⟩, 0) := by rw [hres]; unfold ans; rw [if_pos ⟨hm, by simp⟩]
  have hk : Rs.chk ⟨6, t, i, s, u⟩ = 0 := by unfold Rs.chk; rw [if_pos hm]
  have HN : Hid (∀ W, BkAt W p S K → Calls Tryz.prog 17 #[.pointer (some ⟨p.b, 0, none⟩)] W fun e w' => e = .returned (.bool false) ∧ Mt W w' p S K []) := fun W hW => isNone_no hW ho
  have HQ := hide (fun W => Rs.check_any ⟨6, t, i, s, u⟩ hq W)
  have HM := hide (Mt.two h (Rs.rqC ⟨6, t, i, s, u⟩) [Value.int .u32 0, .int .i64 0, .int .i64 0, .int .u32 0, .int .i64 0, .int .i64 0, .int .i64 0] 42 38)
  rw [hk] at HQ
  have HGt : Hid (∀ W, BkAt W p S K → Calls Tryz.prog 20 #[.pointer (some ⟨p.b, 0, none⟩), .int .i64 s] W fun e w' => e = .returned (.tuple #[bgV (atX S s), .int .i64 (atE S s)]) ∧ Mt W w' p S K []) := fun W hW => (at_any hW ho.wk s).mono (fun e w' x => ⟨x.1, (Mt.start hW).then x.2⟩)
  have HZ : Hid (res = (⟨t, 6, atE S s, ((atX S s).i : Int), 0, (atX S s).u, 0⟩, 0)) := by rw [Hid, hrs]; rfl
  clear h ho hq hm hres hrs hk
  generalize atX S s = x at *
  generalize atE S s = er at *
  obtain ⟨xi, xs, xu⟩ := x
  unfold bgV at HGt
  unfold Rs.rqV at *
  unfold Rs.rqC at HM
  simp only at *
  generalize hb : p.b = b at *
  have HB := hide hb
  clear hb
  go_enter Tryz.func6, Tryz.ntmps6
  go_wp2_with fail
  refine (HN.out _ HM.out.bk).mono ?_
  rintro e w1 ⟨rfl, m1⟩
  have M1 := hide (HM.out.mt m1)
  clear m1 HM HN
  obtain ⟨c0, c1, c2, c3, c4⟩ := bx5 M1.out.b1
  go_wp2_with fail
  refine (HQ.out _).mono ?_
  rintro e w2 ⟨rfl, hg⟩
  have M2 := hide (M1.out.then hg)
  clear hg M1 HQ c0 c1 c2 c3 c4
  obtain ⟨c0, c1, c2, c3, c4⟩ := bx5 M2.out.b1
  have HNe : Hid (w.heap.size + 1 < w2.heap.size) := row_lt M2.out.b0
  have M3 := hide (M2.out.box [.int .u32 t, .int .i64 6, .int .i64 0, .int .u32 0, .int .i64 0, .int .i64 0, .int .i64 0] 38)
  obtain ⟨k0, k1, k2, k3, k4⟩ := bx5 M3.out.b2
  go_wp2_with fail
  generalize hY : w2.heap.size = Y at *
  generalize World.alloc w2 _ = w3 at *
  clear hY M2 c0 c1 c2 c3 c4
  refine (HGt.out _ M3.out.bk).mono ?_
  rintro e w4 ⟨rfl, m4⟩
  have M4 := hide (M3.out.mt m4)
  clear m4 M3 HGt k0 k1 k2 k3 k4
  have HNz : Hid (Y < w4.heap.size) := row_lt M4.out.b0
  have M5 := hide (M4.out.box [.int .u32 (xi : Int), .int .i64 (xs : Int), .int .i64 xu] 34)
  clear M4
  go_wp2
  generalize hZb : w4.heap.size = Z at *
  generalize World.alloc w4 _ = w5 at *
  clear hZb
  have n1 : Hid (Y ≠ Z) := fun e => by have := HNz.out; omega
  have M6 := hide (M5.out.then (grown_drew w5 none))
  obtain ⟨z0, z1, z2, z3⟩ := box3 M6.out.b0
  have hS0 : w5.drew.cell? ⟨Z, 0, none⟩ = some (.int .u32 (xi : Int)) ∧ w5.drew.cell? ⟨Z, 2, none⟩ = some (.int .i64 xu) := ⟨z0, z2⟩
  obtain ⟨⟨x0, x1, x2, x3, x4, x5, x6⟩, x7⟩ := bxf7 M6.out.b1
  clear M5 z0 z1 z2 z3
  refine wp_region_held_drew (S := (fun W => W.cell? ⟨Z, 0, none⟩ = some (.int .u32 (xi : Int)) ∧ W.cell? ⟨Z, 2, none⟩ = some (.int .i64 xu))) (by kernel_rfl) ?_ (fun hHeld => ?_)
  · (exact hS0)
  generalize World.drew w5 = wd at *
  refine tkH (i := 0) (v := ?_) rfl ?_ ?_
  rotate_left
  · (intro w hSw; (try dsimp only at hSw); (go_simp <;> with_reducible rfl))
  try simp only [Act.put, List.setIfInBounds_toArray]
  refine tkH (i := 1) (v := ?_) rfl ?_ ?_
  rotate_left
  · (intro w hSw; (try dsimp only at hSw); (go_simp <;> with_reducible rfl))
  try simp only [Act.put]
  refine tkH (i := 2) (v := ?_) rfl ?_ ?_
  rotate_left
  · (intro w hSw; (try dsimp only at hSw); (go_simp <;> with_reducible rfl))
  try simp only [Act.put]
  refine tkH (i := 3) (v := ?_) rfl ?_ ?_
  rotate_left
  · (intro w hSw; (try dsimp only at hSw); (go_simp <;> with_reducible rfl))
  try simp only [Act.put]
  refine tkH (i := 4) (v := ?_) rfl ?_ ?_
  rotate_left
  · (intro w hSw; (try dsimp only at hSw); (go_simp <;> with_reducible rfl))
  try simp only [Act.put]
  refine tkH (i := 5) (v := ?_) rfl ?_ ?_
  rotate_left
  · (intro w hSw; (try dsimp only at hSw); (go_simp <;> with_reducible rfl))
  try simp only [Act.put]
  refine rdH (i := 6) rfl (fun K hK => ?_)
  go_simp
  refine hK.out _ _ ?_ (fun hHeld => ?_)
  · ((try dsimp only); first | with_reducible exact ⟨cell_set1 hS0.1 n1.out, cell_set1 hS0.2 n1.out⟩ | with_reducible exact ⟨cell_set1 (cell_set1 hS0.1 n1.out) n1.out, cell_set1 (cell_set1 hS0.2 n1.out) n1.out⟩ | with_reducible exact ⟨cell_set1 (cell_set1 (cell_set1 hS0.1 n1.out) n1.out) n1.out, cell_set1 (cell_set1 (cell_set1 hS0.2 n1.out) n1.out) n1.out⟩)
  clear hK K
  try simp only [Act.put, List.setIfInBounds_toArray, List.set_cons_zero, List.set_cons_succ]
  refine tkH (i := 7) (v := ?_) rfl ?_ ?_
  rotate_left
  · (intro w hSw; (try dsimp only at hSw); (go_simp <;> with_reducible rfl))
  try simp only [Act.put, List.setIfInBounds_toArray]
  refine rdH (i := 8) rfl (fun K hK => ?_)
  go_simp
  refine hK.out _ _ ?_ (fun hHeld => ?_)
  · ((try dsimp only); first | with_reducible exact ⟨cell_set1 hS0.1 n1.out, cell_set1 hS0.2 n1.out⟩ | with_reducible exact ⟨cell_set1 (cell_set1 hS0.1 n1.out) n1.out, cell_set1 (cell_set1 hS0.2 n1.out) n1.out⟩ | with_reducible exact ⟨cell_set1 (cell_set1 (cell_set1 hS0.1 n1.out) n1.out) n1.out, cell_set1 (cell_set1 (cell_set1 hS0.2 n1.out) n1.out) n1.out⟩)
  clear hK K
  try simp only [Act.put, List.setIfInBounds_toArray, List.set_cons_zero, List.set_cons_succ]
  refine tkH (i := 9) (v := ?_) rfl ?_ ?_
  rotate_left
  · (intro w hSw; (try dsimp only at hSw); (go_simp <;> with_reducible rfl))
  try simp only [Act.put, List.setIfInBounds_toArray]
  refine rdH (i := 10) rfl (fun K hK => ?_)
  go_simp
  refine hK.out _ _ ?_ (fun hHeld => ?_)
  · ((try dsimp only); first | with_reducible exact ⟨cell_set1 hS0.1 n1.out, cell_set1 hS0.2 n1.out⟩ | with_reducible exact ⟨cell_set1 (cell_set1 hS0.1 n1.out) n1.out, cell_set1 (cell_set1 hS0.2 n1.out) n1.out⟩ | with_reducible exact ⟨cell_set1 (cell_set1 (cell_set1 hS0.1 n1.out) n1.out) n1.out, cell_set1 (cell_set1 (cell_set1 hS0.2 n1.out) n1.out) n1.out⟩)
  clear hK K
  try simp only [Act.put, List.setIfInBounds_toArray, List.set_cons_zero, List.set_cons_succ]
  refine wpAnyH_done (by kernel_rfl) ?_ _
  have hne : ∀ y ∈ [(w.heap.size + 1, [Value.int .u32 0, .int .i64 0, .int .i64 0, .int .u32 0, .int .i64 0, .int .i64 0, .int .i64 0], (38 : TypeId))], y.1 ≠ Y := fun y hy => by
    rcases List.mem_cons.1 hy with rfl | hy
    · exact fun e => by have := HNe.out; simp only at e; omega
    · cases hy
  have M7 := hide ((((M6.out.sub (Cs := [(Y, _, 38), (w.heap.size + 1, _, 38)]) (fun y hy => by
    rcases List.mem_cons.1 hy with rfl | hy
    · exact (List.mem_cons_of_mem _ (List.mem_cons_self ..))
    · rcases List.mem_cons.1 hy with rfl | hy
      · exact (List.mem_cons_of_mem _ (List.mem_cons_of_mem _ (List.mem_cons_self ..)))
      · cases hy)).put1 hne 2 (.int .i64 er)).put1 hne 3 (.int .u32 (xi : Int))).put1 hne 5 (.int .i64 xu))
  clear hne M6 x0 x1 x2 x3 x4 x5 x6 x7
  generalize World.setCell (World.setCell (World.setCell wd _ _) _ _) _ _ = w9 at *
  obtain ⟨y0, y1, y2, y3, y4, y5, y6⟩ := bx7 M7.out.b0
  obtain ⟨⟨x0, x1, x2, x3, x4, x5, x6⟩, x7⟩ := bxf7 M7.out.b1
  go_wp2
  obtain ⟨r1, r3⟩ := an_end M7.out (g := w.heap.size + 1) (List.mem_cons_of_mem _ (List.mem_cons_self ..)) rfl (.int .u32 t) (.int .i64 6) (.int .i64 er) (.int .u32 (xi : Int)) (.int .i64 0) (.int .i64 xu) (.int .i64 0)
  exact bodyPost_ret (results_c1t1 rfl _ _ (w.heap.size + 1) _ rfl r1 rfl) rfl ⟨by rw [HZ.out]; rfl, r3⟩
set_option maxRecDepth 20000 in
set_option maxHeartbeats 8000000 in
theorem answer_10 (h : BkAt w p S K) (ho : S.Ok) (t i s u : Int) (hq : Rs.Rq.Ok ⟨10, t, i, s, u⟩) (hm : Rs.Rq.May ⟨10, t, i, s, u⟩) : Calls Tryz.prog 6 #[.pointer (some ⟨p.b, 0, none⟩), .agg #[.int .i64 10, .int .u32 t, .int .u32 i, .int .i64 s, .int .i64 u]] w fun e w' => e = .returned (anV (ans S ⟨10, t, i, s, u⟩)) ∧ Mt w w' p S K [] := by
  obtain ⟨res, hres⟩ : ∃ res, res = ans S ⟨10, t, i, s, u⟩ := ⟨_, rfl⟩
  rw [← hres]
  have hrs : res = (ansY S ⟨10, t, i, s, u⟩, 0) := by rw [hres]; unfold ans; rw [if_pos ⟨hm, by simp⟩]
  have hk : Rs.chk ⟨10, t, i, s, u⟩ = 0 := by unfold Rs.chk; rw [if_pos hm]
  have HN : Hid (∀ W, BkAt W p S K → Calls Tryz.prog 17 #[.pointer (some ⟨p.b, 0, none⟩)] W fun e w' => e = .returned (.bool false) ∧ Mt W w' p S K []) := fun W hW => isNone_no hW ho
  have HQ := hide (fun W => Rs.check_any ⟨10, t, i, s, u⟩ hq W)
  have HM := hide (Mt.two h (Rs.rqC ⟨10, t, i, s, u⟩) [Value.int .u32 0, .int .i64 0, .int .i64 0, .int .u32 0, .int .i64 0, .int .i64 0, .int .i64 0] 42 38)
  rw [hk] at HQ
  have HGt : Hid (∀ W, BkAt W p S K → Calls Tryz.prog 21 #[.pointer (some ⟨p.b, 0, none⟩)] W fun e w' => e = .returned (.int .i64 (S.L.length : Int)) ∧ w' = W) := fun W hW => len_any hW
  have HZ : Hid (res = (⟨t, 10, 0, 0, 0, 0, (S.L.length : Int)⟩, 0)) := by rw [Hid, hrs]; rfl
  clear h ho hq hm hres hrs hk
  generalize (S.L.length : Int) = ln at *
  unfold Rs.rqV at *
  unfold Rs.rqC at HM
  simp only at *
  generalize hb : p.b = b at *
  have HB := hide hb
  clear hb
  go_enter Tryz.func6, Tryz.ntmps6
  go_wp2_with fail
  refine (HN.out _ HM.out.bk).mono ?_
  rintro e w1 ⟨rfl, m1⟩
  have M1 := hide (HM.out.mt m1)
  clear m1 HM HN
  obtain ⟨c0, c1, c2, c3, c4⟩ := bx5 M1.out.b1
  go_wp2_with fail
  refine (HQ.out _).mono ?_
  rintro e w2 ⟨rfl, hg⟩
  have M2 := hide (M1.out.then hg)
  clear hg M1 HQ c0 c1 c2 c3 c4
  obtain ⟨c0, c1, c2, c3, c4⟩ := bx5 M2.out.b1
  have HNe : Hid (w.heap.size + 1 < w2.heap.size) := row_lt M2.out.b0
  have M3 := hide (M2.out.box [.int .u32 t, .int .i64 10, .int .i64 0, .int .u32 0, .int .i64 0, .int .i64 0, .int .i64 0] 38)
  obtain ⟨k0, k1, k2, k3, k4⟩ := bx5 M3.out.b2
  go_wp2_with fail
  generalize hY : w2.heap.size = Y at *
  generalize World.alloc w2 _ = w3 at *
  clear hY M2 c0 c1 c2 c3 c4
  refine (HGt.out _ M3.out.bk).mono ?_
  rintro e wx ⟨rfl, hwx⟩
  obtain rfl := hwx.symm
  clear hwx
  obtain ⟨⟨y0, y1, y2, y3, y4, y5, y6⟩, y7⟩ := bxf7 M3.out.b0
  obtain ⟨⟨x0, x1, x2, x3, x4, x5, x6⟩, x7⟩ := bxf7 M3.out.b1
  have hne : ∀ y ∈ [(w.heap.size + 1, [Value.int .u32 0, .int .i64 0, .int .i64 0, .int .u32 0, .int .i64 0, .int .i64 0, .int .i64 0], (38 : TypeId))], y.1 ≠ Y := fun y hy => by
    rcases List.mem_cons.1 hy with rfl | hy
    · exact fun e => by have := HNe.out; simp only at e; omega
    · cases hy
  have M7 := hide ((M3.out.sub (Cs := [(Y, _, 38), (w.heap.size + 1, _, 38)]) (fun y hy => by
    rcases List.mem_cons.1 hy with rfl | hy
    · exact (List.mem_cons_self ..)
    · rcases List.mem_cons.1 hy with rfl | hy
      · exact (List.mem_cons_of_mem _ (List.mem_cons_self ..))
      · cases hy)).put1 hne 6 (.int .i64 ln))
  have hY1 : Hid (Y ≠ w.heap.size + 1) := fun e => by have := HNe.out; omega
  clear hne k0 k1 k2 k3 k4 x0 x1 x2 x3 x4 x5 x6 x7 M3
  go_upto_region 16 with fail
  generalize World.setCell w3 _ _ = w9 at *
  clear y0 y1 y2 y3 y4 y5 y6 y7
  obtain ⟨y0, y1, y2, y3, y4, y5, y6⟩ := bx7 M7.out.b0
  obtain ⟨⟨x0, x1, x2, x3, x4, x5, x6⟩, x7⟩ := bxf7 M7.out.b1
  go_wp2
  obtain ⟨r1, r3⟩ := an_end M7.out (g := w.heap.size + 1) (List.mem_cons_of_mem _ (List.mem_cons_self ..)) rfl (.int .u32 t) (.int .i64 10) (.int .i64 0) (.int .u32 0) (.int .i64 0) (.int .i64 0) (.int .i64 ln)
  exact bodyPost_ret (results_c1t1 rfl _ _ (w.heap.size + 1) _ rfl r1 rfl) rfl ⟨by rw [HZ.out]; rfl, r3⟩
end
end Go.Proofs.YtjfhilignbeboabGreatDoor
namespace Go.Proofs.YtjfhilignbeboabGreatDoor
/- Decide and Answer of any request. -/
open Go.RowKit
theorem decide_any {w : World} {p : Bp} {S : Sb} {K : Nat} (h : BkAt w p S K) (ho : S.Ok) (room : Int) (q : Rs.Rq) (hq : q.Ok) (hT : Rk.Tab w) : Calls Tryz.prog 23 #[.pointer (some ⟨p.b, 0, none⟩), .int .i64 room, Rs.rqV q] w fun e w' => e = .returned (dcV (dec S room q)) ∧ Mt w w' p S K [] := by
  by_cases hc : isChg q
  · obtain ⟨k, t, i, s, u⟩ := q
    rcases chg_kinds hc with hk | hk | hk | hk | hk
    all_goals
      simp only at hk
      subst hk
    · exact decide_1 h ho room t i s u hq hc.1 hT
    · exact decide_2 h ho room t i s u hq hc.1 hT
    · exact decide_3 h ho room t i s u hq hc.1 hT
    · exact decide_4 h ho room t i s u hq hc.1 hT
    · exact decide_7 h ho room t i s u hq hc.1 hT
  · rw [dec_no hc]
    by_cases hm : q.May
    · exact decide_kind h ho room q hq hm (by
        cases hx : Rs.chg q.k with
        | false => rfl
        | true => exact absurd ⟨hm, hx⟩ hc)
    · exact decide_may h ho room q hq hm
theorem ans_no {S : Sb} {q : Rs.Rq} (h : ¬ isAsk q) : ans S q = (Rt.zRy, 200) := by unfold ans; rw [if_neg h]
theorem answer_any {w : World} {p : Bp} {S : Sb} {K : Nat} (h : BkAt w p S K) (ho : S.Ok) (q : Rs.Rq) (hq : q.Ok) : Calls Tryz.prog 6 #[.pointer (some ⟨p.b, 0, none⟩), Rs.rqV q] w fun e w' => e = .returned (anV (ans S q)) ∧ Mt w w' p S K [] := by
  by_cases hm : q.May
  · obtain ⟨k, t, i, s, u⟩ := q
    by_cases h5 : k = 5
    · subst h5; exact answer_5 h ho t i s u hq hm
    · by_cases h6 : k = 6
      · subst h6; exact answer_6 h ho t i s u hq hm
      · by_cases h8 : k = 10
        · subst h8; exact answer_10 h ho t i s u hq hm
        · rw [ans_no (fun x => by have := x.2; simp only at this; omega)]; exact answer_kind h ho _ hq hm h5 h6 h8
  · rw [ans_no (fun x => hm x.1)]; exact answer_may h ho q hq hm
end Go.Proofs.YtjfhilignbeboabGreatDoor
/- A book of bookings that may be: Of. -/
namespace Go.Proofs.YtjfhilignbeboabGreatDoor
open Go.RowKit
attribute [local go_sem ↓] Go.wp_at_zero Go.wp_at_succ
attribute [local go_sem] Oper.semAt_some
theorem rd_mem {L : List Bg} {j : Nat} (hj : j < L.length) : rd L j ∈ L := by
  unfold rd; rw [List.getElem?_eq_getElem hj]; exact List.getElem_mem hj
theorem rd_asc {L : List Bg} (h : AscB L) {j k : Nat} (hjk : j < k) (hk : k < L.length) : (rd L j).i < (rd L k).i := by
  unfold rd
  rw [List.getElem?_eq_getElem hk, List.getElem?_eq_getElem (by omega)]
  exact List.pairwise_iff_getElem.1 h j k (by omega) hk hjk
set_option maxHeartbeats 4000000 in
theorem mayLast_ok {w : World} {p : Bp} {S : Sb} {K : Nat} (h : BkAt w p S K) {u : Int} (hu : u = 0 ∨ (S.t < u ∧ u ≤ mxC)) : Calls Tryz.prog 57 #[.pointer (some ⟨p.b, 0, none⟩), .int .i64 u] w fun e w' => e = .returned (.bool true) ∧ w' = w := by
  have c5 := h.cells 5 _ rfl
  clear h
  by_cases hz : u = 0
  · subst hz
    go_enter Tryz.func57, Tryz.ntmps57
    go_wp2
    go_ret
    exact ⟨rfl, rfl⟩
  · have h1 : S.t < u := by omega
    have h2 : u ≤ 1099511627776 := by rcases hu with e | e; exact absurd e hz; exact e.2
    have hz1 : (u == 0) = false := by simpa using hz
    have hz2 : decide (u = 0) = false := by simpa using hz
    clear hu
    go_enter Tryz.func57, Tryz.ntmps57
    go_wp2
    go_ret
    exact ⟨rfl, rfl⟩
set_option maxRecDepth 20000 in
set_option maxHeartbeats 8000000 in
theorem mayHave_ok {w : World} {p : Bp} {S : Sb} {K : Nat} (h : BkAt w p S K) (x : Bg) (hi : x.i < S.n) (hs : x.s < S.a) (hn : sat S.L x.s = none) (hf : S.L.length < S.b) (hu : x.u = 0 ∨ (S.t < x.u ∧ x.u ≤ mxC)) : Calls Tryz.prog 34 #[.pointer (some ⟨p.b, 0, none⟩), bgV x] w fun e w' => e = .returned (.bool true) ∧ w.grownBy w' none := by
  obtain ⟨xi, xs, xu⟩ := x
  simp only at hi hs hn hu
  have m0 := Bm.start h (bgc ⟨xi, xs, xu⟩) 34
  have HS : Hid (∀ W, Calls Tryz.prog 43 #[limV S.a S.b S.c, .int .i64 (xs : Int)] W fun e w' => e = .returned (.bool true) ∧ W.grownBy w' none) := by
    intro W
    have := hasSeat_any S.a S.b S.c (xs : Int) W
    rw [decide_eq_true (show (0 : Int) ≤ (xs : Int) ∧ (xs : Int) < (S.a : Int) by omega)] at this
    exact this
  have HR : Hid (∀ W, Calls Tryz.prog 56 #[limV S.a S.b S.c, .int .i64 (S.L.length : Int)] W fun e w' => e = .returned (.bool true) ∧ W.grownBy w' none) := by
    intro W
    have := hasRoom_any S.a S.b S.c (S.L.length : Int) W
    rw [decide_eq_true (show (S.L.length : Int) < (S.b : Int) by omega)] at this
    exact this
  have HH : Hid (∀ W, Bm w W w.heap.size (bgc ⟨xi, xs, xu⟩) 34 p S K → Calls Tryz.prog 44 #[.pointer (some ⟨p.tb, 0, none⟩), .int .i64 (xs : Int)] W fun e w' => e = .returned (.bool false) ∧ W.grownBy w' none) := by
    intro W hW
    have := hW.bk.has xs hs
    rw [hn] at this
    exact this
  have HL : Hid (∀ W, Bm w W w.heap.size (bgc ⟨xi, xs, xu⟩) 34 p S K → Calls Tryz.prog 37 #[.pointer (some ⟨p.ip.x, 0, none⟩)] W fun e w' => e = .returned (.int .i64 (S.L.length : Int)) ∧ w' = W) := fun W hW => hW.bk.len
  have HM : Hid (∀ W, Bm w W w.heap.size (bgc ⟨xi, xs, xu⟩) 34 p S K → Calls Tryz.prog 57 #[.pointer (some ⟨p.b, 0, none⟩), .int .i64 xu] W fun e w' => e = .returned (.bool true) ∧ w' = W) := fun W hW => mayLast_ok hW.bk hu
  have HK : Hid (∀ W, Bm w W w.heap.size (bgc ⟨xi, xs, xu⟩) 34 p S K → W.cell? ⟨p.b, 0, none⟩ = some (.int .i64 (S.a : Int)) ∧ W.cell? ⟨p.b, 1, none⟩ = some (.int .i64 (S.b : Int)) ∧ W.cell? ⟨p.b, 2, none⟩ = some (.int .i64 (S.c : Int)) ∧ W.cell? ⟨p.b, 4, none⟩ = some (.int .u32 (S.n : Int)) ∧ W.cell? ⟨p.b, 6, none⟩ = some (.pointer (some ⟨p.tb, 0, none⟩)) ∧ W.cell? ⟨p.b, 8, none⟩ = some (.pointer (some ⟨p.ip.x, 0, none⟩)) ∧ W.cell? ⟨w.heap.size, 0, none⟩ = some (.int .u32 (xi : Int)) ∧ W.cell? ⟨w.heap.size, 1, none⟩ = some (.int .i64 (xs : Int)) ∧ W.cell? ⟨w.heap.size, 2, none⟩ = some (.int .i64 xu)) := fun W m => ⟨m.ff.a0, m.ff.a1, m.ff.a2, m.ff.a4, m.ff.a6, m.ff.a8, m.ff.bx 0 _ rfl, m.ff.bx 1 _ rfl, m.ff.bx 2 _ rfl⟩
  unfold limV at HS HR
  unfold bgc at m0 HH HL HM HK
  have hK0 := HK.out _ m0
  have h1 : (xi : Int) < (S.n : Int) := by omega
  clear h hs hn hf hu hi
  unfold bgV
  go_enter Tryz.func34, Tryz.ntmps34
  go_wp2
  generalize World.alloc w _ = w0 at *
  go_region_held3 (fun W => W.cell? ⟨p.b, 0, none⟩ = some (.int .i64 (S.a : Int)) ∧ W.cell? ⟨p.b, 1, none⟩ = some (.int .i64 (S.b : Int)) ∧ W.cell? ⟨p.b, 2, none⟩ = some (.int .i64 (S.c : Int)) ∧ W.cell? ⟨p.b, 4, none⟩ = some (.int .u32 (S.n : Int)) ∧ W.cell? ⟨p.b, 6, none⟩ = some (.pointer (some ⟨p.tb, 0, none⟩)) ∧ W.cell? ⟨p.b, 8, none⟩ = some (.pointer (some ⟨p.ip.x, 0, none⟩)) ∧ W.cell? ⟨w.heap.size, 0, none⟩ = some (.int .u32 (xi : Int)) ∧ W.cell? ⟨w.heap.size, 1, none⟩ = some (.int .i64 (xs : Int)) ∧ W.cell? ⟨w.heap.size, 2, none⟩ = some (.int .i64 xu)) (first | assumption | exact hK0)
    ((first
      | (go_at_call 43; refine (HS.out _).mono ?_; rintro e w2 ⟨rfl, hg2⟩; have m2 := (Bm.then m0 (grown_drew _ none)).then hg2; have hK2 := HK.out _ m2)
      | (go_at_call 44; refine (HH.out _ m2).mono ?_; rintro e w3 ⟨rfl, hg3⟩; have m3 := Bm.then m2 hg3; have hK3 := HK.out _ m3)
      | (go_at_call 37; refine (HL.out _ m3).mono ?_; rintro e w4 ⟨rfl, rfl⟩)
      | (go_at_call 56; refine (HR.out _).mono ?_; rintro e w5 ⟨rfl, hg5⟩; have m5 := Bm.then m3 hg5; have hK5 := HK.out _ m5)
      | (go_at_call 57; refine (HM.out _ m5).mono ?_; rintro e w6 ⟨rfl, rfl⟩)))
  go_wp2
  go_ret
  exact ⟨rfl, m5.gr⟩
/-- Bookings ahead of one. -/
theorem take_ok {L : List Bg} (hA : AscB L) (hO : OneS L) {j : Nat} (hj : j < L.length) : (∀ y ∈ L.take j, y.i < (rd L j).i) ∧ sat (L.take j) (rd L j).s = none := by
  have h1 := pre_facts (L := L) (pre := L.take j) (x := rd L j) (by rw [take_rd hj]; exact List.take_prefix _ _) hA hO
  exact ⟨h1.2.1, h1.2.2.1⟩
theorem last_le {L : List Bg} (hA : AscB L) {j l : Nat} (hl : ∀ k, j ≤ k → k < L.length → l ≤ (rd L k).i) (hj : j < L.length) : l ≤ (rd L j).i ∧ ∀ k, j + 1 ≤ k → k < L.length → (rd L j).i + 1 ≤ (rd L k).i :=
  ⟨hl j (Nat.le_refl _) hj, fun k h1 h2 => rd_asc hA (by omega) h2⟩
set_option maxRecDepth 20000 in
set_option maxHeartbeats 8000000 in
theorem of_ok {w : World} {v : Value} {a b c n : Nat} {t : Int} {L : List Bg} (hS : Sb.Ok ⟨a, b, c, n, t, L⟩) (hv : BgA w v L) (hz : 0 < w.heap.size) : Calls Tryz.prog 14 #[limV a b c, .int .u32 (n : Int), .int .i64 t, v] w fun e w' => ∃ x p, e = .returned (.tuple #[.pointer (some ⟨x, 0, none⟩), .int .i64 0]) ∧ Lk w w' x ⟨a, b, c, n, t, L⟩ 4096 p [] := by
  have hok : Gx.OkS a b c := by have h1 := hS.a0; have h2 := hS.a1; have h3 := hS.b0; have h4 := hS.b1; have h5 := hS.c0; have h6 := hS.c1; simp only at h1 h2 h3 h4 h5 h6; unfold Gx.OkS; omega
  obtain ⟨vo, cap, rfl, hx⟩ := hv.ex
  have HC1 : Hid (∀ W : World, Calls Tryz.prog 32 #[.agg #[.int .i64 (a : Int), .int .i64 (b : Int), .int .i64 (c : Int)]] W fun e w' => e = .returned (.int .i64 0) ∧ W.grownBy w' none) := fun W => Ge.check_ok _ _ _ hok W
  have HC2 : Hid (∀ W : World, w.grownBy W none → Calls Tryz.prog 33 #[.agg #[.int .i64 (a : Int), .int .i64 (b : Int), .int .i64 (c : Int)], .int .u32 (n : Int), .int .i64 t] W fun e w' => ∃ x p, e = .returned (.pointer (some ⟨x, 0, none⟩)) ∧ Lk w w' x ⟨a, b, c, n, t, []⟩ 0 p []) := by
    intro W hW
    refine (empty_any a b c n t hok W (by have := hW.size; omega)).mono ?_
    rintro e w' ⟨p, rfl, h1, h2, h3⟩
    exact ⟨p.b, p, rfl, rfl, h1, grown_trans hW h2, fun i hi => Nat.le_trans hW.size (h3 i hi), fun x hx => by cases hx⟩
  have HV := hide hv
  have HO := hide hS
  have hn1 : (1 : Int) ≤ (n : Int) := by have := hS.n0; simp only at this; omega
  have ht0 : ¬ t < 0 := by have := hS.t0; simp only at this; omega
  have ht1 : ¬ (1099511627776 : Int) < t := by have := hS.t1; simp only [mxC] at this; omega
  have HMay : Hid (∀ W x p j, j < L.length → Lk w W x ⟨a, b, c, n, t, L.take j⟩ j p [] → Calls Tryz.prog 34 #[.pointer (some ⟨x, 0, none⟩), bgV (rd L j)] W fun e w' => e = .returned (.bool true) ∧ W.grownBy w' none) := by
    intro W x p j hj h
    have hm := rd_mem hj
    have := mayHave_ok h.bk (rd L j) (HO.out.id _ hm).2 (HO.out.st _ hm) (take_ok HO.out.asc HO.out.one hj).2 (by have h1 := HO.out.few; simp only [List.length_take] at h1 ⊢; omega) (HO.out.til _ hm)
    rw [h.eb] at this
    exact this
  have HAdd : Hid (∀ W x p j Bs, j < L.length → Lk w W x ⟨a, b, c, n, t, L.take j⟩ j p Bs → Calls Tryz.prog 35 #[.pointer (some ⟨x, 0, none⟩), bgV (rd L j)] W fun e w' => e = .returned (.tuple #[]) ∧ ∃ q, Lk w w' x ⟨a, b, c, n, t, L.take (j + 1)⟩ (j + 1) q Bs) := by
    intro W x p j Bs hj h
    have hm := rd_mem hj
    have hwk : Sb.Wk ⟨a, b, c, n, t, L.take j⟩ := HO.out.wk.sub (List.take_sublist _ _) HO.out.t0 HO.out.t1
    have hi := (HO.out.id _ hm).2
    have hn := HO.out.n1
    have hfw := HO.out.few
    have hb1 := HO.out.b1
    simp only at hi hn hfw hb1
    have := add_any h.bk hwk (by omega) (rd L j) (by omega) (HO.out.st _ hm) (take_ok HO.out.asc HO.out.one hj).1 (take_ok HO.out.asc HO.out.one hj).2 (by simp only [List.length_take]; omega)
    rw [h.eb] at this
    refine this.mono ?_
    rintro e w' ⟨rfl, q, h1, h2⟩
    simp only [take_rd hj] at h1
    exact ⟨rfl, q, h.step h2 h1⟩
  have hb0 := heap_alloc_new w (.cells [.int .i64 (a : Int), .int .i64 (b : Int), .int .i64 (c : Int)].toArray 44)
  have HB0 := hide hb0
  clear hS hok hx hv hz hb0
  unfold limV
  generalize hnn : L.length = m at *
  have HN := hide hnn
  have hm8 : m ≤ 4096 := by have h1 := HO.out.few; have h2 := HO.out.b1; simp only at h1 h2; omega
  clear hnn
  go_enter Tryz.func14, Tryz.ntmps14
  go_wp2_with fail
  refine (HC1.out _).mono ?_
  rintro e w1 ⟨rfl, hg1⟩
  have hg0 := grown_trans (grown_alloc w _) hg1
  obtain ⟨d0, d1, d2, -⟩ := box3 ((hg1.block _ (row_lt HB0.out) (by simp)).trans HB0.out)
  go_wp2_with fail
  refine (HC2.out _ hg0).mono ?_
  rintro e w2 ⟨x, p, rfl, hh⟩
  have H2 := hide hh
  clear hh d0 d1 d2 hg0 hg1 HC1 HC2 HB0
  go_wp2
  go_loopg [12, 36] m (fun k la i wr => ∃ j l : Nat, k + j = m ∧ i = .int .i64 j ∧ la = .int .u32 (l : Int) ∧ Hid (∀ k, j ≤ k → k < L.length → l ≤ (rd L k).i) ∧ ∃ q, Hid (Lk w wr x ⟨a, b, c, n, t, L.take j⟩ j q []))
  case atStart => exact ⟨0, 1, by omega, rfl, rfl, (fun k _ hk => (HO.out.id _ (rd_mem hk)).1), _, H2.out⟩
  case round =>
    clear H2
    obtain ⟨j, l, hkj, rfl, rfl, HL, q, HQ⟩ := hrel
    by_cases hk : 0 < gk
    · have hj : j < L.length := by rw [HN.out]; omega
      have h1 : (0 : Int) ≤ (j : Int) := by omega
      have h2 : (j : Int) < (m : Int) := by omega
      obtain ⟨ao', cap', he, hx⟩ := (HV.out.then HQ.out.gr).ex
      cases he
      obtain ⟨g, rfl, x0, x1, x2⟩ := hx j hj
      obtain ⟨hl1, hl2⟩ := last_le (L := L) HO.out.asc HL.out hj
      have HNx := hide hl2
      have HM' := hide (fun W h => HMay.out W x q j hj h)
      have HA' := hide (fun W Bs h => HAdd.out W x q j Bs hj h)
      have hid := (HO.out.id _ (rd_mem hj)).2
      have hn1' := HO.out.n1
      simp only at hid hn1'
      have hid2 : ((rd L j).i : Int) + 1 < 4294967296 := by omega
      have hl1' : ¬ ((rd L j).i : Int) < (l : Int) := by omega
      obtain ⟨xx, hxx⟩ : ∃ xx, rd L j = xx := ⟨_, rfl⟩
      rw [hxx] at x0 x1 x2 HNx HM' HA' hid2 hl1'
      obtain ⟨xi, xs, xu⟩ := xx
      simp only [bgV] at x0 x1 x2 HNx HM' HA' hid2 hl1'
      clear hx hxx hl1 hl2 hid hn1' hj HMay HAdd
      go_wp2_with fail
      have HB := hide (HQ.out.box [.int .u32 (xi : Int), .int .i64 (xs : Int), .int .i64 xu] 34)
      refine (HM'.out _ HB.out.bare).mono ?_
      rintro e w3 ⟨rfl, hg3⟩
      have h3 := HB.out.then hg3
      have y0 := h3.cell List.mem_cons_self 0 _ rfl
      have y1 := h3.cell List.mem_cons_self 1 _ rfl
      have y2 := h3.cell List.mem_cons_self 2 _ rfl
      have H3 := hide h3
      clear h3 hg3 HB x0 x1 x2 HM' HQ
      go_wp2_with fail
      refine (HA'.out _ _ H3.out).mono ?_
      rintro e w4 ⟨rfl, q4, h4⟩
      have z0 := h4.cell List.mem_cons_self 0 _ rfl
      have H4 := hide h4.bare
      clear h4 H3 y0 y1 y2 HA'
      go_wp2
      go_roundg (gk - 1)
      case measure => omega
      case rel => exact ⟨j + 1, xi + 1, by omega, by go_num, by go_num, HNx.out, _, H4.out⟩
    · have hj : j = m := by omega
      subst hj
      have HF := hide (HQ.out.more hm8)
      have HT : Hid (L.take j = L) := by rw [← HN.out]; exact List.take_length
      go_wp2
      go_ret2
      rw [HT.out] at HF
      exact ⟨_, _, rfl, HF.out⟩
end Go.Proofs.YtjfhilignbeboabGreatDoor
