import Derived.Test.YtjfhilignbeboaaGreatDoorJuLp2
import Derived.Test.YtjfhilignbeboaaGreatDoorJuAm
import Derived.Test.YtjfhilignbeboaaGreatDoorJuAr
import Derived.Test.YtjfhilignbeboaaGreatDoorJuAp
import Derived.Test.YtjfhilignbeboaaGreatDoorJuAs
namespace Go.Proofs.YtjfhilignbeboaaGreatDoor
/- Decide, Answer of a book that is none. -/
open Go.RowKit
attribute [local go_sem ↓] Go.wp_at_zero Go.wp_at_succ
attribute [local go_sem] Oper.semAt_some
theorem new23n (w : World) (o o2 o3 : Obj) : (((w.alloc o).alloc o2).alloc o3).heap[w.heap.size + 1]? = some o2 := ((grown_alloc _ o3).block _ (row_lt (new2 w o o2)) (by simp)).trans (new2 w o o2)
theorem get_none {w : World} {v : Value} (h : NoB w v) (k : Int) : Calls Tryz.prog 25 #[v, .int .u32 k] w fun e w' => e = .returned (.tuple #[.agg #[.int .u32 0, .int .i64 0, .int .i64 0], .int .i64 1]) ∧ w.grownBy w' none := by
  have HC := hide (h _ (grown_alloc w (.cells bgz.toArray 51)))
  have hb := heap_alloc_new w (.cells bgz.toArray 51)
  have HG := hide (grown_alloc w (.cells bgz.toArray 51))
  have HX := hide hb
  clear h hb
  simp only [bgz] at *
  go_enter Tryz.func25, Tryz.ntmps25
  go_wp2_with fail
  refine HC.out.mono ?_
  rintro e w1 ⟨rfl, hw⟩
  obtain rfl := hw.symm
  clear hw HC
  obtain ⟨d0, d1, d2, d3⟩ := box3 HX.out
  go_wp2
  exact bodyPost_ret (results_bg rfl _ _ w.heap.size ⟨0, 0, 0⟩ (.int .i64 1) rfl HX.out rfl) rfl ⟨rfl, HG.out⟩
theorem isNone_yes {w : World} {v : Value} (h : NoB w v) : Calls Tryz.prog 30 #[v] w fun e w' => e = .returned (.bool true) ∧ w.grownBy w' none := by
  have HC := hide (get_none h 0)
  clear h
  go_enter Tryz.func30, Tryz.ntmps30
  go_wp2_with fail
  refine HC.out.mono ?_
  rintro e w1 ⟨rfl, hg⟩
  have HG := hide hg
  clear hg
  go_wp2
  go_ret
  exact ⟨rfl, grown_trans HG.out (grown_alloc w1 _)⟩
set_option maxHeartbeats 4000000 in
theorem decide_none {w : World} {v : Value} (h : NoB w v) (room qk qt qi qs qu : Int) : Calls Tryz.prog 9 #[v, .int .i64 room, .agg #[.int .i64 qk, .int .u32 qt, .int .u32 qi, .int .i64 qs, .int .i64 qu]] w fun e w' => e = .returned (.tuple #[.agg #[.int .i64 0, .int .u32 0, .int .i64 0, .int .i64 0, .int .i64 0], .agg #[.int .u32 0, .int .i64 0, .int .i64 0, .int .u32 0, .int .i64 0, .int .i64 0, .int .i64 0], .bool false, .int .i64 1]) ∧ w.grownBy w' none := by
  have g0 := grown_alloc3 w (.cells [Value.int .i64 qk, .int .u32 qt, .int .u32 qi, .int .i64 qs, .int .i64 qu].toArray 25) (.cells [Value.int .i64 0, .int .u32 0, .int .i64 0, .int .i64 0, .int .i64 0].toArray 28) (.cells [Value.int .u32 0, .int .i64 0, .int .i64 0, .int .u32 0, .int .i64 0, .int .i64 0, .int .i64 0].toArray 31)
  have HN := hide (isNone_yes (h.then g0))
  have HG := hide g0
  have H2 := hide (new23n w (.cells [Value.int .i64 qk, .int .u32 qt, .int .u32 qi, .int .i64 qs, .int .i64 qu].toArray 25) (.cells [Value.int .i64 0, .int .u32 0, .int .i64 0, .int .i64 0, .int .i64 0].toArray 28) (.cells [Value.int .u32 0, .int .i64 0, .int .i64 0, .int .u32 0, .int .i64 0, .int .i64 0, .int .i64 0].toArray 31))
  have H3 := hide (new3 w (.cells [Value.int .i64 qk, .int .u32 qt, .int .u32 qi, .int .i64 qs, .int .i64 qu].toArray 25) (.cells [Value.int .i64 0, .int .u32 0, .int .i64 0, .int .i64 0, .int .i64 0].toArray 28) (.cells [Value.int .u32 0, .int .i64 0, .int .i64 0, .int .u32 0, .int .i64 0, .int .i64 0, .int .i64 0].toArray 31))
  clear h g0
  go_enter Tryz.func9, Tryz.ntmps9
  go_wp2_with fail
  refine HN.out.mono ?_
  rintro e w1 ⟨rfl, hg⟩
  have B2 : Hid (w1.heap[w.heap.size + 1]? = some (.cells [Value.int .i64 0, .int .u32 0, .int .i64 0, .int .i64 0, .int .i64 0].toArray 28 (0, 0))) := box_to H2.out hg
  have B3 : Hid (w1.heap[w.heap.size + 1 + 1]? = some (.cells [Value.int .u32 0, .int .i64 0, .int .i64 0, .int .u32 0, .int .i64 0, .int .i64 0, .int .i64 0].toArray 31 (0, 0))) := box_to H3.out hg
  have HG1 := hide (grown_trans HG.out hg)
  clear hg HN H2 H3 HG
  obtain ⟨⟨d0, d1, d2, d3, d4⟩, d5⟩ := bxf5 B2.out
  obtain ⟨⟨x0, x1, x2, x3, x4, x5, x6⟩, x7⟩ := bxf7 B3.out
  go_wp2
  obtain ⟨r1, r2⟩ := set5w w1 rfl B2.out (.int .i64 0) (.int .u32 0) (.int .i64 0) (.int .i64 0) (.int .i64 0)
  have b3' := (r2.block _ (row_lt B3.out) (fun e => by have := Option.some.inj e; omega)).trans B3.out
  obtain ⟨r3, r4⟩ := set7w _ rfl b3' (.int .u32 0) (.int .i64 0) (.int .i64 0) (.int .u32 0) (.int .i64 0) (.int .i64 0) (.int .i64 0)
  have r1' := (r4.block _ (row_lt r1) (fun e => by have := Option.some.inj e; omega)).trans r1
  exact bodyPost_ret (results_c2t2 rfl _ _ (w.heap.size + 1) (w.heap.size + 1 + 1) _ _ rfl rfl r1' r3 rfl rfl) rfl ⟨rfl, gn_own (gn_own HG1.out r2 (by omega)) r4 (by omega)⟩
set_option maxHeartbeats 4000000 in
theorem answer_none {w : World} {v : Value} (h : NoB w v) (qk qt qi qs qu : Int) : Calls Tryz.prog 10 #[v, .agg #[.int .i64 qk, .int .u32 qt, .int .u32 qi, .int .i64 qs, .int .i64 qu]] w fun e w' => e = .returned (.tuple #[.agg #[.int .u32 0, .int .i64 0, .int .i64 0, .int .u32 0, .int .i64 0, .int .i64 0, .int .i64 0], .int .i64 1]) ∧ w.grownBy w' none := by
  have g0 := grown_alloc2 w (.cells [Value.int .i64 qk, .int .u32 qt, .int .u32 qi, .int .i64 qs, .int .i64 qu].toArray 25) (.cells [Value.int .u32 0, .int .i64 0, .int .i64 0, .int .u32 0, .int .i64 0, .int .i64 0, .int .i64 0].toArray 31)
  have HN := hide (isNone_yes (h.then g0))
  have HG := hide g0
  have H3 := hide (new2 w (.cells [Value.int .i64 qk, .int .u32 qt, .int .u32 qi, .int .i64 qs, .int .i64 qu].toArray 25) (.cells [Value.int .u32 0, .int .i64 0, .int .i64 0, .int .u32 0, .int .i64 0, .int .i64 0, .int .i64 0].toArray 31))
  clear h g0
  go_enter Tryz.func10, Tryz.ntmps10
  go_wp2_with fail
  refine HN.out.mono ?_
  rintro e w1 ⟨rfl, hg⟩
  have B3 : Hid (w1.heap[w.heap.size + 1]? = some (.cells [Value.int .u32 0, .int .i64 0, .int .i64 0, .int .u32 0, .int .i64 0, .int .i64 0, .int .i64 0].toArray 31 (0, 0))) := box_to H3.out hg
  have HG1 := hide (grown_trans HG.out hg)
  clear hg HN H3 HG
  obtain ⟨⟨x0, x1, x2, x3, x4, x5, x6⟩, x7⟩ := bxf7 B3.out
  go_wp2
  obtain ⟨r3, r4⟩ := set7w w1 rfl B3.out (.int .u32 0) (.int .i64 0) (.int .i64 0) (.int .u32 0) (.int .i64 0) (.int .i64 0) (.int .i64 0)
  exact bodyPost_ret (results_c1t1 rfl _ _ (w.heap.size + 1) _ rfl r3 rfl) rfl ⟨rfl, gn_own HG1.out r4 (by omega)⟩
/-- Boxes alone. -/
structure Nb (w W : World) (Bs : List (Nat × List Value × TypeId)) : Prop where
  gr : w.grownBy W none
  bx : ∀ x ∈ Bs, W.heap[x.1]? = some (.cells x.2.1.toArray x.2.2 (0, 0)) ∧ w.heap.size ≤ x.1
section
variable {w W W' : World} {b c : Nat} {S T : Sb} {K : Nat} {p q : Bp} {Bs : List (Nat × List Value × TypeId)}
theorem Nb.then (h : Nb w W Bs) (g : W.grownBy W' none) : Nb w W' Bs := ⟨grown_trans h.gr g, fun x hx => ⟨box_to (h.bx x hx).1 g, (h.bx x hx).2⟩⟩
theorem Nb.box (h : Nb w W Bs) (cs : List Value) (ty : TypeId) : Nb w (W.alloc (.cells cs.toArray ty)) ((W.heap.size, cs, ty) :: Bs) := by
  have h1 := h.then (grown_alloc W (.cells cs.toArray ty))
  refine ⟨h1.gr, fun x hx => ?_⟩
  rcases List.mem_cons.1 hx with rfl | hx
  · exact ⟨heap_alloc_new W _, h.gr.size⟩
  · exact h1.bx x hx
theorem Nb.box2 (h : Nb w W Bs) (cs ds : List Value) (s t : TypeId) : Nb w ((W.alloc (.cells cs.toArray s)).alloc (.cells ds.toArray t)) ((W.heap.size + 1, ds, t) :: (W.heap.size, cs, s) :: Bs) := by
  have m0 := (h.box cs s).box ds t
  rw [show (W.alloc (.cells cs.toArray s)).heap.size = W.heap.size + 1 from by show (W.heap.push _).size = _; simp] at m0
  exact m0
theorem Nb.lk (h : Nb w W Bs) (k : Lk W W' b S K p []) : Lk w W' b S K p Bs :=
  ⟨k.eb, k.bk, grown_trans h.gr k.gr, fun i hi => Nat.le_trans h.gr.size (k.own i hi), fun x hx => ⟨box_to (h.bx x hx).1 k.gr, fun e => by have := k.own _ e; have := row_lt (h.bx x hx).1; omega, (h.bx x hx).2⟩⟩
theorem Lk.more2 (h : Lk w W b S K p Bs) (k : Lk W W' c T 4096 q []) : Lt w W' b c S T K p q Bs :=
  ⟨h.then k.gr, ⟨k.eb, k.bk, grown_trans h.gr k.gr, fun i hi => Nat.le_trans h.gr.size (k.own i hi), fun x hx => ⟨box_to (h.bx x hx).1 k.gr, fun e => by have := k.own _ e; have := row_lt (h.bx x hx).1; omega, (h.bx x hx).2.2⟩⟩, fun i hi e => by have := k.own _ e; have := h.bk.lt i hi; omega⟩
theorem Lt.decideC (h : Lt w W b c S T K p q Bs) (ho : T.Ok) (hT : Rk.Tab w) (room : Int) (Q : Rs.Rq) (hq : Q.Ok) : Calls Tryz.prog 9 #[.pointer (some ⟨c, 0, none⟩), .int .i64 room, Rs.rqV Q] W fun e w' => e = .returned (dcV (dec T room Q)) ∧ Lt w w' b c S T K p q Bs := by
  have := decide_any h.cp.bk ho room Q hq (hT.grown h.lk.gr (by simp))
  rw [h.cp.eb] at this
  exact this.mono (fun _ _ x => ⟨x.1, h.lk.other x.2.st h.cp.own (fun i hi e => h.pq i e hi) (fun y hy => (h.cp.bx y hy).2.1), h.cp.step (Bst.keep x.2.st) x.2.bk, h.pq⟩)
end
end Go.Proofs.YtjfhilignbeboaaGreatDoor
