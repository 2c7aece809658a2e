/- Texts joined: Lw, Ld, Lq. -/
import Derived.Test.YtjfhilignbeboaaGreatDoorJqAo
import Derived.Test.YtjfhilignbeboaaGreatDoorJqAy
import Derived.Test.YtjfhilignbeboaaGreatDoorJqBa
import Derived.Test.YtjfhilignbeboaaGreatDoorJqAt
namespace Go.Proofs.YtjfhilignbeboaaGreatDoor
/- A law's two books, the document's, and boxes, side by side. -/
open Go.RowKit
structure Ls (w W : World) (b d c : Nat) (S : Sb) (p q : Bp) (lo : Nat) (v : Value) (Bs : List (Nat × List Value × TypeId)) : Prop where
  lk : Lk w W b S 4096 p Bs
  cp : Lk w W c S 4096 q Bs
  db : Db W lo d v S
  pq : ∀ i, p.own i → ¬ q.own i
  dp : ∀ i, dbo d v i → ¬ p.own i
  dq : ∀ i, dbo d v i → ¬ q.own i
  dx : ∀ x ∈ Bs, ¬ dbo d v x.1
section
variable {w W W' : World} {b d c : Nat} {S : Sb} {p q : Bp} {lo : Nat} {v : Value} {Bs Cs : List (Nat × List Value × TypeId)} {x y z u t s r : Nat × List Value × TypeId}
theorem Lk.other {b : Nat} {K : Nat} (h : Lk w W b S K q Bs) (k : Kept W W' p.own) (hp : ∀ i, p.own i → w.heap.size ≤ i) (hd : ∀ i, p.own i → ¬ q.own i) (hB : ∀ y ∈ Bs, ¬ p.own y.1) : Lk w W' b S K q Bs :=
  ⟨h.eb, h.bk.far k (fun i hi e => hd i e hi), ((Kept.new h.gr (fun i => w.heap.size ≤ i)).trans k (fun i _ e => hp i e)).grown (fun i hi e => by omega), h.own, fun y hy => ⟨k.at (h.bx y hy).1 (hB y hy), (h.bx y hy).2⟩⟩
theorem Ls.mt (h : Ls w W b d c S p q lo v Bs) (m : Mt W W' p S 4096 []) : Ls w W' b d c S p q lo v Bs :=
  ⟨h.lk.mt m, h.cp.other m.st h.lk.own h.pq (fun y hy => (h.lk.bx y hy).2.1), h.db.far m.st (fun i hi e => h.dp i hi e), h.pq, h.dp, h.dq, h.dx⟩
theorem Ls.then (h : Ls w W b d c S p q lo v Bs) (g : W.grownBy W' none) : Ls w W' b d c S p q lo v Bs := ⟨h.lk.then g, h.cp.then g, h.db.then g, h.pq, h.dp, h.dq, h.dx⟩
theorem Ls.box (h : Ls w W b d c S p q lo v Bs) (cs : List Value) (ty : TypeId) : Ls w (W.alloc (.cells cs.toArray ty)) b d c S p q lo v ((W.heap.size, cs, ty) :: Bs) :=
  ⟨h.lk.box cs ty, h.cp.box cs ty, h.db.then (grown_alloc W _), h.pq, h.dp, h.dq, fun y hy => by
    rcases List.mem_cons.1 hy with rfl | hy
    · exact fun e => Nat.lt_irrefl _ (h.db.lt _ e)
    · exact h.dx y hy⟩
theorem Ls.box2 (h : Ls w W b d c S p q lo v Bs) (cs ds : List Value) (s t : TypeId) : Ls w ((W.alloc (.cells cs.toArray s)).alloc (.cells ds.toArray t)) b d c S p q lo v ((W.heap.size + 1, ds, t) :: (W.heap.size, cs, s) :: Bs) := by
  have m0 := (h.box cs s).box ds t
  rw [show (W.alloc (.cells cs.toArray s)).heap.size = W.heap.size + 1 from by show (W.heap.push _).size = _; simp] at m0
  exact m0
theorem Ls.decide (h : Ls w W b d c S p q lo v Bs) (ho : S.Ok) (hT : Rk.Tab w) (room : Int) (Q : Rs.Rq) (hq : Q.Ok) : Calls Tryz.prog 9 #[.pointer (some ⟨b, 0, none⟩), .int .i64 room, Rs.rqV Q] W fun e w' => e = .returned (dcV (dec S room Q)) ∧ Ls w w' b d c S p q lo v Bs := by
  have := decide_any h.lk.bk ho room Q hq (hT.grown h.lk.gr (by simp))
  rw [h.lk.eb] at this
  exact this.mono (fun _ _ x => ⟨x.1, h.mt x.2⟩)
theorem Ls.answer (h : Ls w W b d c S p q lo v Bs) (ho : S.Ok) (Q : Rs.Rq) (hq : Q.Ok) : Calls Tryz.prog 10 #[.pointer (some ⟨b, 0, none⟩), Rs.rqV Q] W fun e w' => e = .returned (anV (ans S Q)) ∧ Ls w w' b d c S p q lo v Bs := by
  have := answer_any h.lk.bk ho Q hq
  rw [h.lk.eb] at this
  exact this.mono (fun _ _ x => ⟨x.1, h.mt x.2⟩)
theorem Ls.same (h : Ls w W b d c S p q lo v Bs) (ho : S.Ok) : Calls Tryz.prog 16 #[.pointer (some ⟨b, 0, none⟩), .pointer (some ⟨c, 0, none⟩)] W fun e w' => e = .returned (.bool true) ∧ Ls w w' b d c S p q lo v Bs :=
  (h.lk.same h.cp ho.wk).mono (fun _ _ x => ⟨x.1, h.then x.2⟩)
theorem Ls.b0 (h : Ls w W b d c S p q lo v (x :: Bs)) : W.heap[x.1]? = some (.cells x.2.1.toArray x.2.2 (0, 0)) := (h.lk.bx x (List.mem_cons_self ..)).1
theorem Ls.b1 (h : Ls w W b d c S p q lo v (y :: x :: Bs)) : W.heap[x.1]? = some (.cells x.2.1.toArray x.2.2 (0, 0)) := (h.lk.bx x (List.mem_cons_of_mem _ (List.mem_cons_self ..))).1
theorem Ls.b2 (h : Ls w W b d c S p q lo v (z :: y :: x :: Bs)) : W.heap[x.1]? = some (.cells x.2.1.toArray x.2.2 (0, 0)) := (h.lk.bx x (List.mem_cons_of_mem _ (List.mem_cons_of_mem _ (List.mem_cons_self ..)))).1
theorem Ls.b3 (h : Ls w W b d c S p q lo v (u :: z :: y :: x :: Bs)) : W.heap[x.1]? = some (.cells x.2.1.toArray x.2.2 (0, 0)) := (h.lk.bx x (List.mem_cons_of_mem _ (List.mem_cons_of_mem _ (List.mem_cons_of_mem _ (List.mem_cons_self ..))))).1
theorem Ls.b4 (h : Ls w W b d c S p q lo v (t :: u :: z :: y :: x :: Bs)) : W.heap[x.1]? = some (.cells x.2.1.toArray x.2.2 (0, 0)) := (h.lk.bx x (List.mem_cons_of_mem _ (List.mem_cons_of_mem _ (List.mem_cons_of_mem _ (List.mem_cons_of_mem _ (List.mem_cons_self ..)))))).1
theorem Ls.sub (h : Ls w W b d c S p q lo v Bs) (hs : ∀ x ∈ Cs, x ∈ Bs) : Ls w W b d c S p q lo v Cs := ⟨h.lk.sub hs, h.cp.sub hs, h.db, h.pq, h.dp, h.dq, fun x hx => h.dx x (hs x hx)⟩
theorem Lk.wr {b : Nat} {K : Nat} {X : Nat} (h : Lk w W b S K p Bs) (g : W.grownBy W' (some X)) (hX : ¬ p.own X) (h0 : w.heap.size ≤ X) (hB : ∀ y ∈ Cs, W'.heap[y.1]? = some (.cells y.2.1.toArray y.2.2 (0, 0)) ∧ ¬ p.own y.1 ∧ w.heap.size ≤ y.1) : Lk w W' b S K p Cs :=
  ⟨h.eb, h.bk.far (Kept.of (S := fun i => i = X) g (fun j e _ => (Option.some.inj e).symm)) (fun i hi e => hX (by rw [← e]; exact hi)), gn_own h.gr g h0, h.own, hB⟩
/-- A box is written. -/
theorem Ls.put {X : Nat} {cs ds : List Value} {ty : TypeId} (h : Ls w W b d c S p q lo v ((X, cs, ty) :: Bs)) (g : W.grownBy W' (some X)) (hr : W'.heap[X]? = some (.cells ds.toArray ty (0, 0))) (hne : ∀ y ∈ Bs, y.1 ≠ X) : Ls w W' b d c S p q lo v ((X, ds, ty) :: Bs) := by
  obtain ⟨h1, h2, h3⟩ := h.lk.bx _ (List.mem_cons_self ..)
  obtain ⟨k1, k2, k3⟩ := h.cp.bx _ (List.mem_cons_self ..)
  have hk : ∀ y ∈ Bs, W'.heap[y.1]? = some (.cells y.2.1.toArray y.2.2 (0, 0)) := fun y hy => (g.block _ (row_lt (h.lk.bx y (List.mem_cons_of_mem _ hy)).1) (fun e => hne y hy (Option.some.inj e))).trans (h.lk.bx y (List.mem_cons_of_mem _ hy)).1
  refine ⟨h.lk.wr g h2 h3 (fun y hy => ?_), h.cp.wr g k2 k3 (fun y hy => ?_), h.db.far (Kept.of (S := fun i => i = X) g (fun j e _ => (Option.some.inj e).symm)) (fun i hi e => h.dx _ (List.mem_cons_self ..) (by rw [← e]; exact hi)), h.pq, h.dp, h.dq, fun y hy => ?_⟩
  · rcases List.mem_cons.1 hy with rfl | hy
    · exact ⟨hr, h2, h3⟩
    · exact ⟨hk y hy, (h.lk.bx y (List.mem_cons_of_mem _ hy)).2⟩
  · rcases List.mem_cons.1 hy with rfl | hy
    · exact ⟨hr, k2, k3⟩
    · exact ⟨hk y hy, (h.cp.bx y (List.mem_cons_of_mem _ hy)).2⟩
  · rcases List.mem_cons.1 hy with rfl | hy
    · exact h.dx (X, cs, ty) (List.mem_cons_self ..)
    · exact h.dx y (List.mem_cons_of_mem _ hy)
end
/-- The books, and a copy. -/
theorem Bks.copied {w W : World} {b d : Nat} {S : Sb} {p : Bp} {lo : Nat} {v : Value} (h : Bks w W b d S p lo v) : Calls Tryz.prog 14 #[.pointer (some ⟨b, 0, none⟩)] W fun e w' => ∃ c q, e = .returned (.pointer (some ⟨c, 0, none⟩)) ∧ Ls w w' b d c S p q lo v [] := by
  have hc := copy_any h.lk.bk h.ok.wk
  rw [h.lk.eb] at hc
  refine hc.mono ?_
  rintro e w' ⟨q, rfl, hq, hg, ho⟩
  refine ⟨q.b, q, rfl, h.lk.then hg, ⟨rfl, hq, grown_trans h.lk.gr hg, fun i hi => Nat.le_trans h.lk.gr.size (ho i hi), fun x hx => by cases hx⟩, h.db.then hg, fun i h1 h2 => ?_, h.ap, fun i hi e => ?_, fun x hx => by cases hx⟩
  · have := ho i h2; have := h.lk.bk.lt i h1; omega
  · have h1 := h.db.lt i hi
    have h2 := ho i e
    omega
end Go.Proofs.YtjfhilignbeboaaGreatDoor
namespace Go.Proofs.YtjfhilignbeboaaGreatDoor
/- The law CasesDecides. -/
open Go.RowKit
attribute [local go_sem ↓] Go.wp_at_zero Go.wp_at_succ
attribute [local go_sem] Oper.semAt_some
section
variable {w W : World} {b d c : Nat} {S : Sb} {p q : Bp} {lo : Nat} {v : Value} {Bs : List (Nat × List Value × TypeId)}
theorem Ls.rdecide (h : Ls w W b d c S p q lo v Bs) (ho : S.Ok) (room : Int) (Q : Rs.Rq) (hq : Q.Ok) : Calls Tryz.prog 15 #[.pointer (some ⟨d, 0, none⟩), .int .i64 room, Rs.rqV Q] W fun e w' => e = .returned (dcV (dec S room Q)) ∧ Ls w w' b d c S p q lo v Bs :=
  (rdecide_any h.db ho room Q hq).mono (fun _ _ x => ⟨x.1, h.then x.2⟩)
theorem Ls.ranswer (h : Ls w W b d c S p q lo v Bs) (ho : S.Ok) (Q : Rs.Rq) (hq : Q.Ok) : Calls Tryz.prog 17 #[.pointer (some ⟨d, 0, none⟩), Rs.rqV Q] W fun e w' => e = .returned (anV (ans S Q)) ∧ Ls w w' b d c S p q lo v Bs :=
  (ranswer_any h.db ho Q hq).mono (fun _ _ x => ⟨x.1, h.then x.2⟩)
theorem Ls.awake (h : Ls w W b d c S p q lo v Bs) (hT : Rk.Tab w) : Calls Tryz.prog 12 #[] W fun e w' => e = .returned (.bool true) ∧ Ls w w' b d c S p q lo v Bs :=
  (awake_any W (hT.grown h.lk.gr (by simp))).mono (fun _ _ x => ⟨x.1, h.then x.2⟩)
end
theorem bx4 {w : World} {g : Nat} {t : TypeId} {x y z u : Value} (h : w.heap[g]? = some (.cells [x, y, z, u].toArray t (0, 0))) : w.cell? ⟨g, 0, none⟩ = some x ∧ w.cell? ⟨g, 1, none⟩ = some y ∧ w.cell? ⟨g, 2, none⟩ = some z ∧ w.cell? ⟨g, 3, none⟩ = some u := ⟨by rw [cell_row h]; rfl, by rw [cell_row h]; rfl, by rw [cell_row h]; rfl, by rw [cell_row h]; rfl⟩
set_option maxRecDepth 20000 in
set_option maxHeartbeats 16000000 in
theorem decides_any {w : World} (x : Int) {ao : Option Addr} {cap : Nat} (l : List Cg) (nx ck room : Int) (Q : Rs.Rq) (hq : Q.Ok) (hcap : l.length ≤ cap) (hC : CgsAt w ao l) (hn0 : 0 ≤ nx) (hn1 : nx < 4294967296) (hc0 : -9223372036854775808 ≤ ck) (hc1 : ck ≤ 9223372036854775807) (hT : Rk.Tab w) : Calls Tryz.prog 4 #[.agg #[.int .i64 x, .slice ao l.length cap, .int .u32 nx, .int .i64 ck], .int .i64 room, Rs.rqV Q] w fun e w' => e = .returned (.bool true) ∧ w.grownBy w' none := by
  have g0 := grown_alloc2 w (.cells [Value.int .i64 x, .slice ao l.length cap, .int .u32 nx, .int .i64 ck].toArray 55) (.cells [Value.int .i64 Q.k, .int .u32 Q.t, .int .u32 Q.i, .int .i64 Q.s, .int .i64 Q.u].toArray 25)
  have HB := hide (books_any x l nx ck hcap (hC.grown g0) hn0 hn1 hc0 hc1)
  have HG := hide g0
  have HT := hide (hT.grown g0 (by simp))
  have HQ := hide (new2 w (.cells [Value.int .i64 x, .slice ao l.length cap, .int .u32 nx, .int .i64 ck].toArray 55) (.cells [Value.int .i64 Q.k, .int .u32 Q.t, .int .u32 Q.i, .int .i64 Q.s, .int .i64 Q.u].toArray 25))
  have HF := hide (bx4 (new2a w (.cells [Value.int .i64 x, .slice ao l.length cap, .int .u32 nx, .int .i64 ck].toArray 55) (.cells [Value.int .i64 Q.k, .int .u32 Q.t, .int .u32 Q.i, .int .i64 Q.s, .int .i64 Q.u].toArray 25)))
  have Hq := hide hq
  clear hT hC hcap hn0 hn1 hc0 hc1 g0 hq
  have eQ : Rs.rqV Q = .agg #[.int .i64 Q.k, .int .u32 Q.t, .int .u32 Q.i, .int .i64 Q.s, .int .i64 Q.u] := rfl
  rw [eQ]
  obtain ⟨f0, f1, f2, f3⟩ := HF.out
  clear HF
  go_enter Tryz.func4, Tryz.ntmps4
  go_wp2_with fail
  generalize World.alloc (World.alloc w _) _ = w0 at *
  refine HB.out.mono ?_
  rintro e w2 ⟨b, d, S, p, lo, v, rfl, hB⟩
  have HO := hide hB.ok
  have HC := hide hB.copied
  clear hB HB f0 f1 f2 f3
  go_wp2_with fail
  refine HC.out.mono ?_
  rintro e w3 ⟨c, q, rfl, hL⟩
  have L3 := hide hL
  have HD : Hid (∀ W Bs, Ls w0 W b d c S p q lo v Bs → Calls Tryz.prog 9 #[.pointer (some ⟨b, 0, none⟩), .int .i64 room, .agg #[.int .i64 Q.k, .int .u32 Q.t, .int .u32 Q.i, .int .i64 Q.s, .int .i64 Q.u]] W fun e w' => e = .returned (dcV (dec S room Q)) ∧ Ls w0 w' b d c S p q lo v Bs) := fun W Bs h => h.decide HO.out HT.out room Q Hq.out
  have HE : Hid (∀ W Bs, Ls w0 W b d c S p q lo v Bs → Calls Tryz.prog 15 #[.pointer (some ⟨d, 0, none⟩), .int .i64 room, .agg #[.int .i64 Q.k, .int .u32 Q.t, .int .u32 Q.i, .int .i64 Q.s, .int .i64 Q.u]] W fun e w' => e = .returned (dcV (dec S room Q)) ∧ Ls w0 w' b d c S p q lo v Bs) := fun W Bs h => h.rdecide HO.out room Q Hq.out
  have HA : Hid (∀ W Bs, Ls w0 W b d c S p q lo v Bs → Calls Tryz.prog 10 #[.pointer (some ⟨b, 0, none⟩), .agg #[.int .i64 Q.k, .int .u32 Q.t, .int .u32 Q.i, .int .i64 Q.s, .int .i64 Q.u]] W fun e w' => e = .returned (anV (ans S Q)) ∧ Ls w0 w' b d c S p q lo v Bs) := fun W Bs h => h.answer HO.out Q Hq.out
  have HX : Hid (∀ W Bs, Ls w0 W b d c S p q lo v Bs → Calls Tryz.prog 17 #[.pointer (some ⟨d, 0, none⟩), .agg #[.int .i64 Q.k, .int .u32 Q.t, .int .u32 Q.i, .int .i64 Q.s, .int .i64 Q.u]] W fun e w' => e = .returned (anV (ans S Q)) ∧ Ls w0 w' b d c S p q lo v Bs) := fun W Bs h => h.ranswer HO.out Q Hq.out
  have HM : Hid (∀ W Bs, Ls w0 W b d c S p q lo v Bs → Calls Tryz.prog 16 #[.pointer (some ⟨b, 0, none⟩), .pointer (some ⟨c, 0, none⟩)] W fun e w' => e = .returned (.bool true) ∧ Ls w0 w' b d c S p q lo v Bs) := fun W Bs h => h.same HO.out
  have HW : Hid (∀ W Bs, Ls w0 W b d c S p q lo v Bs → Calls Tryz.prog 12 #[] W fun e w' => e = .returned (.bool true) ∧ Ls w0 w' b d c S p q lo v Bs) := fun W Bs h => h.awake HT.out
  have HS : Hid (∀ W Bs, Ls w0 W b d c S p q lo v Bs → W.cell? ⟨w.heap.size + 1, 0, none⟩ = some (.int .i64 Q.k) ∧ W.cell? ⟨w.heap.size + 1, 1, none⟩ = some (.int .u32 Q.t) ∧ W.cell? ⟨w.heap.size + 1, 2, none⟩ = some (.int .u32 Q.i) ∧ W.cell? ⟨w.heap.size + 1, 3, none⟩ = some (.int .i64 Q.s) ∧ W.cell? ⟨w.heap.size + 1, 4, none⟩ = some (.int .i64 Q.u)) := fun W Bs h => bx5 (box_to HQ.out h.lk.gr)
  generalize dec S room Q = D at *
  obtain ⟨⟨rk, ri, rs, ru, rc⟩, ⟨yt, yk, ye, yi, ys, yu, yc⟩, yes, er⟩ := D
  generalize ans S Q = AN at *
  obtain ⟨⟨zt, zk, ze, zi, zs, zu, zc⟩, er2⟩ := AN
  unfold dcV Rk.rcV Rt.ryV at HD HE
  unfold anV Rt.ryV at HA HX
  simp only at HD HE HA HX
  clear hL HC HO HT Hq HQ
  obtain ⟨q0, q1, q2, q3, q4⟩ := HS.out _ _ L3.out
  go_wp2_with fail
  refine (HD.out _ _ L3.out).mono ?_
  rintro e w4 ⟨rfl, hL4⟩
  have L5 := hide (hL4.box2 [Value.int .i64 rk, .int .u32 ri, .int .i64 rs, .int .i64 ru, .int .i64 rc] [Value.int .u32 yt, .int .i64 yk, .int .i64 ye, .int .u32 yi, .int .i64 ys, .int .i64 yu, .int .i64 yc] 28 31)
  clear hL4 L3 HD q0 q1 q2 q3 q4
  obtain ⟨q0, q1, q2, q3, q4⟩ := HS.out _ _ L5.out
  go_wp2_with fail
  generalize hX : w4.heap.size = X at *
  clear hX
  generalize World.alloc (World.alloc w4 _) _ = w5 at *
  refine (HE.out _ _ L5.out).mono ?_
  rintro e w6 ⟨rfl, hL6⟩
  have hXY : Hid (X + 1 < w6.heap.size) := row_lt hL6.b0
  have L7 := hide (hL6.box2 [Value.int .i64 rk, .int .u32 ri, .int .i64 rs, .int .i64 ru, .int .i64 rc] [Value.int .u32 yt, .int .i64 yk, .int .i64 ye, .int .u32 yi, .int .i64 ys, .int .i64 yu, .int .i64 yc] 28 31)
  clear hL6 L5 HE q0 q1 q2 q3 q4
  go_upto_region 7 with fail
  generalize w6.heap.size = Y at *
  generalize World.alloc (World.alloc w6 _) _ = w7 at *
  obtain ⟨a0, a1, a2, a3, a4⟩ := bx5 L7.out.b3
  obtain ⟨b0, b1, b2, b3, b4, b5, b6⟩ := bx7 L7.out.b2
  obtain ⟨c0, c1, c2, c3, c4⟩ := bx5 L7.out.b1
  obtain ⟨d0, d1, d2, d3, d4, d5, d6⟩ := bx7 L7.out.b0
  go_wp2_with fail
  refine (HM.out _ _ L7.out).mono ?_
  rintro e w8 ⟨rfl, hL8⟩
  have L8 := hide hL8
  clear hL8 a0 a1 a2 a3 a4 b0 b1 b2 b3 b4 b5 b6 c0 c1 c2 c3 c4 d0 d1 d2 d3 d4 d5 d6
  clear L7
  obtain ⟨q0, q1, q2, q3, q4⟩ := HS.out _ _ L8.out
  go_wp2_with fail
  refine (HA.out _ _ L8.out).mono ?_
  rintro e w9 ⟨rfl, hL9⟩
  have L9 := hide hL9
  clear L8 q0 q1 q2 q3 q4
  obtain ⟨⟨x0, x1, x2, x3, x4, x5, x6⟩, x7⟩ := bxf7 hL9.b2
  obtain ⟨r1, r2⟩ := set7w w9 rfl hL9.b2 (.int .u32 zt) (.int .i64 zk) (.int .i64 ze) (.int .u32 zi) (.int .i64 zs) (.int .i64 zu) (.int .i64 zc)
  have L10 : Hid (Ls w0 _ b d c S p q lo v [(X + 1, [Value.int .u32 zt, .int .i64 zk, .int .i64 ze, .int .u32 zi, .int .i64 zs, .int .i64 zu, .int .i64 zc], 31), (Y + 1, [Value.int .u32 yt, .int .i64 yk, .int .i64 ye, .int .u32 yi, .int .i64 ys, .int .i64 yu, .int .i64 yc], 31)]) := (hL9.sub (Cs := [(X + 1, [Value.int .u32 yt, .int .i64 yk, .int .i64 ye, .int .u32 yi, .int .i64 ys, .int .i64 yu, .int .i64 yc], 31), (Y + 1, [Value.int .u32 yt, .int .i64 yk, .int .i64 ye, .int .u32 yi, .int .i64 ys, .int .i64 yu, .int .i64 yc], 31)]) (by simp)).put r2 r1 (fun y hy => by rw [List.mem_singleton.1 hy]; have := hXY.out; simp only; omega)
  clear hL9 r1 r2
  go_upto_region 10 with fail
  generalize World.setCell (World.setCell (World.setCell (World.setCell (World.setCell (World.setCell (World.setCell w9 _ _) _ _) _ _) _ _) _ _) _ _) _ _ = w10 at *
  clear x0 x1 x2 x3 x4 x5 x6 x7 L9
  obtain ⟨q0, q1, q2, q3, q4⟩ := HS.out _ _ L10.out
  go_wp2_with fail
  refine (HX.out _ _ L10.out).mono ?_
  rintro e w11 ⟨rfl, hL11⟩
  clear L10 HA HX q0 q1 q2 q3 q4
  obtain ⟨⟨x0, x1, x2, x3, x4, x5, x6⟩, x7⟩ := bxf7 hL11.b1
  obtain ⟨r1, r2⟩ := set7w w11 rfl hL11.b1 (.int .u32 zt) (.int .i64 zk) (.int .i64 ze) (.int .u32 zi) (.int .i64 zs) (.int .i64 zu) (.int .i64 zc)
  have L12 : Hid (Ls w0 _ b d c S p q lo v [(Y + 1, [Value.int .u32 zt, .int .i64 zk, .int .i64 ze, .int .u32 zi, .int .i64 zs, .int .i64 zu, .int .i64 zc], 31), (X + 1, [Value.int .u32 zt, .int .i64 zk, .int .i64 ze, .int .u32 zi, .int .i64 zs, .int .i64 zu, .int .i64 zc], 31)]) := (hL11.sub (Cs := [(Y + 1, [Value.int .u32 yt, .int .i64 yk, .int .i64 ye, .int .u32 yi, .int .i64 ys, .int .i64 yu, .int .i64 yc], 31), (X + 1, [Value.int .u32 zt, .int .i64 zk, .int .i64 ze, .int .u32 zi, .int .i64 zs, .int .i64 zu, .int .i64 zc], 31)]) (by simp)).put r2 r1 (fun y hy => by rw [List.mem_singleton.1 hy]; have := hXY.out; simp only; omega)
  clear hL11 r1 r2
  go_upto_region 11 with fail
  generalize World.setCell (World.setCell (World.setCell (World.setCell (World.setCell (World.setCell (World.setCell w11 _ _) _ _) _ _) _ _) _ _) _ _) _ _ = w12 at *
  clear x0 x1 x2 x3 x4 x5 x6 x7
  obtain ⟨b0, b1, b2, b3, b4, b5, b6⟩ := bx7 L12.out.b1
  obtain ⟨d0, d1, d2, d3, d4, d5, d6⟩ := bx7 L12.out.b0
  go_wp2_with fail
  refine (HM.out _ _ L12.out).mono ?_
  rintro e w13 ⟨rfl, hL13⟩
  have L13 := hide hL13
  clear hL13 b0 b1 b2 b3 b4 b5 b6 d0 d1 d2 d3 d4 d5 d6
  go_wp2_with fail
  refine (HW.out _ _ L13.out).mono ?_
  rintro e w14 ⟨rfl, hL14⟩
  have L14 := hide hL14
  clear hL14
  go_wp2
  go_ret
  exact ⟨rfl, grown_trans HG.out L14.out.lk.gr⟩
end Go.Proofs.YtjfhilignbeboaaGreatDoor
namespace Go.Proofs.YtjfhilignbeboaaGreatDoor
/- The law CasesAsks. -/
open Go.RowKit
attribute [local go_sem ↓] Go.wp_at_zero Go.wp_at_succ
attribute [local go_sem] Oper.semAt_some
/-- Between two rounds: the flight's box, the ask's box. -/
structure AkS (w W : World) (X Y : Nat) (f0 f1 f2 f3 : Value) (k i s u t : Int) : Prop where
  gr : w.grownBy W none
  fx : W.heap[X]? = some (.cells [f0, f1, f2, f3].toArray 55 (0, 0))
  ax : W.heap[Y]? = some (.cells [Value.int .i64 k, .int .i64 i, .int .i64 s, .int .i64 u, .int .u32 t].toArray 65 (0, 0))
  ne : X ≠ Y
  y0 : w.heap.size ≤ Y
section
variable {w W W' : World} {X Y : Nat} {f0 f1 f2 f3 : Value} {k i s u t : Int}
theorem AkS.then (h : AkS w W X Y f0 f1 f2 f3 k i s u t) (g : W.grownBy W' none) : AkS w W' X Y f0 f1 f2 f3 k i s u t := ⟨grown_trans h.gr g, box_to h.fx g, box_to h.ax g, h.ne, h.y0⟩
theorem AkS.put (h : AkS w W X Y f0 f1 f2 f3 k i s u t) (n : Int) : AkS w (W.setCell ⟨Y, 0, none⟩ (.int .i64 n)) X Y f0 f1 f2 f3 n i s u t := by
  have g := grown_setCell W Y 0 (.int .i64 n)
  exact ⟨gn_own h.gr g h.y0, (g.block _ (row_lt h.fx) (fun e => h.ne (Option.some.inj e))).trans h.fx, row_setCell h.ax 0 _, h.ne, h.y0⟩
theorem AkS.cells (h : AkS w W X Y f0 f1 f2 f3 k i s u t) : W.cell? ⟨X, 0, none⟩ = some f0 ∧ W.cell? ⟨X, 1, none⟩ = some f1 ∧ W.cell? ⟨X, 2, none⟩ = some f2 ∧ W.cell? ⟨X, 3, none⟩ = some f3 ∧ W.cell? ⟨Y, 0, none⟩ = some (.int .i64 k) ∧ W.cell? ⟨Y, 1, none⟩ = some (.int .i64 i) ∧ W.cell? ⟨Y, 2, none⟩ = some (.int .i64 s) ∧ W.cell? ⟨Y, 3, none⟩ = some (.int .i64 u) ∧ W.cell? ⟨Y, 4, none⟩ = some (.int .u32 t) := by
  obtain ⟨a, b, c, d⟩ := bx4 h.fx
  exact ⟨a, b, c, d, bx5 h.ax⟩
end
set_option maxRecDepth 20000 in
set_option maxHeartbeats 16000000 in
theorem asks_any {w : World} (x : Int) {ao : Option Addr} {cap : Nat} (l : List Cg) (nx ck room : Int) (A : Ak) (ht0 : 0 ≤ A.t) (ht1 : A.t < 4294967296) (hcap : l.length ≤ cap) (hC : CgsAt w ao l) (hn0 : 0 ≤ nx) (hn1 : nx < 4294967296) (hc0 : -9223372036854775808 ≤ ck) (hc1 : ck ≤ 9223372036854775807) (hT : Rk.Tab w) : Calls Tryz.prog 5 #[.agg #[.int .i64 x, .slice ao l.length cap, .int .u32 nx, .int .i64 ck], .int .i64 room, akV A] w fun e w' => e = .returned (.bool true) ∧ w.grownBy w' none := by
  have HD : Hid (∀ W (k : Int), w.grownBy W none → Calls Tryz.prog 4 #[.agg #[.int .i64 x, .slice ao l.length cap, .int .u32 nx, .int .i64 ck], .int .i64 room, Rs.rqV (akQ ⟨k, A.i, A.s, A.u, A.t⟩)] W fun e w' => e = .returned (.bool true) ∧ W.grownBy w' none) := fun W k g => decides_any x l nx ck room _ (akQ_ok _ ht0 ht1) hcap (hC.grown g) hn0 hn1 hc0 hc1 (hT.grown g (by simp))
  have HW : Hid (∀ W, w.grownBy W none → Calls Tryz.prog 12 #[] W fun e w' => e = .returned (.bool true) ∧ W.grownBy w' none) := fun W g => awake_any W (hT.grown g (by simp))
  obtain ⟨k0, i, s, u, t⟩ := A
  have HQ : Hid (∀ W (k : Int), Calls Tryz.prog 18 #[.agg #[.int .i64 k, .int .i64 i, .int .i64 s, .int .i64 u, .int .u32 t]] W fun e w' => e = .returned (Rs.rqV (akQ ⟨k, i, s, u, t⟩)) ∧ W.grownBy w' none) := fun W k => request_any ⟨k, i, s, u, t⟩ W
  have hl0 : AkS w ((w.alloc (.cells [Value.int .i64 x, .slice ao l.length cap, .int .u32 nx, .int .i64 ck].toArray 55)).alloc (.cells [Value.int .i64 k0, .int .i64 i, .int .i64 s, .int .i64 u, .int .u32 t].toArray 65)) w.heap.size (w.heap.size + 1) (.int .i64 x) (.slice ao l.length cap) (.int .u32 nx) (.int .i64 ck) k0 i s u t := ⟨grown_alloc2 w _ _, new2a w _ _, new2 w _ _, by omega, by omega⟩
  have HL := hide hl0
  clear hl0 hT hC hcap hn0 hn1 hc0 hc1 ht0 ht1
  unfold akV
  simp only at HD ⊢
  generalize l.length = n at *
  generalize hf : Value.slice ao n cap = fv at *
  obtain ⟨aq, nq, cq, hfv⟩ : ∃ a b c, fv = Value.slice a b c := ⟨_, _, _, hf.symm⟩
  clear hf
  subst hfv
  go_enter Tryz.func5, Tryz.ntmps5
  go_wp2
  generalize World.alloc (World.alloc w _) _ = w1 at *
  generalize hX : w.heap.size = X at *
  clear hX
  generalize hY : X + 1 = Y at *
  clear hY
  go_loopg [7] 10 (fun g k wr => ∃ j : Nat, g + j = 10 ∧ k = .int .i64 (j : Int) ∧ Hid (∃ kk, AkS w wr X Y (.int .i64 x) (.slice aq nq cq) (.int .u32 nx) (.int .i64 ck) kk i s u t))
  case atStart => exact ⟨0, by omega, rfl, ⟨_, HL.out⟩⟩
  case round =>
    obtain ⟨j, hkj, rfl, hS⟩ := hrel
    obtain ⟨kk, hS⟩ := hS.out
    have HS := hide hS
    by_cases hk : 0 < gk
    · have hlt : (j : Int) < 10 := by omega
      obtain ⟨kn, hkn⟩ : ∃ kn, kn = ((j + 1 : Nat) : Int) := ⟨_, rfl⟩
      have hnx : IntKind.i64.wrap ((j : Int) + 1) = kn := by rw [IntKind.wrap_i64]; omega
      have HN := hide hkn
      have HK := hide (And.intro hk hkj)
      clear hkn hk hkj
      obtain ⟨jj, hj⟩ : ∃ jj : Int, jj = (j : Int) := ⟨_, rfl⟩
      rw [← hj] at hlt hnx ⊢
      have HJ := hide hj
      clear hj
      have a9 := free_row hS.ax 0
      obtain ⟨a0, a1, a2, a3, a4, a5, a6, a7, a8⟩ := hS.cells
      clear hS
      go_wp2
      have S2 := hide (HS.out.put jj)
      generalize World.setCell wr _ _ = w2 at *
      clear a0 a1 a2 a3 a4 a5 a6 a7 a8 a9 HS
      obtain ⟨a0, a1, a2, a3, a4, a5, a6, a7, a8⟩ := S2.out.cells
      refine wp_region_held_drew (S := (fun W => W.cell? ⟨X, 0, none⟩ = some (.int .i64 x) ∧ W.cell? ⟨X, 1, none⟩ = some (.slice aq nq cq) ∧ W.cell? ⟨X, 2, none⟩ = some (.int .u32 nx) ∧ W.cell? ⟨X, 3, none⟩ = some (.int .i64 ck) ∧ W.cell? ⟨Y, 0, none⟩ = some (.int .i64 jj) ∧ W.cell? ⟨Y, 1, none⟩ = some (.int .i64 i) ∧ W.cell? ⟨Y, 2, none⟩ = some (.int .i64 s) ∧ W.cell? ⟨Y, 3, none⟩ = some (.int .i64 u) ∧ W.cell? ⟨Y, 4, none⟩ = some (.int .u32 t))) (by kernel_rfl) ?_ (fun hHeld => ?_)
      · (exact (S2.out.then (grown_drew w2 none)).cells)
      refine tkH (i := 0) (v := ?_) rfl ?_ ?_
      rotate_left
      · (intro w hSw; (try dsimp only at hSw); (go_simp <;> with_reducible rfl))
      try simp only [Act.put, List.setIfInBounds_toArray]
      refine tkH (i := 1) (v := ?_) rfl ?_ ?_
      rotate_left
      · (intro w hSw; (try dsimp only at hSw); (go_simp <;> with_reducible rfl))
      try simp only [Act.put]
      refine tkH (i := 2) (v := ?_) rfl ?_ ?_
      rotate_left
      · (intro w hSw; (try dsimp only at hSw); (go_simp <;> with_reducible rfl))
      try simp only [Act.put]
      refine rdH (i := 3) rfl (fun K hK => ?_)
      go_simp
      refine (HQ.out _ _).mono ?_; rintro e w3 ⟨rfl, hg⟩; have S3 := hide (S2.out.then (grown_trans (grown_drew w2 none) hg)); have hJ3 := S3.out.cells; clear hg
      go_wp2_with fail
      refine hK.out _ _ ?_ (fun hHeld => ?_)
      · ((try dsimp only); assumption)
      clear hK K
      try simp only [Act.put, List.setIfInBounds_toArray, List.set_cons_zero, List.set_cons_succ]
      refine rdH (i := 4) rfl (fun K hK => ?_)
      go_simp
      refine (HD.out _ _ S3.out.gr).mono ?_; rintro e w4 ⟨rfl, hg⟩; have S4 := hide (S3.out.then hg); have hJ4 := S4.out.cells; clear hg
      go_wp2_with fail
      refine hK.out _ _ ?_ (fun hHeld => ?_)
      · ((try dsimp only); assumption)
      clear hK K
      try simp only [Act.put, List.setIfInBounds_toArray, List.set_cons_zero, List.set_cons_succ]
      refine tkH (i := 5) (v := ?_) rfl ?_ ?_
      rotate_left
      · (intro w hSw; (try dsimp only at hSw); (go_simp <;> with_reducible rfl))
      try simp only [Act.put, List.setIfInBounds_toArray]
      refine wpAnyH_done (by kernel_rfl) ?_ _
      go_wp2
      go_roundg (gk - 1)
      case measure => have := HK.out; omega
      case rel => exact ⟨j + 1, by have := HK.out; omega, by rw [HN.out], ⟨_, S4.out⟩⟩
    · obtain rfl : j = 10 := by omega
      clear hS
      go_wp2_with fail
      refine (HW.out _ HS.out.gr).mono ?_
      rintro e w3 ⟨rfl, hg⟩
      have HG := hide (grown_trans HS.out.gr hg)
      clear hg
      go_wp2
      go_ret
      exact ⟨rfl, HG.out⟩
end Go.Proofs.YtjfhilignbeboaaGreatDoor
