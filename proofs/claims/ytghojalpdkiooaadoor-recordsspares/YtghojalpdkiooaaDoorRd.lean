/- records: read. -/
import Derived.Test.YtghojalpdkiooaaDoorRc
import Derived.Laws.ResultCell
namespace Go.Proofs.YtghojalpdkiooaaDoor
open Go.RowKit
attribute [local go_sem ↓] Go.wp_at_zero Go.wp_at_succ
theorem takeF_ok (xs : List Int) (n : Nat) (h : n ≤ xs.length) : takeF xs 0 (n : Int) = (xs.take n, xs.drop n, 0) := by
  unfold takeF
  rw [if_neg (by simp), if_neg (by omega), if_neg (by omega)]
  simp
/-- Inside read: the answer's box, the fields, the Reader, the record's box. -/
structure RdS (w wr : World) (r : Rc) (a b c d : Bool) (X Y : Nat) (R : List Int) : Prop where
  ans : wr.heap[w.heap.size]? = some (.cells (rcC zRc).toArray 25 (0, 0))
  fld : wr.heap[w.heap.size + 1]? = some (.cells [Value.bool a, .bool b, .bool c, .bool d].toArray 48 (0, 0))
  rd : RdAt wr X R 0
  rc : wr.heap[Y]? = some (.cells (rcC r).toArray 25 (0, 0))
  lo : w.heap.size + 1 < X ∧ w.heap.size + 1 < Y ∧ X ≠ Y
  gr : w.grownBy wr none
section
variable {w wr wr' : World} {r r' : Rc} {a b c d : Bool} {X Y : Nat} {R R' : List Int}
theorem RdS.next (h : RdS w wr r a b c d X Y R) (hW : RdAt wr' X R' 0) (hg : wr.grownBy wr' (some X)) : RdS w wr' r a b c d X Y R' :=
  ⟨(hg.block _ (row_lt h.ans) (by have := h.lo; simp; omega)).trans h.ans, (hg.block _ (row_lt h.fld) (by have := h.lo; simp; omega)).trans h.fld, hW, (hg.block _ (row_lt h.rc) (by have := h.lo; simp; omega)).trans h.rc, h.lo, grown_then h.gr hg (fun j e => by cases e; exact Or.inl (by have := h.lo; omega))⟩
theorem RdS.set (h : RdS w wr r a b c d X Y R) (j : Nat) (v : Value) (hr : (rcC r).set j v = rcC r') : RdS w (wr.setCell ⟨Y, j, none⟩ v) r' a b c d X Y R := by
  have hg := grown_setCell wr Y j v
  refine ⟨(hg.block _ (row_lt h.ans) (by have := h.lo; simp; omega)).trans h.ans, (hg.block _ (row_lt h.fld) (by have := h.lo; simp; omega)).trans h.fld, h.rd.kept hg (by have := h.lo; simp; omega) (NoBytes.of h.rc (by decide)), ?_, h.lo, grown_then h.gr hg (fun j e => by cases e; exact Or.inl (by have := h.lo; omega))⟩
  have := row_setCell h.rc j v
  rw [hr] at this
  exact this
end
theorem RdS.begin {w w1 : World} {a b c d : Bool} {X : Nat} {R : List Int} {r : Rc} (hX : ((w.alloc (.cells (rcC zRc).toArray 25)).alloc (.cells [Value.bool a, .bool b, .bool c, .bool d].toArray 48)).heap.size ≤ X) (hR : RdAt w1 X R 0) (hg : ((w.alloc (.cells (rcC zRc).toArray 25)).alloc (.cells [Value.bool a, .bool b, .bool c, .bool d].toArray 48)).grownBy w1 none) : RdS w (w1.alloc (.cells (rcC r).toArray 25)) r a b c d X w1.heap.size R := by
  obtain ⟨ba, bb, bg⟩ := two_boxes w (rcC zRc) [Value.bool a, .bool b, .bool c, .bool d] 25 48
  have g2 := World.grownBy_alloc w1 (.cells (rcC r).toArray 25) none
  have g3 := grown_trans hg g2
  have hs := hg.size
  rw [World.size_alloc, World.size_alloc] at hX hs
  have hlx := hR.lt
  exact ⟨(g3.block _ (row_lt ba) (by simp)).trans ba, (g3.block _ (row_lt bb) (by simp)).trans bb, hR.kept g2 (by simp) (NoBytes.none _), heap_alloc_new w1 _, ⟨by omega, by omega, by omega⟩, grown_trans bg g3⟩
theorem set5 {w : World} {g : Nat} {t : TypeId} {x y z u v : Value} (h : w.heap[g]? = some (.cells [x, y, z, u, v].toArray t (0, 0))) (a b c d e : Value) :
    (((((w.setCell ⟨g, 0, none⟩ a).setCell ⟨g, 1, none⟩ b).setCell ⟨g, 2, none⟩ c).setCell ⟨g, 3, none⟩ d).setCell ⟨g, 4, none⟩ e).heap[g]? = some (.cells [a, b, c, d, e].toArray t (0, 0)) ∧ w.grownBy (((((w.setCell ⟨g, 0, none⟩ a).setCell ⟨g, 1, none⟩ b).setCell ⟨g, 2, none⟩ c).setCell ⟨g, 3, none⟩ d).setCell ⟨g, 4, none⟩ e) (some g) :=
  ⟨row_setCell (row_setCell (row_setCell (row_setCell (row_setCell h 0 a) 1 b) 2 c) 3 d) 4 e, grown_trans (grown_trans (grown_trans (grown_trans (grown_setCell w g 0 a) (grown_setCell _ g 1 b)) (grown_setCell _ g 2 c)) (grown_setCell _ g 3 d)) (grown_setCell _ g 4 e)⟩
theorem results_cell1 {fn : Func} {p : Tmp} {ty : TypeId} (h : fn.results = #[.cell p ty]) (tmps : Array Value) (P : Program) (w : World) :
    (results fn tmps).run P w = ((asAddr (tmps.getD p undef)).run P w).andThen fun a w₁ => (loadVar ty a).run P w₁ := by
  simp only [results, h]
  simp [Sem.run_bind, Result.andThen]
theorem i64_wrap {n : Int} (h0 : 0 ≤ n) (h1 : n < 18446744073709551616) : IntKind.i64.wrap n = i64of n := by
  rw [IntKind.wrap_i64]; unfold i64of; split <;> omega

set_option maxRecDepth 20000 in
set_option maxHeartbeats 4000000 in
theorem read_1 (ys : List Int) (hB : Byt ys) (ao : Option Addr) (cap : Nat) (w : World) (hn : ys.length = 14) (hat : At w ao ys) (hnil : ao ≠ none) (hT : Tab w) :
    Calls Tryd.prog 26 #[.int .i64 1, .slice ao 14 cap] w fun r w' => r = .returned (rcV (rcOf (1 :: ys))) ∧ w.grownBy w' none := by
  have ki : takeF ys 0 4 = (ys.take 4, ys.drop 4, 0) := by
    have := takeF_ok ys 4 (by omega)
    skip
    exact this
  have vi := val4 hB 0
  rw [List.drop_zero] at vi
  have ks : takeF (ys.drop 4) 0 2 = ((ys.drop 4).take 2, ys.drop 6, 0) := by
    have := takeF_ok (ys.drop 4) 2 (by simp; omega)
    rw [List.drop_drop] at this
    exact this
  have vs := val2 hB 4
  have ku : takeF (ys.drop 6) 0 8 = ((ys.drop 6).take 8, ys.drop 14, 0) := by
    have := takeF_ok (ys.drop 6) 8 (by simp; omega)
    rw [List.drop_drop] at this
    exact this
  have vu := val8 hB 6
  have hrc : rcOf (1 :: ys) = ⟨1, leV (ys.take 4), leV ((ys.drop 4).take 2), i64of (leV ((ys.drop 6).take 8)), 0⟩ := rfl
  rw [hrc]
  clear hrc
  have qi := fun X w1 (h : RdAt w1 X ys 0) => rfour_any X ys 0 w1 h (hB)
  rw [ki] at qi
  dsimp only at qi
  generalize leV (ys.take 4) = Vi at *
  clear ki vi
  have qs := fun X w1 (h : RdAt w1 X (ys.drop 4) 0) => rtwo_any X (ys.drop 4) 0 w1 h (hB.drop 4)
  rw [ks] at qs
  dsimp only at qs
  generalize leV ((ys.drop 4).take 2) = Vs at *
  have Ws : IntKind.i64.wrap Vs = Vs := by rw [IntKind.wrap_i64]; omega
  clear ks vs
  have qu := fun X w1 (h : RdAt w1 X (ys.drop 6) 0) => reight_any X (ys.drop 6) 0 w1 h (hB.drop 6)
  rw [ku] at qu
  dsimp only at qu
  generalize leV ((ys.drop 6).take 8) = Vu at *
  have Wu : IntKind.i64.wrap Vu = i64of Vu := i64_wrap vu.1 vu.2
  generalize i64of Vu = Uu at *
  clear ku vu
  obtain ⟨t0, t1, t2, t3⟩ := tab1 (hT.new (World.grownBy_alloc w (.cells [Value.int .i64 0, .int .u32 0, .int .i64 0, .int .i64 0, .int .i64 0].toArray 25) none))
  have hof := of_any ao 14 cap ys ((w.alloc (.cells #[.int .i64 0, .int .u32 0, .int .i64 0, .int .i64 0, .int .i64 0] 25)).alloc (.cells #[.bool true, .bool true, .bool true, .bool false] 48)) hn ((hat.kept (two_boxes w [Value.int .i64 0, .int .u32 0, .int .i64 0, .int .i64 0, .int .i64 0] [Value.bool true, .bool true, .bool true, .bool false] 25 48).2.2 (fun _ _ e => by cases e))) (fun e => absurd e hnil) (by decide)
  clear hB hn hat hnil hT
  go_enter Tryd.func26, Tryd.ntmps26
  go_wp2_with fail
  refine hof.mono ?_
  clear hof t0 t1 t2 t3
  rintro e w1 ⟨X, rfl, hX, hR, hg⟩
  have P0 := hide (RdS.begin (r := ⟨1, 0, 0, 0, 0⟩) hX hR hg)
  clear hX hR hg
  obtain ⟨f0, f1, f2, f3⟩ := box4 P0.out.fld
  obtain ⟨y0, y1, y2, y3, y4⟩ := box5 P0.out.rc
  unfold rcC at f0 f1 f2 f3 y0 y1 y2 y3 y4 P0
  go_wp2_with fail
  clear f0 f1 f2 f3 y0 y1 y2 y3 y4
  generalize w1.alloc (.cells #[.int .i64 1, .int .u32 0, .int .i64 0, .int .i64 0, .int .i64 0] 25) = m0 at *
  generalize w1.heap.size = Y at *
  refine (qi X m0 P0.out.rd).mono ?_
  rintro e n0 ⟨rfl, hR, hg⟩
  have Q0 := hide (P0.out.next hR hg)
  clear hR hg P0 qi
  have P1 := hide (Q0.out.set (r' := ⟨1, Vi, 0, 0, 0⟩) 1 (.int .u32 Vi) rfl)
  obtain ⟨x0, x1, x2, x3, x4⟩ := box5 Q0.out.rc
  have z1 := free_row Q0.out.rc 1
  obtain ⟨f0, f1, f2, f3⟩ := box4 P1.out.fld
  obtain ⟨y0, y1, y2, y3, y4⟩ := box5 P1.out.rc
  go_wp2_with fail
  clear x0 x1 x2 x3 x4 z1 f0 f1 f2 f3 y0 y1 y2 y3 y4
  generalize n0.setCell ⟨Y, 1, none⟩ (.int .u32 Vi) = m1 at *
  refine (qs X m1 P1.out.rd).mono ?_
  rintro e n1 ⟨rfl, hR, hg⟩
  have Q1 := hide (P1.out.next hR hg)
  clear hR hg P1 qs
  have P2 := hide (Q1.out.set (r' := ⟨1, Vi, Vs, 0, 0⟩) 2 (.int .i64 Vs) rfl)
  obtain ⟨x0, x1, x2, x3, x4⟩ := box5 Q1.out.rc
  have z2 := free_row Q1.out.rc 2
  obtain ⟨f0, f1, f2, f3⟩ := box4 P2.out.fld
  obtain ⟨y0, y1, y2, y3, y4⟩ := box5 P2.out.rc
  go_wp2_with fail
  clear x0 x1 x2 x3 x4 z2 f0 f1 f2 f3 y0 y1 y2 y3 y4
  generalize n1.setCell ⟨Y, 2, none⟩ (.int .i64 Vs) = m2 at *
  refine (qu X m2 P2.out.rd).mono ?_
  rintro e n2 ⟨rfl, hR, hg⟩
  have Q2 := hide (P2.out.next hR hg)
  clear hR hg P2 qu
  have P3 := hide (Q2.out.set (r' := ⟨1, Vi, Vs, Uu, 0⟩) 3 (.int .i64 Uu) rfl)
  obtain ⟨x0, x1, x2, x3, x4⟩ := box5 Q2.out.rc
  have z3 := free_row Q2.out.rc 3
  obtain ⟨f0, f1, f2, f3⟩ := box4 P3.out.fld
  obtain ⟨y0, y1, y2, y3, y4⟩ := box5 P3.out.rc
  obtain ⟨u0, u1, u2, u3, u4⟩ := box5 P3.out.ans
  have s0 := free_row P3.out.ans 0
  have s1 := free_row P3.out.ans 1
  have s2 := free_row P3.out.ans 2
  have s3 := free_row P3.out.ans 3
  have s4 := free_row P3.out.ans 4
  unfold zRc at u0 u1 u2 u3 u4
  go_wp2
  clear x0 x1 x2 x3 x4 z3 f0 f1 f2 f3 y0 y1 y2 y3 y4 u0 u1 u2 u3 u4 s0 s1 s2 s3 s4
  generalize n2.setCell ⟨Y, 3, none⟩ (.int .i64 Uu) = mz at *
  obtain ⟨eb, eg⟩ := set5 P3.out.ans (.int .i64 1) (.int .u32 Vi) (.int .i64 Vs) (.int .i64 Uu) (.int .i64 0)
  obtain ⟨e0, e1, e2, e3, e4⟩ := box5 eb
  have EG := hide (grown_then P3.out.gr eg (fun j e => by cases e; exact Or.inl (Nat.le_refl _)))
  clear eb eg
  generalize ((((mz.setCell ⟨w.heap.size, 0, none⟩ (.int .i64 1)).setCell ⟨w.heap.size, 1, none⟩ (.int .u32 Vi)).setCell ⟨w.heap.size, 2, none⟩ (.int .i64 Vs)).setCell ⟨w.heap.size, 3, none⟩ (.int .i64 Uu)).setCell ⟨w.heap.size, 4, none⟩ (.int .i64 0) = w9 at *
  refine bodyPost_ret (v := .agg #[.int .i64 1, .int .u32 Vi, .int .i64 Vs, .int .i64 Uu, .int .i64 0]) ?_ rfl ?_
  · rw [results_cell1 rfl]; go_simp
  exact ⟨rfl, EG.out⟩
set_option maxRecDepth 20000 in
set_option maxHeartbeats 4000000 in
theorem read_2 (ys : List Int) (hB : Byt ys) (ao : Option Addr) (cap : Nat) (w : World) (hn : ys.length = 4) (hat : At w ao ys) (hnil : ao ≠ none) (hT : Tab w) :
    Calls Tryd.prog 26 #[.int .i64 2, .slice ao 4 cap] w fun r w' => r = .returned (rcV (rcOf (2 :: ys))) ∧ w.grownBy w' none := by
  have ki : takeF ys 0 4 = (ys.take 4, ys.drop 4, 0) := by
    have := takeF_ok ys 4 (by omega)
    skip
    exact this
  have vi := val4 hB 0
  rw [List.drop_zero] at vi
  have hrc : rcOf (2 :: ys) = ⟨2, leV (ys.take 4), 0, 0, 0⟩ := rfl
  rw [hrc]
  clear hrc
  have qi := fun X w1 (h : RdAt w1 X ys 0) => rfour_any X ys 0 w1 h (hB)
  rw [ki] at qi
  dsimp only at qi
  generalize leV (ys.take 4) = Vi at *
  clear ki vi
  obtain ⟨t0, t1, t2, t3⟩ := tab2 (hT.new (World.grownBy_alloc w (.cells [Value.int .i64 0, .int .u32 0, .int .i64 0, .int .i64 0, .int .i64 0].toArray 25) none))
  have hof := of_any ao 4 cap ys ((w.alloc (.cells #[.int .i64 0, .int .u32 0, .int .i64 0, .int .i64 0, .int .i64 0] 25)).alloc (.cells #[.bool true, .bool false, .bool false, .bool false] 48)) hn ((hat.kept (two_boxes w [Value.int .i64 0, .int .u32 0, .int .i64 0, .int .i64 0, .int .i64 0] [Value.bool true, .bool false, .bool false, .bool false] 25 48).2.2 (fun _ _ e => by cases e))) (fun e => absurd e hnil) (by decide)
  clear hB hn hat hnil hT
  go_enter Tryd.func26, Tryd.ntmps26
  go_wp2_with fail
  refine hof.mono ?_
  clear hof t0 t1 t2 t3
  rintro e w1 ⟨X, rfl, hX, hR, hg⟩
  have P0 := hide (RdS.begin (r := ⟨2, 0, 0, 0, 0⟩) hX hR hg)
  clear hX hR hg
  obtain ⟨f0, f1, f2, f3⟩ := box4 P0.out.fld
  obtain ⟨y0, y1, y2, y3, y4⟩ := box5 P0.out.rc
  unfold rcC at f0 f1 f2 f3 y0 y1 y2 y3 y4 P0
  go_wp2_with fail
  clear f0 f1 f2 f3 y0 y1 y2 y3 y4
  generalize w1.alloc (.cells #[.int .i64 2, .int .u32 0, .int .i64 0, .int .i64 0, .int .i64 0] 25) = m0 at *
  generalize w1.heap.size = Y at *
  refine (qi X m0 P0.out.rd).mono ?_
  rintro e n0 ⟨rfl, hR, hg⟩
  have Q0 := hide (P0.out.next hR hg)
  clear hR hg P0 qi
  have P1 := hide (Q0.out.set (r' := ⟨2, Vi, 0, 0, 0⟩) 1 (.int .u32 Vi) rfl)
  obtain ⟨x0, x1, x2, x3, x4⟩ := box5 Q0.out.rc
  have z1 := free_row Q0.out.rc 1
  obtain ⟨f0, f1, f2, f3⟩ := box4 P1.out.fld
  obtain ⟨y0, y1, y2, y3, y4⟩ := box5 P1.out.rc
  obtain ⟨u0, u1, u2, u3, u4⟩ := box5 P1.out.ans
  have s0 := free_row P1.out.ans 0
  have s1 := free_row P1.out.ans 1
  have s2 := free_row P1.out.ans 2
  have s3 := free_row P1.out.ans 3
  have s4 := free_row P1.out.ans 4
  unfold zRc at u0 u1 u2 u3 u4
  go_wp2
  clear x0 x1 x2 x3 x4 z1 f0 f1 f2 f3 y0 y1 y2 y3 y4 u0 u1 u2 u3 u4 s0 s1 s2 s3 s4
  generalize n0.setCell ⟨Y, 1, none⟩ (.int .u32 Vi) = mz at *
  obtain ⟨eb, eg⟩ := set5 P1.out.ans (.int .i64 2) (.int .u32 Vi) (.int .i64 0) (.int .i64 0) (.int .i64 0)
  obtain ⟨e0, e1, e2, e3, e4⟩ := box5 eb
  have EG := hide (grown_then P1.out.gr eg (fun j e => by cases e; exact Or.inl (Nat.le_refl _)))
  clear eb eg
  generalize ((((mz.setCell ⟨w.heap.size, 0, none⟩ (.int .i64 2)).setCell ⟨w.heap.size, 1, none⟩ (.int .u32 Vi)).setCell ⟨w.heap.size, 2, none⟩ (.int .i64 0)).setCell ⟨w.heap.size, 3, none⟩ (.int .i64 0)).setCell ⟨w.heap.size, 4, none⟩ (.int .i64 0) = w9 at *
  refine bodyPost_ret (v := .agg #[.int .i64 2, .int .u32 Vi, .int .i64 0, .int .i64 0, .int .i64 0]) ?_ rfl ?_
  · rw [results_cell1 rfl]; go_simp
  exact ⟨rfl, EG.out⟩
set_option maxRecDepth 20000 in
set_option maxHeartbeats 4000000 in
theorem read_3 (ys : List Int) (hB : Byt ys) (ao : Option Addr) (cap : Nat) (w : World) (hn : ys.length = 4) (hat : At w ao ys) (hnil : ao ≠ none) (hT : Tab w) :
    Calls Tryd.prog 26 #[.int .i64 3, .slice ao 4 cap] w fun r w' => r = .returned (rcV (rcOf (3 :: ys))) ∧ w.grownBy w' none := by
  have ki : takeF ys 0 4 = (ys.take 4, ys.drop 4, 0) := by
    have := takeF_ok ys 4 (by omega)
    skip
    exact this
  have vi := val4 hB 0
  rw [List.drop_zero] at vi
  have hrc : rcOf (3 :: ys) = ⟨3, leV (ys.take 4), 0, 0, 0⟩ := rfl
  rw [hrc]
  clear hrc
  have qi := fun X w1 (h : RdAt w1 X ys 0) => rfour_any X ys 0 w1 h (hB)
  rw [ki] at qi
  dsimp only at qi
  generalize leV (ys.take 4) = Vi at *
  clear ki vi
  obtain ⟨t0, t1, t2, t3⟩ := tab3 (hT.new (World.grownBy_alloc w (.cells [Value.int .i64 0, .int .u32 0, .int .i64 0, .int .i64 0, .int .i64 0].toArray 25) none))
  have hof := of_any ao 4 cap ys ((w.alloc (.cells #[.int .i64 0, .int .u32 0, .int .i64 0, .int .i64 0, .int .i64 0] 25)).alloc (.cells #[.bool true, .bool false, .bool false, .bool false] 48)) hn ((hat.kept (two_boxes w [Value.int .i64 0, .int .u32 0, .int .i64 0, .int .i64 0, .int .i64 0] [Value.bool true, .bool false, .bool false, .bool false] 25 48).2.2 (fun _ _ e => by cases e))) (fun e => absurd e hnil) (by decide)
  clear hB hn hat hnil hT
  go_enter Tryd.func26, Tryd.ntmps26
  go_wp2_with fail
  refine hof.mono ?_
  clear hof t0 t1 t2 t3
  rintro e w1 ⟨X, rfl, hX, hR, hg⟩
  have P0 := hide (RdS.begin (r := ⟨3, 0, 0, 0, 0⟩) hX hR hg)
  clear hX hR hg
  obtain ⟨f0, f1, f2, f3⟩ := box4 P0.out.fld
  obtain ⟨y0, y1, y2, y3, y4⟩ := box5 P0.out.rc
  unfold rcC at f0 f1 f2 f3 y0 y1 y2 y3 y4 P0
  go_wp2_with fail
  clear f0 f1 f2 f3 y0 y1 y2 y3 y4
  generalize w1.alloc (.cells #[.int .i64 3, .int .u32 0, .int .i64 0, .int .i64 0, .int .i64 0] 25) = m0 at *
  generalize w1.heap.size = Y at *
  refine (qi X m0 P0.out.rd).mono ?_
  rintro e n0 ⟨rfl, hR, hg⟩
  have Q0 := hide (P0.out.next hR hg)
  clear hR hg P0 qi
  have P1 := hide (Q0.out.set (r' := ⟨3, Vi, 0, 0, 0⟩) 1 (.int .u32 Vi) rfl)
  obtain ⟨x0, x1, x2, x3, x4⟩ := box5 Q0.out.rc
  have z1 := free_row Q0.out.rc 1
  obtain ⟨f0, f1, f2, f3⟩ := box4 P1.out.fld
  obtain ⟨y0, y1, y2, y3, y4⟩ := box5 P1.out.rc
  obtain ⟨u0, u1, u2, u3, u4⟩ := box5 P1.out.ans
  have s0 := free_row P1.out.ans 0
  have s1 := free_row P1.out.ans 1
  have s2 := free_row P1.out.ans 2
  have s3 := free_row P1.out.ans 3
  have s4 := free_row P1.out.ans 4
  unfold zRc at u0 u1 u2 u3 u4
  go_wp2
  clear x0 x1 x2 x3 x4 z1 f0 f1 f2 f3 y0 y1 y2 y3 y4 u0 u1 u2 u3 u4 s0 s1 s2 s3 s4
  generalize n0.setCell ⟨Y, 1, none⟩ (.int .u32 Vi) = mz at *
  obtain ⟨eb, eg⟩ := set5 P1.out.ans (.int .i64 3) (.int .u32 Vi) (.int .i64 0) (.int .i64 0) (.int .i64 0)
  obtain ⟨e0, e1, e2, e3, e4⟩ := box5 eb
  have EG := hide (grown_then P1.out.gr eg (fun j e => by cases e; exact Or.inl (Nat.le_refl _)))
  clear eb eg
  generalize ((((mz.setCell ⟨w.heap.size, 0, none⟩ (.int .i64 3)).setCell ⟨w.heap.size, 1, none⟩ (.int .u32 Vi)).setCell ⟨w.heap.size, 2, none⟩ (.int .i64 0)).setCell ⟨w.heap.size, 3, none⟩ (.int .i64 0)).setCell ⟨w.heap.size, 4, none⟩ (.int .i64 0) = w9 at *
  refine bodyPost_ret (v := .agg #[.int .i64 3, .int .u32 Vi, .int .i64 0, .int .i64 0, .int .i64 0]) ?_ rfl ?_
  · rw [results_cell1 rfl]; go_simp
  exact ⟨rfl, EG.out⟩
set_option maxRecDepth 20000 in
set_option maxHeartbeats 4000000 in
theorem read_4 (ys : List Int) (hB : Byt ys) (ao : Option Addr) (cap : Nat) (w : World) (hn : ys.length = 6) (hat : At w ao ys) (hnil : ao ≠ none) (hT : Tab w) :
    Calls Tryd.prog 26 #[.int .i64 4, .slice ao 6 cap] w fun r w' => r = .returned (rcV (rcOf (4 :: ys))) ∧ w.grownBy w' none := by
  have ki : takeF ys 0 4 = (ys.take 4, ys.drop 4, 0) := by
    have := takeF_ok ys 4 (by omega)
    skip
    exact this
  have vi := val4 hB 0
  rw [List.drop_zero] at vi
  have ks : takeF (ys.drop 4) 0 2 = ((ys.drop 4).take 2, ys.drop 6, 0) := by
    have := takeF_ok (ys.drop 4) 2 (by simp; omega)
    rw [List.drop_drop] at this
    exact this
  have vs := val2 hB 4
  have hrc : rcOf (4 :: ys) = ⟨4, leV (ys.take 4), leV ((ys.drop 4).take 2), 0, 0⟩ := rfl
  rw [hrc]
  clear hrc
  have qi := fun X w1 (h : RdAt w1 X ys 0) => rfour_any X ys 0 w1 h (hB)
  rw [ki] at qi
  dsimp only at qi
  generalize leV (ys.take 4) = Vi at *
  clear ki vi
  have qs := fun X w1 (h : RdAt w1 X (ys.drop 4) 0) => rtwo_any X (ys.drop 4) 0 w1 h (hB.drop 4)
  rw [ks] at qs
  dsimp only at qs
  generalize leV ((ys.drop 4).take 2) = Vs at *
  have Ws : IntKind.i64.wrap Vs = Vs := by rw [IntKind.wrap_i64]; omega
  clear ks vs
  obtain ⟨t0, t1, t2, t3⟩ := tab4 (hT.new (World.grownBy_alloc w (.cells [Value.int .i64 0, .int .u32 0, .int .i64 0, .int .i64 0, .int .i64 0].toArray 25) none))
  have hof := of_any ao 6 cap ys ((w.alloc (.cells #[.int .i64 0, .int .u32 0, .int .i64 0, .int .i64 0, .int .i64 0] 25)).alloc (.cells #[.bool true, .bool true, .bool false, .bool false] 48)) hn ((hat.kept (two_boxes w [Value.int .i64 0, .int .u32 0, .int .i64 0, .int .i64 0, .int .i64 0] [Value.bool true, .bool true, .bool false, .bool false] 25 48).2.2 (fun _ _ e => by cases e))) (fun e => absurd e hnil) (by decide)
  clear hB hn hat hnil hT
  go_enter Tryd.func26, Tryd.ntmps26
  go_wp2_with fail
  refine hof.mono ?_
  clear hof t0 t1 t2 t3
  rintro e w1 ⟨X, rfl, hX, hR, hg⟩
  have P0 := hide (RdS.begin (r := ⟨4, 0, 0, 0, 0⟩) hX hR hg)
  clear hX hR hg
  obtain ⟨f0, f1, f2, f3⟩ := box4 P0.out.fld
  obtain ⟨y0, y1, y2, y3, y4⟩ := box5 P0.out.rc
  unfold rcC at f0 f1 f2 f3 y0 y1 y2 y3 y4 P0
  go_wp2_with fail
  clear f0 f1 f2 f3 y0 y1 y2 y3 y4
  generalize w1.alloc (.cells #[.int .i64 4, .int .u32 0, .int .i64 0, .int .i64 0, .int .i64 0] 25) = m0 at *
  generalize w1.heap.size = Y at *
  refine (qi X m0 P0.out.rd).mono ?_
  rintro e n0 ⟨rfl, hR, hg⟩
  have Q0 := hide (P0.out.next hR hg)
  clear hR hg P0 qi
  have P1 := hide (Q0.out.set (r' := ⟨4, Vi, 0, 0, 0⟩) 1 (.int .u32 Vi) rfl)
  obtain ⟨x0, x1, x2, x3, x4⟩ := box5 Q0.out.rc
  have z1 := free_row Q0.out.rc 1
  obtain ⟨f0, f1, f2, f3⟩ := box4 P1.out.fld
  obtain ⟨y0, y1, y2, y3, y4⟩ := box5 P1.out.rc
  go_wp2_with fail
  clear x0 x1 x2 x3 x4 z1 f0 f1 f2 f3 y0 y1 y2 y3 y4
  generalize n0.setCell ⟨Y, 1, none⟩ (.int .u32 Vi) = m1 at *
  refine (qs X m1 P1.out.rd).mono ?_
  rintro e n1 ⟨rfl, hR, hg⟩
  have Q1 := hide (P1.out.next hR hg)
  clear hR hg P1 qs
  have P2 := hide (Q1.out.set (r' := ⟨4, Vi, Vs, 0, 0⟩) 2 (.int .i64 Vs) rfl)
  obtain ⟨x0, x1, x2, x3, x4⟩ := box5 Q1.out.rc
  have z2 := free_row Q1.out.rc 2
  obtain ⟨f0, f1, f2, f3⟩ := box4 P2.out.fld
  obtain ⟨y0, y1, y2, y3, y4⟩ := box5 P2.out.rc
  obtain ⟨u0, u1, u2, u3, u4⟩ := box5 P2.out.ans
  have s0 := free_row P2.out.ans 0
  have s1 := free_row P2.out.ans 1
  have s2 := free_row P2.out.ans 2
  have s3 := free_row P2.out.ans 3
  have s4 := free_row P2.out.ans 4
  unfold zRc at u0 u1 u2 u3 u4
  go_wp2
  clear x0 x1 x2 x3 x4 z2 f0 f1 f2 f3 y0 y1 y2 y3 y4 u0 u1 u2 u3 u4 s0 s1 s2 s3 s4
  generalize n1.setCell ⟨Y, 2, none⟩ (.int .i64 Vs) = mz at *
  obtain ⟨eb, eg⟩ := set5 P2.out.ans (.int .i64 4) (.int .u32 Vi) (.int .i64 Vs) (.int .i64 0) (.int .i64 0)
  obtain ⟨e0, e1, e2, e3, e4⟩ := box5 eb
  have EG := hide (grown_then P2.out.gr eg (fun j e => by cases e; exact Or.inl (Nat.le_refl _)))
  clear eb eg
  generalize ((((mz.setCell ⟨w.heap.size, 0, none⟩ (.int .i64 4)).setCell ⟨w.heap.size, 1, none⟩ (.int .u32 Vi)).setCell ⟨w.heap.size, 2, none⟩ (.int .i64 Vs)).setCell ⟨w.heap.size, 3, none⟩ (.int .i64 0)).setCell ⟨w.heap.size, 4, none⟩ (.int .i64 0) = w9 at *
  refine bodyPost_ret (v := .agg #[.int .i64 4, .int .u32 Vi, .int .i64 Vs, .int .i64 0, .int .i64 0]) ?_ rfl ?_
  · rw [results_cell1 rfl]; go_simp
  exact ⟨rfl, EG.out⟩
set_option maxRecDepth 20000 in
set_option maxHeartbeats 4000000 in
theorem read_5 (ys : List Int) (hB : Byt ys) (ao : Option Addr) (cap : Nat) (w : World) (hn : ys.length = 8) (hat : At w ao ys) (hnil : ao ≠ none) (hT : Tab w) :
    Calls Tryd.prog 26 #[.int .i64 5, .slice ao 8 cap] w fun r w' => r = .returned (rcV (rcOf (5 :: ys))) ∧ w.grownBy w' none := by
  have kc : takeF ys 0 8 = (ys.take 8, ys.drop 8, 0) := by
    have := takeF_ok ys 8 (by omega)
    skip
    exact this
  have vc := val8 hB 0
  rw [List.drop_zero] at vc
  have hrc : rcOf (5 :: ys) = ⟨5, 0, 0, 0, i64of (leV (ys.take 8))⟩ := rfl
  rw [hrc]
  clear hrc
  have qc := fun X w1 (h : RdAt w1 X ys 0) => reight_any X ys 0 w1 h (hB)
  rw [kc] at qc
  dsimp only at qc
  generalize leV (ys.take 8) = Vc at *
  have Wc : IntKind.i64.wrap Vc = i64of Vc := i64_wrap vc.1 vc.2
  generalize i64of Vc = Uc at *
  clear kc vc
  obtain ⟨t0, t1, t2, t3⟩ := tab5 (hT.new (World.grownBy_alloc w (.cells [Value.int .i64 0, .int .u32 0, .int .i64 0, .int .i64 0, .int .i64 0].toArray 25) none))
  have hof := of_any ao 8 cap ys ((w.alloc (.cells #[.int .i64 0, .int .u32 0, .int .i64 0, .int .i64 0, .int .i64 0] 25)).alloc (.cells #[.bool false, .bool false, .bool false, .bool true] 48)) hn ((hat.kept (two_boxes w [Value.int .i64 0, .int .u32 0, .int .i64 0, .int .i64 0, .int .i64 0] [Value.bool false, .bool false, .bool false, .bool true] 25 48).2.2 (fun _ _ e => by cases e))) (fun e => absurd e hnil) (by decide)
  clear hB hn hat hnil hT
  go_enter Tryd.func26, Tryd.ntmps26
  go_wp2_with fail
  refine hof.mono ?_
  clear hof t0 t1 t2 t3
  rintro e w1 ⟨X, rfl, hX, hR, hg⟩
  have P0 := hide (RdS.begin (r := ⟨5, 0, 0, 0, 0⟩) hX hR hg)
  clear hX hR hg
  obtain ⟨f0, f1, f2, f3⟩ := box4 P0.out.fld
  obtain ⟨y0, y1, y2, y3, y4⟩ := box5 P0.out.rc
  unfold rcC at f0 f1 f2 f3 y0 y1 y2 y3 y4 P0
  go_wp2_with fail
  clear f0 f1 f2 f3 y0 y1 y2 y3 y4
  generalize w1.alloc (.cells #[.int .i64 5, .int .u32 0, .int .i64 0, .int .i64 0, .int .i64 0] 25) = m0 at *
  generalize w1.heap.size = Y at *
  refine (qc X m0 P0.out.rd).mono ?_
  rintro e n0 ⟨rfl, hR, hg⟩
  have Q0 := hide (P0.out.next hR hg)
  clear hR hg P0 qc
  have P1 := hide (Q0.out.set (r' := ⟨5, 0, 0, 0, Uc⟩) 4 (.int .i64 Uc) rfl)
  obtain ⟨x0, x1, x2, x3, x4⟩ := box5 Q0.out.rc
  have z4 := free_row Q0.out.rc 4
  obtain ⟨f0, f1, f2, f3⟩ := box4 P1.out.fld
  obtain ⟨y0, y1, y2, y3, y4⟩ := box5 P1.out.rc
  obtain ⟨u0, u1, u2, u3, u4⟩ := box5 P1.out.ans
  have s0 := free_row P1.out.ans 0
  have s1 := free_row P1.out.ans 1
  have s2 := free_row P1.out.ans 2
  have s3 := free_row P1.out.ans 3
  have s4 := free_row P1.out.ans 4
  unfold zRc at u0 u1 u2 u3 u4
  go_wp2
  clear x0 x1 x2 x3 x4 z4 f0 f1 f2 f3 y0 y1 y2 y3 y4 u0 u1 u2 u3 u4 s0 s1 s2 s3 s4
  generalize n0.setCell ⟨Y, 4, none⟩ (.int .i64 Uc) = mz at *
  obtain ⟨eb, eg⟩ := set5 P1.out.ans (.int .i64 5) (.int .u32 0) (.int .i64 0) (.int .i64 0) (.int .i64 Uc)
  obtain ⟨e0, e1, e2, e3, e4⟩ := box5 eb
  have EG := hide (grown_then P1.out.gr eg (fun j e => by cases e; exact Or.inl (Nat.le_refl _)))
  clear eb eg
  generalize ((((mz.setCell ⟨w.heap.size, 0, none⟩ (.int .i64 5)).setCell ⟨w.heap.size, 1, none⟩ (.int .u32 0)).setCell ⟨w.heap.size, 2, none⟩ (.int .i64 0)).setCell ⟨w.heap.size, 3, none⟩ (.int .i64 0)).setCell ⟨w.heap.size, 4, none⟩ (.int .i64 Uc) = w9 at *
  refine bodyPost_ret (v := .agg #[.int .i64 5, .int .u32 0, .int .i64 0, .int .i64 0, .int .i64 Uc]) ?_ rfl ?_
  · rw [results_cell1 rfl]; go_simp
  exact ⟨rfl, EG.out⟩
end Go.Proofs.YtghojalpdkiooaaDoor
