/- Texts joined: JpAe. -/
import Derived.Laws.ResultCell
import Derived.Test.YtinkkocleognbaaGreatDoorJuAt
import Derived.Test.YtinkkocleognbaaGreatDoorJuAs
/- Texts joined: RkRd, OcRef, RkRe. -/
/- records: read. -/
namespace Go.Proofs.YtinkkocleognbaaGreatDoor.Rk
open Oc
open Go.RowKit
attribute [local go_sem ↓] Go.wp_at_zero Go.wp_at_succ
theorem takeF_ok (xs : List Int) (n : Nat) (h : n ≤ xs.length) : takeF xs 0 (n : Int) = (xs.take n, xs.drop n, 0) := by
  unfold takeF
  rw [if_neg (by simp), if_neg (by omega), if_neg (by omega)]
  simp
/-- Inside read: the answer's box, the fields, the Reader, the record's box. -/
structure RdS (w wr : World) (r : Rc) (a b c d : Bool) (X Y : Nat) (R : List Int) : Prop where
  ans : wr.heap[w.heap.size]? = some (.cells (rcC zRc).toArray 47 (0, 0))
  fld : wr.heap[w.heap.size + 1]? = some (.cells [Value.bool a, .bool b, .bool c, .bool d].toArray 138 (0, 0))
  rd : RdAt wr X R 0
  rc : wr.heap[Y]? = some (.cells (rcC r).toArray 47 (0, 0))
  lo : w.heap.size + 1 < X ∧ w.heap.size + 1 < Y ∧ X ≠ Y
  gr : w.grownBy wr none
section
variable {w wr wr' : World} {r r' : Rc} {a b c d : Bool} {X Y : Nat} {R R' : List Int}
theorem RdS.next (h : RdS w wr r a b c d X Y R) (hW : RdAt wr' X R' 0) (hg : wr.grownBy wr' (some X)) : RdS w wr' r a b c d X Y R' :=
  ⟨(hg.block _ (row_lt h.ans) (by have := h.lo; simp; omega)).trans h.ans, (hg.block _ (row_lt h.fld) (by have := h.lo; simp; omega)).trans h.fld, hW, (hg.block _ (row_lt h.rc) (by have := h.lo; simp; omega)).trans h.rc, h.lo, grown_then h.gr hg (fun j e => by cases e; exact Or.inl (by have := h.lo; omega))⟩
theorem RdS.set (h : RdS w wr r a b c d X Y R) (j : Nat) (v : Value) (hr : (rcC r).set j v = rcC r') : RdS w (wr.setCell ⟨Y, j, none⟩ v) r' a b c d X Y R := by
  have hg := grown_setCell wr Y j v
  refine ⟨(hg.block _ (row_lt h.ans) (by have := h.lo; simp; omega)).trans h.ans, (hg.block _ (row_lt h.fld) (by have := h.lo; simp; omega)).trans h.fld, h.rd.kept hg (by have := h.lo; simp; omega) (NoBytes.of h.rc (by decide)), ?_, h.lo, grown_then h.gr hg (fun j e => by cases e; exact Or.inl (by have := h.lo; omega))⟩
  have := row_setCell h.rc j v
  rw [hr] at this
  exact this
end
theorem RdS.begin {w w1 : World} {a b c d : Bool} {X : Nat} {R : List Int} {r : Rc} (hX : ((w.alloc (.cells (rcC zRc).toArray 47)).alloc (.cells [Value.bool a, .bool b, .bool c, .bool d].toArray 138)).heap.size ≤ X) (hR : RdAt w1 X R 0) (hg : ((w.alloc (.cells (rcC zRc).toArray 47)).alloc (.cells [Value.bool a, .bool b, .bool c, .bool d].toArray 138)).grownBy w1 none) : RdS w (w1.alloc (.cells (rcC r).toArray 47)) r a b c d X w1.heap.size R := by
  obtain ⟨ba, bb, bg⟩ := two_boxes w (rcC zRc) [Value.bool a, .bool b, .bool c, .bool d] 47 138
  have g2 := World.grownBy_alloc w1 (.cells (rcC r).toArray 47) none
  have g3 := grown_trans hg g2
  have hs := hg.size
  rw [World.size_alloc, World.size_alloc] at hX hs
  have hlx := hR.lt
  exact ⟨(g3.block _ (row_lt ba) (by simp)).trans ba, (g3.block _ (row_lt bb) (by simp)).trans bb, hR.kept g2 (by simp) (NoBytes.none _), heap_alloc_new w1 _, ⟨by omega, by omega, by omega⟩, grown_trans bg g3⟩
theorem set5 {w : World} {g : Nat} {t : TypeId} {x y z u v : Value} (h : w.heap[g]? = some (.cells [x, y, z, u, v].toArray t (0, 0))) (a b c d e : Value) :
    (((((w.setCell ⟨g, 0, none⟩ a).setCell ⟨g, 1, none⟩ b).setCell ⟨g, 2, none⟩ c).setCell ⟨g, 3, none⟩ d).setCell ⟨g, 4, none⟩ e).heap[g]? = some (.cells [a, b, c, d, e].toArray t (0, 0)) ∧ w.grownBy (((((w.setCell ⟨g, 0, none⟩ a).setCell ⟨g, 1, none⟩ b).setCell ⟨g, 2, none⟩ c).setCell ⟨g, 3, none⟩ d).setCell ⟨g, 4, none⟩ e) (some g) :=
  ⟨row_setCell (row_setCell (row_setCell (row_setCell (row_setCell h 0 a) 1 b) 2 c) 3 d) 4 e, grown_trans (grown_trans (grown_trans (grown_trans (grown_setCell w g 0 a) (grown_setCell _ g 1 b)) (grown_setCell _ g 2 c)) (grown_setCell _ g 3 d)) (grown_setCell _ g 4 e)⟩
theorem results_cell1 {fn : Func} {p : Tmp} {ty : TypeId} (h : fn.results = #[.cell p ty]) (tmps : Array Value) (P : Program) (w : World) :
    (results fn tmps).run P w = ((asAddr (tmps.getD p undef)).run P w).andThen fun a w₁ => (loadVar ty a).run P w₁ := by
  simp only [results, h]
  simp [Sem.run_bind, Result.andThen]
theorem i64_wrap {n : Int} (h0 : 0 ≤ n) (h1 : n < 18446744073709551616) : IntKind.i64.wrap n = i64of n := by
  rw [IntKind.wrap_i64]; unfold i64of; split <;> omega

set_option maxRecDepth 20000 in
set_option maxHeartbeats 4000000 in
theorem read_1 (ys : List Int) (hB : Byt ys) (ao : Option Addr) (cap : Nat) (w : World) (hn : ys.length = 14) (hat : At w ao ys) (hnil : ao ≠ none) (hT : Tab w) :
    Calls Tryz.prog 99 #[.int .i64 1, .slice ao 14 cap] w fun r w' => r = .returned (rcV (rcOf (1 :: ys))) ∧ w.grownBy w' none := by
  have ki : takeF ys 0 4 = (ys.take 4, ys.drop 4, 0) := by
    have := takeF_ok ys 4 (by omega)
    skip
    exact this
  have vi := val4 hB 0
  rw [List.drop_zero] at vi
  have ks : takeF (ys.drop 4) 0 2 = ((ys.drop 4).take 2, ys.drop 6, 0) := by
    have := takeF_ok (ys.drop 4) 2 (by simp; omega)
    rw [List.drop_drop] at this
    exact this
  have vs := val2 hB 4
  have ku : takeF (ys.drop 6) 0 8 = ((ys.drop 6).take 8, ys.drop 14, 0) := by
    have := takeF_ok (ys.drop 6) 8 (by simp; omega)
    rw [List.drop_drop] at this
    exact this
  have vu := val8 hB 6
  have hrc : rcOf (1 :: ys) = ⟨1, leV (ys.take 4), leV ((ys.drop 4).take 2), i64of (leV ((ys.drop 6).take 8)), 0⟩ := rfl
  rw [hrc]
  clear hrc
  have qi := fun X w1 (h : RdAt w1 X ys 0) => rfour_any X ys 0 w1 h (hB)
  rw [ki] at qi
  dsimp only at qi
  generalize leV (ys.take 4) = Vi at *
  clear ki vi
  have qs := fun X w1 (h : RdAt w1 X (ys.drop 4) 0) => rtwo_any X (ys.drop 4) 0 w1 h (hB.drop 4)
  rw [ks] at qs
  dsimp only at qs
  generalize leV ((ys.drop 4).take 2) = Vs at *
  have Ws : IntKind.i64.wrap Vs = Vs := by rw [IntKind.wrap_i64]; omega
  clear ks vs
  have qu := fun X w1 (h : RdAt w1 X (ys.drop 6) 0) => reight_any X (ys.drop 6) 0 w1 h (hB.drop 6)
  rw [ku] at qu
  dsimp only at qu
  generalize leV ((ys.drop 6).take 8) = Vu at *
  have Wu : IntKind.i64.wrap Vu = i64of Vu := i64_wrap vu.1 vu.2
  generalize i64of Vu = Uu at *
  clear ku vu
  obtain ⟨t0, t1, t2, t3⟩ := tab1 (hT.new (World.grownBy_alloc w (.cells [Value.int .i64 0, .int .u32 0, .int .i64 0, .int .i64 0, .int .i64 0].toArray 47) none))
  have hof := Oc.of_any ao 14 cap ys ((w.alloc (.cells #[.int .i64 0, .int .u32 0, .int .i64 0, .int .i64 0, .int .i64 0] 47)).alloc (.cells #[.bool true, .bool true, .bool true, .bool false] 138)) hn ((hat.kept (two_boxes w [Value.int .i64 0, .int .u32 0, .int .i64 0, .int .i64 0, .int .i64 0] [Value.bool true, .bool true, .bool true, .bool false] 47 138).2.2 (fun _ _ e => by cases e))) (fun e => absurd e hnil) (by decide)
  clear hB hn hat hnil hT
  go_enter Tryz.func99, Tryz.ntmps99
  go_wp2_with fail
  refine hof.mono ?_
  clear hof t0 t1 t2 t3
  rintro e w1 ⟨X, rfl, hX, hR, hg⟩
  have P0 := hide (RdS.begin (r := ⟨1, 0, 0, 0, 0⟩) hX hR hg)
  clear hX hR hg
  obtain ⟨f0, f1, f2, f3⟩ := box4 P0.out.fld
  obtain ⟨y0, y1, y2, y3, y4⟩ := box5 P0.out.rc
  unfold rcC at f0 f1 f2 f3 y0 y1 y2 y3 y4 P0
  go_wp2_with fail
  clear f0 f1 f2 f3 y0 y1 y2 y3 y4
  generalize w1.alloc (.cells #[.int .i64 1, .int .u32 0, .int .i64 0, .int .i64 0, .int .i64 0] 47) = m0 at *
  generalize w1.heap.size = Y at *
  refine (qi X m0 P0.out.rd).mono ?_
  rintro e n0 ⟨rfl, hR, hg⟩
  have Q0 := hide (P0.out.next hR hg)
  clear hR hg P0 qi
  have P1 := hide (Q0.out.set (r' := ⟨1, Vi, 0, 0, 0⟩) 1 (.int .u32 Vi) rfl)
  obtain ⟨x0, x1, x2, x3, x4⟩ := box5 Q0.out.rc
  have z1 := free_row Q0.out.rc 1
  obtain ⟨f0, f1, f2, f3⟩ := box4 P1.out.fld
  obtain ⟨y0, y1, y2, y3, y4⟩ := box5 P1.out.rc
  go_wp2_with fail
  clear x0 x1 x2 x3 x4 z1 f0 f1 f2 f3 y0 y1 y2 y3 y4
  generalize n0.setCell ⟨Y, 1, none⟩ (.int .u32 Vi) = m1 at *
  refine (qs X m1 P1.out.rd).mono ?_
  rintro e n1 ⟨rfl, hR, hg⟩
  have Q1 := hide (P1.out.next hR hg)
  clear hR hg P1 qs
  have P2 := hide (Q1.out.set (r' := ⟨1, Vi, Vs, 0, 0⟩) 2 (.int .i64 Vs) rfl)
  obtain ⟨x0, x1, x2, x3, x4⟩ := box5 Q1.out.rc
  have z2 := free_row Q1.out.rc 2
  obtain ⟨f0, f1, f2, f3⟩ := box4 P2.out.fld
  obtain ⟨y0, y1, y2, y3, y4⟩ := box5 P2.out.rc
  go_wp2_with fail
  clear x0 x1 x2 x3 x4 z2 f0 f1 f2 f3 y0 y1 y2 y3 y4
  generalize n1.setCell ⟨Y, 2, none⟩ (.int .i64 Vs) = m2 at *
  refine (qu X m2 P2.out.rd).mono ?_
  rintro e n2 ⟨rfl, hR, hg⟩
  have Q2 := hide (P2.out.next hR hg)
  clear hR hg P2 qu
  have P3 := hide (Q2.out.set (r' := ⟨1, Vi, Vs, Uu, 0⟩) 3 (.int .i64 Uu) rfl)
  obtain ⟨x0, x1, x2, x3, x4⟩ := box5 Q2.out.rc
  have z3 := free_row Q2.out.rc 3
  obtain ⟨f0, f1, f2, f3⟩ := box4 P3.out.fld
  obtain ⟨y0, y1, y2, y3, y4⟩ := box5 P3.out.rc
  obtain ⟨u0, u1, u2, u3, u4⟩ := box5 P3.out.ans
  have s0 := free_row P3.out.ans 0
  have s1 := free_row P3.out.ans 1
  have s2 := free_row P3.out.ans 2
  have s3 := free_row P3.out.ans 3
  have s4 := free_row P3.out.ans 4
  unfold zRc at u0 u1 u2 u3 u4
  go_wp2
  clear x0 x1 x2 x3 x4 z3 f0 f1 f2 f3 y0 y1 y2 y3 y4 u0 u1 u2 u3 u4 s0 s1 s2 s3 s4
  generalize n2.setCell ⟨Y, 3, none⟩ (.int .i64 Uu) = mz at *
  obtain ⟨eb, eg⟩ := set5 P3.out.ans (.int .i64 1) (.int .u32 Vi) (.int .i64 Vs) (.int .i64 Uu) (.int .i64 0)
  obtain ⟨e0, e1, e2, e3, e4⟩ := box5 eb
  have EG := hide (grown_then P3.out.gr eg (fun j e => by cases e; exact Or.inl (Nat.le_refl _)))
  clear eb eg
  generalize ((((mz.setCell ⟨w.heap.size, 0, none⟩ (.int .i64 1)).setCell ⟨w.heap.size, 1, none⟩ (.int .u32 Vi)).setCell ⟨w.heap.size, 2, none⟩ (.int .i64 Vs)).setCell ⟨w.heap.size, 3, none⟩ (.int .i64 Uu)).setCell ⟨w.heap.size, 4, none⟩ (.int .i64 0) = w9 at *
  refine bodyPost_ret (v := .agg #[.int .i64 1, .int .u32 Vi, .int .i64 Vs, .int .i64 Uu, .int .i64 0]) ?_ rfl ?_
  · rw [results_cell1 rfl]; go_simp
  exact ⟨rfl, EG.out⟩
set_option maxRecDepth 20000 in
set_option maxHeartbeats 4000000 in
theorem read_2 (ys : List Int) (hB : Byt ys) (ao : Option Addr) (cap : Nat) (w : World) (hn : ys.length = 4) (hat : At w ao ys) (hnil : ao ≠ none) (hT : Tab w) :
    Calls Tryz.prog 99 #[.int .i64 2, .slice ao 4 cap] w fun r w' => r = .returned (rcV (rcOf (2 :: ys))) ∧ w.grownBy w' none := by
  have ki : takeF ys 0 4 = (ys.take 4, ys.drop 4, 0) := by
    have := takeF_ok ys 4 (by omega)
    skip
    exact this
  have vi := val4 hB 0
  rw [List.drop_zero] at vi
  have hrc : rcOf (2 :: ys) = ⟨2, leV (ys.take 4), 0, 0, 0⟩ := rfl
  rw [hrc]
  clear hrc
  have qi := fun X w1 (h : RdAt w1 X ys 0) => rfour_any X ys 0 w1 h (hB)
  rw [ki] at qi
  dsimp only at qi
  generalize leV (ys.take 4) = Vi at *
  clear ki vi
  obtain ⟨t0, t1, t2, t3⟩ := tab2 (hT.new (World.grownBy_alloc w (.cells [Value.int .i64 0, .int .u32 0, .int .i64 0, .int .i64 0, .int .i64 0].toArray 47) none))
  have hof := Oc.of_any ao 4 cap ys ((w.alloc (.cells #[.int .i64 0, .int .u32 0, .int .i64 0, .int .i64 0, .int .i64 0] 47)).alloc (.cells #[.bool true, .bool false, .bool false, .bool false] 138)) hn ((hat.kept (two_boxes w [Value.int .i64 0, .int .u32 0, .int .i64 0, .int .i64 0, .int .i64 0] [Value.bool true, .bool false, .bool false, .bool false] 47 138).2.2 (fun _ _ e => by cases e))) (fun e => absurd e hnil) (by decide)
  clear hB hn hat hnil hT
  go_enter Tryz.func99, Tryz.ntmps99
  go_wp2_with fail
  refine hof.mono ?_
  clear hof t0 t1 t2 t3
  rintro e w1 ⟨X, rfl, hX, hR, hg⟩
  have P0 := hide (RdS.begin (r := ⟨2, 0, 0, 0, 0⟩) hX hR hg)
  clear hX hR hg
  obtain ⟨f0, f1, f2, f3⟩ := box4 P0.out.fld
  obtain ⟨y0, y1, y2, y3, y4⟩ := box5 P0.out.rc
  unfold rcC at f0 f1 f2 f3 y0 y1 y2 y3 y4 P0
  go_wp2_with fail
  clear f0 f1 f2 f3 y0 y1 y2 y3 y4
  generalize w1.alloc (.cells #[.int .i64 2, .int .u32 0, .int .i64 0, .int .i64 0, .int .i64 0] 47) = m0 at *
  generalize w1.heap.size = Y at *
  refine (qi X m0 P0.out.rd).mono ?_
  rintro e n0 ⟨rfl, hR, hg⟩
  have Q0 := hide (P0.out.next hR hg)
  clear hR hg P0 qi
  have P1 := hide (Q0.out.set (r' := ⟨2, Vi, 0, 0, 0⟩) 1 (.int .u32 Vi) rfl)
  obtain ⟨x0, x1, x2, x3, x4⟩ := box5 Q0.out.rc
  have z1 := free_row Q0.out.rc 1
  obtain ⟨f0, f1, f2, f3⟩ := box4 P1.out.fld
  obtain ⟨y0, y1, y2, y3, y4⟩ := box5 P1.out.rc
  obtain ⟨u0, u1, u2, u3, u4⟩ := box5 P1.out.ans
  have s0 := free_row P1.out.ans 0
  have s1 := free_row P1.out.ans 1
  have s2 := free_row P1.out.ans 2
  have s3 := free_row P1.out.ans 3
  have s4 := free_row P1.out.ans 4
  unfold zRc at u0 u1 u2 u3 u4
  go_wp2
  clear x0 x1 x2 x3 x4 z1 f0 f1 f2 f3 y0 y1 y2 y3 y4 u0 u1 u2 u3 u4 s0 s1 s2 s3 s4
  generalize n0.setCell ⟨Y, 1, none⟩ (.int .u32 Vi) = mz at *
  obtain ⟨eb, eg⟩ := set5 P1.out.ans (.int .i64 2) (.int .u32 Vi) (.int .i64 0) (.int .i64 0) (.int .i64 0)
  obtain ⟨e0, e1, e2, e3, e4⟩ := box5 eb
  have EG := hide (grown_then P1.out.gr eg (fun j e => by cases e; exact Or.inl (Nat.le_refl _)))
  clear eb eg
  generalize ((((mz.setCell ⟨w.heap.size, 0, none⟩ (.int .i64 2)).setCell ⟨w.heap.size, 1, none⟩ (.int .u32 Vi)).setCell ⟨w.heap.size, 2, none⟩ (.int .i64 0)).setCell ⟨w.heap.size, 3, none⟩ (.int .i64 0)).setCell ⟨w.heap.size, 4, none⟩ (.int .i64 0) = w9 at *
  refine bodyPost_ret (v := .agg #[.int .i64 2, .int .u32 Vi, .int .i64 0, .int .i64 0, .int .i64 0]) ?_ rfl ?_
  · rw [results_cell1 rfl]; go_simp
  exact ⟨rfl, EG.out⟩
set_option maxRecDepth 20000 in
set_option maxHeartbeats 4000000 in
theorem read_3 (ys : List Int) (hB : Byt ys) (ao : Option Addr) (cap : Nat) (w : World) (hn : ys.length = 4) (hat : At w ao ys) (hnil : ao ≠ none) (hT : Tab w) :
    Calls Tryz.prog 99 #[.int .i64 3, .slice ao 4 cap] w fun r w' => r = .returned (rcV (rcOf (3 :: ys))) ∧ w.grownBy w' none := by
  have ki : takeF ys 0 4 = (ys.take 4, ys.drop 4, 0) := by
    have := takeF_ok ys 4 (by omega)
    skip
    exact this
  have vi := val4 hB 0
  rw [List.drop_zero] at vi
  have hrc : rcOf (3 :: ys) = ⟨3, leV (ys.take 4), 0, 0, 0⟩ := rfl
  rw [hrc]
  clear hrc
  have qi := fun X w1 (h : RdAt w1 X ys 0) => rfour_any X ys 0 w1 h (hB)
  rw [ki] at qi
  dsimp only at qi
  generalize leV (ys.take 4) = Vi at *
  clear ki vi
  obtain ⟨t0, t1, t2, t3⟩ := tab3 (hT.new (World.grownBy_alloc w (.cells [Value.int .i64 0, .int .u32 0, .int .i64 0, .int .i64 0, .int .i64 0].toArray 47) none))
  have hof := Oc.of_any ao 4 cap ys ((w.alloc (.cells #[.int .i64 0, .int .u32 0, .int .i64 0, .int .i64 0, .int .i64 0] 47)).alloc (.cells #[.bool true, .bool false, .bool false, .bool false] 138)) hn ((hat.kept (two_boxes w [Value.int .i64 0, .int .u32 0, .int .i64 0, .int .i64 0, .int .i64 0] [Value.bool true, .bool false, .bool false, .bool false] 47 138).2.2 (fun _ _ e => by cases e))) (fun e => absurd e hnil) (by decide)
  clear hB hn hat hnil hT
  go_enter Tryz.func99, Tryz.ntmps99
  go_wp2_with fail
  refine hof.mono ?_
  clear hof t0 t1 t2 t3
  rintro e w1 ⟨X, rfl, hX, hR, hg⟩
  have P0 := hide (RdS.begin (r := ⟨3, 0, 0, 0, 0⟩) hX hR hg)
  clear hX hR hg
  obtain ⟨f0, f1, f2, f3⟩ := box4 P0.out.fld
  obtain ⟨y0, y1, y2, y3, y4⟩ := box5 P0.out.rc
  unfold rcC at f0 f1 f2 f3 y0 y1 y2 y3 y4 P0
  go_wp2_with fail
  clear f0 f1 f2 f3 y0 y1 y2 y3 y4
  generalize w1.alloc (.cells #[.int .i64 3, .int .u32 0, .int .i64 0, .int .i64 0, .int .i64 0] 47) = m0 at *
  generalize w1.heap.size = Y at *
  refine (qi X m0 P0.out.rd).mono ?_
  rintro e n0 ⟨rfl, hR, hg⟩
  have Q0 := hide (P0.out.next hR hg)
  clear hR hg P0 qi
  have P1 := hide (Q0.out.set (r' := ⟨3, Vi, 0, 0, 0⟩) 1 (.int .u32 Vi) rfl)
  obtain ⟨x0, x1, x2, x3, x4⟩ := box5 Q0.out.rc
  have z1 := free_row Q0.out.rc 1
  obtain ⟨f0, f1, f2, f3⟩ := box4 P1.out.fld
  obtain ⟨y0, y1, y2, y3, y4⟩ := box5 P1.out.rc
  obtain ⟨u0, u1, u2, u3, u4⟩ := box5 P1.out.ans
  have s0 := free_row P1.out.ans 0
  have s1 := free_row P1.out.ans 1
  have s2 := free_row P1.out.ans 2
  have s3 := free_row P1.out.ans 3
  have s4 := free_row P1.out.ans 4
  unfold zRc at u0 u1 u2 u3 u4
  go_wp2
  clear x0 x1 x2 x3 x4 z1 f0 f1 f2 f3 y0 y1 y2 y3 y4 u0 u1 u2 u3 u4 s0 s1 s2 s3 s4
  generalize n0.setCell ⟨Y, 1, none⟩ (.int .u32 Vi) = mz at *
  obtain ⟨eb, eg⟩ := set5 P1.out.ans (.int .i64 3) (.int .u32 Vi) (.int .i64 0) (.int .i64 0) (.int .i64 0)
  obtain ⟨e0, e1, e2, e3, e4⟩ := box5 eb
  have EG := hide (grown_then P1.out.gr eg (fun j e => by cases e; exact Or.inl (Nat.le_refl _)))
  clear eb eg
  generalize ((((mz.setCell ⟨w.heap.size, 0, none⟩ (.int .i64 3)).setCell ⟨w.heap.size, 1, none⟩ (.int .u32 Vi)).setCell ⟨w.heap.size, 2, none⟩ (.int .i64 0)).setCell ⟨w.heap.size, 3, none⟩ (.int .i64 0)).setCell ⟨w.heap.size, 4, none⟩ (.int .i64 0) = w9 at *
  refine bodyPost_ret (v := .agg #[.int .i64 3, .int .u32 Vi, .int .i64 0, .int .i64 0, .int .i64 0]) ?_ rfl ?_
  · rw [results_cell1 rfl]; go_simp
  exact ⟨rfl, EG.out⟩
set_option maxRecDepth 20000 in
set_option maxHeartbeats 4000000 in
theorem read_4 (ys : List Int) (hB : Byt ys) (ao : Option Addr) (cap : Nat) (w : World) (hn : ys.length = 6) (hat : At w ao ys) (hnil : ao ≠ none) (hT : Tab w) :
    Calls Tryz.prog 99 #[.int .i64 4, .slice ao 6 cap] w fun r w' => r = .returned (rcV (rcOf (4 :: ys))) ∧ w.grownBy w' none := by
  have ki : takeF ys 0 4 = (ys.take 4, ys.drop 4, 0) := by
    have := takeF_ok ys 4 (by omega)
    skip
    exact this
  have vi := val4 hB 0
  rw [List.drop_zero] at vi
  have ks : takeF (ys.drop 4) 0 2 = ((ys.drop 4).take 2, ys.drop 6, 0) := by
    have := takeF_ok (ys.drop 4) 2 (by simp; omega)
    rw [List.drop_drop] at this
    exact this
  have vs := val2 hB 4
  have hrc : rcOf (4 :: ys) = ⟨4, leV (ys.take 4), leV ((ys.drop 4).take 2), 0, 0⟩ := rfl
  rw [hrc]
  clear hrc
  have qi := fun X w1 (h : RdAt w1 X ys 0) => rfour_any X ys 0 w1 h (hB)
  rw [ki] at qi
  dsimp only at qi
  generalize leV (ys.take 4) = Vi at *
  clear ki vi
  have qs := fun X w1 (h : RdAt w1 X (ys.drop 4) 0) => rtwo_any X (ys.drop 4) 0 w1 h (hB.drop 4)
  rw [ks] at qs
  dsimp only at qs
  generalize leV ((ys.drop 4).take 2) = Vs at *
  have Ws : IntKind.i64.wrap Vs = Vs := by rw [IntKind.wrap_i64]; omega
  clear ks vs
  obtain ⟨t0, t1, t2, t3⟩ := tab4 (hT.new (World.grownBy_alloc w (.cells [Value.int .i64 0, .int .u32 0, .int .i64 0, .int .i64 0, .int .i64 0].toArray 47) none))
  have hof := Oc.of_any ao 6 cap ys ((w.alloc (.cells #[.int .i64 0, .int .u32 0, .int .i64 0, .int .i64 0, .int .i64 0] 47)).alloc (.cells #[.bool true, .bool true, .bool false, .bool false] 138)) hn ((hat.kept (two_boxes w [Value.int .i64 0, .int .u32 0, .int .i64 0, .int .i64 0, .int .i64 0] [Value.bool true, .bool true, .bool false, .bool false] 47 138).2.2 (fun _ _ e => by cases e))) (fun e => absurd e hnil) (by decide)
  clear hB hn hat hnil hT
  go_enter Tryz.func99, Tryz.ntmps99
  go_wp2_with fail
  refine hof.mono ?_
  clear hof t0 t1 t2 t3
  rintro e w1 ⟨X, rfl, hX, hR, hg⟩
  have P0 := hide (RdS.begin (r := ⟨4, 0, 0, 0, 0⟩) hX hR hg)
  clear hX hR hg
  obtain ⟨f0, f1, f2, f3⟩ := box4 P0.out.fld
  obtain ⟨y0, y1, y2, y3, y4⟩ := box5 P0.out.rc
  unfold rcC at f0 f1 f2 f3 y0 y1 y2 y3 y4 P0
  go_wp2_with fail
  clear f0 f1 f2 f3 y0 y1 y2 y3 y4
  generalize w1.alloc (.cells #[.int .i64 4, .int .u32 0, .int .i64 0, .int .i64 0, .int .i64 0] 47) = m0 at *
  generalize w1.heap.size = Y at *
  refine (qi X m0 P0.out.rd).mono ?_
  rintro e n0 ⟨rfl, hR, hg⟩
  have Q0 := hide (P0.out.next hR hg)
  clear hR hg P0 qi
  have P1 := hide (Q0.out.set (r' := ⟨4, Vi, 0, 0, 0⟩) 1 (.int .u32 Vi) rfl)
  obtain ⟨x0, x1, x2, x3, x4⟩ := box5 Q0.out.rc
  have z1 := free_row Q0.out.rc 1
  obtain ⟨f0, f1, f2, f3⟩ := box4 P1.out.fld
  obtain ⟨y0, y1, y2, y3, y4⟩ := box5 P1.out.rc
  go_wp2_with fail
  clear x0 x1 x2 x3 x4 z1 f0 f1 f2 f3 y0 y1 y2 y3 y4
  generalize n0.setCell ⟨Y, 1, none⟩ (.int .u32 Vi) = m1 at *
  refine (qs X m1 P1.out.rd).mono ?_
  rintro e n1 ⟨rfl, hR, hg⟩
  have Q1 := hide (P1.out.next hR hg)
  clear hR hg P1 qs
  have P2 := hide (Q1.out.set (r' := ⟨4, Vi, Vs, 0, 0⟩) 2 (.int .i64 Vs) rfl)
  obtain ⟨x0, x1, x2, x3, x4⟩ := box5 Q1.out.rc
  have z2 := free_row Q1.out.rc 2
  obtain ⟨f0, f1, f2, f3⟩ := box4 P2.out.fld
  obtain ⟨y0, y1, y2, y3, y4⟩ := box5 P2.out.rc
  obtain ⟨u0, u1, u2, u3, u4⟩ := box5 P2.out.ans
  have s0 := free_row P2.out.ans 0
  have s1 := free_row P2.out.ans 1
  have s2 := free_row P2.out.ans 2
  have s3 := free_row P2.out.ans 3
  have s4 := free_row P2.out.ans 4
  unfold zRc at u0 u1 u2 u3 u4
  go_wp2
  clear x0 x1 x2 x3 x4 z2 f0 f1 f2 f3 y0 y1 y2 y3 y4 u0 u1 u2 u3 u4 s0 s1 s2 s3 s4
  generalize n1.setCell ⟨Y, 2, none⟩ (.int .i64 Vs) = mz at *
  obtain ⟨eb, eg⟩ := set5 P2.out.ans (.int .i64 4) (.int .u32 Vi) (.int .i64 Vs) (.int .i64 0) (.int .i64 0)
  obtain ⟨e0, e1, e2, e3, e4⟩ := box5 eb
  have EG := hide (grown_then P2.out.gr eg (fun j e => by cases e; exact Or.inl (Nat.le_refl _)))
  clear eb eg
  generalize ((((mz.setCell ⟨w.heap.size, 0, none⟩ (.int .i64 4)).setCell ⟨w.heap.size, 1, none⟩ (.int .u32 Vi)).setCell ⟨w.heap.size, 2, none⟩ (.int .i64 Vs)).setCell ⟨w.heap.size, 3, none⟩ (.int .i64 0)).setCell ⟨w.heap.size, 4, none⟩ (.int .i64 0) = w9 at *
  refine bodyPost_ret (v := .agg #[.int .i64 4, .int .u32 Vi, .int .i64 Vs, .int .i64 0, .int .i64 0]) ?_ rfl ?_
  · rw [results_cell1 rfl]; go_simp
  exact ⟨rfl, EG.out⟩
set_option maxRecDepth 20000 in
set_option maxHeartbeats 4000000 in
theorem read_5 (ys : List Int) (hB : Byt ys) (ao : Option Addr) (cap : Nat) (w : World) (hn : ys.length = 8) (hat : At w ao ys) (hnil : ao ≠ none) (hT : Tab w) :
    Calls Tryz.prog 99 #[.int .i64 5, .slice ao 8 cap] w fun r w' => r = .returned (rcV (rcOf (5 :: ys))) ∧ w.grownBy w' none := by
  have kc : takeF ys 0 8 = (ys.take 8, ys.drop 8, 0) := by
    have := takeF_ok ys 8 (by omega)
    skip
    exact this
  have vc := val8 hB 0
  rw [List.drop_zero] at vc
  have hrc : rcOf (5 :: ys) = ⟨5, 0, 0, 0, i64of (leV (ys.take 8))⟩ := rfl
  rw [hrc]
  clear hrc
  have qc := fun X w1 (h : RdAt w1 X ys 0) => reight_any X ys 0 w1 h (hB)
  rw [kc] at qc
  dsimp only at qc
  generalize leV (ys.take 8) = Vc at *
  have Wc : IntKind.i64.wrap Vc = i64of Vc := i64_wrap vc.1 vc.2
  generalize i64of Vc = Uc at *
  clear kc vc
  obtain ⟨t0, t1, t2, t3⟩ := tab5 (hT.new (World.grownBy_alloc w (.cells [Value.int .i64 0, .int .u32 0, .int .i64 0, .int .i64 0, .int .i64 0].toArray 47) none))
  have hof := Oc.of_any ao 8 cap ys ((w.alloc (.cells #[.int .i64 0, .int .u32 0, .int .i64 0, .int .i64 0, .int .i64 0] 47)).alloc (.cells #[.bool false, .bool false, .bool false, .bool true] 138)) hn ((hat.kept (two_boxes w [Value.int .i64 0, .int .u32 0, .int .i64 0, .int .i64 0, .int .i64 0] [Value.bool false, .bool false, .bool false, .bool true] 47 138).2.2 (fun _ _ e => by cases e))) (fun e => absurd e hnil) (by decide)
  clear hB hn hat hnil hT
  go_enter Tryz.func99, Tryz.ntmps99
  go_wp2_with fail
  refine hof.mono ?_
  clear hof t0 t1 t2 t3
  rintro e w1 ⟨X, rfl, hX, hR, hg⟩
  have P0 := hide (RdS.begin (r := ⟨5, 0, 0, 0, 0⟩) hX hR hg)
  clear hX hR hg
  obtain ⟨f0, f1, f2, f3⟩ := box4 P0.out.fld
  obtain ⟨y0, y1, y2, y3, y4⟩ := box5 P0.out.rc
  unfold rcC at f0 f1 f2 f3 y0 y1 y2 y3 y4 P0
  go_wp2_with fail
  clear f0 f1 f2 f3 y0 y1 y2 y3 y4
  generalize w1.alloc (.cells #[.int .i64 5, .int .u32 0, .int .i64 0, .int .i64 0, .int .i64 0] 47) = m0 at *
  generalize w1.heap.size = Y at *
  refine (qc X m0 P0.out.rd).mono ?_
  rintro e n0 ⟨rfl, hR, hg⟩
  have Q0 := hide (P0.out.next hR hg)
  clear hR hg P0 qc
  have P1 := hide (Q0.out.set (r' := ⟨5, 0, 0, 0, Uc⟩) 4 (.int .i64 Uc) rfl)
  obtain ⟨x0, x1, x2, x3, x4⟩ := box5 Q0.out.rc
  have z4 := free_row Q0.out.rc 4
  obtain ⟨f0, f1, f2, f3⟩ := box4 P1.out.fld
  obtain ⟨y0, y1, y2, y3, y4⟩ := box5 P1.out.rc
  obtain ⟨u0, u1, u2, u3, u4⟩ := box5 P1.out.ans
  have s0 := free_row P1.out.ans 0
  have s1 := free_row P1.out.ans 1
  have s2 := free_row P1.out.ans 2
  have s3 := free_row P1.out.ans 3
  have s4 := free_row P1.out.ans 4
  unfold zRc at u0 u1 u2 u3 u4
  go_wp2
  clear x0 x1 x2 x3 x4 z4 f0 f1 f2 f3 y0 y1 y2 y3 y4 u0 u1 u2 u3 u4 s0 s1 s2 s3 s4
  generalize n0.setCell ⟨Y, 4, none⟩ (.int .i64 Uc) = mz at *
  obtain ⟨eb, eg⟩ := set5 P1.out.ans (.int .i64 5) (.int .u32 0) (.int .i64 0) (.int .i64 0) (.int .i64 Uc)
  obtain ⟨e0, e1, e2, e3, e4⟩ := box5 eb
  have EG := hide (grown_then P1.out.gr eg (fun j e => by cases e; exact Or.inl (Nat.le_refl _)))
  clear eb eg
  generalize ((((mz.setCell ⟨w.heap.size, 0, none⟩ (.int .i64 5)).setCell ⟨w.heap.size, 1, none⟩ (.int .u32 0)).setCell ⟨w.heap.size, 2, none⟩ (.int .i64 0)).setCell ⟨w.heap.size, 3, none⟩ (.int .i64 0)).setCell ⟨w.heap.size, 4, none⟩ (.int .i64 Uc) = w9 at *
  refine bodyPost_ret (v := .agg #[.int .i64 5, .int .u32 0, .int .i64 0, .int .i64 0, .int .i64 Uc]) ?_ rfl ?_
  · rw [results_cell1 rfl]; go_simp
  exact ⟨rfl, EG.out⟩
end Go.Proofs.YtinkkocleognbaaGreatDoor.Rk
/- The contracts of the document's own reader. -/
namespace Go.Proofs.YtinkkocleognbaaGreatDoor.Oc
open Go.RowKit
attribute [local go_sem ↓] Go.wp_at_zero Go.wp_at_succ

theorem slice_lh (ao : Option Addr) (len cap l h : Nat) (h1 : l ≤ h) (h2 : h ≤ cap) (w : World) : (Instr.slice 39 (.slice ao len cap) (some (.int .i64 (l : Int))) (some (.int .i64 (h : Int))) none).run Tryz.prog w = .ok (.slice (cutA ao l cap) (h - l) (cap - l)) w := by
  simp [Instr.slice, run_underlying Tryz.underlying39, Instr.sliceBounds, Instr.sliceBound, asIntOf, h1, h2, cutA]

set_option maxHeartbeats 1000000 in
theorem value_any (ao : Option Addr) (n cap : Nat) (xs : List Int) (w : World) (hn : xs.length = n) (hat : At w ao xs) (hB : Byt xs) (h8 : n ≤ 8) :
    Calls Tryz.prog 86 #[.slice ao n cap] w fun e w' => e = .returned (.int .u64 (leV xs)) ∧ w' = w := by
  have HA := hide (And.intro hn hat)
  clear hn hat
  go_enter Tryz.func86, Tryz.ntmps86
  go_wp2
  go_loopg [3, 4] n (fun k v i wr => k ≤ n ∧ i = .int .i64 ((k : Int) - 1) ∧ v = .int .u64 (leV (xs.drop k)) ∧ wr = w)
  case atStart => exact ⟨Nat.le_refl _, by simp, by rw [List.drop_eq_nil_of_le (by have := HA.out.1; omega)]; rfl, rfl⟩
  case round =>
    obtain ⟨hkn, rfl, rfl, rfl⟩ := hrel
    cases gk with
    | succ i =>
      obtain ⟨hn, hat⟩ := HA.out
      have hi : i < xs.length := by omega
      obtain ⟨a, rfl, hc⟩ := hat i xs[i] (by simp [hi])
      have hd : xs.drop i = xs[i] :: xs.drop (i + 1) := List.drop_eq_getElem_cons hi
      have hb := leV_bound (xs.drop (i + 1)) (hB.drop _)
      have hy := hB xs[i] (by simp)
      have hbl : leV (xs.drop (i + 1)) < 72057594037927936 := by
        refine Int.lt_of_lt_of_le hb.2 ?_
        rw [List.length_drop]
        have h4 : (2 : Nat) ^ (8 * (xs.length - (i + 1))) ≤ 2 ^ 56 := Nat.pow_le_pow_right (by omega) (by omega)
        have h5 : ((2 ^ (8 * (xs.length - (i + 1))) : Nat) : Int) ≤ ((2 ^ 56 : Nat) : Int) := Int.ofNat_le.2 h4
        simpa using h5
      have hb0 := hb.1
      have HD : Hid (leV (xs.drop i) = xs[i] + 256 * leV (xs.drop (i + 1))) := by show _ = _; rw [hd, leV]
      clear hb hd hn hat
      generalize leV (xs.drop (i + 1)) = V at *
      generalize xs[i] = X at *
      have hslot : ((i + 1 : Nat) : Int) - 1 = (i : Int) := by omega
      rw [hslot]
      have hge : (0 : Int) ≤ (i : Int) := by omega
      have hlt : (i : Int) < (n : Int) := by omega
      go_wp2
      go_roundg i
      case measure => omega
      case rel =>
        refine ⟨by omega, rfl, ?_, rfl⟩
        rw [HD.out]
        congr 1
        omega
    | zero =>
      go_wp2
      go_ret
      rw [List.drop_zero]
      exact ⟨rfl, rfl⟩

end Go.Proofs.YtinkkocleognbaaGreatDoor.Oc
/- records: Get. -/
namespace Go.Proofs.YtinkkocleognbaaGreatDoor.Rk
open Oc
open Go.RowKit
attribute [local go_sem ↓] Go.wp_at_zero Go.wp_at_succ
theorem read_any (k : Int) (hk : 1 ≤ k ∧ k ≤ 5) (ys : List Int) (hB : Byt ys) (ao : Option Addr) (n cap : Nat) (w : World) (hs : n + 1 = sz k) (hn : ys.length = n) (hat : At w ao ys) (hnil : ao ≠ none) (hT : Tab w) :
    Calls Tryz.prog 99 #[.int .i64 k, .slice ao n cap] w fun r w' => r = .returned (rcV (rcOf (k :: ys))) ∧ w.grownBy w' none := by
  have hk5 : k = 1 ∨ k = 2 ∨ k = 3 ∨ k = 4 ∨ k = 5 := by omega
  rcases hk5 with rfl | rfl | rfl | rfl | rfl
  · obtain rfl : n = 14 := by have : sz 1 = 15 := rfl; omega
    exact read_1 ys hB ao cap w hn hat hnil hT
  · obtain rfl : n = 4 := by have : sz 2 = 5 := rfl; omega
    exact read_2 ys hB ao cap w hn hat hnil hT
  · obtain rfl : n = 4 := by have : sz 3 = 5 := rfl; omega
    exact read_3 ys hB ao cap w hn hat hnil hT
  · obtain rfl : n = 6 := by have : sz 4 = 7 := rfl; omega
    exact read_4 ys hB ao cap w hn hat hnil hT
  · obtain rfl : n = 8 := by have : sz 5 = 9 := rfl; omega
    exact read_5 ys hB ao cap w hn hat hnil hT
/-- Inside Get: the answer's box. -/
structure GtS (w wr : World) : Prop where
  ans : wr.heap[w.heap.size]? = some (.cells [Value.int .i64 0, .int .u32 0, .int .i64 0, .int .i64 0, .int .i64 0].toArray 47 (0, 0))
  gr : w.grownBy wr none
theorem GtS.grown {w wr wr' : World} (h : GtS w wr) (hg : wr.grownBy wr' none) : GtS w wr' := ⟨(hg.block _ (row_lt h.ans) (by simp)).trans h.ans, grown_trans h.gr hg⟩
theorem GtS.begin (w : World) : GtS w (w.alloc (.cells #[.int .i64 0, .int .u32 0, .int .i64 0, .int .i64 0, .int .i64 0] 47)) := ⟨heap_alloc_new w _, World.grownBy_alloc w _ none⟩
theorem rcOf_cut {xs : List Int} (hk : 1 ≤ xs.headD 0 ∧ xs.headD 0 ≤ 5) (hl : sz (xs.headD 0) ≤ xs.length) : rcOf (xs.headD 0 :: (xs.drop 1).take (sz (xs.headD 0) - 1)) = rcOf xs := by
  have hp := sz_pos (k := xs.headD 0) (by omega)
  have e : xs = (xs.headD 0 :: (xs.drop 1).take (sz (xs.headD 0) - 1)) ++ (xs.drop 1).drop (sz (xs.headD 0) - 1) := by
    rw [List.cons_append, List.take_append_drop]
    cases xs with
    | nil => rw [List.length_nil] at hl; omega
    | cons x r => rfl
  have h := rcOf_append (xs.headD 0 :: (xs.drop 1).take (sz (xs.headD 0) - 1)) ((xs.drop 1).drop (sz (xs.headD 0) - 1)) (by
    rw [List.headD_cons, List.length_cons, List.length_take, List.length_drop]; omega) (by rw [List.headD_cons]; omega)
  rw [← h, ← e]
set_option maxRecDepth 20000 in
set_option maxHeartbeats 8000000 in
theorem get_any (xs : List Int) (hB : Byt xs) (ao : Option Addr) (n cap : Nat) (w : World) (hn : xs.length = n) (hat : At w ao xs) (hc : n ≤ cap) (hm : n ≤ 140737488355328) (hT : Tab w) :
    Calls Tryz.prog 70 #[.slice ao n cap] w fun r w' => r = .returned (.tuple #[rcV (getR xs).1, .int .i64 (getR xs).2]) ∧ w.grownBy w' none := by
  obtain ⟨res, hres⟩ : ∃ res, res = getR xs := ⟨_, rfl⟩
  rw [← hres]
  have HX := hide (And.intro hB (And.intro hn (And.intro hat (And.intro hT hres))))
  clear hB hat hT hres
  have G0 := hide (GtS.begin w)
  by_cases h0 : n = 0
  · subst h0
    have HR : Hid (res = (zRc, 4)) := by have := HX.out.2.2.2.2; unfold getR at this; rw [if_pos HX.out.2.1] at this; exact this
    go_enter Tryz.func70, Tryz.ntmps70
    go_wp2
    obtain ⟨u0, u1, u2, u3, u4⟩ := box5 G0.out.ans
    generalize (w.alloc (.cells #[.int .i64 0, .int .u32 0, .int .i64 0, .int .i64 0, .int .i64 0] 47)) = w1 at *
    refine bodyPost_ret (v := .tuple #[.agg #[.int .i64 0, .int .u32 0, .int .i64 0, .int .i64 0, .int .i64 0], .int .i64 4]) ?_ rfl ?_
    · rw [results_cell_tmp rfl]; go_simp
    exact ⟨by rw [HR.out]; rfl, G0.out.gr⟩
  · have hz1 : ((n : Int) == 0) = false := by simpa using h0
    have hz2 : decide ((n : Int) = 0) = false := by simpa using h0
    have hpos : (0 : Int) < (n : Int) := by omega
    obtain ⟨a, ha, hcell⟩ : ∃ a, ao = some a ∧ w.cell? a = some (.int .u8 (xs.headD 0)) := by
      have h1 := HX.out.2.2.1
      have h2 := HX.out.2.1
      cases hxs : xs with
      | nil => rw [hxs] at h2; simp at h2; omega
      | cons x r =>
        rw [hxs] at h1
        obtain ⟨a, ha, hc⟩ := h1 0 x rfl
        refine ⟨a, ha, ?_⟩
        rw [show a.add 0 = a by unfold Addr.add; cases a; simp] at hc
        exact hc
    subst ha
    have hcell1 := G0.out.gr.cell hcell (by simp)
    have hk0 := head_byt HX.out.1
    have hkw : IntKind.i64.wrap (xs.headD 0) = xs.headD 0 := by rw [IntKind.wrap_i64]; omega
    have hsl := slice_lh (some a) n cap 1 (sz (xs.headD 0))
    have HS := hide (And.intro hsl hn)
    clear hsl hcell hn
    have qk := isKind_any (xs.headD 0)
    have HQ := hide (And.intro h0 hk0)
    clear hk0 h0
    by_cases hk : 1 ≤ xs.headD 0 ∧ xs.headD 0 ≤ 5
    · rw [decide_eq_true hk] at qk
      have qs := fun w1 (h : GtS w w1) => size_any (xs.headD 0) w1 (HX.out.2.2.2.1.new h.gr)
      have hcut := hide (rcOf_cut (xs := xs) hk)
      have hsp := sz_pos (k := xs.headD 0) (by omega)
      have hsl := sz_le (xs.headD 0)
      have HK := hide (And.intro hk (And.intro hsp hsl))
      have hdef := HX.out.2.2.2.2
      unfold getR at hdef
      rw [if_neg (by rw [HX.out.2.1]; exact HQ.out.1), if_neg (by omega)] at hdef
      have HD := hide hdef
      clear hdef hk hsp hsl
      obtain ⟨S, hS⟩ : ∃ S, S = sz (xs.headD 0) := ⟨_, rfl⟩
      rw [← hS] at qs HK HD HS hcut
      have HSz := hide hS
      clear hS
      by_cases hlt : n < S
      · have hlt' : (n : Int) < (S : Int) := by omega
        have HR : Hid (res = (zRc, 4)) := by have := HD.out; rw [if_pos (by rw [HX.out.2.1]; exact hlt)] at this; exact this
        clear hlt
        generalize xs.headD 0 = k at *
        go_enter Tryz.func70, Tryz.ntmps70
        go_wp2_with fail
        generalize (w.alloc (.cells #[.int .i64 0, .int .u32 0, .int .i64 0, .int .i64 0, .int .i64 0] 47)) = w1 at *
        refine (qk w1).mono ?_
        rintro e wx ⟨rfl, hw⟩
        obtain rfl := hw.symm
        clear hw qk
        go_wp2_with fail
        refine (qs w1 G0.out).mono ?_
        rintro e w2 ⟨rfl, hg⟩
        have G2 := hide (G0.out.grown hg)
        clear hg qs
        obtain ⟨u0, u1, u2, u3, u4⟩ := box5 G2.out.ans
        have s0 := free_row G2.out.ans 0
        have s1 := free_row G2.out.ans 1
        have s2 := free_row G2.out.ans 2
        have s3 := free_row G2.out.ans 3
        have s4 := free_row G2.out.ans 4
        go_wp2
        obtain ⟨eb, eg⟩ := set5 G2.out.ans (.int .i64 0) (.int .u32 0) (.int .i64 0) (.int .i64 0) (.int .i64 0)
        clear u0 u1 u2 u3 u4 s0 s1 s2 s3 s4
        obtain ⟨e0, e1, e2, e3, e4⟩ := box5 eb
        have EG := hide (grown_then G2.out.gr eg (fun j e => by cases e; exact Or.inl (Nat.le_refl _)))
        clear eb eg
        generalize ((((w2.setCell ⟨w.heap.size, 0, none⟩ (.int .i64 0)).setCell ⟨w.heap.size, 1, none⟩ (.int .u32 0)).setCell ⟨w.heap.size, 2, none⟩ (.int .i64 0)).setCell ⟨w.heap.size, 3, none⟩ (.int .i64 0)).setCell ⟨w.heap.size, 4, none⟩ (.int .i64 0) = w9 at *
        refine bodyPost_ret (v := .tuple #[.agg #[.int .i64 0, .int .u32 0, .int .i64 0, .int .i64 0, .int .i64 0], .int .i64 4]) ?_ rfl ?_
        · rw [results_cell_tmp rfl]; go_simp
        exact ⟨by rw [HR.out]; rfl, EG.out⟩
      · have hlt' : (S : Int) ≤ (n : Int) := by omega
        have HSL : ∀ w, (Instr.slice 39 (.slice (some a) n cap) (some (.int .i64 1)) (some (.int .i64 (S : Int))) none).run Tryz.prog w = .ok (.slice (cutA (some a) 1 cap) (S - 1) (cap - 1)) w := HS.out.1 (by have := HK.out.2; omega) (by omega)
        have hcx : Byt ((xs.drop 1).take (S - 1)) := (HX.out.1.drop 1).take (S - 1)
        have hlx : ((xs.drop 1).take (S - 1)).length = S - 1 := by rw [List.length_take, List.length_drop, HX.out.2.1]; omega
        have qr := fun w1 (h : GtS w w1) => read_any (xs.headD 0) HK.out.1 ((xs.drop 1).take (S - 1)) hcx (cutA (some a) 1 cap) (S - 1) (cap - 1) w1 (by have := HSz.out; have := HK.out.2; omega) hlx (((HX.out.2.2.1.kept h.gr (fun _ _ e => by cases e)).cut 1 cap (by rw [HX.out.2.1]; omega)).take (S - 1)) (by unfold cutA; split <;> simp) (HX.out.2.2.2.1.new h.gr)
        rw [hcut.out (by rw [HX.out.2.1]; omega)] at qr
        have HO : Hid (rcOf xs).Ok := rcOf_ok HX.out.1
        have hdef := HD.out
        rw [if_neg (by rw [HX.out.2.1]; exact hlt)] at hdef
        have HD2 := hide hdef
        have HLT := hide hlt
        have HT := hide HX.out.2.2.2.1
        have HL := hide HX.out.2.1
        clear hdef HD hcx hlx hcut hlt
        rw [HL.out] at HD2
        generalize rcOf xs = r at *
        obtain ⟨rk, ri, rs, ru, rc⟩ := r
        unfold rcV at qr
        dsimp only at qr
        generalize xs.headD 0 = k at *
        have hw1' : ((S : Int) - 1) = ((S - 1 : Nat) : Int) := by have := HK.out.2; omega
        clear hw1'
        generalize cutA (some a) 1 cap = ac at *
        obtain ⟨M, hM⟩ : ∃ M, M = S - 1 := ⟨_, rfl⟩
        obtain ⟨cp, hcp⟩ : ∃ cp, cp = cap - 1 := ⟨_, rfl⟩
        rw [← hM] at HSL qr
        rw [← hcp] at HSL qr
        clear hM hcp
        by_cases hmay : (Rc.mk rk ri rs ru rc).May
        · have hch : chk ⟨rk, ri, rs, ru, rc⟩ = 0 := if_pos hmay
          by_cases hgt : S < n
          · have hgt' : (S : Int) < (n : Int) := by omega
            have HR : Hid (res = (zRc, 5)) := by have := HD2.out; rw [if_pos hmay, if_pos hgt] at this; exact this
            clear hmay hgt
            go_enter Tryz.func70, Tryz.ntmps70
            go_wp2_with fail
            generalize (w.alloc (.cells #[.int .i64 0, .int .u32 0, .int .i64 0, .int .i64 0, .int .i64 0] 47)) = w1 at *
            refine (qk w1).mono ?_
            rintro e wx ⟨rfl, hw⟩
            obtain rfl := hw.symm
            clear hw qk
            go_wp2_with fail
            refine (qs w1 G0.out).mono ?_
            rintro e w2 ⟨rfl, hg⟩
            have G2 := hide (G0.out.grown hg)
            clear hg qs
            go_wp2_with fail
            refine (qr w2 G2.out).mono ?_
            rintro e w3 ⟨rfl, hg⟩
            have G3 := hide (G2.out.grown hg)
            clear hg qr G2
            have G4 := hide (G3.out.grown (World.grownBy_alloc w3 (.cells #[.int .i64 rk, .int .u32 ri, .int .i64 rs, .int .i64 ru, .int .i64 rc] 47) none))
            have B4 := hide (heap_alloc_new w3 (.cells [Value.int .i64 rk, .int .u32 ri, .int .i64 rs, .int .i64 ru, .int .i64 rc].toArray 47))
            obtain ⟨x0, x1, x2, x3, x4⟩ := box5 B4.out
            have qc := check_any ⟨rk, ri, rs, ru, rc⟩ HO.out _ (HT.out.new G4.out.gr)
            rw [hch] at qc
            unfold rcV at qc
            dsimp only at qc
            clear hch
            go_wp2_with fail
            generalize w3.alloc (.cells #[.int .i64 rk, .int .u32 ri, .int .i64 rs, .int .i64 ru, .int .i64 rc] 47) = w4 at *
            generalize w3.heap.size = Y at *
            refine qc.mono ?_
            rintro e w5 ⟨rfl, hg⟩
            have G5 := hide (G4.out.grown hg)
            have B5 := hide ((hg.block _ (row_lt B4.out) (by simp)).trans B4.out)
            clear hg qc x0 x1 x2 x3 x4 G4 B4
            obtain ⟨x0, x1, x2, x3, x4⟩ := box5 B5.out
            obtain ⟨u0, u1, u2, u3, u4⟩ := box5 G5.out.ans
            have s0 := free_row G5.out.ans 0
            have s1 := free_row G5.out.ans 1
            have s2 := free_row G5.out.ans 2
            have s3 := free_row G5.out.ans 3
            have s4 := free_row G5.out.ans 4
            go_wp2
            obtain ⟨eb, eg⟩ := set5 G5.out.ans (.int .i64 0) (.int .u32 0) (.int .i64 0) (.int .i64 0) (.int .i64 0)
            clear u0 u1 u2 u3 u4 s0 s1 s2 s3 s4
            obtain ⟨e0, e1, e2, e3, e4⟩ := box5 eb
            have EG := hide (grown_then G5.out.gr eg (fun j e => by cases e; exact Or.inl (Nat.le_refl _)))
            clear eb eg
            generalize ((((w5.setCell ⟨w.heap.size, 0, none⟩ (.int .i64 0)).setCell ⟨w.heap.size, 1, none⟩ (.int .u32 0)).setCell ⟨w.heap.size, 2, none⟩ (.int .i64 0)).setCell ⟨w.heap.size, 3, none⟩ (.int .i64 0)).setCell ⟨w.heap.size, 4, none⟩ (.int .i64 0) = w9 at *
            refine bodyPost_ret (v := .tuple #[.agg #[.int .i64 0, .int .u32 0, .int .i64 0, .int .i64 0, .int .i64 0], .int .i64 5]) ?_ rfl ?_
            · rw [results_cell_tmp rfl]; go_simp
            exact ⟨by rw [HR.out]; rfl, EG.out⟩
          · have hgt' : (n : Int) ≤ (S : Int) := by omega
            have HR : Hid (res = (⟨rk, ri, rs, ru, rc⟩, 0)) := by have := HD2.out; rw [if_pos hmay, if_neg hgt] at this; exact this
            clear hmay hgt
            go_enter Tryz.func70, Tryz.ntmps70
            go_wp2_with fail
            generalize (w.alloc (.cells #[.int .i64 0, .int .u32 0, .int .i64 0, .int .i64 0, .int .i64 0] 47)) = w1 at *
            refine (qk w1).mono ?_
            rintro e wx ⟨rfl, hw⟩
            obtain rfl := hw.symm
            clear hw qk
            go_wp2_with fail
            refine (qs w1 G0.out).mono ?_
            rintro e w2 ⟨rfl, hg⟩
            have G2 := hide (G0.out.grown hg)
            clear hg qs
            go_wp2_with fail
            refine (qr w2 G2.out).mono ?_
            rintro e w3 ⟨rfl, hg⟩
            have G3 := hide (G2.out.grown hg)
            clear hg qr G2
            have G4 := hide (G3.out.grown (World.grownBy_alloc w3 (.cells #[.int .i64 rk, .int .u32 ri, .int .i64 rs, .int .i64 ru, .int .i64 rc] 47) none))
            have B4 := hide (heap_alloc_new w3 (.cells [Value.int .i64 rk, .int .u32 ri, .int .i64 rs, .int .i64 ru, .int .i64 rc].toArray 47))
            obtain ⟨x0, x1, x2, x3, x4⟩ := box5 B4.out
            have qc := check_any ⟨rk, ri, rs, ru, rc⟩ HO.out _ (HT.out.new G4.out.gr)
            rw [hch] at qc
            unfold rcV at qc
            dsimp only at qc
            clear hch
            go_wp2_with fail
            generalize w3.alloc (.cells #[.int .i64 rk, .int .u32 ri, .int .i64 rs, .int .i64 ru, .int .i64 rc] 47) = w4 at *
            generalize w3.heap.size = Y at *
            refine qc.mono ?_
            rintro e w5 ⟨rfl, hg⟩
            have G5 := hide (G4.out.grown hg)
            have B5 := hide ((hg.block _ (row_lt B4.out) (by simp)).trans B4.out)
            clear hg qc x0 x1 x2 x3 x4 G4 B4
            obtain ⟨x0, x1, x2, x3, x4⟩ := box5 B5.out
            obtain ⟨u0, u1, u2, u3, u4⟩ := box5 G5.out.ans
            have s0 := free_row G5.out.ans 0
            have s1 := free_row G5.out.ans 1
            have s2 := free_row G5.out.ans 2
            have s3 := free_row G5.out.ans 3
            have s4 := free_row G5.out.ans 4
            go_wp2
            obtain ⟨eb, eg⟩ := set5 G5.out.ans (.int .i64 rk) (.int .u32 ri) (.int .i64 rs) (.int .i64 ru) (.int .i64 rc)
            clear u0 u1 u2 u3 u4 s0 s1 s2 s3 s4
            obtain ⟨e0, e1, e2, e3, e4⟩ := box5 eb
            have EG := hide (grown_then G5.out.gr eg (fun j e => by cases e; exact Or.inl (Nat.le_refl _)))
            clear eb eg
            generalize ((((w5.setCell ⟨w.heap.size, 0, none⟩ (.int .i64 rk)).setCell ⟨w.heap.size, 1, none⟩ (.int .u32 ri)).setCell ⟨w.heap.size, 2, none⟩ (.int .i64 rs)).setCell ⟨w.heap.size, 3, none⟩ (.int .i64 ru)).setCell ⟨w.heap.size, 4, none⟩ (.int .i64 rc) = w9 at *
            refine bodyPost_ret (v := .tuple #[.agg #[.int .i64 rk, .int .u32 ri, .int .i64 rs, .int .i64 ru, .int .i64 rc], .int .i64 0]) ?_ rfl ?_
            · rw [results_cell_tmp rfl]; go_simp
            exact ⟨by rw [HR.out]; rfl, EG.out⟩
        · have hch : chk ⟨rk, ri, rs, ru, rc⟩ = 160 := if_neg hmay
          have HR : Hid (res = (zRc, 160)) := by have := HD2.out; rw [if_neg hmay] at this; exact this
          clear hmay
          go_enter Tryz.func70, Tryz.ntmps70
          go_wp2_with fail
          generalize (w.alloc (.cells #[.int .i64 0, .int .u32 0, .int .i64 0, .int .i64 0, .int .i64 0] 47)) = w1 at *
          refine (qk w1).mono ?_
          rintro e wx ⟨rfl, hw⟩
          obtain rfl := hw.symm
          clear hw qk
          go_wp2_with fail
          refine (qs w1 G0.out).mono ?_
          rintro e w2 ⟨rfl, hg⟩
          have G2 := hide (G0.out.grown hg)
          clear hg qs
          go_wp2_with fail
          refine (qr w2 G2.out).mono ?_
          rintro e w3 ⟨rfl, hg⟩
          have G3 := hide (G2.out.grown hg)
          clear hg qr G2
          have G4 := hide (G3.out.grown (World.grownBy_alloc w3 (.cells #[.int .i64 rk, .int .u32 ri, .int .i64 rs, .int .i64 ru, .int .i64 rc] 47) none))
          have B4 := hide (heap_alloc_new w3 (.cells [Value.int .i64 rk, .int .u32 ri, .int .i64 rs, .int .i64 ru, .int .i64 rc].toArray 47))
          obtain ⟨x0, x1, x2, x3, x4⟩ := box5 B4.out
          have qc := check_any ⟨rk, ri, rs, ru, rc⟩ HO.out _ (HT.out.new G4.out.gr)
          rw [hch] at qc
          unfold rcV at qc
          dsimp only at qc
          clear hch
          go_wp2_with fail
          generalize w3.alloc (.cells #[.int .i64 rk, .int .u32 ri, .int .i64 rs, .int .i64 ru, .int .i64 rc] 47) = w4 at *
          generalize w3.heap.size = Y at *
          refine qc.mono ?_
          rintro e w5 ⟨rfl, hg⟩
          have G5 := hide (G4.out.grown hg)
          have B5 := hide ((hg.block _ (row_lt B4.out) (by simp)).trans B4.out)
          clear hg qc x0 x1 x2 x3 x4 G4 B4
          obtain ⟨x0, x1, x2, x3, x4⟩ := box5 B5.out
          obtain ⟨u0, u1, u2, u3, u4⟩ := box5 G5.out.ans
          have s0 := free_row G5.out.ans 0
          have s1 := free_row G5.out.ans 1
          have s2 := free_row G5.out.ans 2
          have s3 := free_row G5.out.ans 3
          have s4 := free_row G5.out.ans 4
          go_wp2
          obtain ⟨eb, eg⟩ := set5 G5.out.ans (.int .i64 0) (.int .u32 0) (.int .i64 0) (.int .i64 0) (.int .i64 0)
          clear u0 u1 u2 u3 u4 s0 s1 s2 s3 s4
          obtain ⟨e0, e1, e2, e3, e4⟩ := box5 eb
          have EG := hide (grown_then G5.out.gr eg (fun j e => by cases e; exact Or.inl (Nat.le_refl _)))
          clear eb eg
          generalize ((((w5.setCell ⟨w.heap.size, 0, none⟩ (.int .i64 0)).setCell ⟨w.heap.size, 1, none⟩ (.int .u32 0)).setCell ⟨w.heap.size, 2, none⟩ (.int .i64 0)).setCell ⟨w.heap.size, 3, none⟩ (.int .i64 0)).setCell ⟨w.heap.size, 4, none⟩ (.int .i64 0) = w9 at *
          refine bodyPost_ret (v := .tuple #[.agg #[.int .i64 0, .int .u32 0, .int .i64 0, .int .i64 0, .int .i64 0], .int .i64 160]) ?_ rfl ?_
          · rw [results_cell_tmp rfl]; go_simp
          exact ⟨by rw [HR.out]; rfl, EG.out⟩
    · rw [decide_eq_false hk] at qk
      have HR : Hid (res = (zRc, 160)) := by have := HX.out.2.2.2.2; unfold getR at this; rw [if_neg (by rw [HX.out.2.1]; exact HQ.out.1), if_pos (sz_zero hk)] at this; exact this
      clear hk
      generalize xs.headD 0 = k at *
      go_enter Tryz.func70, Tryz.ntmps70
      go_wp2_with fail
      generalize (w.alloc (.cells #[.int .i64 0, .int .u32 0, .int .i64 0, .int .i64 0, .int .i64 0] 47)) = w1 at *
      refine (qk w1).mono ?_
      rintro e wx ⟨rfl, hw⟩
      obtain rfl := hw.symm
      clear hw qk
      obtain ⟨u0, u1, u2, u3, u4⟩ := box5 G0.out.ans
      have s0 := free_row G0.out.ans 0
      have s1 := free_row G0.out.ans 1
      have s2 := free_row G0.out.ans 2
      have s3 := free_row G0.out.ans 3
      have s4 := free_row G0.out.ans 4
      go_wp2
      obtain ⟨eb, eg⟩ := set5 G0.out.ans (.int .i64 0) (.int .u32 0) (.int .i64 0) (.int .i64 0) (.int .i64 0)
      clear u0 u1 u2 u3 u4 s0 s1 s2 s3 s4
      obtain ⟨e0, e1, e2, e3, e4⟩ := box5 eb
      have EG := hide (grown_then G0.out.gr eg (fun j e => by cases e; exact Or.inl (Nat.le_refl _)))
      clear eb eg
      generalize ((((w1.setCell ⟨w.heap.size, 0, none⟩ (.int .i64 0)).setCell ⟨w.heap.size, 1, none⟩ (.int .u32 0)).setCell ⟨w.heap.size, 2, none⟩ (.int .i64 0)).setCell ⟨w.heap.size, 3, none⟩ (.int .i64 0)).setCell ⟨w.heap.size, 4, none⟩ (.int .i64 0) = w9 at *
      refine bodyPost_ret (v := .tuple #[.agg #[.int .i64 0, .int .u32 0, .int .i64 0, .int .i64 0, .int .i64 0], .int .i64 160]) ?_ rfl ?_
      · rw [results_cell_tmp rfl]; go_simp
      exact ⟨by rw [HR.out]; rfl, EG.out⟩
end Go.Proofs.YtinkkocleognbaaGreatDoor.Rk
