/- The document's records: Put, Get. -/
import Derived.Test.YtghojalpdkiooaaDoorRh
namespace Go.Proofs.YtghojalpdkiooaaDoor
open Go.RowKit
attribute [local go_sem ↓] Go.wp_at_zero Go.wp_at_succ
theorem bytes_any (r : Rc) (ho : r.Ok) (hm : r.May) (w : World) : Calls Tryd.prog 28 #[rcV r] w fun e w' => ∃ v, e = .returned v ∧ w'.ownsRow w.heap.size 5 1 v (sz r.k) (r.out.map (Value.int .u8)) ∧ w.grownBy w' none := by
  have hi := And.intro ho.i1 ho.i0
  have hk5 := may_kind hm
  obtain ⟨k, i, s, u, c⟩ := r
  dsimp only at hk5 hi
  rcases hk5 with rfl | rfl | rfl | rfl | rfl
  · exact bytes_1 i s u c hm hi w
  · exact bytes_2 i s u c hm hi w
  · exact bytes_3 i s u c hm hi w
  · exact bytes_4 i s u c hm hi w
  · exact bytes_5 i s u c hm hi w
/-- What the document's Put answers. -/
def RPutP (r : Rc) (w w' : World) (v : Value) : Prop := (r.May ∧ w'.ownsRow w.heap.size 5 1 v (sz r.k) (r.out.map (Value.int .u8))) ∨ (¬ r.May ∧ v = .slice none 0 0)
theorem put_ref (r : Rc) (ho : r.Ok) (w : World) : Calls Tryd.prog 13 #[rcV r] w fun e w' => ∃ v, e = .returned (.tuple #[v, .int .i64 (chk r)]) ∧ RPutP r w w' v ∧ w.grownBy w' none := by
  have g1 := World.grownBy_alloc w (.cells (rcC r).toArray 25) none
  have b1 := heap_alloc_new w (.cells (rcC r).toArray 25)
  have q := rmay_any r ho (w.alloc (.cells (rcC r).toArray 25))
  have H := hide (And.intro ho (And.intro g1 b1))
  obtain ⟨c0, c1, c2, c3, c4⟩ := box5 b1
  clear ho g1 b1
  unfold rcC at *
  by_cases hm : r.May
  · rw [decide_eq_true hm] at q
    rw [show chk r = 0 from if_pos hm]
    unfold rcV at q ⊢
    have HM := hide hm
    clear hm
    go_enter Tryd.func13, Tryd.ntmps13
    go_wp2_with fail
    refine q.mono ?_
    clear q
    rintro e w1 ⟨rfl, hg⟩
    have hb := (hg.block _ (row_lt H.out.2.2) (by simp)).trans H.out.2.2
    have q := bytes_any r H.out.1 HM.out w1
    unfold rcV at q
    have HG := hide (grown_trans H.out.2.1 hg)
    clear c0 c1 c2 c3 c4 hg
    obtain ⟨c0, c1, c2, c3, c4⟩ := box5 hb
    clear hb
    go_wp2_with fail
    refine q.mono ?_
    clear q
    rintro e w2 ⟨v, rfl, h1, hg⟩
    have HR := hide (And.intro h1 hg)
    clear h1 hg c0 c1 c2 c3 c4
    go_wp2
    go_ret2
    exact ⟨_, rfl, Or.inl ⟨HM.out, own_from HR.out.1 HG.out.size⟩, grown_trans HG.out HR.out.2⟩
  · rw [decide_eq_false hm] at q
    rw [show chk r = 160 from if_neg hm]
    unfold rcV at q ⊢
    have HM := hide hm
    clear hm
    go_enter Tryd.func13, Tryd.ntmps13
    go_wp2_with fail
    refine q.mono ?_
    clear q
    rintro e w1 ⟨rfl, hg⟩
    have HG := hide (grown_trans H.out.2.1 hg)
    clear c0 c1 c2 c3 c4 hg
    go_wp2
    go_ret2
    exact ⟨_, rfl, Or.inr ⟨HM.out, rfl⟩, HG.out⟩
/-- Inside the document's Get: the answer's box, the record's box. -/
structure GrS (w wr : World) (Y : Nat) (r : Rc) : Prop where
  g : GtS w wr
  rc : wr.heap[Y]? = some (.cells (rcC r).toArray 25 (0, 0))
  lo : w.heap.size < Y
theorem GrS.set {w wr : World} {Y : Nat} {r r' : Rc} (h : GrS w wr Y r) (j : Nat) (v : Value) (hr : (rcC r).set j v = rcC r') : GrS w (wr.setCell ⟨Y, j, none⟩ v) Y r' := by
  have hg := grown_setCell wr Y j v
  refine ⟨⟨(hg.block _ (row_lt h.g.ans) (by have := h.lo; simp; omega)).trans h.g.ans, grown_then h.g.gr hg (fun j e => by cases e; exact Or.inl (Nat.le_of_lt h.lo))⟩, ?_, h.lo⟩
  have := row_setCell h.rc j v
  rw [hr] at this
  exact this
theorem GrS.grown {w wr wr' : World} {Y : Nat} {r : Rc} (h : GrS w wr Y r) (hg : wr.grownBy wr' none) : GrS w wr' Y r := ⟨h.g.grown hg, (hg.block _ (row_lt h.rc) (by simp)).trans h.rc, h.lo⟩
theorem GrS.begin {w wr : World} (h : GtS w wr) (r : Rc) : GrS w (wr.alloc (.cells (rcC r).toArray 25)) wr.heap.size r :=
  ⟨h.grown (World.grownBy_alloc wr _ none), heap_alloc_new wr _, row_lt h.ans⟩
theorem GrS.world {w wr : World} {Y : Nat} {r : Rc} (h : GrS w wr Y r) : w.grownBy wr none := h.g.gr

set_option maxRecDepth 20000 in
set_option maxHeartbeats 8000000 in
theorem getref_1 (xs : List Int) (hB : Byt xs) (hk : xs.headD 0 = 1) (a : Addr) (n cap : Nat) (w : World) (hn : xs.length = n) (hat : At w (some a) xs) (hc : n ≤ cap) (h0 : n ≠ 0) :
    Calls Tryd.prog 19 #[.slice (some a) n cap] w fun r w' => r = .returned (.tuple #[rcV (getR xs).1, .int .i64 (getR xs).2]) ∧ w.grownBy w' none := by
  have hcell : w.cell? a = some (.int .u8 1) := by
    cases hxs : xs with
    | nil => rw [hxs] at hn; simp at hn; omega
    | cons x r =>
      rw [hxs] at hat hk
      obtain ⟨a', ha, hc⟩ := hat 0 x rfl
      cases ha
      rw [show a.add 0 = a by unfold Addr.add; cases a; simp] at hc
      rw [hc, ← hk]; rfl
  have G0 := hide (GtS.begin w)
  have hcell1 := G0.out.gr.cell hcell (by simp)
  have hz1 : ((n : Int) == 0) = false := by simpa using h0
  have hz2 : decide ((n : Int) = 0) = false := by simpa using h0
  have hpos : (0 : Int) < (n : Int) := by omega
  have qz : ∀ w, Calls Tryd.prog 16 #[.int .i64 1] w fun e w' => e = .returned (.int .i64 15) ∧ w' = w := fun w => size_ref 1 w
  obtain ⟨res, hres⟩ : ∃ res, res = getR xs := ⟨_, rfl⟩
  rw [← hres]
  unfold getR at hres
  rw [hk, if_neg (by omega), if_neg (show ¬ sz 1 = 0 by decide), show sz 1 = 15 from rfl, hn] at hres
  have HX := hide (And.intro hB (And.intro hn (And.intro hat hres)))
  clear hB hat hcell h0
  by_cases hlt : n < 15
  · have hlt' : (n : Int) < 15 := by omega
    have HR : Hid (res = (zRc, 4)) := by have := HX.out.2.2.2; rw [if_pos hlt] at this; exact this
    clear hres hlt hn
    go_enter Tryd.func19, Tryd.ntmps19
    go_wp2_with fail
    generalize (w.alloc (.cells #[.int .i64 0, .int .u32 0, .int .i64 0, .int .i64 0, .int .i64 0] 25)) = w1 at *
    refine (qz w1).mono ?_
    rintro e wx ⟨rfl, hw⟩
    obtain rfl := hw.symm
    clear hw qz
    obtain ⟨u0, u1, u2, u3, u4⟩ := box5 G0.out.ans
    have s0 := free_row G0.out.ans 0
    have s1 := free_row G0.out.ans 1
    have s2 := free_row G0.out.ans 2
    have s3 := free_row G0.out.ans 3
    have s4 := free_row G0.out.ans 4
    go_wp2
    obtain ⟨eb, eg⟩ := set5 G0.out.ans (.int .i64 0) (.int .u32 0) (.int .i64 0) (.int .i64 0) (.int .i64 0)
    clear u0 u1 u2 u3 u4 s0 s1 s2 s3 s4
    obtain ⟨e0, e1, e2, e3, e4⟩ := box5 eb
    have EG := hide (grown_then G0.out.gr eg (fun j e => by cases e; exact Or.inl (Nat.le_refl _)))
    clear eb eg
    generalize ((((w1.setCell ⟨w.heap.size, 0, none⟩ (.int .i64 0)).setCell ⟨w.heap.size, 1, none⟩ (.int .u32 0)).setCell ⟨w.heap.size, 2, none⟩ (.int .i64 0)).setCell ⟨w.heap.size, 3, none⟩ (.int .i64 0)).setCell ⟨w.heap.size, 4, none⟩ (.int .i64 0) = w9 at *
    refine bodyPost_ret (v := .tuple #[.agg #[.int .i64 0, .int .u32 0, .int .i64 0, .int .i64 0, .int .i64 0], .int .i64 4]) ?_ rfl ?_
    · rw [results_cell_tmp rfl]; go_simp
    exact ⟨by rw [HR.out]; rfl, EG.out⟩
  · have hlt' : (15 : Int) ≤ (n : Int) := by omega
    have hrc : rcOf xs = ⟨1, leV ((xs.drop 1).take 4), leV ((xs.drop 5).take 2), i64of (leV ((xs.drop 7).take 8)), 0⟩ := by unfold rcOf; rw [hk]; rfl
    have HO := hide (rcOf_ok HX.out.1)
    rw [if_neg hlt] at hres
    rw [hrc] at hres HO
    have hcp : 15 ≤ cap := by omega
    have vi := val4 HX.out.1 1
    have li : ((xs.drop 1).take 4).length = 4 := by rw [List.length_take, List.length_drop, HX.out.2.1]; omega
    have Si : ∀ w, (Instr.slice 26 (.slice (some a) n cap) (some (.int .i64 1)) (some (.int .i64 5)) none).run Tryd.prog w = .ok (.slice (cutA (some a) 1 cap) 4 (cap - 1)) w := slice_lh (some a) n cap 1 5 (by decide) (by omega)
    have qi := fun w1 (h : w.grownBy w1 none) => value_any (cutA (some a) 1 cap) 4 (cap - 1) ((xs.drop 1).take 4) w1 li (((HX.out.2.2.1.kept h (fun _ _ e => by cases e)).cut 1 cap (by rw [HX.out.2.1]; omega)).take 4) ((HX.out.1.drop 1).take 4) (by decide)
    generalize leV ((xs.drop 1).take 4) = Vi at *
    generalize cutA (some a) 1 cap = Ai at *
    generalize cap - 1 = Ci at *
    have Wi : IntKind.u32.wrap Vi = Vi := by rw [IntKind.wrap_u32]; omega
    clear vi li
    have vs := val2 HX.out.1 5
    have ls : ((xs.drop 5).take 2).length = 2 := by rw [List.length_take, List.length_drop, HX.out.2.1]; omega
    have Ss : ∀ w, (Instr.slice 26 (.slice (some a) n cap) (some (.int .i64 5)) (some (.int .i64 7)) none).run Tryd.prog w = .ok (.slice (cutA (some a) 5 cap) 2 (cap - 5)) w := slice_lh (some a) n cap 5 7 (by decide) (by omega)
    have qs := fun w1 (h : w.grownBy w1 none) => value_any (cutA (some a) 5 cap) 2 (cap - 5) ((xs.drop 5).take 2) w1 ls (((HX.out.2.2.1.kept h (fun _ _ e => by cases e)).cut 5 cap (by rw [HX.out.2.1]; omega)).take 2) ((HX.out.1.drop 5).take 2) (by decide)
    generalize leV ((xs.drop 5).take 2) = Vs at *
    generalize cutA (some a) 5 cap = As at *
    generalize cap - 5 = Cs at *
    have Ws : IntKind.i64.wrap Vs = Vs := by rw [IntKind.wrap_i64]; omega
    clear vs ls
    have vu := val8 HX.out.1 7
    have lu : ((xs.drop 7).take 8).length = 8 := by rw [List.length_take, List.length_drop, HX.out.2.1]; omega
    have Su : ∀ w, (Instr.slice 26 (.slice (some a) n cap) (some (.int .i64 7)) (some (.int .i64 15)) none).run Tryd.prog w = .ok (.slice (cutA (some a) 7 cap) 8 (cap - 7)) w := slice_lh (some a) n cap 7 15 (by decide) (by omega)
    have qu := fun w1 (h : w.grownBy w1 none) => value_any (cutA (some a) 7 cap) 8 (cap - 7) ((xs.drop 7).take 8) w1 lu (((HX.out.2.2.1.kept h (fun _ _ e => by cases e)).cut 7 cap (by rw [HX.out.2.1]; omega)).take 8) ((HX.out.1.drop 7).take 8) (by decide)
    generalize leV ((xs.drop 7).take 8) = Vu at *
    generalize cutA (some a) 7 cap = Au at *
    generalize cap - 7 = Cu at *
    have Wu : IntKind.i64.wrap Vu = i64of Vu := i64_wrap vu.1 vu.2
    generalize i64of Vu = Uu at *
    clear vu lu
    have HLT := hide hlt
    clear hrc hlt hcp
    clear HX
    have qm := rmay_any ⟨1, Vi, Vs, Uu, 0⟩ HO.out
    unfold rcV at qm
    dsimp only at qm
    by_cases hmay : (Rc.mk 1 Vi Vs Uu 0).May
    · rw [decide_eq_true hmay] at qm
      rw [if_pos hmay] at hres
      clear hmay
      by_cases hgt : 15 < n
      · have hgt' : (15 : Int) < (n : Int) := by omega
        have HR : Hid (res = (zRc, 5)) := by rw [if_pos hgt] at hres; exact hres
        clear hres hgt hn
        go_enter Tryd.func19, Tryd.ntmps19
        go_wp2_with fail
        generalize (w.alloc (.cells #[.int .i64 0, .int .u32 0, .int .i64 0, .int .i64 0, .int .i64 0] 25)) = w1 at *
        refine (qz w1).mono ?_
        rintro e wx ⟨rfl, hw⟩
        obtain rfl := hw.symm
        clear hw qz
        have P0 := hide (GrS.begin G0.out ⟨1, 0, 0, 0, 0⟩)
        go_wp2_with fail
        unfold rcC at P0
        dsimp only at P0
        generalize w1.alloc (.cells #[.int .i64 1, .int .u32 0, .int .i64 0, .int .i64 0, .int .i64 0] 25) = m0 at *
        generalize w1.heap.size = Y at *
        refine (qi m0 P0.out.world).mono ?_
        rintro e wx ⟨rfl, hw⟩
        obtain rfl := hw.symm
        clear hw qi
        have P1 := hide (P0.out.set (r' := ⟨1, Vi, 0, 0, 0⟩) 1 (.int .u32 Vi) rfl)
        obtain ⟨x0, x1, x2, x3, x4⟩ := box5 P0.out.rc
        have z1 := free_row P0.out.rc 1
        obtain ⟨y0, y1, y2, y3, y4⟩ := box5 P1.out.rc
        go_wp2_with fail
        clear x0 x1 x2 x3 x4 z1 y0 y1 y2 y3 y4
        generalize m0.setCell ⟨Y, 1, none⟩ (.int .u32 Vi) = m1 at *
        clear P0
        refine (qs m1 P1.out.world).mono ?_
        rintro e wx ⟨rfl, hw⟩
        obtain rfl := hw.symm
        clear hw qs
        have P2 := hide (P1.out.set (r' := ⟨1, Vi, Vs, 0, 0⟩) 2 (.int .i64 Vs) rfl)
        obtain ⟨x0, x1, x2, x3, x4⟩ := box5 P1.out.rc
        have z2 := free_row P1.out.rc 2
        obtain ⟨y0, y1, y2, y3, y4⟩ := box5 P2.out.rc
        go_wp2_with fail
        clear x0 x1 x2 x3 x4 z2 y0 y1 y2 y3 y4
        generalize m1.setCell ⟨Y, 2, none⟩ (.int .i64 Vs) = m2 at *
        clear P1
        refine (qu m2 P2.out.world).mono ?_
        rintro e wx ⟨rfl, hw⟩
        obtain rfl := hw.symm
        clear hw qu
        have P3 := hide (P2.out.set (r' := ⟨1, Vi, Vs, Uu, 0⟩) 3 (.int .i64 Uu) rfl)
        obtain ⟨x0, x1, x2, x3, x4⟩ := box5 P2.out.rc
        have z3 := free_row P2.out.rc 3
        obtain ⟨y0, y1, y2, y3, y4⟩ := box5 P3.out.rc
        go_wp2_with fail
        clear x0 x1 x2 x3 x4 z3 y0 y1 y2 y3 y4
        generalize m2.setCell ⟨Y, 3, none⟩ (.int .i64 Uu) = m3 at *
        clear P2
        refine (qm m3).mono ?_
        rintro e wf ⟨rfl, hg⟩
        have PF := hide (P3.out.grown hg)
        obtain ⟨x0, x1, x2, x3, x4⟩ := box5 PF.out.rc
        clear hg qm P3
        obtain ⟨u0, u1, u2, u3, u4⟩ := box5 PF.out.g.ans
        have s0 := free_row PF.out.g.ans 0
        have s1 := free_row PF.out.g.ans 1
        have s2 := free_row PF.out.g.ans 2
        have s3 := free_row PF.out.g.ans 3
        have s4 := free_row PF.out.g.ans 4
        go_wp2
        obtain ⟨eb, eg⟩ := set5 PF.out.g.ans (.int .i64 0) (.int .u32 0) (.int .i64 0) (.int .i64 0) (.int .i64 0)
        clear u0 u1 u2 u3 u4 s0 s1 s2 s3 s4
        obtain ⟨e0, e1, e2, e3, e4⟩ := box5 eb
        have EG := hide (grown_then PF.out.g.gr eg (fun j e => by cases e; exact Or.inl (Nat.le_refl _)))
        clear eb eg
        generalize ((((wf.setCell ⟨w.heap.size, 0, none⟩ (.int .i64 0)).setCell ⟨w.heap.size, 1, none⟩ (.int .u32 0)).setCell ⟨w.heap.size, 2, none⟩ (.int .i64 0)).setCell ⟨w.heap.size, 3, none⟩ (.int .i64 0)).setCell ⟨w.heap.size, 4, none⟩ (.int .i64 0) = w9 at *
        refine bodyPost_ret (v := .tuple #[.agg #[.int .i64 0, .int .u32 0, .int .i64 0, .int .i64 0, .int .i64 0], .int .i64 5]) ?_ rfl ?_
        · rw [results_cell_tmp rfl]; go_simp
        exact ⟨by rw [HR.out]; rfl, EG.out⟩
      · have hgt' : (n : Int) ≤ 15 := by omega
        have HR : Hid (res = (⟨1, Vi, Vs, Uu, 0⟩, 0)) := by rw [if_neg hgt] at hres; exact hres
        clear hres hgt hn
        go_enter Tryd.func19, Tryd.ntmps19
        go_wp2_with fail
        generalize (w.alloc (.cells #[.int .i64 0, .int .u32 0, .int .i64 0, .int .i64 0, .int .i64 0] 25)) = w1 at *
        refine (qz w1).mono ?_
        rintro e wx ⟨rfl, hw⟩
        obtain rfl := hw.symm
        clear hw qz
        have P0 := hide (GrS.begin G0.out ⟨1, 0, 0, 0, 0⟩)
        go_wp2_with fail
        unfold rcC at P0
        dsimp only at P0
        generalize w1.alloc (.cells #[.int .i64 1, .int .u32 0, .int .i64 0, .int .i64 0, .int .i64 0] 25) = m0 at *
        generalize w1.heap.size = Y at *
        refine (qi m0 P0.out.world).mono ?_
        rintro e wx ⟨rfl, hw⟩
        obtain rfl := hw.symm
        clear hw qi
        have P1 := hide (P0.out.set (r' := ⟨1, Vi, 0, 0, 0⟩) 1 (.int .u32 Vi) rfl)
        obtain ⟨x0, x1, x2, x3, x4⟩ := box5 P0.out.rc
        have z1 := free_row P0.out.rc 1
        obtain ⟨y0, y1, y2, y3, y4⟩ := box5 P1.out.rc
        go_wp2_with fail
        clear x0 x1 x2 x3 x4 z1 y0 y1 y2 y3 y4
        generalize m0.setCell ⟨Y, 1, none⟩ (.int .u32 Vi) = m1 at *
        clear P0
        refine (qs m1 P1.out.world).mono ?_
        rintro e wx ⟨rfl, hw⟩
        obtain rfl := hw.symm
        clear hw qs
        have P2 := hide (P1.out.set (r' := ⟨1, Vi, Vs, 0, 0⟩) 2 (.int .i64 Vs) rfl)
        obtain ⟨x0, x1, x2, x3, x4⟩ := box5 P1.out.rc
        have z2 := free_row P1.out.rc 2
        obtain ⟨y0, y1, y2, y3, y4⟩ := box5 P2.out.rc
        go_wp2_with fail
        clear x0 x1 x2 x3 x4 z2 y0 y1 y2 y3 y4
        generalize m1.setCell ⟨Y, 2, none⟩ (.int .i64 Vs) = m2 at *
        clear P1
        refine (qu m2 P2.out.world).mono ?_
        rintro e wx ⟨rfl, hw⟩
        obtain rfl := hw.symm
        clear hw qu
        have P3 := hide (P2.out.set (r' := ⟨1, Vi, Vs, Uu, 0⟩) 3 (.int .i64 Uu) rfl)
        obtain ⟨x0, x1, x2, x3, x4⟩ := box5 P2.out.rc
        have z3 := free_row P2.out.rc 3
        obtain ⟨y0, y1, y2, y3, y4⟩ := box5 P3.out.rc
        go_wp2_with fail
        clear x0 x1 x2 x3 x4 z3 y0 y1 y2 y3 y4
        generalize m2.setCell ⟨Y, 3, none⟩ (.int .i64 Uu) = m3 at *
        clear P2
        refine (qm m3).mono ?_
        rintro e wf ⟨rfl, hg⟩
        have PF := hide (P3.out.grown hg)
        obtain ⟨x0, x1, x2, x3, x4⟩ := box5 PF.out.rc
        clear hg qm P3
        obtain ⟨u0, u1, u2, u3, u4⟩ := box5 PF.out.g.ans
        have s0 := free_row PF.out.g.ans 0
        have s1 := free_row PF.out.g.ans 1
        have s2 := free_row PF.out.g.ans 2
        have s3 := free_row PF.out.g.ans 3
        have s4 := free_row PF.out.g.ans 4
        go_wp2
        obtain ⟨eb, eg⟩ := set5 PF.out.g.ans (.int .i64 1) (.int .u32 Vi) (.int .i64 Vs) (.int .i64 Uu) (.int .i64 0)
        clear u0 u1 u2 u3 u4 s0 s1 s2 s3 s4
        obtain ⟨e0, e1, e2, e3, e4⟩ := box5 eb
        have EG := hide (grown_then PF.out.g.gr eg (fun j e => by cases e; exact Or.inl (Nat.le_refl _)))
        clear eb eg
        generalize ((((wf.setCell ⟨w.heap.size, 0, none⟩ (.int .i64 1)).setCell ⟨w.heap.size, 1, none⟩ (.int .u32 Vi)).setCell ⟨w.heap.size, 2, none⟩ (.int .i64 Vs)).setCell ⟨w.heap.size, 3, none⟩ (.int .i64 Uu)).setCell ⟨w.heap.size, 4, none⟩ (.int .i64 0) = w9 at *
        refine bodyPost_ret (v := .tuple #[.agg #[.int .i64 1, .int .u32 Vi, .int .i64 Vs, .int .i64 Uu, .int .i64 0], .int .i64 0]) ?_ rfl ?_
        · rw [results_cell_tmp rfl]; go_simp
        exact ⟨by rw [HR.out]; rfl, EG.out⟩
    · rw [decide_eq_false hmay] at qm
      rw [if_neg hmay] at hres
      have HR : Hid (res = (zRc, 160)) := hres
      clear hmay hres hn
      go_enter Tryd.func19, Tryd.ntmps19
      go_wp2_with fail
      generalize (w.alloc (.cells #[.int .i64 0, .int .u32 0, .int .i64 0, .int .i64 0, .int .i64 0] 25)) = w1 at *
      refine (qz w1).mono ?_
      rintro e wx ⟨rfl, hw⟩
      obtain rfl := hw.symm
      clear hw qz
      have P0 := hide (GrS.begin G0.out ⟨1, 0, 0, 0, 0⟩)
      go_wp2_with fail
      unfold rcC at P0
      dsimp only at P0
      generalize w1.alloc (.cells #[.int .i64 1, .int .u32 0, .int .i64 0, .int .i64 0, .int .i64 0] 25) = m0 at *
      generalize w1.heap.size = Y at *
      refine (qi m0 P0.out.world).mono ?_
      rintro e wx ⟨rfl, hw⟩
      obtain rfl := hw.symm
      clear hw qi
      have P1 := hide (P0.out.set (r' := ⟨1, Vi, 0, 0, 0⟩) 1 (.int .u32 Vi) rfl)
      obtain ⟨x0, x1, x2, x3, x4⟩ := box5 P0.out.rc
      have z1 := free_row P0.out.rc 1
      obtain ⟨y0, y1, y2, y3, y4⟩ := box5 P1.out.rc
      go_wp2_with fail
      clear x0 x1 x2 x3 x4 z1 y0 y1 y2 y3 y4
      generalize m0.setCell ⟨Y, 1, none⟩ (.int .u32 Vi) = m1 at *
      clear P0
      refine (qs m1 P1.out.world).mono ?_
      rintro e wx ⟨rfl, hw⟩
      obtain rfl := hw.symm
      clear hw qs
      have P2 := hide (P1.out.set (r' := ⟨1, Vi, Vs, 0, 0⟩) 2 (.int .i64 Vs) rfl)
      obtain ⟨x0, x1, x2, x3, x4⟩ := box5 P1.out.rc
      have z2 := free_row P1.out.rc 2
      obtain ⟨y0, y1, y2, y3, y4⟩ := box5 P2.out.rc
      go_wp2_with fail
      clear x0 x1 x2 x3 x4 z2 y0 y1 y2 y3 y4
      generalize m1.setCell ⟨Y, 2, none⟩ (.int .i64 Vs) = m2 at *
      clear P1
      refine (qu m2 P2.out.world).mono ?_
      rintro e wx ⟨rfl, hw⟩
      obtain rfl := hw.symm
      clear hw qu
      have P3 := hide (P2.out.set (r' := ⟨1, Vi, Vs, Uu, 0⟩) 3 (.int .i64 Uu) rfl)
      obtain ⟨x0, x1, x2, x3, x4⟩ := box5 P2.out.rc
      have z3 := free_row P2.out.rc 3
      obtain ⟨y0, y1, y2, y3, y4⟩ := box5 P3.out.rc
      go_wp2_with fail
      clear x0 x1 x2 x3 x4 z3 y0 y1 y2 y3 y4
      generalize m2.setCell ⟨Y, 3, none⟩ (.int .i64 Uu) = m3 at *
      clear P2
      refine (qm m3).mono ?_
      rintro e wf ⟨rfl, hg⟩
      have PF := hide (P3.out.grown hg)
      obtain ⟨x0, x1, x2, x3, x4⟩ := box5 PF.out.rc
      clear hg qm P3
      obtain ⟨u0, u1, u2, u3, u4⟩ := box5 PF.out.g.ans
      have s0 := free_row PF.out.g.ans 0
      have s1 := free_row PF.out.g.ans 1
      have s2 := free_row PF.out.g.ans 2
      have s3 := free_row PF.out.g.ans 3
      have s4 := free_row PF.out.g.ans 4
      go_wp2
      obtain ⟨eb, eg⟩ := set5 PF.out.g.ans (.int .i64 0) (.int .u32 0) (.int .i64 0) (.int .i64 0) (.int .i64 0)
      clear u0 u1 u2 u3 u4 s0 s1 s2 s3 s4
      obtain ⟨e0, e1, e2, e3, e4⟩ := box5 eb
      have EG := hide (grown_then PF.out.g.gr eg (fun j e => by cases e; exact Or.inl (Nat.le_refl _)))
      clear eb eg
      generalize ((((wf.setCell ⟨w.heap.size, 0, none⟩ (.int .i64 0)).setCell ⟨w.heap.size, 1, none⟩ (.int .u32 0)).setCell ⟨w.heap.size, 2, none⟩ (.int .i64 0)).setCell ⟨w.heap.size, 3, none⟩ (.int .i64 0)).setCell ⟨w.heap.size, 4, none⟩ (.int .i64 0) = w9 at *
      refine bodyPost_ret (v := .tuple #[.agg #[.int .i64 0, .int .u32 0, .int .i64 0, .int .i64 0, .int .i64 0], .int .i64 160]) ?_ rfl ?_
      · rw [results_cell_tmp rfl]; go_simp
      exact ⟨by rw [HR.out]; rfl, EG.out⟩
set_option maxRecDepth 20000 in
set_option maxHeartbeats 8000000 in
theorem getref_2 (xs : List Int) (hB : Byt xs) (hk : xs.headD 0 = 2) (a : Addr) (n cap : Nat) (w : World) (hn : xs.length = n) (hat : At w (some a) xs) (hc : n ≤ cap) (h0 : n ≠ 0) :
    Calls Tryd.prog 19 #[.slice (some a) n cap] w fun r w' => r = .returned (.tuple #[rcV (getR xs).1, .int .i64 (getR xs).2]) ∧ w.grownBy w' none := by
  have hcell : w.cell? a = some (.int .u8 2) := by
    cases hxs : xs with
    | nil => rw [hxs] at hn; simp at hn; omega
    | cons x r =>
      rw [hxs] at hat hk
      obtain ⟨a', ha, hc⟩ := hat 0 x rfl
      cases ha
      rw [show a.add 0 = a by unfold Addr.add; cases a; simp] at hc
      rw [hc, ← hk]; rfl
  have G0 := hide (GtS.begin w)
  have hcell1 := G0.out.gr.cell hcell (by simp)
  have hz1 : ((n : Int) == 0) = false := by simpa using h0
  have hz2 : decide ((n : Int) = 0) = false := by simpa using h0
  have hpos : (0 : Int) < (n : Int) := by omega
  have qz : ∀ w, Calls Tryd.prog 16 #[.int .i64 2] w fun e w' => e = .returned (.int .i64 5) ∧ w' = w := fun w => size_ref 2 w
  obtain ⟨res, hres⟩ : ∃ res, res = getR xs := ⟨_, rfl⟩
  rw [← hres]
  unfold getR at hres
  rw [hk, if_neg (by omega), if_neg (show ¬ sz 2 = 0 by decide), show sz 2 = 5 from rfl, hn] at hres
  have HX := hide (And.intro hB (And.intro hn (And.intro hat hres)))
  clear hB hat hcell h0
  by_cases hlt : n < 5
  · have hlt' : (n : Int) < 5 := by omega
    have HR : Hid (res = (zRc, 4)) := by have := HX.out.2.2.2; rw [if_pos hlt] at this; exact this
    clear hres hlt hn
    go_enter Tryd.func19, Tryd.ntmps19
    go_wp2_with fail
    generalize (w.alloc (.cells #[.int .i64 0, .int .u32 0, .int .i64 0, .int .i64 0, .int .i64 0] 25)) = w1 at *
    refine (qz w1).mono ?_
    rintro e wx ⟨rfl, hw⟩
    obtain rfl := hw.symm
    clear hw qz
    obtain ⟨u0, u1, u2, u3, u4⟩ := box5 G0.out.ans
    have s0 := free_row G0.out.ans 0
    have s1 := free_row G0.out.ans 1
    have s2 := free_row G0.out.ans 2
    have s3 := free_row G0.out.ans 3
    have s4 := free_row G0.out.ans 4
    go_wp2
    obtain ⟨eb, eg⟩ := set5 G0.out.ans (.int .i64 0) (.int .u32 0) (.int .i64 0) (.int .i64 0) (.int .i64 0)
    clear u0 u1 u2 u3 u4 s0 s1 s2 s3 s4
    obtain ⟨e0, e1, e2, e3, e4⟩ := box5 eb
    have EG := hide (grown_then G0.out.gr eg (fun j e => by cases e; exact Or.inl (Nat.le_refl _)))
    clear eb eg
    generalize ((((w1.setCell ⟨w.heap.size, 0, none⟩ (.int .i64 0)).setCell ⟨w.heap.size, 1, none⟩ (.int .u32 0)).setCell ⟨w.heap.size, 2, none⟩ (.int .i64 0)).setCell ⟨w.heap.size, 3, none⟩ (.int .i64 0)).setCell ⟨w.heap.size, 4, none⟩ (.int .i64 0) = w9 at *
    refine bodyPost_ret (v := .tuple #[.agg #[.int .i64 0, .int .u32 0, .int .i64 0, .int .i64 0, .int .i64 0], .int .i64 4]) ?_ rfl ?_
    · rw [results_cell_tmp rfl]; go_simp
    exact ⟨by rw [HR.out]; rfl, EG.out⟩
  · have hlt' : (5 : Int) ≤ (n : Int) := by omega
    have hrc : rcOf xs = ⟨2, leV ((xs.drop 1).take 4), 0, 0, 0⟩ := by unfold rcOf; rw [hk]; rfl
    have HO := hide (rcOf_ok HX.out.1)
    rw [if_neg hlt] at hres
    rw [hrc] at hres HO
    have hcp : 5 ≤ cap := by omega
    have vi := val4 HX.out.1 1
    have li : ((xs.drop 1).take 4).length = 4 := by rw [List.length_take, List.length_drop, HX.out.2.1]; omega
    have Si : ∀ w, (Instr.slice 26 (.slice (some a) n cap) (some (.int .i64 1)) (some (.int .i64 5)) none).run Tryd.prog w = .ok (.slice (cutA (some a) 1 cap) 4 (cap - 1)) w := slice_lh (some a) n cap 1 5 (by decide) (by omega)
    have qi := fun w1 (h : w.grownBy w1 none) => value_any (cutA (some a) 1 cap) 4 (cap - 1) ((xs.drop 1).take 4) w1 li (((HX.out.2.2.1.kept h (fun _ _ e => by cases e)).cut 1 cap (by rw [HX.out.2.1]; omega)).take 4) ((HX.out.1.drop 1).take 4) (by decide)
    generalize leV ((xs.drop 1).take 4) = Vi at *
    generalize cutA (some a) 1 cap = Ai at *
    generalize cap - 1 = Ci at *
    have Wi : IntKind.u32.wrap Vi = Vi := by rw [IntKind.wrap_u32]; omega
    clear vi li
    have HLT := hide hlt
    clear hrc hlt hcp
    clear HX
    have qm := rmay_any ⟨2, Vi, 0, 0, 0⟩ HO.out
    unfold rcV at qm
    dsimp only at qm
    by_cases hmay : (Rc.mk 2 Vi 0 0 0).May
    · rw [decide_eq_true hmay] at qm
      rw [if_pos hmay] at hres
      clear hmay
      by_cases hgt : 5 < n
      · have hgt' : (5 : Int) < (n : Int) := by omega
        have HR : Hid (res = (zRc, 5)) := by rw [if_pos hgt] at hres; exact hres
        clear hres hgt hn
        go_enter Tryd.func19, Tryd.ntmps19
        go_wp2_with fail
        generalize (w.alloc (.cells #[.int .i64 0, .int .u32 0, .int .i64 0, .int .i64 0, .int .i64 0] 25)) = w1 at *
        refine (qz w1).mono ?_
        rintro e wx ⟨rfl, hw⟩
        obtain rfl := hw.symm
        clear hw qz
        have P0 := hide (GrS.begin G0.out ⟨2, 0, 0, 0, 0⟩)
        go_wp2_with fail
        unfold rcC at P0
        dsimp only at P0
        generalize w1.alloc (.cells #[.int .i64 2, .int .u32 0, .int .i64 0, .int .i64 0, .int .i64 0] 25) = m0 at *
        generalize w1.heap.size = Y at *
        refine (qi m0 P0.out.world).mono ?_
        rintro e wx ⟨rfl, hw⟩
        obtain rfl := hw.symm
        clear hw qi
        have P1 := hide (P0.out.set (r' := ⟨2, Vi, 0, 0, 0⟩) 1 (.int .u32 Vi) rfl)
        obtain ⟨x0, x1, x2, x3, x4⟩ := box5 P0.out.rc
        have z1 := free_row P0.out.rc 1
        obtain ⟨y0, y1, y2, y3, y4⟩ := box5 P1.out.rc
        go_wp2_with fail
        clear x0 x1 x2 x3 x4 z1 y0 y1 y2 y3 y4
        generalize m0.setCell ⟨Y, 1, none⟩ (.int .u32 Vi) = m1 at *
        clear P0
        refine (qm m1).mono ?_
        rintro e wf ⟨rfl, hg⟩
        have PF := hide (P1.out.grown hg)
        obtain ⟨x0, x1, x2, x3, x4⟩ := box5 PF.out.rc
        clear hg qm P1
        obtain ⟨u0, u1, u2, u3, u4⟩ := box5 PF.out.g.ans
        have s0 := free_row PF.out.g.ans 0
        have s1 := free_row PF.out.g.ans 1
        have s2 := free_row PF.out.g.ans 2
        have s3 := free_row PF.out.g.ans 3
        have s4 := free_row PF.out.g.ans 4
        go_wp2
        obtain ⟨eb, eg⟩ := set5 PF.out.g.ans (.int .i64 0) (.int .u32 0) (.int .i64 0) (.int .i64 0) (.int .i64 0)
        clear u0 u1 u2 u3 u4 s0 s1 s2 s3 s4
        obtain ⟨e0, e1, e2, e3, e4⟩ := box5 eb
        have EG := hide (grown_then PF.out.g.gr eg (fun j e => by cases e; exact Or.inl (Nat.le_refl _)))
        clear eb eg
        generalize ((((wf.setCell ⟨w.heap.size, 0, none⟩ (.int .i64 0)).setCell ⟨w.heap.size, 1, none⟩ (.int .u32 0)).setCell ⟨w.heap.size, 2, none⟩ (.int .i64 0)).setCell ⟨w.heap.size, 3, none⟩ (.int .i64 0)).setCell ⟨w.heap.size, 4, none⟩ (.int .i64 0) = w9 at *
        refine bodyPost_ret (v := .tuple #[.agg #[.int .i64 0, .int .u32 0, .int .i64 0, .int .i64 0, .int .i64 0], .int .i64 5]) ?_ rfl ?_
        · rw [results_cell_tmp rfl]; go_simp
        exact ⟨by rw [HR.out]; rfl, EG.out⟩
      · have hgt' : (n : Int) ≤ 5 := by omega
        have HR : Hid (res = (⟨2, Vi, 0, 0, 0⟩, 0)) := by rw [if_neg hgt] at hres; exact hres
        clear hres hgt hn
        go_enter Tryd.func19, Tryd.ntmps19
        go_wp2_with fail
        generalize (w.alloc (.cells #[.int .i64 0, .int .u32 0, .int .i64 0, .int .i64 0, .int .i64 0] 25)) = w1 at *
        refine (qz w1).mono ?_
        rintro e wx ⟨rfl, hw⟩
        obtain rfl := hw.symm
        clear hw qz
        have P0 := hide (GrS.begin G0.out ⟨2, 0, 0, 0, 0⟩)
        go_wp2_with fail
        unfold rcC at P0
        dsimp only at P0
        generalize w1.alloc (.cells #[.int .i64 2, .int .u32 0, .int .i64 0, .int .i64 0, .int .i64 0] 25) = m0 at *
        generalize w1.heap.size = Y at *
        refine (qi m0 P0.out.world).mono ?_
        rintro e wx ⟨rfl, hw⟩
        obtain rfl := hw.symm
        clear hw qi
        have P1 := hide (P0.out.set (r' := ⟨2, Vi, 0, 0, 0⟩) 1 (.int .u32 Vi) rfl)
        obtain ⟨x0, x1, x2, x3, x4⟩ := box5 P0.out.rc
        have z1 := free_row P0.out.rc 1
        obtain ⟨y0, y1, y2, y3, y4⟩ := box5 P1.out.rc
        go_wp2_with fail
        clear x0 x1 x2 x3 x4 z1 y0 y1 y2 y3 y4
        generalize m0.setCell ⟨Y, 1, none⟩ (.int .u32 Vi) = m1 at *
        clear P0
        refine (qm m1).mono ?_
        rintro e wf ⟨rfl, hg⟩
        have PF := hide (P1.out.grown hg)
        obtain ⟨x0, x1, x2, x3, x4⟩ := box5 PF.out.rc
        clear hg qm P1
        obtain ⟨u0, u1, u2, u3, u4⟩ := box5 PF.out.g.ans
        have s0 := free_row PF.out.g.ans 0
        have s1 := free_row PF.out.g.ans 1
        have s2 := free_row PF.out.g.ans 2
        have s3 := free_row PF.out.g.ans 3
        have s4 := free_row PF.out.g.ans 4
        go_wp2
        obtain ⟨eb, eg⟩ := set5 PF.out.g.ans (.int .i64 2) (.int .u32 Vi) (.int .i64 0) (.int .i64 0) (.int .i64 0)
        clear u0 u1 u2 u3 u4 s0 s1 s2 s3 s4
        obtain ⟨e0, e1, e2, e3, e4⟩ := box5 eb
        have EG := hide (grown_then PF.out.g.gr eg (fun j e => by cases e; exact Or.inl (Nat.le_refl _)))
        clear eb eg
        generalize ((((wf.setCell ⟨w.heap.size, 0, none⟩ (.int .i64 2)).setCell ⟨w.heap.size, 1, none⟩ (.int .u32 Vi)).setCell ⟨w.heap.size, 2, none⟩ (.int .i64 0)).setCell ⟨w.heap.size, 3, none⟩ (.int .i64 0)).setCell ⟨w.heap.size, 4, none⟩ (.int .i64 0) = w9 at *
        refine bodyPost_ret (v := .tuple #[.agg #[.int .i64 2, .int .u32 Vi, .int .i64 0, .int .i64 0, .int .i64 0], .int .i64 0]) ?_ rfl ?_
        · rw [results_cell_tmp rfl]; go_simp
        exact ⟨by rw [HR.out]; rfl, EG.out⟩
    · rw [decide_eq_false hmay] at qm
      rw [if_neg hmay] at hres
      have HR : Hid (res = (zRc, 160)) := hres
      clear hmay hres hn
      go_enter Tryd.func19, Tryd.ntmps19
      go_wp2_with fail
      generalize (w.alloc (.cells #[.int .i64 0, .int .u32 0, .int .i64 0, .int .i64 0, .int .i64 0] 25)) = w1 at *
      refine (qz w1).mono ?_
      rintro e wx ⟨rfl, hw⟩
      obtain rfl := hw.symm
      clear hw qz
      have P0 := hide (GrS.begin G0.out ⟨2, 0, 0, 0, 0⟩)
      go_wp2_with fail
      unfold rcC at P0
      dsimp only at P0
      generalize w1.alloc (.cells #[.int .i64 2, .int .u32 0, .int .i64 0, .int .i64 0, .int .i64 0] 25) = m0 at *
      generalize w1.heap.size = Y at *
      refine (qi m0 P0.out.world).mono ?_
      rintro e wx ⟨rfl, hw⟩
      obtain rfl := hw.symm
      clear hw qi
      have P1 := hide (P0.out.set (r' := ⟨2, Vi, 0, 0, 0⟩) 1 (.int .u32 Vi) rfl)
      obtain ⟨x0, x1, x2, x3, x4⟩ := box5 P0.out.rc
      have z1 := free_row P0.out.rc 1
      obtain ⟨y0, y1, y2, y3, y4⟩ := box5 P1.out.rc
      go_wp2_with fail
      clear x0 x1 x2 x3 x4 z1 y0 y1 y2 y3 y4
      generalize m0.setCell ⟨Y, 1, none⟩ (.int .u32 Vi) = m1 at *
      clear P0
      refine (qm m1).mono ?_
      rintro e wf ⟨rfl, hg⟩
      have PF := hide (P1.out.grown hg)
      obtain ⟨x0, x1, x2, x3, x4⟩ := box5 PF.out.rc
      clear hg qm P1
      obtain ⟨u0, u1, u2, u3, u4⟩ := box5 PF.out.g.ans
      have s0 := free_row PF.out.g.ans 0
      have s1 := free_row PF.out.g.ans 1
      have s2 := free_row PF.out.g.ans 2
      have s3 := free_row PF.out.g.ans 3
      have s4 := free_row PF.out.g.ans 4
      go_wp2
      obtain ⟨eb, eg⟩ := set5 PF.out.g.ans (.int .i64 0) (.int .u32 0) (.int .i64 0) (.int .i64 0) (.int .i64 0)
      clear u0 u1 u2 u3 u4 s0 s1 s2 s3 s4
      obtain ⟨e0, e1, e2, e3, e4⟩ := box5 eb
      have EG := hide (grown_then PF.out.g.gr eg (fun j e => by cases e; exact Or.inl (Nat.le_refl _)))
      clear eb eg
      generalize ((((wf.setCell ⟨w.heap.size, 0, none⟩ (.int .i64 0)).setCell ⟨w.heap.size, 1, none⟩ (.int .u32 0)).setCell ⟨w.heap.size, 2, none⟩ (.int .i64 0)).setCell ⟨w.heap.size, 3, none⟩ (.int .i64 0)).setCell ⟨w.heap.size, 4, none⟩ (.int .i64 0) = w9 at *
      refine bodyPost_ret (v := .tuple #[.agg #[.int .i64 0, .int .u32 0, .int .i64 0, .int .i64 0, .int .i64 0], .int .i64 160]) ?_ rfl ?_
      · rw [results_cell_tmp rfl]; go_simp
      exact ⟨by rw [HR.out]; rfl, EG.out⟩
set_option maxRecDepth 20000 in
set_option maxHeartbeats 8000000 in
theorem getref_3 (xs : List Int) (hB : Byt xs) (hk : xs.headD 0 = 3) (a : Addr) (n cap : Nat) (w : World) (hn : xs.length = n) (hat : At w (some a) xs) (hc : n ≤ cap) (h0 : n ≠ 0) :
    Calls Tryd.prog 19 #[.slice (some a) n cap] w fun r w' => r = .returned (.tuple #[rcV (getR xs).1, .int .i64 (getR xs).2]) ∧ w.grownBy w' none := by
  have hcell : w.cell? a = some (.int .u8 3) := by
    cases hxs : xs with
    | nil => rw [hxs] at hn; simp at hn; omega
    | cons x r =>
      rw [hxs] at hat hk
      obtain ⟨a', ha, hc⟩ := hat 0 x rfl
      cases ha
      rw [show a.add 0 = a by unfold Addr.add; cases a; simp] at hc
      rw [hc, ← hk]; rfl
  have G0 := hide (GtS.begin w)
  have hcell1 := G0.out.gr.cell hcell (by simp)
  have hz1 : ((n : Int) == 0) = false := by simpa using h0
  have hz2 : decide ((n : Int) = 0) = false := by simpa using h0
  have hpos : (0 : Int) < (n : Int) := by omega
  have qz : ∀ w, Calls Tryd.prog 16 #[.int .i64 3] w fun e w' => e = .returned (.int .i64 5) ∧ w' = w := fun w => size_ref 3 w
  obtain ⟨res, hres⟩ : ∃ res, res = getR xs := ⟨_, rfl⟩
  rw [← hres]
  unfold getR at hres
  rw [hk, if_neg (by omega), if_neg (show ¬ sz 3 = 0 by decide), show sz 3 = 5 from rfl, hn] at hres
  have HX := hide (And.intro hB (And.intro hn (And.intro hat hres)))
  clear hB hat hcell h0
  by_cases hlt : n < 5
  · have hlt' : (n : Int) < 5 := by omega
    have HR : Hid (res = (zRc, 4)) := by have := HX.out.2.2.2; rw [if_pos hlt] at this; exact this
    clear hres hlt hn
    go_enter Tryd.func19, Tryd.ntmps19
    go_wp2_with fail
    generalize (w.alloc (.cells #[.int .i64 0, .int .u32 0, .int .i64 0, .int .i64 0, .int .i64 0] 25)) = w1 at *
    refine (qz w1).mono ?_
    rintro e wx ⟨rfl, hw⟩
    obtain rfl := hw.symm
    clear hw qz
    obtain ⟨u0, u1, u2, u3, u4⟩ := box5 G0.out.ans
    have s0 := free_row G0.out.ans 0
    have s1 := free_row G0.out.ans 1
    have s2 := free_row G0.out.ans 2
    have s3 := free_row G0.out.ans 3
    have s4 := free_row G0.out.ans 4
    go_wp2
    obtain ⟨eb, eg⟩ := set5 G0.out.ans (.int .i64 0) (.int .u32 0) (.int .i64 0) (.int .i64 0) (.int .i64 0)
    clear u0 u1 u2 u3 u4 s0 s1 s2 s3 s4
    obtain ⟨e0, e1, e2, e3, e4⟩ := box5 eb
    have EG := hide (grown_then G0.out.gr eg (fun j e => by cases e; exact Or.inl (Nat.le_refl _)))
    clear eb eg
    generalize ((((w1.setCell ⟨w.heap.size, 0, none⟩ (.int .i64 0)).setCell ⟨w.heap.size, 1, none⟩ (.int .u32 0)).setCell ⟨w.heap.size, 2, none⟩ (.int .i64 0)).setCell ⟨w.heap.size, 3, none⟩ (.int .i64 0)).setCell ⟨w.heap.size, 4, none⟩ (.int .i64 0) = w9 at *
    refine bodyPost_ret (v := .tuple #[.agg #[.int .i64 0, .int .u32 0, .int .i64 0, .int .i64 0, .int .i64 0], .int .i64 4]) ?_ rfl ?_
    · rw [results_cell_tmp rfl]; go_simp
    exact ⟨by rw [HR.out]; rfl, EG.out⟩
  · have hlt' : (5 : Int) ≤ (n : Int) := by omega
    have hrc : rcOf xs = ⟨3, leV ((xs.drop 1).take 4), 0, 0, 0⟩ := by unfold rcOf; rw [hk]; rfl
    have HO := hide (rcOf_ok HX.out.1)
    rw [if_neg hlt] at hres
    rw [hrc] at hres HO
    have hcp : 5 ≤ cap := by omega
    have vi := val4 HX.out.1 1
    have li : ((xs.drop 1).take 4).length = 4 := by rw [List.length_take, List.length_drop, HX.out.2.1]; omega
    have Si : ∀ w, (Instr.slice 26 (.slice (some a) n cap) (some (.int .i64 1)) (some (.int .i64 5)) none).run Tryd.prog w = .ok (.slice (cutA (some a) 1 cap) 4 (cap - 1)) w := slice_lh (some a) n cap 1 5 (by decide) (by omega)
    have qi := fun w1 (h : w.grownBy w1 none) => value_any (cutA (some a) 1 cap) 4 (cap - 1) ((xs.drop 1).take 4) w1 li (((HX.out.2.2.1.kept h (fun _ _ e => by cases e)).cut 1 cap (by rw [HX.out.2.1]; omega)).take 4) ((HX.out.1.drop 1).take 4) (by decide)
    generalize leV ((xs.drop 1).take 4) = Vi at *
    generalize cutA (some a) 1 cap = Ai at *
    generalize cap - 1 = Ci at *
    have Wi : IntKind.u32.wrap Vi = Vi := by rw [IntKind.wrap_u32]; omega
    clear vi li
    have HLT := hide hlt
    clear hrc hlt hcp
    clear HX
    have qm := rmay_any ⟨3, Vi, 0, 0, 0⟩ HO.out
    unfold rcV at qm
    dsimp only at qm
    by_cases hmay : (Rc.mk 3 Vi 0 0 0).May
    · rw [decide_eq_true hmay] at qm
      rw [if_pos hmay] at hres
      clear hmay
      by_cases hgt : 5 < n
      · have hgt' : (5 : Int) < (n : Int) := by omega
        have HR : Hid (res = (zRc, 5)) := by rw [if_pos hgt] at hres; exact hres
        clear hres hgt hn
        go_enter Tryd.func19, Tryd.ntmps19
        go_wp2_with fail
        generalize (w.alloc (.cells #[.int .i64 0, .int .u32 0, .int .i64 0, .int .i64 0, .int .i64 0] 25)) = w1 at *
        refine (qz w1).mono ?_
        rintro e wx ⟨rfl, hw⟩
        obtain rfl := hw.symm
        clear hw qz
        have P0 := hide (GrS.begin G0.out ⟨3, 0, 0, 0, 0⟩)
        go_wp2_with fail
        unfold rcC at P0
        dsimp only at P0
        generalize w1.alloc (.cells #[.int .i64 3, .int .u32 0, .int .i64 0, .int .i64 0, .int .i64 0] 25) = m0 at *
        generalize w1.heap.size = Y at *
        refine (qi m0 P0.out.world).mono ?_
        rintro e wx ⟨rfl, hw⟩
        obtain rfl := hw.symm
        clear hw qi
        have P1 := hide (P0.out.set (r' := ⟨3, Vi, 0, 0, 0⟩) 1 (.int .u32 Vi) rfl)
        obtain ⟨x0, x1, x2, x3, x4⟩ := box5 P0.out.rc
        have z1 := free_row P0.out.rc 1
        obtain ⟨y0, y1, y2, y3, y4⟩ := box5 P1.out.rc
        go_wp2_with fail
        clear x0 x1 x2 x3 x4 z1 y0 y1 y2 y3 y4
        generalize m0.setCell ⟨Y, 1, none⟩ (.int .u32 Vi) = m1 at *
        clear P0
        refine (qm m1).mono ?_
        rintro e wf ⟨rfl, hg⟩
        have PF := hide (P1.out.grown hg)
        obtain ⟨x0, x1, x2, x3, x4⟩ := box5 PF.out.rc
        clear hg qm P1
        obtain ⟨u0, u1, u2, u3, u4⟩ := box5 PF.out.g.ans
        have s0 := free_row PF.out.g.ans 0
        have s1 := free_row PF.out.g.ans 1
        have s2 := free_row PF.out.g.ans 2
        have s3 := free_row PF.out.g.ans 3
        have s4 := free_row PF.out.g.ans 4
        go_wp2
        obtain ⟨eb, eg⟩ := set5 PF.out.g.ans (.int .i64 0) (.int .u32 0) (.int .i64 0) (.int .i64 0) (.int .i64 0)
        clear u0 u1 u2 u3 u4 s0 s1 s2 s3 s4
        obtain ⟨e0, e1, e2, e3, e4⟩ := box5 eb
        have EG := hide (grown_then PF.out.g.gr eg (fun j e => by cases e; exact Or.inl (Nat.le_refl _)))
        clear eb eg
        generalize ((((wf.setCell ⟨w.heap.size, 0, none⟩ (.int .i64 0)).setCell ⟨w.heap.size, 1, none⟩ (.int .u32 0)).setCell ⟨w.heap.size, 2, none⟩ (.int .i64 0)).setCell ⟨w.heap.size, 3, none⟩ (.int .i64 0)).setCell ⟨w.heap.size, 4, none⟩ (.int .i64 0) = w9 at *
        refine bodyPost_ret (v := .tuple #[.agg #[.int .i64 0, .int .u32 0, .int .i64 0, .int .i64 0, .int .i64 0], .int .i64 5]) ?_ rfl ?_
        · rw [results_cell_tmp rfl]; go_simp
        exact ⟨by rw [HR.out]; rfl, EG.out⟩
      · have hgt' : (n : Int) ≤ 5 := by omega
        have HR : Hid (res = (⟨3, Vi, 0, 0, 0⟩, 0)) := by rw [if_neg hgt] at hres; exact hres
        clear hres hgt hn
        go_enter Tryd.func19, Tryd.ntmps19
        go_wp2_with fail
        generalize (w.alloc (.cells #[.int .i64 0, .int .u32 0, .int .i64 0, .int .i64 0, .int .i64 0] 25)) = w1 at *
        refine (qz w1).mono ?_
        rintro e wx ⟨rfl, hw⟩
        obtain rfl := hw.symm
        clear hw qz
        have P0 := hide (GrS.begin G0.out ⟨3, 0, 0, 0, 0⟩)
        go_wp2_with fail
        unfold rcC at P0
        dsimp only at P0
        generalize w1.alloc (.cells #[.int .i64 3, .int .u32 0, .int .i64 0, .int .i64 0, .int .i64 0] 25) = m0 at *
        generalize w1.heap.size = Y at *
        refine (qi m0 P0.out.world).mono ?_
        rintro e wx ⟨rfl, hw⟩
        obtain rfl := hw.symm
        clear hw qi
        have P1 := hide (P0.out.set (r' := ⟨3, Vi, 0, 0, 0⟩) 1 (.int .u32 Vi) rfl)
        obtain ⟨x0, x1, x2, x3, x4⟩ := box5 P0.out.rc
        have z1 := free_row P0.out.rc 1
        obtain ⟨y0, y1, y2, y3, y4⟩ := box5 P1.out.rc
        go_wp2_with fail
        clear x0 x1 x2 x3 x4 z1 y0 y1 y2 y3 y4
        generalize m0.setCell ⟨Y, 1, none⟩ (.int .u32 Vi) = m1 at *
        clear P0
        refine (qm m1).mono ?_
        rintro e wf ⟨rfl, hg⟩
        have PF := hide (P1.out.grown hg)
        obtain ⟨x0, x1, x2, x3, x4⟩ := box5 PF.out.rc
        clear hg qm P1
        obtain ⟨u0, u1, u2, u3, u4⟩ := box5 PF.out.g.ans
        have s0 := free_row PF.out.g.ans 0
        have s1 := free_row PF.out.g.ans 1
        have s2 := free_row PF.out.g.ans 2
        have s3 := free_row PF.out.g.ans 3
        have s4 := free_row PF.out.g.ans 4
        go_wp2
        obtain ⟨eb, eg⟩ := set5 PF.out.g.ans (.int .i64 3) (.int .u32 Vi) (.int .i64 0) (.int .i64 0) (.int .i64 0)
        clear u0 u1 u2 u3 u4 s0 s1 s2 s3 s4
        obtain ⟨e0, e1, e2, e3, e4⟩ := box5 eb
        have EG := hide (grown_then PF.out.g.gr eg (fun j e => by cases e; exact Or.inl (Nat.le_refl _)))
        clear eb eg
        generalize ((((wf.setCell ⟨w.heap.size, 0, none⟩ (.int .i64 3)).setCell ⟨w.heap.size, 1, none⟩ (.int .u32 Vi)).setCell ⟨w.heap.size, 2, none⟩ (.int .i64 0)).setCell ⟨w.heap.size, 3, none⟩ (.int .i64 0)).setCell ⟨w.heap.size, 4, none⟩ (.int .i64 0) = w9 at *
        refine bodyPost_ret (v := .tuple #[.agg #[.int .i64 3, .int .u32 Vi, .int .i64 0, .int .i64 0, .int .i64 0], .int .i64 0]) ?_ rfl ?_
        · rw [results_cell_tmp rfl]; go_simp
        exact ⟨by rw [HR.out]; rfl, EG.out⟩
    · rw [decide_eq_false hmay] at qm
      rw [if_neg hmay] at hres
      have HR : Hid (res = (zRc, 160)) := hres
      clear hmay hres hn
      go_enter Tryd.func19, Tryd.ntmps19
      go_wp2_with fail
      generalize (w.alloc (.cells #[.int .i64 0, .int .u32 0, .int .i64 0, .int .i64 0, .int .i64 0] 25)) = w1 at *
      refine (qz w1).mono ?_
      rintro e wx ⟨rfl, hw⟩
      obtain rfl := hw.symm
      clear hw qz
      have P0 := hide (GrS.begin G0.out ⟨3, 0, 0, 0, 0⟩)
      go_wp2_with fail
      unfold rcC at P0
      dsimp only at P0
      generalize w1.alloc (.cells #[.int .i64 3, .int .u32 0, .int .i64 0, .int .i64 0, .int .i64 0] 25) = m0 at *
      generalize w1.heap.size = Y at *
      refine (qi m0 P0.out.world).mono ?_
      rintro e wx ⟨rfl, hw⟩
      obtain rfl := hw.symm
      clear hw qi
      have P1 := hide (P0.out.set (r' := ⟨3, Vi, 0, 0, 0⟩) 1 (.int .u32 Vi) rfl)
      obtain ⟨x0, x1, x2, x3, x4⟩ := box5 P0.out.rc
      have z1 := free_row P0.out.rc 1
      obtain ⟨y0, y1, y2, y3, y4⟩ := box5 P1.out.rc
      go_wp2_with fail
      clear x0 x1 x2 x3 x4 z1 y0 y1 y2 y3 y4
      generalize m0.setCell ⟨Y, 1, none⟩ (.int .u32 Vi) = m1 at *
      clear P0
      refine (qm m1).mono ?_
      rintro e wf ⟨rfl, hg⟩
      have PF := hide (P1.out.grown hg)
      obtain ⟨x0, x1, x2, x3, x4⟩ := box5 PF.out.rc
      clear hg qm P1
      obtain ⟨u0, u1, u2, u3, u4⟩ := box5 PF.out.g.ans
      have s0 := free_row PF.out.g.ans 0
      have s1 := free_row PF.out.g.ans 1
      have s2 := free_row PF.out.g.ans 2
      have s3 := free_row PF.out.g.ans 3
      have s4 := free_row PF.out.g.ans 4
      go_wp2
      obtain ⟨eb, eg⟩ := set5 PF.out.g.ans (.int .i64 0) (.int .u32 0) (.int .i64 0) (.int .i64 0) (.int .i64 0)
      clear u0 u1 u2 u3 u4 s0 s1 s2 s3 s4
      obtain ⟨e0, e1, e2, e3, e4⟩ := box5 eb
      have EG := hide (grown_then PF.out.g.gr eg (fun j e => by cases e; exact Or.inl (Nat.le_refl _)))
      clear eb eg
      generalize ((((wf.setCell ⟨w.heap.size, 0, none⟩ (.int .i64 0)).setCell ⟨w.heap.size, 1, none⟩ (.int .u32 0)).setCell ⟨w.heap.size, 2, none⟩ (.int .i64 0)).setCell ⟨w.heap.size, 3, none⟩ (.int .i64 0)).setCell ⟨w.heap.size, 4, none⟩ (.int .i64 0) = w9 at *
      refine bodyPost_ret (v := .tuple #[.agg #[.int .i64 0, .int .u32 0, .int .i64 0, .int .i64 0, .int .i64 0], .int .i64 160]) ?_ rfl ?_
      · rw [results_cell_tmp rfl]; go_simp
      exact ⟨by rw [HR.out]; rfl, EG.out⟩
set_option maxRecDepth 20000 in
set_option maxHeartbeats 8000000 in
theorem getref_4 (xs : List Int) (hB : Byt xs) (hk : xs.headD 0 = 4) (a : Addr) (n cap : Nat) (w : World) (hn : xs.length = n) (hat : At w (some a) xs) (hc : n ≤ cap) (h0 : n ≠ 0) :
    Calls Tryd.prog 19 #[.slice (some a) n cap] w fun r w' => r = .returned (.tuple #[rcV (getR xs).1, .int .i64 (getR xs).2]) ∧ w.grownBy w' none := by
  have hcell : w.cell? a = some (.int .u8 4) := by
    cases hxs : xs with
    | nil => rw [hxs] at hn; simp at hn; omega
    | cons x r =>
      rw [hxs] at hat hk
      obtain ⟨a', ha, hc⟩ := hat 0 x rfl
      cases ha
      rw [show a.add 0 = a by unfold Addr.add; cases a; simp] at hc
      rw [hc, ← hk]; rfl
  have G0 := hide (GtS.begin w)
  have hcell1 := G0.out.gr.cell hcell (by simp)
  have hz1 : ((n : Int) == 0) = false := by simpa using h0
  have hz2 : decide ((n : Int) = 0) = false := by simpa using h0
  have hpos : (0 : Int) < (n : Int) := by omega
  have qz : ∀ w, Calls Tryd.prog 16 #[.int .i64 4] w fun e w' => e = .returned (.int .i64 7) ∧ w' = w := fun w => size_ref 4 w
  obtain ⟨res, hres⟩ : ∃ res, res = getR xs := ⟨_, rfl⟩
  rw [← hres]
  unfold getR at hres
  rw [hk, if_neg (by omega), if_neg (show ¬ sz 4 = 0 by decide), show sz 4 = 7 from rfl, hn] at hres
  have HX := hide (And.intro hB (And.intro hn (And.intro hat hres)))
  clear hB hat hcell h0
  by_cases hlt : n < 7
  · have hlt' : (n : Int) < 7 := by omega
    have HR : Hid (res = (zRc, 4)) := by have := HX.out.2.2.2; rw [if_pos hlt] at this; exact this
    clear hres hlt hn
    go_enter Tryd.func19, Tryd.ntmps19
    go_wp2_with fail
    generalize (w.alloc (.cells #[.int .i64 0, .int .u32 0, .int .i64 0, .int .i64 0, .int .i64 0] 25)) = w1 at *
    refine (qz w1).mono ?_
    rintro e wx ⟨rfl, hw⟩
    obtain rfl := hw.symm
    clear hw qz
    obtain ⟨u0, u1, u2, u3, u4⟩ := box5 G0.out.ans
    have s0 := free_row G0.out.ans 0
    have s1 := free_row G0.out.ans 1
    have s2 := free_row G0.out.ans 2
    have s3 := free_row G0.out.ans 3
    have s4 := free_row G0.out.ans 4
    go_wp2
    obtain ⟨eb, eg⟩ := set5 G0.out.ans (.int .i64 0) (.int .u32 0) (.int .i64 0) (.int .i64 0) (.int .i64 0)
    clear u0 u1 u2 u3 u4 s0 s1 s2 s3 s4
    obtain ⟨e0, e1, e2, e3, e4⟩ := box5 eb
    have EG := hide (grown_then G0.out.gr eg (fun j e => by cases e; exact Or.inl (Nat.le_refl _)))
    clear eb eg
    generalize ((((w1.setCell ⟨w.heap.size, 0, none⟩ (.int .i64 0)).setCell ⟨w.heap.size, 1, none⟩ (.int .u32 0)).setCell ⟨w.heap.size, 2, none⟩ (.int .i64 0)).setCell ⟨w.heap.size, 3, none⟩ (.int .i64 0)).setCell ⟨w.heap.size, 4, none⟩ (.int .i64 0) = w9 at *
    refine bodyPost_ret (v := .tuple #[.agg #[.int .i64 0, .int .u32 0, .int .i64 0, .int .i64 0, .int .i64 0], .int .i64 4]) ?_ rfl ?_
    · rw [results_cell_tmp rfl]; go_simp
    exact ⟨by rw [HR.out]; rfl, EG.out⟩
  · have hlt' : (7 : Int) ≤ (n : Int) := by omega
    have hrc : rcOf xs = ⟨4, leV ((xs.drop 1).take 4), leV ((xs.drop 5).take 2), 0, 0⟩ := by unfold rcOf; rw [hk]; rfl
    have HO := hide (rcOf_ok HX.out.1)
    rw [if_neg hlt] at hres
    rw [hrc] at hres HO
    have hcp : 7 ≤ cap := by omega
    have vi := val4 HX.out.1 1
    have li : ((xs.drop 1).take 4).length = 4 := by rw [List.length_take, List.length_drop, HX.out.2.1]; omega
    have Si : ∀ w, (Instr.slice 26 (.slice (some a) n cap) (some (.int .i64 1)) (some (.int .i64 5)) none).run Tryd.prog w = .ok (.slice (cutA (some a) 1 cap) 4 (cap - 1)) w := slice_lh (some a) n cap 1 5 (by decide) (by omega)
    have qi := fun w1 (h : w.grownBy w1 none) => value_any (cutA (some a) 1 cap) 4 (cap - 1) ((xs.drop 1).take 4) w1 li (((HX.out.2.2.1.kept h (fun _ _ e => by cases e)).cut 1 cap (by rw [HX.out.2.1]; omega)).take 4) ((HX.out.1.drop 1).take 4) (by decide)
    generalize leV ((xs.drop 1).take 4) = Vi at *
    generalize cutA (some a) 1 cap = Ai at *
    generalize cap - 1 = Ci at *
    have Wi : IntKind.u32.wrap Vi = Vi := by rw [IntKind.wrap_u32]; omega
    clear vi li
    have vs := val2 HX.out.1 5
    have ls : ((xs.drop 5).take 2).length = 2 := by rw [List.length_take, List.length_drop, HX.out.2.1]; omega
    have Ss : ∀ w, (Instr.slice 26 (.slice (some a) n cap) (some (.int .i64 5)) (some (.int .i64 7)) none).run Tryd.prog w = .ok (.slice (cutA (some a) 5 cap) 2 (cap - 5)) w := slice_lh (some a) n cap 5 7 (by decide) (by omega)
    have qs := fun w1 (h : w.grownBy w1 none) => value_any (cutA (some a) 5 cap) 2 (cap - 5) ((xs.drop 5).take 2) w1 ls (((HX.out.2.2.1.kept h (fun _ _ e => by cases e)).cut 5 cap (by rw [HX.out.2.1]; omega)).take 2) ((HX.out.1.drop 5).take 2) (by decide)
    generalize leV ((xs.drop 5).take 2) = Vs at *
    generalize cutA (some a) 5 cap = As at *
    generalize cap - 5 = Cs at *
    have Ws : IntKind.i64.wrap Vs = Vs := by rw [IntKind.wrap_i64]; omega
    clear vs ls
    have HLT := hide hlt
    clear hrc hlt hcp
    clear HX
    have qm := rmay_any ⟨4, Vi, Vs, 0, 0⟩ HO.out
    unfold rcV at qm
    dsimp only at qm
    by_cases hmay : (Rc.mk 4 Vi Vs 0 0).May
    · rw [decide_eq_true hmay] at qm
      rw [if_pos hmay] at hres
      clear hmay
      by_cases hgt : 7 < n
      · have hgt' : (7 : Int) < (n : Int) := by omega
        have HR : Hid (res = (zRc, 5)) := by rw [if_pos hgt] at hres; exact hres
        clear hres hgt hn
        go_enter Tryd.func19, Tryd.ntmps19
        go_wp2_with fail
        generalize (w.alloc (.cells #[.int .i64 0, .int .u32 0, .int .i64 0, .int .i64 0, .int .i64 0] 25)) = w1 at *
        refine (qz w1).mono ?_
        rintro e wx ⟨rfl, hw⟩
        obtain rfl := hw.symm
        clear hw qz
        have P0 := hide (GrS.begin G0.out ⟨4, 0, 0, 0, 0⟩)
        go_wp2_with fail
        unfold rcC at P0
        dsimp only at P0
        generalize w1.alloc (.cells #[.int .i64 4, .int .u32 0, .int .i64 0, .int .i64 0, .int .i64 0] 25) = m0 at *
        generalize w1.heap.size = Y at *
        refine (qi m0 P0.out.world).mono ?_
        rintro e wx ⟨rfl, hw⟩
        obtain rfl := hw.symm
        clear hw qi
        have P1 := hide (P0.out.set (r' := ⟨4, Vi, 0, 0, 0⟩) 1 (.int .u32 Vi) rfl)
        obtain ⟨x0, x1, x2, x3, x4⟩ := box5 P0.out.rc
        have z1 := free_row P0.out.rc 1
        obtain ⟨y0, y1, y2, y3, y4⟩ := box5 P1.out.rc
        go_wp2_with fail
        clear x0 x1 x2 x3 x4 z1 y0 y1 y2 y3 y4
        generalize m0.setCell ⟨Y, 1, none⟩ (.int .u32 Vi) = m1 at *
        clear P0
        refine (qs m1 P1.out.world).mono ?_
        rintro e wx ⟨rfl, hw⟩
        obtain rfl := hw.symm
        clear hw qs
        have P2 := hide (P1.out.set (r' := ⟨4, Vi, Vs, 0, 0⟩) 2 (.int .i64 Vs) rfl)
        obtain ⟨x0, x1, x2, x3, x4⟩ := box5 P1.out.rc
        have z2 := free_row P1.out.rc 2
        obtain ⟨y0, y1, y2, y3, y4⟩ := box5 P2.out.rc
        go_wp2_with fail
        clear x0 x1 x2 x3 x4 z2 y0 y1 y2 y3 y4
        generalize m1.setCell ⟨Y, 2, none⟩ (.int .i64 Vs) = m2 at *
        clear P1
        refine (qm m2).mono ?_
        rintro e wf ⟨rfl, hg⟩
        have PF := hide (P2.out.grown hg)
        obtain ⟨x0, x1, x2, x3, x4⟩ := box5 PF.out.rc
        clear hg qm P2
        obtain ⟨u0, u1, u2, u3, u4⟩ := box5 PF.out.g.ans
        have s0 := free_row PF.out.g.ans 0
        have s1 := free_row PF.out.g.ans 1
        have s2 := free_row PF.out.g.ans 2
        have s3 := free_row PF.out.g.ans 3
        have s4 := free_row PF.out.g.ans 4
        go_wp2
        obtain ⟨eb, eg⟩ := set5 PF.out.g.ans (.int .i64 0) (.int .u32 0) (.int .i64 0) (.int .i64 0) (.int .i64 0)
        clear u0 u1 u2 u3 u4 s0 s1 s2 s3 s4
        obtain ⟨e0, e1, e2, e3, e4⟩ := box5 eb
        have EG := hide (grown_then PF.out.g.gr eg (fun j e => by cases e; exact Or.inl (Nat.le_refl _)))
        clear eb eg
        generalize ((((wf.setCell ⟨w.heap.size, 0, none⟩ (.int .i64 0)).setCell ⟨w.heap.size, 1, none⟩ (.int .u32 0)).setCell ⟨w.heap.size, 2, none⟩ (.int .i64 0)).setCell ⟨w.heap.size, 3, none⟩ (.int .i64 0)).setCell ⟨w.heap.size, 4, none⟩ (.int .i64 0) = w9 at *
        refine bodyPost_ret (v := .tuple #[.agg #[.int .i64 0, .int .u32 0, .int .i64 0, .int .i64 0, .int .i64 0], .int .i64 5]) ?_ rfl ?_
        · rw [results_cell_tmp rfl]; go_simp
        exact ⟨by rw [HR.out]; rfl, EG.out⟩
      · have hgt' : (n : Int) ≤ 7 := by omega
        have HR : Hid (res = (⟨4, Vi, Vs, 0, 0⟩, 0)) := by rw [if_neg hgt] at hres; exact hres
        clear hres hgt hn
        go_enter Tryd.func19, Tryd.ntmps19
        go_wp2_with fail
        generalize (w.alloc (.cells #[.int .i64 0, .int .u32 0, .int .i64 0, .int .i64 0, .int .i64 0] 25)) = w1 at *
        refine (qz w1).mono ?_
        rintro e wx ⟨rfl, hw⟩
        obtain rfl := hw.symm
        clear hw qz
        have P0 := hide (GrS.begin G0.out ⟨4, 0, 0, 0, 0⟩)
        go_wp2_with fail
        unfold rcC at P0
        dsimp only at P0
        generalize w1.alloc (.cells #[.int .i64 4, .int .u32 0, .int .i64 0, .int .i64 0, .int .i64 0] 25) = m0 at *
        generalize w1.heap.size = Y at *
        refine (qi m0 P0.out.world).mono ?_
        rintro e wx ⟨rfl, hw⟩
        obtain rfl := hw.symm
        clear hw qi
        have P1 := hide (P0.out.set (r' := ⟨4, Vi, 0, 0, 0⟩) 1 (.int .u32 Vi) rfl)
        obtain ⟨x0, x1, x2, x3, x4⟩ := box5 P0.out.rc
        have z1 := free_row P0.out.rc 1
        obtain ⟨y0, y1, y2, y3, y4⟩ := box5 P1.out.rc
        go_wp2_with fail
        clear x0 x1 x2 x3 x4 z1 y0 y1 y2 y3 y4
        generalize m0.setCell ⟨Y, 1, none⟩ (.int .u32 Vi) = m1 at *
        clear P0
        refine (qs m1 P1.out.world).mono ?_
        rintro e wx ⟨rfl, hw⟩
        obtain rfl := hw.symm
        clear hw qs
        have P2 := hide (P1.out.set (r' := ⟨4, Vi, Vs, 0, 0⟩) 2 (.int .i64 Vs) rfl)
        obtain ⟨x0, x1, x2, x3, x4⟩ := box5 P1.out.rc
        have z2 := free_row P1.out.rc 2
        obtain ⟨y0, y1, y2, y3, y4⟩ := box5 P2.out.rc
        go_wp2_with fail
        clear x0 x1 x2 x3 x4 z2 y0 y1 y2 y3 y4
        generalize m1.setCell ⟨Y, 2, none⟩ (.int .i64 Vs) = m2 at *
        clear P1
        refine (qm m2).mono ?_
        rintro e wf ⟨rfl, hg⟩
        have PF := hide (P2.out.grown hg)
        obtain ⟨x0, x1, x2, x3, x4⟩ := box5 PF.out.rc
        clear hg qm P2
        obtain ⟨u0, u1, u2, u3, u4⟩ := box5 PF.out.g.ans
        have s0 := free_row PF.out.g.ans 0
        have s1 := free_row PF.out.g.ans 1
        have s2 := free_row PF.out.g.ans 2
        have s3 := free_row PF.out.g.ans 3
        have s4 := free_row PF.out.g.ans 4
        go_wp2
        obtain ⟨eb, eg⟩ := set5 PF.out.g.ans (.int .i64 4) (.int .u32 Vi) (.int .i64 Vs) (.int .i64 0) (.int .i64 0)
        clear u0 u1 u2 u3 u4 s0 s1 s2 s3 s4
        obtain ⟨e0, e1, e2, e3, e4⟩ := box5 eb
        have EG := hide (grown_then PF.out.g.gr eg (fun j e => by cases e; exact Or.inl (Nat.le_refl _)))
        clear eb eg
        generalize ((((wf.setCell ⟨w.heap.size, 0, none⟩ (.int .i64 4)).setCell ⟨w.heap.size, 1, none⟩ (.int .u32 Vi)).setCell ⟨w.heap.size, 2, none⟩ (.int .i64 Vs)).setCell ⟨w.heap.size, 3, none⟩ (.int .i64 0)).setCell ⟨w.heap.size, 4, none⟩ (.int .i64 0) = w9 at *
        refine bodyPost_ret (v := .tuple #[.agg #[.int .i64 4, .int .u32 Vi, .int .i64 Vs, .int .i64 0, .int .i64 0], .int .i64 0]) ?_ rfl ?_
        · rw [results_cell_tmp rfl]; go_simp
        exact ⟨by rw [HR.out]; rfl, EG.out⟩
    · rw [decide_eq_false hmay] at qm
      rw [if_neg hmay] at hres
      have HR : Hid (res = (zRc, 160)) := hres
      clear hmay hres hn
      go_enter Tryd.func19, Tryd.ntmps19
      go_wp2_with fail
      generalize (w.alloc (.cells #[.int .i64 0, .int .u32 0, .int .i64 0, .int .i64 0, .int .i64 0] 25)) = w1 at *
      refine (qz w1).mono ?_
      rintro e wx ⟨rfl, hw⟩
      obtain rfl := hw.symm
      clear hw qz
      have P0 := hide (GrS.begin G0.out ⟨4, 0, 0, 0, 0⟩)
      go_wp2_with fail
      unfold rcC at P0
      dsimp only at P0
      generalize w1.alloc (.cells #[.int .i64 4, .int .u32 0, .int .i64 0, .int .i64 0, .int .i64 0] 25) = m0 at *
      generalize w1.heap.size = Y at *
      refine (qi m0 P0.out.world).mono ?_
      rintro e wx ⟨rfl, hw⟩
      obtain rfl := hw.symm
      clear hw qi
      have P1 := hide (P0.out.set (r' := ⟨4, Vi, 0, 0, 0⟩) 1 (.int .u32 Vi) rfl)
      obtain ⟨x0, x1, x2, x3, x4⟩ := box5 P0.out.rc
      have z1 := free_row P0.out.rc 1
      obtain ⟨y0, y1, y2, y3, y4⟩ := box5 P1.out.rc
      go_wp2_with fail
      clear x0 x1 x2 x3 x4 z1 y0 y1 y2 y3 y4
      generalize m0.setCell ⟨Y, 1, none⟩ (.int .u32 Vi) = m1 at *
      clear P0
      refine (qs m1 P1.out.world).mono ?_
      rintro e wx ⟨rfl, hw⟩
      obtain rfl := hw.symm
      clear hw qs
      have P2 := hide (P1.out.set (r' := ⟨4, Vi, Vs, 0, 0⟩) 2 (.int .i64 Vs) rfl)
      obtain ⟨x0, x1, x2, x3, x4⟩ := box5 P1.out.rc
      have z2 := free_row P1.out.rc 2
      obtain ⟨y0, y1, y2, y3, y4⟩ := box5 P2.out.rc
      go_wp2_with fail
      clear x0 x1 x2 x3 x4 z2 y0 y1 y2 y3 y4
      generalize m1.setCell ⟨Y, 2, none⟩ (.int .i64 Vs) = m2 at *
      clear P1
      refine (qm m2).mono ?_
      rintro e wf ⟨rfl, hg⟩
      have PF := hide (P2.out.grown hg)
      obtain ⟨x0, x1, x2, x3, x4⟩ := box5 PF.out.rc
      clear hg qm P2
      obtain ⟨u0, u1, u2, u3, u4⟩ := box5 PF.out.g.ans
      have s0 := free_row PF.out.g.ans 0
      have s1 := free_row PF.out.g.ans 1
      have s2 := free_row PF.out.g.ans 2
      have s3 := free_row PF.out.g.ans 3
      have s4 := free_row PF.out.g.ans 4
      go_wp2
      obtain ⟨eb, eg⟩ := set5 PF.out.g.ans (.int .i64 0) (.int .u32 0) (.int .i64 0) (.int .i64 0) (.int .i64 0)
      clear u0 u1 u2 u3 u4 s0 s1 s2 s3 s4
      obtain ⟨e0, e1, e2, e3, e4⟩ := box5 eb
      have EG := hide (grown_then PF.out.g.gr eg (fun j e => by cases e; exact Or.inl (Nat.le_refl _)))
      clear eb eg
      generalize ((((wf.setCell ⟨w.heap.size, 0, none⟩ (.int .i64 0)).setCell ⟨w.heap.size, 1, none⟩ (.int .u32 0)).setCell ⟨w.heap.size, 2, none⟩ (.int .i64 0)).setCell ⟨w.heap.size, 3, none⟩ (.int .i64 0)).setCell ⟨w.heap.size, 4, none⟩ (.int .i64 0) = w9 at *
      refine bodyPost_ret (v := .tuple #[.agg #[.int .i64 0, .int .u32 0, .int .i64 0, .int .i64 0, .int .i64 0], .int .i64 160]) ?_ rfl ?_
      · rw [results_cell_tmp rfl]; go_simp
      exact ⟨by rw [HR.out]; rfl, EG.out⟩
set_option maxRecDepth 20000 in
set_option maxHeartbeats 8000000 in
theorem getref_5 (xs : List Int) (hB : Byt xs) (hk : xs.headD 0 = 5) (a : Addr) (n cap : Nat) (w : World) (hn : xs.length = n) (hat : At w (some a) xs) (hc : n ≤ cap) (h0 : n ≠ 0) :
    Calls Tryd.prog 19 #[.slice (some a) n cap] w fun r w' => r = .returned (.tuple #[rcV (getR xs).1, .int .i64 (getR xs).2]) ∧ w.grownBy w' none := by
  have hcell : w.cell? a = some (.int .u8 5) := by
    cases hxs : xs with
    | nil => rw [hxs] at hn; simp at hn; omega
    | cons x r =>
      rw [hxs] at hat hk
      obtain ⟨a', ha, hc⟩ := hat 0 x rfl
      cases ha
      rw [show a.add 0 = a by unfold Addr.add; cases a; simp] at hc
      rw [hc, ← hk]; rfl
  have G0 := hide (GtS.begin w)
  have hcell1 := G0.out.gr.cell hcell (by simp)
  have hz1 : ((n : Int) == 0) = false := by simpa using h0
  have hz2 : decide ((n : Int) = 0) = false := by simpa using h0
  have hpos : (0 : Int) < (n : Int) := by omega
  have qz : ∀ w, Calls Tryd.prog 16 #[.int .i64 5] w fun e w' => e = .returned (.int .i64 9) ∧ w' = w := fun w => size_ref 5 w
  obtain ⟨res, hres⟩ : ∃ res, res = getR xs := ⟨_, rfl⟩
  rw [← hres]
  unfold getR at hres
  rw [hk, if_neg (by omega), if_neg (show ¬ sz 5 = 0 by decide), show sz 5 = 9 from rfl, hn] at hres
  have HX := hide (And.intro hB (And.intro hn (And.intro hat hres)))
  clear hB hat hcell h0
  by_cases hlt : n < 9
  · have hlt' : (n : Int) < 9 := by omega
    have HR : Hid (res = (zRc, 4)) := by have := HX.out.2.2.2; rw [if_pos hlt] at this; exact this
    clear hres hlt hn
    go_enter Tryd.func19, Tryd.ntmps19
    go_wp2_with fail
    generalize (w.alloc (.cells #[.int .i64 0, .int .u32 0, .int .i64 0, .int .i64 0, .int .i64 0] 25)) = w1 at *
    refine (qz w1).mono ?_
    rintro e wx ⟨rfl, hw⟩
    obtain rfl := hw.symm
    clear hw qz
    obtain ⟨u0, u1, u2, u3, u4⟩ := box5 G0.out.ans
    have s0 := free_row G0.out.ans 0
    have s1 := free_row G0.out.ans 1
    have s2 := free_row G0.out.ans 2
    have s3 := free_row G0.out.ans 3
    have s4 := free_row G0.out.ans 4
    go_wp2
    obtain ⟨eb, eg⟩ := set5 G0.out.ans (.int .i64 0) (.int .u32 0) (.int .i64 0) (.int .i64 0) (.int .i64 0)
    clear u0 u1 u2 u3 u4 s0 s1 s2 s3 s4
    obtain ⟨e0, e1, e2, e3, e4⟩ := box5 eb
    have EG := hide (grown_then G0.out.gr eg (fun j e => by cases e; exact Or.inl (Nat.le_refl _)))
    clear eb eg
    generalize ((((w1.setCell ⟨w.heap.size, 0, none⟩ (.int .i64 0)).setCell ⟨w.heap.size, 1, none⟩ (.int .u32 0)).setCell ⟨w.heap.size, 2, none⟩ (.int .i64 0)).setCell ⟨w.heap.size, 3, none⟩ (.int .i64 0)).setCell ⟨w.heap.size, 4, none⟩ (.int .i64 0) = w9 at *
    refine bodyPost_ret (v := .tuple #[.agg #[.int .i64 0, .int .u32 0, .int .i64 0, .int .i64 0, .int .i64 0], .int .i64 4]) ?_ rfl ?_
    · rw [results_cell_tmp rfl]; go_simp
    exact ⟨by rw [HR.out]; rfl, EG.out⟩
  · have hlt' : (9 : Int) ≤ (n : Int) := by omega
    have hrc : rcOf xs = ⟨5, 0, 0, 0, i64of (leV ((xs.drop 1).take 8))⟩ := by unfold rcOf; rw [hk]; rfl
    have HO := hide (rcOf_ok HX.out.1)
    rw [if_neg hlt] at hres
    rw [hrc] at hres HO
    have hcp : 9 ≤ cap := by omega
    have vc := val8 HX.out.1 1
    have lc : ((xs.drop 1).take 8).length = 8 := by rw [List.length_take, List.length_drop, HX.out.2.1]; omega
    have Sc : ∀ w, (Instr.slice 26 (.slice (some a) n cap) (some (.int .i64 1)) (some (.int .i64 9)) none).run Tryd.prog w = .ok (.slice (cutA (some a) 1 cap) 8 (cap - 1)) w := slice_lh (some a) n cap 1 9 (by decide) (by omega)
    have qc := fun w1 (h : w.grownBy w1 none) => value_any (cutA (some a) 1 cap) 8 (cap - 1) ((xs.drop 1).take 8) w1 lc (((HX.out.2.2.1.kept h (fun _ _ e => by cases e)).cut 1 cap (by rw [HX.out.2.1]; omega)).take 8) ((HX.out.1.drop 1).take 8) (by decide)
    generalize leV ((xs.drop 1).take 8) = Vc at *
    generalize cutA (some a) 1 cap = Ac at *
    generalize cap - 1 = Cc at *
    have Wc : IntKind.i64.wrap Vc = i64of Vc := i64_wrap vc.1 vc.2
    generalize i64of Vc = Uc at *
    clear vc lc
    have HLT := hide hlt
    clear hrc hlt hcp
    clear HX
    have qm := rmay_any ⟨5, 0, 0, 0, Uc⟩ HO.out
    unfold rcV at qm
    dsimp only at qm
    by_cases hmay : (Rc.mk 5 0 0 0 Uc).May
    · rw [decide_eq_true hmay] at qm
      rw [if_pos hmay] at hres
      clear hmay
      by_cases hgt : 9 < n
      · have hgt' : (9 : Int) < (n : Int) := by omega
        have HR : Hid (res = (zRc, 5)) := by rw [if_pos hgt] at hres; exact hres
        clear hres hgt hn
        go_enter Tryd.func19, Tryd.ntmps19
        go_wp2_with fail
        generalize (w.alloc (.cells #[.int .i64 0, .int .u32 0, .int .i64 0, .int .i64 0, .int .i64 0] 25)) = w1 at *
        refine (qz w1).mono ?_
        rintro e wx ⟨rfl, hw⟩
        obtain rfl := hw.symm
        clear hw qz
        have P0 := hide (GrS.begin G0.out ⟨5, 0, 0, 0, 0⟩)
        go_wp2_with fail
        unfold rcC at P0
        dsimp only at P0
        generalize w1.alloc (.cells #[.int .i64 5, .int .u32 0, .int .i64 0, .int .i64 0, .int .i64 0] 25) = m0 at *
        generalize w1.heap.size = Y at *
        refine (qc m0 P0.out.world).mono ?_
        rintro e wx ⟨rfl, hw⟩
        obtain rfl := hw.symm
        clear hw qc
        have P1 := hide (P0.out.set (r' := ⟨5, 0, 0, 0, Uc⟩) 4 (.int .i64 Uc) rfl)
        obtain ⟨x0, x1, x2, x3, x4⟩ := box5 P0.out.rc
        have z4 := free_row P0.out.rc 4
        obtain ⟨y0, y1, y2, y3, y4⟩ := box5 P1.out.rc
        go_wp2_with fail
        clear x0 x1 x2 x3 x4 z4 y0 y1 y2 y3 y4
        generalize m0.setCell ⟨Y, 4, none⟩ (.int .i64 Uc) = m1 at *
        clear P0
        refine (qm m1).mono ?_
        rintro e wf ⟨rfl, hg⟩
        have PF := hide (P1.out.grown hg)
        obtain ⟨x0, x1, x2, x3, x4⟩ := box5 PF.out.rc
        clear hg qm P1
        obtain ⟨u0, u1, u2, u3, u4⟩ := box5 PF.out.g.ans
        have s0 := free_row PF.out.g.ans 0
        have s1 := free_row PF.out.g.ans 1
        have s2 := free_row PF.out.g.ans 2
        have s3 := free_row PF.out.g.ans 3
        have s4 := free_row PF.out.g.ans 4
        go_wp2
        obtain ⟨eb, eg⟩ := set5 PF.out.g.ans (.int .i64 0) (.int .u32 0) (.int .i64 0) (.int .i64 0) (.int .i64 0)
        clear u0 u1 u2 u3 u4 s0 s1 s2 s3 s4
        obtain ⟨e0, e1, e2, e3, e4⟩ := box5 eb
        have EG := hide (grown_then PF.out.g.gr eg (fun j e => by cases e; exact Or.inl (Nat.le_refl _)))
        clear eb eg
        generalize ((((wf.setCell ⟨w.heap.size, 0, none⟩ (.int .i64 0)).setCell ⟨w.heap.size, 1, none⟩ (.int .u32 0)).setCell ⟨w.heap.size, 2, none⟩ (.int .i64 0)).setCell ⟨w.heap.size, 3, none⟩ (.int .i64 0)).setCell ⟨w.heap.size, 4, none⟩ (.int .i64 0) = w9 at *
        refine bodyPost_ret (v := .tuple #[.agg #[.int .i64 0, .int .u32 0, .int .i64 0, .int .i64 0, .int .i64 0], .int .i64 5]) ?_ rfl ?_
        · rw [results_cell_tmp rfl]; go_simp
        exact ⟨by rw [HR.out]; rfl, EG.out⟩
      · have hgt' : (n : Int) ≤ 9 := by omega
        have HR : Hid (res = (⟨5, 0, 0, 0, Uc⟩, 0)) := by rw [if_neg hgt] at hres; exact hres
        clear hres hgt hn
        go_enter Tryd.func19, Tryd.ntmps19
        go_wp2_with fail
        generalize (w.alloc (.cells #[.int .i64 0, .int .u32 0, .int .i64 0, .int .i64 0, .int .i64 0] 25)) = w1 at *
        refine (qz w1).mono ?_
        rintro e wx ⟨rfl, hw⟩
        obtain rfl := hw.symm
        clear hw qz
        have P0 := hide (GrS.begin G0.out ⟨5, 0, 0, 0, 0⟩)
        go_wp2_with fail
        unfold rcC at P0
        dsimp only at P0
        generalize w1.alloc (.cells #[.int .i64 5, .int .u32 0, .int .i64 0, .int .i64 0, .int .i64 0] 25) = m0 at *
        generalize w1.heap.size = Y at *
        refine (qc m0 P0.out.world).mono ?_
        rintro e wx ⟨rfl, hw⟩
        obtain rfl := hw.symm
        clear hw qc
        have P1 := hide (P0.out.set (r' := ⟨5, 0, 0, 0, Uc⟩) 4 (.int .i64 Uc) rfl)
        obtain ⟨x0, x1, x2, x3, x4⟩ := box5 P0.out.rc
        have z4 := free_row P0.out.rc 4
        obtain ⟨y0, y1, y2, y3, y4⟩ := box5 P1.out.rc
        go_wp2_with fail
        clear x0 x1 x2 x3 x4 z4 y0 y1 y2 y3 y4
        generalize m0.setCell ⟨Y, 4, none⟩ (.int .i64 Uc) = m1 at *
        clear P0
        refine (qm m1).mono ?_
        rintro e wf ⟨rfl, hg⟩
        have PF := hide (P1.out.grown hg)
        obtain ⟨x0, x1, x2, x3, x4⟩ := box5 PF.out.rc
        clear hg qm P1
        obtain ⟨u0, u1, u2, u3, u4⟩ := box5 PF.out.g.ans
        have s0 := free_row PF.out.g.ans 0
        have s1 := free_row PF.out.g.ans 1
        have s2 := free_row PF.out.g.ans 2
        have s3 := free_row PF.out.g.ans 3
        have s4 := free_row PF.out.g.ans 4
        go_wp2
        obtain ⟨eb, eg⟩ := set5 PF.out.g.ans (.int .i64 5) (.int .u32 0) (.int .i64 0) (.int .i64 0) (.int .i64 Uc)
        clear u0 u1 u2 u3 u4 s0 s1 s2 s3 s4
        obtain ⟨e0, e1, e2, e3, e4⟩ := box5 eb
        have EG := hide (grown_then PF.out.g.gr eg (fun j e => by cases e; exact Or.inl (Nat.le_refl _)))
        clear eb eg
        generalize ((((wf.setCell ⟨w.heap.size, 0, none⟩ (.int .i64 5)).setCell ⟨w.heap.size, 1, none⟩ (.int .u32 0)).setCell ⟨w.heap.size, 2, none⟩ (.int .i64 0)).setCell ⟨w.heap.size, 3, none⟩ (.int .i64 0)).setCell ⟨w.heap.size, 4, none⟩ (.int .i64 Uc) = w9 at *
        refine bodyPost_ret (v := .tuple #[.agg #[.int .i64 5, .int .u32 0, .int .i64 0, .int .i64 0, .int .i64 Uc], .int .i64 0]) ?_ rfl ?_
        · rw [results_cell_tmp rfl]; go_simp
        exact ⟨by rw [HR.out]; rfl, EG.out⟩
    · rw [decide_eq_false hmay] at qm
      rw [if_neg hmay] at hres
      have HR : Hid (res = (zRc, 160)) := hres
      clear hmay hres hn
      go_enter Tryd.func19, Tryd.ntmps19
      go_wp2_with fail
      generalize (w.alloc (.cells #[.int .i64 0, .int .u32 0, .int .i64 0, .int .i64 0, .int .i64 0] 25)) = w1 at *
      refine (qz w1).mono ?_
      rintro e wx ⟨rfl, hw⟩
      obtain rfl := hw.symm
      clear hw qz
      have P0 := hide (GrS.begin G0.out ⟨5, 0, 0, 0, 0⟩)
      go_wp2_with fail
      unfold rcC at P0
      dsimp only at P0
      generalize w1.alloc (.cells #[.int .i64 5, .int .u32 0, .int .i64 0, .int .i64 0, .int .i64 0] 25) = m0 at *
      generalize w1.heap.size = Y at *
      refine (qc m0 P0.out.world).mono ?_
      rintro e wx ⟨rfl, hw⟩
      obtain rfl := hw.symm
      clear hw qc
      have P1 := hide (P0.out.set (r' := ⟨5, 0, 0, 0, Uc⟩) 4 (.int .i64 Uc) rfl)
      obtain ⟨x0, x1, x2, x3, x4⟩ := box5 P0.out.rc
      have z4 := free_row P0.out.rc 4
      obtain ⟨y0, y1, y2, y3, y4⟩ := box5 P1.out.rc
      go_wp2_with fail
      clear x0 x1 x2 x3 x4 z4 y0 y1 y2 y3 y4
      generalize m0.setCell ⟨Y, 4, none⟩ (.int .i64 Uc) = m1 at *
      clear P0
      refine (qm m1).mono ?_
      rintro e wf ⟨rfl, hg⟩
      have PF := hide (P1.out.grown hg)
      obtain ⟨x0, x1, x2, x3, x4⟩ := box5 PF.out.rc
      clear hg qm P1
      obtain ⟨u0, u1, u2, u3, u4⟩ := box5 PF.out.g.ans
      have s0 := free_row PF.out.g.ans 0
      have s1 := free_row PF.out.g.ans 1
      have s2 := free_row PF.out.g.ans 2
      have s3 := free_row PF.out.g.ans 3
      have s4 := free_row PF.out.g.ans 4
      go_wp2
      obtain ⟨eb, eg⟩ := set5 PF.out.g.ans (.int .i64 0) (.int .u32 0) (.int .i64 0) (.int .i64 0) (.int .i64 0)
      clear u0 u1 u2 u3 u4 s0 s1 s2 s3 s4
      obtain ⟨e0, e1, e2, e3, e4⟩ := box5 eb
      have EG := hide (grown_then PF.out.g.gr eg (fun j e => by cases e; exact Or.inl (Nat.le_refl _)))
      clear eb eg
      generalize ((((wf.setCell ⟨w.heap.size, 0, none⟩ (.int .i64 0)).setCell ⟨w.heap.size, 1, none⟩ (.int .u32 0)).setCell ⟨w.heap.size, 2, none⟩ (.int .i64 0)).setCell ⟨w.heap.size, 3, none⟩ (.int .i64 0)).setCell ⟨w.heap.size, 4, none⟩ (.int .i64 0) = w9 at *
      refine bodyPost_ret (v := .tuple #[.agg #[.int .i64 0, .int .u32 0, .int .i64 0, .int .i64 0, .int .i64 0], .int .i64 160]) ?_ rfl ?_
      · rw [results_cell_tmp rfl]; go_simp
      exact ⟨by rw [HR.out]; rfl, EG.out⟩
set_option maxRecDepth 20000 in
set_option maxHeartbeats 8000000 in
theorem get_ref (xs : List Int) (hB : Byt xs) (ao : Option Addr) (n cap : Nat) (w : World) (hn : xs.length = n) (hat : At w ao xs) (hc : n ≤ cap) :
    Calls Tryd.prog 19 #[.slice ao n cap] w fun r w' => r = .returned (.tuple #[rcV (getR xs).1, .int .i64 (getR xs).2]) ∧ w.grownBy w' none := by
  have G0 := hide (GtS.begin w)
  by_cases h0 : n = 0
  · subst h0
    have hr : getR xs = (zRc, 4) := by unfold getR; rw [if_pos hn]
    rw [hr]
    clear hr hn hat hB
    go_enter Tryd.func19, Tryd.ntmps19
    go_wp2
    obtain ⟨u0, u1, u2, u3, u4⟩ := box5 G0.out.ans
    generalize (w.alloc (.cells #[.int .i64 0, .int .u32 0, .int .i64 0, .int .i64 0, .int .i64 0] 25)) = w1 at *
    refine bodyPost_ret (v := .tuple #[.agg #[.int .i64 0, .int .u32 0, .int .i64 0, .int .i64 0, .int .i64 0], .int .i64 4]) ?_ rfl ?_
    · rw [results_cell_tmp rfl]; go_simp
    exact ⟨rfl, G0.out.gr⟩
  · obtain ⟨a, ha, hcell⟩ : ∃ a, ao = some a ∧ w.cell? a = some (.int .u8 (xs.headD 0)) := by
      cases hxs : xs with
      | nil => rw [hxs] at hn; simp at hn; omega
      | cons x r =>
        rw [hxs] at hat
        obtain ⟨a, ha, hc⟩ := hat 0 x rfl
        refine ⟨a, ha, ?_⟩
        rw [show a.add 0 = a by unfold Addr.add; cases a; simp] at hc
        exact hc
    subst ha
    by_cases hk : 1 ≤ xs.headD 0 ∧ xs.headD 0 ≤ 5
    · have hk5 : xs.headD 0 = 1 ∨ xs.headD 0 = 2 ∨ xs.headD 0 = 3 ∨ xs.headD 0 = 4 ∨ xs.headD 0 = 5 := by omega
      rcases hk5 with e | e | e | e | e
      · exact getref_1 xs hB e a n cap w hn hat hc h0
      · exact getref_2 xs hB e a n cap w hn hat hc h0
      · exact getref_3 xs hB e a n cap w hn hat hc h0
      · exact getref_4 xs hB e a n cap w hn hat hc h0
      · exact getref_5 xs hB e a n cap w hn hat hc h0
    · have hr : getR xs = (zRc, 160) := by unfold getR; rw [if_neg (by omega), if_pos (sz_zero hk)]
      rw [hr]
      have hk0 := head_byt hB
      have hkw : IntKind.i64.wrap (xs.headD 0) = xs.headD 0 := by rw [IntKind.wrap_i64]; omega
      have qz := size_ref (xs.headD 0)
      rw [sz_zero hk] at qz
      have hcell1 := G0.out.gr.cell hcell (by simp)
      have hz1 : ((n : Int) == 0) = false := by simpa using h0
      have hz2 : decide ((n : Int) = 0) = false := by simpa using h0
      have hpos : (0 : Int) < (n : Int) := by omega
      clear hr hk hk0 hn hat hB h0 hcell
      generalize xs.headD 0 = k at *
      go_enter Tryd.func19, Tryd.ntmps19
      go_wp2_with fail
      generalize (w.alloc (.cells #[.int .i64 0, .int .u32 0, .int .i64 0, .int .i64 0, .int .i64 0] 25)) = w1 at *
      refine (qz w1).mono ?_
      rintro e wx ⟨rfl, hw⟩
      obtain rfl := hw.symm
      clear hw qz
      obtain ⟨u0, u1, u2, u3, u4⟩ := box5 G0.out.ans
      have s0 := free_row G0.out.ans 0
      have s1 := free_row G0.out.ans 1
      have s2 := free_row G0.out.ans 2
      have s3 := free_row G0.out.ans 3
      have s4 := free_row G0.out.ans 4
      go_wp2
      obtain ⟨eb, eg⟩ := set5 G0.out.ans (.int .i64 0) (.int .u32 0) (.int .i64 0) (.int .i64 0) (.int .i64 0)
      clear u0 u1 u2 u3 u4 s0 s1 s2 s3 s4
      obtain ⟨e0, e1, e2, e3, e4⟩ := box5 eb
      have EG := hide (grown_then G0.out.gr eg (fun j e => by cases e; exact Or.inl (Nat.le_refl _)))
      clear eb eg
      generalize ((((w1.setCell ⟨w.heap.size, 0, none⟩ (.int .i64 0)).setCell ⟨w.heap.size, 1, none⟩ (.int .u32 0)).setCell ⟨w.heap.size, 2, none⟩ (.int .i64 0)).setCell ⟨w.heap.size, 3, none⟩ (.int .i64 0)).setCell ⟨w.heap.size, 4, none⟩ (.int .i64 0) = w9 at *
      refine bodyPost_ret (v := .tuple #[.agg #[.int .i64 0, .int .u32 0, .int .i64 0, .int .i64 0, .int .i64 0], .int .i64 160]) ?_ rfl ?_
      · rw [results_cell_tmp rfl]; go_simp
      exact ⟨rfl, EG.out⟩
end Go.Proofs.YtghojalpdkiooaaDoor
