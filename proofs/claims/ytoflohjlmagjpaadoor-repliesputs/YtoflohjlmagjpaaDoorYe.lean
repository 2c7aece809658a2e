/- replies: read. -/
import Derived.Test.YtoflohjlmagjpaaDoorYd
import Derived.Deep.CutRange
import Derived.Deep.DeepCutAuto
namespace Go.Proofs.YtoflohjlmagjpaaDoor
open Go.RowKit
attribute [local go_sem ↓] Go.wp_at_zero Go.wp_at_succ
theorem i64_wrap {n : Int} (h0 : 0 ≤ n) (h1 : n < 18446744073709551616) : IntKind.i64.wrap n = i64of n := by
  rw [IntKind.wrap_i64]; unfold i64of; split <;> omega
theorem results_cell1 {fn : Func} {p : Tmp} {ty : TypeId} (h : fn.results = #[.cell p ty]) (tmps : Array Value) (P : Program) (w : World) :
    (results fn tmps).run P w = ((asAddr (tmps.getD p undef)).run P w).andThen fun a w₁ => (loadVar ty a).run P w₁ := by
  simp only [results, h]
  simp [Sem.run_bind, Result.andThen]
/-- A part read, if a reply has it. -/
def tkF (b : Bool) (xs : List Int) (e : Int) (n : Int) : List Int × List Int × Int := if b then takeF xs e n else ([], xs, e)
/-- What read does, step by step. -/
def rd0 (xs : List Int) : List Int × List Int × Int := takeF xs 0 4
def rd1 (xs : List Int) : List Int × List Int × Int := takeF (rd0 xs).2.1 (rd0 xs).2.2 1
def rd2 (xs : List Int) : List Int × List Int × Int := takeF (rd1 xs).2.1 (rd1 xs).2.2 2
def rk (xs : List Int) : Int := leV (rd1 xs).1
def re (xs : List Int) : Int := leV (rd2 xs).1
def rdI (xs : List Int) : List Int × List Int × Int := tkF (hI (rk xs) (re xs)) (rd2 xs).2.1 (rd2 xs).2.2 4
def rdT (xs : List Int) : List Int × List Int × Int := tkF (hS (rk xs) (re xs)) (rdI xs).2.1 (rdI xs).2.2 2
def rdU (xs : List Int) : List Int × List Int × Int := tkF (hU (rk xs) (re xs)) (rdT xs).2.1 (rdT xs).2.2 8
def rdC (xs : List Int) : List Int × List Int × Int := tkF (hC (rk xs) (re xs)) (rdU xs).2.1 (rdU xs).2.2 2
def rdQ (xs : List Int) : Ry := ⟨leV (rd0 xs).1, rk xs, re xs, leV (rdI xs).1, leV (rdT xs).1, i64of (leV (rdU xs).1), leV (rdC xs).1⟩
theorem tkF_byt {b : Bool} {xs : List Int} (h : Byt xs) (e n : Int) : Byt (tkF b xs e n).2.1 := by
  cases b with
  | false => exact h
  | true => exact (takeF_bytes h e n).2
theorem rd0_byt {xs : List Int} (h : Byt xs) : Byt (rd0 xs).2.1 := (takeF_bytes h 0 4).2
theorem rd1_byt {xs : List Int} (h : Byt xs) : Byt (rd1 xs).2.1 := (takeF_bytes (rd0_byt h) _ 1).2
theorem rd2_byt {xs : List Int} (h : Byt xs) : Byt (rd2 xs).2.1 := (takeF_bytes (rd1_byt h) _ 2).2
theorem rdI_byt {xs : List Int} (h : Byt xs) : Byt (rdI xs).2.1 := tkF_byt (rd2_byt h) _ 4
theorem rdT_byt {xs : List Int} (h : Byt xs) : Byt (rdT xs).2.1 := tkF_byt (rdI_byt h) _ 2
theorem rdU_byt {xs : List Int} (h : Byt xs) : Byt (rdU xs).2.1 := tkF_byt (rdT_byt h) _ 8
theorem rdC_byt {xs : List Int} (h : Byt xs) : Byt (rdC xs).2.1 := tkF_byt (rdU_byt h) _ 2
theorem rk_range {xs : List Int} (h : Byt xs) : 0 ≤ rk xs ∧ rk xs < 256 := by
  have hv := takeF_value (rd0_byt h) (rd0 xs).2.2 1
  simp only [show (((1 : Nat)) : Int) = 1 from rfl] at hv
  exact ⟨hv.1, hv.2⟩
theorem re_range {xs : List Int} (h : Byt xs) : 0 ≤ re xs ∧ re xs < 65536 := by
  have hv := takeF_value (rd1_byt h) (rd1 xs).2.2 2
  simp only [show (((2 : Nat)) : Int) = 2 from rfl] at hv
  exact ⟨hv.1, hv.2⟩
theorem tk2_range {xs : List Int} (h : Byt xs) (b : Bool) (e : Int) : 0 ≤ leV (tkF b xs e 2).1 ∧ leV (tkF b xs e 2).1 < 65536 := by
  cases b with
  | false => exact (by decide : 0 ≤ leV [] ∧ leV [] < 65536)
  | true =>
    have hv := takeF_value h e 2
    simp only [show (((2 : Nat)) : Int) = 2 from rfl] at hv
    exact ⟨hv.1, hv.2⟩
theorem tk8_range {xs : List Int} (h : Byt xs) (b : Bool) (e : Int) : 0 ≤ leV (tkF b xs e 8).1 ∧ leV (tkF b xs e 8).1 < 18446744073709551616 := by
  cases b with
  | false => exact (by decide : 0 ≤ leV [] ∧ leV [] < 18446744073709551616)
  | true =>
    have hv := takeF_value h e 8
    simp only [show (((8 : Nat)) : Int) = 8 from rfl] at hv
    exact ⟨hv.1, hv.2⟩
/-- Inside read: the answer's box, the reply that is read, the Reader. -/
structure RdS (w wr : World) (q : Ry) (R : Nat) (xs : List Int) (e : Int) : Prop where
  ans : wr.heap[w.heap.size]? = some (.cells (ryC zRy).toArray 26 (0, 0))
  rq : wr.heap[w.heap.size + 1]? = some (.cells (ryC q).toArray 26 (0, 0))
  rd : RdAt wr R xs e
  byt : Byt xs
  lo : R < w.heap.size
  tab : Tab wr
  r0 : R ≠ 0
  t0 : 0 < w.heap.size
  gr : w.grownBy wr (some R)
section
variable {w wr wr' : World} {q q' : Ry} {R : Nat} {xs xs' : List Int} {e e' : Int}
theorem RdS.new (h : RdS w wr q R xs e) (hg : wr.grownBy wr' none) : RdS w wr' q R xs e :=
  ⟨box_new h.ans hg, box_new h.rq hg, h.rd.kept hg (by simp) (NoBytes.none _), h.byt, h.lo, h.tab.new hg, h.r0, h.t0, grown_then h.gr hg (fun _ e => by cases e)⟩
theorem RdS.next (h : RdS w wr q R xs e) (hW : RdAt wr' R xs' e') (hb : Byt xs') (hg : wr.grownBy wr' (some R)) : RdS w wr' q R xs' e' :=
  ⟨(hg.block _ (row_lt h.ans) (by have := h.lo; simp; omega)).trans h.ans, (hg.block _ (row_lt h.rq) (by have := h.lo; simp; omega)).trans h.rq, hW, hb, h.lo, h.tab.grown hg (fun e => h.r0 (by simpa using e)), h.r0, h.t0, grown_trans h.gr hg⟩
theorem RdS.set (h : RdS w wr q R xs e) (j : Nat) (v : Value) (hr : (ryC q).set j v = ryC q') : RdS w (wr.setCell ⟨w.heap.size + 1, j, none⟩ v) q' R xs e := by
  have hg := grown_setCell wr (w.heap.size + 1) j v
  refine ⟨(hg.block _ (row_lt h.ans) (by simp)).trans h.ans, ?_, h.rd.kept hg (by have := h.lo; simp; omega) (NoBytes.of h.rq (by decide)), h.byt, h.lo, h.tab.grown hg (by simp), h.r0, h.t0, grown_then h.gr hg (fun j e => by cases e; exact Or.inl (by omega))⟩
  have := row_setCell h.rq j v
  rw [hr] at this
  exact this
end
theorem two_boxes (w : World) (l m : List Value) (s t : TypeId) : ((w.alloc (.cells l.toArray s)).alloc (.cells m.toArray t)).heap[w.heap.size]? = some (.cells l.toArray s (0, 0)) ∧ ((w.alloc (.cells l.toArray s)).alloc (.cells m.toArray t)).heap[w.heap.size + 1]? = some (.cells m.toArray t (0, 0)) ∧ w.grownBy ((w.alloc (.cells l.toArray s)).alloc (.cells m.toArray t)) none := by
  have g1 := World.grownBy_alloc w (.cells l.toArray s) none
  have g2 := World.grownBy_alloc (w.alloc (.cells l.toArray s)) (.cells m.toArray t) none
  have b1 := heap_alloc_new w (.cells l.toArray s)
  have b2 := heap_alloc_new (w.alloc (.cells l.toArray s)) (.cells m.toArray t)
  rw [World.size_alloc] at b2
  exact ⟨(g2.block _ (row_lt b1) (by simp)).trans b1, b2, grown_trans g1 g2⟩
theorem RdS.begin {w : World} {R : Nat} {xs : List Int} {e : Int} (hR : RdAt w R xs e) (hb : Byt xs) (hT : Tab w) (h0 : R ≠ 0) : RdS w ((w.alloc (.cells #[.int .u32 0, .int .i64 0, .int .i64 0, .int .u32 0, .int .i64 0, .int .i64 0, .int .i64 0] 26)).alloc (.cells #[.int .u32 0, .int .i64 0, .int .i64 0, .int .u32 0, .int .i64 0, .int .i64 0, .int .i64 0] 26)) zRy R xs e := by
  obtain ⟨ba, bb, bg⟩ := two_boxes w (ryC zRy) (ryC zRy) 26 26
  exact ⟨ba, bb, hR.kept bg (by simp) (NoBytes.none _), hb, hR.lt, hT.new bg, h0, hT.lt, grown_none bg _⟩
theorem set7 {w : World} {g : Nat} {t : TypeId} {a b c d e f h : Value} (hh : w.heap[g]? = some (.cells [a, b, c, d, e, f, h].toArray t (0, 0))) (a' b' c' d' e' f' h' : Value) :
    (((((((w.setCell ⟨g, 0, none⟩ a').setCell ⟨g, 1, none⟩ b').setCell ⟨g, 2, none⟩ c').setCell ⟨g, 3, none⟩ d').setCell ⟨g, 4, none⟩ e').setCell ⟨g, 5, none⟩ f').setCell ⟨g, 6, none⟩ h').heap[g]? = some (.cells [a', b', c', d', e', f', h'].toArray t (0, 0)) ∧ w.grownBy (((((((w.setCell ⟨g, 0, none⟩ a').setCell ⟨g, 1, none⟩ b').setCell ⟨g, 2, none⟩ c').setCell ⟨g, 3, none⟩ d').setCell ⟨g, 4, none⟩ e').setCell ⟨g, 5, none⟩ f').setCell ⟨g, 6, none⟩ h') (some g) :=
  ⟨row_setCell (row_setCell (row_setCell (row_setCell (row_setCell (row_setCell (row_setCell hh 0 a') 1 b') 2 c') 3 d') 4 e') 5 f') 6 h', grown_trans (grown_trans (grown_trans (grown_trans (grown_trans (grown_trans (grown_setCell w g 0 a') (grown_setCell _ g 1 b')) (grown_setCell _ g 2 c')) (grown_setCell _ g 3 d')) (grown_setCell _ g 4 e')) (grown_setCell _ g 5 f')) (grown_setCell _ g 6 h')⟩
set_option maxRecDepth 20000 in
set_option maxHeartbeats 16000000 in
theorem read_ry (R : Nat) (xs : List Int) (w : World) (hR : RdAt w R xs 0) (hB : Byt xs) (hT : Tab w) (hR0 : R ≠ 0) : Calls Tryd.prog 34 #[.pointer (some ⟨R, 0, none⟩)] w fun r w' => r = .returned (ryV (rdQ xs)) ∧ RdAt w' R (rdC xs).2.1 (rdC xs).2.2 ∧ w.grownBy w' (some R) := by
  have S0 := hide (RdS.begin hR hB hT hR0)
  clear hR hT hR0
  obtain ⟨rdq, hrdq⟩ : ∃ q, q = rdQ xs := ⟨_, rfl⟩
  rw [← hrdq]
  have HD := hide hrdq
  clear hrdq
  have hk := rk_range hB
  have he := re_range hB
  have W1 : IntKind.i64.wrap (rk xs) = rk xs := by rw [IntKind.wrap_i64]; omega
  have W2 : IntKind.i64.wrap (re xs) = re xs := by rw [IntKind.wrap_i64]; omega
  have HB := hide hB
  have q0 := fun w1 h => rfour_any R xs 0 w1 h hB
  have q1 := fun w1 h => rbyte_any R (rd0 xs).2.1 (rd0 xs).2.2 w1 h (rd0_byt hB)
  have q2 := fun w1 h => rtwo_any R (rd1 xs).2.1 (rd1 xs).2.2 w1 h (rd1_byt hB)
  rw [show takeF xs 0 4 = rd0 xs from rfl] at q0
  rw [show takeF (rd0 xs).2.1 (rd0 xs).2.2 1 = rd1 xs from rfl, show leV (rd1 xs).1 = rk xs from rfl] at q1
  rw [show takeF (rd1 xs).2.1 (rd1 xs).2.2 2 = rd2 xs from rfl, show leV (rd2 xs).1 = re xs from rfl] at q2
  have wS := tk2_range (rdI_byt hB) (hS (rk xs) (re xs)) (rdI xs).2.2
  have wU := tk8_range (rdT_byt hB) (hU (rk xs) (re xs)) (rdT xs).2.2
  have wC := tk2_range (rdU_byt hB) (hC (rk xs) (re xs)) (rdU xs).2.2
  rw [show tkF (hS (rk xs) (re xs)) (rdI xs).2.1 (rdI xs).2.2 2 = rdT xs from rfl] at wS
  rw [show tkF (hU (rk xs) (re xs)) (rdT xs).2.1 (rdT xs).2.2 8 = rdU xs from rfl] at wU
  rw [show tkF (hC (rk xs) (re xs)) (rdU xs).2.1 (rdU xs).2.2 2 = rdC xs from rfl] at wC
  have HW := hide (And.intro wS (And.intro wU wC))
  clear hk he hB wS wU wC
  obtain ⟨t, ht⟩ : ∃ t, leV (rd0 xs).1 = t := ⟨_, rfl⟩
  obtain ⟨k, hk⟩ : ∃ k, rk xs = k := ⟨_, rfl⟩
  obtain ⟨e, he⟩ : ∃ e, re xs = e := ⟨_, rfl⟩
  rw [ht] at q0
  rw [hk] at q1 W1
  rw [he] at q2 W2
  have HK := hide (And.intro ht (And.intro hk he))
  clear ht hk he
  obtain ⟨c0, c1, c2, c3, c4, c5, c6⟩ := box7 S0.out.rq
  have f0 := free_row S0.out.rq 0
  unfold zRy at c0 c1 c2 c3 c4 c5 c6
  go_enter Tryd.func34, Tryd.ntmps34
  go_wp2_with fail
  generalize ((w.alloc (.cells #[.int .u32 0, .int .i64 0, .int .i64 0, .int .u32 0, .int .i64 0, .int .i64 0, .int .i64 0] 26)).alloc (.cells #[.int .u32 0, .int .i64 0, .int .i64 0, .int .u32 0, .int .i64 0, .int .i64 0, .int .i64 0] 26)) = m0 at *
  refine (q0 m0 S0.out.rd).mono ?_
  clear q0 c0 c1 c2 c3 c4 c5 c6 f0
  rintro r n0 ⟨rfl, hR, hg⟩
  have S1 := hide (S0.out.next hR (rd0_byt HB.out) hg)
  clear hR hg S0
  have S2 := hide (S1.out.set (q' := ⟨t, 0, 0, 0, 0, 0, 0⟩) 0 (.int .u32 t) rfl)
  obtain ⟨c0, c1, c2, c3, c4, c5, c6⟩ := box7 S1.out.rq
  have f0 := free_row S1.out.rq 0
  go_wp2_with fail
  generalize n0.setCell ⟨w.heap.size + 1, 0, none⟩ (.int .u32 t) = m1 at *
  refine (q1 m1 S2.out.rd).mono ?_
  clear q1 c0 c1 c2 c3 c4 c5 c6 f0 S1
  rintro r n1 ⟨rfl, hR, hg⟩
  have S3 := hide (S2.out.next hR (rd1_byt HB.out) hg)
  clear hR hg S2
  have S4 := hide (S3.out.set (q' := ⟨t, k, 0, 0, 0, 0, 0⟩) 1 (.int .i64 k) rfl)
  obtain ⟨c0, c1, c2, c3, c4, c5, c6⟩ := box7 S3.out.rq
  have f0 := free_row S3.out.rq 1
  go_wp2_with fail
  generalize n1.setCell ⟨w.heap.size + 1, 1, none⟩ (.int .i64 k) = m2 at *
  refine (q2 m2 S4.out.rd).mono ?_
  clear q2 c0 c1 c2 c3 c4 c5 c6 f0 S3
  rintro r n2 ⟨rfl, hR, hg⟩
  have S5 := hide (S4.out.next hR (rd2_byt HB.out) hg)
  clear hR hg S4
  have S6 := hide (S5.out.set (q' := ⟨t, k, e, 0, 0, 0, 0⟩) 2 (.int .i64 e) rfl)
  obtain ⟨c0, c1, c2, c3, c4, c5, c6⟩ := box7 S5.out.rq
  have f0 := free_row S5.out.rq 2
  have qf := fieldsIn_any ⟨t, k, e, 0, 0, 0, 0⟩ _ S6.out.tab
  unfold ryV at qf
  dsimp only at qf
  have HF := fv_cases k e
  go_wp2_with fail
  generalize n2.setCell ⟨w.heap.size + 1, 2, none⟩ (.int .i64 e) = m3 at *
  clear c0 c1 c2 c3 c4 c5 c6 f0 S5
  rcases HF with ⟨ef, eI, eS, eU, eC⟩ | ⟨ef, eI, eS, eU, eC⟩ | ⟨ef, eI, eS, eU, eC⟩ | ⟨ef, eI, eS, eU, eC⟩ | ⟨ef, eI, eS, eU, eC⟩ | ⟨ef, eI, eS, eU, eC⟩
  · rw [ef] at qf
    have hI : Hid (rdI xs = ([], (rd2 xs).2.1, (rd2 xs).2.2)) := by unfold rdI tkF; rw [HK.out.2.1, HK.out.2.2, eI, if_neg (by decide)]; exact rfl
    have hS : Hid (rdT xs = ([], (rdI xs).2.1, (rdI xs).2.2)) := by unfold rdT tkF; rw [HK.out.2.1, HK.out.2.2, eS, if_neg (by decide)]; exact rfl
    have hU : Hid (rdU xs = ([], (rdT xs).2.1, (rdT xs).2.2)) := by unfold rdU tkF; rw [HK.out.2.1, HK.out.2.2, eU, if_neg (by decide)]; exact rfl
    have hC : Hid (rdC xs = ([], (rdU xs).2.1, (rdU xs).2.2)) := by unfold rdC tkF; rw [HK.out.2.1, HK.out.2.2, eC, if_neg (by decide)]; exact rfl
    clear ef eI eS eU eC
    refine (qf).mono ?_
    clear qf
    rintro r v0 ⟨rfl, hg⟩
    have A0 := hide (S6.out.new hg)
    clear hg S6
    go_wp2_with fail
    refine (has_any 0 1 false (by decide) v0).mono ?_
    rintro r wx ⟨rfl, hw⟩
    obtain rfl := hw.symm
    clear hw
    have DI : Hid (RdS w v0 ⟨t, k, e, 0, 0, 0, 0⟩ R (rdI xs).2.1 (rdI xs).2.2) := by rw [hI.out]; exact A0.out
    have HVI : Hid (leV (rdI xs).1 = 0) := by rw [hI.out]; exact rfl
    clear A0
    go_wp2_with fail
    refine (has_any 0 2 false (by decide) v0).mono ?_
    rintro r wx ⟨rfl, hw⟩
    obtain rfl := hw.symm
    clear hw
    have DS : Hid (RdS w v0 ⟨t, k, e, 0, 0, 0, 0⟩ R (rdT xs).2.1 (rdT xs).2.2) := by rw [hS.out]; exact DI.out
    have HVS : Hid (leV (rdT xs).1 = 0) := by rw [hS.out]; exact rfl
    clear DI
    go_wp2_with fail
    refine (has_any 0 4 false (by decide) v0).mono ?_
    rintro r wx ⟨rfl, hw⟩
    obtain rfl := hw.symm
    clear hw
    have DU : Hid (RdS w v0 ⟨t, k, e, 0, 0, 0, 0⟩ R (rdU xs).2.1 (rdU xs).2.2) := by rw [hU.out]; exact DS.out
    have HVU : Hid (leV (rdU xs).1 = 0) := by rw [hU.out]; exact rfl
    clear DS
    go_wp2_with fail
    refine (has_any 0 8 false (by decide) v0).mono ?_
    rintro r wx ⟨rfl, hw⟩
    obtain rfl := hw.symm
    clear hw
    have DC : Hid (RdS w v0 ⟨t, k, e, 0, 0, 0, 0⟩ R (rdC xs).2.1 (rdC xs).2.2) := by rw [hC.out]; exact DU.out
    have HVC : Hid (leV (rdC xs).1 = 0) := by rw [hC.out]; exact rfl
    clear DU
    obtain ⟨c0, c1, c2, c3, c4, c5, c6⟩ := box7 DC.out.rq
    obtain ⟨u0, u1, u2, u3, u4, u5, u6⟩ := box7 DC.out.ans
    have s0 := free_row DC.out.ans 0
    have s1 := free_row DC.out.ans 1
    have s2 := free_row DC.out.ans 2
    have s3 := free_row DC.out.ans 3
    have s4 := free_row DC.out.ans 4
    have s5 := free_row DC.out.ans 5
    have s6 := free_row DC.out.ans 6
    unfold zRy at u0 u1 u2 u3 u4 u5 u6
    go_wp2
    clear c0 c1 c2 c3 c4 c5 c6 u0 u1 u2 u3 u4 u5 u6 s0 s1 s2 s3 s4 s5 s6
    obtain ⟨eb, eg⟩ := set7 DC.out.ans (.int .u32 t) (.int .i64 k) (.int .i64 e) (.int .u32 0) (.int .i64 0) (.int .i64 0) (.int .i64 0)
    obtain ⟨e0, e1, e2, e3, e4, e5, e6⟩ := box7 eb
    have EG := hide (grown_then DC.out.gr eg (fun j e => by cases e; exact Or.inl (Nat.le_refl _)))
    have ER := hide (DC.out.rd.kept eg (by have := DC.out.lo; simp; omega) (NoBytes.of DC.out.ans (by decide)))
    clear eb eg
    generalize (((((((v0.setCell ⟨w.heap.size, 0, none⟩ (.int .u32 t)).setCell ⟨w.heap.size, 1, none⟩ (.int .i64 k)).setCell ⟨w.heap.size, 2, none⟩ (.int .i64 e)).setCell ⟨w.heap.size, 3, none⟩ (.int .u32 0)).setCell ⟨w.heap.size, 4, none⟩ (.int .i64 0)).setCell ⟨w.heap.size, 5, none⟩ (.int .i64 0)).setCell ⟨w.heap.size, 6, none⟩ (.int .i64 0)) = w9 at *
    refine bodyPost_ret (v := .agg #[.int .u32 t, .int .i64 k, .int .i64 e, .int .u32 0, .int .i64 0, .int .i64 0, .int .i64 0]) ?_ rfl ?_
    · rw [results_cell1 rfl]; go_simp
    have hq1 : rdq = ⟨t, k, e, 0, 0, 0, 0⟩ := by
      rw [HD.out]
      unfold rdQ
      rw [HK.out.1, HK.out.2.1, HK.out.2.2, HVI.out, HVS.out, HVU.out, HVC.out]
      rfl
    rw [hq1]
    exact ⟨rfl, ER.out, EG.out⟩
  · rw [ef] at qf
    have hI : Hid (takeF (rd2 xs).2.1 (rd2 xs).2.2 4 = rdI xs) := by unfold rdI tkF; rw [HK.out.2.1, HK.out.2.2, eI, if_pos rfl]; exact rfl
    have hS : Hid (rdT xs = ([], (rdI xs).2.1, (rdI xs).2.2)) := by unfold rdT tkF; rw [HK.out.2.1, HK.out.2.2, eS, if_neg (by decide)]; exact rfl
    have hU : Hid (takeF (rdT xs).2.1 (rdT xs).2.2 8 = rdU xs) := by unfold rdU tkF; rw [HK.out.2.1, HK.out.2.2, eU, if_pos rfl]; exact rfl
    have hC : Hid (rdC xs = ([], (rdU xs).2.1, (rdU xs).2.2)) := by unfold rdC tkF; rw [HK.out.2.1, HK.out.2.2, eC, if_neg (by decide)]; exact rfl
    clear ef eI eS eU eC
    refine (qf).mono ?_
    clear qf
    rintro r v0 ⟨rfl, hg⟩
    have A0 := hide (S6.out.new hg)
    clear hg S6
    go_wp2_with fail
    refine (has_any 5 1 true (by decide) v0).mono ?_
    rintro r wx ⟨rfl, hw⟩
    obtain rfl := hw.symm
    clear hw
    have qr := rfour_any R (rd2 xs).2.1 (rd2 xs).2.2 v0 A0.out.rd A0.out.byt
    rw [hI.out] at qr
    obtain ⟨VI, hv⟩ : ∃ V, leV (rdI xs).1 = V := ⟨_, rfl⟩
    rw [hv] at qr
    have HVI := hide hv
    clear hv
    go_wp2_with fail
    refine qr.mono ?_
    clear qr
    rintro r yI ⟨rfl, hR, hg⟩
    have BI := hide (A0.out.next hR (rdI_byt HB.out) hg)
    clear hR hg A0
    have AI := hide (BI.out.set (q' := ⟨t, k, e, VI, 0, 0, 0⟩) 3 (.int .u32 VI) rfl)
    obtain ⟨c0, c1, c2, c3, c4, c5, c6⟩ := box7 BI.out.rq
    have f0 := free_row BI.out.rq 3
    go_upto_region 8 with fail
    generalize yI.setCell ⟨w.heap.size + 1, 3, none⟩ (.int .u32 VI) = zI at *
    clear c0 c1 c2 c3 c4 c5 c6 f0 BI
    go_wp2_with fail
    refine (has_any 5 2 false (by decide) zI).mono ?_
    rintro r wx ⟨rfl, hw⟩
    obtain rfl := hw.symm
    clear hw
    have DS : Hid (RdS w zI ⟨t, k, e, VI, 0, 0, 0⟩ R (rdT xs).2.1 (rdT xs).2.2) := by rw [hS.out]; exact AI.out
    have HVS : Hid (leV (rdT xs).1 = 0) := by rw [hS.out]; exact rfl
    clear AI
    go_wp2_with fail
    refine (has_any 5 4 true (by decide) zI).mono ?_
    rintro r wx ⟨rfl, hw⟩
    obtain rfl := hw.symm
    clear hw
    have qr := reight_any R (rdT xs).2.1 (rdT xs).2.2 zI DS.out.rd DS.out.byt
    rw [hU.out] at qr
    obtain ⟨VU, hv⟩ : ∃ V, leV (rdU xs).1 = V := ⟨_, rfl⟩
    rw [hv] at qr
    have WX : IntKind.i64.wrap VU = i64of VU := by have := HW.out.2.1; rw [hv] at this; exact i64_wrap this.1 this.2
    have HVU := hide hv
    clear hv
    go_wp2_with fail
    refine qr.mono ?_
    clear qr
    rintro r yU ⟨rfl, hR, hg⟩
    have BU := hide (DS.out.next hR (rdU_byt HB.out) hg)
    clear hR hg DS
    have AU := hide (BU.out.set (q' := ⟨t, k, e, VI, 0, (i64of VU), 0⟩) 5 (.int .i64 (i64of VU)) rfl)
    obtain ⟨c0, c1, c2, c3, c4, c5, c6⟩ := box7 BU.out.rq
    have f0 := free_row BU.out.rq 5
    go_upto_region 12 with fail
    generalize yU.setCell ⟨w.heap.size + 1, 5, none⟩ (.int .i64 (i64of VU)) = zU at *
    clear c0 c1 c2 c3 c4 c5 c6 f0 BU WX
    go_wp2_with fail
    refine (has_any 5 8 false (by decide) zU).mono ?_
    rintro r wx ⟨rfl, hw⟩
    obtain rfl := hw.symm
    clear hw
    have DC : Hid (RdS w zU ⟨t, k, e, VI, 0, (i64of VU), 0⟩ R (rdC xs).2.1 (rdC xs).2.2) := by rw [hC.out]; exact AU.out
    have HVC : Hid (leV (rdC xs).1 = 0) := by rw [hC.out]; exact rfl
    clear AU
    obtain ⟨c0, c1, c2, c3, c4, c5, c6⟩ := box7 DC.out.rq
    obtain ⟨u0, u1, u2, u3, u4, u5, u6⟩ := box7 DC.out.ans
    have s0 := free_row DC.out.ans 0
    have s1 := free_row DC.out.ans 1
    have s2 := free_row DC.out.ans 2
    have s3 := free_row DC.out.ans 3
    have s4 := free_row DC.out.ans 4
    have s5 := free_row DC.out.ans 5
    have s6 := free_row DC.out.ans 6
    unfold zRy at u0 u1 u2 u3 u4 u5 u6
    go_wp2
    clear c0 c1 c2 c3 c4 c5 c6 u0 u1 u2 u3 u4 u5 u6 s0 s1 s2 s3 s4 s5 s6
    obtain ⟨eb, eg⟩ := set7 DC.out.ans (.int .u32 t) (.int .i64 k) (.int .i64 e) (.int .u32 VI) (.int .i64 0) (.int .i64 (i64of VU)) (.int .i64 0)
    obtain ⟨e0, e1, e2, e3, e4, e5, e6⟩ := box7 eb
    have EG := hide (grown_then DC.out.gr eg (fun j e => by cases e; exact Or.inl (Nat.le_refl _)))
    have ER := hide (DC.out.rd.kept eg (by have := DC.out.lo; simp; omega) (NoBytes.of DC.out.ans (by decide)))
    clear eb eg
    generalize (((((((zU.setCell ⟨w.heap.size, 0, none⟩ (.int .u32 t)).setCell ⟨w.heap.size, 1, none⟩ (.int .i64 k)).setCell ⟨w.heap.size, 2, none⟩ (.int .i64 e)).setCell ⟨w.heap.size, 3, none⟩ (.int .u32 VI)).setCell ⟨w.heap.size, 4, none⟩ (.int .i64 0)).setCell ⟨w.heap.size, 5, none⟩ (.int .i64 (i64of VU))).setCell ⟨w.heap.size, 6, none⟩ (.int .i64 0)) = w9 at *
    refine bodyPost_ret (v := .agg #[.int .u32 t, .int .i64 k, .int .i64 e, .int .u32 VI, .int .i64 0, .int .i64 (i64of VU), .int .i64 0]) ?_ rfl ?_
    · rw [results_cell1 rfl]; go_simp
    have hq1 : rdq = ⟨t, k, e, VI, 0, (i64of VU), 0⟩ := by
      rw [HD.out]
      unfold rdQ
      rw [HK.out.1, HK.out.2.1, HK.out.2.2, HVI.out, HVS.out, HVU.out, HVC.out]
      skip
    rw [hq1]
    exact ⟨rfl, ER.out, EG.out⟩
  · rw [ef] at qf
    have hI : Hid (rdI xs = ([], (rd2 xs).2.1, (rd2 xs).2.2)) := by unfold rdI tkF; rw [HK.out.2.1, HK.out.2.2, eI, if_neg (by decide)]; exact rfl
    have hS : Hid (takeF (rdI xs).2.1 (rdI xs).2.2 2 = rdT xs) := by unfold rdT tkF; rw [HK.out.2.1, HK.out.2.2, eS, if_pos rfl]; exact rfl
    have hU : Hid (rdU xs = ([], (rdT xs).2.1, (rdT xs).2.2)) := by unfold rdU tkF; rw [HK.out.2.1, HK.out.2.2, eU, if_neg (by decide)]; exact rfl
    have hC : Hid (rdC xs = ([], (rdU xs).2.1, (rdU xs).2.2)) := by unfold rdC tkF; rw [HK.out.2.1, HK.out.2.2, eC, if_neg (by decide)]; exact rfl
    clear ef eI eS eU eC
    refine (qf).mono ?_
    clear qf
    rintro r v0 ⟨rfl, hg⟩
    have A0 := hide (S6.out.new hg)
    clear hg S6
    go_wp2_with fail
    refine (has_any 2 1 false (by decide) v0).mono ?_
    rintro r wx ⟨rfl, hw⟩
    obtain rfl := hw.symm
    clear hw
    have DI : Hid (RdS w v0 ⟨t, k, e, 0, 0, 0, 0⟩ R (rdI xs).2.1 (rdI xs).2.2) := by rw [hI.out]; exact A0.out
    have HVI : Hid (leV (rdI xs).1 = 0) := by rw [hI.out]; exact rfl
    clear A0
    go_wp2_with fail
    refine (has_any 2 2 true (by decide) v0).mono ?_
    rintro r wx ⟨rfl, hw⟩
    obtain rfl := hw.symm
    clear hw
    have qr := rtwo_any R (rdI xs).2.1 (rdI xs).2.2 v0 DI.out.rd DI.out.byt
    rw [hS.out] at qr
    obtain ⟨VS, hv⟩ : ∃ V, leV (rdT xs).1 = V := ⟨_, rfl⟩
    rw [hv] at qr
    have WX : IntKind.i64.wrap VS = VS := by rw [IntKind.wrap_i64]; have := HW.out.1; rw [hv] at this; omega
    have HVS := hide hv
    clear hv
    go_wp2_with fail
    refine qr.mono ?_
    clear qr
    rintro r yS ⟨rfl, hR, hg⟩
    have BS := hide (DI.out.next hR (rdT_byt HB.out) hg)
    clear hR hg DI
    have AS := hide (BS.out.set (q' := ⟨t, k, e, 0, VS, 0, 0⟩) 4 (.int .i64 VS) rfl)
    obtain ⟨c0, c1, c2, c3, c4, c5, c6⟩ := box7 BS.out.rq
    have f0 := free_row BS.out.rq 4
    go_upto_region 10 with fail
    generalize yS.setCell ⟨w.heap.size + 1, 4, none⟩ (.int .i64 VS) = zS at *
    clear c0 c1 c2 c3 c4 c5 c6 f0 BS WX
    go_wp2_with fail
    refine (has_any 2 4 false (by decide) zS).mono ?_
    rintro r wx ⟨rfl, hw⟩
    obtain rfl := hw.symm
    clear hw
    have DU : Hid (RdS w zS ⟨t, k, e, 0, VS, 0, 0⟩ R (rdU xs).2.1 (rdU xs).2.2) := by rw [hU.out]; exact AS.out
    have HVU : Hid (leV (rdU xs).1 = 0) := by rw [hU.out]; exact rfl
    clear AS
    go_wp2_with fail
    refine (has_any 2 8 false (by decide) zS).mono ?_
    rintro r wx ⟨rfl, hw⟩
    obtain rfl := hw.symm
    clear hw
    have DC : Hid (RdS w zS ⟨t, k, e, 0, VS, 0, 0⟩ R (rdC xs).2.1 (rdC xs).2.2) := by rw [hC.out]; exact DU.out
    have HVC : Hid (leV (rdC xs).1 = 0) := by rw [hC.out]; exact rfl
    clear DU
    obtain ⟨c0, c1, c2, c3, c4, c5, c6⟩ := box7 DC.out.rq
    obtain ⟨u0, u1, u2, u3, u4, u5, u6⟩ := box7 DC.out.ans
    have s0 := free_row DC.out.ans 0
    have s1 := free_row DC.out.ans 1
    have s2 := free_row DC.out.ans 2
    have s3 := free_row DC.out.ans 3
    have s4 := free_row DC.out.ans 4
    have s5 := free_row DC.out.ans 5
    have s6 := free_row DC.out.ans 6
    unfold zRy at u0 u1 u2 u3 u4 u5 u6
    go_wp2
    clear c0 c1 c2 c3 c4 c5 c6 u0 u1 u2 u3 u4 u5 u6 s0 s1 s2 s3 s4 s5 s6
    obtain ⟨eb, eg⟩ := set7 DC.out.ans (.int .u32 t) (.int .i64 k) (.int .i64 e) (.int .u32 0) (.int .i64 VS) (.int .i64 0) (.int .i64 0)
    obtain ⟨e0, e1, e2, e3, e4, e5, e6⟩ := box7 eb
    have EG := hide (grown_then DC.out.gr eg (fun j e => by cases e; exact Or.inl (Nat.le_refl _)))
    have ER := hide (DC.out.rd.kept eg (by have := DC.out.lo; simp; omega) (NoBytes.of DC.out.ans (by decide)))
    clear eb eg
    generalize (((((((zS.setCell ⟨w.heap.size, 0, none⟩ (.int .u32 t)).setCell ⟨w.heap.size, 1, none⟩ (.int .i64 k)).setCell ⟨w.heap.size, 2, none⟩ (.int .i64 e)).setCell ⟨w.heap.size, 3, none⟩ (.int .u32 0)).setCell ⟨w.heap.size, 4, none⟩ (.int .i64 VS)).setCell ⟨w.heap.size, 5, none⟩ (.int .i64 0)).setCell ⟨w.heap.size, 6, none⟩ (.int .i64 0)) = w9 at *
    refine bodyPost_ret (v := .agg #[.int .u32 t, .int .i64 k, .int .i64 e, .int .u32 0, .int .i64 VS, .int .i64 0, .int .i64 0]) ?_ rfl ?_
    · rw [results_cell1 rfl]; go_simp
    have hq1 : rdq = ⟨t, k, e, 0, VS, 0, 0⟩ := by
      rw [HD.out]
      unfold rdQ
      rw [HK.out.1, HK.out.2.1, HK.out.2.2, HVI.out, HVS.out, HVU.out, HVC.out]
      rfl
    rw [hq1]
    exact ⟨rfl, ER.out, EG.out⟩
  · rw [ef] at qf
    have hI : Hid (rdI xs = ([], (rd2 xs).2.1, (rd2 xs).2.2)) := by unfold rdI tkF; rw [HK.out.2.1, HK.out.2.2, eI, if_neg (by decide)]; exact rfl
    have hS : Hid (takeF (rdI xs).2.1 (rdI xs).2.2 2 = rdT xs) := by unfold rdT tkF; rw [HK.out.2.1, HK.out.2.2, eS, if_pos rfl]; exact rfl
    have hU : Hid (takeF (rdT xs).2.1 (rdT xs).2.2 8 = rdU xs) := by unfold rdU tkF; rw [HK.out.2.1, HK.out.2.2, eU, if_pos rfl]; exact rfl
    have hC : Hid (rdC xs = ([], (rdU xs).2.1, (rdU xs).2.2)) := by unfold rdC tkF; rw [HK.out.2.1, HK.out.2.2, eC, if_neg (by decide)]; exact rfl
    clear ef eI eS eU eC
    refine (qf).mono ?_
    clear qf
    rintro r v0 ⟨rfl, hg⟩
    have A0 := hide (S6.out.new hg)
    clear hg S6
    go_wp2_with fail
    refine (has_any 6 1 false (by decide) v0).mono ?_
    rintro r wx ⟨rfl, hw⟩
    obtain rfl := hw.symm
    clear hw
    have DI : Hid (RdS w v0 ⟨t, k, e, 0, 0, 0, 0⟩ R (rdI xs).2.1 (rdI xs).2.2) := by rw [hI.out]; exact A0.out
    have HVI : Hid (leV (rdI xs).1 = 0) := by rw [hI.out]; exact rfl
    clear A0
    go_wp2_with fail
    refine (has_any 6 2 true (by decide) v0).mono ?_
    rintro r wx ⟨rfl, hw⟩
    obtain rfl := hw.symm
    clear hw
    have qr := rtwo_any R (rdI xs).2.1 (rdI xs).2.2 v0 DI.out.rd DI.out.byt
    rw [hS.out] at qr
    obtain ⟨VS, hv⟩ : ∃ V, leV (rdT xs).1 = V := ⟨_, rfl⟩
    rw [hv] at qr
    have WX : IntKind.i64.wrap VS = VS := by rw [IntKind.wrap_i64]; have := HW.out.1; rw [hv] at this; omega
    have HVS := hide hv
    clear hv
    go_wp2_with fail
    refine qr.mono ?_
    clear qr
    rintro r yS ⟨rfl, hR, hg⟩
    have BS := hide (DI.out.next hR (rdT_byt HB.out) hg)
    clear hR hg DI
    have AS := hide (BS.out.set (q' := ⟨t, k, e, 0, VS, 0, 0⟩) 4 (.int .i64 VS) rfl)
    obtain ⟨c0, c1, c2, c3, c4, c5, c6⟩ := box7 BS.out.rq
    have f0 := free_row BS.out.rq 4
    go_upto_region 10 with fail
    generalize yS.setCell ⟨w.heap.size + 1, 4, none⟩ (.int .i64 VS) = zS at *
    clear c0 c1 c2 c3 c4 c5 c6 f0 BS WX
    go_wp2_with fail
    refine (has_any 6 4 true (by decide) zS).mono ?_
    rintro r wx ⟨rfl, hw⟩
    obtain rfl := hw.symm
    clear hw
    have qr := reight_any R (rdT xs).2.1 (rdT xs).2.2 zS AS.out.rd AS.out.byt
    rw [hU.out] at qr
    obtain ⟨VU, hv⟩ : ∃ V, leV (rdU xs).1 = V := ⟨_, rfl⟩
    rw [hv] at qr
    have WX : IntKind.i64.wrap VU = i64of VU := by have := HW.out.2.1; rw [hv] at this; exact i64_wrap this.1 this.2
    have HVU := hide hv
    clear hv
    go_wp2_with fail
    refine qr.mono ?_
    clear qr
    rintro r yU ⟨rfl, hR, hg⟩
    have BU := hide (AS.out.next hR (rdU_byt HB.out) hg)
    clear hR hg AS
    have AU := hide (BU.out.set (q' := ⟨t, k, e, 0, VS, (i64of VU), 0⟩) 5 (.int .i64 (i64of VU)) rfl)
    obtain ⟨c0, c1, c2, c3, c4, c5, c6⟩ := box7 BU.out.rq
    have f0 := free_row BU.out.rq 5
    go_upto_region 12 with fail
    generalize yU.setCell ⟨w.heap.size + 1, 5, none⟩ (.int .i64 (i64of VU)) = zU at *
    clear c0 c1 c2 c3 c4 c5 c6 f0 BU WX
    go_wp2_with fail
    refine (has_any 6 8 false (by decide) zU).mono ?_
    rintro r wx ⟨rfl, hw⟩
    obtain rfl := hw.symm
    clear hw
    have DC : Hid (RdS w zU ⟨t, k, e, 0, VS, (i64of VU), 0⟩ R (rdC xs).2.1 (rdC xs).2.2) := by rw [hC.out]; exact AU.out
    have HVC : Hid (leV (rdC xs).1 = 0) := by rw [hC.out]; exact rfl
    clear AU
    obtain ⟨c0, c1, c2, c3, c4, c5, c6⟩ := box7 DC.out.rq
    obtain ⟨u0, u1, u2, u3, u4, u5, u6⟩ := box7 DC.out.ans
    have s0 := free_row DC.out.ans 0
    have s1 := free_row DC.out.ans 1
    have s2 := free_row DC.out.ans 2
    have s3 := free_row DC.out.ans 3
    have s4 := free_row DC.out.ans 4
    have s5 := free_row DC.out.ans 5
    have s6 := free_row DC.out.ans 6
    unfold zRy at u0 u1 u2 u3 u4 u5 u6
    go_wp2
    clear c0 c1 c2 c3 c4 c5 c6 u0 u1 u2 u3 u4 u5 u6 s0 s1 s2 s3 s4 s5 s6
    obtain ⟨eb, eg⟩ := set7 DC.out.ans (.int .u32 t) (.int .i64 k) (.int .i64 e) (.int .u32 0) (.int .i64 VS) (.int .i64 (i64of VU)) (.int .i64 0)
    obtain ⟨e0, e1, e2, e3, e4, e5, e6⟩ := box7 eb
    have EG := hide (grown_then DC.out.gr eg (fun j e => by cases e; exact Or.inl (Nat.le_refl _)))
    have ER := hide (DC.out.rd.kept eg (by have := DC.out.lo; simp; omega) (NoBytes.of DC.out.ans (by decide)))
    clear eb eg
    generalize (((((((zU.setCell ⟨w.heap.size, 0, none⟩ (.int .u32 t)).setCell ⟨w.heap.size, 1, none⟩ (.int .i64 k)).setCell ⟨w.heap.size, 2, none⟩ (.int .i64 e)).setCell ⟨w.heap.size, 3, none⟩ (.int .u32 0)).setCell ⟨w.heap.size, 4, none⟩ (.int .i64 VS)).setCell ⟨w.heap.size, 5, none⟩ (.int .i64 (i64of VU))).setCell ⟨w.heap.size, 6, none⟩ (.int .i64 0)) = w9 at *
    refine bodyPost_ret (v := .agg #[.int .u32 t, .int .i64 k, .int .i64 e, .int .u32 0, .int .i64 VS, .int .i64 (i64of VU), .int .i64 0]) ?_ rfl ?_
    · rw [results_cell1 rfl]; go_simp
    have hq1 : rdq = ⟨t, k, e, 0, VS, (i64of VU), 0⟩ := by
      rw [HD.out]
      unfold rdQ
      rw [HK.out.1, HK.out.2.1, HK.out.2.2, HVI.out, HVS.out, HVU.out, HVC.out]
      skip
    rw [hq1]
    exact ⟨rfl, ER.out, EG.out⟩
  · rw [ef] at qf
    have hI : Hid (rdI xs = ([], (rd2 xs).2.1, (rd2 xs).2.2)) := by unfold rdI tkF; rw [HK.out.2.1, HK.out.2.2, eI, if_neg (by decide)]; exact rfl
    have hS : Hid (rdT xs = ([], (rdI xs).2.1, (rdI xs).2.2)) := by unfold rdT tkF; rw [HK.out.2.1, HK.out.2.2, eS, if_neg (by decide)]; exact rfl
    have hU : Hid (takeF (rdT xs).2.1 (rdT xs).2.2 8 = rdU xs) := by unfold rdU tkF; rw [HK.out.2.1, HK.out.2.2, eU, if_pos rfl]; exact rfl
    have hC : Hid (rdC xs = ([], (rdU xs).2.1, (rdU xs).2.2)) := by unfold rdC tkF; rw [HK.out.2.1, HK.out.2.2, eC, if_neg (by decide)]; exact rfl
    clear ef eI eS eU eC
    refine (qf).mono ?_
    clear qf
    rintro r v0 ⟨rfl, hg⟩
    have A0 := hide (S6.out.new hg)
    clear hg S6
    go_wp2_with fail
    refine (has_any 4 1 false (by decide) v0).mono ?_
    rintro r wx ⟨rfl, hw⟩
    obtain rfl := hw.symm
    clear hw
    have DI : Hid (RdS w v0 ⟨t, k, e, 0, 0, 0, 0⟩ R (rdI xs).2.1 (rdI xs).2.2) := by rw [hI.out]; exact A0.out
    have HVI : Hid (leV (rdI xs).1 = 0) := by rw [hI.out]; exact rfl
    clear A0
    go_wp2_with fail
    refine (has_any 4 2 false (by decide) v0).mono ?_
    rintro r wx ⟨rfl, hw⟩
    obtain rfl := hw.symm
    clear hw
    have DS : Hid (RdS w v0 ⟨t, k, e, 0, 0, 0, 0⟩ R (rdT xs).2.1 (rdT xs).2.2) := by rw [hS.out]; exact DI.out
    have HVS : Hid (leV (rdT xs).1 = 0) := by rw [hS.out]; exact rfl
    clear DI
    go_wp2_with fail
    refine (has_any 4 4 true (by decide) v0).mono ?_
    rintro r wx ⟨rfl, hw⟩
    obtain rfl := hw.symm
    clear hw
    have qr := reight_any R (rdT xs).2.1 (rdT xs).2.2 v0 DS.out.rd DS.out.byt
    rw [hU.out] at qr
    obtain ⟨VU, hv⟩ : ∃ V, leV (rdU xs).1 = V := ⟨_, rfl⟩
    rw [hv] at qr
    have WX : IntKind.i64.wrap VU = i64of VU := by have := HW.out.2.1; rw [hv] at this; exact i64_wrap this.1 this.2
    have HVU := hide hv
    clear hv
    go_wp2_with fail
    refine qr.mono ?_
    clear qr
    rintro r yU ⟨rfl, hR, hg⟩
    have BU := hide (DS.out.next hR (rdU_byt HB.out) hg)
    clear hR hg DS
    have AU := hide (BU.out.set (q' := ⟨t, k, e, 0, 0, (i64of VU), 0⟩) 5 (.int .i64 (i64of VU)) rfl)
    obtain ⟨c0, c1, c2, c3, c4, c5, c6⟩ := box7 BU.out.rq
    have f0 := free_row BU.out.rq 5
    go_upto_region 12 with fail
    generalize yU.setCell ⟨w.heap.size + 1, 5, none⟩ (.int .i64 (i64of VU)) = zU at *
    clear c0 c1 c2 c3 c4 c5 c6 f0 BU WX
    go_wp2_with fail
    refine (has_any 4 8 false (by decide) zU).mono ?_
    rintro r wx ⟨rfl, hw⟩
    obtain rfl := hw.symm
    clear hw
    have DC : Hid (RdS w zU ⟨t, k, e, 0, 0, (i64of VU), 0⟩ R (rdC xs).2.1 (rdC xs).2.2) := by rw [hC.out]; exact AU.out
    have HVC : Hid (leV (rdC xs).1 = 0) := by rw [hC.out]; exact rfl
    clear AU
    obtain ⟨c0, c1, c2, c3, c4, c5, c6⟩ := box7 DC.out.rq
    obtain ⟨u0, u1, u2, u3, u4, u5, u6⟩ := box7 DC.out.ans
    have s0 := free_row DC.out.ans 0
    have s1 := free_row DC.out.ans 1
    have s2 := free_row DC.out.ans 2
    have s3 := free_row DC.out.ans 3
    have s4 := free_row DC.out.ans 4
    have s5 := free_row DC.out.ans 5
    have s6 := free_row DC.out.ans 6
    unfold zRy at u0 u1 u2 u3 u4 u5 u6
    go_wp2
    clear c0 c1 c2 c3 c4 c5 c6 u0 u1 u2 u3 u4 u5 u6 s0 s1 s2 s3 s4 s5 s6
    obtain ⟨eb, eg⟩ := set7 DC.out.ans (.int .u32 t) (.int .i64 k) (.int .i64 e) (.int .u32 0) (.int .i64 0) (.int .i64 (i64of VU)) (.int .i64 0)
    obtain ⟨e0, e1, e2, e3, e4, e5, e6⟩ := box7 eb
    have EG := hide (grown_then DC.out.gr eg (fun j e => by cases e; exact Or.inl (Nat.le_refl _)))
    have ER := hide (DC.out.rd.kept eg (by have := DC.out.lo; simp; omega) (NoBytes.of DC.out.ans (by decide)))
    clear eb eg
    generalize (((((((zU.setCell ⟨w.heap.size, 0, none⟩ (.int .u32 t)).setCell ⟨w.heap.size, 1, none⟩ (.int .i64 k)).setCell ⟨w.heap.size, 2, none⟩ (.int .i64 e)).setCell ⟨w.heap.size, 3, none⟩ (.int .u32 0)).setCell ⟨w.heap.size, 4, none⟩ (.int .i64 0)).setCell ⟨w.heap.size, 5, none⟩ (.int .i64 (i64of VU))).setCell ⟨w.heap.size, 6, none⟩ (.int .i64 0)) = w9 at *
    refine bodyPost_ret (v := .agg #[.int .u32 t, .int .i64 k, .int .i64 e, .int .u32 0, .int .i64 0, .int .i64 (i64of VU), .int .i64 0]) ?_ rfl ?_
    · rw [results_cell1 rfl]; go_simp
    have hq1 : rdq = ⟨t, k, e, 0, 0, (i64of VU), 0⟩ := by
      rw [HD.out]
      unfold rdQ
      rw [HK.out.1, HK.out.2.1, HK.out.2.2, HVI.out, HVS.out, HVU.out, HVC.out]
      skip
    rw [hq1]
    exact ⟨rfl, ER.out, EG.out⟩
  · rw [ef] at qf
    have hI : Hid (rdI xs = ([], (rd2 xs).2.1, (rd2 xs).2.2)) := by unfold rdI tkF; rw [HK.out.2.1, HK.out.2.2, eI, if_neg (by decide)]; exact rfl
    have hS : Hid (rdT xs = ([], (rdI xs).2.1, (rdI xs).2.2)) := by unfold rdT tkF; rw [HK.out.2.1, HK.out.2.2, eS, if_neg (by decide)]; exact rfl
    have hU : Hid (rdU xs = ([], (rdT xs).2.1, (rdT xs).2.2)) := by unfold rdU tkF; rw [HK.out.2.1, HK.out.2.2, eU, if_neg (by decide)]; exact rfl
    have hC : Hid (takeF (rdU xs).2.1 (rdU xs).2.2 2 = rdC xs) := by unfold rdC tkF; rw [HK.out.2.1, HK.out.2.2, eC, if_pos rfl]; exact rfl
    clear ef eI eS eU eC
    refine (qf).mono ?_
    clear qf
    rintro r v0 ⟨rfl, hg⟩
    have A0 := hide (S6.out.new hg)
    clear hg S6
    go_wp2_with fail
    refine (has_any 8 1 false (by decide) v0).mono ?_
    rintro r wx ⟨rfl, hw⟩
    obtain rfl := hw.symm
    clear hw
    have DI : Hid (RdS w v0 ⟨t, k, e, 0, 0, 0, 0⟩ R (rdI xs).2.1 (rdI xs).2.2) := by rw [hI.out]; exact A0.out
    have HVI : Hid (leV (rdI xs).1 = 0) := by rw [hI.out]; exact rfl
    clear A0
    go_wp2_with fail
    refine (has_any 8 2 false (by decide) v0).mono ?_
    rintro r wx ⟨rfl, hw⟩
    obtain rfl := hw.symm
    clear hw
    have DS : Hid (RdS w v0 ⟨t, k, e, 0, 0, 0, 0⟩ R (rdT xs).2.1 (rdT xs).2.2) := by rw [hS.out]; exact DI.out
    have HVS : Hid (leV (rdT xs).1 = 0) := by rw [hS.out]; exact rfl
    clear DI
    go_wp2_with fail
    refine (has_any 8 4 false (by decide) v0).mono ?_
    rintro r wx ⟨rfl, hw⟩
    obtain rfl := hw.symm
    clear hw
    have DU : Hid (RdS w v0 ⟨t, k, e, 0, 0, 0, 0⟩ R (rdU xs).2.1 (rdU xs).2.2) := by rw [hU.out]; exact DS.out
    have HVU : Hid (leV (rdU xs).1 = 0) := by rw [hU.out]; exact rfl
    clear DS
    go_wp2_with fail
    refine (has_any 8 8 true (by decide) v0).mono ?_
    rintro r wx ⟨rfl, hw⟩
    obtain rfl := hw.symm
    clear hw
    have qr := rtwo_any R (rdU xs).2.1 (rdU xs).2.2 v0 DU.out.rd DU.out.byt
    rw [hC.out] at qr
    obtain ⟨VC, hv⟩ : ∃ V, leV (rdC xs).1 = V := ⟨_, rfl⟩
    rw [hv] at qr
    have WX : IntKind.i64.wrap VC = VC := by rw [IntKind.wrap_i64]; have := HW.out.2.2; rw [hv] at this; omega
    have HVC := hide hv
    clear hv
    go_wp2_with fail
    refine qr.mono ?_
    clear qr
    rintro r yC ⟨rfl, hR, hg⟩
    have BC := hide (DU.out.next hR (rdC_byt HB.out) hg)
    clear hR hg DU
    have AC := hide (BC.out.set (q' := ⟨t, k, e, 0, 0, 0, VC⟩) 6 (.int .i64 VC) rfl)
    obtain ⟨c0, c1, c2, c3, c4, c5, c6⟩ := box7 BC.out.rq
    have f0 := free_row BC.out.rq 6
    go_upto_region 14 with fail
    generalize yC.setCell ⟨w.heap.size + 1, 6, none⟩ (.int .i64 VC) = zC at *
    clear c0 c1 c2 c3 c4 c5 c6 f0 BC WX
    obtain ⟨c0, c1, c2, c3, c4, c5, c6⟩ := box7 AC.out.rq
    obtain ⟨u0, u1, u2, u3, u4, u5, u6⟩ := box7 AC.out.ans
    have s0 := free_row AC.out.ans 0
    have s1 := free_row AC.out.ans 1
    have s2 := free_row AC.out.ans 2
    have s3 := free_row AC.out.ans 3
    have s4 := free_row AC.out.ans 4
    have s5 := free_row AC.out.ans 5
    have s6 := free_row AC.out.ans 6
    unfold zRy at u0 u1 u2 u3 u4 u5 u6
    go_wp2
    clear c0 c1 c2 c3 c4 c5 c6 u0 u1 u2 u3 u4 u5 u6 s0 s1 s2 s3 s4 s5 s6
    obtain ⟨eb, eg⟩ := set7 AC.out.ans (.int .u32 t) (.int .i64 k) (.int .i64 e) (.int .u32 0) (.int .i64 0) (.int .i64 0) (.int .i64 VC)
    obtain ⟨e0, e1, e2, e3, e4, e5, e6⟩ := box7 eb
    have EG := hide (grown_then AC.out.gr eg (fun j e => by cases e; exact Or.inl (Nat.le_refl _)))
    have ER := hide (AC.out.rd.kept eg (by have := AC.out.lo; simp; omega) (NoBytes.of AC.out.ans (by decide)))
    clear eb eg
    generalize (((((((zC.setCell ⟨w.heap.size, 0, none⟩ (.int .u32 t)).setCell ⟨w.heap.size, 1, none⟩ (.int .i64 k)).setCell ⟨w.heap.size, 2, none⟩ (.int .i64 e)).setCell ⟨w.heap.size, 3, none⟩ (.int .u32 0)).setCell ⟨w.heap.size, 4, none⟩ (.int .i64 0)).setCell ⟨w.heap.size, 5, none⟩ (.int .i64 0)).setCell ⟨w.heap.size, 6, none⟩ (.int .i64 VC)) = w9 at *
    refine bodyPost_ret (v := .agg #[.int .u32 t, .int .i64 k, .int .i64 e, .int .u32 0, .int .i64 0, .int .i64 0, .int .i64 VC]) ?_ rfl ?_
    · rw [results_cell1 rfl]; go_simp
    have hq1 : rdq = ⟨t, k, e, 0, 0, 0, VC⟩ := by
      rw [HD.out]
      unfold rdQ
      rw [HK.out.1, HK.out.2.1, HK.out.2.2, HVI.out, HVS.out, HVU.out, HVC.out]
      rfl
    rw [hq1]
    exact ⟨rfl, ER.out, EG.out⟩
end Go.Proofs.YtoflohjlmagjpaaDoor
