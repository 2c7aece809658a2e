/- requests: what reads a part, read. -/
import Derived.Test.YtkocmlfklokngaaQd
namespace Go.Proofs.Ytkocmlfklokngaa
open Go.RowKit
attribute [local go_sem ↓] Go.wp_at_zero Go.wp_at_succ
theorem i64_wrap {n : Int} (h0 : 0 ≤ n) (h1 : n < 18446744073709551616) : IntKind.i64.wrap n = i64of n := by
  rw [IntKind.wrap_i64]; unfold i64of; split <;> omega
/-- Inside read: the answer's box, the request that is read, the Reader. -/
structure RdS (w wr : World) (q : Rq) (R : Nat) (xs : List Int) (e : Int) : Prop where
  ans : wr.heap[w.heap.size]? = some (.cells (rqC zRq).toArray 25 (0, 0))
  rq : wr.heap[w.heap.size + 1]? = some (.cells (rqC q).toArray 25 (0, 0))
  rd : RdAt wr R xs e
  byt : Byt xs
  lo : R < w.heap.size
  gr : w.grownBy wr (some R)
section
variable {w wr wr' : World} {q q' : Rq} {R : Nat} {xs xs' : List Int} {e e' : Int}
theorem RdS.new (h : RdS w wr q R xs e) (hg : wr.grownBy wr' none) : RdS w wr' q R xs e :=
  ⟨(hg.block _ (row_lt h.ans) (by simp)).trans h.ans, (hg.block _ (row_lt h.rq) (by simp)).trans h.rq, h.rd.kept hg (by simp) (NoBytes.none _), h.byt, h.lo, grown_then h.gr hg (fun _ e => by cases e)⟩
theorem RdS.next (h : RdS w wr q R xs e) (hW : RdAt wr' R xs' e') (hb : Byt xs') (hg : wr.grownBy wr' (some R)) : RdS w wr' q R xs' e' :=
  ⟨(hg.block _ (row_lt h.ans) (by have := h.lo; simp; omega)).trans h.ans, (hg.block _ (row_lt h.rq) (by have := h.lo; simp; omega)).trans h.rq, hW, hb, h.lo, grown_trans h.gr hg⟩
theorem RdS.set (h : RdS w wr q R xs e) (j : Nat) (v : Value) (hr : (rqC q).set j v = rqC q') : RdS w (wr.setCell ⟨w.heap.size + 1, j, none⟩ v) q' R xs e := by
  have hg := grown_setCell wr (w.heap.size + 1) j v
  refine ⟨(hg.block _ (row_lt h.ans) (by simp)).trans h.ans, ?_, h.rd.kept hg (by have := h.lo; simp; omega) (NoBytes.of h.rq (by decide)), h.byt, h.lo, grown_then h.gr hg (fun j e => by cases e; exact Or.inl (by omega))⟩
  have := row_setCell h.rq j v
  rw [hr] at this
  exact this
theorem RdS.put (h : RdS w wr q R xs e) (hq : wr'.heap[w.heap.size + 1]? = some (.cells (rqC q').toArray 25 (0, 0))) (hW : RdAt wr' R xs' e') (hb : Byt xs') {w2 : World} (hg : wr.grownBy w2 (some R)) (hg2 : w2.grownBy wr' (some (w.heap.size + 1))) : RdS w wr' q' R xs' e' := by
  have b1 := (hg.block _ (row_lt h.ans) (by have := h.lo; simp; omega)).trans h.ans
  exact ⟨(hg2.block _ (row_lt b1) (by simp)).trans b1, hq, hW, hb, h.lo, grown_then (grown_trans h.gr hg) hg2 (fun j e => by cases e; exact Or.inl (by omega))⟩
end
theorem RdS.begin {w : World} {R : Nat} {xs : List Int} {e : Int} (hR : RdAt w R xs e) (hb : Byt xs) : RdS w ((w.alloc (.cells #[.int .i64 0, .int .u32 0, .int .u32 0, .int .i64 0, .int .i64 0] 25)).alloc (.cells #[.int .i64 0, .int .u32 0, .int .u32 0, .int .i64 0, .int .i64 0] 25)) zRq R xs e := by
  obtain ⟨ba, bb, bg⟩ := two_boxes w (rqC zRq) (rqC zRq) 25 25
  exact ⟨ba, bb, hR.kept bg (by simp) (NoBytes.none _), hb, hR.lt, grown_none bg _⟩
theorem leV_nil : leV [] = 0 := rfl

set_option maxHeartbeats 1000000 in
theorem readI_any (R Q : Nat) (xs : List Int) (e : Int) (q : Rq) (w : World) (hR : RdAt w R xs e) (hQ : w.heap[Q]? = some (.cells (rqC q).toArray 25 (0, 0))) (hne : R ≠ Q) (hB : Byt xs) : Calls Try.prog 43 #[.pointer (some ⟨R, 0, none⟩), .pointer (some ⟨Q, 0, none⟩)] w fun r w' => r = .returned (.tuple #[]) ∧ RdAt w' R (takeF xs e 4).2.1 (takeF xs e 4).2.2 ∧ w'.heap[Q]? = some (.cells (rqC ⟨q.k, q.t, (leV (takeF xs e 4).1), q.s, q.u⟩).toArray 25 (0, 0)) ∧ ∃ w2, w.grownBy w2 (some R) ∧ w2.grownBy w' (some Q) := by
  have qr := rfour_any R xs e w hR hB
  have hv := takeF_value hB e 4
  simp only [show ((((4 : Nat)) : Int)) = 4 from rfl] at hv
  have hv : 0 ≤ leV (takeF xs e 4).1 ∧ leV (takeF xs e 4).1 < 4294967296 := ⟨hv.1, hv.2⟩
  generalize leV (takeF xs e 4).1 = V at *
  generalize (takeF xs e 4).2.1 = ys at *
  generalize (takeF xs e 4).2.2 = f at *
  have HQ := hide (And.intro hQ hne)
  clear hR hQ hB hv hne
  go_enter Try.func43, Try.ntmps43
  go_wp2_with fail
  refine qr.mono ?_
  clear qr
  rintro r w2 ⟨rfl, hR, hg⟩
  have bq := (hg.block _ (row_lt HQ.out.1) (by have := HQ.out.2; simp; omega)).trans HQ.out.1
  have bq' := bq
  unfold rqC at bq'
  obtain ⟨c0, c1, c2, c3, c4⟩ := box5 bq'
  have f2 := free_row bq' 2
  have H := hide (And.intro bq (And.intro hR hg))
  clear bq bq' hR hg
  go_wp2
  go_end0
  have hs := grown_setCell w2 Q 2 (.int .u32 (V))
  have hrow := row_setCell H.out.1 2 (.int .u32 (V))
  exact ⟨rfl, H.out.2.1.kept hs (by have := HQ.out.2; simp; omega) (NoBytes.of H.out.1 (by decide)), hrow, w2, H.out.2.2, hs⟩
set_option maxHeartbeats 1000000 in
theorem readS_any (R Q : Nat) (xs : List Int) (e : Int) (q : Rq) (w : World) (hR : RdAt w R xs e) (hQ : w.heap[Q]? = some (.cells (rqC q).toArray 25 (0, 0))) (hne : R ≠ Q) (hB : Byt xs) : Calls Try.prog 49 #[.pointer (some ⟨R, 0, none⟩), .pointer (some ⟨Q, 0, none⟩)] w fun r w' => r = .returned (.tuple #[]) ∧ RdAt w' R (takeF xs e 2).2.1 (takeF xs e 2).2.2 ∧ w'.heap[Q]? = some (.cells (rqC ⟨q.k, q.t, q.i, (leV (takeF xs e 2).1), q.u⟩).toArray 25 (0, 0)) ∧ ∃ w2, w.grownBy w2 (some R) ∧ w2.grownBy w' (some Q) := by
  have qr := rtwo_any R xs e w hR hB
  have hv := takeF_value hB e 2
  simp only [show ((((2 : Nat)) : Int)) = 2 from rfl] at hv
  have hv : 0 ≤ leV (takeF xs e 2).1 ∧ leV (takeF xs e 2).1 < 65536 := ⟨hv.1, hv.2⟩
  generalize leV (takeF xs e 2).1 = V at *
  generalize (takeF xs e 2).2.1 = ys at *
  generalize (takeF xs e 2).2.2 = f at *
  have W1 : IntKind.i64.wrap V = V := by rw [IntKind.wrap_i64]; omega
  have HQ := hide (And.intro hQ hne)
  clear hR hQ hB hv hne
  go_enter Try.func49, Try.ntmps49
  go_wp2_with fail
  refine qr.mono ?_
  clear qr
  rintro r w2 ⟨rfl, hR, hg⟩
  have bq := (hg.block _ (row_lt HQ.out.1) (by have := HQ.out.2; simp; omega)).trans HQ.out.1
  have bq' := bq
  unfold rqC at bq'
  obtain ⟨c0, c1, c2, c3, c4⟩ := box5 bq'
  have f3 := free_row bq' 3
  have H := hide (And.intro bq (And.intro hR hg))
  clear bq bq' hR hg
  go_wp2
  go_end0
  have hs := grown_setCell w2 Q 3 (.int .i64 (V))
  have hrow := row_setCell H.out.1 3 (.int .i64 (V))
  exact ⟨rfl, H.out.2.1.kept hs (by have := HQ.out.2; simp; omega) (NoBytes.of H.out.1 (by decide)), hrow, w2, H.out.2.2, hs⟩
set_option maxHeartbeats 1000000 in
theorem readL_any (R Q : Nat) (xs : List Int) (e : Int) (q : Rq) (w : World) (hR : RdAt w R xs e) (hQ : w.heap[Q]? = some (.cells (rqC q).toArray 25 (0, 0))) (hne : R ≠ Q) (hB : Byt xs) : Calls Try.prog 55 #[.pointer (some ⟨R, 0, none⟩), .pointer (some ⟨Q, 0, none⟩)] w fun r w' => r = .returned (.tuple #[]) ∧ RdAt w' R (takeF xs e 8).2.1 (takeF xs e 8).2.2 ∧ w'.heap[Q]? = some (.cells (rqC ⟨q.k, q.t, q.i, q.s, i64of (leV (takeF xs e 8).1)⟩).toArray 25 (0, 0)) ∧ ∃ w2, w.grownBy w2 (some R) ∧ w2.grownBy w' (some Q) := by
  have qr := reight_any R xs e w hR hB
  have hv := takeF_value hB e 8
  simp only [show ((((8 : Nat)) : Int)) = 8 from rfl] at hv
  have hv : 0 ≤ leV (takeF xs e 8).1 ∧ leV (takeF xs e 8).1 < 18446744073709551616 := ⟨hv.1, hv.2⟩
  generalize leV (takeF xs e 8).1 = V at *
  generalize (takeF xs e 8).2.1 = ys at *
  generalize (takeF xs e 8).2.2 = f at *
  have W1 : IntKind.i64.wrap V = i64of V := i64_wrap hv.1 hv.2
  have HQ := hide (And.intro hQ hne)
  clear hR hQ hB hv hne
  go_enter Try.func55, Try.ntmps55
  go_wp2_with fail
  refine qr.mono ?_
  clear qr
  rintro r w2 ⟨rfl, hR, hg⟩
  have bq := (hg.block _ (row_lt HQ.out.1) (by have := HQ.out.2; simp; omega)).trans HQ.out.1
  have bq' := bq
  unfold rqC at bq'
  obtain ⟨c0, c1, c2, c3, c4⟩ := box5 bq'
  have f4 := free_row bq' 4
  have H := hide (And.intro bq (And.intro hR hg))
  clear bq bq' hR hg
  go_wp2
  go_end0
  have hs := grown_setCell w2 Q 4 (.int .i64 (i64of V))
  have hrow := row_setCell H.out.1 4 (.int .i64 (i64of V))
  exact ⟨rfl, H.out.2.1.kept hs (by have := HQ.out.2; simp; omega) (NoBytes.of H.out.1 (by decide)), hrow, w2, H.out.2.2, hs⟩
/-- A part read, if a kind has it. -/
def tkF (b : Bool) (xs : List Int) (e : Int) (n : Int) : List Int × List Int × Int := if b then takeF xs e n else ([], xs, e)
/-- What read does, step by step. -/
def rd0 (xs : List Int) : List Int × List Int × Int := takeF xs 0 1
def rd1 (xs : List Int) : List Int × List Int × Int := takeF (rd0 xs).2.1 (rd0 xs).2.2 4
def rdI (xs : List Int) : List Int × List Int × Int := tkF (hI (leV (rd0 xs).1)) (rd1 xs).2.1 (rd1 xs).2.2 4
def rdT (xs : List Int) : List Int × List Int × Int := tkF (hS (leV (rd0 xs).1)) (rdI xs).2.1 (rdI xs).2.2 2
def rdL (xs : List Int) : List Int × List Int × Int := tkF (hL (leV (rd0 xs).1)) (rdT xs).2.1 (rdT xs).2.2 8
def rdQ (xs : List Int) : Rq := ⟨leV (rd0 xs).1, leV (rd1 xs).1, leV (rdI xs).1, leV (rdT xs).1, i64of (leV (rdL xs).1)⟩
theorem tkF_byt {b : Bool} {xs : List Int} (h : Byt xs) (e n : Int) : Byt (tkF b xs e n).2.1 := by
  cases b with
  | false => exact h
  | true => exact (takeF_bytes h e n).2

theorem set5 {w : World} {g : Nat} {t : TypeId} {x y z u v : Value} (h : w.heap[g]? = some (.cells [x, y, z, u, v].toArray t (0, 0))) (a b c d e : Value) :
    (((((w.setCell ⟨g, 0, none⟩ a).setCell ⟨g, 1, none⟩ b).setCell ⟨g, 2, none⟩ c).setCell ⟨g, 3, none⟩ d).setCell ⟨g, 4, none⟩ e).heap[g]? = some (.cells [a, b, c, d, e].toArray t (0, 0)) ∧ w.grownBy (((((w.setCell ⟨g, 0, none⟩ a).setCell ⟨g, 1, none⟩ b).setCell ⟨g, 2, none⟩ c).setCell ⟨g, 3, none⟩ d).setCell ⟨g, 4, none⟩ e) (some g) :=
  ⟨row_setCell (row_setCell (row_setCell (row_setCell (row_setCell h 0 a) 1 b) 2 c) 3 d) 4 e, grown_trans (grown_trans (grown_trans (grown_trans (grown_setCell w g 0 a) (grown_setCell _ g 1 b)) (grown_setCell _ g 2 c)) (grown_setCell _ g 3 d)) (grown_setCell _ g 4 e)⟩

set_option maxRecDepth 20000 in
set_option maxHeartbeats 8000000 in
theorem read_req (R : Nat) (xs : List Int) (w : World) (hR : RdAt w R xs 0) (hB : Byt xs) : Calls Try.prog 33 #[.pointer (some ⟨R, 0, none⟩)] w fun r w' => r = .returned (rqV (rdQ xs)) ∧ RdAt w' R (rdL xs).2.1 (rdL xs).2.2 ∧ w.grownBy w' (some R) := by
  have S0 := hide (RdS.begin hR hB)
  clear hR
  obtain ⟨rdq, hrdq⟩ : ∃ q, q = rdQ xs := ⟨_, rfl⟩
  obtain ⟨rdl, hrdl⟩ : ∃ q, q = rdL xs := ⟨_, rfl⟩
  rw [← hrdq, ← hrdl]
  have HD := hide (And.intro hrdq hrdl)
  clear hrdq hrdl
  have q0 := fun w1 h => rbyte_any R xs 0 w1 h hB
  have hv := takeF_value hB 0 1
  simp only [show (((1 : Nat)) : Int) = 1 from rfl] at hv
  have hv : 0 ≤ leV (takeF xs 0 1).1 ∧ leV (takeF xs 0 1).1 < 256 := ⟨hv.1, hv.2⟩
  have hb0 := (takeF_bytes hB 0 1).2
  have HA : Hid (rd0 xs = takeF xs 0 1) := rfl
  generalize takeF xs 0 1 = A at *
  obtain ⟨a1, a2, a3⟩ := A
  dsimp only at q0 hv hb0
  generalize ha : leV a1 = k at *
  have Hk := hide ha
  clear ha
  have W0 : IntKind.i64.wrap k = k := by rw [IntKind.wrap_i64]; omega
  have q1 := fun w1 h => rfour_any R a2 a3 w1 h hb0
  have hb1 := (takeF_bytes hb0 a3 4).2
  have HB1 : Hid (rd1 xs = takeF a2 a3 4) := by unfold rd1; rw [HA.out]; exact rfl
  generalize takeF a2 a3 4 = B at *
  obtain ⟨b1, b2, b3⟩ := B
  dsimp only at q1 hb1
  generalize ht : leV b1 = t at *
  have Ht := hide ht
  clear ht
  have HBy := hide (And.intro hb0 hb1)
  clear hv hb0 hb1 hB
  obtain ⟨c0, c1, c2, c3, c4⟩ := box5 S0.out.rq
  have f0 := free_row S0.out.rq 0
  unfold zRq at c0 c1 c2 c3 c4
  go_enter Try.func33, Try.ntmps33
  go_wp2_with fail
  generalize ((w.alloc (.cells #[.int .i64 0, .int .u32 0, .int .u32 0, .int .i64 0, .int .i64 0] 25)).alloc (.cells #[.int .i64 0, .int .u32 0, .int .u32 0, .int .i64 0, .int .i64 0] 25)) = m0 at *
  refine (q0 m0 S0.out.rd).mono ?_
  clear q0 c0 c1 c2 c3 c4 f0
  rintro e n0 ⟨rfl, hR, hg⟩
  have S1 := hide (S0.out.next hR HBy.out.1 hg)
  clear hR hg S0
  have S2 := hide (S1.out.set (q' := ⟨k, 0, 0, 0, 0⟩) 0 (.int .i64 k) rfl)
  obtain ⟨c0, c1, c2, c3, c4⟩ := box5 S1.out.rq
  have f0 := free_row S1.out.rq 0
  go_wp2_with fail
  generalize n0.setCell ⟨w.heap.size + 1, 0, none⟩ (.int .i64 k) = m1 at *
  refine (q1 m1 S2.out.rd).mono ?_
  clear q1 c0 c1 c2 c3 c4 f0 S1
  rintro e n1 ⟨rfl, hR, hg⟩
  have S3 := hide (S2.out.next hR HBy.out.2 hg)
  clear hR hg S2
  have S4 := hide (S3.out.set (q' := ⟨k, t, 0, 0, 0⟩) 1 (.int .u32 t) rfl)
  obtain ⟨c0, c1, c2, c3, c4⟩ := box5 S3.out.rq
  have f0 := free_row S3.out.rq 1
  go_wp2_with fail
  generalize n1.setCell ⟨w.heap.size + 1, 1, none⟩ (.int .u32 t) = m2 at *
  refine (parts_any m2).mono ?_
  rintro e w6 ⟨rfl, hg⟩
  have PX := hide (S4.out.new hg)
  clear hg S4 S3 c0 c1 c2 c3 c4 f0
  unfold partsV
  have x0 := index0
  have x1 := index1
  have x2 := index2
  have qI := hasId_any k
  have qS := hasSeat_any k
  have qL := hasTtl_any k
  obtain ⟨bI, eI⟩ : ∃ b, hI k = b := ⟨_, rfl⟩
  obtain ⟨bS, eS⟩ : ∃ b, hS k = b := ⟨_, rfl⟩
  obtain ⟨bL, eL⟩ : ∃ b, hL k = b := ⟨_, rfl⟩
  rw [eI] at qI
  rw [eS] at qS
  rw [eL] at qL
  have HE := hide (And.intro eI (And.intro eS eL))
  clear eI eS eL
  go_wp2_with fail
  refine wp_loop_rounds 4 ?_
  rw [rounds_succ]
  have TI := hide (PX.out.new (World.grownBy_alloc w6 (.cells #[.int .i64 4294967295, .func (.func 40) #[] #[], .func (.func 41) #[] #[], .func (.func 42) #[] #[], .func (.func 43) #[] #[]] 53) none))
  obtain ⟨c0, c1, c2, c3, c4⟩ := box5 TI.out.rq
  obtain ⟨d0, d1, d2, d3, d4⟩ := box5 (heap_alloc_new w6 (.cells [Value.int .i64 4294967295, .func (.func 40) #[] #[], .func (.func 41) #[] #[], .func (.func 42) #[] #[], .func (.func 43) #[] #[]].toArray 53))
  go_wp2_with fail
  generalize w6.alloc (.cells #[.int .i64 4294967295, .func (.func 40) #[] #[], .func (.func 41) #[] #[], .func (.func 42) #[] #[], .func (.func 43) #[] #[]] 53) = vI at *
  generalize w6.heap.size = XI at *
  refine (qI vI).mono ?_
  clear qI
  rintro e wx ⟨rfl, hw⟩
  obtain rfl := hw.symm
  clear hw
  cases bI with
  | false =>
    clear c0 c1 c2 c3 c4 d0 d1 d2 d3 d4
    go_wp2_with fail
    rw [rounds_succ]
    have TS := hide (TI.out.new (World.grownBy_alloc vI (.cells #[.int .i64 65535, .func (.func 45) #[] #[], .func (.func 46) #[] #[], .func (.func 47) #[] #[], .func (.func 49) #[] #[]] 53) none))
    obtain ⟨c0, c1, c2, c3, c4⟩ := box5 TS.out.rq
    obtain ⟨d0, d1, d2, d3, d4⟩ := box5 (heap_alloc_new vI (.cells [Value.int .i64 65535, .func (.func 45) #[] #[], .func (.func 46) #[] #[], .func (.func 47) #[] #[], .func (.func 49) #[] #[]].toArray 53))
    go_wp2_with fail
    generalize vI.alloc (.cells #[.int .i64 65535, .func (.func 45) #[] #[], .func (.func 46) #[] #[], .func (.func 47) #[] #[], .func (.func 49) #[] #[]] 53) = vS at *
    generalize vI.heap.size = XS at *
    refine (qS vS).mono ?_
    clear qS
    rintro e wx ⟨rfl, hw⟩
    obtain rfl := hw.symm
    clear hw
    cases bS with
    | false =>
      clear c0 c1 c2 c3 c4 d0 d1 d2 d3 d4
      go_wp2_with fail
      rw [rounds_succ]
      have TL := hide (TS.out.new (World.grownBy_alloc vS (.cells #[.int .i64 9223372036854775807, .func (.func 51) #[] #[], .func (.func 52) #[] #[], .func (.func 53) #[] #[], .func (.func 55) #[] #[]] 53) none))
      obtain ⟨c0, c1, c2, c3, c4⟩ := box5 TL.out.rq
      obtain ⟨d0, d1, d2, d3, d4⟩ := box5 (heap_alloc_new vS (.cells [Value.int .i64 9223372036854775807, .func (.func 51) #[] #[], .func (.func 52) #[] #[], .func (.func 53) #[] #[], .func (.func 55) #[] #[]].toArray 53))
      go_wp2_with fail
      generalize vS.alloc (.cells #[.int .i64 9223372036854775807, .func (.func 51) #[] #[], .func (.func 52) #[] #[], .func (.func 53) #[] #[], .func (.func 55) #[] #[]] 53) = vL at *
      generalize vS.heap.size = XL at *
      refine (qL vL).mono ?_
      clear qL
      rintro e wx ⟨rfl, hw⟩
      obtain rfl := hw.symm
      clear hw
      cases bL with
      | false =>
        clear c0 c1 c2 c3 c4 d0 d1 d2 d3 d4
        go_wp2_with fail
        rw [rounds_succ]
        obtain ⟨c0, c1, c2, c3, c4⟩ := box5 TL.out.rq
        obtain ⟨u0, u1, u2, u3, u4⟩ := box5 TL.out.ans
        have s0 := free_row TL.out.ans 0
        have s1 := free_row TL.out.ans 1
        have s2 := free_row TL.out.ans 2
        have s3 := free_row TL.out.ans 3
        have s4 := free_row TL.out.ans 4
        unfold zRq at u0 u1 u2 u3 u4
        go_wp2
        clear c0 c1 c2 c3 c4 u0 u1 u2 u3 u4 s0 s1 s2 s3 s4
        obtain ⟨eb, eg⟩ := set5 TL.out.ans (.int .i64 k) (.int .u32 t) (.int .u32 0) (.int .i64 0) (.int .i64 0)
        obtain ⟨e0, e1, e2, e3, e4⟩ := box5 eb
        have EG := hide (grown_then TL.out.gr eg (fun j e => by cases e; exact Or.inl (Nat.le_refl _)))
        have ER := hide (TL.out.rd.kept eg (by have := TL.out.lo; simp; omega) (NoBytes.of TL.out.ans (by decide)))
        clear eb eg
        generalize ((((vL.setCell ⟨w.heap.size, 0, none⟩ (.int .i64 k)).setCell ⟨w.heap.size, 1, none⟩ (.int .u32 t)).setCell ⟨w.heap.size, 2, none⟩ (.int .u32 0)).setCell ⟨w.heap.size, 3, none⟩ (.int .i64 0)).setCell ⟨w.heap.size, 4, none⟩ (.int .i64 0) = w9 at *
        refine bodyPost_ret (v := .agg #[.int .i64 k, .int .u32 t, .int .u32 0, .int .i64 0, .int .i64 0]) ?_ rfl ?_
        · rw [results_cell1 rfl]; go_simp
        have hq1 : rdq = ⟨k, t, 0, 0, 0⟩ ∧ rdl.2.1 = b2 ∧ rdl.2.2 = b3 := by
          have hI1 : rdI xs = ([], b2, b3) := by unfold rdI tkF; rw [HA.out, HB1.out, Hk.out, HE.out.1]; rfl
          have hT1 : rdT xs = ([], (rdI xs).2.1, (rdI xs).2.2) := by unfold rdT tkF; rw [HA.out, Hk.out, HE.out.2.1]; rfl
          have hL1 : rdL xs = ([], (rdT xs).2.1, (rdT xs).2.2) := by unfold rdL tkF; rw [HA.out, Hk.out, HE.out.2.2]; rfl
          have hq := HD.out.1
          unfold rdQ at hq
          rw [hL1, hT1, hI1, HA.out, HB1.out] at hq
          rw [HD.out.2, hL1, hT1, hI1]
          refine ⟨?_, rfl, rfl⟩
          rw [hq]
          dsimp only
          rw [Hk.out, Ht.out]
          rfl
        rw [hq1.1, hq1.2.1, hq1.2.2]
        exact ⟨rfl, ER.out, EG.out⟩
      | true =>
        have qr := readL_any R (w.heap.size + 1) b2 b3 ⟨k, t, 0, 0, 0⟩ vL TL.out.rd TL.out.rq (by have := TL.out.lo; omega) TL.out.byt
        have hbz := (takeF_bytes TL.out.byt b3 8).2
        obtain ⟨BL, hzL⟩ : ∃ B, B = takeF b2 b3 8 := ⟨_, rfl⟩
        rw [← hzL] at qr hbz
        have HzL := hide hzL
        clear hzL
        obtain ⟨VL, hvL⟩ : ∃ V, leV BL.1 = V := ⟨_, rfl⟩
        rw [hvL] at qr
        have HvL := hide hvL
        clear hvL
        dsimp only at qr
        go_wp2_with fail
        refine qr.mono ?_
        clear qr
        rintro e wLz ⟨rfl, hR, hq, w2, hg, hg2⟩
        have SL := hide (TL.out.put hq hR hbz hg hg2)
        clear hR hq hg hg2 hbz w2 TL c0 c1 c2 c3 c4 d0 d1 d2 d3 d4
        go_wp2_with fail
        rw [rounds_succ]
        obtain ⟨c0, c1, c2, c3, c4⟩ := box5 SL.out.rq
        obtain ⟨u0, u1, u2, u3, u4⟩ := box5 SL.out.ans
        have s0 := free_row SL.out.ans 0
        have s1 := free_row SL.out.ans 1
        have s2 := free_row SL.out.ans 2
        have s3 := free_row SL.out.ans 3
        have s4 := free_row SL.out.ans 4
        unfold zRq at u0 u1 u2 u3 u4
        go_wp2
        clear c0 c1 c2 c3 c4 u0 u1 u2 u3 u4 s0 s1 s2 s3 s4
        obtain ⟨eb, eg⟩ := set5 SL.out.ans (.int .i64 k) (.int .u32 t) (.int .u32 0) (.int .i64 0) (.int .i64 (i64of VL))
        obtain ⟨e0, e1, e2, e3, e4⟩ := box5 eb
        have EG := hide (grown_then SL.out.gr eg (fun j e => by cases e; exact Or.inl (Nat.le_refl _)))
        have ER := hide (SL.out.rd.kept eg (by have := SL.out.lo; simp; omega) (NoBytes.of SL.out.ans (by decide)))
        clear eb eg
        generalize ((((wLz.setCell ⟨w.heap.size, 0, none⟩ (.int .i64 k)).setCell ⟨w.heap.size, 1, none⟩ (.int .u32 t)).setCell ⟨w.heap.size, 2, none⟩ (.int .u32 0)).setCell ⟨w.heap.size, 3, none⟩ (.int .i64 0)).setCell ⟨w.heap.size, 4, none⟩ (.int .i64 (i64of VL)) = w9 at *
        refine bodyPost_ret (v := .agg #[.int .i64 k, .int .u32 t, .int .u32 0, .int .i64 0, .int .i64 (i64of VL)]) ?_ rfl ?_
        · rw [results_cell1 rfl]; go_simp
        have hq1 : rdq = ⟨k, t, 0, 0, (i64of VL)⟩ ∧ rdl.2.1 = BL.2.1 ∧ rdl.2.2 = BL.2.2 := by
          have hI1 : rdI xs = ([], b2, b3) := by unfold rdI tkF; rw [HA.out, HB1.out, Hk.out, HE.out.1]; rfl
          have hT1 : rdT xs = ([], (rdI xs).2.1, (rdI xs).2.2) := by unfold rdT tkF; rw [HA.out, Hk.out, HE.out.2.1]; rfl
          have hL1 : rdL xs = BL := by unfold rdL tkF; rw [HA.out, Hk.out, HE.out.2.2, hT1, hI1]; exact HzL.out.symm
          have hq := HD.out.1
          unfold rdQ at hq
          rw [hL1, hT1, hI1, HA.out, HB1.out] at hq
          rw [HD.out.2, hL1]
          refine ⟨?_, rfl, rfl⟩
          rw [hq]
          dsimp only
          rw [Hk.out, Ht.out]
          rw [HvL.out]; rfl
        rw [hq1.1, hq1.2.1, hq1.2.2]
        exact ⟨rfl, ER.out, EG.out⟩
    | true =>
      have qr := readS_any R (w.heap.size + 1) b2 b3 ⟨k, t, 0, 0, 0⟩ vS TS.out.rd TS.out.rq (by have := TS.out.lo; omega) TS.out.byt
      have hbz := (takeF_bytes TS.out.byt b3 2).2
      obtain ⟨BS, hzS⟩ : ∃ B, B = takeF b2 b3 2 := ⟨_, rfl⟩
      rw [← hzS] at qr hbz
      have HzS := hide hzS
      clear hzS
      obtain ⟨VS, hvS⟩ : ∃ V, leV BS.1 = V := ⟨_, rfl⟩
      rw [hvS] at qr
      have HvS := hide hvS
      clear hvS
      dsimp only at qr
      go_wp2_with fail
      refine qr.mono ?_
      clear qr
      rintro e wSz ⟨rfl, hR, hq, w2, hg, hg2⟩
      have SS := hide (TS.out.put hq hR hbz hg hg2)
      clear hR hq hg hg2 hbz w2 TS c0 c1 c2 c3 c4 d0 d1 d2 d3 d4
      go_wp2_with fail
      rw [rounds_succ]
      have TL := hide (SS.out.new (World.grownBy_alloc wSz (.cells #[.int .i64 9223372036854775807, .func (.func 51) #[] #[], .func (.func 52) #[] #[], .func (.func 53) #[] #[], .func (.func 55) #[] #[]] 53) none))
      obtain ⟨c0, c1, c2, c3, c4⟩ := box5 TL.out.rq
      obtain ⟨d0, d1, d2, d3, d4⟩ := box5 (heap_alloc_new wSz (.cells [Value.int .i64 9223372036854775807, .func (.func 51) #[] #[], .func (.func 52) #[] #[], .func (.func 53) #[] #[], .func (.func 55) #[] #[]].toArray 53))
      go_wp2_with fail
      generalize wSz.alloc (.cells #[.int .i64 9223372036854775807, .func (.func 51) #[] #[], .func (.func 52) #[] #[], .func (.func 53) #[] #[], .func (.func 55) #[] #[]] 53) = vL at *
      generalize wSz.heap.size = XL at *
      refine (qL vL).mono ?_
      clear qL
      rintro e wx ⟨rfl, hw⟩
      obtain rfl := hw.symm
      clear hw
      cases bL with
      | false =>
        clear c0 c1 c2 c3 c4 d0 d1 d2 d3 d4
        go_wp2_with fail
        rw [rounds_succ]
        obtain ⟨c0, c1, c2, c3, c4⟩ := box5 TL.out.rq
        obtain ⟨u0, u1, u2, u3, u4⟩ := box5 TL.out.ans
        have s0 := free_row TL.out.ans 0
        have s1 := free_row TL.out.ans 1
        have s2 := free_row TL.out.ans 2
        have s3 := free_row TL.out.ans 3
        have s4 := free_row TL.out.ans 4
        unfold zRq at u0 u1 u2 u3 u4
        go_wp2
        clear c0 c1 c2 c3 c4 u0 u1 u2 u3 u4 s0 s1 s2 s3 s4
        obtain ⟨eb, eg⟩ := set5 TL.out.ans (.int .i64 k) (.int .u32 t) (.int .u32 0) (.int .i64 VS) (.int .i64 0)
        obtain ⟨e0, e1, e2, e3, e4⟩ := box5 eb
        have EG := hide (grown_then TL.out.gr eg (fun j e => by cases e; exact Or.inl (Nat.le_refl _)))
        have ER := hide (TL.out.rd.kept eg (by have := TL.out.lo; simp; omega) (NoBytes.of TL.out.ans (by decide)))
        clear eb eg
        generalize ((((vL.setCell ⟨w.heap.size, 0, none⟩ (.int .i64 k)).setCell ⟨w.heap.size, 1, none⟩ (.int .u32 t)).setCell ⟨w.heap.size, 2, none⟩ (.int .u32 0)).setCell ⟨w.heap.size, 3, none⟩ (.int .i64 VS)).setCell ⟨w.heap.size, 4, none⟩ (.int .i64 0) = w9 at *
        refine bodyPost_ret (v := .agg #[.int .i64 k, .int .u32 t, .int .u32 0, .int .i64 VS, .int .i64 0]) ?_ rfl ?_
        · rw [results_cell1 rfl]; go_simp
        have hq1 : rdq = ⟨k, t, 0, VS, 0⟩ ∧ rdl.2.1 = BS.2.1 ∧ rdl.2.2 = BS.2.2 := by
          have hI1 : rdI xs = ([], b2, b3) := by unfold rdI tkF; rw [HA.out, HB1.out, Hk.out, HE.out.1]; rfl
          have hT1 : rdT xs = BS := by unfold rdT tkF; rw [HA.out, Hk.out, HE.out.2.1, hI1]; exact HzS.out.symm
          have hL1 : rdL xs = ([], (rdT xs).2.1, (rdT xs).2.2) := by unfold rdL tkF; rw [HA.out, Hk.out, HE.out.2.2]; rfl
          have hq := HD.out.1
          unfold rdQ at hq
          rw [hL1, hT1, hI1, HA.out, HB1.out] at hq
          rw [HD.out.2, hL1, hT1]
          refine ⟨?_, rfl, rfl⟩
          rw [hq]
          dsimp only
          rw [Hk.out, Ht.out]
          rw [HvS.out]; rfl
        rw [hq1.1, hq1.2.1, hq1.2.2]
        exact ⟨rfl, ER.out, EG.out⟩
      | true =>
        have qr := readL_any R (w.heap.size + 1) BS.2.1 BS.2.2 ⟨k, t, 0, VS, 0⟩ vL TL.out.rd TL.out.rq (by have := TL.out.lo; omega) TL.out.byt
        have hbz := (takeF_bytes TL.out.byt BS.2.2 8).2
        obtain ⟨BL, hzL⟩ : ∃ B, B = takeF BS.2.1 BS.2.2 8 := ⟨_, rfl⟩
        rw [← hzL] at qr hbz
        have HzL := hide hzL
        clear hzL
        obtain ⟨VL, hvL⟩ : ∃ V, leV BL.1 = V := ⟨_, rfl⟩
        rw [hvL] at qr
        have HvL := hide hvL
        clear hvL
        dsimp only at qr
        go_wp2_with fail
        refine qr.mono ?_
        clear qr
        rintro e wLz ⟨rfl, hR, hq, w2, hg, hg2⟩
        have SL := hide (TL.out.put hq hR hbz hg hg2)
        clear hR hq hg hg2 hbz w2 TL c0 c1 c2 c3 c4 d0 d1 d2 d3 d4
        go_wp2_with fail
        rw [rounds_succ]
        obtain ⟨c0, c1, c2, c3, c4⟩ := box5 SL.out.rq
        obtain ⟨u0, u1, u2, u3, u4⟩ := box5 SL.out.ans
        have s0 := free_row SL.out.ans 0
        have s1 := free_row SL.out.ans 1
        have s2 := free_row SL.out.ans 2
        have s3 := free_row SL.out.ans 3
        have s4 := free_row SL.out.ans 4
        unfold zRq at u0 u1 u2 u3 u4
        go_wp2
        clear c0 c1 c2 c3 c4 u0 u1 u2 u3 u4 s0 s1 s2 s3 s4
        obtain ⟨eb, eg⟩ := set5 SL.out.ans (.int .i64 k) (.int .u32 t) (.int .u32 0) (.int .i64 VS) (.int .i64 (i64of VL))
        obtain ⟨e0, e1, e2, e3, e4⟩ := box5 eb
        have EG := hide (grown_then SL.out.gr eg (fun j e => by cases e; exact Or.inl (Nat.le_refl _)))
        have ER := hide (SL.out.rd.kept eg (by have := SL.out.lo; simp; omega) (NoBytes.of SL.out.ans (by decide)))
        clear eb eg
        generalize ((((wLz.setCell ⟨w.heap.size, 0, none⟩ (.int .i64 k)).setCell ⟨w.heap.size, 1, none⟩ (.int .u32 t)).setCell ⟨w.heap.size, 2, none⟩ (.int .u32 0)).setCell ⟨w.heap.size, 3, none⟩ (.int .i64 VS)).setCell ⟨w.heap.size, 4, none⟩ (.int .i64 (i64of VL)) = w9 at *
        refine bodyPost_ret (v := .agg #[.int .i64 k, .int .u32 t, .int .u32 0, .int .i64 VS, .int .i64 (i64of VL)]) ?_ rfl ?_
        · rw [results_cell1 rfl]; go_simp
        have hq1 : rdq = ⟨k, t, 0, VS, (i64of VL)⟩ ∧ rdl.2.1 = BL.2.1 ∧ rdl.2.2 = BL.2.2 := by
          have hI1 : rdI xs = ([], b2, b3) := by unfold rdI tkF; rw [HA.out, HB1.out, Hk.out, HE.out.1]; rfl
          have hT1 : rdT xs = BS := by unfold rdT tkF; rw [HA.out, Hk.out, HE.out.2.1, hI1]; exact HzS.out.symm
          have hL1 : rdL xs = BL := by unfold rdL tkF; rw [HA.out, Hk.out, HE.out.2.2, hT1]; exact HzL.out.symm
          have hq := HD.out.1
          unfold rdQ at hq
          rw [hL1, hT1, hI1, HA.out, HB1.out] at hq
          rw [HD.out.2, hL1]
          refine ⟨?_, rfl, rfl⟩
          rw [hq]
          dsimp only
          rw [Hk.out, Ht.out]
          rw [HvS.out]; rw [HvL.out]; rfl
        rw [hq1.1, hq1.2.1, hq1.2.2]
        exact ⟨rfl, ER.out, EG.out⟩
  | true =>
    have qr := readI_any R (w.heap.size + 1) b2 b3 ⟨k, t, 0, 0, 0⟩ vI TI.out.rd TI.out.rq (by have := TI.out.lo; omega) TI.out.byt
    have hbz := (takeF_bytes TI.out.byt b3 4).2
    obtain ⟨BI, hzI⟩ : ∃ B, B = takeF b2 b3 4 := ⟨_, rfl⟩
    rw [← hzI] at qr hbz
    have HzI := hide hzI
    clear hzI
    obtain ⟨VI, hvI⟩ : ∃ V, leV BI.1 = V := ⟨_, rfl⟩
    rw [hvI] at qr
    have HvI := hide hvI
    clear hvI
    dsimp only at qr
    go_wp2_with fail
    refine qr.mono ?_
    clear qr
    rintro e wIz ⟨rfl, hR, hq, w2, hg, hg2⟩
    have SI := hide (TI.out.put hq hR hbz hg hg2)
    clear hR hq hg hg2 hbz w2 TI c0 c1 c2 c3 c4 d0 d1 d2 d3 d4
    go_wp2_with fail
    rw [rounds_succ]
    have TS := hide (SI.out.new (World.grownBy_alloc wIz (.cells #[.int .i64 65535, .func (.func 45) #[] #[], .func (.func 46) #[] #[], .func (.func 47) #[] #[], .func (.func 49) #[] #[]] 53) none))
    obtain ⟨c0, c1, c2, c3, c4⟩ := box5 TS.out.rq
    obtain ⟨d0, d1, d2, d3, d4⟩ := box5 (heap_alloc_new wIz (.cells [Value.int .i64 65535, .func (.func 45) #[] #[], .func (.func 46) #[] #[], .func (.func 47) #[] #[], .func (.func 49) #[] #[]].toArray 53))
    go_wp2_with fail
    generalize wIz.alloc (.cells #[.int .i64 65535, .func (.func 45) #[] #[], .func (.func 46) #[] #[], .func (.func 47) #[] #[], .func (.func 49) #[] #[]] 53) = vS at *
    generalize wIz.heap.size = XS at *
    refine (qS vS).mono ?_
    clear qS
    rintro e wx ⟨rfl, hw⟩
    obtain rfl := hw.symm
    clear hw
    cases bS with
    | false =>
      clear c0 c1 c2 c3 c4 d0 d1 d2 d3 d4
      go_wp2_with fail
      rw [rounds_succ]
      have TL := hide (TS.out.new (World.grownBy_alloc vS (.cells #[.int .i64 9223372036854775807, .func (.func 51) #[] #[], .func (.func 52) #[] #[], .func (.func 53) #[] #[], .func (.func 55) #[] #[]] 53) none))
      obtain ⟨c0, c1, c2, c3, c4⟩ := box5 TL.out.rq
      obtain ⟨d0, d1, d2, d3, d4⟩ := box5 (heap_alloc_new vS (.cells [Value.int .i64 9223372036854775807, .func (.func 51) #[] #[], .func (.func 52) #[] #[], .func (.func 53) #[] #[], .func (.func 55) #[] #[]].toArray 53))
      go_wp2_with fail
      generalize vS.alloc (.cells #[.int .i64 9223372036854775807, .func (.func 51) #[] #[], .func (.func 52) #[] #[], .func (.func 53) #[] #[], .func (.func 55) #[] #[]] 53) = vL at *
      generalize vS.heap.size = XL at *
      refine (qL vL).mono ?_
      clear qL
      rintro e wx ⟨rfl, hw⟩
      obtain rfl := hw.symm
      clear hw
      cases bL with
      | false =>
        clear c0 c1 c2 c3 c4 d0 d1 d2 d3 d4
        go_wp2_with fail
        rw [rounds_succ]
        obtain ⟨c0, c1, c2, c3, c4⟩ := box5 TL.out.rq
        obtain ⟨u0, u1, u2, u3, u4⟩ := box5 TL.out.ans
        have s0 := free_row TL.out.ans 0
        have s1 := free_row TL.out.ans 1
        have s2 := free_row TL.out.ans 2
        have s3 := free_row TL.out.ans 3
        have s4 := free_row TL.out.ans 4
        unfold zRq at u0 u1 u2 u3 u4
        go_wp2
        clear c0 c1 c2 c3 c4 u0 u1 u2 u3 u4 s0 s1 s2 s3 s4
        obtain ⟨eb, eg⟩ := set5 TL.out.ans (.int .i64 k) (.int .u32 t) (.int .u32 VI) (.int .i64 0) (.int .i64 0)
        obtain ⟨e0, e1, e2, e3, e4⟩ := box5 eb
        have EG := hide (grown_then TL.out.gr eg (fun j e => by cases e; exact Or.inl (Nat.le_refl _)))
        have ER := hide (TL.out.rd.kept eg (by have := TL.out.lo; simp; omega) (NoBytes.of TL.out.ans (by decide)))
        clear eb eg
        generalize ((((vL.setCell ⟨w.heap.size, 0, none⟩ (.int .i64 k)).setCell ⟨w.heap.size, 1, none⟩ (.int .u32 t)).setCell ⟨w.heap.size, 2, none⟩ (.int .u32 VI)).setCell ⟨w.heap.size, 3, none⟩ (.int .i64 0)).setCell ⟨w.heap.size, 4, none⟩ (.int .i64 0) = w9 at *
        refine bodyPost_ret (v := .agg #[.int .i64 k, .int .u32 t, .int .u32 VI, .int .i64 0, .int .i64 0]) ?_ rfl ?_
        · rw [results_cell1 rfl]; go_simp
        have hq1 : rdq = ⟨k, t, VI, 0, 0⟩ ∧ rdl.2.1 = BI.2.1 ∧ rdl.2.2 = BI.2.2 := by
          have hI1 : rdI xs = BI := by unfold rdI tkF; rw [HA.out, HB1.out, Hk.out, HE.out.1]; exact HzI.out.symm
          have hT1 : rdT xs = ([], (rdI xs).2.1, (rdI xs).2.2) := by unfold rdT tkF; rw [HA.out, Hk.out, HE.out.2.1]; rfl
          have hL1 : rdL xs = ([], (rdT xs).2.1, (rdT xs).2.2) := by unfold rdL tkF; rw [HA.out, Hk.out, HE.out.2.2]; rfl
          have hq := HD.out.1
          unfold rdQ at hq
          rw [hL1, hT1, hI1, HA.out, HB1.out] at hq
          rw [HD.out.2, hL1, hT1, hI1]
          refine ⟨?_, rfl, rfl⟩
          rw [hq]
          dsimp only
          rw [Hk.out, Ht.out]
          rw [HvI.out]; rfl
        rw [hq1.1, hq1.2.1, hq1.2.2]
        exact ⟨rfl, ER.out, EG.out⟩
      | true =>
        have qr := readL_any R (w.heap.size + 1) BI.2.1 BI.2.2 ⟨k, t, VI, 0, 0⟩ vL TL.out.rd TL.out.rq (by have := TL.out.lo; omega) TL.out.byt
        have hbz := (takeF_bytes TL.out.byt BI.2.2 8).2
        obtain ⟨BL, hzL⟩ : ∃ B, B = takeF BI.2.1 BI.2.2 8 := ⟨_, rfl⟩
        rw [← hzL] at qr hbz
        have HzL := hide hzL
        clear hzL
        obtain ⟨VL, hvL⟩ : ∃ V, leV BL.1 = V := ⟨_, rfl⟩
        rw [hvL] at qr
        have HvL := hide hvL
        clear hvL
        dsimp only at qr
        go_wp2_with fail
        refine qr.mono ?_
        clear qr
        rintro e wLz ⟨rfl, hR, hq, w2, hg, hg2⟩
        have SL := hide (TL.out.put hq hR hbz hg hg2)
        clear hR hq hg hg2 hbz w2 TL c0 c1 c2 c3 c4 d0 d1 d2 d3 d4
        go_wp2_with fail
        rw [rounds_succ]
        obtain ⟨c0, c1, c2, c3, c4⟩ := box5 SL.out.rq
        obtain ⟨u0, u1, u2, u3, u4⟩ := box5 SL.out.ans
        have s0 := free_row SL.out.ans 0
        have s1 := free_row SL.out.ans 1
        have s2 := free_row SL.out.ans 2
        have s3 := free_row SL.out.ans 3
        have s4 := free_row SL.out.ans 4
        unfold zRq at u0 u1 u2 u3 u4
        go_wp2
        clear c0 c1 c2 c3 c4 u0 u1 u2 u3 u4 s0 s1 s2 s3 s4
        obtain ⟨eb, eg⟩ := set5 SL.out.ans (.int .i64 k) (.int .u32 t) (.int .u32 VI) (.int .i64 0) (.int .i64 (i64of VL))
        obtain ⟨e0, e1, e2, e3, e4⟩ := box5 eb
        have EG := hide (grown_then SL.out.gr eg (fun j e => by cases e; exact Or.inl (Nat.le_refl _)))
        have ER := hide (SL.out.rd.kept eg (by have := SL.out.lo; simp; omega) (NoBytes.of SL.out.ans (by decide)))
        clear eb eg
        generalize ((((wLz.setCell ⟨w.heap.size, 0, none⟩ (.int .i64 k)).setCell ⟨w.heap.size, 1, none⟩ (.int .u32 t)).setCell ⟨w.heap.size, 2, none⟩ (.int .u32 VI)).setCell ⟨w.heap.size, 3, none⟩ (.int .i64 0)).setCell ⟨w.heap.size, 4, none⟩ (.int .i64 (i64of VL)) = w9 at *
        refine bodyPost_ret (v := .agg #[.int .i64 k, .int .u32 t, .int .u32 VI, .int .i64 0, .int .i64 (i64of VL)]) ?_ rfl ?_
        · rw [results_cell1 rfl]; go_simp
        have hq1 : rdq = ⟨k, t, VI, 0, (i64of VL)⟩ ∧ rdl.2.1 = BL.2.1 ∧ rdl.2.2 = BL.2.2 := by
          have hI1 : rdI xs = BI := by unfold rdI tkF; rw [HA.out, HB1.out, Hk.out, HE.out.1]; exact HzI.out.symm
          have hT1 : rdT xs = ([], (rdI xs).2.1, (rdI xs).2.2) := by unfold rdT tkF; rw [HA.out, Hk.out, HE.out.2.1]; rfl
          have hL1 : rdL xs = BL := by unfold rdL tkF; rw [HA.out, Hk.out, HE.out.2.2, hT1, hI1]; exact HzL.out.symm
          have hq := HD.out.1
          unfold rdQ at hq
          rw [hL1, hT1, hI1, HA.out, HB1.out] at hq
          rw [HD.out.2, hL1]
          refine ⟨?_, rfl, rfl⟩
          rw [hq]
          dsimp only
          rw [Hk.out, Ht.out]
          rw [HvI.out]; rw [HvL.out]; rfl
        rw [hq1.1, hq1.2.1, hq1.2.2]
        exact ⟨rfl, ER.out, EG.out⟩
    | true =>
      have qr := readS_any R (w.heap.size + 1) BI.2.1 BI.2.2 ⟨k, t, VI, 0, 0⟩ vS TS.out.rd TS.out.rq (by have := TS.out.lo; omega) TS.out.byt
      have hbz := (takeF_bytes TS.out.byt BI.2.2 2).2
      obtain ⟨BS, hzS⟩ : ∃ B, B = takeF BI.2.1 BI.2.2 2 := ⟨_, rfl⟩
      rw [← hzS] at qr hbz
      have HzS := hide hzS
      clear hzS
      obtain ⟨VS, hvS⟩ : ∃ V, leV BS.1 = V := ⟨_, rfl⟩
      rw [hvS] at qr
      have HvS := hide hvS
      clear hvS
      dsimp only at qr
      go_wp2_with fail
      refine qr.mono ?_
      clear qr
      rintro e wSz ⟨rfl, hR, hq, w2, hg, hg2⟩
      have SS := hide (TS.out.put hq hR hbz hg hg2)
      clear hR hq hg hg2 hbz w2 TS c0 c1 c2 c3 c4 d0 d1 d2 d3 d4
      go_wp2_with fail
      rw [rounds_succ]
      have TL := hide (SS.out.new (World.grownBy_alloc wSz (.cells #[.int .i64 9223372036854775807, .func (.func 51) #[] #[], .func (.func 52) #[] #[], .func (.func 53) #[] #[], .func (.func 55) #[] #[]] 53) none))
      obtain ⟨c0, c1, c2, c3, c4⟩ := box5 TL.out.rq
      obtain ⟨d0, d1, d2, d3, d4⟩ := box5 (heap_alloc_new wSz (.cells [Value.int .i64 9223372036854775807, .func (.func 51) #[] #[], .func (.func 52) #[] #[], .func (.func 53) #[] #[], .func (.func 55) #[] #[]].toArray 53))
      go_wp2_with fail
      generalize wSz.alloc (.cells #[.int .i64 9223372036854775807, .func (.func 51) #[] #[], .func (.func 52) #[] #[], .func (.func 53) #[] #[], .func (.func 55) #[] #[]] 53) = vL at *
      generalize wSz.heap.size = XL at *
      refine (qL vL).mono ?_
      clear qL
      rintro e wx ⟨rfl, hw⟩
      obtain rfl := hw.symm
      clear hw
      cases bL with
      | false =>
        clear c0 c1 c2 c3 c4 d0 d1 d2 d3 d4
        go_wp2_with fail
        rw [rounds_succ]
        obtain ⟨c0, c1, c2, c3, c4⟩ := box5 TL.out.rq
        obtain ⟨u0, u1, u2, u3, u4⟩ := box5 TL.out.ans
        have s0 := free_row TL.out.ans 0
        have s1 := free_row TL.out.ans 1
        have s2 := free_row TL.out.ans 2
        have s3 := free_row TL.out.ans 3
        have s4 := free_row TL.out.ans 4
        unfold zRq at u0 u1 u2 u3 u4
        go_wp2
        clear c0 c1 c2 c3 c4 u0 u1 u2 u3 u4 s0 s1 s2 s3 s4
        obtain ⟨eb, eg⟩ := set5 TL.out.ans (.int .i64 k) (.int .u32 t) (.int .u32 VI) (.int .i64 VS) (.int .i64 0)
        obtain ⟨e0, e1, e2, e3, e4⟩ := box5 eb
        have EG := hide (grown_then TL.out.gr eg (fun j e => by cases e; exact Or.inl (Nat.le_refl _)))
        have ER := hide (TL.out.rd.kept eg (by have := TL.out.lo; simp; omega) (NoBytes.of TL.out.ans (by decide)))
        clear eb eg
        generalize ((((vL.setCell ⟨w.heap.size, 0, none⟩ (.int .i64 k)).setCell ⟨w.heap.size, 1, none⟩ (.int .u32 t)).setCell ⟨w.heap.size, 2, none⟩ (.int .u32 VI)).setCell ⟨w.heap.size, 3, none⟩ (.int .i64 VS)).setCell ⟨w.heap.size, 4, none⟩ (.int .i64 0) = w9 at *
        refine bodyPost_ret (v := .agg #[.int .i64 k, .int .u32 t, .int .u32 VI, .int .i64 VS, .int .i64 0]) ?_ rfl ?_
        · rw [results_cell1 rfl]; go_simp
        have hq1 : rdq = ⟨k, t, VI, VS, 0⟩ ∧ rdl.2.1 = BS.2.1 ∧ rdl.2.2 = BS.2.2 := by
          have hI1 : rdI xs = BI := by unfold rdI tkF; rw [HA.out, HB1.out, Hk.out, HE.out.1]; exact HzI.out.symm
          have hT1 : rdT xs = BS := by unfold rdT tkF; rw [HA.out, Hk.out, HE.out.2.1, hI1]; exact HzS.out.symm
          have hL1 : rdL xs = ([], (rdT xs).2.1, (rdT xs).2.2) := by unfold rdL tkF; rw [HA.out, Hk.out, HE.out.2.2]; rfl
          have hq := HD.out.1
          unfold rdQ at hq
          rw [hL1, hT1, hI1, HA.out, HB1.out] at hq
          rw [HD.out.2, hL1, hT1]
          refine ⟨?_, rfl, rfl⟩
          rw [hq]
          dsimp only
          rw [Hk.out, Ht.out]
          rw [HvI.out]; rw [HvS.out]; rfl
        rw [hq1.1, hq1.2.1, hq1.2.2]
        exact ⟨rfl, ER.out, EG.out⟩
      | true =>
        have qr := readL_any R (w.heap.size + 1) BS.2.1 BS.2.2 ⟨k, t, VI, VS, 0⟩ vL TL.out.rd TL.out.rq (by have := TL.out.lo; omega) TL.out.byt
        have hbz := (takeF_bytes TL.out.byt BS.2.2 8).2
        obtain ⟨BL, hzL⟩ : ∃ B, B = takeF BS.2.1 BS.2.2 8 := ⟨_, rfl⟩
        rw [← hzL] at qr hbz
        have HzL := hide hzL
        clear hzL
        obtain ⟨VL, hvL⟩ : ∃ V, leV BL.1 = V := ⟨_, rfl⟩
        rw [hvL] at qr
        have HvL := hide hvL
        clear hvL
        dsimp only at qr
        go_wp2_with fail
        refine qr.mono ?_
        clear qr
        rintro e wLz ⟨rfl, hR, hq, w2, hg, hg2⟩
        have SL := hide (TL.out.put hq hR hbz hg hg2)
        clear hR hq hg hg2 hbz w2 TL c0 c1 c2 c3 c4 d0 d1 d2 d3 d4
        go_wp2_with fail
        rw [rounds_succ]
        obtain ⟨c0, c1, c2, c3, c4⟩ := box5 SL.out.rq
        obtain ⟨u0, u1, u2, u3, u4⟩ := box5 SL.out.ans
        have s0 := free_row SL.out.ans 0
        have s1 := free_row SL.out.ans 1
        have s2 := free_row SL.out.ans 2
        have s3 := free_row SL.out.ans 3
        have s4 := free_row SL.out.ans 4
        unfold zRq at u0 u1 u2 u3 u4
        go_wp2
        clear c0 c1 c2 c3 c4 u0 u1 u2 u3 u4 s0 s1 s2 s3 s4
        obtain ⟨eb, eg⟩ := set5 SL.out.ans (.int .i64 k) (.int .u32 t) (.int .u32 VI) (.int .i64 VS) (.int .i64 (i64of VL))
        obtain ⟨e0, e1, e2, e3, e4⟩ := box5 eb
        have EG := hide (grown_then SL.out.gr eg (fun j e => by cases e; exact Or.inl (Nat.le_refl _)))
        have ER := hide (SL.out.rd.kept eg (by have := SL.out.lo; simp; omega) (NoBytes.of SL.out.ans (by decide)))
        clear eb eg
        generalize ((((wLz.setCell ⟨w.heap.size, 0, none⟩ (.int .i64 k)).setCell ⟨w.heap.size, 1, none⟩ (.int .u32 t)).setCell ⟨w.heap.size, 2, none⟩ (.int .u32 VI)).setCell ⟨w.heap.size, 3, none⟩ (.int .i64 VS)).setCell ⟨w.heap.size, 4, none⟩ (.int .i64 (i64of VL)) = w9 at *
        refine bodyPost_ret (v := .agg #[.int .i64 k, .int .u32 t, .int .u32 VI, .int .i64 VS, .int .i64 (i64of VL)]) ?_ rfl ?_
        · rw [results_cell1 rfl]; go_simp
        have hq1 : rdq = ⟨k, t, VI, VS, (i64of VL)⟩ ∧ rdl.2.1 = BL.2.1 ∧ rdl.2.2 = BL.2.2 := by
          have hI1 : rdI xs = BI := by unfold rdI tkF; rw [HA.out, HB1.out, Hk.out, HE.out.1]; exact HzI.out.symm
          have hT1 : rdT xs = BS := by unfold rdT tkF; rw [HA.out, Hk.out, HE.out.2.1, hI1]; exact HzS.out.symm
          have hL1 : rdL xs = BL := by unfold rdL tkF; rw [HA.out, Hk.out, HE.out.2.2, hT1]; exact HzL.out.symm
          have hq := HD.out.1
          unfold rdQ at hq
          rw [hL1, hT1, hI1, HA.out, HB1.out] at hq
          rw [HD.out.2, hL1]
          refine ⟨?_, rfl, rfl⟩
          rw [hq]
          dsimp only
          rw [Hk.out, Ht.out]
          rw [HvI.out]; rw [HvS.out]; rw [HvL.out]; skip
        rw [hq1.1, hq1.2.1, hq1.2.2]
        exact ⟨rfl, ER.out, EG.out⟩
end Go.Proofs.Ytkocmlfklokngaa
