/- replies: write, Put. -/
import Derived.Test.YtoflohjlmagjpaaDoorYb
namespace Go.Proofs.YtoflohjlmagjpaaDoor
open Go.RowKit
attribute [local go_sem ↓] Go.wp_at_zero Go.wp_at_succ
/-- The fields' bytes. -/
def Ry.tail (q : Ry) : List Int := ifB (hI q.k q.e) (leB q.i 4) ++ (ifB (hS q.k q.e) (leB q.s 2) ++ (ifB (hU q.k q.e) (leB q.u 8) ++ ifB (hC q.k q.e) (leB q.c 2)))
theorem out_tail (q : Ry) : (([] ++ leB q.t 4) ++ [q.k]) ++ leB q.e 2 ++ q.tail = q.out := by
  unfold Ry.tail Ry.out
  simp
theorem tail_of (q : Ry) {a b c d : Bool} (ha : hI q.k q.e = a) (hb : hS q.k q.e = b) (hc : hU q.k q.e = c) (hd : hC q.k q.e = d) : q.tail = ifB a (leB q.i 4) ++ (ifB b (leB q.s 2) ++ (ifB c (leB q.u 8) ++ ifB d (leB q.c 2))) := by
  subst ha hb hc hd
  rfl
/-- Inside write: the reply's box, the Writer. -/
structure WtS (w wr : World) (q : Ry) (g : Nat) (bs : List Int) : Prop where
  box : wr.heap[w.heap.size]? = some (.cells [Value.int .u32 q.t, .int .i64 q.k, .int .i64 q.e, .int .u32 q.i, .int .i64 q.s, .int .i64 q.u, .int .i64 q.c].toArray 26 (0, 0))
  wra : WrAt wr g bs
  lo : g < w.heap.size
  gr : w.grownBy wr (some g)
theorem WtS.new {w wr wr' : World} {q : Ry} {g : Nat} {bs : List Int} (h : WtS w wr q g bs) (hg : wr.grownBy wr' none) : WtS w wr' q g bs :=
  ⟨box_new h.box hg, h.wra.kept hg (by simp) (NoBlock.none _), h.lo, grown_trans h.gr (grown_none hg _)⟩
theorem WtS.next {w wr wr' : World} {q : Ry} {g : Nat} {bs bs' : List Int} (h : WtS w wr q g bs) (hW : WrAt wr' g bs') (hg : wr.grownBy wr' (some g)) : WtS w wr' q g bs' :=
  ⟨(hg.block _ (row_lt h.box) (by have := h.lo; simp; omega)).trans h.box, hW, h.lo, grown_trans h.gr hg⟩
theorem WtS.begin {w : World} {q : Ry} {g : Nat} {bs : List Int} (h : WrAt w g bs) (hl : g < w.heap.size) : WtS w (w.alloc (.cells #[.int .u32 q.t, .int .i64 q.k, .int .i64 q.e, .int .u32 q.i, .int .i64 q.s, .int .i64 q.u, .int .i64 q.c] 26)) q g bs := by
  have hg := World.grownBy_alloc w (.cells #[.int .u32 q.t, .int .i64 q.k, .int .i64 q.e, .int .u32 q.i, .int .i64 q.s, .int .i64 q.u, .int .i64 q.c] 26) none
  exact ⟨heap_alloc_new w _, h.kept hg (by simp) (NoBlock.none _), hl, grown_none hg _⟩
set_option maxRecDepth 20000 in
set_option maxHeartbeats 8000000 in
theorem write_any (g : Nat) (bs : List Int) (q : Ry) (ho : q.Ok) (hm : q.May) (w : World) (hW : WrAt w g bs) (hl : g < w.heap.size) (hT : Tab w) (hL : bs.length ≤ 1000) : Calls Tryd.prog 24 #[.pointer (some ⟨g, 0, none⟩), ryV q] w fun e w' => e = .returned (.tuple #[]) ∧ WrAt w' g (bs ++ q.tail) ∧ w.grownBy w' (some g) := by
  have S0 := hide (WtS.begin (q := q) hW hl)
  have qf := fieldsIn_any q _ (hT.new (World.grownBy_alloc w (.cells #[.int .u32 q.t, .int .i64 q.k, .int .i64 q.e, .int .u32 q.i, .int .i64 q.s, .int .i64 q.u, .int .i64 q.c] 26) none))
  obtain ⟨hk, he, hi2, ⟨hs0, hs1, hs2⟩, ⟨hu0, hu1, hu2⟩, hc0, hc1, hc2⟩ := may_nums ho hm
  have WS : IntKind.u16.wrap q.s = q.s := by rw [IntKind.wrap_u16]; omega
  have WU : IntKind.u64.wrap q.u = q.u := by rw [IntKind.wrap_u64]; omega
  have WC : IntKind.u16.wrap q.c = q.c := by rw [IntKind.wrap_u16]; omega
  have HN : Hid ((0 ≤ q.i ∧ q.i < 4294967296) ∧ (0 ≤ q.s ∧ q.s < 65536) ∧ (0 ≤ q.u ∧ q.u < 18446744073709551616) ∧ (0 ≤ q.c ∧ q.c < 65536) ∧ bs.length ≤ 1000) := ⟨⟨ho.i0, ho.i1⟩, ⟨hs0, by omega⟩, ⟨hu0, by omega⟩, ⟨hc0, by omega⟩, hL⟩
  clear hW hl hT hk he hi2 hs0 hs1 hs2 hu0 hu1 hu2 hc0 hc1 hc2 ho hm hL
  rcases fv_cases q.k q.e with ⟨ef, eI, eS, eU, eC⟩ | ⟨ef, eI, eS, eU, eC⟩ | ⟨ef, eI, eS, eU, eC⟩ | ⟨ef, eI, eS, eU, eC⟩ | ⟨ef, eI, eS, eU, eC⟩ | ⟨ef, eI, eS, eU, eC⟩
  · rw [ef] at qf
    have HE := hide (tail_of q eI eS eU eC)
    clear ef eI eS eU eC
    unfold ryV at *
    obtain ⟨c0, c1, c2, c3, c4, c5, c6⟩ := box7 S0.out.box
    go_enter Tryd.func24, Tryd.ntmps24
    go_wp2_with fail
    generalize w.alloc (.cells #[.int .u32 q.t, .int .i64 q.k, .int .i64 q.e, .int .u32 q.i, .int .i64 q.s, .int .i64 q.u, .int .i64 q.c] 26) = w1 at *
    refine qf.mono ?_
    clear qf c0 c1 c2 c3 c4 c5 c6
    rintro e w2 ⟨rfl, hg⟩
    have A0 := hide (S0.out.new hg)
    clear hg S0
    go_wp2_with fail
    refine (has_any 0 1 false (by decide) w2).mono ?_
    rintro e wx ⟨rfl, hw⟩
    obtain rfl := hw.symm
    clear hw
    go_wp2_with fail
    refine (has_any 0 2 false (by decide) w2).mono ?_
    rintro e wx ⟨rfl, hw⟩
    obtain rfl := hw.symm
    clear hw
    go_wp2_with fail
    refine (has_any 0 4 false (by decide) w2).mono ?_
    rintro e wx ⟨rfl, hw⟩
    obtain rfl := hw.symm
    clear hw
    go_wp2_with fail
    refine (has_any 0 8 false (by decide) w2).mono ?_
    rintro e wx ⟨rfl, hw⟩
    obtain rfl := hw.symm
    clear hw
    go_wp2
    go_end0
    have hz : bs = bs ++ q.tail := by rw [HE.out]; simp [ifB]
    exact ⟨rfl, by rw [← hz]; exact A0.out.wra, A0.out.gr⟩
  · rw [ef] at qf
    have HE := hide (tail_of q eI eS eU eC)
    clear ef eI eS eU eC
    unfold ryV at *
    obtain ⟨c0, c1, c2, c3, c4, c5, c6⟩ := box7 S0.out.box
    go_enter Tryd.func24, Tryd.ntmps24
    go_wp2_with fail
    generalize w.alloc (.cells #[.int .u32 q.t, .int .i64 q.k, .int .i64 q.e, .int .u32 q.i, .int .i64 q.s, .int .i64 q.u, .int .i64 q.c] 26) = w1 at *
    refine qf.mono ?_
    clear qf c0 c1 c2 c3 c4 c5 c6
    rintro e w2 ⟨rfl, hg⟩
    have A0 := hide (S0.out.new hg)
    clear hg S0
    go_wp2_with fail
    refine (has_any 5 1 true (by decide) w2).mono ?_
    rintro e wx ⟨rfl, hw⟩
    obtain rfl := hw.symm
    clear hw
    obtain ⟨c0, c1, c2, c3, c4, c5, c6⟩ := box7 A0.out.box
    go_wp2_with fail
    refine (four_any g _ q.i w2 A0.out.wra HN.out.1.1 HN.out.1.2 (by have := HN.out.2.2.2.2; omega)).mono ?_
    rintro e vI ⟨rfl, hW, hg⟩
    have AI := hide (A0.out.next hW hg)
    clear hW hg c0 c1 c2 c3 c4 c5 c6 A0
    go_wp2_with fail
    refine (has_any 5 2 false (by decide) vI).mono ?_
    rintro e wx ⟨rfl, hw⟩
    obtain rfl := hw.symm
    clear hw
    go_wp2_with fail
    refine (has_any 5 4 true (by decide) vI).mono ?_
    rintro e wx ⟨rfl, hw⟩
    obtain rfl := hw.symm
    clear hw
    obtain ⟨c0, c1, c2, c3, c4, c5, c6⟩ := box7 AI.out.box
    go_wp2_with fail
    refine (eight_any g _ q.u vI AI.out.wra HN.out.2.2.1.1 HN.out.2.2.1.2 (by have := HN.out.2.2.2.2; simp [leB_length]; omega)).mono ?_
    rintro e vU ⟨rfl, hW, hg⟩
    have AU := hide (AI.out.next hW hg)
    clear hW hg c0 c1 c2 c3 c4 c5 c6 AI
    go_wp2_with fail
    refine (has_any 5 8 false (by decide) vU).mono ?_
    rintro e wx ⟨rfl, hw⟩
    obtain rfl := hw.symm
    clear hw
    go_wp2
    go_end0
    have hz : bs ++ leB q.i 4 ++ leB q.u 8 = bs ++ q.tail := by rw [HE.out]; simp [ifB]
    exact ⟨rfl, by rw [← hz]; exact AU.out.wra, AU.out.gr⟩
  · rw [ef] at qf
    have HE := hide (tail_of q eI eS eU eC)
    clear ef eI eS eU eC
    unfold ryV at *
    obtain ⟨c0, c1, c2, c3, c4, c5, c6⟩ := box7 S0.out.box
    go_enter Tryd.func24, Tryd.ntmps24
    go_wp2_with fail
    generalize w.alloc (.cells #[.int .u32 q.t, .int .i64 q.k, .int .i64 q.e, .int .u32 q.i, .int .i64 q.s, .int .i64 q.u, .int .i64 q.c] 26) = w1 at *
    refine qf.mono ?_
    clear qf c0 c1 c2 c3 c4 c5 c6
    rintro e w2 ⟨rfl, hg⟩
    have A0 := hide (S0.out.new hg)
    clear hg S0
    go_wp2_with fail
    refine (has_any 2 1 false (by decide) w2).mono ?_
    rintro e wx ⟨rfl, hw⟩
    obtain rfl := hw.symm
    clear hw
    go_wp2_with fail
    refine (has_any 2 2 true (by decide) w2).mono ?_
    rintro e wx ⟨rfl, hw⟩
    obtain rfl := hw.symm
    clear hw
    obtain ⟨c0, c1, c2, c3, c4, c5, c6⟩ := box7 A0.out.box
    go_wp2_with fail
    refine (two_any g _ q.s w2 A0.out.wra HN.out.2.1.1 HN.out.2.1.2 (by have := HN.out.2.2.2.2; omega)).mono ?_
    rintro e vS ⟨rfl, hW, hg⟩
    have AS := hide (A0.out.next hW hg)
    clear hW hg c0 c1 c2 c3 c4 c5 c6 A0
    go_wp2_with fail
    refine (has_any 2 4 false (by decide) vS).mono ?_
    rintro e wx ⟨rfl, hw⟩
    obtain rfl := hw.symm
    clear hw
    go_wp2_with fail
    refine (has_any 2 8 false (by decide) vS).mono ?_
    rintro e wx ⟨rfl, hw⟩
    obtain rfl := hw.symm
    clear hw
    go_wp2
    go_end0
    have hz : bs ++ leB q.s 2 = bs ++ q.tail := by rw [HE.out]; simp [ifB]
    exact ⟨rfl, by rw [← hz]; exact AS.out.wra, AS.out.gr⟩
  · rw [ef] at qf
    have HE := hide (tail_of q eI eS eU eC)
    clear ef eI eS eU eC
    unfold ryV at *
    obtain ⟨c0, c1, c2, c3, c4, c5, c6⟩ := box7 S0.out.box
    go_enter Tryd.func24, Tryd.ntmps24
    go_wp2_with fail
    generalize w.alloc (.cells #[.int .u32 q.t, .int .i64 q.k, .int .i64 q.e, .int .u32 q.i, .int .i64 q.s, .int .i64 q.u, .int .i64 q.c] 26) = w1 at *
    refine qf.mono ?_
    clear qf c0 c1 c2 c3 c4 c5 c6
    rintro e w2 ⟨rfl, hg⟩
    have A0 := hide (S0.out.new hg)
    clear hg S0
    go_wp2_with fail
    refine (has_any 6 1 false (by decide) w2).mono ?_
    rintro e wx ⟨rfl, hw⟩
    obtain rfl := hw.symm
    clear hw
    go_wp2_with fail
    refine (has_any 6 2 true (by decide) w2).mono ?_
    rintro e wx ⟨rfl, hw⟩
    obtain rfl := hw.symm
    clear hw
    obtain ⟨c0, c1, c2, c3, c4, c5, c6⟩ := box7 A0.out.box
    go_wp2_with fail
    refine (two_any g _ q.s w2 A0.out.wra HN.out.2.1.1 HN.out.2.1.2 (by have := HN.out.2.2.2.2; omega)).mono ?_
    rintro e vS ⟨rfl, hW, hg⟩
    have AS := hide (A0.out.next hW hg)
    clear hW hg c0 c1 c2 c3 c4 c5 c6 A0
    go_wp2_with fail
    refine (has_any 6 4 true (by decide) vS).mono ?_
    rintro e wx ⟨rfl, hw⟩
    obtain rfl := hw.symm
    clear hw
    obtain ⟨c0, c1, c2, c3, c4, c5, c6⟩ := box7 AS.out.box
    go_wp2_with fail
    refine (eight_any g _ q.u vS AS.out.wra HN.out.2.2.1.1 HN.out.2.2.1.2 (by have := HN.out.2.2.2.2; simp [leB_length]; omega)).mono ?_
    rintro e vU ⟨rfl, hW, hg⟩
    have AU := hide (AS.out.next hW hg)
    clear hW hg c0 c1 c2 c3 c4 c5 c6 AS
    go_wp2_with fail
    refine (has_any 6 8 false (by decide) vU).mono ?_
    rintro e wx ⟨rfl, hw⟩
    obtain rfl := hw.symm
    clear hw
    go_wp2
    go_end0
    have hz : bs ++ leB q.s 2 ++ leB q.u 8 = bs ++ q.tail := by rw [HE.out]; simp [ifB]
    exact ⟨rfl, by rw [← hz]; exact AU.out.wra, AU.out.gr⟩
  · rw [ef] at qf
    have HE := hide (tail_of q eI eS eU eC)
    clear ef eI eS eU eC
    unfold ryV at *
    obtain ⟨c0, c1, c2, c3, c4, c5, c6⟩ := box7 S0.out.box
    go_enter Tryd.func24, Tryd.ntmps24
    go_wp2_with fail
    generalize w.alloc (.cells #[.int .u32 q.t, .int .i64 q.k, .int .i64 q.e, .int .u32 q.i, .int .i64 q.s, .int .i64 q.u, .int .i64 q.c] 26) = w1 at *
    refine qf.mono ?_
    clear qf c0 c1 c2 c3 c4 c5 c6
    rintro e w2 ⟨rfl, hg⟩
    have A0 := hide (S0.out.new hg)
    clear hg S0
    go_wp2_with fail
    refine (has_any 4 1 false (by decide) w2).mono ?_
    rintro e wx ⟨rfl, hw⟩
    obtain rfl := hw.symm
    clear hw
    go_wp2_with fail
    refine (has_any 4 2 false (by decide) w2).mono ?_
    rintro e wx ⟨rfl, hw⟩
    obtain rfl := hw.symm
    clear hw
    go_wp2_with fail
    refine (has_any 4 4 true (by decide) w2).mono ?_
    rintro e wx ⟨rfl, hw⟩
    obtain rfl := hw.symm
    clear hw
    obtain ⟨c0, c1, c2, c3, c4, c5, c6⟩ := box7 A0.out.box
    go_wp2_with fail
    refine (eight_any g _ q.u w2 A0.out.wra HN.out.2.2.1.1 HN.out.2.2.1.2 (by have := HN.out.2.2.2.2; omega)).mono ?_
    rintro e vU ⟨rfl, hW, hg⟩
    have AU := hide (A0.out.next hW hg)
    clear hW hg c0 c1 c2 c3 c4 c5 c6 A0
    go_wp2_with fail
    refine (has_any 4 8 false (by decide) vU).mono ?_
    rintro e wx ⟨rfl, hw⟩
    obtain rfl := hw.symm
    clear hw
    go_wp2
    go_end0
    have hz : bs ++ leB q.u 8 = bs ++ q.tail := by rw [HE.out]; simp [ifB]
    exact ⟨rfl, by rw [← hz]; exact AU.out.wra, AU.out.gr⟩
  · rw [ef] at qf
    have HE := hide (tail_of q eI eS eU eC)
    clear ef eI eS eU eC
    unfold ryV at *
    obtain ⟨c0, c1, c2, c3, c4, c5, c6⟩ := box7 S0.out.box
    go_enter Tryd.func24, Tryd.ntmps24
    go_wp2_with fail
    generalize w.alloc (.cells #[.int .u32 q.t, .int .i64 q.k, .int .i64 q.e, .int .u32 q.i, .int .i64 q.s, .int .i64 q.u, .int .i64 q.c] 26) = w1 at *
    refine qf.mono ?_
    clear qf c0 c1 c2 c3 c4 c5 c6
    rintro e w2 ⟨rfl, hg⟩
    have A0 := hide (S0.out.new hg)
    clear hg S0
    go_wp2_with fail
    refine (has_any 8 1 false (by decide) w2).mono ?_
    rintro e wx ⟨rfl, hw⟩
    obtain rfl := hw.symm
    clear hw
    go_wp2_with fail
    refine (has_any 8 2 false (by decide) w2).mono ?_
    rintro e wx ⟨rfl, hw⟩
    obtain rfl := hw.symm
    clear hw
    go_wp2_with fail
    refine (has_any 8 4 false (by decide) w2).mono ?_
    rintro e wx ⟨rfl, hw⟩
    obtain rfl := hw.symm
    clear hw
    go_wp2_with fail
    refine (has_any 8 8 true (by decide) w2).mono ?_
    rintro e wx ⟨rfl, hw⟩
    obtain rfl := hw.symm
    clear hw
    obtain ⟨c0, c1, c2, c3, c4, c5, c6⟩ := box7 A0.out.box
    go_wp2_with fail
    refine (two_any g _ q.c w2 A0.out.wra HN.out.2.2.2.1.1 HN.out.2.2.2.1.2 (by have := HN.out.2.2.2.2; omega)).mono ?_
    rintro e vC ⟨rfl, hW, hg⟩
    have AC := hide (A0.out.next hW hg)
    clear hW hg c0 c1 c2 c3 c4 c5 c6 A0
    go_wp2
    go_end0
    have hz : bs ++ leB q.c 2 = bs ++ q.tail := by rw [HE.out]; simp [ifB]
    exact ⟨rfl, by rw [← hz]; exact AC.out.wra, AC.out.gr⟩
/-- Inside Put: the reply's box, the Writer. -/
structure PtS (w wr : World) (q : Ry) (g : Nat) (bs : List Int) : Prop where
  box : wr.heap[w.heap.size]? = some (.cells [Value.int .u32 q.t, .int .i64 q.k, .int .i64 q.e, .int .u32 q.i, .int .i64 q.s, .int .i64 q.u, .int .i64 q.c].toArray 26 (0, 0))
  wra : WrAt wr g bs
  lo : w.heap.size < g
  tab : Tab wr
  t0 : 0 < w.heap.size
  gr : w.grownBy wr none
theorem PtS.next {w wr wr' : World} {q : Ry} {g : Nat} {bs bs' : List Int} (h : PtS w wr q g bs) (hW : WrAt wr' g bs') (hg : wr.grownBy wr' (some g)) : PtS w wr' q g bs' :=
  ⟨(hg.block _ (row_lt h.box) (by have := h.lo; simp; omega)).trans h.box, hW, h.lo, h.tab.grown hg (fun e => by have := h.lo; simp at e; omega), h.t0, grown_then h.gr hg (fun j e => by cases e; exact Or.inl (by have := h.lo; omega))⟩
theorem PtS.begin {w wr : World} {q : Ry} (h : CkS w wr q) (hT : Tab w) : PtS w (wr.alloc (.cells Tryd.zeroCells46 46)) q wr.heap.size [] := by
  have hg := World.grownBy_alloc wr (.cells Tryd.zeroCells46 46) none
  exact ⟨(hg.block _ (row_lt h.box) (by simp)).trans h.box, wr_zero wr, row_lt h.box, hT.new (grown_trans h.gr hg), hT.lt, grown_trans h.gr hg⟩
/-- What Put answers: nothing, or the reply's bytes in a new row. -/
def PutP (q : Ry) (w w' : World) (v : Value) : Prop := (q.May ∧ ∃ g, v = .slice (some ⟨g, 0, none⟩) (sz q.k q.e) (sz q.k q.e) ∧ w.heap.size ≤ g ∧ w'.heap[g]? = some (.cells (q.out.map (Value.int .u8)).toArray 5 (0, 0))) ∨ (¬ q.May ∧ v = .slice none 0 0)
set_option maxRecDepth 20000 in
set_option maxHeartbeats 8000000 in
theorem put_ry (q : Ry) (ho : q.Ok) (w : World) (hT : Tab w) : Calls Tryd.prog 8 #[ryV q] w fun e w' => ∃ v, e = .returned (.tuple #[v, .int .i64 (chk q)]) ∧ PutP q w w' v ∧ w.grownBy w' none := by
  have S0 := hide (CkS.begin w q)
  have qc := check_any q ho _ (hT.new S0.out.gr)
  have HT := hide hT
  clear hT
  obtain ⟨c0, c1, c2, c3, c4, c5, c6⟩ := box7 S0.out.box
  by_cases hm : q.May
  · rw [show chk q = 0 from if_pos hm] at qc ⊢
    have qw := fun g bs w1 h1 h2 h3 h4 => write_any g bs q ho hm w1 h1 h2 h3 h4
    unfold ryV at qc qw ⊢
    have hN := may_nums ho hm
    have HM := hide (And.intro hm (And.intro ho hN))
    have W0 : IntKind.u8.wrap q.k = q.k := by rw [IntKind.wrap_u8]; omega
    have W1 : IntKind.u16.wrap q.e = q.e := by rw [IntKind.wrap_u16]; omega
    clear hm ho hN
    go_enter Tryd.func8, Tryd.ntmps8
    go_wp2_with fail
    generalize w.alloc (.cells #[.int .u32 q.t, .int .i64 q.k, .int .i64 q.e, .int .u32 q.i, .int .i64 q.s, .int .i64 q.u, .int .i64 q.c] 26) = w1 at *
    refine qc.mono ?_
    clear qc
    rintro e w2 ⟨rfl, hg⟩
    have S1 := hide (S0.out.then hg)
    clear hg S0 c0 c1 c2 c3 c4 c5 c6
    have P0 := hide (PtS.begin S1.out HT.out)
    obtain ⟨c0, c1, c2, c3, c4, c5, c6⟩ := box7 P0.out.box
    go_wp2_with fail
    generalize w2.alloc (.cells Tryd.zeroCells46 46) = w3 at *
    generalize w2.heap.size = G at *
    refine (four_any G [] q.t w3 P0.out.wra HM.out.2.1.t0 HM.out.2.1.t1 (by simp)).mono ?_
    rintro e w4 ⟨rfl, hW, hg⟩
    have P1 := hide (P0.out.next hW hg)
    clear hW hg P0 c0 c1 c2 c3 c4 c5 c6
    obtain ⟨c0, c1, c2, c3, c4, c5, c6⟩ := box7 P1.out.box
    go_wp2_with fail
    refine (byte_any G _ q.k w4 P1.out.wra (by simp [leB_length])).mono ?_
    rintro e w5 ⟨rfl, hW, hg⟩
    have P2 := hide (P1.out.next hW hg)
    clear hW hg P1 c0 c1 c2 c3 c4 c5 c6
    obtain ⟨c0, c1, c2, c3, c4, c5, c6⟩ := box7 P2.out.box
    go_wp2_with fail
    refine (two_any G _ q.e w5 P2.out.wra HM.out.2.2.2.1.1 (by have := HM.out.2.2.2.1.2; omega) (by simp [leB_length])).mono ?_
    rintro e w6 ⟨rfl, hW, hg⟩
    have P3 := hide (P2.out.next hW hg)
    clear hW hg P2 c0 c1 c2 c3 c4 c5 c6
    obtain ⟨c0, c1, c2, c3, c4, c5, c6⟩ := box7 P3.out.box
    have qw := qw G _ w6 P3.out.wra P3.out.wra.lt P3.out.tab (by simp [leB_length])
    rw [out_tail] at qw
    go_wp2_with fail
    refine qw.mono ?_
    clear qw
    rintro e w7 ⟨rfl, hW, hg⟩
    have P4 := hide (P3.out.next hW hg)
    clear hW hg P3 c0 c1 c2 c3 c4 c5 c6
    have qo := out_any G q.out w7 P4.out.wra (by rw [out_length]; have := sz_le q.k q.e; omega)
    rw [out_length] at qo
    go_wp2_with fail
    refine qo.mono ?_
    clear qo
    rintro e wz ⟨rfl, hr, hg⟩
    have HZ := hide (And.intro hr (grown_trans P4.out.gr hg))
    have HL := hide P4.out.gr.size
    clear hr hg
    go_wp2
    go_ret2
    exact ⟨_, rfl, Or.inl ⟨HM.out.1, _, rfl, HL.out, HZ.out.1⟩, HZ.out.2⟩
  · rw [show chk q = 210 from if_neg hm] at qc ⊢
    unfold ryV at qc ⊢
    have HM := hide hm
    clear hm ho
    go_enter Tryd.func8, Tryd.ntmps8
    go_wp2_with fail
    generalize w.alloc (.cells #[.int .u32 q.t, .int .i64 q.k, .int .i64 q.e, .int .u32 q.i, .int .i64 q.s, .int .i64 q.u, .int .i64 q.c] 26) = w1 at *
    refine qc.mono ?_
    clear qc
    rintro e w2 ⟨rfl, hg⟩
    have S1 := hide (S0.out.then hg)
    clear hg S0 c0 c1 c2 c3 c4 c5 c6
    go_wp2
    go_ret2
    exact ⟨_, rfl, Or.inr ⟨HM.out, rfl⟩, S1.out.gr⟩
end Go.Proofs.YtoflohjlmagjpaaDoor
