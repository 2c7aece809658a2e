/- BitsPlays: two sets and the document's two, in two rows; what a call and an exchange leave of them. -/
import Derived.Test.YtajdgkbeenalkaaDoorTwo
import Derived.Test.YtajdgkbeenalkaaDoorIs
import Derived.Test.YtajdgkbeenalkaaDoorRef6
namespace Go.Proofs.YtajdgkbeenalkaaDoor
open Go.RowKit Go.Shelf
attribute [local go_sem ↓] Go.wp_at_zero Go.wp_at_succ

/-- What a call leaves of the set. -/
def oneF (L : List Bool) (Do I : Int) : List Bool := if Do % 11 = 0 then putF L I else if Do % 11 = 1 then setF true L I false else L
theorem oneF_length (L : List Bool) (Do I : Int) : (oneF L Do I).length = L.length := by
  unfold oneF
  split
  · exact putF_length L I
  · split
    · exact setF_length _ _ _ _
    · rfl

theorem one_any (b g d r : Nat) (L : List Bool) (Do On I : Int) (w : World) (h : Both w b g d r L) (hgr : g ≠ r) (hbr : b ≠ r) (hgd : g ≠ d) (hr0 : r ≠ 0) (hrl : r < w.heap.size) :
    Calls Tryd.prog 13 #[.pointer (some ⟨b, 0, none⟩), .pointer (some ⟨d, 0, none⟩), .agg #[.int .i64 Do, .int .i64 On, .int .i64 I]] w fun e w' => e = .returned (.bool true) ∧ Both w' b g d r (oneF L Do I) ∧ Grown2 w w' g r := by
  by_cases h0 : Do % 11 = 0
  · unfold oneF
    rw [if_pos h0]
    exact one_put b g d r L Do On I w h hgr hbr hgd hr0 hrl h0
  · by_cases h1 : Do % 11 = 1
    · unfold oneF
      rw [if_neg h0, if_pos h1]
      exact one_drop b g d r L Do On I w h hgr hbr hgd hr0 hrl h1
    · refine (one_asks b g d r L Do On I w h h0 h1).mono ?_
      rintro e w' ⟨rfl, hg⟩
      unfold oneF
      rw [if_neg h0, if_neg h1]
      exact ⟨rfl, h.kept hg, Grown2.none hg _ _⟩

/-- Block k holds cells of type t. -/
def Ty (w : World) (k : Nat) (t : TypeId) : Prop := ∃ c, w.heap[k]? = some (.cells c t (0, 0))
theorem Ty.ne {w : World} {a b : Nat} {s t : TypeId} (h : Ty w a s) (k : Ty w b t) (hst : s ≠ t) : a ≠ b := by
  rintro rfl
  obtain ⟨c, h⟩ := h
  obtain ⟨c', k⟩ := k
  rw [h] at k
  simp at k
  exact hst k.2
theorem Ty.lt {w : World} {a : Nat} {s : TypeId} (h : Ty w a s) : a < w.heap.size := by obtain ⟨c, h⟩ := h; exact row_lt h

/-- A set and the document's, both L; the document's bools lie in block r. -/
structure Pair (w : World) (b g d r : Nat) (L : List Bool) : Prop where
  both : Both w b g d r L
  lies : ∃ v cap, w.heap[d]? = some (.cells #[v, .slice (some ⟨r, 0, none⟩) L.length cap] 33 (0, 0))
theorem Pair.tb {w : World} {b g d r : Nat} {L : List Bool} (h : Pair w b g d r L) : Ty w b 55 := by obtain ⟨W, cap, cur, h1, h2, h3⟩ := h.both.set; exact ⟨_, h1⟩
theorem Pair.tg {w : World} {b g d r : Nat} {L : List Bool} (h : Pair w b g d r L) : Ty w g 78 := by obtain ⟨W, cap, cur, h1, h2, h3⟩ := h.both.set; exact ⟨_, h2⟩
theorem Pair.td {w : World} {b g d r : Nat} {L : List Bool} (h : Pair w b g d r L) : Ty w d 33 := by obtain ⟨v, cap, h1⟩ := h.lies; exact ⟨_, h1⟩
theorem Pair.tr {w : World} {b g d r : Nat} {L : List Bool} (h : Pair w b g d r L) : Ty w r 4 := by
  obtain ⟨v, cap, h1⟩ := h.lies
  obtain ⟨ao, cap', k1, k2, k3⟩ := h.both.ref
  rw [h1] at k1
  simp at k1
  rcases k3 with ⟨k4, _⟩ | ⟨cur, k4, k5, _⟩
  · rw [← k1.2.1] at k4; cases k4
  · exact ⟨_, k5⟩
theorem Pair.g0 {w : World} {b g d r : Nat} {L : List Bool} (h : Pair w b g d r L) : g ≠ 0 := by obtain ⟨_, _, _, _, _, _, _, _, _, _, h0⟩ := h.both.set; omega
theorem Pair.kept {w w' : World} {b g d r : Nat} {L : List Bool} (h : Pair w b g d r L) (hg : w.grownBy w' none) : Pair w' b g d r L := by
  refine ⟨h.both.kept hg, ?_⟩
  obtain ⟨v, cap, h1⟩ := h.lies
  exact ⟨v, cap, (hg.block d (row_lt h1) (by simp)).trans h1⟩
/-- Behind writes of blocks g' and r' of another pair. -/
theorem Pair.far {w w' : World} {b g d r g' r' : Nat} {L : List Bool} (h : Pair w b g d r L) (hG : Grown2 w w' g' r') (hg : Ty w g' 78) (hr : Ty w r' 4) (hgg : g ≠ g') (hrr : r ≠ r') (hT : Tab w') : Pair w' b g d r L := by
  have tb := h.tb
  have tg := h.tg
  have td := h.td
  have tr := h.tr
  have kb := hG.block b tb.lt (tb.ne hg (by decide)) (tb.ne hr (by decide))
  have kg := hG.block g tg.lt hgg (tg.ne hr (by decide))
  have kd := hG.block d td.lt (td.ne hg (by decide)) (td.ne hr (by decide))
  have kr := hG.block r tr.lt (tr.ne hg (by decide)) hrr
  obtain ⟨⟨W, cap, cur, h1, h2, h3⟩, ⟨ao, cap', k1, k2, k3⟩, _⟩ := h.both
  refine ⟨⟨⟨W, cap, cur, kb.trans h1, kg.trans h2, h3⟩, ⟨ao, cap', kd.trans k1, k2, ?_⟩, hT⟩, ?_⟩
  · rcases k3 with k3 | ⟨cur, k4, k5, k6⟩
    · exact Or.inl k3
    · exact Or.inr ⟨cur, k4, kr.trans k5, k6⟩
  · obtain ⟨v, cap, h1⟩ := h.lies
    exact ⟨v, cap, kd.trans h1⟩

/-- Behind writes of the two rows. -/
theorem Pair.rows {w w' : World} {b g d r X Y : Nat} {L : List Bool} (h : Pair w b g d r L) (hG : Grown2 w w' X Y) (hX : Ty w X 24) (hY : Ty w Y 28) (hT : Tab w') : Pair w' b g d r L := by
  have tb := h.tb
  have tg := h.tg
  have td := h.td
  have tr := h.tr
  have kb := hG.block b tb.lt (tb.ne hX (by decide)) (tb.ne hY (by decide))
  have kg := hG.block g tg.lt (tg.ne hX (by decide)) (tg.ne hY (by decide))
  have kd := hG.block d td.lt (td.ne hX (by decide)) (td.ne hY (by decide))
  have kr := hG.block r tr.lt (tr.ne hX (by decide)) (tr.ne hY (by decide))
  obtain ⟨⟨W, cap, cur, h1, h2, h3⟩, ⟨ao, cap', k1, k2, k3⟩, _⟩ := h.both
  refine ⟨⟨⟨W, cap, cur, kb.trans h1, kg.trans h2, h3⟩, ⟨ao, cap', kd.trans k1, k2, ?_⟩, hT⟩, ?_⟩
  · rcases k3 with k3 | ⟨cur, k4, k5, k6⟩
    · exact Or.inl k3
    · exact Or.inr ⟨cur, k4, kr.trans k5, k6⟩
  · obtain ⟨v, cap, h1⟩ := h.lies
    exact ⟨v, cap, kd.trans h1⟩

/-- The two rows, the pairs that they hold, and what is new since w0. -/
structure PS (w0 w : World) (X Y c n b0 g0 d0 r0 b1 g1 d1 r1 : Nat) (L0 L1 : List Bool) : Prop where
  x : w.heap[X]? = some (.cells #[.pointer (some ⟨b0, 0, none⟩), .pointer (some ⟨b1, 0, none⟩)] 24 (0, 0))
  y : w.heap[Y]? = some (.cells #[.pointer (some ⟨d0, 0, none⟩), .pointer (some ⟨d1, 0, none⟩)] 28 (0, 0))
  c : ∃ v, w.heap[c]? = some (.cells #[.bool true, v] 33 (0, 0))
  p0 : Pair w b0 g0 d0 r0 L0
  p1 : Pair w b1 g1 d1 r1 L1
  g : g0 ≠ g1
  r : r0 ≠ r1
  l0 : L0.length = n
  l1 : L1.length = n
  n0 : w0.heap.size ≤ g0 ∧ w0.heap.size ≤ r0
  n1 : w0.heap.size ≤ g1 ∧ w0.heap.size ≤ r1
  nx : w0.heap.size ≤ X ∧ w0.heap.size ≤ Y
  pos : 0 < w0.heap.size
  grown : w0.grownBy w none
section
variable {w0 w w' : World} {X Y c n b0 g0 d0 r0 b1 g1 d1 r1 : Nat} {L0 L1 L : List Bool}
theorem PS.kept (h : PS w0 w X Y c n b0 g0 d0 r0 b1 g1 d1 r1 L0 L1) (hg : w.grownBy w' none) : PS w0 w' X Y c n b0 g0 d0 r0 b1 g1 d1 r1 L0 L1 := by
  obtain ⟨v, hc⟩ := h.c
  exact ⟨(hg.block X (row_lt h.x) (by simp)).trans h.x, (hg.block Y (row_lt h.y) (by simp)).trans h.y, ⟨v, (hg.block c (row_lt hc) (by simp)).trans hc⟩, h.p0.kept hg, h.p1.kept hg, h.g, h.r, h.l0, h.l1, h.n0, h.n1, h.nx, h.pos, grown_trans h.grown hg⟩
theorem grown2_new {a b d : World} {g r : Nat} (h : a.grownBy b none) (k : Grown2 b d g r) (hg : a.heap.size ≤ g) (hr : a.heap.size ≤ r) : a.grownBy d none :=
  ⟨k.os.trans h.os, k.tape.trans h.tape, k.output.trans h.output, Nat.le_trans h.size k.size, fun i hi _ => (k.block i (Nat.lt_of_lt_of_le hi h.size) (by omega) (by omega)).trans (h.block i hi (by simp))⟩
theorem PS.one0 (h : PS w0 w X Y c n b0 g0 d0 r0 b1 g1 d1 r1 L0 L1) (hB : Both w' b0 g0 d0 r0 L) (hG : Grown2 w w' g0 r0) (hl : L.length = n) : PS w0 w' X Y c n b0 g0 d0 r0 b1 g1 d1 r1 L L1 := by
  have tg := h.p0.tg
  have tr := h.p0.tr
  obtain ⟨v, hc⟩ := h.c
  have tx : Ty w X 24 := ⟨_, h.x⟩
  have ty : Ty w Y 28 := ⟨_, h.y⟩
  have tc : Ty w c 33 := ⟨_, hc⟩
  have td := h.p0.td
  refine ⟨(hG.block X tx.lt (tx.ne tg (by decide)) (tx.ne tr (by decide))).trans h.x, (hG.block Y ty.lt (ty.ne tg (by decide)) (ty.ne tr (by decide))).trans h.y, ⟨v, (hG.block c tc.lt (tc.ne tg (by decide)) (tc.ne tr (by decide))).trans hc⟩, ⟨hB, ?_⟩, h.p1.far hG tg tr (Ne.symm h.g) (Ne.symm h.r) hB.tab, h.g, h.r, hl, h.l1, h.n0, h.n1, h.nx, h.pos, grown2_new h.grown hG h.n0.1 h.n0.2⟩
  obtain ⟨v, cap, h1⟩ := h.p0.lies
  rw [h.l0] at h1
  exact ⟨v, cap, by rw [hl]; exact (hG.block d0 td.lt (td.ne tg (by decide)) (td.ne tr (by decide))).trans h1⟩
theorem PS.one1 (h : PS w0 w X Y c n b0 g0 d0 r0 b1 g1 d1 r1 L0 L1) (hB : Both w' b1 g1 d1 r1 L) (hG : Grown2 w w' g1 r1) (hl : L.length = n) : PS w0 w' X Y c n b0 g0 d0 r0 b1 g1 d1 r1 L0 L := by
  have tg := h.p1.tg
  have tr := h.p1.tr
  obtain ⟨v, hc⟩ := h.c
  have tx : Ty w X 24 := ⟨_, h.x⟩
  have ty : Ty w Y 28 := ⟨_, h.y⟩
  have tc : Ty w c 33 := ⟨_, hc⟩
  have td := h.p1.td
  refine ⟨(hG.block X tx.lt (tx.ne tg (by decide)) (tx.ne tr (by decide))).trans h.x, (hG.block Y ty.lt (ty.ne tg (by decide)) (ty.ne tr (by decide))).trans h.y, ⟨v, (hG.block c tc.lt (tc.ne tg (by decide)) (tc.ne tr (by decide))).trans hc⟩, h.p0.far hG tg tr h.g h.r hB.tab, ⟨hB, ?_⟩, h.g, h.r, h.l0, hl, h.n0, h.n1, h.nx, h.pos, grown2_new h.grown hG h.n1.1 h.n1.2⟩
  obtain ⟨v, cap, h1⟩ := h.p1.lies
  rw [h.l1] at h1
  exact ⟨v, cap, by rw [hl]; exact (hG.block d1 td.lt (td.ne tg (by decide)) (td.ne tr (by decide))).trans h1⟩
theorem PS.x0 (h : PS w0 w X Y c n b0 g0 d0 r0 b1 g1 d1 r1 L0 L1) : w.cell? ⟨X, 0, none⟩ = some (.pointer (some ⟨b0, 0, none⟩)) := by simp [World.cell?, h.x]
theorem PS.x1 (h : PS w0 w X Y c n b0 g0 d0 r0 b1 g1 d1 r1 L0 L1) : w.cell? ⟨X, 1, none⟩ = some (.pointer (some ⟨b1, 0, none⟩)) := by simp [World.cell?, h.x]
theorem PS.y0 (h : PS w0 w X Y c n b0 g0 d0 r0 b1 g1 d1 r1 L0 L1) : w.cell? ⟨Y, 0, none⟩ = some (.pointer (some ⟨d0, 0, none⟩)) := by simp [World.cell?, h.y]
theorem PS.y1 (h : PS w0 w X Y c n b0 g0 d0 r0 b1 g1 d1 r1 L0 L1) : w.cell? ⟨Y, 1, none⟩ = some (.pointer (some ⟨d1, 0, none⟩)) := by simp [World.cell?, h.y]
theorem PS.c0 (h : PS w0 w X Y c n b0 g0 d0 r0 b1 g1 d1 r1 L0 L1) : w.cell? ⟨c, 0, none⟩ = some (.bool true) := by obtain ⟨v, hc⟩ := h.c; simp [World.cell?, hc]
theorem PS.call0 (h : PS w0 w X Y c n b0 g0 d0 r0 b1 g1 d1 r1 L0 L1) (Do On I : Int) :
    Calls Tryd.prog 13 #[.pointer (some ⟨b0, 0, none⟩), .pointer (some ⟨d0, 0, none⟩), .agg #[.int .i64 Do, .int .i64 On, .int .i64 I]] w fun e w' => e = .returned (.bool true) ∧ Grown2 w w' g0 r0 ∧ PS w0 w' X Y c n b0 g0 d0 r0 b1 g1 d1 r1 (oneF L0 Do I) L1 := by
  refine (one_any b0 g0 d0 r0 L0 Do On I w h.p0.both (h.p0.tg.ne h.p0.tr (by decide)) (h.p0.tb.ne h.p0.tr (by decide)) (h.p0.tg.ne h.p0.td (by decide)) (by have := h.n0; have := h.pos; omega) h.p0.tr.lt).mono ?_
  rintro e w' ⟨rfl, h1, h2⟩
  exact ⟨rfl, h2, h.one0 h1 h2 ((oneF_length _ _ _).trans h.l0)⟩
theorem PS.call1 (h : PS w0 w X Y c n b0 g0 d0 r0 b1 g1 d1 r1 L0 L1) (Do On I : Int) :
    Calls Tryd.prog 13 #[.pointer (some ⟨b1, 0, none⟩), .pointer (some ⟨d1, 0, none⟩), .agg #[.int .i64 Do, .int .i64 On, .int .i64 I]] w fun e w' => e = .returned (.bool true) ∧ Grown2 w w' g1 r1 ∧ PS w0 w' X Y c n b0 g0 d0 r0 b1 g1 d1 r1 L0 (oneF L1 Do I) := by
  refine (one_any b1 g1 d1 r1 L1 Do On I w h.p1.both (h.p1.tg.ne h.p1.tr (by decide)) (h.p1.tb.ne h.p1.tr (by decide)) (h.p1.tg.ne h.p1.td (by decide)) (by have := h.n1; have := h.pos; omega) h.p1.tr.lt).mono ?_
  rintro e w' ⟨rfl, h1, h2⟩
  exact ⟨rfl, h2, h.one1 h1 h2 ((oneF_length _ _ _).trans h.l1)⟩
/-- What the loads of a round read. -/
theorem PS.cells (h : PS w0 w X Y c n b0 g0 d0 r0 b1 g1 d1 r1 L0 L1) {B : Nat} {Do On I : Int} (hB : w.heap[B]? = some (.cells #[.int .i64 Do, .int .i64 On, .int .i64 I] 37 (0, 0))) :
    w.cell? ⟨X, 0, none⟩ = some (.pointer (some ⟨b0, 0, none⟩)) ∧ w.cell? ⟨X, 1, none⟩ = some (.pointer (some ⟨b1, 0, none⟩)) ∧ w.cell? ⟨Y, 0, none⟩ = some (.pointer (some ⟨d0, 0, none⟩)) ∧ w.cell? ⟨Y, 1, none⟩ = some (.pointer (some ⟨d1, 0, none⟩)) ∧
    w.cell? ⟨B, 0, none⟩ = some (.int .i64 Do) ∧ w.cell? ⟨B, 1, none⟩ = some (.int .i64 On) ∧ w.cell? ⟨B, 2, none⟩ = some (.int .i64 I) :=
  ⟨h.x0, h.x1, h.y0, h.y1, by simp [World.cell?, hB], by simp [World.cell?, hB], by simp [World.cell?, hB]⟩
theorem PS.cells8 (h : PS w0 w X Y c n b0 g0 d0 r0 b1 g1 d1 r1 L0 L1) {B : Nat} {Do On I : Int} (hB : w.heap[B]? = some (.cells #[.int .i64 Do, .int .i64 On, .int .i64 I] 37 (0, 0))) :
    w.cell? ⟨X, 0, none⟩ = some (.pointer (some ⟨b0, 0, none⟩)) ∧ w.cell? ⟨X, 1, none⟩ = some (.pointer (some ⟨b1, 0, none⟩)) ∧ w.cell? ⟨Y, 0, none⟩ = some (.pointer (some ⟨d0, 0, none⟩)) ∧ w.cell? ⟨Y, 1, none⟩ = some (.pointer (some ⟨d1, 0, none⟩)) ∧
    w.cell? ⟨B, 0, none⟩ = some (.int .i64 Do) ∧ w.cell? ⟨B, 1, none⟩ = some (.int .i64 On) ∧ w.cell? ⟨B, 2, none⟩ = some (.int .i64 I) ∧ PS w0 w X Y c n b0 g0 d0 r0 b1 g1 d1 r1 L0 L1 :=
  ⟨h.x0, h.x1, h.y0, h.y1, by simp [World.cell?, hB], by simp [World.cell?, hB], by simp [World.cell?, hB], h⟩
theorem PS.cells6 (h : PS w0 w X Y c n b0 g0 d0 r0 b1 g1 d1 r1 L0 L1) :
    w.cell? ⟨c, 0, none⟩ = some (.bool true) ∧ w.cell? ⟨X, 0, none⟩ = some (.pointer (some ⟨b0, 0, none⟩)) ∧ w.cell? ⟨X, 1, none⟩ = some (.pointer (some ⟨b1, 0, none⟩)) ∧ w.cell? ⟨Y, 0, none⟩ = some (.pointer (some ⟨d0, 0, none⟩)) ∧ w.cell? ⟨Y, 1, none⟩ = some (.pointer (some ⟨d1, 0, none⟩)) ∧
    PS w0 w X Y c n b0 g0 d0 r0 b1 g1 d1 r1 L0 L1 := ⟨h.c0, h.x0, h.x1, h.y0, h.y1, h⟩
theorem PS.box0 (h : PS w0 w X Y c n b0 g0 d0 r0 b1 g1 d1 r1 L0 L1) {B : Nat} {C : Array Value} (hB : w.heap[B]? = some (.cells C 37 (0, 0))) (hG : Grown2 w w' g0 r0) : w'.heap[B]? = some (.cells C 37 (0, 0)) := by
  have tB : Ty w B 37 := ⟨_, hB⟩
  exact (hG.block B tB.lt (tB.ne h.p0.tg (by decide)) (tB.ne h.p0.tr (by decide))).trans hB
theorem PS.box1 (h : PS w0 w X Y c n b0 g0 d0 r0 b1 g1 d1 r1 L0 L1) {B : Nat} {C : Array Value} (hB : w.heap[B]? = some (.cells C 37 (0, 0))) (hG : Grown2 w w' g1 r1) : w'.heap[B]? = some (.cells C 37 (0, 0)) := by
  have tB : Ty w B 37 := ⟨_, hB⟩
  exact (hG.block B tB.lt (tB.ne h.p1.tg (by decide)) (tB.ne h.p1.tr (by decide))).trans hB
theorem oneF_9 (L : List Bool) (Do I : Int) (h : Do % 11 = 9) : oneF L Do I = L := by unfold oneF; rw [if_neg (by omega), if_neg (by omega)]
theorem PS.same (h : PS w0 w X Y c n b0 g0 d0 r0 b1 g1 d1 r1 L0 L1) {q : Bool} (hq : decide (L0 = L1) = q) :
    Calls Tryd.prog 14 #[.pointer (some ⟨b0, 0, none⟩), .pointer (some ⟨b1, 0, none⟩)] w fun e w' => e = .returned (.bool q) ∧ PS w0 w' X Y c n b0 g0 d0 r0 b1 g1 d1 r1 L0 L1 ∧ w.grownBy w' none := by
  subst hq
  refine (same_any b0 g0 b1 g1 L0 L1 w h.p0.both.set h.p1.both.set).mono ?_
  rintro e w' ⟨rfl, hg⟩
  exact ⟨rfl, h.kept hg, hg⟩
theorem PS.rsame (h : PS w0 w X Y c n b0 g0 d0 r0 b1 g1 d1 r1 L0 L1) {q : Bool} (hq : decide (L0 = L1) = q) :
    Calls Tryd.prog 15 #[.pointer (some ⟨d0, 0, none⟩), .pointer (some ⟨d1, 0, none⟩)] w fun e w' => e = .returned (.bool q) ∧ PS w0 w' X Y c n b0 g0 d0 r0 b1 g1 d1 r1 L0 L1 ∧ w.grownBy w' none := by
  subst hq
  refine (rsame_any d0 r0 d1 r1 L0 L1 w h.p0.both.ref h.p1.both.ref (h.l0.trans h.l1.symm)).mono ?_
  rintro e w' ⟨rfl, hg⟩
  exact ⟨rfl, h.kept hg, hg⟩
theorem pick11v (x v : Int) (w : World) (h : x % 11 = v) : Calls Tryd.prog 12 #[.int .i64 x, .int .i64 11] w fun e w' => e = .returned (.int .i64 v) ∧ w' = w := by
  subst h
  exact pick_any x 11 11 w rfl (by decide) (by decide)
theorem pick2v (x v : Int) (w : World) (h : x % 2 = v) : Calls Tryd.prog 12 #[.int .i64 x, .int .i64 2] w fun e w' => e = .returned (.int .i64 v) ∧ w' = w := by
  subst h
  exact pick_any x 2 2 w rfl (by decide) (by decide)
theorem grown2_cell {a b : World} {g r k o : Nat} {v : Value} (h : Grown2 a b g r) (hc : a.cell? ⟨k, o, none⟩ = some v) (hg : k ≠ g) (hr : k ≠ r) : b.cell? ⟨k, o, none⟩ = some v := by
  have hk : k < a.heap.size := World.block_lt_of_cell? a _ hc
  rw [World.cell?_of_block (h.block k hk hg hr)]
  exact hc

end

set_option maxHeartbeats 1000000 in
theorem rcopy_lies (d r : Nat) (t : Bool) (L : List Bool) (w : World) (h : RefAt w d r t L) :
    Calls Tryd.prog 17 #[.pointer (some ⟨d, 0, none⟩)] w fun e w' => ∃ d' r', e = .returned (.pointer (some ⟨d', 0, none⟩)) ∧ RefAt w' d' r' t L ∧ w.heap.size ≤ d' ∧ w.heap.size ≤ r' ∧ w.grownBy w' none ∧ r' < w'.heap.size ∧ ∃ v cap, w'.heap[d']? = some (.cells #[v, .slice (some ⟨r', 0, none⟩) L.length cap] 33 (0, 0)) := by
  obtain ⟨ao, cap, hc, hnil, hat, hal⟩ := h.slice_lt
  have hdl := h.lt
  have ht := h.there
  have hsm := h.small
  have HS0 : Hid (CpS w w.drew d t L ao cap) := CpS.kept (w := w) ⟨ht, hc, hat, grown_refl _ _⟩ (grown_drew _ _)
  have HS1 : Hid (CpS w (w.drew.alloc (.cells #[] 4)) d t L ao cap) := HS0.out.kept (World.grownBy_alloc _ _ none)
  clear h hc hat ht
  go_enter Tryd.func17, Tryd.ntmps17
  go_wp2_with fail
  go_region_held3 (fun w' => w'.cell? ⟨d, 0, none⟩ = some (.bool t) ∧ w'.cell? ⟨d, 1, none⟩ = some (.slice ao L.length cap) ∧ CpS w w' d t L ao cap) (first | assumption | exact ⟨HS0.out.c0, HS0.out.c1, HS0.out⟩ | exact ⟨HS1.out.c0, HS1.out.c1, HS1.out⟩ | exact ⟨(CpS.kept hS2 (World.grownBy_alloc _ _ none)).c0, (CpS.kept hS2 (World.grownBy_alloc _ _ none)).c1, CpS.kept hS2 (World.grownBy_alloc _ _ none)⟩)
    ((refine step_append_bools rfl (.tmp 7) (.tmp 11) rfl w.heap.size (.slice (some ⟨w.heap.size, 0, none⟩) 0 0) 0 [] (by rfl) (World.ownsRow_made w.drew #[] 0 (Nat.le_refl _) (Nat.zero_le _) rfl) ao L.length cap (L.map Value.bool) (by rfl) (by simp) HS1.out.at_ (fun u hu => by rw [List.mem_map] at hu; obtain ⟨y, _, rfl⟩ := hu; rfl) hnil (by omega) (by simp) ?_; intro v' w2 hown2 hg2 hne2; have hS2 := HS1.out.row hg2 (Nat.le_refl _) hdl hal; have hS3 := And.intro hS2.c0 (And.intro hS2.c1 hS2); obtain ⟨_, hw2 | ⟨r2, cap2, cur2, rfl, hb2, hr2, hn2, hm2, hs2, ht2⟩⟩ := hown2; exact absurd hw2.1 (hne2 (by simp)); have HO := hide (And.intro hr2 (And.intro hs2 ht2)); clear hr2 hs2 ht2 hne2 hg2; simp only [Nat.zero_add] at hn2 HO ⊢))
  go_wp2
  go_ret
  obtain ⟨o1, o2, o3⟩ := HO.out
  refine ⟨w2.heap.size, r2, rfl, ?_, hS2.grown.size, hb2, grown_trans hS2.grown (World.grownBy_alloc w2 _ none), (by have := row_lt o1; simp; omega), ⟨_, cap2, heap_alloc_new w2 _⟩⟩
  obtain ⟨cl⟩ := cur2
  refine ⟨_, cap2, heap_alloc_new w2 _, hsm, Or.inr ⟨cl, rfl, ?_, by simpa using o3, by simpa using o2, hn2, hm2⟩⟩
  rw [Below.heap_alloc _ _ _ (row_lt o1), o1]


theorem copy_lies (b g : Nat) (L : List Bool) (w : World) (h : SetAt w b g L) (hw : 0 < w.heap.size) :
    Calls Tryd.prog 16 #[.pointer (some ⟨b, 0, none⟩)] w fun e w' => ∃ b' g', e = .returned (.pointer (some ⟨b', 0, none⟩)) ∧ SetAt w' b' g' L ∧ w.heap.size ≤ b' ∧ w.heap.size ≤ g' ∧ w.grownBy w' none := copy_any b g L w h hw
section
variable {w0 w w1 w2 : World} {X Y c n b0 g0 d0 r0 b1 g1 d1 r1 b' g' d' r' : Nat} {L0 L1 L : List Bool}
/-- Pair 0 is copied into the place of pair 1. -/
theorem PS.copy0 (h : PS w0 w X Y c n b0 g0 d0 r0 b1 g1 d1 r1 L0 L1) (hS : SetAt w1 b' g' L0) (hg' : w.heap.size ≤ g') (h1 : w.grownBy w1 none)
    (hR : RefAt w2 d' r' true L0) (hr' : w1.heap.size ≤ r') (h2 : w1.grownBy w2 none) (_hrl : r' < w2.heap.size) (hl : ∃ v cap, w2.heap[d']? = some (.cells #[v, .slice (some ⟨r', 0, none⟩) L0.length cap] 33 (0, 0))) :
    PS w0 ((w2.setCell ⟨X, 1, none⟩ (.pointer (some ⟨b', 0, none⟩))).setCell ⟨Y, 1, none⟩ (.pointer (some ⟨d', 0, none⟩))) X Y c n b0 g0 d0 r0 b' g' d' r' L0 L0 := by
  have k := h.kept (grown_trans h1 h2)
  have hS2 := hS.kept h2 (by simp) (by simp)
  have p' : Pair w2 b' g' d' r' L0 := ⟨⟨hS2, hR, k.p0.both.tab⟩, hl⟩
  have tx : Ty w2 X 24 := ⟨_, k.x⟩
  have ty : Ty w2 Y 28 := ⟨_, k.y⟩
  have hxy : X ≠ Y := tx.ne ty (by decide)
  have s1 := h1.size
  have s0 := h.grown.size
  have e1 : Grown2 w2 ((w2.setCell ⟨X, 1, none⟩ (.pointer (some ⟨b', 0, none⟩))).setCell ⟨Y, 1, none⟩ (.pointer (some ⟨d', 0, none⟩))) X Y :=
    (Grown2.of (grown_setCell w2 X 1 _) (fun k e => by cases e; exact Or.inl rfl)).trans (Grown2.of (grown_setCell _ Y 1 _) (fun k e => by cases e; exact Or.inr (Or.inl rfl)))
  have hx : ((w2.setCell ⟨X, 1, none⟩ (.pointer (some ⟨b', 0, none⟩))).setCell ⟨Y, 1, none⟩ (.pointer (some ⟨d', 0, none⟩))).heap[X]? = some (.cells #[.pointer (some ⟨b0, 0, none⟩), .pointer (some ⟨b', 0, none⟩)] 24 (0, 0)) := by
    rw [Below.heap_setCell _ _ _ _ (by simpa using hxy)]
    exact row_setCell (l := [.pointer (some ⟨b0, 0, none⟩), .pointer (some ⟨b1, 0, none⟩)]) k.x 1 _
  have hy : ((w2.setCell ⟨X, 1, none⟩ (.pointer (some ⟨b', 0, none⟩))).setCell ⟨Y, 1, none⟩ (.pointer (some ⟨d', 0, none⟩))).heap[Y]? = some (.cells #[.pointer (some ⟨d0, 0, none⟩), .pointer (some ⟨d', 0, none⟩)] 28 (0, 0)) := by
    refine row_setCell (l := [.pointer (some ⟨d0, 0, none⟩), .pointer (some ⟨d1, 0, none⟩)]) ?_ 1 _
    rw [Below.heap_setCell _ _ _ _ (by simpa using Ne.symm hxy)]
    exact k.y
  generalize (w2.setCell ⟨X, 1, none⟩ (.pointer (some ⟨b', 0, none⟩))).setCell ⟨Y, 1, none⟩ (.pointer (some ⟨d', 0, none⟩)) = w3 at *
  obtain ⟨v, hc⟩ := k.c
  have tc : Ty w2 c 33 := ⟨_, hc⟩
  have hT : Tab w3 := fun j hj => grown2_cell e1 (k.p0.both.tab j hj) (by have := h.nx; have := h.pos; omega) (by have := h.nx; have := h.pos; omega)
  exact ⟨hx, hy, ⟨v, (e1.block c tc.lt (tc.ne tx (by decide)) (tc.ne ty (by decide))).trans hc⟩, k.p0.rows e1 tx ty hT, p'.rows e1 tx ty hT, by have := h.p0.tg.lt; omega, by have := h.p0.tr.lt; omega, k.l0, k.l0, k.n0, by omega, k.nx, k.pos, grown2_new k.grown e1 k.nx.1 k.nx.2⟩
theorem PS.copy1 (h : PS w0 w X Y c n b0 g0 d0 r0 b1 g1 d1 r1 L0 L1) (hS : SetAt w1 b' g' L1) (hg' : w.heap.size ≤ g') (h1 : w.grownBy w1 none)
    (hR : RefAt w2 d' r' true L1) (hr' : w1.heap.size ≤ r') (h2 : w1.grownBy w2 none) (_hrl : r' < w2.heap.size) (hl : ∃ v cap, w2.heap[d']? = some (.cells #[v, .slice (some ⟨r', 0, none⟩) L1.length cap] 33 (0, 0))) :
    PS w0 ((w2.setCell ⟨X, 0, none⟩ (.pointer (some ⟨b', 0, none⟩))).setCell ⟨Y, 0, none⟩ (.pointer (some ⟨d', 0, none⟩))) X Y c n b' g' d' r' b1 g1 d1 r1 L1 L1 := by
  have k := h.kept (grown_trans h1 h2)
  have hS2 := hS.kept h2 (by simp) (by simp)
  have p' : Pair w2 b' g' d' r' L1 := ⟨⟨hS2, hR, k.p0.both.tab⟩, hl⟩
  have tx : Ty w2 X 24 := ⟨_, k.x⟩
  have ty : Ty w2 Y 28 := ⟨_, k.y⟩
  have hxy : X ≠ Y := tx.ne ty (by decide)
  have s1 := h1.size
  have s0 := h.grown.size
  have e1 : Grown2 w2 ((w2.setCell ⟨X, 0, none⟩ (.pointer (some ⟨b', 0, none⟩))).setCell ⟨Y, 0, none⟩ (.pointer (some ⟨d', 0, none⟩))) X Y :=
    (Grown2.of (grown_setCell w2 X 0 _) (fun k e => by cases e; exact Or.inl rfl)).trans (Grown2.of (grown_setCell _ Y 0 _) (fun k e => by cases e; exact Or.inr (Or.inl rfl)))
  have hx : ((w2.setCell ⟨X, 0, none⟩ (.pointer (some ⟨b', 0, none⟩))).setCell ⟨Y, 0, none⟩ (.pointer (some ⟨d', 0, none⟩))).heap[X]? = some (.cells #[.pointer (some ⟨b', 0, none⟩), .pointer (some ⟨b1, 0, none⟩)] 24 (0, 0)) := by
    rw [Below.heap_setCell _ _ _ _ (by simpa using hxy)]
    exact row_setCell (l := [.pointer (some ⟨b0, 0, none⟩), .pointer (some ⟨b1, 0, none⟩)]) k.x 0 _
  have hy : ((w2.setCell ⟨X, 0, none⟩ (.pointer (some ⟨b', 0, none⟩))).setCell ⟨Y, 0, none⟩ (.pointer (some ⟨d', 0, none⟩))).heap[Y]? = some (.cells #[.pointer (some ⟨d', 0, none⟩), .pointer (some ⟨d1, 0, none⟩)] 28 (0, 0)) := by
    refine row_setCell (l := [.pointer (some ⟨d0, 0, none⟩), .pointer (some ⟨d1, 0, none⟩)]) ?_ 0 _
    rw [Below.heap_setCell _ _ _ _ (by simpa using Ne.symm hxy)]
    exact k.y
  generalize (w2.setCell ⟨X, 0, none⟩ (.pointer (some ⟨b', 0, none⟩))).setCell ⟨Y, 0, none⟩ (.pointer (some ⟨d', 0, none⟩)) = w3 at *
  obtain ⟨v, hc⟩ := k.c
  have tc : Ty w2 c 33 := ⟨_, hc⟩
  have hT : Tab w3 := fun j hj => grown2_cell e1 (k.p0.both.tab j hj) (by have := h.nx; have := h.pos; omega) (by have := h.nx; have := h.pos; omega)
  exact ⟨hx, hy, ⟨v, (e1.block c tc.lt (tc.ne tx (by decide)) (tc.ne ty (by decide))).trans hc⟩, p'.rows e1 tx ty hT, k.p1.rows e1 tx ty hT, by have := h.p1.tg.lt; omega, by have := h.p1.tr.lt; omega, k.l1, k.l1, by omega, k.n1, k.nx, k.pos, grown2_new k.grown e1 k.nx.1 k.nx.2⟩
end
end Go.Proofs.YtajdgkbeenalkaaDoor
