/- The contracts of does and asks. -/
import Derived.Test.YtaopcidkgcekdaaBlk
namespace Go.Proofs.Ytaopcidkgcekdaa
open Go.RowKit Ap
attribute [local go_sem ↓] Go.wp_at_zero Go.wp_at_succ

/-- What a step's operation comes to on a disk. -/
def opCode (n size : Nat) (o : Stp) : Int := if o.kd = 1 then wcode n size o.at_ (blkOf o size).length else if o.kd = 2 then rcode n o.at_ else 0
def opBytes (n size : Nat) (D : List Nat) (W : List Wt) (o : Stp) : List Nat := if o.kd = 2 then rbytes n size D W o.at_ else []
def opA (n size : Nat) (o : Stp) (st : List Nat × List Pr) : List Nat × List Pr := if o.kd = 1 then (st.1, wabs n size o.at_ (blkOf o size) st.2) else if o.kd = 2 then st else syncA size st
def Done (w0 w w' : World) (n size : Nat) (k : Dk) (D : List Nat) (W : List Wt) (o : Stp) (e : Ending) : Prop :=
  ∃ v, e = .returned (.tuple #[v, .int .i64 (opCode n size o)]) ∧ Gives w w' size v (opBytes n size D W o) ∧ ∃ k' D' W', DkS w0 w' k' n size D' W' ∧ Moved w w' k k' W W' ∧ (D', abs W') = opA n size o (D, abs W) ∧ W'.length ≤ W.length + 1
def Asked (w0 w w' : World) (n size b : Nat) (s : Dv) (k : Dk) (D : List Nat) (W : List Wt) (o : Stp) (e : Ending) : Prop :=
  ∃ v, e = .returned (.tuple #[v, .int .i64 (s.code (opCode n size o))]) ∧ Gives w w' size v (if s.goes then opBytes n size D W o else []) ∧ ∃ k' D' W', Dev w0 w' n size b s.next k' D' W' ∧ DvM w w' b k k' W W' ∧ (D', abs W') = (if s.goes then opA n size o (D, abs W) else (D, abs W)) ∧ W'.length ≤ W.length + 1
theorem scells_at {w : World} {o : Stp} {bo fo : Option Addr} {bc fc : Nat} (j : Nat) (v : Value) (hv : (scells o bo bc fo fc)[j]? = some v) : (w.alloc (.cells (scells o bo bc fo fc).toArray 45)).cell? ⟨w.heap.size, j, none⟩ = some v := (cell_row (heap_alloc_new w (.cells (scells o bo bc fo fc).toArray 45)) j).trans hv
section
variable {w0 w : World} {n size b d : Nat} {s : Dv} {k : Dk} {D : List Nat} {W : List Wt}
set_option maxRecDepth 20000 in
set_option maxHeartbeats 8000000 in
theorem does_write (h : DkS w0 w k n size D W) (hW : W.length ≤ 1000) (on at_ : Int) (Bs : List Nat) (raw : Bool) (F : List (Int × Int)) (bo : Option Addr) (bc : Nat) (fo : Option Addr) (fc : Nat) (hs : SIn w ⟨1, on, at_, Bs, raw, F⟩ bo bc fo fc) :
    Calls Try.prog 14 #[.pointer (some ⟨k.d, 0, none⟩), .agg #[.int .i64 1, .int .i64 on, .int .i64 at_, .slice bo Bs.length bc, .bool raw, .slice fo F.length fc]] w fun e w' => Done w0 w w' n size k D W ⟨1, on, at_, Bs, raw, F⟩ e := by
  have g0 := World.grownBy_alloc w (.cells #[.int .i64 1, .int .i64 on, .int .i64 at_, .slice bo Bs.length bc, .bool raw, .slice fo F.length fc] 45) none
  have HR : Hid ((w.alloc (.cells #[.int .i64 1, .int .i64 on, .int .i64 at_, .slice bo Bs.length bc, .bool raw, .slice fo F.length fc] 45)).heap[w.heap.size]? = some (.cells (scells ⟨1, on, at_, Bs, raw, F⟩ bo bc fo fc).toArray 45 (0, 0))) := heap_alloc_new w _
  have b0 : (w.alloc (.cells #[.int .i64 1, .int .i64 on, .int .i64 at_, .slice bo Bs.length bc, .bool raw, .slice fo F.length fc] 45)).cell? ⟨w.heap.size, 0, none⟩ = some (.int .i64 1) := cell_row HR.out 0
  have b1 : (w.alloc (.cells #[.int .i64 1, .int .i64 on, .int .i64 at_, .slice bo Bs.length bc, .bool raw, .slice fo F.length fc] 45)).cell? ⟨w.heap.size, 1, none⟩ = some (.int .i64 on) := cell_row HR.out 1
  have b2 : (w.alloc (.cells #[.int .i64 1, .int .i64 on, .int .i64 at_, .slice bo Bs.length bc, .bool raw, .slice fo F.length fc] 45)).cell? ⟨w.heap.size, 2, none⟩ = some (.int .i64 at_) := cell_row HR.out 2
  have b3 : (w.alloc (.cells #[.int .i64 1, .int .i64 on, .int .i64 at_, .slice bo Bs.length bc, .bool raw, .slice fo F.length fc] 45)).cell? ⟨w.heap.size, 3, none⟩ = some (.slice bo Bs.length bc) := cell_row HR.out 3
  have b4 : (w.alloc (.cells #[.int .i64 1, .int .i64 on, .int .i64 at_, .slice bo Bs.length bc, .bool raw, .slice fo F.length fc] 45)).cell? ⟨w.heap.size, 4, none⟩ = some (.bool raw) := cell_row HR.out 4
  have b5 : (w.alloc (.cells #[.int .i64 1, .int .i64 on, .int .i64 at_, .slice bo Bs.length bc, .bool raw, .slice fo F.length fc] 45)).cell? ⟨w.heap.size, 5, none⟩ = some (.slice fo F.length fc) := cell_row HR.out 5
  have s1 := h.disk.shape.s1
  have HH := hide (And.intro (h.then g0) (And.intro hW (And.intro (hs.grown g0) g0)))
  have H0 := hide h
  clear h hW hs g0
  go_enter Try.func14, Try.ntmps14
  go_wp2_with fail
  generalize w.alloc (.cells #[.int .i64 1, .int .i64 on, .int .i64 at_, .slice bo Bs.length bc, .bool raw, .slice fo F.length fc] 45) = wa at *
  obtain ⟨B, hB⟩ : ∃ B, B = w.heap.size := ⟨_, rfl⟩
  have HB := hide hB
  rw [← hB] at b0 b1 b2 b3 b4 b5 HR ⊢
  clear hB
  go_region_held3 (fun w' => w'.cell? ⟨B, 0, none⟩ = some (.int .i64 1) ∧ w'.cell? ⟨B, 1, none⟩ = some (.int .i64 on) ∧ w'.cell? ⟨B, 2, none⟩ = some (.int .i64 at_) ∧ w'.cell? ⟨B, 3, none⟩ = some (.slice bo Bs.length bc) ∧ w'.cell? ⟨B, 4, none⟩ = some (.bool raw) ∧ w'.cell? ⟨B, 5, none⟩ = some (.slice fo F.length fc)) (first | exact ⟨b0, b1, b2, b3, b4, b5⟩ | assumption | go_keep) (first
    | (go_at_call 36; refine (size_any (HH.out.1.disk.grown (grown_drew _ _))).mono ?_; rintro e w1 ⟨rfl, rfl⟩)
    | (go_at_call 34; refine (block_any ⟨1, on, at_, Bs, raw, F⟩ bo bc fo fc size s1 _ (HH.out.2.2.1.grown (grown_drew _ _))).mono ?_; rintro e w2 ⟨v, rfl, o2, g2⟩; have g2' := grown_trans (grown_drew wa none) g2; have hS2 : w2.cell? ⟨B, 0, none⟩ = some (.int .i64 1) ∧ w2.cell? ⟨B, 1, none⟩ = some (.int .i64 on) ∧ w2.cell? ⟨B, 2, none⟩ = some (.int .i64 at_) ∧ w2.cell? ⟨B, 3, none⟩ = some (.slice bo Bs.length bc) ∧ w2.cell? ⟨B, 4, none⟩ = some (.bool raw) ∧ w2.cell? ⟨B, 5, none⟩ = some (.slice fo F.length fc) := ⟨g2'.cell b0 (by simp), g2'.cell b1 (by simp), g2'.cell b2 (by simp), g2'.cell b3 (by simp), g2'.cell b4 (by simp), g2'.cell b5 (by simp)⟩; have r2 := (g2'.block B (row_lt HR.out) (by simp)).trans HR.out; obtain ⟨ao, cap, rfl, q1, q2, q3, q4, q5, q6⟩ := own_at o2; have A1 := hide (And.intro (And.intro q1 (And.intro q4 r2)) g2'); clear o2 g2 g2' r2 q1 q2 q3 q4 q5 q6)
    | (go_at_call 35; refine (wr_disk rfl (HH.out.1.then A1.out.2) HH.out.2.1 at_ ao (blkOf ⟨1, on, at_, Bs, raw, F⟩ size).length cap (blkOf ⟨1, on, at_, Bs, raw, F⟩ size) A1.out.1.2.1 rfl).mono ?_; rintro e w3 ⟨k3, W3, rfl, d3, m3, a3, l3⟩; have r3 := m3.kept.at A1.out.1.2.2 ((HH.out.1.then A1.out.2).disk.other_off A1.out.1.2.2 (by decide) (by decide) (by decide)); have hS3 : w3.cell? ⟨B, 0, none⟩ = some (.int .i64 1) ∧ w3.cell? ⟨B, 1, none⟩ = some (.int .i64 on) ∧ w3.cell? ⟨B, 2, none⟩ = some (.int .i64 at_) ∧ w3.cell? ⟨B, 3, none⟩ = some (.slice bo Bs.length bc) ∧ w3.cell? ⟨B, 4, none⟩ = some (.bool raw) ∧ w3.cell? ⟨B, 5, none⟩ = some (.slice fo F.length fc) := ⟨cell_row r3 0, cell_row r3 1, cell_row r3 2, cell_row r3 3, cell_row r3 4, cell_row r3 5⟩; have A3 := hide (And.intro d3 (And.intro m3 (And.intro a3 l3))); clear d3 m3 a3 l3 r3))
  clear b0 b1 b2 b3 b4 b5 hS2 hS3
  go_wp2
  go_ret2
  exact ⟨_, by simp [opCode], Or.inl ⟨rfl, by simp [opBytes]⟩, k3, D, W3, A3.out.1, Moved.pre HH.out.2.2.2 (Moved.pre A1.out.2 A3.out.2.1), by rw [opA, if_pos rfl, A3.out.2.2.1], A3.out.2.2.2⟩
set_option maxRecDepth 20000 in
set_option maxHeartbeats 8000000 in
theorem asks_write (h : Dev w0 w n size b s k D W) (hW : W.length ≤ 1000) (hc : s.cnt < 100000) (on at_ : Int) (Bs : List Nat) (raw : Bool) (F : List (Int × Int)) (bo : Option Addr) (bc : Nat) (fo : Option Addr) (fc : Nat) (hs : SIn w ⟨1, on, at_, Bs, raw, F⟩ bo bc fo fc) :
    Calls Try.prog 12 #[.pointer (some ⟨b, 0, none⟩), .agg #[.int .i64 1, .int .i64 on, .int .i64 at_, .slice bo Bs.length bc, .bool raw, .slice fo F.length fc]] w fun e w' => Asked w0 w w' n size b s k D W ⟨1, on, at_, Bs, raw, F⟩ e := by
  have g0 := World.grownBy_alloc w (.cells #[.int .i64 1, .int .i64 on, .int .i64 at_, .slice bo Bs.length bc, .bool raw, .slice fo F.length fc] 45) none
  have HR : Hid ((w.alloc (.cells #[.int .i64 1, .int .i64 on, .int .i64 at_, .slice bo Bs.length bc, .bool raw, .slice fo F.length fc] 45)).heap[w.heap.size]? = some (.cells (scells ⟨1, on, at_, Bs, raw, F⟩ bo bc fo fc).toArray 45 (0, 0))) := heap_alloc_new w _
  have b0 : (w.alloc (.cells #[.int .i64 1, .int .i64 on, .int .i64 at_, .slice bo Bs.length bc, .bool raw, .slice fo F.length fc] 45)).cell? ⟨w.heap.size, 0, none⟩ = some (.int .i64 1) := cell_row HR.out 0
  have b1 : (w.alloc (.cells #[.int .i64 1, .int .i64 on, .int .i64 at_, .slice bo Bs.length bc, .bool raw, .slice fo F.length fc] 45)).cell? ⟨w.heap.size, 1, none⟩ = some (.int .i64 on) := cell_row HR.out 1
  have b2 : (w.alloc (.cells #[.int .i64 1, .int .i64 on, .int .i64 at_, .slice bo Bs.length bc, .bool raw, .slice fo F.length fc] 45)).cell? ⟨w.heap.size, 2, none⟩ = some (.int .i64 at_) := cell_row HR.out 2
  have b3 : (w.alloc (.cells #[.int .i64 1, .int .i64 on, .int .i64 at_, .slice bo Bs.length bc, .bool raw, .slice fo F.length fc] 45)).cell? ⟨w.heap.size, 3, none⟩ = some (.slice bo Bs.length bc) := cell_row HR.out 3
  have b4 : (w.alloc (.cells #[.int .i64 1, .int .i64 on, .int .i64 at_, .slice bo Bs.length bc, .bool raw, .slice fo F.length fc] 45)).cell? ⟨w.heap.size, 4, none⟩ = some (.bool raw) := cell_row HR.out 4
  have b5 : (w.alloc (.cells #[.int .i64 1, .int .i64 on, .int .i64 at_, .slice bo Bs.length bc, .bool raw, .slice fo F.length fc] 45)).cell? ⟨w.heap.size, 5, none⟩ = some (.slice fo F.length fc) := cell_row HR.out 5
  have s1 := h.disk.disk.shape.s1
  have HH := hide (And.intro (h.then g0) (And.intro hW (And.intro (hs.grown g0) (And.intro g0 hc))))
  have H0 := hide h
  have hbl : Hid (b < w.heap.size) := h.dev.lt
  clear h hW hs g0 hc
  go_enter Try.func12, Try.ntmps12
  go_wp2_with fail
  generalize w.alloc (.cells #[.int .i64 1, .int .i64 on, .int .i64 at_, .slice bo Bs.length bc, .bool raw, .slice fo F.length fc] 45) = wa at *
  obtain ⟨B, hB⟩ : ∃ B, B = w.heap.size := ⟨_, rfl⟩
  have HB := hide hB
  rw [← hB] at b0 b1 b2 b3 b4 b5 HR ⊢
  clear hB
  go_region_held3 (fun w' => w'.cell? ⟨B, 0, none⟩ = some (.int .i64 1) ∧ w'.cell? ⟨B, 1, none⟩ = some (.int .i64 on) ∧ w'.cell? ⟨B, 2, none⟩ = some (.int .i64 at_) ∧ w'.cell? ⟨B, 3, none⟩ = some (.slice bo Bs.length bc) ∧ w'.cell? ⟨B, 4, none⟩ = some (.bool raw) ∧ w'.cell? ⟨B, 5, none⟩ = some (.slice fo F.length fc)) (first | exact ⟨b0, b1, b2, b3, b4, b5⟩ | assumption | go_keep) (first
    | (go_at_call 30; refine (dsize_any (HH.out.1.then (grown_drew _ _))).mono ?_; rintro e w1 ⟨rfl, rfl⟩)
    | (go_at_call 34; refine (block_any ⟨1, on, at_, Bs, raw, F⟩ bo bc fo fc size s1 _ (HH.out.2.2.1.grown (grown_drew _ _))).mono ?_; rintro e w2 ⟨v, rfl, o2, g2⟩; have g2' := grown_trans (grown_drew wa none) g2; have hS2 : w2.cell? ⟨B, 0, none⟩ = some (.int .i64 1) ∧ w2.cell? ⟨B, 1, none⟩ = some (.int .i64 on) ∧ w2.cell? ⟨B, 2, none⟩ = some (.int .i64 at_) ∧ w2.cell? ⟨B, 3, none⟩ = some (.slice bo Bs.length bc) ∧ w2.cell? ⟨B, 4, none⟩ = some (.bool raw) ∧ w2.cell? ⟨B, 5, none⟩ = some (.slice fo F.length fc) := ⟨g2'.cell b0 (by simp), g2'.cell b1 (by simp), g2'.cell b2 (by simp), g2'.cell b3 (by simp), g2'.cell b4 (by simp), g2'.cell b5 (by simp)⟩; have r2 := (g2'.block B (row_lt HR.out) (by simp)).trans HR.out; obtain ⟨ao, cap, rfl, q1, q2, q3, q4, q5, q6⟩ := own_at o2; have A1 := hide (And.intro (And.intro q1 (And.intro q4 r2)) g2'); clear o2 g2 g2' r2 q1 q2 q3 q4 q5 q6)
    | (go_at_call 27; refine (dwrite_any (HH.out.1.then A1.out.2) HH.out.2.1 HH.out.2.2.2.2 at_ ao (blkOf ⟨1, on, at_, Bs, raw, F⟩ size).length cap (blkOf ⟨1, on, at_, Bs, raw, F⟩ size) A1.out.1.2.1 rfl).mono ?_; rintro e w3 ⟨rfl, k3, W3, d3, m3, a3, l3⟩; have r3 := m3.kept.at A1.out.1.2.2 (by rintro (e | e); exact (HH.out.1.then A1.out.2).disk.disk.other_off A1.out.1.2.2 (by decide) (by decide) (by decide) e; have e : B = b := e; have := HB.out; have := hbl.out; omega); have hS3 : w3.cell? ⟨B, 0, none⟩ = some (.int .i64 1) ∧ w3.cell? ⟨B, 1, none⟩ = some (.int .i64 on) ∧ w3.cell? ⟨B, 2, none⟩ = some (.int .i64 at_) ∧ w3.cell? ⟨B, 3, none⟩ = some (.slice bo Bs.length bc) ∧ w3.cell? ⟨B, 4, none⟩ = some (.bool raw) ∧ w3.cell? ⟨B, 5, none⟩ = some (.slice fo F.length fc) := ⟨cell_row r3 0, cell_row r3 1, cell_row r3 2, cell_row r3 3, cell_row r3 4, cell_row r3 5⟩; have A3 := hide (And.intro d3 (And.intro m3 (And.intro a3 l3))); clear d3 m3 a3 l3 r3))
  clear b0 b1 b2 b3 b4 b5 hS2 hS3
  go_wp2
  go_ret2
  exact ⟨_, by simp [opCode], Or.inl ⟨rfl, by simp [opBytes]⟩, k3, D, W3, A3.out.1, DvM.pre HH.out.2.2.2.1 (DvM.pre A1.out.2 A3.out.2.1), by rw [opA, if_pos rfl, A3.out.2.2.1]; cases s.goes <;> rfl, A3.out.2.2.2⟩
set_option maxRecDepth 20000 in
set_option maxHeartbeats 8000000 in
theorem does_read (h : DkS w0 w k n size D W) (on at_ : Int) (Bs : List Nat) (raw : Bool) (F : List (Int × Int)) (bo : Option Addr) (bc : Nat) (fo : Option Addr) (fc : Nat) :
    Calls Try.prog 14 #[.pointer (some ⟨k.d, 0, none⟩), .agg #[.int .i64 2, .int .i64 on, .int .i64 at_, .slice bo Bs.length bc, .bool raw, .slice fo F.length fc]] w fun e w' => Done w0 w w' n size k D W ⟨2, on, at_, Bs, raw, F⟩ e := by
  have g0 := World.grownBy_alloc w (.cells #[.int .i64 2, .int .i64 on, .int .i64 at_, .slice bo Bs.length bc, .bool raw, .slice fo F.length fc] 45) none
  have HR : Hid ((w.alloc (.cells #[.int .i64 2, .int .i64 on, .int .i64 at_, .slice bo Bs.length bc, .bool raw, .slice fo F.length fc] 45)).heap[w.heap.size]? = some (.cells (scells ⟨2, on, at_, Bs, raw, F⟩ bo bc fo fc).toArray 45 (0, 0))) := heap_alloc_new w _
  have b0 : (w.alloc (.cells #[.int .i64 2, .int .i64 on, .int .i64 at_, .slice bo Bs.length bc, .bool raw, .slice fo F.length fc] 45)).cell? ⟨w.heap.size, 0, none⟩ = some (.int .i64 2) := cell_row HR.out 0
  have b2 : (w.alloc (.cells #[.int .i64 2, .int .i64 on, .int .i64 at_, .slice bo Bs.length bc, .bool raw, .slice fo F.length fc] 45)).cell? ⟨w.heap.size, 2, none⟩ = some (.int .i64 at_) := cell_row HR.out 2
  have HH := hide (And.intro (h.then g0) g0)
  have hsz := g0.size
  have HG := hide g0
  clear h g0
  go_enter Try.func14, Try.ntmps14
  go_wp2_with fail
  generalize w.alloc (.cells #[.int .i64 2, .int .i64 on, .int .i64 at_, .slice bo Bs.length bc, .bool raw, .slice fo F.length fc] 45) = wa at *
  generalize w.heap.size = B at *
  refine (rd_disk rfl HH.out.1 at_).mono ?_
  rintro e w2 ⟨v, rfl, v2, g2⟩
  have H2 := hide (And.intro v2 g2)
  clear v2 g2
  go_wp2
  go_ret2
  exact ⟨v, by simp [opCode], H2.out.1.later (HG.out.size) (grown_refl _ _), k, D, W, HH.out.1.then H2.out.2, (Moved.refl w k W).new (grown_trans HG.out H2.out.2), by simp [opA], by omega⟩
set_option maxRecDepth 20000 in
set_option maxHeartbeats 8000000 in
theorem does_sync (h : DkS w0 w k n size D W) (on at_ : Int) (Bs : List Nat) (raw : Bool) (F : List (Int × Int)) (bo : Option Addr) (bc : Nat) (fo : Option Addr) (fc : Nat) :
    Calls Try.prog 14 #[.pointer (some ⟨k.d, 0, none⟩), .agg #[.int .i64 3, .int .i64 on, .int .i64 at_, .slice bo Bs.length bc, .bool raw, .slice fo F.length fc]] w fun e w' => Done w0 w w' n size k D W ⟨3, on, at_, Bs, raw, F⟩ e := by
  have g0 := World.grownBy_alloc w (.cells #[.int .i64 3, .int .i64 on, .int .i64 at_, .slice bo Bs.length bc, .bool raw, .slice fo F.length fc] 45) none
  have HR : Hid ((w.alloc (.cells #[.int .i64 3, .int .i64 on, .int .i64 at_, .slice bo Bs.length bc, .bool raw, .slice fo F.length fc] 45)).heap[w.heap.size]? = some (.cells (scells ⟨3, on, at_, Bs, raw, F⟩ bo bc fo fc).toArray 45 (0, 0))) := heap_alloc_new w _
  have b0 : (w.alloc (.cells #[.int .i64 3, .int .i64 on, .int .i64 at_, .slice bo Bs.length bc, .bool raw, .slice fo F.length fc] 45)).cell? ⟨w.heap.size, 0, none⟩ = some (.int .i64 3) := cell_row HR.out 0
  have b2 : (w.alloc (.cells #[.int .i64 3, .int .i64 on, .int .i64 at_, .slice bo Bs.length bc, .bool raw, .slice fo F.length fc] 45)).cell? ⟨w.heap.size, 2, none⟩ = some (.int .i64 at_) := cell_row HR.out 2
  have HH := hide (And.intro (h.then g0) g0)
  have hsz := g0.size
  have HG := hide g0
  clear h g0
  go_enter Try.func14, Try.ntmps14
  go_wp2_with fail
  generalize w.alloc (.cells #[.int .i64 3, .int .i64 on, .int .i64 at_, .slice bo Bs.length bc, .bool raw, .slice fo F.length fc] 45) = wa at *
  generalize w.heap.size = B at *
  refine (syncS rfl HH.out.1).mono ?_
  rintro e w2 ⟨rfl, d2, m2⟩
  have H2 := hide (And.intro d2 m2)
  clear d2 m2
  go_wp2
  go_ret2
  exact ⟨_, by simp [opCode], Or.inl ⟨rfl, by simp [opBytes]⟩, k.calm, _, [], H2.out.1, Moved.pre HG.out (calm_moved H2.out.2), by rw [opA, if_neg (by simp), if_neg (by simp), syncA, stl_abs, abs_length]; rfl, by simp⟩
set_option maxRecDepth 20000 in
set_option maxHeartbeats 8000000 in
theorem asks_read (h : Dev w0 w n size b s k D W) (hc : s.cnt < 100000) (on at_ : Int) (Bs : List Nat) (raw : Bool) (F : List (Int × Int)) (bo : Option Addr) (bc : Nat) (fo : Option Addr) (fc : Nat) :
    Calls Try.prog 12 #[.pointer (some ⟨b, 0, none⟩), .agg #[.int .i64 2, .int .i64 on, .int .i64 at_, .slice bo Bs.length bc, .bool raw, .slice fo F.length fc]] w fun e w' => Asked w0 w w' n size b s k D W ⟨2, on, at_, Bs, raw, F⟩ e := by
  have g0 := World.grownBy_alloc w (.cells #[.int .i64 2, .int .i64 on, .int .i64 at_, .slice bo Bs.length bc, .bool raw, .slice fo F.length fc] 45) none
  have HR : Hid ((w.alloc (.cells #[.int .i64 2, .int .i64 on, .int .i64 at_, .slice bo Bs.length bc, .bool raw, .slice fo F.length fc] 45)).heap[w.heap.size]? = some (.cells (scells ⟨2, on, at_, Bs, raw, F⟩ bo bc fo fc).toArray 45 (0, 0))) := heap_alloc_new w _
  have b0 : (w.alloc (.cells #[.int .i64 2, .int .i64 on, .int .i64 at_, .slice bo Bs.length bc, .bool raw, .slice fo F.length fc] 45)).cell? ⟨w.heap.size, 0, none⟩ = some (.int .i64 2) := cell_row HR.out 0
  have b2 : (w.alloc (.cells #[.int .i64 2, .int .i64 on, .int .i64 at_, .slice bo Bs.length bc, .bool raw, .slice fo F.length fc] 45)).cell? ⟨w.heap.size, 2, none⟩ = some (.int .i64 at_) := cell_row HR.out 2
  have HH := hide (And.intro (h.then g0) (And.intro g0 hc))
  have hsz := g0.size
  have HG := hide g0
  clear h g0 hc
  go_enter Try.func12, Try.ntmps12
  go_wp2_with fail
  generalize w.alloc (.cells #[.int .i64 2, .int .i64 on, .int .i64 at_, .slice bo Bs.length bc, .bool raw, .slice fo F.length fc] 45) = wa at *
  generalize w.heap.size = B at *
  refine (dread_any HH.out.1 HH.out.2.2 at_).mono ?_
  rintro e w2 ⟨v, rfl, v2, d2, m2⟩
  have H2 := hide (And.intro v2 (And.intro d2 m2))
  clear v2 d2 m2
  go_wp2
  go_ret2
  exact ⟨v, by simp [opCode], H2.out.1.later (HG.out.size) (grown_refl _ _), k, D, W, H2.out.2.1, DvM.pre HG.out H2.out.2.2, by simp [opA], by omega⟩
set_option maxRecDepth 20000 in
set_option maxHeartbeats 8000000 in
theorem asks_sync (h : Dev w0 w n size b s k D W) (hc : s.cnt < 100000) (on at_ : Int) (Bs : List Nat) (raw : Bool) (F : List (Int × Int)) (bo : Option Addr) (bc : Nat) (fo : Option Addr) (fc : Nat) :
    Calls Try.prog 12 #[.pointer (some ⟨b, 0, none⟩), .agg #[.int .i64 3, .int .i64 on, .int .i64 at_, .slice bo Bs.length bc, .bool raw, .slice fo F.length fc]] w fun e w' => Asked w0 w w' n size b s k D W ⟨3, on, at_, Bs, raw, F⟩ e := by
  have g0 := World.grownBy_alloc w (.cells #[.int .i64 3, .int .i64 on, .int .i64 at_, .slice bo Bs.length bc, .bool raw, .slice fo F.length fc] 45) none
  have HR : Hid ((w.alloc (.cells #[.int .i64 3, .int .i64 on, .int .i64 at_, .slice bo Bs.length bc, .bool raw, .slice fo F.length fc] 45)).heap[w.heap.size]? = some (.cells (scells ⟨3, on, at_, Bs, raw, F⟩ bo bc fo fc).toArray 45 (0, 0))) := heap_alloc_new w _
  have b0 : (w.alloc (.cells #[.int .i64 3, .int .i64 on, .int .i64 at_, .slice bo Bs.length bc, .bool raw, .slice fo F.length fc] 45)).cell? ⟨w.heap.size, 0, none⟩ = some (.int .i64 3) := cell_row HR.out 0
  have b2 : (w.alloc (.cells #[.int .i64 3, .int .i64 on, .int .i64 at_, .slice bo Bs.length bc, .bool raw, .slice fo F.length fc] 45)).cell? ⟨w.heap.size, 2, none⟩ = some (.int .i64 at_) := cell_row HR.out 2
  have HH := hide (And.intro (h.then g0) (And.intro g0 hc))
  have hsz := g0.size
  have HG := hide g0
  clear h g0 hc
  go_enter Try.func12, Try.ntmps12
  go_wp2_with fail
  generalize w.alloc (.cells #[.int .i64 3, .int .i64 on, .int .i64 at_, .slice bo Bs.length bc, .bool raw, .slice fo F.length fc] 45) = wa at *
  generalize w.heap.size = B at *
  refine (dsync_any HH.out.1 HH.out.2.2).mono ?_
  rintro e w2 ⟨rfl, k2, D2, W2, d2, m2, a2, l2⟩
  have H2 := hide (And.intro d2 (And.intro m2 (And.intro a2 l2)))
  clear d2 m2 a2 l2
  go_wp2
  go_ret2
  exact ⟨_, by simp [opCode], Or.inl ⟨rfl, by simp [opBytes]⟩, k2, D2, W2, H2.out.1, DvM.pre HG.out H2.out.2.1, by simpa [opA] using H2.out.2.2.1, by have := H2.out.2.2.2; omega⟩
end
end Go.Proofs.Ytaopcidkgcekdaa
