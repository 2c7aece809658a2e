/- Texts joined: StA. -/
import Derived.Test.YtaopcidkgcekdaaGreatJsAo
import Derived.Test.YtaopcidkgcekdaaGreatJsAs
/- A step on a device and the document's. -/
namespace Go.Proofs.YtaopcidkgcekdaaGreat
open Go.RowKit Ap
attribute [local go_sem ↓] Go.wp_at_zero Go.wp_at_succ

structure PxLen (p : Px) : Prop where
  w : p.W.length ≤ 900
  v : p.q.V.length ≤ 900
  s : p.s.cnt ≤ 90000
  t : p.t.cnt ≤ 90000
/-- What a step comes to. -/
def Stepped (w0 w w' : World) (n size : Nat) (p : Px) (e : Ending) : Prop :=
  ∃ B : Bool, e = .returned (.bool B) ∧ ∃ p', PxW w0 w w' n size p p' ∧ (p'.W.length ≤ p.W.length + 1 ∧ p'.q.V.length ≤ p.q.V.length + 1 ∧ p'.s.cnt ≤ p.s.cnt + 1 ∧ p'.t.cnt ≤ p.t.cnt + 1) ∧ (PxSame n size p → B = true ∧ PxSame n size p')
section
variable {w0 w : World} {n size : Nat} {p : Px}
theorem dcell {w1 w2 : World} {k' : Dk} {W' : List Wt} {A j : Nat} {v : Value} (F0 : ∀ i, p.all i → i < w.heap.size) (m : DvM w1 w2 p.b p.k k' p.W W') (hc : w1.cell? ⟨A, j, none⟩ = some v) (hA : w.heap.size ≤ A) : w2.cell? ⟨A, j, none⟩ = some v := cell_kept m.kept hc (by
  rintro (e | e)
  · have := F0 A (.inl (.inl e)); omega
  · have e : A = p.b := e
    have := F0 A (.inr (.inr (.inl e))); omega)
theorem rcell {w1 w2 : World} {q' : Rk} {A j : Nat} {v : Value} (F0 : ∀ i, p.all i → i < w.heap.size) (m : RM w1 w2 p.c p.q q') (hc : w1.cell? ⟨A, j, none⟩ = some v) (hA : w.heap.size ≤ A) : w2.cell? ⟨A, j, none⟩ = some v := cell_kept m.kept hc (by
  rintro (e | e)
  · have := F0 A (.inr (.inl e)); omega
  · have e : A = p.c := e
    have := F0 A (.inr (.inr (.inr e))); omega)
theorem secs_abs {L : Nat → Nat} {D : List Nat} {W : List Wt} (hD : D.length = n * size) (hW : Fits n size W) : secs n size (stlP size L D (abs W) (abs W).length) = stlR L (abs W) (secs n size D) (abs W).length := by
  rw [← stl_abs]; exact secs_stl hD hW _
theorem same_sync {k' : Dk} {D' : List Nat} {W' : List Wt} {q' : Rk} (h : PxSame n size p) (hd : DiskAt w p.k n size p.D p.W) (e1 : (D', abs W') = (if p.s.goes then syncA size (p.D, abs p.W) else (p.D, abs p.W))) (e2 : rst q' = (if p.t.goes then rsyncA size (rst p.q) else rst p.q)) : PxSame n size ⟨p.b, p.s.next, k', D', W', p.c, p.t.next, q'⟩ := by
  rw [h.st] at e1
  cases hg : p.t.goes with
  | true =>
    rw [hg, if_pos rfl] at e1 e2
    obtain ⟨e3, e4⟩ := Prod.mk.inj e1
    refine ⟨by show p.s.next = p.t.next; rw [h.st], ?_, ?_⟩
    · show secs n size D' = (rst q').1
      rw [e2, e3, rsyncA, ← h.waits, ← h.rows]
      exact secs_abs hd.len hd.fitsW
    · show abs W' = (rst q').2
      rw [e2, e4]; rfl
  | false =>
    rw [hg] at e1 e2
    obtain ⟨e3, e4⟩ := Prod.mk.inj e1
    refine ⟨by show p.s.next = p.t.next; rw [h.st], ?_, ?_⟩
    · show secs n size D' = (rst q').1
      rw [e2, e3]; exact h.rows
    · show abs W' = (rst q').2
      rw [e2, e4]; exact h.waits
theorem rst_len {q' : Rk} {X : List (List Nat) × List Pr} (e : rst q' = X) : q'.V.length = X.2.length := by
  rw [← e]; simp [rst, absV]
set_option maxRecDepth 20000 in
set_option maxHeartbeats 16000000 in
theorem step_sync (h : PxAt w0 w n size p) (hl : PxLen p) (uo : Option Addr) (on at_ : Int) (Bs : List Nat) (raw : Bool) (F : List (Int × Int)) (bo : Option Addr) (bc : Nat) (fo : Option Addr) (fc : Nat) (hs : SIn w ⟨3, on, at_, Bs, raw, F⟩ bo bc fo fc) :
    Calls Tryz.prog 9 #[.agg #[.pointer (some ⟨p.b, 0, none⟩), .pointer uo, .pointer (some ⟨p.c, 0, none⟩)], .agg #[.int .i64 3, .int .i64 on, .int .i64 at_, .slice bo Bs.length bc, .bool raw, .slice fo F.length fc]] w fun e w' => Stepped w0 w w' n size p e := by
  have g1 := World.grownBy_alloc w (.cells #[.pointer (some ⟨p.b, 0, none⟩), .pointer uo, .pointer (some ⟨p.c, 0, none⟩)] 27) none
  have g2 := World.grownBy_alloc (w.alloc (.cells #[.pointer (some ⟨p.b, 0, none⟩), .pointer uo, .pointer (some ⟨p.c, 0, none⟩)] 27)) (.cells #[.int .i64 3, .int .i64 on, .int .i64 at_, .slice bo Bs.length bc, .bool raw, .slice fo F.length fc] 35) none
  have r1 : (w.alloc (.cells #[.pointer (some ⟨p.b, 0, none⟩), .pointer uo, .pointer (some ⟨p.c, 0, none⟩)] 27)).heap[w.heap.size]? = some (.cells [.pointer (some ⟨p.b, 0, none⟩), .pointer uo, .pointer (some ⟨p.c, 0, none⟩)].toArray 27 (0, 0)) := heap_alloc_new w _
  have hX : (w.alloc (.cells #[.pointer (some ⟨p.b, 0, none⟩), .pointer uo, .pointer (some ⟨p.c, 0, none⟩)] 27)).heap.size = w.heap.size + 1 := by simp
  have r2 : ((w.alloc (.cells #[.pointer (some ⟨p.b, 0, none⟩), .pointer uo, .pointer (some ⟨p.c, 0, none⟩)] 27)).alloc (.cells #[.int .i64 3, .int .i64 on, .int .i64 at_, .slice bo Bs.length bc, .bool raw, .slice fo F.length fc] 35)).heap[w.heap.size + 1]? = some (.cells (scells ⟨3, on, at_, Bs, raw, F⟩ bo bc fo fc).toArray 35 (0, 0)) := by rw [← hX]; exact heap_alloc_new _ _
  have r1' := (g2.block _ (row_lt r1) (by simp)).trans r1
  have s1 := h.dev.disk.disk.shape.s1
  have s0 := h.dev.disk.disk.shape.s0
  have G := hide (grown_trans g1 g2)
  have HL := hide hl
  have HA := hide (And.intro h (hs.grown G.out))
  have F0 : Hid (∀ i, p.all i → i < w.heap.size) := h.lt
  have hS0 : ∀ B1 B2, B1 = w.heap.size → B2 = w.heap.size + 1 → (((w.alloc (.cells #[.pointer (some ⟨p.b, 0, none⟩), .pointer uo, .pointer (some ⟨p.c, 0, none⟩)] 27)).alloc (.cells #[.int .i64 3, .int .i64 on, .int .i64 at_, .slice bo Bs.length bc, .bool raw, .slice fo F.length fc] 35)).cell? ⟨B1, 0, none⟩ = some (.pointer (some ⟨p.b, 0, none⟩)) ∧ ((w.alloc (.cells #[.pointer (some ⟨p.b, 0, none⟩), .pointer uo, .pointer (some ⟨p.c, 0, none⟩)] 27)).alloc (.cells #[.int .i64 3, .int .i64 on, .int .i64 at_, .slice bo Bs.length bc, .bool raw, .slice fo F.length fc] 35)).cell? ⟨B1, 1, none⟩ = some (.pointer uo) ∧ ((w.alloc (.cells #[.pointer (some ⟨p.b, 0, none⟩), .pointer uo, .pointer (some ⟨p.c, 0, none⟩)] 27)).alloc (.cells #[.int .i64 3, .int .i64 on, .int .i64 at_, .slice bo Bs.length bc, .bool raw, .slice fo F.length fc] 35)).cell? ⟨B1, 2, none⟩ = some (.pointer (some ⟨p.c, 0, none⟩)) ∧ ((w.alloc (.cells #[.pointer (some ⟨p.b, 0, none⟩), .pointer uo, .pointer (some ⟨p.c, 0, none⟩)] 27)).alloc (.cells #[.int .i64 3, .int .i64 on, .int .i64 at_, .slice bo Bs.length bc, .bool raw, .slice fo F.length fc] 35)).cell? ⟨B2, 0, none⟩ = some (.int .i64 3) ∧ ((w.alloc (.cells #[.pointer (some ⟨p.b, 0, none⟩), .pointer uo, .pointer (some ⟨p.c, 0, none⟩)] 27)).alloc (.cells #[.int .i64 3, .int .i64 on, .int .i64 at_, .slice bo Bs.length bc, .bool raw, .slice fo F.length fc] 35)).cell? ⟨B2, 1, none⟩ = some (.int .i64 on) ∧ ((w.alloc (.cells #[.pointer (some ⟨p.b, 0, none⟩), .pointer uo, .pointer (some ⟨p.c, 0, none⟩)] 27)).alloc (.cells #[.int .i64 3, .int .i64 on, .int .i64 at_, .slice bo Bs.length bc, .bool raw, .slice fo F.length fc] 35)).cell? ⟨B2, 2, none⟩ = some (.int .i64 at_) ∧ ((w.alloc (.cells #[.pointer (some ⟨p.b, 0, none⟩), .pointer uo, .pointer (some ⟨p.c, 0, none⟩)] 27)).alloc (.cells #[.int .i64 3, .int .i64 on, .int .i64 at_, .slice bo Bs.length bc, .bool raw, .slice fo F.length fc] 35)).cell? ⟨B2, 3, none⟩ = some (.slice bo Bs.length bc) ∧ ((w.alloc (.cells #[.pointer (some ⟨p.b, 0, none⟩), .pointer uo, .pointer (some ⟨p.c, 0, none⟩)] 27)).alloc (.cells #[.int .i64 3, .int .i64 on, .int .i64 at_, .slice bo Bs.length bc, .bool raw, .slice fo F.length fc] 35)).cell? ⟨B2, 4, none⟩ = some (.bool raw) ∧ ((w.alloc (.cells #[.pointer (some ⟨p.b, 0, none⟩), .pointer uo, .pointer (some ⟨p.c, 0, none⟩)] 27)).alloc (.cells #[.int .i64 3, .int .i64 on, .int .i64 at_, .slice bo Bs.length bc, .bool raw, .slice fo F.length fc] 35)).cell? ⟨B2, 5, none⟩ = some (.slice fo F.length fc)) := by
    rintro B1 B2 rfl rfl
    exact ⟨cell_row r1' 0, cell_row r1' 1, cell_row r1' 2, cell_row r2 0, cell_row r2 1, cell_row r2 2, cell_row r2 3, cell_row r2 4, cell_row r2 5⟩
  have hS1 := hS0 _ _ rfl rfl
  obtain ⟨y0, y1, y2, y3, y4, y5, y6, y7, y8⟩ := hS1
  clear hS0 h hl hs g1 g2 r1 r1' r2 hX
  go_enter Tryz.func9, Tryz.ntmps9
  go_wp2_with fail
  generalize (w.alloc (.cells #[.pointer (some ⟨p.b, 0, none⟩), .pointer uo, .pointer (some ⟨p.c, 0, none⟩)] 27)).alloc (.cells #[.int .i64 3, .int .i64 on, .int .i64 at_, .slice bo Bs.length bc, .bool raw, .slice fo F.length fc] 35) = wa at *
  obtain ⟨B1, hB1⟩ : ∃ B1, B1 = w.heap.size := ⟨_, rfl⟩
  obtain ⟨B2, hB2⟩ : ∃ B2, B2 = w.heap.size + 1 := ⟨_, rfl⟩
  have HB := hide (And.intro hB1 hB2)
  rw [← hB2] at y3 y4 y5 y6 y7 y8 ⊢
  rw [← hB1] at y0 y1 y2 ⊢
  clear hB1 hB2
  go_region_held3 (fun w' => w'.cell? ⟨B1, 0, none⟩ = some (.pointer (some ⟨p.b, 0, none⟩)) ∧ w'.cell? ⟨B1, 1, none⟩ = some (.pointer uo) ∧ w'.cell? ⟨B1, 2, none⟩ = some (.pointer (some ⟨p.c, 0, none⟩)) ∧ w'.cell? ⟨B2, 0, none⟩ = some (.int .i64 3) ∧ w'.cell? ⟨B2, 1, none⟩ = some (.int .i64 on) ∧ w'.cell? ⟨B2, 2, none⟩ = some (.int .i64 at_) ∧ w'.cell? ⟨B2, 3, none⟩ = some (.slice bo Bs.length bc) ∧ w'.cell? ⟨B2, 4, none⟩ = some (.bool raw) ∧ w'.cell? ⟨B2, 5, none⟩ = some (.slice fo F.length fc)) (first | exact ⟨y0, y1, y2, y3, y4, y5, y6, y7, y8⟩ | assumption | go_keep) (first
    | (go_at_call 29; refine (rdsize_any (HA.out.1.rd.then (grown_trans G.out (grown_drew _ _)))).mono ?_; rintro e w1 ⟨rfl, rfl⟩)
    | (go_at_call 28; refine (block_any ⟨3, on, at_, Bs, raw, F⟩ bo bc fo fc size s1 _ (HA.out.2.grown (grown_drew _ _))).mono ?_; rintro e w1 ⟨v, rfl, o2, g2⟩; have g2' := grown_trans (grown_drew wa none) g2; have hS2 : w1.cell? ⟨B1, 0, none⟩ = some (.pointer (some ⟨p.b, 0, none⟩)) ∧ w1.cell? ⟨B1, 1, none⟩ = some (.pointer uo) ∧ w1.cell? ⟨B1, 2, none⟩ = some (.pointer (some ⟨p.c, 0, none⟩)) ∧ w1.cell? ⟨B2, 0, none⟩ = some (.int .i64 3) ∧ w1.cell? ⟨B2, 1, none⟩ = some (.int .i64 on) ∧ w1.cell? ⟨B2, 2, none⟩ = some (.int .i64 at_) ∧ w1.cell? ⟨B2, 3, none⟩ = some (.slice bo Bs.length bc) ∧ w1.cell? ⟨B2, 4, none⟩ = some (.bool raw) ∧ w1.cell? ⟨B2, 5, none⟩ = some (.slice fo F.length fc) := ⟨g2'.cell y0 (by simp), g2'.cell y1 (by simp), g2'.cell y2 (by simp), g2'.cell y3 (by simp), g2'.cell y4 (by simp), g2'.cell y5 (by simp), g2'.cell y6 (by simp), g2'.cell y7 (by simp), g2'.cell y8 (by simp)⟩; obtain ⟨ba, bcap, rfl, q1, q2, q3, q4, q5, q6⟩ := own_at o2; have A1 := hide (And.intro (grown_trans G.out g2') (And.intro q4 (And.intro q5 (And.intro q6 G.out.size)))); clear o2 g2 g2' q1 q2 q3 q4 q5 q6))
  obtain ⟨z0, z1, z2, z3, z4, z5, z6, z7, z8⟩ := hS2
  clear y0 y1 y2 y3 y4 y5 y6 y7 y8
  have hbl := blkOf_le ⟨3, on, at_, Bs, raw, F⟩ size HA.out.2.bin.size s1
  have HX := hide (show (blkOf ⟨3, on, at_, Bs, raw, F⟩ size).length = (blkOf ⟨3, on, at_, Bs, raw, F⟩ size).length from rfl)
  obtain ⟨X, hX⟩ : ∃ X, X = blkOf ⟨3, on, at_, Bs, raw, F⟩ size := ⟨_, rfl⟩
  rw [← hX] at A1 hbl HX ⊢
  have HXE := hide hX
  clear hX
  have HW := hide ((PxW.refl HA.out.1).new A1.out.1)
  go_wp2_with fail
  go_region_held3 (fun w' => w'.cell? ⟨B1, 0, none⟩ = some (.pointer (some ⟨p.b, 0, none⟩)) ∧ w'.cell? ⟨B1, 1, none⟩ = some (.pointer uo) ∧ w'.cell? ⟨B1, 2, none⟩ = some (.pointer (some ⟨p.c, 0, none⟩)) ∧ w'.cell? ⟨B2, 0, none⟩ = some (.int .i64 3) ∧ w'.cell? ⟨B2, 1, none⟩ = some (.int .i64 on) ∧ w'.cell? ⟨B2, 2, none⟩ = some (.int .i64 at_) ∧ w'.cell? ⟨B2, 3, none⟩ = some (.slice bo Bs.length bc) ∧ w'.cell? ⟨B2, 4, none⟩ = some (.bool raw) ∧ w'.cell? ⟨B2, 5, none⟩ = some (.slice fo F.length fc)) (first | exact ⟨z0, z1, z2, z3, z4, z5, z6, z7, z8⟩ | assumption | go_keep) (first
    | (go_at_call 18; refine (dsync_any (HW.out.z.dev.then (grown_drew _ _)) (by have := HL.out.s; omega)).mono ?_; rintro e w2 ⟨rfl, k2, D2, W2, d2, m2, a2, l2⟩; have m2' := DvM.pre (grown_drew w1 none) m2; have hS3 : w2.cell? ⟨B1, 0, none⟩ = some (.pointer (some ⟨p.b, 0, none⟩)) ∧ w2.cell? ⟨B1, 1, none⟩ = some (.pointer uo) ∧ w2.cell? ⟨B1, 2, none⟩ = some (.pointer (some ⟨p.c, 0, none⟩)) ∧ w2.cell? ⟨B2, 0, none⟩ = some (.int .i64 3) ∧ w2.cell? ⟨B2, 1, none⟩ = some (.int .i64 on) ∧ w2.cell? ⟨B2, 2, none⟩ = some (.int .i64 at_) ∧ w2.cell? ⟨B2, 3, none⟩ = some (.slice bo Bs.length bc) ∧ w2.cell? ⟨B2, 4, none⟩ = some (.bool raw) ∧ w2.cell? ⟨B2, 5, none⟩ = some (.slice fo F.length fc) := ⟨dcell F0.out m2' z0 (by have := HB.out; omega), dcell F0.out m2' z1 (by have := HB.out; omega), dcell F0.out m2' z2 (by have := HB.out; omega), dcell F0.out m2' z3 (by have := HB.out; omega), dcell F0.out m2' z4 (by have := HB.out; omega), dcell F0.out m2' z5 (by have := HB.out; omega), dcell F0.out m2' z6 (by have := HB.out; omega), dcell F0.out m2' z7 (by have := HB.out; omega), dcell F0.out m2' z8 (by have := HB.out; omega)⟩; have H2 := hide (HW.out.dev d2 m2'); have E2 := hide (And.intro a2 l2); clear d2 m2 m2' a2 l2)
    | (go_at_call 39; refine (rdsync_any H2.out.z.rd (by have := HL.out.v; show p.q.V.length ≤ _; omega) (by have := HL.out.t; show p.t.cnt < _; omega)).mono ?_; rintro e w3 ⟨rfl, q3, d3, m3, a3⟩; obtain ⟨u0, u1, u2, u3, u4, u5, u6, u7, u8⟩ := hS3; have hS4 : w3.cell? ⟨B1, 0, none⟩ = some (.pointer (some ⟨p.b, 0, none⟩)) ∧ w3.cell? ⟨B1, 1, none⟩ = some (.pointer uo) ∧ w3.cell? ⟨B1, 2, none⟩ = some (.pointer (some ⟨p.c, 0, none⟩)) ∧ w3.cell? ⟨B2, 0, none⟩ = some (.int .i64 3) ∧ w3.cell? ⟨B2, 1, none⟩ = some (.int .i64 on) ∧ w3.cell? ⟨B2, 2, none⟩ = some (.int .i64 at_) ∧ w3.cell? ⟨B2, 3, none⟩ = some (.slice bo Bs.length bc) ∧ w3.cell? ⟨B2, 4, none⟩ = some (.bool raw) ∧ w3.cell? ⟨B2, 5, none⟩ = some (.slice fo F.length fc) := ⟨rcell F0.out m3 u0 (by have := HB.out; omega), rcell F0.out m3 u1 (by have := HB.out; omega), rcell F0.out m3 u2 (by have := HB.out; omega), rcell F0.out m3 u3 (by have := HB.out; omega), rcell F0.out m3 u4 (by have := HB.out; omega), rcell F0.out m3 u5 (by have := HB.out; omega), rcell F0.out m3 u6 (by have := HB.out; omega), rcell F0.out m3 u7 (by have := HB.out; omega), rcell F0.out m3 u8 (by have := HB.out; omega)⟩; have H3 := hide (H2.out.ref d3 m3); have E3 := hide a3; clear d3 m3 a3))
  go_wp2
  go_ret
  refine ⟨_, rfl, _, H3.out, ⟨Nat.le_succ_of_le E2.out.2, ?_, p.s.next_cnt, p.t.next_cnt⟩, fun hsame => ⟨?_, same_sync hsame HA.out.1.dev.disk.disk E2.out.1 E3.out⟩⟩
  · have := rst_len E3.out
    show q3.V.length ≤ _
    rw [this]
    split
    · simp [rsyncA]
    · simp [rst, absV]
  · rw [hsame.st]; simp
theorem PxW.later {w' w'' : World} {p' : Px} {S : Nat → Prop} (h : PxW w0 w w' n size p p') (hk : Kept w' w'' S) (hS : ∀ i, S i → w.heap.size ≤ i ∧ ¬ p'.all i) : PxW w0 w w'' n size p p' :=
  ⟨h.z.other hk (fun i hi e => (hS i e).2 hi) (fun i e => Nat.le_trans h.low (hS i e).1), ⟨h.mv.eb, h.mv.ec, h.mv.kd, h.mv.own, h.mv.all, h.mv.kept.trans hk (fun i hi e => by have := (hS i e).1; omega)⟩, h.low⟩
theorem same_arm (h : PxSame n size p) (m : Int) : PxSame n size ⟨p.b, p.s.armed m, p.k, p.D, p.W, p.c, p.t.armed m, p.q⟩ := ⟨by show p.s.armed m = p.t.armed m; rw [h.st], h.rows, h.waits⟩
theorem armed_cnt (s : Dv) (m : Int) : (s.armed m).cnt = s.cnt := by unfold Dv.armed; split <;> rfl
theorem same_next (h : PxSame n size p) : PxSame n size ⟨p.b, p.s.next, p.k, p.D, p.W, p.c, p.t.next, p.q⟩ := ⟨by show p.s.next = p.t.next; rw [h.st], h.rows, h.waits⟩
theorem rbytes_same (h : PxSame n size p) (a : Int) : rrbytes n (rst p.q) a = rbytes n size p.D p.W a := by
  unfold rrbytes rbytes
  split
  · rename_i ha
    rw [← h.waits]
    exact (found_ref (by omega) rfl h.rows).symm
  · rfl
theorem gives_rsame {w1 w' : World} {v u : Value} {xs : List Nat} (h0 : 0 < size) (h1 : size ≤ 4096) (hv : Gives w1 w' size v xs) (hu : RGives w' size u xs) : Calls Tryz.prog 37 #[v, u] w' fun e w'' => e = .returned (.bool true) ∧ ∃ q, w'' = w'.drewN q := by
  rcases hv with ⟨rfl, rfl⟩ | ⟨g, rfl, _, h3, h4⟩
  · rcases hu with ⟨rfl, _⟩ | ⟨g, cc, rfl, _, h4⟩
    · exact sameBytes_eq none none 0 0 0 [] w' rfl (At.nil _ _) (At.nil _ _) (by omega)
    · simp at h4; omega
  · rcases hu with ⟨rfl, rfl⟩ | ⟨g', cc, rfl, h5, h6⟩
    · simp at h4; omega
    · exact sameBytes_eq _ _ size size cc xs w' h4 (at_row h3) h5 (by omega)
theorem gives_form {w1 w' : World} {v : Value} {xs : List Nat} (hv : Gives w1 w' size v xs) : ∃ ao l c, v = .slice ao l c := by
  rcases hv with ⟨rfl, _⟩ | ⟨g, rfl, _, _, _⟩
  · exact ⟨_, _, _, rfl⟩
  · exact ⟨_, _, _, rfl⟩
theorem rgives_form {w' : World} {v : Value} {xs : List Nat} (hv : RGives w' size v xs) : ∃ ao l c, v = .slice ao l c := by
  rcases hv with ⟨rfl, _⟩ | ⟨g, c, rfl, _, _⟩
  · exact ⟨_, _, _, rfl⟩
  · exact ⟨_, _, _, rfl⟩
theorem gives_keep {w1 w2 w3 : World} {v : Value} {xs : List Nat} {S : Nat → Prop} (h : Gives w1 w2 size v xs) (hk : Kept w2 w3 S) (hS : ∀ i, w1.heap.size ≤ i → ¬ S i) : Gives w1 w3 size v xs := by
  rcases h with h | ⟨g, h1, h2, h3, h4⟩
  · exact Or.inl h
  · exact Or.inr ⟨g, h1, h2, hk.at h3 (hS g h2), h4⟩
theorem gives_apart {w1 w' : World} {v : Value} {xs : List Nat} (h1 : size ≤ 4096) (hv : Gives w1 w' size v xs) (hl : w1.heap.size ≤ w'.heap.size) : Calls Tryz.prog 38 #[.slice (some ⟨w'.heap.size, 0, none⟩) 1 1] (w'.alloc (.cells #[v] 32)) fun e w'' => e = .returned (.bool true) ∧ Kept w' w'' (fun i => w1.heap.size ≤ i) := by
  have hrw : Rw w' w1.heap.size [v] := by
    rcases hv with ⟨rfl, rfl⟩ | ⟨g, rfl, h2, h3, h4⟩
    · exact Rw.cons (World.ownsRow_nil _ _ _ _) (by omega) (by simp) (Rw.nil _ _)
    · exact Rw.cons (own_of_row h3 (by rw [bv_length, h4]) h2 (by unfold maxLen; omega)) (by omega) (by simp) (Rw.nil _ _)
  refine (apartBytes_rows w1.heap.size [v] w' hrw hl (by simp) (by simp)).mono ?_
  rintro e w'' ⟨rfl, hg⟩
  refine ⟨rfl, ⟨hg.os, hg.tape, hg.output, hg.size, fun i hi hn => hg.block i hi ?_⟩⟩
  rintro ⟨k, hk, e⟩
  obtain ⟨m, ys, ho, _⟩ := hrw.row k hk
  exact hn (ho.lt i e).1
set_option maxRecDepth 20000 in
set_option maxHeartbeats 16000000 in
theorem step_arm (h : PxAt w0 w n size p) (hl : PxLen p) (uo : Option Addr) (on at_ : Int) (Bs : List Nat) (raw : Bool) (F : List (Int × Int)) (bo : Option Addr) (bc : Nat) (fo : Option Addr) (fc : Nat) (hs : SIn w ⟨4, on, at_, Bs, raw, F⟩ bo bc fo fc) :
    Calls Tryz.prog 9 #[.agg #[.pointer (some ⟨p.b, 0, none⟩), .pointer uo, .pointer (some ⟨p.c, 0, none⟩)], .agg #[.int .i64 4, .int .i64 on, .int .i64 at_, .slice bo Bs.length bc, .bool raw, .slice fo F.length fc]] w fun e w' => Stepped w0 w w' n size p e := by
  have g1 := World.grownBy_alloc w (.cells #[.pointer (some ⟨p.b, 0, none⟩), .pointer uo, .pointer (some ⟨p.c, 0, none⟩)] 27) none
  have g2 := World.grownBy_alloc (w.alloc (.cells #[.pointer (some ⟨p.b, 0, none⟩), .pointer uo, .pointer (some ⟨p.c, 0, none⟩)] 27)) (.cells #[.int .i64 4, .int .i64 on, .int .i64 at_, .slice bo Bs.length bc, .bool raw, .slice fo F.length fc] 35) none
  have r1 : (w.alloc (.cells #[.pointer (some ⟨p.b, 0, none⟩), .pointer uo, .pointer (some ⟨p.c, 0, none⟩)] 27)).heap[w.heap.size]? = some (.cells [.pointer (some ⟨p.b, 0, none⟩), .pointer uo, .pointer (some ⟨p.c, 0, none⟩)].toArray 27 (0, 0)) := heap_alloc_new w _
  have hX : (w.alloc (.cells #[.pointer (some ⟨p.b, 0, none⟩), .pointer uo, .pointer (some ⟨p.c, 0, none⟩)] 27)).heap.size = w.heap.size + 1 := by simp
  have r2 : ((w.alloc (.cells #[.pointer (some ⟨p.b, 0, none⟩), .pointer uo, .pointer (some ⟨p.c, 0, none⟩)] 27)).alloc (.cells #[.int .i64 4, .int .i64 on, .int .i64 at_, .slice bo Bs.length bc, .bool raw, .slice fo F.length fc] 35)).heap[w.heap.size + 1]? = some (.cells (scells ⟨4, on, at_, Bs, raw, F⟩ bo bc fo fc).toArray 35 (0, 0)) := by rw [← hX]; exact heap_alloc_new _ _
  have r1' := (g2.block _ (row_lt r1) (by simp)).trans r1
  have s1 := h.dev.disk.disk.shape.s1
  have s0 := h.dev.disk.disk.shape.s0
  have G := hide (grown_trans g1 g2)
  have HL := hide hl
  have HA := hide (And.intro h (hs.grown G.out))
  have F0 : Hid (∀ i, p.all i → i < w.heap.size) := h.lt
  have hS0 : ∀ B1 B2, B1 = w.heap.size → B2 = w.heap.size + 1 → (((w.alloc (.cells #[.pointer (some ⟨p.b, 0, none⟩), .pointer uo, .pointer (some ⟨p.c, 0, none⟩)] 27)).alloc (.cells #[.int .i64 4, .int .i64 on, .int .i64 at_, .slice bo Bs.length bc, .bool raw, .slice fo F.length fc] 35)).cell? ⟨B1, 0, none⟩ = some (.pointer (some ⟨p.b, 0, none⟩)) ∧ ((w.alloc (.cells #[.pointer (some ⟨p.b, 0, none⟩), .pointer uo, .pointer (some ⟨p.c, 0, none⟩)] 27)).alloc (.cells #[.int .i64 4, .int .i64 on, .int .i64 at_, .slice bo Bs.length bc, .bool raw, .slice fo F.length fc] 35)).cell? ⟨B1, 1, none⟩ = some (.pointer uo) ∧ ((w.alloc (.cells #[.pointer (some ⟨p.b, 0, none⟩), .pointer uo, .pointer (some ⟨p.c, 0, none⟩)] 27)).alloc (.cells #[.int .i64 4, .int .i64 on, .int .i64 at_, .slice bo Bs.length bc, .bool raw, .slice fo F.length fc] 35)).cell? ⟨B1, 2, none⟩ = some (.pointer (some ⟨p.c, 0, none⟩)) ∧ ((w.alloc (.cells #[.pointer (some ⟨p.b, 0, none⟩), .pointer uo, .pointer (some ⟨p.c, 0, none⟩)] 27)).alloc (.cells #[.int .i64 4, .int .i64 on, .int .i64 at_, .slice bo Bs.length bc, .bool raw, .slice fo F.length fc] 35)).cell? ⟨B2, 0, none⟩ = some (.int .i64 4) ∧ ((w.alloc (.cells #[.pointer (some ⟨p.b, 0, none⟩), .pointer uo, .pointer (some ⟨p.c, 0, none⟩)] 27)).alloc (.cells #[.int .i64 4, .int .i64 on, .int .i64 at_, .slice bo Bs.length bc, .bool raw, .slice fo F.length fc] 35)).cell? ⟨B2, 1, none⟩ = some (.int .i64 on) ∧ ((w.alloc (.cells #[.pointer (some ⟨p.b, 0, none⟩), .pointer uo, .pointer (some ⟨p.c, 0, none⟩)] 27)).alloc (.cells #[.int .i64 4, .int .i64 on, .int .i64 at_, .slice bo Bs.length bc, .bool raw, .slice fo F.length fc] 35)).cell? ⟨B2, 2, none⟩ = some (.int .i64 at_) ∧ ((w.alloc (.cells #[.pointer (some ⟨p.b, 0, none⟩), .pointer uo, .pointer (some ⟨p.c, 0, none⟩)] 27)).alloc (.cells #[.int .i64 4, .int .i64 on, .int .i64 at_, .slice bo Bs.length bc, .bool raw, .slice fo F.length fc] 35)).cell? ⟨B2, 3, none⟩ = some (.slice bo Bs.length bc) ∧ ((w.alloc (.cells #[.pointer (some ⟨p.b, 0, none⟩), .pointer uo, .pointer (some ⟨p.c, 0, none⟩)] 27)).alloc (.cells #[.int .i64 4, .int .i64 on, .int .i64 at_, .slice bo Bs.length bc, .bool raw, .slice fo F.length fc] 35)).cell? ⟨B2, 4, none⟩ = some (.bool raw) ∧ ((w.alloc (.cells #[.pointer (some ⟨p.b, 0, none⟩), .pointer uo, .pointer (some ⟨p.c, 0, none⟩)] 27)).alloc (.cells #[.int .i64 4, .int .i64 on, .int .i64 at_, .slice bo Bs.length bc, .bool raw, .slice fo F.length fc] 35)).cell? ⟨B2, 5, none⟩ = some (.slice fo F.length fc)) := by
    rintro B1 B2 rfl rfl
    exact ⟨cell_row r1' 0, cell_row r1' 1, cell_row r1' 2, cell_row r2 0, cell_row r2 1, cell_row r2 2, cell_row r2 3, cell_row r2 4, cell_row r2 5⟩
  have hS1 := hS0 _ _ rfl rfl
  obtain ⟨y0, y1, y2, y3, y4, y5, y6, y7, y8⟩ := hS1
  clear hS0 h hl hs g1 g2 r1 r1' r2 hX
  go_enter Tryz.func9, Tryz.ntmps9
  go_wp2_with fail
  generalize (w.alloc (.cells #[.pointer (some ⟨p.b, 0, none⟩), .pointer uo, .pointer (some ⟨p.c, 0, none⟩)] 27)).alloc (.cells #[.int .i64 4, .int .i64 on, .int .i64 at_, .slice bo Bs.length bc, .bool raw, .slice fo F.length fc] 35) = wa at *
  obtain ⟨B1, hB1⟩ : ∃ B1, B1 = w.heap.size := ⟨_, rfl⟩
  obtain ⟨B2, hB2⟩ : ∃ B2, B2 = w.heap.size + 1 := ⟨_, rfl⟩
  have HB := hide (And.intro hB1 hB2)
  rw [← hB2] at y3 y4 y5 y6 y7 y8 ⊢
  rw [← hB1] at y0 y1 y2 ⊢
  clear hB1 hB2
  go_region_held3 (fun w' => w'.cell? ⟨B1, 0, none⟩ = some (.pointer (some ⟨p.b, 0, none⟩)) ∧ w'.cell? ⟨B1, 1, none⟩ = some (.pointer uo) ∧ w'.cell? ⟨B1, 2, none⟩ = some (.pointer (some ⟨p.c, 0, none⟩)) ∧ w'.cell? ⟨B2, 0, none⟩ = some (.int .i64 4) ∧ w'.cell? ⟨B2, 1, none⟩ = some (.int .i64 on) ∧ w'.cell? ⟨B2, 2, none⟩ = some (.int .i64 at_) ∧ w'.cell? ⟨B2, 3, none⟩ = some (.slice bo Bs.length bc) ∧ w'.cell? ⟨B2, 4, none⟩ = some (.bool raw) ∧ w'.cell? ⟨B2, 5, none⟩ = some (.slice fo F.length fc)) (first | exact ⟨y0, y1, y2, y3, y4, y5, y6, y7, y8⟩ | assumption | go_keep) (first
    | (go_at_call 29; refine (rdsize_any (HA.out.1.rd.then (grown_trans G.out (grown_drew _ _)))).mono ?_; rintro e w1 ⟨rfl, rfl⟩)
    | (go_at_call 28; refine (block_any ⟨4, on, at_, Bs, raw, F⟩ bo bc fo fc size s1 _ (HA.out.2.grown (grown_drew _ _))).mono ?_; rintro e w1 ⟨v, rfl, o2, g2⟩; have g2' := grown_trans (grown_drew wa none) g2; have hS2 : w1.cell? ⟨B1, 0, none⟩ = some (.pointer (some ⟨p.b, 0, none⟩)) ∧ w1.cell? ⟨B1, 1, none⟩ = some (.pointer uo) ∧ w1.cell? ⟨B1, 2, none⟩ = some (.pointer (some ⟨p.c, 0, none⟩)) ∧ w1.cell? ⟨B2, 0, none⟩ = some (.int .i64 4) ∧ w1.cell? ⟨B2, 1, none⟩ = some (.int .i64 on) ∧ w1.cell? ⟨B2, 2, none⟩ = some (.int .i64 at_) ∧ w1.cell? ⟨B2, 3, none⟩ = some (.slice bo Bs.length bc) ∧ w1.cell? ⟨B2, 4, none⟩ = some (.bool raw) ∧ w1.cell? ⟨B2, 5, none⟩ = some (.slice fo F.length fc) := ⟨g2'.cell y0 (by simp), g2'.cell y1 (by simp), g2'.cell y2 (by simp), g2'.cell y3 (by simp), g2'.cell y4 (by simp), g2'.cell y5 (by simp), g2'.cell y6 (by simp), g2'.cell y7 (by simp), g2'.cell y8 (by simp)⟩; obtain ⟨ba, bcap, rfl, q1, q2, q3, q4, q5, q6⟩ := own_at o2; have A1 := hide (And.intro (grown_trans G.out g2') (And.intro q4 (And.intro q5 (And.intro q6 G.out.size)))); clear o2 g2 g2' q1 q2 q3 q4 q5 q6))
  obtain ⟨z0, z1, z2, z3, z4, z5, z6, z7, z8⟩ := hS2
  clear y0 y1 y2 y3 y4 y5 y6 y7 y8
  have hbl := blkOf_le ⟨4, on, at_, Bs, raw, F⟩ size HA.out.2.bin.size s1
  have HX := hide (show (blkOf ⟨4, on, at_, Bs, raw, F⟩ size).length = (blkOf ⟨4, on, at_, Bs, raw, F⟩ size).length from rfl)
  obtain ⟨X, hX⟩ : ∃ X, X = blkOf ⟨4, on, at_, Bs, raw, F⟩ size := ⟨_, rfl⟩
  rw [← hX] at A1 hbl HX ⊢
  have HXE := hide hX
  clear hX
  have HW := hide ((PxW.refl HA.out.1).new A1.out.1)
  go_wp2_with fail
  go_region_held3 (fun w' => w'.cell? ⟨B1, 0, none⟩ = some (.pointer (some ⟨p.b, 0, none⟩)) ∧ w'.cell? ⟨B1, 1, none⟩ = some (.pointer uo) ∧ w'.cell? ⟨B1, 2, none⟩ = some (.pointer (some ⟨p.c, 0, none⟩)) ∧ w'.cell? ⟨B2, 0, none⟩ = some (.int .i64 4) ∧ w'.cell? ⟨B2, 1, none⟩ = some (.int .i64 on) ∧ w'.cell? ⟨B2, 2, none⟩ = some (.int .i64 at_) ∧ w'.cell? ⟨B2, 3, none⟩ = some (.slice bo Bs.length bc) ∧ w'.cell? ⟨B2, 4, none⟩ = some (.bool raw) ∧ w'.cell? ⟨B2, 5, none⟩ = some (.slice fo F.length fc)) (first | exact ⟨z0, z1, z2, z3, z4, z5, z6, z7, z8⟩ | assumption | go_keep) (first
    | (go_at_call 17; refine (arm_any (HW.out.z.dev.then (grown_drew _ _)).dev at_ HA.out.2.hi).mono ?_; rintro e w2 ⟨rfl, d2, g2⟩; have g2' := grown_then (grown_drew w1 (some p.b)) g2 (fun j e => Or.inr e); have m2 : DvM w1 w2 p.b p.k p.k p.W p.W := DvM.row g2'; have hS3 : w2.cell? ⟨B1, 0, none⟩ = some (.pointer (some ⟨p.b, 0, none⟩)) ∧ w2.cell? ⟨B1, 1, none⟩ = some (.pointer uo) ∧ w2.cell? ⟨B1, 2, none⟩ = some (.pointer (some ⟨p.c, 0, none⟩)) ∧ w2.cell? ⟨B2, 0, none⟩ = some (.int .i64 4) ∧ w2.cell? ⟨B2, 1, none⟩ = some (.int .i64 on) ∧ w2.cell? ⟨B2, 2, none⟩ = some (.int .i64 at_) ∧ w2.cell? ⟨B2, 3, none⟩ = some (.slice bo Bs.length bc) ∧ w2.cell? ⟨B2, 4, none⟩ = some (.bool raw) ∧ w2.cell? ⟨B2, 5, none⟩ = some (.slice fo F.length fc) := ⟨dcell F0.out m2 z0 (by have := HB.out; omega), dcell F0.out m2 z1 (by have := HB.out; omega), dcell F0.out m2 z2 (by have := HB.out; omega), dcell F0.out m2 z3 (by have := HB.out; omega), dcell F0.out m2 z4 (by have := HB.out; omega), dcell F0.out m2 z5 (by have := HB.out; omega), dcell F0.out m2 z6 (by have := HB.out; omega), dcell F0.out m2 z7 (by have := HB.out; omega), dcell F0.out m2 z8 (by have := HB.out; omega)⟩; have H2 := hide (HW.out.dev (HW.out.z.dev.dset g2' d2) m2); clear d2 g2 g2' m2)
    | (go_at_call 40; refine (rarm_any H2.out.z.rd.dev at_ HA.out.2.hi).mono ?_; rintro e w3 ⟨rfl, d3, g3⟩; obtain ⟨u0, u1, u2, u3, u4, u5, u6, u7, u8⟩ := hS3; have m3 : RM w2 w3 p.c p.q p.q := RM.row g3; have hS4 : w3.cell? ⟨B1, 0, none⟩ = some (.pointer (some ⟨p.b, 0, none⟩)) ∧ w3.cell? ⟨B1, 1, none⟩ = some (.pointer uo) ∧ w3.cell? ⟨B1, 2, none⟩ = some (.pointer (some ⟨p.c, 0, none⟩)) ∧ w3.cell? ⟨B2, 0, none⟩ = some (.int .i64 4) ∧ w3.cell? ⟨B2, 1, none⟩ = some (.int .i64 on) ∧ w3.cell? ⟨B2, 2, none⟩ = some (.int .i64 at_) ∧ w3.cell? ⟨B2, 3, none⟩ = some (.slice bo Bs.length bc) ∧ w3.cell? ⟨B2, 4, none⟩ = some (.bool raw) ∧ w3.cell? ⟨B2, 5, none⟩ = some (.slice fo F.length fc) := ⟨rcell F0.out m3 u0 (by have := HB.out; omega), rcell F0.out m3 u1 (by have := HB.out; omega), rcell F0.out m3 u2 (by have := HB.out; omega), rcell F0.out m3 u3 (by have := HB.out; omega), rcell F0.out m3 u4 (by have := HB.out; omega), rcell F0.out m3 u5 (by have := HB.out; omega), rcell F0.out m3 u6 (by have := HB.out; omega), rcell F0.out m3 u7 (by have := HB.out; omega), rcell F0.out m3 u8 (by have := HB.out; omega)⟩; have H3 := hide (H2.out.ref (H2.out.z.rd.rset g3 d3) m3); clear d3 g3 m3))
  go_wp2
  go_ret
  refine ⟨_, rfl, _, H3.out, ⟨Nat.le_succ _, Nat.le_succ _, ?_, ?_⟩, fun hsame => ⟨?_, same_arm hsame at_⟩⟩
  · show (p.s.armed at_).cnt ≤ _
    rw [armed_cnt]; omega
  · show (p.t.armed at_).cnt ≤ _
    rw [armed_cnt]; omega
  · show (p.s.upc == p.t.upc) = true
    rw [hsame.st]; simp
set_option maxRecDepth 20000 in
set_option maxHeartbeats 16000000 in
theorem step_read (h : PxAt w0 w n size p) (hl : PxLen p) (uo : Option Addr) (on at_ : Int) (Bs : List Nat) (raw : Bool) (F : List (Int × Int)) (bo : Option Addr) (bc : Nat) (fo : Option Addr) (fc : Nat) (hs : SIn w ⟨2, on, at_, Bs, raw, F⟩ bo bc fo fc) (hsame : PxSame n size p) :
    Calls Tryz.prog 9 #[.agg #[.pointer (some ⟨p.b, 0, none⟩), .pointer uo, .pointer (some ⟨p.c, 0, none⟩)], .agg #[.int .i64 2, .int .i64 on, .int .i64 at_, .slice bo Bs.length bc, .bool raw, .slice fo F.length fc]] w fun e w' => Stepped w0 w w' n size p e := by
  have g1 := World.grownBy_alloc w (.cells #[.pointer (some ⟨p.b, 0, none⟩), .pointer uo, .pointer (some ⟨p.c, 0, none⟩)] 27) none
  have g2 := World.grownBy_alloc (w.alloc (.cells #[.pointer (some ⟨p.b, 0, none⟩), .pointer uo, .pointer (some ⟨p.c, 0, none⟩)] 27)) (.cells #[.int .i64 2, .int .i64 on, .int .i64 at_, .slice bo Bs.length bc, .bool raw, .slice fo F.length fc] 35) none
  have r1 : (w.alloc (.cells #[.pointer (some ⟨p.b, 0, none⟩), .pointer uo, .pointer (some ⟨p.c, 0, none⟩)] 27)).heap[w.heap.size]? = some (.cells [.pointer (some ⟨p.b, 0, none⟩), .pointer uo, .pointer (some ⟨p.c, 0, none⟩)].toArray 27 (0, 0)) := heap_alloc_new w _
  have hX : (w.alloc (.cells #[.pointer (some ⟨p.b, 0, none⟩), .pointer uo, .pointer (some ⟨p.c, 0, none⟩)] 27)).heap.size = w.heap.size + 1 := by simp
  have r2 : ((w.alloc (.cells #[.pointer (some ⟨p.b, 0, none⟩), .pointer uo, .pointer (some ⟨p.c, 0, none⟩)] 27)).alloc (.cells #[.int .i64 2, .int .i64 on, .int .i64 at_, .slice bo Bs.length bc, .bool raw, .slice fo F.length fc] 35)).heap[w.heap.size + 1]? = some (.cells (scells ⟨2, on, at_, Bs, raw, F⟩ bo bc fo fc).toArray 35 (0, 0)) := by rw [← hX]; exact heap_alloc_new _ _
  have r1' := (g2.block _ (row_lt r1) (by simp)).trans r1
  have s1 := h.dev.disk.disk.shape.s1
  have s0 := h.dev.disk.disk.shape.s0
  have G := hide (grown_trans g1 g2)
  have HL := hide hl
  have HS := hide hsame
  have HA := hide (And.intro h (hs.grown G.out))
  have F0 : Hid (∀ i, p.all i → i < w.heap.size) := h.lt
  have hS0 : ∀ B1 B2, B1 = w.heap.size → B2 = w.heap.size + 1 → (((w.alloc (.cells #[.pointer (some ⟨p.b, 0, none⟩), .pointer uo, .pointer (some ⟨p.c, 0, none⟩)] 27)).alloc (.cells #[.int .i64 2, .int .i64 on, .int .i64 at_, .slice bo Bs.length bc, .bool raw, .slice fo F.length fc] 35)).cell? ⟨B1, 0, none⟩ = some (.pointer (some ⟨p.b, 0, none⟩)) ∧ ((w.alloc (.cells #[.pointer (some ⟨p.b, 0, none⟩), .pointer uo, .pointer (some ⟨p.c, 0, none⟩)] 27)).alloc (.cells #[.int .i64 2, .int .i64 on, .int .i64 at_, .slice bo Bs.length bc, .bool raw, .slice fo F.length fc] 35)).cell? ⟨B1, 1, none⟩ = some (.pointer uo) ∧ ((w.alloc (.cells #[.pointer (some ⟨p.b, 0, none⟩), .pointer uo, .pointer (some ⟨p.c, 0, none⟩)] 27)).alloc (.cells #[.int .i64 2, .int .i64 on, .int .i64 at_, .slice bo Bs.length bc, .bool raw, .slice fo F.length fc] 35)).cell? ⟨B1, 2, none⟩ = some (.pointer (some ⟨p.c, 0, none⟩)) ∧ ((w.alloc (.cells #[.pointer (some ⟨p.b, 0, none⟩), .pointer uo, .pointer (some ⟨p.c, 0, none⟩)] 27)).alloc (.cells #[.int .i64 2, .int .i64 on, .int .i64 at_, .slice bo Bs.length bc, .bool raw, .slice fo F.length fc] 35)).cell? ⟨B2, 0, none⟩ = some (.int .i64 2) ∧ ((w.alloc (.cells #[.pointer (some ⟨p.b, 0, none⟩), .pointer uo, .pointer (some ⟨p.c, 0, none⟩)] 27)).alloc (.cells #[.int .i64 2, .int .i64 on, .int .i64 at_, .slice bo Bs.length bc, .bool raw, .slice fo F.length fc] 35)).cell? ⟨B2, 1, none⟩ = some (.int .i64 on) ∧ ((w.alloc (.cells #[.pointer (some ⟨p.b, 0, none⟩), .pointer uo, .pointer (some ⟨p.c, 0, none⟩)] 27)).alloc (.cells #[.int .i64 2, .int .i64 on, .int .i64 at_, .slice bo Bs.length bc, .bool raw, .slice fo F.length fc] 35)).cell? ⟨B2, 2, none⟩ = some (.int .i64 at_) ∧ ((w.alloc (.cells #[.pointer (some ⟨p.b, 0, none⟩), .pointer uo, .pointer (some ⟨p.c, 0, none⟩)] 27)).alloc (.cells #[.int .i64 2, .int .i64 on, .int .i64 at_, .slice bo Bs.length bc, .bool raw, .slice fo F.length fc] 35)).cell? ⟨B2, 3, none⟩ = some (.slice bo Bs.length bc) ∧ ((w.alloc (.cells #[.pointer (some ⟨p.b, 0, none⟩), .pointer uo, .pointer (some ⟨p.c, 0, none⟩)] 27)).alloc (.cells #[.int .i64 2, .int .i64 on, .int .i64 at_, .slice bo Bs.length bc, .bool raw, .slice fo F.length fc] 35)).cell? ⟨B2, 4, none⟩ = some (.bool raw) ∧ ((w.alloc (.cells #[.pointer (some ⟨p.b, 0, none⟩), .pointer uo, .pointer (some ⟨p.c, 0, none⟩)] 27)).alloc (.cells #[.int .i64 2, .int .i64 on, .int .i64 at_, .slice bo Bs.length bc, .bool raw, .slice fo F.length fc] 35)).cell? ⟨B2, 5, none⟩ = some (.slice fo F.length fc)) := by
    rintro B1 B2 rfl rfl
    exact ⟨cell_row r1' 0, cell_row r1' 1, cell_row r1' 2, cell_row r2 0, cell_row r2 1, cell_row r2 2, cell_row r2 3, cell_row r2 4, cell_row r2 5⟩
  have hS1 := hS0 _ _ rfl rfl
  obtain ⟨y0, y1, y2, y3, y4, y5, y6, y7, y8⟩ := hS1
  clear hS0 h hl hs hsame g1 g2 r1 r1' r2 hX
  go_enter Tryz.func9, Tryz.ntmps9
  go_wp2_with fail
  generalize (w.alloc (.cells #[.pointer (some ⟨p.b, 0, none⟩), .pointer uo, .pointer (some ⟨p.c, 0, none⟩)] 27)).alloc (.cells #[.int .i64 2, .int .i64 on, .int .i64 at_, .slice bo Bs.length bc, .bool raw, .slice fo F.length fc] 35) = wa at *
  obtain ⟨B1, hB1⟩ : ∃ B1, B1 = w.heap.size := ⟨_, rfl⟩
  obtain ⟨B2, hB2⟩ : ∃ B2, B2 = w.heap.size + 1 := ⟨_, rfl⟩
  have HB := hide (And.intro hB1 hB2)
  rw [← hB2] at y3 y4 y5 y6 y7 y8 ⊢
  rw [← hB1] at y0 y1 y2 ⊢
  clear hB1 hB2
  go_region_held3 (fun w' => w'.cell? ⟨B1, 0, none⟩ = some (.pointer (some ⟨p.b, 0, none⟩)) ∧ w'.cell? ⟨B1, 1, none⟩ = some (.pointer uo) ∧ w'.cell? ⟨B1, 2, none⟩ = some (.pointer (some ⟨p.c, 0, none⟩)) ∧ w'.cell? ⟨B2, 0, none⟩ = some (.int .i64 2) ∧ w'.cell? ⟨B2, 1, none⟩ = some (.int .i64 on) ∧ w'.cell? ⟨B2, 2, none⟩ = some (.int .i64 at_) ∧ w'.cell? ⟨B2, 3, none⟩ = some (.slice bo Bs.length bc) ∧ w'.cell? ⟨B2, 4, none⟩ = some (.bool raw) ∧ w'.cell? ⟨B2, 5, none⟩ = some (.slice fo F.length fc)) (first | exact ⟨y0, y1, y2, y3, y4, y5, y6, y7, y8⟩ | assumption | go_keep) (first
    | (go_at_call 29; refine (rdsize_any (HA.out.1.rd.then (grown_trans G.out (grown_drew _ _)))).mono ?_; rintro e w1 ⟨rfl, rfl⟩)
    | (go_at_call 28; refine (block_any ⟨2, on, at_, Bs, raw, F⟩ bo bc fo fc size s1 _ (HA.out.2.grown (grown_drew _ _))).mono ?_; rintro e w1 ⟨v, rfl, o2, g2⟩; have g2' := grown_trans (grown_drew wa none) g2; have hS2 : w1.cell? ⟨B1, 0, none⟩ = some (.pointer (some ⟨p.b, 0, none⟩)) ∧ w1.cell? ⟨B1, 1, none⟩ = some (.pointer uo) ∧ w1.cell? ⟨B1, 2, none⟩ = some (.pointer (some ⟨p.c, 0, none⟩)) ∧ w1.cell? ⟨B2, 0, none⟩ = some (.int .i64 2) ∧ w1.cell? ⟨B2, 1, none⟩ = some (.int .i64 on) ∧ w1.cell? ⟨B2, 2, none⟩ = some (.int .i64 at_) ∧ w1.cell? ⟨B2, 3, none⟩ = some (.slice bo Bs.length bc) ∧ w1.cell? ⟨B2, 4, none⟩ = some (.bool raw) ∧ w1.cell? ⟨B2, 5, none⟩ = some (.slice fo F.length fc) := ⟨g2'.cell y0 (by simp), g2'.cell y1 (by simp), g2'.cell y2 (by simp), g2'.cell y3 (by simp), g2'.cell y4 (by simp), g2'.cell y5 (by simp), g2'.cell y6 (by simp), g2'.cell y7 (by simp), g2'.cell y8 (by simp)⟩; obtain ⟨ba, bcap, rfl, q1, q2, q3, q4, q5, q6⟩ := own_at o2; have A1 := hide (And.intro (grown_trans G.out g2') (And.intro q4 (And.intro q5 (And.intro q6 G.out.size)))); clear o2 g2 g2' q1 q2 q3 q4 q5 q6))
  obtain ⟨z0, z1, z2, z3, z4, z5, z6, z7, z8⟩ := hS2
  clear y0 y1 y2 y3 y4 y5 y6 y7 y8
  have hbl := blkOf_le ⟨2, on, at_, Bs, raw, F⟩ size HA.out.2.bin.size s1
  have HX := hide (show (blkOf ⟨2, on, at_, Bs, raw, F⟩ size).length = (blkOf ⟨2, on, at_, Bs, raw, F⟩ size).length from rfl)
  obtain ⟨X, hX⟩ : ∃ X, X = blkOf ⟨2, on, at_, Bs, raw, F⟩ size := ⟨_, rfl⟩
  rw [← hX] at A1 hbl HX ⊢
  have HXE := hide hX
  clear hX
  have HW := hide ((PxW.refl HA.out.1).new A1.out.1)
  go_wp2_with fail
  refine (dread_any HW.out.z.dev (by have := HL.out.s; omega) at_).mono ?_
  rintro e w2 ⟨v, rfl, v2, d2, m2⟩
  have y2 := dcell F0.out m2 z2 (by have := HB.out; omega)
  have y5 := dcell F0.out m2 z5 (by have := HB.out; omega)
  have H2 := hide (HW.out.dev d2 m2)
  have hz2 : Hid (w1.heap.size ≤ w2.heap.size) := m2.kept.size
  obtain ⟨va, vl, vc, hvf⟩ := gives_form v2
  subst hvf
  have V2 := hide v2
  clear d2 m2 v2 z0 z1 z2 z3 z4 z5 z6 z7 z8

  go_wp2_with fail
  refine (rdread_any H2.out.z.rd (by have := HL.out.v; show p.q.V.length ≤ _; omega) (by have := HL.out.t; show p.t.cnt < _; omega) at_).mono ?_
  rintro e w3 ⟨u, rfl, v3, d3, m3⟩
  have H3 := hide (H2.out.ref d3 m3)
  have V3 := hide (gives_keep V2.out m3.kept (fun i hi e => by
    have : p.all i := by
      rcases e with e | e
      · exact .inr (.inl e)
      · exact .inr (.inr (.inr e))
    have := F0.out i this; have := A1.out.1.size; omega))
  have hz3 : Hid (w2.heap.size ≤ w3.heap.size) := m3.kept.size
  have ev : (if p.t.goes = true then rrbytes n (rst p.q) at_ else []) = (if p.s.goes = true then rbytes n size p.D p.W at_ else []) := by rw [HS.out.st, rbytes_same HS.out]
  have v3 : RGives w3 size u (if p.t.goes = true then rrbytes n (rst p.q) at_ else []) := v3
  rw [ev] at v3
  obtain ⟨ua, ul, uc, huf⟩ := rgives_form v3
  subst huf
  have U3 := hide v3
  clear d3 m3 v3 ev y2 y5
  rw [← HS.out.st]
  generalize p.s.code (rcode n at_) = cc at *
  go_wp2_with fail
  refine (gives_rsame (by omega) s1 V3.out U3.out).mono ?_
  rintro e w4 ⟨rfl, qq, rfl⟩
  have g4 := grown_drewN w3 qq none
  have H4 := hide (H3.out.new g4)
  have V4 := hide (gives_keep V3.out (Kept.new g4 (fun _ => False)) (fun _ _ e => e))
  have hz4 : Hid (w3.heap.size ≤ (w3.drewN qq).heap.size) := g4.size
  clear g4
  generalize w3.drewN qq = w4 at *
  go_wp2_with fail
  refine (gives_apart s1 V4.out (by have := hz2.out; have := hz3.out; have := hz4.out; omega)).mono ?_
  rintro e w5 ⟨rfl, k5⟩
  have H5 := hide (H4.out.later k5 (fun i hi => ⟨by have := A1.out.1.size; omega, fun e => by
    have : p.all i := e
    have := F0.out i this; have := A1.out.1.size; omega⟩))
  clear k5
  go_wp2
  go_ret
  exact ⟨_, rfl, _, H5.out, ⟨Nat.le_succ _, Nat.le_succ _, p.s.next_cnt, p.t.next_cnt⟩, fun hsame => ⟨rfl, same_next hsame⟩⟩
end
end Go.Proofs.YtaopcidkgcekdaaGreat
