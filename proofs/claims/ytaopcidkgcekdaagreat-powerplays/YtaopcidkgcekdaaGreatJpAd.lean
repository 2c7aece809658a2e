/- Texts joined: StU. -/
import Derived.Test.YtaopcidkgcekdaaGreatJsAv
/- A step on the disks under a device and the document's. -/
namespace Go.Proofs.YtaopcidkgcekdaaGreat
open Go.RowKit Ap
attribute [local go_sem ↓] Go.wp_at_zero Go.wp_at_succ

section
variable {w0 w : World} {n size : Nat} {p : Px}
theorem same_under {k' : Dk} {W' : List Wt} {q' : Rk} {a : Int} {xs : List Nat} (h : PxSame n size p) (e1 : abs W' = wabs n size a xs (abs p.W)) (e2 : q'.S = p.q.S) (e3 : absV q'.V = wabs n size a xs (absV p.q.V)) : PxSame n size ⟨p.b, p.s, k', p.D, W', p.c, p.t, q'⟩ := by
  refine ⟨h.st, ?_, ?_⟩
  · show secs n size p.D = (rst q').1
    rw [rst, e2]; exact h.rows
  · show abs W' = (rst q').2
    rw [rst, e3, e1, h.waits]; rfl
theorem same_flush {k' : Dk} {D' : List Nat} {q' : Rk} (h : PxSame n size p) (hd : DiskAt w p.k n size p.D p.W) (e1 : D' = stl size (fun _ => size) p.D p.W p.W.length) (e2 : q'.V = []) (e3 : q'.S.map Bx.xs = stlR (fun _ => size) (absV p.q.V) (p.q.S.map Bx.xs) p.q.V.length) : PxSame n size ⟨p.b, p.s, k', D', [], p.c, p.t, q'⟩ := by
  refine ⟨h.st, ?_, ?_⟩
  · show secs n size D' = (rst q').1
    have e4 : (rst q').1 = q'.S.map Bx.xs := rfl
    have hw : abs p.W = absV p.q.V := h.waits
    have hr : secs n size p.D = p.q.S.map Bx.xs := h.rows
    rw [e4, e3, e1, secs_stl hd.len hd.fitsW, hw, hr, h.len]
  · show abs [] = (rst q').2
    rw [rst, e2]; rfl
theorem rcell_c {w1 w2 : World} {k' : Dk} {W' : List Wt} {v : Value} (hA : PxAt w0 w n size p) (m : DvM w1 w2 p.b p.k k' p.W W') (hc : w1.cell? ⟨p.c, 0, none⟩ = some v) : w2.cell? ⟨p.c, 0, none⟩ = some v := cell_kept m.kept hc (by
  rintro (e | e)
  · exact hA.cf (.inl e)
  · have e : p.c = p.b := e
    exact hA.bc e.symm)
theorem rcell_q {w1 w2 : World} {v : Value} (hA : PxAt w0 w n size p) (hk : Kept w1 w2 (rfoot p.q)) (hc : w1.cell? ⟨p.c, 0, none⟩ = some v) : w2.cell? ⟨p.c, 0, none⟩ = some v := cell_kept hk hc hA.rd.off
set_option maxRecDepth 20000 in
set_option maxHeartbeats 16000000 in
theorem step_under (h : PxAt w0 w n size p) (hl : PxLen p) (on at_ : Int) (Bs : List Nat) (raw : Bool) (F : List (Int × Int)) (bo : Option Addr) (bc : Nat) (fo : Option Addr) (fc : Nat) (hs : SIn w ⟨7, on, at_, Bs, raw, F⟩ bo bc fo fc) :
    Calls Tryz.prog 9 #[.agg #[.pointer (some ⟨p.b, 0, none⟩), .pointer (some ⟨p.k.d, 0, none⟩), .pointer (some ⟨p.c, 0, none⟩)], .agg #[.int .i64 7, .int .i64 on, .int .i64 at_, .slice bo Bs.length bc, .bool raw, .slice fo F.length fc]] w fun e w' => Stepped w0 w w' n size p e := by
  have g1 := World.grownBy_alloc w (.cells #[.pointer (some ⟨p.b, 0, none⟩), .pointer (some ⟨p.k.d, 0, none⟩), .pointer (some ⟨p.c, 0, none⟩)] 27) none
  have g2 := World.grownBy_alloc (w.alloc (.cells #[.pointer (some ⟨p.b, 0, none⟩), .pointer (some ⟨p.k.d, 0, none⟩), .pointer (some ⟨p.c, 0, none⟩)] 27)) (.cells #[.int .i64 7, .int .i64 on, .int .i64 at_, .slice bo Bs.length bc, .bool raw, .slice fo F.length fc] 35) none
  have r1 : (w.alloc (.cells #[.pointer (some ⟨p.b, 0, none⟩), .pointer (some ⟨p.k.d, 0, none⟩), .pointer (some ⟨p.c, 0, none⟩)] 27)).heap[w.heap.size]? = some (.cells [.pointer (some ⟨p.b, 0, none⟩), .pointer (some ⟨p.k.d, 0, none⟩), .pointer (some ⟨p.c, 0, none⟩)].toArray 27 (0, 0)) := heap_alloc_new w _
  have hX : (w.alloc (.cells #[.pointer (some ⟨p.b, 0, none⟩), .pointer (some ⟨p.k.d, 0, none⟩), .pointer (some ⟨p.c, 0, none⟩)] 27)).heap.size = w.heap.size + 1 := by simp
  have r2 : ((w.alloc (.cells #[.pointer (some ⟨p.b, 0, none⟩), .pointer (some ⟨p.k.d, 0, none⟩), .pointer (some ⟨p.c, 0, none⟩)] 27)).alloc (.cells #[.int .i64 7, .int .i64 on, .int .i64 at_, .slice bo Bs.length bc, .bool raw, .slice fo F.length fc] 35)).heap[w.heap.size + 1]? = some (.cells (scells ⟨7, on, at_, Bs, raw, F⟩ bo bc fo fc).toArray 35 (0, 0)) := by rw [← hX]; exact heap_alloc_new _ _
  have r1' := (g2.block _ (row_lt r1) (by simp)).trans r1
  have s1 := h.dev.disk.disk.shape.s1
  have s0 := h.dev.disk.disk.shape.s0
  have G := hide (grown_trans g1 g2)
  have HL := hide hl
  have HA := hide (And.intro h (hs.grown G.out))
  have F0 : Hid (∀ i, p.all i → i < w.heap.size) := h.lt
  have hS0 : ∀ B1 B2, B1 = w.heap.size → B2 = w.heap.size + 1 → (((w.alloc (.cells #[.pointer (some ⟨p.b, 0, none⟩), .pointer (some ⟨p.k.d, 0, none⟩), .pointer (some ⟨p.c, 0, none⟩)] 27)).alloc (.cells #[.int .i64 7, .int .i64 on, .int .i64 at_, .slice bo Bs.length bc, .bool raw, .slice fo F.length fc] 35)).cell? ⟨B1, 0, none⟩ = some (.pointer (some ⟨p.b, 0, none⟩)) ∧ ((w.alloc (.cells #[.pointer (some ⟨p.b, 0, none⟩), .pointer (some ⟨p.k.d, 0, none⟩), .pointer (some ⟨p.c, 0, none⟩)] 27)).alloc (.cells #[.int .i64 7, .int .i64 on, .int .i64 at_, .slice bo Bs.length bc, .bool raw, .slice fo F.length fc] 35)).cell? ⟨B1, 1, none⟩ = some (.pointer (some ⟨p.k.d, 0, none⟩)) ∧ ((w.alloc (.cells #[.pointer (some ⟨p.b, 0, none⟩), .pointer (some ⟨p.k.d, 0, none⟩), .pointer (some ⟨p.c, 0, none⟩)] 27)).alloc (.cells #[.int .i64 7, .int .i64 on, .int .i64 at_, .slice bo Bs.length bc, .bool raw, .slice fo F.length fc] 35)).cell? ⟨B1, 2, none⟩ = some (.pointer (some ⟨p.c, 0, none⟩)) ∧ ((w.alloc (.cells #[.pointer (some ⟨p.b, 0, none⟩), .pointer (some ⟨p.k.d, 0, none⟩), .pointer (some ⟨p.c, 0, none⟩)] 27)).alloc (.cells #[.int .i64 7, .int .i64 on, .int .i64 at_, .slice bo Bs.length bc, .bool raw, .slice fo F.length fc] 35)).cell? ⟨B2, 0, none⟩ = some (.int .i64 7) ∧ ((w.alloc (.cells #[.pointer (some ⟨p.b, 0, none⟩), .pointer (some ⟨p.k.d, 0, none⟩), .pointer (some ⟨p.c, 0, none⟩)] 27)).alloc (.cells #[.int .i64 7, .int .i64 on, .int .i64 at_, .slice bo Bs.length bc, .bool raw, .slice fo F.length fc] 35)).cell? ⟨B2, 1, none⟩ = some (.int .i64 on) ∧ ((w.alloc (.cells #[.pointer (some ⟨p.b, 0, none⟩), .pointer (some ⟨p.k.d, 0, none⟩), .pointer (some ⟨p.c, 0, none⟩)] 27)).alloc (.cells #[.int .i64 7, .int .i64 on, .int .i64 at_, .slice bo Bs.length bc, .bool raw, .slice fo F.length fc] 35)).cell? ⟨B2, 2, none⟩ = some (.int .i64 at_) ∧ ((w.alloc (.cells #[.pointer (some ⟨p.b, 0, none⟩), .pointer (some ⟨p.k.d, 0, none⟩), .pointer (some ⟨p.c, 0, none⟩)] 27)).alloc (.cells #[.int .i64 7, .int .i64 on, .int .i64 at_, .slice bo Bs.length bc, .bool raw, .slice fo F.length fc] 35)).cell? ⟨B2, 3, none⟩ = some (.slice bo Bs.length bc) ∧ ((w.alloc (.cells #[.pointer (some ⟨p.b, 0, none⟩), .pointer (some ⟨p.k.d, 0, none⟩), .pointer (some ⟨p.c, 0, none⟩)] 27)).alloc (.cells #[.int .i64 7, .int .i64 on, .int .i64 at_, .slice bo Bs.length bc, .bool raw, .slice fo F.length fc] 35)).cell? ⟨B2, 4, none⟩ = some (.bool raw) ∧ ((w.alloc (.cells #[.pointer (some ⟨p.b, 0, none⟩), .pointer (some ⟨p.k.d, 0, none⟩), .pointer (some ⟨p.c, 0, none⟩)] 27)).alloc (.cells #[.int .i64 7, .int .i64 on, .int .i64 at_, .slice bo Bs.length bc, .bool raw, .slice fo F.length fc] 35)).cell? ⟨B2, 5, none⟩ = some (.slice fo F.length fc)) := by
    rintro B1 B2 rfl rfl
    exact ⟨cell_row r1' 0, cell_row r1' 1, cell_row r1' 2, cell_row r2 0, cell_row r2 1, cell_row r2 2, cell_row r2 3, cell_row r2 4, cell_row r2 5⟩
  have hS1 := hS0 _ _ rfl rfl
  obtain ⟨y0, y1, y2, y3, y4, y5, y6, y7, y8⟩ := hS1
  clear hS0 h hl hs g1 g2 r1 r1' r2 hX
  go_enter Tryz.func9, Tryz.ntmps9
  go_wp2_with fail
  generalize (w.alloc (.cells #[.pointer (some ⟨p.b, 0, none⟩), .pointer (some ⟨p.k.d, 0, none⟩), .pointer (some ⟨p.c, 0, none⟩)] 27)).alloc (.cells #[.int .i64 7, .int .i64 on, .int .i64 at_, .slice bo Bs.length bc, .bool raw, .slice fo F.length fc] 35) = wa at *
  obtain ⟨B1, hB1⟩ : ∃ B1, B1 = w.heap.size := ⟨_, rfl⟩
  obtain ⟨B2, hB2⟩ : ∃ B2, B2 = w.heap.size + 1 := ⟨_, rfl⟩
  have HB := hide (And.intro hB1 hB2)
  rw [← hB2] at y3 y4 y5 y6 y7 y8 ⊢
  rw [← hB1] at y0 y1 y2 ⊢
  clear hB1 hB2
  go_region_held3 (fun w' => w'.cell? ⟨B1, 0, none⟩ = some (.pointer (some ⟨p.b, 0, none⟩)) ∧ w'.cell? ⟨B1, 1, none⟩ = some (.pointer (some ⟨p.k.d, 0, none⟩)) ∧ w'.cell? ⟨B1, 2, none⟩ = some (.pointer (some ⟨p.c, 0, none⟩)) ∧ w'.cell? ⟨B2, 0, none⟩ = some (.int .i64 7) ∧ w'.cell? ⟨B2, 1, none⟩ = some (.int .i64 on) ∧ w'.cell? ⟨B2, 2, none⟩ = some (.int .i64 at_) ∧ w'.cell? ⟨B2, 3, none⟩ = some (.slice bo Bs.length bc) ∧ w'.cell? ⟨B2, 4, none⟩ = some (.bool raw) ∧ w'.cell? ⟨B2, 5, none⟩ = some (.slice fo F.length fc)) (first | exact ⟨y0, y1, y2, y3, y4, y5, y6, y7, y8⟩ | assumption | go_keep) (first
    | (go_at_call 29; refine (rdsize_any (HA.out.1.rd.then (grown_trans G.out (grown_drew _ _)))).mono ?_; rintro e w1 ⟨rfl, rfl⟩)
    | (go_at_call 28; refine (block_any ⟨7, on, at_, Bs, raw, F⟩ bo bc fo fc size s1 _ (HA.out.2.grown (grown_drew _ _))).mono ?_; rintro e w1 ⟨v, rfl, o2, g2⟩; have g2' := grown_trans (grown_drew wa none) g2; have hS2 : w1.cell? ⟨B1, 0, none⟩ = some (.pointer (some ⟨p.b, 0, none⟩)) ∧ w1.cell? ⟨B1, 1, none⟩ = some (.pointer (some ⟨p.k.d, 0, none⟩)) ∧ w1.cell? ⟨B1, 2, none⟩ = some (.pointer (some ⟨p.c, 0, none⟩)) ∧ w1.cell? ⟨B2, 0, none⟩ = some (.int .i64 7) ∧ w1.cell? ⟨B2, 1, none⟩ = some (.int .i64 on) ∧ w1.cell? ⟨B2, 2, none⟩ = some (.int .i64 at_) ∧ w1.cell? ⟨B2, 3, none⟩ = some (.slice bo Bs.length bc) ∧ w1.cell? ⟨B2, 4, none⟩ = some (.bool raw) ∧ w1.cell? ⟨B2, 5, none⟩ = some (.slice fo F.length fc) := ⟨g2'.cell y0 (by simp), g2'.cell y1 (by simp), g2'.cell y2 (by simp), g2'.cell y3 (by simp), g2'.cell y4 (by simp), g2'.cell y5 (by simp), g2'.cell y6 (by simp), g2'.cell y7 (by simp), g2'.cell y8 (by simp)⟩; obtain ⟨ba, bcap, rfl, q1, q2, q3, q4, q5, q6⟩ := own_at o2; have A1 := hide (And.intro (grown_trans G.out g2') (And.intro q4 (And.intro q5 (And.intro q6 G.out.size)))); clear o2 g2 g2' q1 q2 q3 q4 q5 q6))
  obtain ⟨z0, z1, z2, z3, z4, z5, z6, z7, z8⟩ := hS2
  clear y0 y1 y2 y3 y4 y5 y6 y7 y8
  have hbl := blkOf_le ⟨7, on, at_, Bs, raw, F⟩ size HA.out.2.bin.size s1
  have HX := hide (show (blkOf ⟨7, on, at_, Bs, raw, F⟩ size).length = (blkOf ⟨7, on, at_, Bs, raw, F⟩ size).length from rfl)
  obtain ⟨X, hX⟩ : ∃ X, X = blkOf ⟨7, on, at_, Bs, raw, F⟩ size := ⟨_, rfl⟩
  rw [← hX] at A1 hbl HX ⊢
  have HXE := hide hX
  clear hX
  have HW := hide ((PxW.refl HA.out.1).new A1.out.1)
  have zc : w1.cell? ⟨p.c, 0, none⟩ = some (.pointer (some ⟨p.q.r, 0, none⟩)) := HW.out.z.rd.dev.c0
  go_wp2_with fail
  go_region_held3 (fun w' => w'.cell? ⟨B1, 0, none⟩ = some (.pointer (some ⟨p.b, 0, none⟩)) ∧ w'.cell? ⟨B1, 1, none⟩ = some (.pointer (some ⟨p.k.d, 0, none⟩)) ∧ w'.cell? ⟨B1, 2, none⟩ = some (.pointer (some ⟨p.c, 0, none⟩)) ∧ w'.cell? ⟨B2, 0, none⟩ = some (.int .i64 7) ∧ w'.cell? ⟨B2, 1, none⟩ = some (.int .i64 on) ∧ w'.cell? ⟨B2, 2, none⟩ = some (.int .i64 at_) ∧ w'.cell? ⟨B2, 3, none⟩ = some (.slice bo Bs.length bc) ∧ w'.cell? ⟨B2, 4, none⟩ = some (.bool raw) ∧ w'.cell? ⟨B2, 5, none⟩ = some (.slice fo F.length fc) ∧ w'.cell? ⟨p.c, 0, none⟩ = some (.pointer (some ⟨p.q.r, 0, none⟩))) (first | exact ⟨z0, z1, z2, z3, z4, z5, z6, z7, z8, zc⟩ | assumption | go_keep) (first
    | (go_at_call 46; refine (copyBytes_any ba X.length bcap X _ rfl (A1.out.2.1.grown (grown_drew _ _)) A1.out.2.2.1 (by omega)).mono ?_; rintro e w2 ⟨v, rfl, o2, g2⟩; have g2' := grown_trans (grown_drew w1 none) g2; have hS3 : w2.cell? ⟨B1, 0, none⟩ = some (.pointer (some ⟨p.b, 0, none⟩)) ∧ w2.cell? ⟨B1, 1, none⟩ = some (.pointer (some ⟨p.k.d, 0, none⟩)) ∧ w2.cell? ⟨B1, 2, none⟩ = some (.pointer (some ⟨p.c, 0, none⟩)) ∧ w2.cell? ⟨B2, 0, none⟩ = some (.int .i64 7) ∧ w2.cell? ⟨B2, 1, none⟩ = some (.int .i64 on) ∧ w2.cell? ⟨B2, 2, none⟩ = some (.int .i64 at_) ∧ w2.cell? ⟨B2, 3, none⟩ = some (.slice bo Bs.length bc) ∧ w2.cell? ⟨B2, 4, none⟩ = some (.bool raw) ∧ w2.cell? ⟨B2, 5, none⟩ = some (.slice fo F.length fc) ∧ w2.cell? ⟨p.c, 0, none⟩ = some (.pointer (some ⟨p.q.r, 0, none⟩)) := ⟨g2'.cell z0 (by simp), g2'.cell z1 (by simp), g2'.cell z2 (by simp), g2'.cell z3 (by simp), g2'.cell z4 (by simp), g2'.cell z5 (by simp), g2'.cell z6 (by simp), g2'.cell z7 (by simp), g2'.cell z8 (by simp), g2'.cell zc (by simp)⟩; obtain ⟨va, vcap, rfl, q1, q2, q3, q4, q5, q6⟩ := own_at o2; have A2 := hide (And.intro g2' q4); have H2 := hide (HW.out.new g2'); clear o2 g2 g2' q1 q2 q3 q4 q5 q6)
    | (go_at_call 45; refine (wr_disk rfl H2.out.z.dev.disk (by have := HL.out.w; omega) at_ va X.length vcap X A2.out.2 rfl).mono ?_; rintro e w3 ⟨k3, W3, rfl, d3, m3, a3, l3⟩; have m3' : DvM w2 w3 p.b p.k k3 p.W W3 := Moved.dev m3; obtain ⟨u0, u1, u2, u3, u4, u5, u6, u7, u8, uc⟩ := hS3; have hS4 : w3.cell? ⟨B1, 0, none⟩ = some (.pointer (some ⟨p.b, 0, none⟩)) ∧ w3.cell? ⟨B1, 1, none⟩ = some (.pointer (some ⟨p.k.d, 0, none⟩)) ∧ w3.cell? ⟨B1, 2, none⟩ = some (.pointer (some ⟨p.c, 0, none⟩)) ∧ w3.cell? ⟨B2, 0, none⟩ = some (.int .i64 7) ∧ w3.cell? ⟨B2, 1, none⟩ = some (.int .i64 on) ∧ w3.cell? ⟨B2, 2, none⟩ = some (.int .i64 at_) ∧ w3.cell? ⟨B2, 3, none⟩ = some (.slice bo Bs.length bc) ∧ w3.cell? ⟨B2, 4, none⟩ = some (.bool raw) ∧ w3.cell? ⟨B2, 5, none⟩ = some (.slice fo F.length fc) ∧ w3.cell? ⟨p.c, 0, none⟩ = some (.pointer (some ⟨p.q.r, 0, none⟩)) := ⟨dcell F0.out m3' u0 (by have := HB.out; omega), dcell F0.out m3' u1 (by have := HB.out; omega), dcell F0.out m3' u2 (by have := HB.out; omega), dcell F0.out m3' u3 (by have := HB.out; omega), dcell F0.out m3' u4 (by have := HB.out; omega), dcell F0.out m3' u5 (by have := HB.out; omega), dcell F0.out m3' u6 (by have := HB.out; omega), dcell F0.out m3' u7 (by have := HB.out; omega), dcell F0.out m3' u8 (by have := HB.out; omega), rcell_c HA.out.1 m3' uc⟩; have H3 := hide (H2.out.dev (H2.out.z.dev.dsk d3 m3) m3'); have E3 := hide (And.intro a3 l3); have B3 : Hid (At w3 ba X) := at_kept (A1.out.2.1.grown A2.out.1) m3'.kept (fun a e hT => by have h1 := (A1.out.2.2.2.1 a e).2; have h2 := A1.out.2.2.2.2; have h3 : wa.drew.heap.size = wa.heap.size := rfl; have h4 : p.all a.block := (by rcases hT with e | e; exact .inl (.inl e); exact .inr (.inr (.inl e))); have := F0.out _ h4; omega); clear d3 m3 m3' a3 l3)
    | (go_at_call 47; refine (wr_ref2 H3.out.z.rd.ref H3.out.z.dev.disk.grown.size (by have := HL.out.v; show p.q.V.length ≤ _; omega) at_ ba X.length bcap X B3.out rfl A1.out.2.2.1).mono ?_; rintro e w4 ⟨q4, rfl, r1, r2, r3, r4, r5, r6⟩; obtain ⟨t0, t1, t2, t3, t4, t5, t6, t7, t8, tc⟩ := hS4; have m4 : RM w3 w4 p.c p.q q4 := RM.of r1 r5 r6; have hS5 : w4.cell? ⟨B1, 0, none⟩ = some (.pointer (some ⟨p.b, 0, none⟩)) ∧ w4.cell? ⟨B1, 1, none⟩ = some (.pointer (some ⟨p.k.d, 0, none⟩)) ∧ w4.cell? ⟨B1, 2, none⟩ = some (.pointer (some ⟨p.c, 0, none⟩)) ∧ w4.cell? ⟨B2, 0, none⟩ = some (.int .i64 7) ∧ w4.cell? ⟨B2, 1, none⟩ = some (.int .i64 on) ∧ w4.cell? ⟨B2, 2, none⟩ = some (.int .i64 at_) ∧ w4.cell? ⟨B2, 3, none⟩ = some (.slice bo Bs.length bc) ∧ w4.cell? ⟨B2, 4, none⟩ = some (.bool raw) ∧ w4.cell? ⟨B2, 5, none⟩ = some (.slice fo F.length fc) ∧ w4.cell? ⟨p.c, 0, none⟩ = some (.pointer (some ⟨p.q.r, 0, none⟩)) := ⟨rcell F0.out m4 t0 (by have := HB.out; omega), rcell F0.out m4 t1 (by have := HB.out; omega), rcell F0.out m4 t2 (by have := HB.out; omega), rcell F0.out m4 t3 (by have := HB.out; omega), rcell F0.out m4 t4 (by have := HB.out; omega), rcell F0.out m4 t5 (by have := HB.out; omega), rcell F0.out m4 t6 (by have := HB.out; omega), rcell F0.out m4 t7 (by have := HB.out; omega), rcell F0.out m4 t8 (by have := HB.out; omega), rcell_q HA.out.1 r5 tc⟩; have H4 := hide (H3.out.ref (H3.out.z.rd.rsk r1 r2 r5) m4); have E4 := hide (And.intro r3 r4); clear r1 r2 r3 r4 r5 r6 m4))
  go_wp2
  go_ret
  refine ⟨_, rfl, _, H4.out, ⟨E3.out.2, ?_, Nat.le_succ _, Nat.le_succ _⟩, fun hsame => ⟨by simp, same_under hsame E3.out.1 E4.out.1 E4.out.2⟩⟩
  have := congrArg List.length E4.out.2
  have h2 := wabs_len (n := n) (size := size) at_ X (absV p.q.V)
  rw [absV_length] at this h2
  show q4.V.length ≤ p.q.V.length + 1
  omega
set_option maxRecDepth 20000 in
set_option maxHeartbeats 16000000 in
theorem step_flush (h : PxAt w0 w n size p) (hl : PxLen p) (on at_ : Int) (Bs : List Nat) (raw : Bool) (F : List (Int × Int)) (bo : Option Addr) (bc : Nat) (fo : Option Addr) (fc : Nat) (hs : SIn w ⟨8, on, at_, Bs, raw, F⟩ bo bc fo fc) :
    Calls Tryz.prog 9 #[.agg #[.pointer (some ⟨p.b, 0, none⟩), .pointer (some ⟨p.k.d, 0, none⟩), .pointer (some ⟨p.c, 0, none⟩)], .agg #[.int .i64 8, .int .i64 on, .int .i64 at_, .slice bo Bs.length bc, .bool raw, .slice fo F.length fc]] w fun e w' => Stepped w0 w w' n size p e := by
  have g1 := World.grownBy_alloc w (.cells #[.pointer (some ⟨p.b, 0, none⟩), .pointer (some ⟨p.k.d, 0, none⟩), .pointer (some ⟨p.c, 0, none⟩)] 27) none
  have g2 := World.grownBy_alloc (w.alloc (.cells #[.pointer (some ⟨p.b, 0, none⟩), .pointer (some ⟨p.k.d, 0, none⟩), .pointer (some ⟨p.c, 0, none⟩)] 27)) (.cells #[.int .i64 8, .int .i64 on, .int .i64 at_, .slice bo Bs.length bc, .bool raw, .slice fo F.length fc] 35) none
  have r1 : (w.alloc (.cells #[.pointer (some ⟨p.b, 0, none⟩), .pointer (some ⟨p.k.d, 0, none⟩), .pointer (some ⟨p.c, 0, none⟩)] 27)).heap[w.heap.size]? = some (.cells [.pointer (some ⟨p.b, 0, none⟩), .pointer (some ⟨p.k.d, 0, none⟩), .pointer (some ⟨p.c, 0, none⟩)].toArray 27 (0, 0)) := heap_alloc_new w _
  have hX : (w.alloc (.cells #[.pointer (some ⟨p.b, 0, none⟩), .pointer (some ⟨p.k.d, 0, none⟩), .pointer (some ⟨p.c, 0, none⟩)] 27)).heap.size = w.heap.size + 1 := by simp
  have r2 : ((w.alloc (.cells #[.pointer (some ⟨p.b, 0, none⟩), .pointer (some ⟨p.k.d, 0, none⟩), .pointer (some ⟨p.c, 0, none⟩)] 27)).alloc (.cells #[.int .i64 8, .int .i64 on, .int .i64 at_, .slice bo Bs.length bc, .bool raw, .slice fo F.length fc] 35)).heap[w.heap.size + 1]? = some (.cells (scells ⟨8, on, at_, Bs, raw, F⟩ bo bc fo fc).toArray 35 (0, 0)) := by rw [← hX]; exact heap_alloc_new _ _
  have r1' := (g2.block _ (row_lt r1) (by simp)).trans r1
  have s1 := h.dev.disk.disk.shape.s1
  have s0 := h.dev.disk.disk.shape.s0
  have G := hide (grown_trans g1 g2)
  have HL := hide hl
  have HA := hide (And.intro h (hs.grown G.out))
  have F0 : Hid (∀ i, p.all i → i < w.heap.size) := h.lt
  have hS0 : ∀ B1 B2, B1 = w.heap.size → B2 = w.heap.size + 1 → (((w.alloc (.cells #[.pointer (some ⟨p.b, 0, none⟩), .pointer (some ⟨p.k.d, 0, none⟩), .pointer (some ⟨p.c, 0, none⟩)] 27)).alloc (.cells #[.int .i64 8, .int .i64 on, .int .i64 at_, .slice bo Bs.length bc, .bool raw, .slice fo F.length fc] 35)).cell? ⟨B1, 0, none⟩ = some (.pointer (some ⟨p.b, 0, none⟩)) ∧ ((w.alloc (.cells #[.pointer (some ⟨p.b, 0, none⟩), .pointer (some ⟨p.k.d, 0, none⟩), .pointer (some ⟨p.c, 0, none⟩)] 27)).alloc (.cells #[.int .i64 8, .int .i64 on, .int .i64 at_, .slice bo Bs.length bc, .bool raw, .slice fo F.length fc] 35)).cell? ⟨B1, 1, none⟩ = some (.pointer (some ⟨p.k.d, 0, none⟩)) ∧ ((w.alloc (.cells #[.pointer (some ⟨p.b, 0, none⟩), .pointer (some ⟨p.k.d, 0, none⟩), .pointer (some ⟨p.c, 0, none⟩)] 27)).alloc (.cells #[.int .i64 8, .int .i64 on, .int .i64 at_, .slice bo Bs.length bc, .bool raw, .slice fo F.length fc] 35)).cell? ⟨B1, 2, none⟩ = some (.pointer (some ⟨p.c, 0, none⟩)) ∧ ((w.alloc (.cells #[.pointer (some ⟨p.b, 0, none⟩), .pointer (some ⟨p.k.d, 0, none⟩), .pointer (some ⟨p.c, 0, none⟩)] 27)).alloc (.cells #[.int .i64 8, .int .i64 on, .int .i64 at_, .slice bo Bs.length bc, .bool raw, .slice fo F.length fc] 35)).cell? ⟨B2, 0, none⟩ = some (.int .i64 8) ∧ ((w.alloc (.cells #[.pointer (some ⟨p.b, 0, none⟩), .pointer (some ⟨p.k.d, 0, none⟩), .pointer (some ⟨p.c, 0, none⟩)] 27)).alloc (.cells #[.int .i64 8, .int .i64 on, .int .i64 at_, .slice bo Bs.length bc, .bool raw, .slice fo F.length fc] 35)).cell? ⟨B2, 1, none⟩ = some (.int .i64 on) ∧ ((w.alloc (.cells #[.pointer (some ⟨p.b, 0, none⟩), .pointer (some ⟨p.k.d, 0, none⟩), .pointer (some ⟨p.c, 0, none⟩)] 27)).alloc (.cells #[.int .i64 8, .int .i64 on, .int .i64 at_, .slice bo Bs.length bc, .bool raw, .slice fo F.length fc] 35)).cell? ⟨B2, 2, none⟩ = some (.int .i64 at_) ∧ ((w.alloc (.cells #[.pointer (some ⟨p.b, 0, none⟩), .pointer (some ⟨p.k.d, 0, none⟩), .pointer (some ⟨p.c, 0, none⟩)] 27)).alloc (.cells #[.int .i64 8, .int .i64 on, .int .i64 at_, .slice bo Bs.length bc, .bool raw, .slice fo F.length fc] 35)).cell? ⟨B2, 3, none⟩ = some (.slice bo Bs.length bc) ∧ ((w.alloc (.cells #[.pointer (some ⟨p.b, 0, none⟩), .pointer (some ⟨p.k.d, 0, none⟩), .pointer (some ⟨p.c, 0, none⟩)] 27)).alloc (.cells #[.int .i64 8, .int .i64 on, .int .i64 at_, .slice bo Bs.length bc, .bool raw, .slice fo F.length fc] 35)).cell? ⟨B2, 4, none⟩ = some (.bool raw) ∧ ((w.alloc (.cells #[.pointer (some ⟨p.b, 0, none⟩), .pointer (some ⟨p.k.d, 0, none⟩), .pointer (some ⟨p.c, 0, none⟩)] 27)).alloc (.cells #[.int .i64 8, .int .i64 on, .int .i64 at_, .slice bo Bs.length bc, .bool raw, .slice fo F.length fc] 35)).cell? ⟨B2, 5, none⟩ = some (.slice fo F.length fc)) := by
    rintro B1 B2 rfl rfl
    exact ⟨cell_row r1' 0, cell_row r1' 1, cell_row r1' 2, cell_row r2 0, cell_row r2 1, cell_row r2 2, cell_row r2 3, cell_row r2 4, cell_row r2 5⟩
  have hS1 := hS0 _ _ rfl rfl
  obtain ⟨y0, y1, y2, y3, y4, y5, y6, y7, y8⟩ := hS1
  clear hS0 h hl hs g1 g2 r1 r1' r2 hX
  go_enter Tryz.func9, Tryz.ntmps9
  go_wp2_with fail
  generalize (w.alloc (.cells #[.pointer (some ⟨p.b, 0, none⟩), .pointer (some ⟨p.k.d, 0, none⟩), .pointer (some ⟨p.c, 0, none⟩)] 27)).alloc (.cells #[.int .i64 8, .int .i64 on, .int .i64 at_, .slice bo Bs.length bc, .bool raw, .slice fo F.length fc] 35) = wa at *
  obtain ⟨B1, hB1⟩ : ∃ B1, B1 = w.heap.size := ⟨_, rfl⟩
  obtain ⟨B2, hB2⟩ : ∃ B2, B2 = w.heap.size + 1 := ⟨_, rfl⟩
  have HB := hide (And.intro hB1 hB2)
  rw [← hB2] at y3 y4 y5 y6 y7 y8 ⊢
  rw [← hB1] at y0 y1 y2 ⊢
  clear hB1 hB2
  go_region_held3 (fun w' => w'.cell? ⟨B1, 0, none⟩ = some (.pointer (some ⟨p.b, 0, none⟩)) ∧ w'.cell? ⟨B1, 1, none⟩ = some (.pointer (some ⟨p.k.d, 0, none⟩)) ∧ w'.cell? ⟨B1, 2, none⟩ = some (.pointer (some ⟨p.c, 0, none⟩)) ∧ w'.cell? ⟨B2, 0, none⟩ = some (.int .i64 8) ∧ w'.cell? ⟨B2, 1, none⟩ = some (.int .i64 on) ∧ w'.cell? ⟨B2, 2, none⟩ = some (.int .i64 at_) ∧ w'.cell? ⟨B2, 3, none⟩ = some (.slice bo Bs.length bc) ∧ w'.cell? ⟨B2, 4, none⟩ = some (.bool raw) ∧ w'.cell? ⟨B2, 5, none⟩ = some (.slice fo F.length fc)) (first | exact ⟨y0, y1, y2, y3, y4, y5, y6, y7, y8⟩ | assumption | go_keep) (first
    | (go_at_call 29; refine (rdsize_any (HA.out.1.rd.then (grown_trans G.out (grown_drew _ _)))).mono ?_; rintro e w1 ⟨rfl, rfl⟩)
    | (go_at_call 28; refine (block_any ⟨8, on, at_, Bs, raw, F⟩ bo bc fo fc size s1 _ (HA.out.2.grown (grown_drew _ _))).mono ?_; rintro e w1 ⟨v, rfl, o2, g2⟩; have g2' := grown_trans (grown_drew wa none) g2; have hS2 : w1.cell? ⟨B1, 0, none⟩ = some (.pointer (some ⟨p.b, 0, none⟩)) ∧ w1.cell? ⟨B1, 1, none⟩ = some (.pointer (some ⟨p.k.d, 0, none⟩)) ∧ w1.cell? ⟨B1, 2, none⟩ = some (.pointer (some ⟨p.c, 0, none⟩)) ∧ w1.cell? ⟨B2, 0, none⟩ = some (.int .i64 8) ∧ w1.cell? ⟨B2, 1, none⟩ = some (.int .i64 on) ∧ w1.cell? ⟨B2, 2, none⟩ = some (.int .i64 at_) ∧ w1.cell? ⟨B2, 3, none⟩ = some (.slice bo Bs.length bc) ∧ w1.cell? ⟨B2, 4, none⟩ = some (.bool raw) ∧ w1.cell? ⟨B2, 5, none⟩ = some (.slice fo F.length fc) := ⟨g2'.cell y0 (by simp), g2'.cell y1 (by simp), g2'.cell y2 (by simp), g2'.cell y3 (by simp), g2'.cell y4 (by simp), g2'.cell y5 (by simp), g2'.cell y6 (by simp), g2'.cell y7 (by simp), g2'.cell y8 (by simp)⟩; obtain ⟨ba, bcap, rfl, q1, q2, q3, q4, q5, q6⟩ := own_at o2; have A1 := hide (And.intro (grown_trans G.out g2') (And.intro q4 (And.intro q5 (And.intro q6 G.out.size)))); clear o2 g2 g2' q1 q2 q3 q4 q5 q6))
  obtain ⟨z0, z1, z2, z3, z4, z5, z6, z7, z8⟩ := hS2
  clear y0 y1 y2 y3 y4 y5 y6 y7 y8
  have hbl := blkOf_le ⟨8, on, at_, Bs, raw, F⟩ size HA.out.2.bin.size s1
  have HX := hide (show (blkOf ⟨8, on, at_, Bs, raw, F⟩ size).length = (blkOf ⟨8, on, at_, Bs, raw, F⟩ size).length from rfl)
  obtain ⟨X, hX⟩ : ∃ X, X = blkOf ⟨8, on, at_, Bs, raw, F⟩ size := ⟨_, rfl⟩
  rw [← hX] at A1 hbl HX ⊢
  have HXE := hide hX
  clear hX
  have HW := hide ((PxW.refl HA.out.1).new A1.out.1)
  have zc : w1.cell? ⟨p.c, 0, none⟩ = some (.pointer (some ⟨p.q.r, 0, none⟩)) := HW.out.z.rd.dev.c0
  go_wp2_with fail
  go_region_held3 (fun w' => w'.cell? ⟨B1, 0, none⟩ = some (.pointer (some ⟨p.b, 0, none⟩)) ∧ w'.cell? ⟨B1, 1, none⟩ = some (.pointer (some ⟨p.k.d, 0, none⟩)) ∧ w'.cell? ⟨B1, 2, none⟩ = some (.pointer (some ⟨p.c, 0, none⟩)) ∧ w'.cell? ⟨B2, 0, none⟩ = some (.int .i64 8) ∧ w'.cell? ⟨B2, 1, none⟩ = some (.int .i64 on) ∧ w'.cell? ⟨B2, 2, none⟩ = some (.int .i64 at_) ∧ w'.cell? ⟨B2, 3, none⟩ = some (.slice bo Bs.length bc) ∧ w'.cell? ⟨B2, 4, none⟩ = some (.bool raw) ∧ w'.cell? ⟨B2, 5, none⟩ = some (.slice fo F.length fc) ∧ w'.cell? ⟨p.c, 0, none⟩ = some (.pointer (some ⟨p.q.r, 0, none⟩))) (first | exact ⟨z0, z1, z2, z3, z4, z5, z6, z7, z8, zc⟩ | assumption | go_keep) (first
    | (go_at_call 48; refine (syncS rfl (HW.out.z.dev.disk.then (grown_drew _ _))).mono ?_; rintro e w3 ⟨rfl, d3, x3⟩; have m3 : Moved w1 w3 p.k p.k.calm p.W [] := Moved.pre (grown_drew w1 none) (calm_moved x3); have m3' : DvM w1 w3 p.b p.k p.k.calm p.W [] := Moved.dev m3; have hS4 : w3.cell? ⟨B1, 0, none⟩ = some (.pointer (some ⟨p.b, 0, none⟩)) ∧ w3.cell? ⟨B1, 1, none⟩ = some (.pointer (some ⟨p.k.d, 0, none⟩)) ∧ w3.cell? ⟨B1, 2, none⟩ = some (.pointer (some ⟨p.c, 0, none⟩)) ∧ w3.cell? ⟨B2, 0, none⟩ = some (.int .i64 8) ∧ w3.cell? ⟨B2, 1, none⟩ = some (.int .i64 on) ∧ w3.cell? ⟨B2, 2, none⟩ = some (.int .i64 at_) ∧ w3.cell? ⟨B2, 3, none⟩ = some (.slice bo Bs.length bc) ∧ w3.cell? ⟨B2, 4, none⟩ = some (.bool raw) ∧ w3.cell? ⟨B2, 5, none⟩ = some (.slice fo F.length fc) ∧ w3.cell? ⟨p.c, 0, none⟩ = some (.pointer (some ⟨p.q.r, 0, none⟩)) := ⟨dcell F0.out m3' z0 (by have := HB.out; omega), dcell F0.out m3' z1 (by have := HB.out; omega), dcell F0.out m3' z2 (by have := HB.out; omega), dcell F0.out m3' z3 (by have := HB.out; omega), dcell F0.out m3' z4 (by have := HB.out; omega), dcell F0.out m3' z5 (by have := HB.out; omega), dcell F0.out m3' z6 (by have := HB.out; omega), dcell F0.out m3' z7 (by have := HB.out; omega), dcell F0.out m3' z8 (by have := HB.out; omega), rcell_c HA.out.1 m3' zc⟩; have H3 := hide (HW.out.dev (HW.out.z.dev.dsk d3 m3) m3'); clear d3 m3 m3' x3)
    | (go_at_call 49; refine (rsync_any rfl H3.out.z.rd.ref (by have := HL.out.v; show p.q.V.length ≤ _; omega)).mono ?_; rintro e w4 ⟨q4, rfl, r1, r2, r3, r4, r5, r6⟩; obtain ⟨t0, t1, t2, t3, t4, t5, t6, t7, t8, tc⟩ := hS4; have m4 : RM w3 w4 p.c p.q q4 := RM.of r1 r5 (fun i hi => .inl (r6 i hi)); have hS5 : w4.cell? ⟨B1, 0, none⟩ = some (.pointer (some ⟨p.b, 0, none⟩)) ∧ w4.cell? ⟨B1, 1, none⟩ = some (.pointer (some ⟨p.k.d, 0, none⟩)) ∧ w4.cell? ⟨B1, 2, none⟩ = some (.pointer (some ⟨p.c, 0, none⟩)) ∧ w4.cell? ⟨B2, 0, none⟩ = some (.int .i64 8) ∧ w4.cell? ⟨B2, 1, none⟩ = some (.int .i64 on) ∧ w4.cell? ⟨B2, 2, none⟩ = some (.int .i64 at_) ∧ w4.cell? ⟨B2, 3, none⟩ = some (.slice bo Bs.length bc) ∧ w4.cell? ⟨B2, 4, none⟩ = some (.bool raw) ∧ w4.cell? ⟨B2, 5, none⟩ = some (.slice fo F.length fc) ∧ w4.cell? ⟨p.c, 0, none⟩ = some (.pointer (some ⟨p.q.r, 0, none⟩)) := ⟨rcell F0.out m4 t0 (by have := HB.out; omega), rcell F0.out m4 t1 (by have := HB.out; omega), rcell F0.out m4 t2 (by have := HB.out; omega), rcell F0.out m4 t3 (by have := HB.out; omega), rcell F0.out m4 t4 (by have := HB.out; omega), rcell F0.out m4 t5 (by have := HB.out; omega), rcell F0.out m4 t6 (by have := HB.out; omega), rcell F0.out m4 t7 (by have := HB.out; omega), rcell F0.out m4 t8 (by have := HB.out; omega), rcell_q HA.out.1 r5 tc⟩; have H4 := hide (H3.out.ref (H3.out.z.rd.rsk r1 r2 r5) m4); have E4 := hide (And.intro r3 r4); clear r1 r2 r3 r4 r5 r6 m4))
  go_wp2
  go_ret
  refine ⟨_, rfl, _, H4.out, ⟨by show 0 ≤ _; omega, ?_, Nat.le_succ _, Nat.le_succ _⟩, fun hsame => ⟨rfl, same_flush hsame HA.out.1.dev.disk.disk rfl E4.out.1 E4.out.2⟩⟩
  show q4.V.length ≤ _
  rw [E4.out.1]
  simp
end
end Go.Proofs.YtaopcidkgcekdaaGreat
