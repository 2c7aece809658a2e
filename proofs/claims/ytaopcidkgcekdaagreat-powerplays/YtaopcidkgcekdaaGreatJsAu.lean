/- Texts joined: StB, StR. -/
import Derived.Test.YtaopcidkgcekdaaGreatJsAt
/- A step on a device and the document's: to write, to come again. -/
namespace Go.Proofs.YtaopcidkgcekdaaGreat
open Go.RowKit Ap
attribute [local go_sem ↓] Go.wp_at_zero Go.wp_at_succ

section
variable {w0 w : World} {n size : Nat} {p : Px}
theorem at_kept {w1 w2 : World} {ao : Option Addr} {xs : List Nat} {T : Nat → Prop} (h : At w1 ao xs) (hk : Kept w1 w2 T) (hT : ∀ a, ao = some a → ¬ T a.block) : At w2 ao xs := by
  intro j u hu
  obtain ⟨a, e, hc⟩ := h j u hu
  exact ⟨a, e, cell_kept hk hc (by rw [addr_add_block]; exact hT a e)⟩
theorem wabs_len (a : Int) (xs : List Nat) (P : List Pr) : (wabs n size a xs P).length ≤ P.length + 1 := by
  unfold wabs
  split
  · split
    · simp
    · omega
  · omega
theorem same_write {k' : Dk} {W' : List Wt} {q' : Rk} {a : Int} {xs : List Nat} (h : PxSame n size p) (e1 : abs W' = (if p.s.goes then wabs n size a xs (abs p.W) else abs p.W)) (e2 : rst q' = (if p.t.goes then ((rst p.q).1, wabs n size a xs (rst p.q).2) else rst p.q)) : PxSame n size ⟨p.b, p.s.next, k', p.D, W', p.c, p.t.next, q'⟩ := by
  rw [h.st] at e1
  cases hg : p.t.goes with
  | true =>
    rw [hg, if_pos rfl] at e1 e2
    refine ⟨by show p.s.next = p.t.next; rw [h.st], ?_, ?_⟩
    · show secs n size p.D = (rst q').1
      rw [e2]; exact h.rows
    · show abs W' = (rst q').2
      rw [e2, e1, h.waits]
  | false =>
    rw [hg] at e1 e2
    refine ⟨by show p.s.next = p.t.next; rw [h.st], ?_, ?_⟩
    · show secs n size p.D = (rst q').1
      rw [e2]; exact h.rows
    · show abs W' = (rst q').2
      rw [e2]; exact e1.trans h.waits
set_option maxRecDepth 20000 in
set_option maxHeartbeats 16000000 in
theorem step_write (h : PxAt w0 w n size p) (hl : PxLen p) (uo : Option Addr) (on at_ : Int) (Bs : List Nat) (raw : Bool) (F : List (Int × Int)) (bo : Option Addr) (bc : Nat) (fo : Option Addr) (fc : Nat) (hs : SIn w ⟨1, on, at_, Bs, raw, F⟩ bo bc fo fc) :
    Calls Tryz.prog 9 #[.agg #[.pointer (some ⟨p.b, 0, none⟩), .pointer uo, .pointer (some ⟨p.c, 0, none⟩)], .agg #[.int .i64 1, .int .i64 on, .int .i64 at_, .slice bo Bs.length bc, .bool raw, .slice fo F.length fc]] w fun e w' => Stepped w0 w w' n size p e := by
  have g1 := World.grownBy_alloc w (.cells #[.pointer (some ⟨p.b, 0, none⟩), .pointer uo, .pointer (some ⟨p.c, 0, none⟩)] 27) none
  have g2 := World.grownBy_alloc (w.alloc (.cells #[.pointer (some ⟨p.b, 0, none⟩), .pointer uo, .pointer (some ⟨p.c, 0, none⟩)] 27)) (.cells #[.int .i64 1, .int .i64 on, .int .i64 at_, .slice bo Bs.length bc, .bool raw, .slice fo F.length fc] 35) none
  have r1 : (w.alloc (.cells #[.pointer (some ⟨p.b, 0, none⟩), .pointer uo, .pointer (some ⟨p.c, 0, none⟩)] 27)).heap[w.heap.size]? = some (.cells [.pointer (some ⟨p.b, 0, none⟩), .pointer uo, .pointer (some ⟨p.c, 0, none⟩)].toArray 27 (0, 0)) := heap_alloc_new w _
  have hX : (w.alloc (.cells #[.pointer (some ⟨p.b, 0, none⟩), .pointer uo, .pointer (some ⟨p.c, 0, none⟩)] 27)).heap.size = w.heap.size + 1 := by simp
  have r2 : ((w.alloc (.cells #[.pointer (some ⟨p.b, 0, none⟩), .pointer uo, .pointer (some ⟨p.c, 0, none⟩)] 27)).alloc (.cells #[.int .i64 1, .int .i64 on, .int .i64 at_, .slice bo Bs.length bc, .bool raw, .slice fo F.length fc] 35)).heap[w.heap.size + 1]? = some (.cells (scells ⟨1, on, at_, Bs, raw, F⟩ bo bc fo fc).toArray 35 (0, 0)) := by rw [← hX]; exact heap_alloc_new _ _
  have r1' := (g2.block _ (row_lt r1) (by simp)).trans r1
  have s1 := h.dev.disk.disk.shape.s1
  have s0 := h.dev.disk.disk.shape.s0
  have G := hide (grown_trans g1 g2)
  have HL := hide hl
  have HA := hide (And.intro h (hs.grown G.out))
  have F0 : Hid (∀ i, p.all i → i < w.heap.size) := h.lt
  have hS0 : ∀ B1 B2, B1 = w.heap.size → B2 = w.heap.size + 1 → (((w.alloc (.cells #[.pointer (some ⟨p.b, 0, none⟩), .pointer uo, .pointer (some ⟨p.c, 0, none⟩)] 27)).alloc (.cells #[.int .i64 1, .int .i64 on, .int .i64 at_, .slice bo Bs.length bc, .bool raw, .slice fo F.length fc] 35)).cell? ⟨B1, 0, none⟩ = some (.pointer (some ⟨p.b, 0, none⟩)) ∧ ((w.alloc (.cells #[.pointer (some ⟨p.b, 0, none⟩), .pointer uo, .pointer (some ⟨p.c, 0, none⟩)] 27)).alloc (.cells #[.int .i64 1, .int .i64 on, .int .i64 at_, .slice bo Bs.length bc, .bool raw, .slice fo F.length fc] 35)).cell? ⟨B1, 1, none⟩ = some (.pointer uo) ∧ ((w.alloc (.cells #[.pointer (some ⟨p.b, 0, none⟩), .pointer uo, .pointer (some ⟨p.c, 0, none⟩)] 27)).alloc (.cells #[.int .i64 1, .int .i64 on, .int .i64 at_, .slice bo Bs.length bc, .bool raw, .slice fo F.length fc] 35)).cell? ⟨B1, 2, none⟩ = some (.pointer (some ⟨p.c, 0, none⟩)) ∧ ((w.alloc (.cells #[.pointer (some ⟨p.b, 0, none⟩), .pointer uo, .pointer (some ⟨p.c, 0, none⟩)] 27)).alloc (.cells #[.int .i64 1, .int .i64 on, .int .i64 at_, .slice bo Bs.length bc, .bool raw, .slice fo F.length fc] 35)).cell? ⟨B2, 0, none⟩ = some (.int .i64 1) ∧ ((w.alloc (.cells #[.pointer (some ⟨p.b, 0, none⟩), .pointer uo, .pointer (some ⟨p.c, 0, none⟩)] 27)).alloc (.cells #[.int .i64 1, .int .i64 on, .int .i64 at_, .slice bo Bs.length bc, .bool raw, .slice fo F.length fc] 35)).cell? ⟨B2, 1, none⟩ = some (.int .i64 on) ∧ ((w.alloc (.cells #[.pointer (some ⟨p.b, 0, none⟩), .pointer uo, .pointer (some ⟨p.c, 0, none⟩)] 27)).alloc (.cells #[.int .i64 1, .int .i64 on, .int .i64 at_, .slice bo Bs.length bc, .bool raw, .slice fo F.length fc] 35)).cell? ⟨B2, 2, none⟩ = some (.int .i64 at_) ∧ ((w.alloc (.cells #[.pointer (some ⟨p.b, 0, none⟩), .pointer uo, .pointer (some ⟨p.c, 0, none⟩)] 27)).alloc (.cells #[.int .i64 1, .int .i64 on, .int .i64 at_, .slice bo Bs.length bc, .bool raw, .slice fo F.length fc] 35)).cell? ⟨B2, 3, none⟩ = some (.slice bo Bs.length bc) ∧ ((w.alloc (.cells #[.pointer (some ⟨p.b, 0, none⟩), .pointer uo, .pointer (some ⟨p.c, 0, none⟩)] 27)).alloc (.cells #[.int .i64 1, .int .i64 on, .int .i64 at_, .slice bo Bs.length bc, .bool raw, .slice fo F.length fc] 35)).cell? ⟨B2, 4, none⟩ = some (.bool raw) ∧ ((w.alloc (.cells #[.pointer (some ⟨p.b, 0, none⟩), .pointer uo, .pointer (some ⟨p.c, 0, none⟩)] 27)).alloc (.cells #[.int .i64 1, .int .i64 on, .int .i64 at_, .slice bo Bs.length bc, .bool raw, .slice fo F.length fc] 35)).cell? ⟨B2, 5, none⟩ = some (.slice fo F.length fc)) := by
    rintro B1 B2 rfl rfl
    exact ⟨cell_row r1' 0, cell_row r1' 1, cell_row r1' 2, cell_row r2 0, cell_row r2 1, cell_row r2 2, cell_row r2 3, cell_row r2 4, cell_row r2 5⟩
  have hS1 := hS0 _ _ rfl rfl
  obtain ⟨y0, y1, y2, y3, y4, y5, y6, y7, y8⟩ := hS1
  clear hS0 h hl hs g1 g2 r1 r1' r2 hX
  go_enter Tryz.func9, Tryz.ntmps9
  go_wp2_with fail
  generalize (w.alloc (.cells #[.pointer (some ⟨p.b, 0, none⟩), .pointer uo, .pointer (some ⟨p.c, 0, none⟩)] 27)).alloc (.cells #[.int .i64 1, .int .i64 on, .int .i64 at_, .slice bo Bs.length bc, .bool raw, .slice fo F.length fc] 35) = wa at *
  obtain ⟨B1, hB1⟩ : ∃ B1, B1 = w.heap.size := ⟨_, rfl⟩
  obtain ⟨B2, hB2⟩ : ∃ B2, B2 = w.heap.size + 1 := ⟨_, rfl⟩
  have HB := hide (And.intro hB1 hB2)
  rw [← hB2] at y3 y4 y5 y6 y7 y8 ⊢
  rw [← hB1] at y0 y1 y2 ⊢
  clear hB1 hB2
  go_region_held3 (fun w' => w'.cell? ⟨B1, 0, none⟩ = some (.pointer (some ⟨p.b, 0, none⟩)) ∧ w'.cell? ⟨B1, 1, none⟩ = some (.pointer uo) ∧ w'.cell? ⟨B1, 2, none⟩ = some (.pointer (some ⟨p.c, 0, none⟩)) ∧ w'.cell? ⟨B2, 0, none⟩ = some (.int .i64 1) ∧ w'.cell? ⟨B2, 1, none⟩ = some (.int .i64 on) ∧ w'.cell? ⟨B2, 2, none⟩ = some (.int .i64 at_) ∧ w'.cell? ⟨B2, 3, none⟩ = some (.slice bo Bs.length bc) ∧ w'.cell? ⟨B2, 4, none⟩ = some (.bool raw) ∧ w'.cell? ⟨B2, 5, none⟩ = some (.slice fo F.length fc)) (first | exact ⟨y0, y1, y2, y3, y4, y5, y6, y7, y8⟩ | assumption | go_keep) (first
    | (go_at_call 29; refine (rdsize_any (HA.out.1.rd.then (grown_trans G.out (grown_drew _ _)))).mono ?_; rintro e w1 ⟨rfl, rfl⟩)
    | (go_at_call 28; refine (block_any ⟨1, on, at_, Bs, raw, F⟩ bo bc fo fc size s1 _ (HA.out.2.grown (grown_drew _ _))).mono ?_; rintro e w1 ⟨v, rfl, o2, g2⟩; have g2' := grown_trans (grown_drew wa none) g2; have hS2 : w1.cell? ⟨B1, 0, none⟩ = some (.pointer (some ⟨p.b, 0, none⟩)) ∧ w1.cell? ⟨B1, 1, none⟩ = some (.pointer uo) ∧ w1.cell? ⟨B1, 2, none⟩ = some (.pointer (some ⟨p.c, 0, none⟩)) ∧ w1.cell? ⟨B2, 0, none⟩ = some (.int .i64 1) ∧ w1.cell? ⟨B2, 1, none⟩ = some (.int .i64 on) ∧ w1.cell? ⟨B2, 2, none⟩ = some (.int .i64 at_) ∧ w1.cell? ⟨B2, 3, none⟩ = some (.slice bo Bs.length bc) ∧ w1.cell? ⟨B2, 4, none⟩ = some (.bool raw) ∧ w1.cell? ⟨B2, 5, none⟩ = some (.slice fo F.length fc) := ⟨g2'.cell y0 (by simp), g2'.cell y1 (by simp), g2'.cell y2 (by simp), g2'.cell y3 (by simp), g2'.cell y4 (by simp), g2'.cell y5 (by simp), g2'.cell y6 (by simp), g2'.cell y7 (by simp), g2'.cell y8 (by simp)⟩; obtain ⟨ba, bcap, rfl, q1, q2, q3, q4, q5, q6⟩ := own_at o2; have A1 := hide (And.intro (grown_trans G.out g2') (And.intro q4 (And.intro q5 (And.intro q6 G.out.size)))); clear o2 g2 g2' q1 q2 q3 q4 q5 q6))
  obtain ⟨z0, z1, z2, z3, z4, z5, z6, z7, z8⟩ := hS2
  clear y0 y1 y2 y3 y4 y5 y6 y7 y8
  have hbl := blkOf_le ⟨1, on, at_, Bs, raw, F⟩ size HA.out.2.bin.size s1
  have HX := hide (show (blkOf ⟨1, on, at_, Bs, raw, F⟩ size).length = (blkOf ⟨1, on, at_, Bs, raw, F⟩ size).length from rfl)
  obtain ⟨X, hX⟩ : ∃ X, X = blkOf ⟨1, on, at_, Bs, raw, F⟩ size := ⟨_, rfl⟩
  rw [← hX] at A1 hbl HX ⊢
  have HXE := hide hX
  clear hX
  have HW := hide ((PxW.refl HA.out.1).new A1.out.1)
  have HSZ : Hid (w.heap.size + 2 ≤ w1.heap.size) := by have := HB.out.2; have := cell_lt z3; show _ ≤ _; have e : (Addr.mk B2 0 none).block = B2 := rfl; omega
  go_wp2_with fail
  refine (lent_any ba X.length bcap X w1 rfl A1.out.2.1 A1.out.2.2.1 hbl).mono ?_
  rintro e w2 ⟨v, rfl, lt2, g2⟩
  obtain ⟨g', cap', rfl, x1, x2', x3, x4, x5, cur, x6, x7⟩ := lt2.all
  have a0 := g2.cell z0 (by simp)
  have a2 := g2.cell z2 (by simp)
  have a5 := g2.cell z5 (by simp)
  have HW2 := hide (HW.out.new g2)
  have HG2 := hide (And.intro x3 (And.intro x4 (And.intro x5 (A1.out.2.1.grown g2))))
  have HCUR : Hid (∃ cur : Array Value, w2.heap[g']? = some (.cells cur 5 (0, 0)) ∧ cur.size = cap') := ⟨cur, x6, x7⟩
  have hw1 := A1.out.1.size
  have HAT2 : Hid (At w2 (some ⟨g', 0, none⟩) X) := by
    intro j u hu
    exact x5 j u (by rw [List.getElem?_append_left (List.getElem?_eq_some_iff.1 hu).1]; exact hu)
  clear x3 x4 x5 x6 x7 g2 lt2 z0 z1 z2 z3 z4 z5 z6 z7 z8
  go_wp2_with fail
  refine (dwrite_any HW2.out.z.dev (by have := HL.out.w; omega) (by have := HL.out.s; omega) at_ (some ⟨g', 0, none⟩) X.length cap' X HAT2.out rfl).mono ?_
  rintro e w3 ⟨rfl, k3, W3, d3, m3, a3, l3⟩
  have hno : ∀ A, w.heap.size ≤ A → ¬ (p.k.own A ∨ A = p.b) := fun A hA e => by
    have : p.all A := by
      rcases e with e | e
      · exact .inl (.inl e)
      · exact .inr (.inr (.inl e))
    have := F0.out A this; omega
  have b2 := dcell F0.out m3 a2 (by have := HB.out; omega)
  have b5 := dcell F0.out m3 a5 (by have := HB.out; omega)
  have hg1 : w1.heap.size ≤ g' := HG2.out.1
  have hbal : ∀ a, ba = some a → w.heap.size ≤ a.block ∧ a.block < w1.heap.size := fun a e => by
    have h1 := (A1.out.2.2.2.1 a e).2
    have h2 := A1.out.2.2.2.2
    have h3 : wa.drew.heap.size = wa.heap.size := rfl
    omega
  have HAT3 : Hid (At w3 (some ⟨g', 0, none⟩) (X ++ marks 1 12)) := at_kept HG2.out.2.2.1 m3.kept (fun a e => by cases e; exact hno g' (by omega))
  have HBA3 : Hid (At w3 ba X) := at_kept HG2.out.2.2.2 m3.kept (fun a e => hno _ (hbal a e).1)
  have HCUR3 : Hid (∃ cur : Array Value, w3.heap[g']? = some (.cells cur 5 (0, 0)) ∧ cur.size = cap') := by
    obtain ⟨cur, h1, h2⟩ := HCUR.out
    exact ⟨cur, m3.kept.at h1 (hno g' (by omega)), h2⟩
  have H3 := hide (HW2.out.dev d3 m3)
  have E3 := hide (And.intro a3 l3)
  have hgl := HG2.out.2.1
  have hnall : Hid (¬ (Px.all ⟨p.b, p.s.next, k3, p.D, W3, p.c, p.t, p.q⟩ g')) := by
    rintro (e | e | e | e)
    · rcases e with e | ⟨x, hx, e⟩
      · rcases m3.own g' e with e | e
        · have := F0.out g' (.inl (.inl e)); omega
        · omega
      · rcases m3.blk x hx with ⟨y, hy, e2⟩ | e2
        · have := F0.out y.blk (.inl (.inr ⟨y, hy, rfl⟩))
          have e : x.blk = g' := e
          omega
        · have e : x.blk = g' := e
          omega
    · have := F0.out g' (.inr (.inl e)); omega
    · have := F0.out g' (.inr (.inr (.inl e))); omega
    · have := F0.out g' (.inr (.inr (.inr e))); omega
  have HBAL := hide hbal
  clear d3 m3 a3 l3 a0 a2 a5 hno hbal
  generalize hcc : p.s.code (wcode n size at_ X.length) = cc at *
  have HCC := hide hcc
  clear hcc
  go_wp2_with fail
  refine (kept_any g' cap' ba X.length bcap X w3 rfl x1 x2' HAT3.out HBA3.out (by omega)).mono ?_
  rintro e w4 ⟨rfl, g4⟩
  have c2 := g4.cell b2 (by simp)
  have c5 := g4.cell b5 (by simp)
  have H4 := hide (H3.out.new g4)
  have HBA4 := hide (HBA3.out.grown g4)
  have HCUR4 : Hid (∃ cur : Array Value, w4.heap[g']? = some (.cells cur 5 (0, 0)) ∧ cur.size = cap') := by
    obtain ⟨cur, h1, h2⟩ := HCUR3.out
    exact ⟨cur, (g4.block _ (row_lt h1) (by simp)).trans h1, h2⟩
  clear g4 b2 b5
  go_wp2_with fail
  refine (over_any g' cap' X.length w4 HCUR4.out x1 x2' (by omega)).mono ?_
  rintro e w5 ⟨rfl, g5⟩
  have hB1 : B1 ≠ g' := by have := HB.out; have := A1.out.2.2.2.2; have := G.out.size; intro e; have : w.heap.size + 2 ≤ w1.heap.size := HSZ.out; omega
  have hB2 : B2 ≠ g' := by have := HB.out; have : w.heap.size + 2 ≤ w1.heap.size := HSZ.out; omega
  have d2 := g5.cell c2 (by intro e; exact hB1 (Option.some.inj e))
  have d5 := g5.cell c5 (by intro e; exact hB2 (Option.some.inj e))
  have H5 := hide (H4.out.row g5 (by omega) hnall.out)
  have HBA5 : Hid (At w5 ba X) := at_kept HBA4.out (Kept.of g5 (S := fun i => i = g') (fun _ e _ => (Option.some.inj e).symm)) (fun a e e2 => by have := (HBAL.out a e).2; have e2 : a.block = g' := e2; omega)
  clear g5 c2 c5 hB1 hB2
  go_wp2_with fail
  refine (rdwrite_any H5.out.z.rd H5.out.z.dev.disk.grown.size (by have := HL.out.v; show p.q.V.length ≤ _; omega) (by have := HL.out.t; show p.t.cnt < _; omega) at_ ba X.length bcap X HBA5.out rfl A1.out.2.2.1).mono ?_
  rintro e w6 ⟨rfl, q6, d6, m6, a6⟩
  have H6 := hide (H5.out.ref d6 m6)
  have E6 := hide a6
  clear d6 m6 a6
  go_wp2
  go_ret
  refine ⟨_, rfl, _, H6.out, ⟨E3.out.2, ?_, p.s.next_cnt, p.t.next_cnt⟩, fun hsame => ⟨?_, same_write hsame E3.out.1 E6.out⟩⟩
  · have := rst_len E6.out
    show q6.V.length ≤ p.q.V.length + 1
    rw [this]
    have e : (rst p.q).2.length = p.q.V.length := by simp [rst, absV]
    show (if p.t.goes then ((rst p.q).1, wabs n size at_ X (rst p.q).2) else rst p.q).2.length ≤ _
    split
    · rw [← e]; exact wabs_len _ _ _
    · omega
  · rw [← HCC.out, hsame.st]; simp
end
end Go.Proofs.YtaopcidkgcekdaaGreat
/- A step on a device and the document's: to come again. -/
namespace Go.Proofs.YtaopcidkgcekdaaGreat
open Go.RowKit Ap
attribute [local go_sem ↓] Go.wp_at_zero Go.wp_at_succ

section
variable {w0 w : World} {n size : Nat} {p : Px}
theorem same_crash {k' : Dk} {D' : List Nat} {q' : Rk} {F : List (Int × Int)} (h : PxSame n size p) (hd : DiskAt w p.k n size p.D p.W) (e1 : (D', abs []) = crashA size F (p.D, abs p.W)) (e2 : rst q' = rcrashA size F (rst p.q)) : PxSame n size ⟨p.b, Dv.anew, k', D', [], p.c, Dv.anew, q'⟩ := by
  obtain ⟨e3, e4⟩ := Prod.mk.inj e1
  refine ⟨rfl, ?_, ?_⟩
  · show secs n size D' = (rst q').1
    rw [e2, e3, rcrashA, ← h.waits, ← h.rows]
    exact secs_abs hd.len hd.fitsW
  · show abs [] = (rst q').2
    rw [e2]; rfl
set_option maxRecDepth 20000 in
set_option maxHeartbeats 16000000 in
theorem step_restart (h : PxAt w0 w n size p) (hl : PxLen p) (uo : Option Addr) (on at_ : Int) (Bs : List Nat) (raw : Bool) (F : List (Int × Int)) (bo : Option Addr) (bc : Nat) (fo : Option Addr) (fc : Nat) (hs : SIn w ⟨5, on, at_, Bs, raw, F⟩ bo bc fo fc) (hfl : ∀ a, fo = some a → 0 < F.length → a.block < w0.heap.size) :
    Calls Tryz.prog 9 #[.agg #[.pointer (some ⟨p.b, 0, none⟩), .pointer uo, .pointer (some ⟨p.c, 0, none⟩)], .agg #[.int .i64 5, .int .i64 on, .int .i64 at_, .slice bo Bs.length bc, .bool raw, .slice fo F.length fc]] w fun e w' => Stepped w0 w w' n size p e := by
  have g1 := World.grownBy_alloc w (.cells #[.pointer (some ⟨p.b, 0, none⟩), .pointer uo, .pointer (some ⟨p.c, 0, none⟩)] 27) none
  have g2 := World.grownBy_alloc (w.alloc (.cells #[.pointer (some ⟨p.b, 0, none⟩), .pointer uo, .pointer (some ⟨p.c, 0, none⟩)] 27)) (.cells #[.int .i64 5, .int .i64 on, .int .i64 at_, .slice bo Bs.length bc, .bool raw, .slice fo F.length fc] 35) none
  have r1 : (w.alloc (.cells #[.pointer (some ⟨p.b, 0, none⟩), .pointer uo, .pointer (some ⟨p.c, 0, none⟩)] 27)).heap[w.heap.size]? = some (.cells [.pointer (some ⟨p.b, 0, none⟩), .pointer uo, .pointer (some ⟨p.c, 0, none⟩)].toArray 27 (0, 0)) := heap_alloc_new w _
  have hX : (w.alloc (.cells #[.pointer (some ⟨p.b, 0, none⟩), .pointer uo, .pointer (some ⟨p.c, 0, none⟩)] 27)).heap.size = w.heap.size + 1 := by simp
  have r2 : ((w.alloc (.cells #[.pointer (some ⟨p.b, 0, none⟩), .pointer uo, .pointer (some ⟨p.c, 0, none⟩)] 27)).alloc (.cells #[.int .i64 5, .int .i64 on, .int .i64 at_, .slice bo Bs.length bc, .bool raw, .slice fo F.length fc] 35)).heap[w.heap.size + 1]? = some (.cells (scells ⟨5, on, at_, Bs, raw, F⟩ bo bc fo fc).toArray 35 (0, 0)) := by rw [← hX]; exact heap_alloc_new _ _
  have r1' := (g2.block _ (row_lt r1) (by simp)).trans r1
  have s1 := h.dev.disk.disk.shape.s1
  have s0 := h.dev.disk.disk.shape.s0
  have G := hide (grown_trans g1 g2)
  have HL := hide hl
  have HFL := hide hfl
  have HLO := hide h.low
  have HA := hide (And.intro h (hs.grown G.out))
  have F0 : Hid (∀ i, p.all i → i < w.heap.size) := h.lt
  have hS0 : ∀ B1 B2, B1 = w.heap.size → B2 = w.heap.size + 1 → (((w.alloc (.cells #[.pointer (some ⟨p.b, 0, none⟩), .pointer uo, .pointer (some ⟨p.c, 0, none⟩)] 27)).alloc (.cells #[.int .i64 5, .int .i64 on, .int .i64 at_, .slice bo Bs.length bc, .bool raw, .slice fo F.length fc] 35)).cell? ⟨B1, 0, none⟩ = some (.pointer (some ⟨p.b, 0, none⟩)) ∧ ((w.alloc (.cells #[.pointer (some ⟨p.b, 0, none⟩), .pointer uo, .pointer (some ⟨p.c, 0, none⟩)] 27)).alloc (.cells #[.int .i64 5, .int .i64 on, .int .i64 at_, .slice bo Bs.length bc, .bool raw, .slice fo F.length fc] 35)).cell? ⟨B1, 1, none⟩ = some (.pointer uo) ∧ ((w.alloc (.cells #[.pointer (some ⟨p.b, 0, none⟩), .pointer uo, .pointer (some ⟨p.c, 0, none⟩)] 27)).alloc (.cells #[.int .i64 5, .int .i64 on, .int .i64 at_, .slice bo Bs.length bc, .bool raw, .slice fo F.length fc] 35)).cell? ⟨B1, 2, none⟩ = some (.pointer (some ⟨p.c, 0, none⟩)) ∧ ((w.alloc (.cells #[.pointer (some ⟨p.b, 0, none⟩), .pointer uo, .pointer (some ⟨p.c, 0, none⟩)] 27)).alloc (.cells #[.int .i64 5, .int .i64 on, .int .i64 at_, .slice bo Bs.length bc, .bool raw, .slice fo F.length fc] 35)).cell? ⟨B2, 0, none⟩ = some (.int .i64 5) ∧ ((w.alloc (.cells #[.pointer (some ⟨p.b, 0, none⟩), .pointer uo, .pointer (some ⟨p.c, 0, none⟩)] 27)).alloc (.cells #[.int .i64 5, .int .i64 on, .int .i64 at_, .slice bo Bs.length bc, .bool raw, .slice fo F.length fc] 35)).cell? ⟨B2, 1, none⟩ = some (.int .i64 on) ∧ ((w.alloc (.cells #[.pointer (some ⟨p.b, 0, none⟩), .pointer uo, .pointer (some ⟨p.c, 0, none⟩)] 27)).alloc (.cells #[.int .i64 5, .int .i64 on, .int .i64 at_, .slice bo Bs.length bc, .bool raw, .slice fo F.length fc] 35)).cell? ⟨B2, 2, none⟩ = some (.int .i64 at_) ∧ ((w.alloc (.cells #[.pointer (some ⟨p.b, 0, none⟩), .pointer uo, .pointer (some ⟨p.c, 0, none⟩)] 27)).alloc (.cells #[.int .i64 5, .int .i64 on, .int .i64 at_, .slice bo Bs.length bc, .bool raw, .slice fo F.length fc] 35)).cell? ⟨B2, 3, none⟩ = some (.slice bo Bs.length bc) ∧ ((w.alloc (.cells #[.pointer (some ⟨p.b, 0, none⟩), .pointer uo, .pointer (some ⟨p.c, 0, none⟩)] 27)).alloc (.cells #[.int .i64 5, .int .i64 on, .int .i64 at_, .slice bo Bs.length bc, .bool raw, .slice fo F.length fc] 35)).cell? ⟨B2, 4, none⟩ = some (.bool raw) ∧ ((w.alloc (.cells #[.pointer (some ⟨p.b, 0, none⟩), .pointer uo, .pointer (some ⟨p.c, 0, none⟩)] 27)).alloc (.cells #[.int .i64 5, .int .i64 on, .int .i64 at_, .slice bo Bs.length bc, .bool raw, .slice fo F.length fc] 35)).cell? ⟨B2, 5, none⟩ = some (.slice fo F.length fc)) := by
    rintro B1 B2 rfl rfl
    exact ⟨cell_row r1' 0, cell_row r1' 1, cell_row r1' 2, cell_row r2 0, cell_row r2 1, cell_row r2 2, cell_row r2 3, cell_row r2 4, cell_row r2 5⟩
  have hS1 := hS0 _ _ rfl rfl
  obtain ⟨y0, y1, y2, y3, y4, y5, y6, y7, y8⟩ := hS1
  clear hS0 h hl hs hfl g1 g2 r1 r1' r2 hX
  go_enter Tryz.func9, Tryz.ntmps9
  go_wp2_with fail
  generalize (w.alloc (.cells #[.pointer (some ⟨p.b, 0, none⟩), .pointer uo, .pointer (some ⟨p.c, 0, none⟩)] 27)).alloc (.cells #[.int .i64 5, .int .i64 on, .int .i64 at_, .slice bo Bs.length bc, .bool raw, .slice fo F.length fc] 35) = wa at *
  obtain ⟨B1, hB1⟩ : ∃ B1, B1 = w.heap.size := ⟨_, rfl⟩
  obtain ⟨B2, hB2⟩ : ∃ B2, B2 = w.heap.size + 1 := ⟨_, rfl⟩
  have HB := hide (And.intro hB1 hB2)
  rw [← hB2] at y3 y4 y5 y6 y7 y8 ⊢
  rw [← hB1] at y0 y1 y2 ⊢
  clear hB1 hB2
  go_region_held3 (fun w' => w'.cell? ⟨B1, 0, none⟩ = some (.pointer (some ⟨p.b, 0, none⟩)) ∧ w'.cell? ⟨B1, 1, none⟩ = some (.pointer uo) ∧ w'.cell? ⟨B1, 2, none⟩ = some (.pointer (some ⟨p.c, 0, none⟩)) ∧ w'.cell? ⟨B2, 0, none⟩ = some (.int .i64 5) ∧ w'.cell? ⟨B2, 1, none⟩ = some (.int .i64 on) ∧ w'.cell? ⟨B2, 2, none⟩ = some (.int .i64 at_) ∧ w'.cell? ⟨B2, 3, none⟩ = some (.slice bo Bs.length bc) ∧ w'.cell? ⟨B2, 4, none⟩ = some (.bool raw) ∧ w'.cell? ⟨B2, 5, none⟩ = some (.slice fo F.length fc)) (first | exact ⟨y0, y1, y2, y3, y4, y5, y6, y7, y8⟩ | assumption | go_keep) (first
    | (go_at_call 29; refine (rdsize_any (HA.out.1.rd.then (grown_trans G.out (grown_drew _ _)))).mono ?_; rintro e w1 ⟨rfl, rfl⟩)
    | (go_at_call 28; refine (block_any ⟨5, on, at_, Bs, raw, F⟩ bo bc fo fc size s1 _ (HA.out.2.grown (grown_drew _ _))).mono ?_; rintro e w1 ⟨v, rfl, o2, g2⟩; have g2' := grown_trans (grown_drew wa none) g2; have hS2 : w1.cell? ⟨B1, 0, none⟩ = some (.pointer (some ⟨p.b, 0, none⟩)) ∧ w1.cell? ⟨B1, 1, none⟩ = some (.pointer uo) ∧ w1.cell? ⟨B1, 2, none⟩ = some (.pointer (some ⟨p.c, 0, none⟩)) ∧ w1.cell? ⟨B2, 0, none⟩ = some (.int .i64 5) ∧ w1.cell? ⟨B2, 1, none⟩ = some (.int .i64 on) ∧ w1.cell? ⟨B2, 2, none⟩ = some (.int .i64 at_) ∧ w1.cell? ⟨B2, 3, none⟩ = some (.slice bo Bs.length bc) ∧ w1.cell? ⟨B2, 4, none⟩ = some (.bool raw) ∧ w1.cell? ⟨B2, 5, none⟩ = some (.slice fo F.length fc) := ⟨g2'.cell y0 (by simp), g2'.cell y1 (by simp), g2'.cell y2 (by simp), g2'.cell y3 (by simp), g2'.cell y4 (by simp), g2'.cell y5 (by simp), g2'.cell y6 (by simp), g2'.cell y7 (by simp), g2'.cell y8 (by simp)⟩; obtain ⟨ba, bcap, rfl, q1, q2, q3, q4, q5, q6⟩ := own_at o2; have HFG := hide (HA.out.2.fin.grown g2'); have A1 := hide (And.intro (grown_trans G.out g2') (And.intro q4 (And.intro q5 (And.intro q6 G.out.size)))); clear o2 g2 g2' q1 q2 q3 q4 q5 q6))
  obtain ⟨z0, z1, z2, z3, z4, z5, z6, z7, z8⟩ := hS2
  clear y0 y1 y2 y3 y4 y5 y6 y7 y8
  have hbl := blkOf_le ⟨5, on, at_, Bs, raw, F⟩ size HA.out.2.bin.size s1
  have HX := hide (show (blkOf ⟨5, on, at_, Bs, raw, F⟩ size).length = (blkOf ⟨5, on, at_, Bs, raw, F⟩ size).length from rfl)
  obtain ⟨X, hX⟩ : ∃ X, X = blkOf ⟨5, on, at_, Bs, raw, F⟩ size := ⟨_, rfl⟩
  rw [← hX] at A1 hbl HX ⊢
  have HXE := hide hX
  clear hX
  have HW := hide ((PxW.refl HA.out.1).new A1.out.1)
  go_wp2_with fail
  have HFI : Hid (FIn w1 fo fc F) := HFG.out
  refine (lentF_any fo F.length fc F w1 rfl HFI.out.at_ HFI.out.nil HFI.out.size).mono ?_
  rintro e w2 ⟨g, cap', rfl, o1, l1, l2, g2⟩
  have hgB := (own_block o1 g rfl).1
  have hS3 : w2.cell? ⟨B1, 0, none⟩ = some (.pointer (some ⟨p.b, 0, none⟩)) ∧ w2.cell? ⟨B1, 1, none⟩ = some (.pointer uo) ∧ w2.cell? ⟨B1, 2, none⟩ = some (.pointer (some ⟨p.c, 0, none⟩)) ∧ w2.cell? ⟨B2, 0, none⟩ = some (.int .i64 5) ∧ w2.cell? ⟨B2, 1, none⟩ = some (.int .i64 on) ∧ w2.cell? ⟨B2, 2, none⟩ = some (.int .i64 at_) ∧ w2.cell? ⟨B2, 3, none⟩ = some (.slice bo Bs.length bc) ∧ w2.cell? ⟨B2, 4, none⟩ = some (.bool raw) ∧ w2.cell? ⟨B2, 5, none⟩ = some (.slice fo F.length fc) := ⟨g2.cell z0 (by simp), g2.cell z1 (by simp), g2.cell z2 (by simp), g2.cell z3 (by simp), g2.cell z4 (by simp), g2.cell z5 (by simp), g2.cell z6 (by simp), g2.cell z7 (by simp), g2.cell z8 (by simp)⟩
  have HW2 := hide (HW.out.new g2)
  have A2 := hide (And.intro (own_fates o1) (And.intro hgB (HFI.out.at_.grown g2)))
  have hgl : Hid (g < w2.heap.size) := by obtain ⟨_, cc, hh⟩ := own_block o1 g rfl; exact row_lt hh
  have hw1 := A1.out.1.size
  have hFb : F.length ≤ 140737488355328 := by have := HFI.out.size; omega
  have F1 : Hid (∀ i, p.own i → i < w.heap.size) := fun i e => F0.out i (Px.own_all e)
  clear o1 g2 hgB z0 z1 z2 z3 z4 z5 z6 z7 z8
  obtain ⟨y0, y1, y2, y3, y4, y5, y6, y7, y8⟩ := hS3
  go_wp2_with fail
  go_region_held3 (fun w' => w'.cell? ⟨B1, 0, none⟩ = some (.pointer (some ⟨p.b, 0, none⟩)) ∧ w'.cell? ⟨B1, 1, none⟩ = some (.pointer uo) ∧ w'.cell? ⟨B1, 2, none⟩ = some (.pointer (some ⟨p.c, 0, none⟩)) ∧ w'.cell? ⟨B2, 0, none⟩ = some (.int .i64 5) ∧ w'.cell? ⟨B2, 1, none⟩ = some (.int .i64 on) ∧ w'.cell? ⟨B2, 2, none⟩ = some (.int .i64 at_) ∧ w'.cell? ⟨B2, 3, none⟩ = some (.slice bo Bs.length bc) ∧ w'.cell? ⟨B2, 4, none⟩ = some (.bool raw) ∧ w'.cell? ⟨B2, 5, none⟩ = some (.slice fo F.length fc)) (first | exact ⟨y0, y1, y2, y3, y4, y5, y6, y7, y8⟩ | assumption | go_keep) (first
    | (go_at_call 42; refine (restart_any (HW2.out.z.dev.then (grown_drew _ _)) (some ⟨g, 0, none⟩) F.length cap' F rfl (A2.out.1.front.grown (grown_drew _ _)) (fun a e _ => by cases e; have h1 := F1.out p.k.db (.inl (.inr (.inl rfl))); have h2 := F1.out p.b (.inr (.inr (.inl rfl))); have h3 := A2.out.2.1; constructor <;> (show g ≠ _) <;> omega)).mono ?_; rintro e w3 ⟨rfl, D3, d3, m3, a3⟩; have m3' := DvM.pre (grown_drew w2 none) m3; have hS4 : w3.cell? ⟨B1, 0, none⟩ = some (.pointer (some ⟨p.b, 0, none⟩)) ∧ w3.cell? ⟨B1, 1, none⟩ = some (.pointer uo) ∧ w3.cell? ⟨B1, 2, none⟩ = some (.pointer (some ⟨p.c, 0, none⟩)) ∧ w3.cell? ⟨B2, 0, none⟩ = some (.int .i64 5) ∧ w3.cell? ⟨B2, 1, none⟩ = some (.int .i64 on) ∧ w3.cell? ⟨B2, 2, none⟩ = some (.int .i64 at_) ∧ w3.cell? ⟨B2, 3, none⟩ = some (.slice bo Bs.length bc) ∧ w3.cell? ⟨B2, 4, none⟩ = some (.bool raw) ∧ w3.cell? ⟨B2, 5, none⟩ = some (.slice fo F.length fc) := ⟨dcell F0.out m3' y0 (by have := HB.out; omega), dcell F0.out m3' y1 (by have := HB.out; omega), dcell F0.out m3' y2 (by have := HB.out; omega), dcell F0.out m3' y3 (by have := HB.out; omega), dcell F0.out m3' y4 (by have := HB.out; omega), dcell F0.out m3' y5 (by have := HB.out; omega), dcell F0.out m3' y6 (by have := HB.out; omega), dcell F0.out m3' y7 (by have := HB.out; omega), dcell F0.out m3' y8 (by have := HB.out; omega)⟩; have H3 := hide (HW2.out.dev d3 m3'); have E3 := hide a3; have A3 := hide (And.intro (A2.out.1.offT m3'.kept (fun a e _ hT => by cases e; have h1 : p.own g := (by rcases hT with e | e; exact .inl e; exact .inr (.inr (.inl e))); have := F1.out g h1; have := A2.out.2.1; omega)) (A2.out.2.2.offT m3'.kept (fun a e hl2 hT => by have h1 : p.own a.block := (by rcases hT with e | e; exact .inl e; exact .inr (.inr (.inl e))); have := HLO.out _ h1; have := HFL.out a e hl2; omega))); clear d3 m3 m3' a3)
    | (go_at_call 43; refine (rdrestart_any H3.out.z.rd (by have := HL.out.v; show p.q.V.length ≤ _; omega) fo F.length fc F rfl hFb A3.out.2 (fun a e hl2 hT => by have h1 : p.own a.block := .inr (.inl hT); have := HLO.out _ h1; have := HFL.out a e hl2; omega)).mono ?_; rintro e w4 ⟨rfl, q4, d4, m4, a4⟩; obtain ⟨u0, u1, u2, u3, u4, u5, u6, u7, u8⟩ := hS4; have hS5 : w4.cell? ⟨B1, 0, none⟩ = some (.pointer (some ⟨p.b, 0, none⟩)) ∧ w4.cell? ⟨B1, 1, none⟩ = some (.pointer uo) ∧ w4.cell? ⟨B1, 2, none⟩ = some (.pointer (some ⟨p.c, 0, none⟩)) ∧ w4.cell? ⟨B2, 0, none⟩ = some (.int .i64 5) ∧ w4.cell? ⟨B2, 1, none⟩ = some (.int .i64 on) ∧ w4.cell? ⟨B2, 2, none⟩ = some (.int .i64 at_) ∧ w4.cell? ⟨B2, 3, none⟩ = some (.slice bo Bs.length bc) ∧ w4.cell? ⟨B2, 4, none⟩ = some (.bool raw) ∧ w4.cell? ⟨B2, 5, none⟩ = some (.slice fo F.length fc) := ⟨rcell F0.out m4 u0 (by have := HB.out; omega), rcell F0.out m4 u1 (by have := HB.out; omega), rcell F0.out m4 u2 (by have := HB.out; omega), rcell F0.out m4 u3 (by have := HB.out; omega), rcell F0.out m4 u4 (by have := HB.out; omega), rcell F0.out m4 u5 (by have := HB.out; omega), rcell F0.out m4 u6 (by have := HB.out; omega), rcell F0.out m4 u7 (by have := HB.out; omega), rcell F0.out m4 u8 (by have := HB.out; omega)⟩; have H4 := hide (H3.out.ref d4 m4); have E4 := hide a4; have A4 := hide (And.intro (A3.out.1.offT m4.kept (fun a e _ hT => by cases e; have h1 : p.own g := (by rcases hT with e | e; exact .inr (.inl e); exact .inr (.inr (.inr e))); have := F1.out g h1; have := A2.out.2.1; omega)) (A3.out.2.offT m4.kept (fun a e hl2 hT => by have h1 : p.own a.block := (by rcases hT with e | e; exact .inr (.inl e); exact .inr (.inr (.inr e))); have := HLO.out _ h1; have := HFL.out a e hl2; omega))); clear d4 m4 a4)
    | (go_at_call 44; refine (keptF_any g cap' fo F.length fc F w4 rfl l1 l2 A4.out.1 A4.out.2 hFb).mono ?_; rintro e w5 ⟨rfl, g5⟩; obtain ⟨t0, t1, t2, t3, t4, t5, t6, t7, t8⟩ := hS5; have hS6 : w5.cell? ⟨B1, 0, none⟩ = some (.pointer (some ⟨p.b, 0, none⟩)) ∧ w5.cell? ⟨B1, 1, none⟩ = some (.pointer uo) ∧ w5.cell? ⟨B1, 2, none⟩ = some (.pointer (some ⟨p.c, 0, none⟩)) ∧ w5.cell? ⟨B2, 0, none⟩ = some (.int .i64 5) ∧ w5.cell? ⟨B2, 1, none⟩ = some (.int .i64 on) ∧ w5.cell? ⟨B2, 2, none⟩ = some (.int .i64 at_) ∧ w5.cell? ⟨B2, 3, none⟩ = some (.slice bo Bs.length bc) ∧ w5.cell? ⟨B2, 4, none⟩ = some (.bool raw) ∧ w5.cell? ⟨B2, 5, none⟩ = some (.slice fo F.length fc) := ⟨g5.cell t0 (by simp), g5.cell t1 (by simp), g5.cell t2 (by simp), g5.cell t3 (by simp), g5.cell t4 (by simp), g5.cell t5 (by simp), g5.cell t6 (by simp), g5.cell t7 (by simp), g5.cell t8 (by simp)⟩; have H5 := hide (H4.out.new g5); clear g5))
  go_wp2
  go_ret
  refine ⟨_, rfl, _, H5.out, ⟨by show 0 ≤ _; omega, ?_, by show 0 ≤ _; omega, by show 0 ≤ _; omega⟩, fun hsame => ⟨rfl, same_crash hsame HA.out.1.dev.disk.disk E3.out E4.out⟩⟩
  have := rst_len E4.out
  show q4.V.length ≤ _
  rw [this]
  simp [rcrashA]
end
end Go.Proofs.YtaopcidkgcekdaaGreat
