/- Texts joined: Is, Pl0. -/
import Derived.Test.YtaopcidkgcekdaaGreatJpAc
import Derived.Test.YtaopcidkgcekdaaGreatJpAd
import Derived.Test.YtaopcidkgcekdaaGreatJsAv
/- What a device and the document's tell is the same: the contract of is. -/
namespace Go.Proofs.YtaopcidkgcekdaaGreat
open Go.RowKit Ap
attribute [local go_sem ↓] Go.wp_at_zero Go.wp_at_succ

set_option maxRecDepth 20000 in
set_option maxHeartbeats 16000000 in
theorem is_any {w0 w : World} {n size : Nat} {p : Px} (h : PxAt w0 w n size p) (hsame : PxSame n size p) (hn : n ≤ 8) (uo : Option Addr) :
    Calls Tryz.prog 10 #[.agg #[.pointer (some ⟨p.b, 0, none⟩), .pointer uo, .pointer (some ⟨p.c, 0, none⟩)]] w fun e w' => e = .returned (.bool true) ∧ PxW w0 w w' n size p p := by
  have g1 := World.grownBy_alloc w (.cells #[.pointer (some ⟨p.b, 0, none⟩), .pointer uo, .pointer (some ⟨p.c, 0, none⟩)] 27) none
  have r1 : (w.alloc (.cells #[.pointer (some ⟨p.b, 0, none⟩), .pointer uo, .pointer (some ⟨p.c, 0, none⟩)] 27)).heap[w.heap.size]? = some (.cells [.pointer (some ⟨p.b, 0, none⟩), .pointer uo, .pointer (some ⟨p.c, 0, none⟩)].toArray 27 (0, 0)) := heap_alloc_new w _
  have y0 : (w.alloc (.cells #[.pointer (some ⟨p.b, 0, none⟩), .pointer uo, .pointer (some ⟨p.c, 0, none⟩)] 27)).cell? ⟨w.heap.size, 0, none⟩ = some (.pointer (some ⟨p.b, 0, none⟩)) := cell_row r1 0
  have y2 : (w.alloc (.cells #[.pointer (some ⟨p.b, 0, none⟩), .pointer uo, .pointer (some ⟨p.c, 0, none⟩)] 27)).cell? ⟨w.heap.size, 2, none⟩ = some (.pointer (some ⟨p.c, 0, none⟩)) := cell_row r1 2
  have s1 := h.dev.disk.disk.shape.s1
  have n1 : 1 ≤ n := h.dev.disk.disk.shape.n0
  have G := hide g1
  have HA := hide (And.intro h (And.intro hsame (h.then g1)))
  have F0 : Hid (∀ i, p.all i → i < w.heap.size) := h.lt
  have HBl : Hid (w.heap.size < (w.alloc (.cells #[.pointer (some ⟨p.b, 0, none⟩), .pointer uo, .pointer (some ⟨p.c, 0, none⟩)] 27)).heap.size) := row_lt r1
  clear h hsame g1 r1
  go_enter Tryz.func10, Tryz.ntmps10
  go_wp2_with fail
  generalize w.alloc (.cells #[.pointer (some ⟨p.b, 0, none⟩), .pointer uo, .pointer (some ⟨p.c, 0, none⟩)] 27) = wa at *
  obtain ⟨B1, hB1⟩ : ∃ B1, B1 = w.heap.size := ⟨_, rfl⟩
  have HB := hide hB1
  rw [← hB1] at y0 y2 ⊢
  clear hB1
  go_region_held3 (fun w' => w'.cell? ⟨B1, 0, none⟩ = some (.pointer (some ⟨p.b, 0, none⟩)) ∧ w'.cell? ⟨B1, 2, none⟩ = some (.pointer (some ⟨p.c, 0, none⟩))) (first | exact ⟨y0, y2⟩ | assumption | go_keep) (first
    | (go_at_call 12; refine (dimage_any (HA.out.2.2.dev.then (grown_drew _ _))).mono ?_; rintro e w1 ⟨rfl, hs, i1, g1⟩; have g1' := grown_trans (grown_drew wa none) g1; have hS1 : w1.cell? ⟨B1, 0, none⟩ = some (.pointer (some ⟨p.b, 0, none⟩)) ∧ w1.cell? ⟨B1, 2, none⟩ = some (.pointer (some ⟨p.c, 0, none⟩)) := ⟨g1'.cell y0 (by simp), g1'.cell y2 (by simp)⟩; have I1 := hide (And.intro i1 g1'); clear i1 g1 g1')
    | (go_at_call 50; refine (rdimage_any (HA.out.2.2.rd.then I1.out.2)).mono ?_; rintro e w2 ⟨ao, cap, rfl, S', i2, e2, g2⟩; have hS2 : w2.cell? ⟨B1, 0, none⟩ = some (.pointer (some ⟨p.b, 0, none⟩)) ∧ w2.cell? ⟨B1, 2, none⟩ = some (.pointer (some ⟨p.c, 0, none⟩)) := ⟨g2.cell hS1.1 (by simp), g2.cell hS1.2 (by simp)⟩; have I2 := hide (And.intro i2 (And.intro e2 g2)); clear i2 e2 g2))
  have P2 := hide (HA.out.2.2.then (grown_trans I1.out.2 I2.out.2.2))
  have i1w := hide (I1.out.1.grown I2.out.2.2)
  have hl' : S'.length = n := by have := congrArg List.length I2.out.2.1; simp only [List.length_map] at this; rw [this]; show (rst p.q).1.length = n; rw [← HA.out.2.1.rows, secs_length]
  have hsz : ∀ b ∈ S', b.xs.length = size := fun b hb => by
    have hm : b.xs ∈ S'.map Bx.xs := List.mem_map_of_mem hb
    rw [I2.out.2.1] at hm
    obtain ⟨b', hb', e⟩ := List.mem_map.1 hm
    rw [← e, HA.out.1.rd.ref.sz b' hb']
  have hRA : ∀ w3, RowAt w3 w1.heap.size (.slice ao n cap) S' → RowsAt w3 ao (secs n size p.D) := fun w3 h3 => by
    obtain ⟨ao2, cap2, e2, hat⟩ := h3.rowsAt hl' (fun b hb => by rw [hsz b hb]; omega)
    cases e2
    rw [I2.out.2.1, ← HA.out.2.1.rows] at hat
    exact hat
  have HRA := hide hRA
  have hlen : Hid (p.q.V.length = p.W.length) := HA.out.2.1.len
  have hst : Hid (p.t = p.s) := HA.out.2.1.st.symm
  have z1 := I1.out.2.size
  have z2 := I2.out.2.2.size
  have zw := G.out.size
  obtain ⟨gA, hgA⟩ : ∃ gA, gA = wa.heap.size := ⟨_, rfl⟩
  have HgA := hide hgA
  rw [← hgA]
  have i1w2 : Hid (ImgAt w2 gA gA size (secs n size p.D) hs) := by rw [hgA]; exact i1w.out
  clear hgA hl' hsz hRA y0 y2
  obtain ⟨u0, u2⟩ := hS2
  clear hS1 i1w
  go_wp2_with fail
  go_region_held3 (fun w' => w'.cell? ⟨B1, 0, none⟩ = some (.pointer (some ⟨p.b, 0, none⟩)) ∧ w'.cell? ⟨B1, 2, none⟩ = some (.pointer (some ⟨p.c, 0, none⟩))) (first | exact ⟨u0, u2⟩ | assumption | go_keep) (first
    | (go_at_call 51; refine (dsectors_any (P2.out.dev.then (grown_drew _ _))).mono ?_; rintro e w3 ⟨rfl, q3, rfl⟩; have g3 := grown_trans (grown_drew w2 none) (grown_drewN w2.drew q3 none); have hS3 : (w2.drew.drewN q3).cell? ⟨B1, 0, none⟩ = some (.pointer (some ⟨p.b, 0, none⟩)) ∧ (w2.drew.drewN q3).cell? ⟨B1, 2, none⟩ = some (.pointer (some ⟨p.c, 0, none⟩)) := ⟨g3.cell u0 (by simp), g3.cell u2 (by simp)⟩; have P3 := hide (And.intro (P2.out.then g3) g3); generalize w2.drew.drewN q3 = w3 at *; clear g3)
    | (go_at_call 52; refine (rdsectors_any P3.out.1.rd).mono ?_; rintro e w4 ⟨rfl, rfl⟩)
    | (go_at_call 53; refine (dsize_any P3.out.1.dev).mono ?_; rintro e w4 ⟨rfl, rfl⟩)
    | (go_at_call 29; refine (rdsize_any P3.out.1.rd).mono ?_; rintro e w4 ⟨rfl, rfl⟩)
    | (go_at_call 13; refine (dwaiting_any P3.out.1.dev).mono ?_; rintro e w4 ⟨rfl, rfl⟩)
    | (go_at_call 54; have hw4 := rdwaiting_any P3.out.1.rd; rw [hlen.out] at hw4; refine hw4.mono ?_; clear hw4; rintro e w4 ⟨rfl, rfl⟩)
    | (go_at_call 15; refine (down_any P3.out.1.dev.dev).mono ?_; rintro e w4 ⟨rfl, rfl⟩)
    | (go_at_call 55; have hw4 := rdown_any P3.out.1.rd.dev; rw [hst.out] at hw4; refine hw4.mono ?_; clear hw4; rintro e w4 ⟨rfl, rfl⟩)
    | (go_at_call 14; refine (count_any P3.out.1.dev.dev).mono ?_; rintro e w4 ⟨rfl, rfl⟩)
    | (go_at_call 56; have hw4 := rcount_any P3.out.1.rd.dev; rw [hst.out] at hw4; refine hw4.mono ?_; clear hw4; rintro e w4 ⟨rfl, rfl⟩)
    | (go_at_call 16; refine (sameRows_eq (some ⟨gA, 0, none⟩) ao n n cap (secs n size p.D) _ (secs_length _ _ _) ((i1w2.out.grown P3.out.2).rowsAt s1) (HRA.out _ (I2.out.1.grown P3.out.2)) (by omega)).mono ?_; rintro e w5 ⟨rfl, q5, rfl⟩; have hS5 := And.intro ((grown_drewN _ q5 none).cell hS3.1 (by simp)) ((grown_drewN _ q5 none).cell hS3.2 (by simp)); have P5 := hide (grown_trans P3.out.2 (grown_drewN _ q5 none))))
  generalize w4.drewN q5 = w5 at *
  have W5 := hide ((((PxW.refl HA.out.1).new G.out).new (grown_trans I1.out.2 I2.out.2.2)).new P5.out)
  have v0 := hS5.1
  have iA5 := hide (i1w2.out.grown P5.out)
  have RB5 := hide (I2.out.1.grown P5.out)
  have z5 := P5.out.size
  have lB : Hid (B1 < gA) := by have := HB.out; have := HgA.out; have := cell_lt u0; have h9 := G.out; show B1 < gA; rw [HgA.out, HB.out]; exact HBl.out
  have lhs : Hid (∀ a, a = gA ∨ a ∈ hs → gA ≤ a ∧ a < w1.heap.size) := by
    intro a ha
    have h1 := I1.out.1.le a (by rcases ha with h | h; exact .inl (h.trans HgA.out); exact .inr h)
    refine ⟨?_, h1⟩
    rcases ha with h | h
    · omega
    · have := I1.out.1.low a h
      have e : wa.drew.heap.size = wa.heap.size := rfl
      have := HgA.out
      omega
  have RBl : Hid (∀ i, (Value.slice ao n cap).ownBlock = some i ∨ (∃ b ∈ S', b.g = i) → w1.heap.size ≤ i ∧ i < w2.heap.size) := by
    rintro i (e | ⟨b, hb, rfl⟩)
    · obtain ⟨h1, cur, h2⟩ := own_block I2.out.1.row i e
      exact ⟨h1, row_lt h2⟩
    · exact ⟨(I2.out.1.at_ b hb).blk.1, (I2.out.1.at_ b hb).lt⟩
  rename_i hHeld
  clear hHeld hS5 hS3 u0 u2 P3 P5 i1w2
  go_wp2_with fail
  refine (dimage_any W5.out.z.dev).mono ?_
  rintro e w6 ⟨rfl, hsB, i6, g6⟩
  obtain ⟨gB, hgB⟩ : ∃ gB, gB = w5.heap.size := ⟨_, rfl⟩
  rw [← hgB] at i6 ⊢
  have I6 := hide (And.intro i6 g6)
  have HgB := hide hgB
  have v1 := g6.cell v0 (by simp)
  clear i6 g6 hgB v0
  have g7 := World.grownBy_alloc w6 (.cells #[.slice (some ⟨gA, 0, none⟩) n n, .slice (some ⟨gB, 0, none⟩) n n] 41) none
  have r7 : Hid ((w6.alloc (.cells #[.slice (some ⟨gA, 0, none⟩) n n, .slice (some ⟨gB, 0, none⟩) n n] 41)).heap[w6.heap.size]? = some (.cells [.slice (some ⟨gA, 0, none⟩) n n, .slice (some ⟨gB, 0, none⟩) n n].toArray 41 (0, 0))) := heap_alloc_new w6 _
  have G7 := hide g7
  have v2 := g7.cell v1 (by simp)
  clear g7 v1
  go_wp2_with fail
  generalize w6.alloc (.cells #[.slice (some ⟨gA, 0, none⟩) n n, .slice (some ⟨gB, 0, none⟩) n n] 41) = w7 at *
  generalize w6.heap.size = LS at *
  have W7 := hide ((W5.out.new I6.out.2).new G7.out)
  have g57 := hide (grown_trans I6.out.2 G7.out)
  refine (apartRows_two LS gA gB n size gA gB hs hsB (secs n size p.D) (secs n size p.D) w7 r7.out (iA5.out.grown g57.out) (I6.out.1.grown G7.out) (secs_length _ _ _) (secs_length _ _ _) (fun a ha => by have := (lhs.out a (.inr ha)).2; have := HgB.out; omega) (by have := (lhs.out gA (.inl rfl)).2; have := HgB.out; omega) n1 hn s1).mono ?_
  rintro e w8 ⟨rfl, k8⟩
  have hT : Hid (∀ i, i = gA ∨ i = gB ∨ i ∈ hs ∨ i ∈ hsB → gA ≤ i ∧ (i < w1.heap.size ∨ w2.heap.size ≤ i)) := by
    rintro i (e | e | e | e)
    · have := lhs.out i (.inl e); omega
    · have := HgB.out; have := HgA.out; omega
    · have := lhs.out i (.inr e); omega
    · have := I6.out.1.low i e; have := HgB.out; have := HgA.out; omega
  have W8 := hide (W7.out.later k8 (fun i hi => ⟨by have := (hT.out i hi).1; have := HgA.out; omega, fun e => by have := (hT.out i hi).1; have := F0.out i e; have := HgA.out; omega⟩))
  have v3 := cell_kept k8 v2 (fun e => by have h1 := (hT.out _ e).1; have h2 := lB.out; have h3 : (Addr.mk B1 0 none).block = B1 := rfl; omega)
  have RB8 := hide ((RB5.out.grown g57.out).off k8 (fun g e hx => by have h1 := RBl.out g (.inl e); have h2 := (hT.out g hx).2; omega) (fun b hb hx => by have h1 := RBl.out b.g (.inr ⟨b, hb, rfl⟩); have h2 := (hT.out b.g hx).2; omega))
  clear k8 v2
  go_wp2_with fail
  refine (dimage_any W8.out.z.dev).mono ?_
  rintro e w9 ⟨rfl, hsC, i9, g9⟩
  have I9 := hide (And.intro i9 g9)
  have W9 := hide (W8.out.new g9)
  clear i9 g9 v3
  go_wp2_with fail
  refine (sameRows_eq (some ⟨w8.heap.size, 0, none⟩) ao n n cap (secs n size p.D) w9 (secs_length _ _ _) (I9.out.1.rowsAt s1) (HRA.out _ (RB8.out.grown I9.out.2)) (by omega)).mono ?_
  rintro e w10 ⟨rfl, q10, rfl⟩
  have W10 := hide (W9.out.new (grown_drewN _ q10 none))
  go_wp2
  go_ret
  exact ⟨rfl, W10.out⟩
end Go.Proofs.YtaopcidkgcekdaaGreat
/- Two devices and the document's two, in an array. -/
namespace Go.Proofs.YtaopcidkgcekdaaGreat
open Go.RowKit Ap

theorem bit_two (x : Int) : bits .and .i64 x 1 = 0 ∨ bits .and .i64 x 1 = 1 := by
  show IntKind.i64.wrap ((BitVec.ofInt 64 x &&& BitVec.ofInt 64 1).toNat : Int) = 0 ∨ IntKind.i64.wrap ((BitVec.ofInt 64 x &&& BitVec.ofInt 64 1).toNat : Int) = 1
  have h1 : (BitVec.ofInt 64 1).toNat = 1 := by decide
  rw [BitVec.toNat_and, h1, Nat.and_one_is_mod]
  rcases Nat.mod_two_eq_zero_or_one (BitVec.ofInt 64 x).toNat with h | h
  · left; rw [h]; decide
  · right; rw [h]; decide
def tcells (a : Px) (u : Option Addr) (b : Px) (v : Option Addr) : List Value := [.pointer (some ⟨a.b, 0, none⟩), .pointer u, .pointer (some ⟨a.c, 0, none⟩), .pointer (some ⟨b.b, 0, none⟩), .pointer v, .pointer (some ⟨b.c, 0, none⟩)]
/-- What is known of one of the two. -/
structure Hal (w0 w : World) (n size M : Nat) (a : Px) (u : Option Addr) : Prop where
  at_ : PxAt w0 w n size a
  same : PxSame n size a
  len : Lens a M
  few : n ≤ 8
  un : u = none ∨ u = some ⟨a.k.d, 0, none⟩
structure Par (a b : Px) : Prop where
  l : ∀ i, a.own i → ¬ b.all i
  r : ∀ i, b.own i → ¬ a.all i
structure Ar (w0 w : World) (TB size M n n' : Nat) (a : Px) (u : Option Addr) (b : Px) (v : Option Addr) : Prop where
  ha : Hal w0 w n size M a u
  hb : Hal w0 w n' size M b v
  sep : Par a b
  row : w.heap[TB]? = some (.cells (tcells a u b v).toArray 30 (0, 0))
section
variable {w0 w w' w1 w2 : World} {TB size M M' n n' : Nat} {a a' b : Px} {u v : Option Addr}
theorem Par.symm (h : Par a b) : Par b a := ⟨h.r, h.l⟩
theorem Hal.mono (h : Hal w0 w n size M a u) (hM : M ≤ M') : Hal w0 w n size M' a u := ⟨h.at_, h.same, h.len.mono hM, h.few, h.un⟩
theorem Hal.then (h : Hal w0 w n size M a u) (hg : w.grownBy w' none) : Hal w0 w' n size M a u := ⟨h.at_.then hg, h.same, h.len, h.few, h.un⟩
theorem Ar.then (h : Ar w0 w TB size M n n' a u b v) (hg : w.grownBy w' none) : Ar w0 w' TB size M n n' a u b v := ⟨h.ha.then hg, h.hb.then hg, h.sep, (hg.block TB (row_lt h.row) (by simp)).trans h.row⟩
theorem Par.moved (h : Par a b) (hb : PxAt w0 w n' size b) (m : PxM w w' a a') : Par a' b := by
  refine ⟨fun i hi hf => ?_, fun i hi hf => ?_⟩
  · rcases m.own i hi with e | e
    · exact h.l i e hf
    · have := hb.lt i hf; omega
  · rcases m.all i hf with e | e
    · exact h.r i hi e
    · have := hb.lt i (Px.own_all hi); omega
theorem Hal.other (h : Hal w0 w n' size M b v) (hs : Par a b) (ha : PxAt w0 w n size a) (m : PxM w w' a a') : Hal w0 w' n' size M b v :=
  ⟨h.at_.other m.kept (fun i hi e => hs.l i e hi) (fun i e => ha.low i e), h.same, h.len, h.few, h.un⟩
theorem tcells_same (h1 : a'.b = a.b) (h2 : a'.c = a.c) : tcells a' u b v = tcells a u b v := by simp [tcells, h1, h2]
theorem tcells_same2 (h1 : a'.b = a.b) (h2 : a'.c = a.c) : tcells b u a' v = tcells b u a v := by simp [tcells, h1, h2]
/-- The first one goes on. -/
theorem Ar.fst (h : Ar w0 w TB size M n n' a u b v) (m : PxW w0 w w' n size a a') (hsame : PxSame n size a') (hl : Lens a' (M + 1)) : Ar w0 w' TB size (M + 1) n n' a' u b v := by
  refine ⟨⟨m.z, hsame, hl, h.ha.few, by rw [m.mv.kd]; exact h.ha.un⟩, (h.hb.other h.sep h.ha.at_ m.mv).mono (by omega), h.sep.moved h.hb.at_ m.mv, ?_⟩
  rw [tcells_same m.mv.eb m.mv.ec]
  exact m.mv.kept.at h.row (fun e => h.ha.at_.off h.row (.inr (.inl rfl)) (Px.own_all e))
theorem Ar.snd {b' : Px} (h : Ar w0 w TB size M n n' a u b v) (m : PxW w0 w w' n' size b b') (hsame : PxSame n' size b') (hl : Lens b' (M + 1)) : Ar w0 w' TB size (M + 1) n n' a u b' v := by
  refine ⟨(h.ha.other h.sep.symm h.hb.at_ m.mv).mono (by omega), ⟨m.z, hsame, hl, h.hb.few, by rw [m.mv.kd]; exact h.hb.un⟩, (h.sep.symm.moved h.ha.at_ m.mv).symm, ?_⟩
  rw [tcells_same2 m.mv.eb m.mv.ec]
  exact m.mv.kept.at h.row (fun e => h.hb.at_.off h.row (.inr (.inl rfl)) (Px.own_all e))
theorem Ar.mono (h : Ar w0 w TB size M n n' a u b v) (hM : M ≤ M') : Ar w0 w TB size M' n n' a u b v := ⟨h.ha.mono hM, h.hb.mono hM, h.sep, h.row⟩
/-- The array is written. -/
theorem Hal.set {c : Array Value} (h : Hal w0 w n size M a u) (hg : w.grownBy w' (some TB)) (hT : w.heap[TB]? = some (.cells c 30 (0, 0))) (hl : w0.heap.size ≤ TB) : Hal w0 w' n size M a u :=
  ⟨h.at_.other (Kept.of hg (S := fun i => i = TB) (fun _ e _ => (Option.some.inj e).symm)) (fun i hi e => by have e : i = TB := e; exact h.at_.off hT (.inr (.inl rfl)) (e ▸ hi)) (fun i e => by have e : i = TB := e; omega), h.same, h.len, h.few, h.un⟩
theorem cell_off (w : World) (b i j : Nat) (x : Value) (h : j ≠ i) : (w.setCell ⟨b, i, none⟩ x).cell? ⟨b, j, none⟩ = w.cell? ⟨b, j, none⟩ := by
  cases hb : w.heap[b]? with
  | none =>
    have hs : (w.setCell ⟨b, i, none⟩ x).heap[b]? = none := by
      have hsz : (w.setCell ⟨b, i, none⟩ x).heap.size = w.heap.size := by simp
      rw [Array.getElem?_eq_none_iff] at hb ⊢
      omega
    simp only [World.cell?, hb, hs]
  | some ob =>
    cases ob with
    | cells c t fr =>
      have hr := row_setCell (l := c.toList) (by simpa using hb) i x
      have hw : w.heap[b]? = some (.cells c.toList.toArray t fr) := by simpa using hb
      rw [cell_row hr, cell_row hw, List.getElem?_set_ne (fun e => h e.symm)]
    | _ => simp [World.setCell, World.cell?, Array.getElem?_modify, hb]
/-- A copy, both ways. -/
theorem Hal.copied {bx cx : Nat} {kx : Dk} {qx : Rk} (h : Hal w0 w n size M a u) (g1 : w.grownBy w1 none) (d1 : Dev w0 w1 n size bx a.s kx a.D a.W) (l1 : w.heap.size ≤ bx) (o1 : ∀ i, kx.own i → w.heap.size ≤ i)
    (g2 : w1.grownBy w2 none) (d2 : RDev w2 w1.heap.size n size cx a.t qx) (e2 : rst qx = rst a.q) (hw0 : w0.heap.size ≤ w.heap.size) :
    Hal w0 w2 n size M ⟨bx, a.s, kx, a.D, a.W, cx, a.t, qx⟩ none ∧ Par a ⟨bx, a.s, kx, a.D, a.W, cx, a.t, qx⟩ := by
  have z1 := g1.size
  have hq : ∀ i, rfoot qx i → w1.heap.size ≤ i := fun i e => (d2.ref.lt i e).1
  have hlt := h.at_.lt
  have hlx : qx.V.length = a.q.V.length := by have := congrArg (fun x => x.2.length) e2; simpa [rst, absV] using this
  have hown : ∀ i, Px.own ⟨bx, a.s, kx, a.D, a.W, cx, a.t, qx⟩ i → w.heap.size ≤ i := by
    rintro i (e | e | e | e)
    · exact o1 i e
    · have := hq i e; omega
    · have e : i = bx := e
      omega
    · have e : i = cx := e
      have := d2.low; omega
  refine ⟨⟨⟨d1.then g2, ⟨d2.ref.mono (by omega), d2.dev, by have := d2.low; show w0.heap.size ≤ cx; omega⟩, ?_⟩, ⟨h.same.st, h.same.rows.trans (congrArg Prod.fst e2).symm, h.same.waits.trans (congrArg Prod.snd e2).symm⟩, ⟨h.len.1, by show qx.V.length ≤ M; rw [hlx]; exact h.len.2.1, h.len.2.2⟩, h.few, .inl rfl⟩, ⟨?_, ?_⟩⟩
  · rintro i (e | ⟨x, hx, e⟩) hr
    · have := d1.disk.disk.lt i (.inl e); have := hq i hr; omega
    · have := hlt i (.inl (.inr ⟨x, hx, e⟩)); have := hq i hr; omega
  · rintro i hi hf
    have hil := hlt i (Px.own_all hi)
    rcases hf with (e | ⟨x, hx, e⟩) | e | e | e
    · have := o1 i e; omega
    · have e : x.blk = i := e
      subst e
      rcases hi with r | r | r | r
      · exact h.at_.dev.disk.disk.blk_ne hx r
      · exact h.at_.ap _ (.inr ⟨x, hx, rfl⟩) r
      · exact h.at_.dev.off (r ▸ .inr ⟨x, hx, rfl⟩)
      · exact h.at_.cf (r ▸ .inr ⟨x, hx, rfl⟩)
    · have := hq i e; omega
    · have e : i = bx := e
      omega
    · have e : i = cx := e
      have := d2.low; omega
  · intro i hi hf
    have := hown i hi; have := hlt i hf; omega
end
end Go.Proofs.YtaopcidkgcekdaaGreat
