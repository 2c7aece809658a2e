/- Texts joined: Play. -/
import Derived.Test.YtaopcidkgcekdaaGreatJpAe
/- The contract of PowerPlays. -/
namespace Go.Proofs.YtaopcidkgcekdaaGreat
open Go.RowKit Ap
attribute [local go_sem ↓] Go.wp_at_zero Go.wp_at_succ

theorem stepped_to {w0 w w' : World} {n size : Nat} {p : Px} {e : Ending} {M : Nat} (h : Stepped w0 w w' n size p e) (hs : PxSame n size p) (hl : Lens p M) : e = .returned (.bool true) ∧ ∃ p', PxW w0 w w' n size p p' ∧ PxSame n size p' ∧ Lens p' (M + 1) := by
  obtain ⟨B, rfl, p', h1, h2, h3⟩ := h
  obtain ⟨rfl, h4⟩ := h3 hs
  exact ⟨rfl, p', h1, h4, ⟨by have := hl.1; omega, by have := hl.2.1; omega, by have := hl.2.2.1; omega, by have := hl.2.2.2; omega⟩⟩
/-- Any step, where the disk is at hand. -/
theorem step_all {w0 w : World} {n size : Nat} {p : Px} (h : PxAt w0 w n size p) (hl : PxLen p) (uo : Option Addr) (o : Stp) (bo : Option Addr) (bc : Nat) (fo : Option Addr) (fc : Nat) (hs : SIn w o bo bc fo fc) (hfl : ∀ a, fo = some a → 0 < o.F.length → a.block < w0.heap.size) (hsame : PxSame n size p) (hu : o.kd = 7 ∨ o.kd = 8 → uo = some ⟨p.k.d, 0, none⟩) :
    Calls Tryz.prog 9 #[.agg #[.pointer (some ⟨p.b, 0, none⟩), .pointer uo, .pointer (some ⟨p.c, 0, none⟩)], .agg (scells o bo bc fo fc).toArray] w fun e w' => Stepped w0 w w' n size p e := by
  by_cases h7 : o.kd = 7
  · rw [hu (.inl h7)]
    obtain ⟨kd, on, at_, B, raw, F⟩ := o
    simp only at h7
    subst h7
    exact step_under h hl on at_ B raw F bo bc fo fc hs
  · by_cases h8 : o.kd = 8
    · rw [hu (.inr h8)]
      obtain ⟨kd, on, at_, B, raw, F⟩ := o
      simp only at h8
      subst h8
      exact step_flush h hl on at_ B raw F bo bc fo fc hs
    · exact step_any h hl uo o bo bc fo fc hs hfl hsame h7 h8
theorem ar_new {w0 w1 w2 w3 : World} {n n' size : Nat} {a b : Px} (ha : PxAt w0 w1 n size a) (sa : PxSame n size a) (la : a.W = [] ∧ a.q.V = [] ∧ a.s = Dv.anew ∧ a.t = Dv.anew) (g12 : w1.grownBy w2 none) (hb : PxAt w0 w3 n' size b) (sb : PxSame n' size b) (lb : b.W = [] ∧ b.q.V = [] ∧ b.s = Dv.anew ∧ b.t = Dv.anew) (nb : ∀ i, b.all i → w2.heap.size ≤ i) (g23 : w2.grownBy w3 none) (h1 : n ≤ 8) (h2 : n' ≤ 8) :
    Hal w0 w3 n size 0 a (some ⟨a.k.d, 0, none⟩) ∧ Hal w0 w3 n' size 0 b (some ⟨b.k.d, 0, none⟩) ∧ Par a b := by
  have lens : ∀ p : Px, (p.W = [] ∧ p.q.V = [] ∧ p.s = Dv.anew ∧ p.t = Dv.anew) → Lens p 0 := fun p f3 => ⟨by rw [f3.1]; simp, by rw [f3.2.1]; simp, by rw [f3.2.2.1]; exact Nat.le_refl _, by rw [f3.2.2.2]; exact Nat.le_refl _⟩
  have z := g12.size
  refine ⟨⟨ha.then (grown_trans g12 g23), sa, lens a la, h1, .inr rfl⟩, ⟨hb, sb, lens b lb, h2, .inr rfl⟩, ⟨fun i e f => ?_, fun i e f => ?_⟩⟩
  · have := ha.lt i (Px.own_all e); have := nb i f; omega
  · have := ha.lt i f; have := nb i (Px.own_all e); omega
set_option maxRecDepth 20000 in
set_option maxHeartbeats 16000000 in
theorem plays_any (x z : Int) (ao : Option Addr) (m cap : Nat) (os : List Stp) (w : World) (hm : os.length = m) (hc : m ≤ cap) (ho : StsAt w ao os) :
    Calls Tryz.prog 3 #[.int .i64 x, .int .i64 z, .slice ao m cap] w fun e w' => e = .returned (.bool true) ∧ w.grownBy w' none := by
  have HI := hide (And.intro hm (And.intro hc ho))
  clear hm hc ho
  obtain ⟨SZ, hSZ⟩ : ∃ SZ, SZ = szOf z := ⟨_, rfl⟩
  have HFR : Hid (∀ (y : Int) (w0 w : World), w0.grownBy w none → Calls Tryz.prog 5 #[.int .i64 y, .int .i64 z] w fun e w' => ∃ NN, NN ≤ 8 ∧ Freshed w0 w w' NN SZ e) := fun y w0 w hg => by rw [hSZ]; exact (fresh_any w0 w y z hg).mono (fun e w' h => ⟨nOf y, (nOf_pos y).2, h⟩)
  clear hSZ
  go_enter Tryz.func3, Tryz.ntmps3
  go_wp2_with fail
  refine (HFR.out x w w (grown_refl _ _)).mono ?_
  rintro e w1 ⟨na, hna, a, rfl, f1, f2, f3, f4, f5⟩
  obtain ⟨ab, hab⟩ : ∃ b, b = a.b := ⟨_, rfl⟩
  obtain ⟨ad, had⟩ : ∃ b, b = a.k.d := ⟨_, rfl⟩
  obtain ⟨ac, hac⟩ : ∃ b, b = a.c := ⟨_, rfl⟩
  rw [← hab, ← had, ← hac]
  have A1 := hide (And.intro f1 (And.intro f2 (And.intro f3 f5)))
  have EA := hide (And.intro hab (And.intro had hac))
  clear f1 f2 f3 f4 f5 hab had hac
  have g2 := World.grownBy_alloc w1 (.cells #[.pointer (some ⟨ab, 0, none⟩), .pointer (some ⟨ad, 0, none⟩), .pointer (some ⟨ac, 0, none⟩)] 27) none
  have r2 : Hid ((w1.alloc (.cells #[.pointer (some ⟨ab, 0, none⟩), .pointer (some ⟨ad, 0, none⟩), .pointer (some ⟨ac, 0, none⟩)] 27)).heap[w1.heap.size]? = some (.cells [.pointer (some ⟨ab, 0, none⟩), .pointer (some ⟨ad, 0, none⟩), .pointer (some ⟨ac, 0, none⟩)].toArray 27 (0, 0))) := heap_alloc_new w1 _
  have G2 := hide g2
  clear g2
  go_wp2_with fail
  generalize w1.alloc (.cells #[.pointer (some ⟨ab, 0, none⟩), .pointer (some ⟨ad, 0, none⟩), .pointer (some ⟨ac, 0, none⟩)] 27) = w2 at *
  generalize w1.heap.size = X1 at *
  refine (HFR.out _ w w2 (grown_trans A1.out.2.2.2 G2.out)).mono ?_
  rintro e w3 ⟨nb, hnb, b, rfl, f1, f2, f3, f4, f5⟩
  obtain ⟨bb_, hbb⟩ : ∃ x, x = b.b := ⟨_, rfl⟩
  obtain ⟨bd, hbd⟩ : ∃ x, x = b.k.d := ⟨_, rfl⟩
  obtain ⟨bc_, hbc⟩ : ∃ x, x = b.c := ⟨_, rfl⟩
  rw [← hbb, ← hbd, ← hbc]
  have A3 := hide (And.intro (ar_new A1.out.1 A1.out.2.1 A1.out.2.2.1 G2.out f1 f2 f3 f4 f5 hna hnb) (grown_trans (grown_trans A1.out.2.2.2 G2.out) f5))
  have R2 := hide ((f5.block X1 (row_lt r2.out) (by simp)).trans r2.out)
  have EB := hide (And.intro hbb (And.intro hbd hbc))
  clear f1 f2 f3 f4 f5 hbb hbd hbc r2 G2 HFR
  have g4 := World.grownBy_alloc w3 (.cells #[.pointer (some ⟨bb_, 0, none⟩), .pointer (some ⟨bd, 0, none⟩), .pointer (some ⟨bc_, 0, none⟩)] 27) none
  have r4 : (w3.alloc (.cells #[.pointer (some ⟨bb_, 0, none⟩), .pointer (some ⟨bd, 0, none⟩), .pointer (some ⟨bc_, 0, none⟩)] 27)).heap[w3.heap.size]? = some (.cells [.pointer (some ⟨bb_, 0, none⟩), .pointer (some ⟨bd, 0, none⟩), .pointer (some ⟨bc_, 0, none⟩)].toArray 27 (0, 0)) := heap_alloc_new w3 _
  have r2' := (g4.block X1 (row_lt R2.out) (by simp)).trans R2.out
  have c0 := cell_row r2' 0
  have c1 := cell_row r2' 1
  have c2 := cell_row r2' 2
  have c3 := cell_row r4 0
  have c4 := cell_row r4 1
  have c5 := cell_row r4 2
  simp only [List.getElem?_cons_zero, List.getElem?_cons_succ] at c0 c1 c2 c3 c4 c5
  have G4 := hide g4
  clear g4 r4 r2' R2
  go_wp2_with fail
  have TBr : Hid (((w3.alloc (.cells #[.pointer (some ⟨bb_, 0, none⟩), .pointer (some ⟨bd, 0, none⟩), .pointer (some ⟨bc_, 0, none⟩)] 27)).alloc (.cells #[.pointer (some ⟨ab, 0, none⟩), .pointer (some ⟨ad, 0, none⟩), .pointer (some ⟨ac, 0, none⟩), .pointer (some ⟨bb_, 0, none⟩), .pointer (some ⟨bd, 0, none⟩), .pointer (some ⟨bc_, 0, none⟩)] 30)).heap[w3.heap.size + 1]? = some (.cells (tcells a (some ⟨a.k.d, 0, none⟩) b (some ⟨b.k.d, 0, none⟩)).toArray 30 (0, 0))) := by
    have hX : (w3.alloc (.cells #[.pointer (some ⟨bb_, 0, none⟩), .pointer (some ⟨bd, 0, none⟩), .pointer (some ⟨bc_, 0, none⟩)] 27)).heap.size = w3.heap.size + 1 := by simp
    show _ = _
    rw [← hX, tcells, ← EA.out.1, ← EA.out.2.1, ← EA.out.2.2, ← EB.out.1, ← EB.out.2.1, ← EB.out.2.2]
    exact heap_alloc_new _ _
  have g5 := grown_trans G4.out (World.grownBy_alloc (w3.alloc (.cells #[.pointer (some ⟨bb_, 0, none⟩), .pointer (some ⟨bd, 0, none⟩), .pointer (some ⟨bc_, 0, none⟩)] 27)) (.cells #[.pointer (some ⟨ab, 0, none⟩), .pointer (some ⟨ad, 0, none⟩), .pointer (some ⟨ac, 0, none⟩), .pointer (some ⟨bb_, 0, none⟩), .pointer (some ⟨bd, 0, none⟩), .pointer (some ⟨bc_, 0, none⟩)] 30) none)
  have A5 : Hid (Ar w _ (w3.heap.size + 1) SZ 0 na nb a (some ⟨a.k.d, 0, none⟩) b (some ⟨b.k.d, 0, none⟩)) := ⟨A3.out.1.1.then g5, A3.out.1.2.1.then g5, A3.out.1.2.2, TBr.out⟩
  have LTB : Hid (w.heap.size ≤ w3.heap.size + 1) := by have := A3.out.2.size; show _ ≤ _; omega
  clear c0 c1 c2 c3 c4 c5 g5 TBr
  generalize (w3.alloc (.cells #[.pointer (some ⟨bb_, 0, none⟩), .pointer (some ⟨bd, 0, none⟩), .pointer (some ⟨bc_, 0, none⟩)] 27)).alloc (.cells #[.pointer (some ⟨ab, 0, none⟩), .pointer (some ⟨ad, 0, none⟩), .pointer (some ⟨ac, 0, none⟩), .pointer (some ⟨bb_, 0, none⟩), .pointer (some ⟨bd, 0, none⟩), .pointer (some ⟨bc_, 0, none⟩)] 30) = w5 at *
  generalize w3.heap.size + 1 = TB at *
  refine (few_any ao m cap os w5 HI.out.1 HI.out.2.1 (HI.out.2.2.grown A5.out.ha.at_.dev.disk.grown)).mono ?_
  rintro e w6 ⟨m', rfl, hm', -, hl', e6⟩
  subst e6
  have HQ := hide (And.intro (show StsAt w ao (os.take 80) from fun j o hj => by
    rw [List.getElem?_take] at hj
    split at hj
    · exact HI.out.2.2 j o hj
    · cases hj) hl')
  clear hl' HI A3 A1 G4
  generalize os.take 80 = qs at *
  go_wp2
  go_loopg [12] m' (fun q i wr => ∃ j : Nat, q + j = m' ∧ i = .int .i64 (j : Int) ∧ Hid (∃ (na nb : Nat) (a : Px) (u : Option Addr) (b : Px) (v : Option Addr), Ar w wr TB SZ (3 * j) na nb a u b v))
  case atStart => exact ⟨0, by omega, rfl, hide ⟨na, nb, a, _, b, _, A5.out⟩⟩
  case round =>
    clear A5 hna hnb EA EB a b na nb
    obtain ⟨j, hkj, rfl, HR⟩ := hrel
    obtain ⟨na, nb, a, u, b, v, hAr⟩ := HR.out
    have HA := hide hAr
    clear hAr HR
    by_cases hk : 0 < gk
    · have hjm : (j : Int) < (m' : Int) := by omega
      have hj0 : (0 : Int) ≤ (j : Int) := by omega
      obtain ⟨o, hoj⟩ : ∃ o, qs[j]? = some o := ⟨_, List.getElem?_eq_getElem (by have := HQ.out.2; omega)⟩
      obtain ⟨bk, off, bo, bc, fo, fc, hao, hst⟩ := HQ.out.1 j o hoj
      subst hao
      have hstr := hst.grown HA.out.ha.at_.dev.disk.grown
      have c0 := hstr.c0
      have c1 := hstr.c1
      have c2 := hstr.c2
      have c3 := hstr.c3
      have c4 := hstr.c4
      have c5 := hstr.c5
      have gO := World.grownBy_alloc wr (.cells #[.int .i64 o.kd, .int .i64 o.on, .int .i64 o.at_, .slice bo o.B.length bc, .bool o.raw, .slice fo o.F.length fc] 35) none
      have rO : Hid ((wr.alloc (.cells #[.int .i64 o.kd, .int .i64 o.on, .int .i64 o.at_, .slice bo o.B.length bc, .bool o.raw, .slice fo o.F.length fc] 35)).heap[wr.heap.size]? = some (.cells (scells o bo bc fo fc).toArray 35 (0, 0))) := heap_alloc_new wr _
      have HO := hide (HA.out.then gO)
      have HS := hide (And.intro (hstr.sin.grown gO) hst.sin)
      have o0 : (wr.alloc (.cells #[.int .i64 o.kd, .int .i64 o.on, .int .i64 o.at_, .slice bo o.B.length bc, .bool o.raw, .slice fo o.F.length fc] 35)).cell? ⟨wr.heap.size, 0, none⟩ = some (.int .i64 o.kd) := cell_row rO.out 0
      have o1 : (wr.alloc (.cells #[.int .i64 o.kd, .int .i64 o.on, .int .i64 o.at_, .slice bo o.B.length bc, .bool o.raw, .slice fo o.F.length fc] 35)).cell? ⟨wr.heap.size, 1, none⟩ = some (.int .i64 o.on) := cell_row rO.out 1
      have o2 : (wr.alloc (.cells #[.int .i64 o.kd, .int .i64 o.on, .int .i64 o.at_, .slice bo o.B.length bc, .bool o.raw, .slice fo o.F.length fc] 35)).cell? ⟨wr.heap.size, 2, none⟩ = some (.int .i64 o.at_) := cell_row rO.out 2
      have o3 : (wr.alloc (.cells #[.int .i64 o.kd, .int .i64 o.on, .int .i64 o.at_, .slice bo o.B.length bc, .bool o.raw, .slice fo o.F.length fc] 35)).cell? ⟨wr.heap.size, 3, none⟩ = some (.slice bo o.B.length bc) := cell_row rO.out 3
      have o4 : (wr.alloc (.cells #[.int .i64 o.kd, .int .i64 o.on, .int .i64 o.at_, .slice bo o.B.length bc, .bool o.raw, .slice fo o.F.length fc] 35)).cell? ⟨wr.heap.size, 4, none⟩ = some (.bool o.raw) := cell_row rO.out 4
      have o5 : (wr.alloc (.cells #[.int .i64 o.kd, .int .i64 o.on, .int .i64 o.at_, .slice bo o.B.length bc, .bool o.raw, .slice fo o.F.length fc] 35)).cell? ⟨wr.heap.size, 5, none⟩ = some (.slice fo o.F.length fc) := cell_row rO.out 5
      have hrw := HO.out.row
      have t0 := cell_row hrw 0
      have t1 := cell_row hrw 1
      have t2 := cell_row hrw 2
      have t3 := cell_row hrw 3
      have t4 := cell_row hrw 4
      have t5 := cell_row hrw 5
      simp only [tcells, List.getElem?_cons_zero, List.getElem?_cons_succ] at t0 t1 t2 t3 t4 t5
      have h3j : 3 * j + 3 ≤ 900 := by omega
      clear hstr hst hoj gO hrw
      obtain ⟨kd, on, at_, Bs, raw, F⟩ := o
      simp only at *
      rcases bit_two on with hon | hon
      · rcases (show kd = 6 ∨ kd = 7 ∨ kd = 8 ∨ (kd ≠ 6 ∧ kd ≠ 7 ∧ kd ≠ 8) by omega) with rfl | rfl | rfl | ⟨k6, k7, k8⟩
        · go_wp2_with fail
          generalize wr.alloc (.cells #[.int .i64 6, .int .i64 on, .int .i64 at_, .slice bo Bs.length bc, .bool raw, .slice fo F.length fc] 35) = wo at *
          generalize wr.heap.size = OB at *
          have hwr : IntKind.i64.wrap 1 = 1 := by decide
          go_region_held3 (fun w' => w'.cell? ⟨TB, 0, none⟩ = some (.pointer (some ⟨a.b, 0, none⟩)) ∧ w'.cell? ⟨TB, 2, none⟩ = some (.pointer (some ⟨a.c, 0, none⟩))) (first | exact ⟨t0, t2⟩ | assumption | go_keep | (constructor <;> (first | (rw [cell_off _ _ _ _ _ (by decide), cell_off _ _ _ _ _ (by decide), cell_off _ _ _ _ _ (by decide)]; first | exact hS2.1 | exact hS2.2)))) (first
            | (go_at_call 7; refine (dcopy_any (HO.out.ha.at_.dev.then (grown_drew _ _))).mono ?_; rintro e w1' ⟨bx, rfl, kx, d1, l1, b1, g1⟩; have g1' := grown_trans (grown_drew wo none) g1; have hS1 : w1'.cell? ⟨TB, 0, none⟩ = some (.pointer (some ⟨a.b, 0, none⟩)) ∧ w1'.cell? ⟨TB, 2, none⟩ = some (.pointer (some ⟨a.c, 0, none⟩)) := ⟨g1'.cell t0 (by simp), g1'.cell t2 (by simp)⟩; have D1 := hide (And.intro d1 (And.intro l1 (And.intro b1 g1'))); clear d1 l1 b1 g1 g1')
            | (go_at_call 8; refine (rdcopy_any (HO.out.ha.at_.rd.then D1.out.2.2.2) (by have := HO.out.ha.len.2.1; omega)).mono ?_; rintro e w2' ⟨cx, rfl, qx, d2, e2, g2⟩; have g12 := grown_trans D1.out.2.2.2 g2; have hS2 : w2'.cell? ⟨TB, 0, none⟩ = some (.pointer (some ⟨a.b, 0, none⟩)) ∧ w2'.cell? ⟨TB, 2, none⟩ = some (.pointer (some ⟨a.c, 0, none⟩)) := ⟨g2.cell hS1.1 (by simp), g2.cell hS1.2 (by simp)⟩; have r2 := (g12.block TB (row_lt HO.out.row) (by simp)).trans HO.out.row; have x3 := cell_row r2 3; have x4 := cell_row r2 4; have x5 := cell_row r2 5; have f3 : w2'.frozen? ⟨TB, 3, none⟩ = false := free_row r2 _; have f4 : w2'.frozen? ⟨TB, 4, none⟩ = false := free_row r2 _; have f5 : w2'.frozen? ⟨TB, 5, none⟩ = false := free_row r2 _; simp only [tcells, List.getElem?_cons_zero, List.getElem?_cons_succ] at x3 x4 x5; have D2 := hide (And.intro d2 (And.intro e2 (And.intro g2 r2))); clear d2 e2 g2 r2 g12))
          have hcp := HO.out.ha.copied D1.out.2.2.2 D1.out.1 D1.out.2.1 D1.out.2.2.1 D2.out.2.2.1 D2.out.1 D2.out.2.1 HO.out.ha.at_.dev.disk.grown.size
          have r3a := row_setCell D2.out.2.2.2 3 (.pointer (some ⟨bx, 0, none⟩))
          have r3b := row_setCell r3a 4 (.pointer none)
          have r3c := row_setCell r3b 5 (.pointer (some ⟨cx, 0, none⟩))
          have gset := grown_then (grown_then (grown_setCell w2' TB 3 (.pointer (some ⟨bx, 0, none⟩))) (grown_setCell _ TB 4 (.pointer none)) (fun j e => Or.inr e)) (grown_setCell _ TB 5 (.pointer (some ⟨cx, 0, none⟩))) (fun j e => Or.inr e)
          have hcur := (HO.out.ha.then (grown_trans D1.out.2.2.2 D2.out.2.2.1)).set gset D2.out.2.2.2 LTB.out
          have hoth := hcp.1.set gset D2.out.2.2.2 LTB.out
          have AC : Hid (Ar w _ TB SZ (3 * j) na na a u ⟨bx, a.s, kx, a.D, a.W, cx, a.t, qx⟩ none) := ⟨hcur, hoth, hcp.2, r3c⟩
          have hrw := AC.out.row
          have s0 := cell_row hrw 0
          have s1 := cell_row hrw 1
          have s2 := cell_row hrw 2
          have s3 := cell_row hrw 3
          have s4 := cell_row hrw 4
          have s5 := cell_row hrw 5
          simp only [tcells, List.getElem?_cons_zero, List.getElem?_cons_succ] at s0 s1 s2 s3 s4 s5
          clear hcp r3a r3b r3c gset hcur hoth hrw x3 x4 x5 f3 f4 f5 hS1 hS2 t0 t1 t2 t3 t4 t5 o0 o1 o2 o3 o4 o5 c0 c1 c2 c3 c4 c5
          generalize ((w2'.setCell ⟨TB, 3, none⟩ (.pointer (some ⟨bx, 0, none⟩))).setCell ⟨TB, 4, none⟩ (.pointer none)).setCell ⟨TB, 5, none⟩ (.pointer (some ⟨cx, 0, none⟩)) = wy at *
          go_wp2_with fail
          have his := is_any AC.out.ha.at_ AC.out.ha.same AC.out.ha.few u
          refine his.mono ?_
          clear his
          rintro e wz ⟨rfl, pz⟩
          have AZ := hide (AC.out.fst pz AC.out.ha.same (AC.out.ha.len.mono (by omega)))
          clear pz
          go_wp2
          go_roundg (gk - 1)
          case measure => omega
          case rel => exact ⟨j + 1, by omega, by go_num, hide ⟨_, _, _, _, _, _, AZ.out.mono (by omega)⟩⟩
        · rcases HA.out.ha.un with hu | hu
          · subst hu
            go_wp2
            go_roundg (gk - 1)
            case measure => omega
            case rel => exact ⟨j + 1, by omega, by go_num, hide ⟨_, _, _, _, _, _, HO.out.mono (by omega)⟩⟩
          · subst hu
            go_wp2_with fail
            generalize wr.alloc (.cells #[.int .i64 7, .int .i64 on, .int .i64 at_, .slice bo Bs.length bc, .bool raw, .slice fo F.length fc] 35) = wo at *
            generalize wr.heap.size = OB at *
            go_region_held3 (fun w' => w'.cell? ⟨TB, 0, none⟩ = some (.pointer (some ⟨a.b, 0, none⟩)) ∧ w'.cell? ⟨TB, 1, none⟩ = some (.pointer (some ⟨a.k.d, 0, none⟩)) ∧ w'.cell? ⟨TB, 2, none⟩ = some (.pointer (some ⟨a.c, 0, none⟩)) ∧ w'.cell? ⟨OB, 0, none⟩ = some (.int .i64 7) ∧ w'.cell? ⟨OB, 1, none⟩ = some (.int .i64 on) ∧ w'.cell? ⟨OB, 2, none⟩ = some (.int .i64 at_) ∧ w'.cell? ⟨OB, 3, none⟩ = some (.slice bo Bs.length bc) ∧ w'.cell? ⟨OB, 4, none⟩ = some (.bool raw) ∧ w'.cell? ⟨OB, 5, none⟩ = some (.slice fo F.length fc)) (first | exact ⟨t0, t1, t2, o0, o1, o2, o3, o4, o5⟩ | assumption | go_keep) (first
              | (go_at_call 9; refine (step_all (HO.out.ha.at_.then (grown_drew _ _)) (HO.out.ha.len.px (by omega)) (some ⟨a.k.d, 0, none⟩) ⟨7, on, at_, Bs, raw, F⟩ bo bc fo fc (HS.out.1.grown (grown_drew _ _)) HS.out.2.fin.lt HO.out.ha.same (fun _ => rfl)).mono ?_; rintro e wy hq; obtain ⟨rfl, p6, q1, q2, q3⟩ := stepped_to hq HO.out.ha.same HO.out.ha.len; have AY := hide ((HO.out.then (grown_drew _ _)).fst q1 q2 q3); have rOy := q1.mv.at rO.out (fun e => HO.out.ha.at_.off rO.out (.inr (.inr (.inr rfl))) (Px.own_all e)); have ryy := AY.out.row; have hSy : wy.cell? ⟨TB, 0, none⟩ = some (.pointer (some ⟨a.b, 0, none⟩)) ∧ wy.cell? ⟨TB, 1, none⟩ = some (.pointer (some ⟨a.k.d, 0, none⟩)) ∧ wy.cell? ⟨TB, 2, none⟩ = some (.pointer (some ⟨a.c, 0, none⟩)) ∧ wy.cell? ⟨OB, 0, none⟩ = some (.int .i64 7) ∧ wy.cell? ⟨OB, 1, none⟩ = some (.int .i64 on) ∧ wy.cell? ⟨OB, 2, none⟩ = some (.int .i64 at_) ∧ wy.cell? ⟨OB, 3, none⟩ = some (.slice bo Bs.length bc) ∧ wy.cell? ⟨OB, 4, none⟩ = some (.bool raw) ∧ wy.cell? ⟨OB, 5, none⟩ = some (.slice fo F.length fc) := ⟨(cell_row ryy 0).trans (by simp [tcells, q1.mv.eb]), cell_row ryy 1, (cell_row ryy 2).trans (by simp [tcells, q1.mv.ec]), cell_row rOy 0, cell_row rOy 1, cell_row rOy 2, cell_row rOy 3, cell_row rOy 4, cell_row rOy 5⟩; have EY := hide (And.intro q1.mv.eb q1.mv.ec); clear hq q1 q2 q3 rOy ryy))
            have y0 := hSy.1
            have y1 := hSy.2.1
            have y2 := hSy.2.2.1
            clear t0 t1 t2 t3 t4 t5 o0 o1 o2 o3 o4 o5 c0 c1 c2 c3 c4 c5 hSy
            go_wp2_with fail
            have his := is_any AY.out.ha.at_ AY.out.ha.same AY.out.ha.few (some ⟨a.k.d, 0, none⟩)
            rw [EY.out.1, EY.out.2] at his
            refine his.mono ?_
            clear his
            rintro e wz ⟨rfl, pz⟩
            have AZ := hide (AY.out.fst pz AY.out.ha.same (AY.out.ha.len.mono (by omega)))
            clear pz
            go_wp2
            go_roundg (gk - 1)
            case measure => omega
            case rel => exact ⟨j + 1, by omega, by go_num, hide ⟨_, _, _, _, _, _, AZ.out.mono (by omega)⟩⟩
        · rcases HA.out.ha.un with hu | hu
          · subst hu
            go_wp2
            go_roundg (gk - 1)
            case measure => omega
            case rel => exact ⟨j + 1, by omega, by go_num, hide ⟨_, _, _, _, _, _, HO.out.mono (by omega)⟩⟩
          · subst hu
            go_wp2_with fail
            generalize wr.alloc (.cells #[.int .i64 8, .int .i64 on, .int .i64 at_, .slice bo Bs.length bc, .bool raw, .slice fo F.length fc] 35) = wo at *
            generalize wr.heap.size = OB at *
            go_region_held3 (fun w' => w'.cell? ⟨TB, 0, none⟩ = some (.pointer (some ⟨a.b, 0, none⟩)) ∧ w'.cell? ⟨TB, 1, none⟩ = some (.pointer (some ⟨a.k.d, 0, none⟩)) ∧ w'.cell? ⟨TB, 2, none⟩ = some (.pointer (some ⟨a.c, 0, none⟩)) ∧ w'.cell? ⟨OB, 0, none⟩ = some (.int .i64 8) ∧ w'.cell? ⟨OB, 1, none⟩ = some (.int .i64 on) ∧ w'.cell? ⟨OB, 2, none⟩ = some (.int .i64 at_) ∧ w'.cell? ⟨OB, 3, none⟩ = some (.slice bo Bs.length bc) ∧ w'.cell? ⟨OB, 4, none⟩ = some (.bool raw) ∧ w'.cell? ⟨OB, 5, none⟩ = some (.slice fo F.length fc)) (first | exact ⟨t0, t1, t2, o0, o1, o2, o3, o4, o5⟩ | assumption | go_keep) (first
              | (go_at_call 9; refine (step_all (HO.out.ha.at_.then (grown_drew _ _)) (HO.out.ha.len.px (by omega)) (some ⟨a.k.d, 0, none⟩) ⟨8, on, at_, Bs, raw, F⟩ bo bc fo fc (HS.out.1.grown (grown_drew _ _)) HS.out.2.fin.lt HO.out.ha.same (fun _ => rfl)).mono ?_; rintro e wy hq; obtain ⟨rfl, p6, q1, q2, q3⟩ := stepped_to hq HO.out.ha.same HO.out.ha.len; have AY := hide ((HO.out.then (grown_drew _ _)).fst q1 q2 q3); have rOy := q1.mv.at rO.out (fun e => HO.out.ha.at_.off rO.out (.inr (.inr (.inr rfl))) (Px.own_all e)); have ryy := AY.out.row; have hSy : wy.cell? ⟨TB, 0, none⟩ = some (.pointer (some ⟨a.b, 0, none⟩)) ∧ wy.cell? ⟨TB, 1, none⟩ = some (.pointer (some ⟨a.k.d, 0, none⟩)) ∧ wy.cell? ⟨TB, 2, none⟩ = some (.pointer (some ⟨a.c, 0, none⟩)) ∧ wy.cell? ⟨OB, 0, none⟩ = some (.int .i64 8) ∧ wy.cell? ⟨OB, 1, none⟩ = some (.int .i64 on) ∧ wy.cell? ⟨OB, 2, none⟩ = some (.int .i64 at_) ∧ wy.cell? ⟨OB, 3, none⟩ = some (.slice bo Bs.length bc) ∧ wy.cell? ⟨OB, 4, none⟩ = some (.bool raw) ∧ wy.cell? ⟨OB, 5, none⟩ = some (.slice fo F.length fc) := ⟨(cell_row ryy 0).trans (by simp [tcells, q1.mv.eb]), cell_row ryy 1, (cell_row ryy 2).trans (by simp [tcells, q1.mv.ec]), cell_row rOy 0, cell_row rOy 1, cell_row rOy 2, cell_row rOy 3, cell_row rOy 4, cell_row rOy 5⟩; have EY := hide (And.intro q1.mv.eb q1.mv.ec); clear hq q1 q2 q3 rOy ryy))
            have y0 := hSy.1
            have y1 := hSy.2.1
            have y2 := hSy.2.2.1
            clear t0 t1 t2 t3 t4 t5 o0 o1 o2 o3 o4 o5 c0 c1 c2 c3 c4 c5 hSy
            go_wp2_with fail
            have his := is_any AY.out.ha.at_ AY.out.ha.same AY.out.ha.few (some ⟨a.k.d, 0, none⟩)
            rw [EY.out.1, EY.out.2] at his
            refine his.mono ?_
            clear his
            rintro e wz ⟨rfl, pz⟩
            have AZ := hide (AY.out.fst pz AY.out.ha.same (AY.out.ha.len.mono (by omega)))
            clear pz
            go_wp2
            go_roundg (gk - 1)
            case measure => omega
            case rel => exact ⟨j + 1, by omega, by go_num, hide ⟨_, _, _, _, _, _, AZ.out.mono (by omega)⟩⟩
        · have n6 : (kd == 6) = false := by simpa using k6
          have n7 : (kd == 7) = false := by simpa using k7
          have n8 : (kd == 8) = false := by simpa using k8
          go_wp2_with fail
          generalize wr.alloc (.cells #[.int .i64 kd, .int .i64 on, .int .i64 at_, .slice bo Bs.length bc, .bool raw, .slice fo F.length fc] 35) = wo at *
          generalize wr.heap.size = OB at *
          go_region_held3 (fun w' => w'.cell? ⟨TB, 0, none⟩ = some (.pointer (some ⟨a.b, 0, none⟩)) ∧ w'.cell? ⟨TB, 1, none⟩ = some (.pointer u) ∧ w'.cell? ⟨TB, 2, none⟩ = some (.pointer (some ⟨a.c, 0, none⟩)) ∧ w'.cell? ⟨OB, 0, none⟩ = some (.int .i64 kd) ∧ w'.cell? ⟨OB, 1, none⟩ = some (.int .i64 on) ∧ w'.cell? ⟨OB, 2, none⟩ = some (.int .i64 at_) ∧ w'.cell? ⟨OB, 3, none⟩ = some (.slice bo Bs.length bc) ∧ w'.cell? ⟨OB, 4, none⟩ = some (.bool raw) ∧ w'.cell? ⟨OB, 5, none⟩ = some (.slice fo F.length fc)) (first | exact ⟨t0, t1, t2, o0, o1, o2, o3, o4, o5⟩ | assumption | go_keep) (first
            | (go_at_call 9; refine (step_all (HO.out.ha.at_.then (grown_drew _ _)) (HO.out.ha.len.px (by omega)) u ⟨kd, on, at_, Bs, raw, F⟩ bo bc fo fc (HS.out.1.grown (grown_drew _ _)) HS.out.2.fin.lt HO.out.ha.same (fun e => absurd e (by rintro (h | h); exact k7 h; exact k8 h))).mono ?_; rintro e wy hq; obtain ⟨rfl, p6, q1, q2, q3⟩ := stepped_to hq HO.out.ha.same HO.out.ha.len; have AY := hide ((HO.out.then (grown_drew _ _)).fst q1 q2 q3); have rOy := q1.mv.at rO.out (fun e => HO.out.ha.at_.off rO.out (.inr (.inr (.inr rfl))) (Px.own_all e)); have ryy := AY.out.row; have hSy : wy.cell? ⟨TB, 0, none⟩ = some (.pointer (some ⟨a.b, 0, none⟩)) ∧ wy.cell? ⟨TB, 1, none⟩ = some (.pointer u) ∧ wy.cell? ⟨TB, 2, none⟩ = some (.pointer (some ⟨a.c, 0, none⟩)) ∧ wy.cell? ⟨OB, 0, none⟩ = some (.int .i64 kd) ∧ wy.cell? ⟨OB, 1, none⟩ = some (.int .i64 on) ∧ wy.cell? ⟨OB, 2, none⟩ = some (.int .i64 at_) ∧ wy.cell? ⟨OB, 3, none⟩ = some (.slice bo Bs.length bc) ∧ wy.cell? ⟨OB, 4, none⟩ = some (.bool raw) ∧ wy.cell? ⟨OB, 5, none⟩ = some (.slice fo F.length fc) := ⟨(cell_row ryy 0).trans (by simp [tcells, q1.mv.eb]), cell_row ryy 1, (cell_row ryy 2).trans (by simp [tcells, q1.mv.ec]), cell_row rOy 0, cell_row rOy 1, cell_row rOy 2, cell_row rOy 3, cell_row rOy 4, cell_row rOy 5⟩; have EY := hide (And.intro q1.mv.eb q1.mv.ec); clear hq q1 q2 q3 rOy ryy))
          have y0 := hSy.1
          have y1 := hSy.2.1
          have y2 := hSy.2.2.1
          clear t0 t1 t2 t3 t4 t5 o0 o1 o2 o3 o4 o5 c0 c1 c2 c3 c4 c5 hSy
          go_wp2_with fail
          have his := is_any AY.out.ha.at_ AY.out.ha.same AY.out.ha.few u
          rw [EY.out.1, EY.out.2] at his
          refine his.mono ?_
          clear his
          rintro e wz ⟨rfl, pz⟩
          have AZ := hide (AY.out.fst pz AY.out.ha.same (AY.out.ha.len.mono (by omega)))
          clear pz
          go_wp2
          go_roundg (gk - 1)
          case measure => omega
          case rel => exact ⟨j + 1, by omega, by go_num, hide ⟨_, _, _, _, _, _, AZ.out.mono (by omega)⟩⟩
      · rcases (show kd = 6 ∨ kd = 7 ∨ kd = 8 ∨ (kd ≠ 6 ∧ kd ≠ 7 ∧ kd ≠ 8) by omega) with rfl | rfl | rfl | ⟨k6, k7, k8⟩
        · go_wp2_with fail
          generalize wr.alloc (.cells #[.int .i64 6, .int .i64 on, .int .i64 at_, .slice bo Bs.length bc, .bool raw, .slice fo F.length fc] 35) = wo at *
          generalize wr.heap.size = OB at *
          have hwr : IntKind.i64.wrap 0 = 0 := by decide
          go_region_held3 (fun w' => w'.cell? ⟨TB, 3, none⟩ = some (.pointer (some ⟨b.b, 0, none⟩)) ∧ w'.cell? ⟨TB, 5, none⟩ = some (.pointer (some ⟨b.c, 0, none⟩))) (first | exact ⟨t3, t5⟩ | assumption | go_keep | (constructor <;> (first | (rw [cell_off _ _ _ _ _ (by decide), cell_off _ _ _ _ _ (by decide), cell_off _ _ _ _ _ (by decide)]; first | exact hS2.1 | exact hS2.2)))) (first
            | (go_at_call 7; refine (dcopy_any (HO.out.hb.at_.dev.then (grown_drew _ _))).mono ?_; rintro e w1' ⟨bx, rfl, kx, d1, l1, b1, g1⟩; have g1' := grown_trans (grown_drew wo none) g1; have hS1 : w1'.cell? ⟨TB, 3, none⟩ = some (.pointer (some ⟨b.b, 0, none⟩)) ∧ w1'.cell? ⟨TB, 5, none⟩ = some (.pointer (some ⟨b.c, 0, none⟩)) := ⟨g1'.cell t3 (by simp), g1'.cell t5 (by simp)⟩; have D1 := hide (And.intro d1 (And.intro l1 (And.intro b1 g1'))); clear d1 l1 b1 g1 g1')
            | (go_at_call 8; refine (rdcopy_any (HO.out.hb.at_.rd.then D1.out.2.2.2) (by have := HO.out.hb.len.2.1; omega)).mono ?_; rintro e w2' ⟨cx, rfl, qx, d2, e2, g2⟩; have g12 := grown_trans D1.out.2.2.2 g2; have hS2 : w2'.cell? ⟨TB, 3, none⟩ = some (.pointer (some ⟨b.b, 0, none⟩)) ∧ w2'.cell? ⟨TB, 5, none⟩ = some (.pointer (some ⟨b.c, 0, none⟩)) := ⟨g2.cell hS1.1 (by simp), g2.cell hS1.2 (by simp)⟩; have r2 := (g12.block TB (row_lt HO.out.row) (by simp)).trans HO.out.row; have x3 := cell_row r2 0; have x4 := cell_row r2 1; have x5 := cell_row r2 2; have f3 : w2'.frozen? ⟨TB, 0, none⟩ = false := free_row r2 _; have f4 : w2'.frozen? ⟨TB, 1, none⟩ = false := free_row r2 _; have f5 : w2'.frozen? ⟨TB, 2, none⟩ = false := free_row r2 _; simp only [tcells, List.getElem?_cons_zero, List.getElem?_cons_succ] at x3 x4 x5; have D2 := hide (And.intro d2 (And.intro e2 (And.intro g2 r2))); clear d2 e2 g2 r2 g12))
          have hcp := HO.out.hb.copied D1.out.2.2.2 D1.out.1 D1.out.2.1 D1.out.2.2.1 D2.out.2.2.1 D2.out.1 D2.out.2.1 HO.out.ha.at_.dev.disk.grown.size
          have r3a := row_setCell D2.out.2.2.2 0 (.pointer (some ⟨bx, 0, none⟩))
          have r3b := row_setCell r3a 1 (.pointer none)
          have r3c := row_setCell r3b 2 (.pointer (some ⟨cx, 0, none⟩))
          have gset := grown_then (grown_then (grown_setCell w2' TB 0 (.pointer (some ⟨bx, 0, none⟩))) (grown_setCell _ TB 1 (.pointer none)) (fun j e => Or.inr e)) (grown_setCell _ TB 2 (.pointer (some ⟨cx, 0, none⟩))) (fun j e => Or.inr e)
          have hcur := (HO.out.hb.then (grown_trans D1.out.2.2.2 D2.out.2.2.1)).set gset D2.out.2.2.2 LTB.out
          have hoth := hcp.1.set gset D2.out.2.2.2 LTB.out
          have AC : Hid (Ar w _ TB SZ (3 * j) nb nb ⟨bx, b.s, kx, b.D, b.W, cx, b.t, qx⟩ none b v) := ⟨hoth, hcur, hcp.2.symm, r3c⟩
          have hrw := AC.out.row
          have s0 := cell_row hrw 0
          have s1 := cell_row hrw 1
          have s2 := cell_row hrw 2
          have s3 := cell_row hrw 3
          have s4 := cell_row hrw 4
          have s5 := cell_row hrw 5
          simp only [tcells, List.getElem?_cons_zero, List.getElem?_cons_succ] at s0 s1 s2 s3 s4 s5
          clear hcp r3a r3b r3c gset hcur hoth hrw x3 x4 x5 f3 f4 f5 hS1 hS2 t0 t1 t2 t3 t4 t5 o0 o1 o2 o3 o4 o5 c0 c1 c2 c3 c4 c5
          generalize ((w2'.setCell ⟨TB, 0, none⟩ (.pointer (some ⟨bx, 0, none⟩))).setCell ⟨TB, 1, none⟩ (.pointer none)).setCell ⟨TB, 2, none⟩ (.pointer (some ⟨cx, 0, none⟩)) = wy at *
          go_wp2_with fail
          have his := is_any AC.out.hb.at_ AC.out.hb.same AC.out.hb.few v
          refine his.mono ?_
          clear his
          rintro e wz ⟨rfl, pz⟩
          have AZ := hide (AC.out.snd pz AC.out.hb.same (AC.out.hb.len.mono (by omega)))
          clear pz
          go_wp2
          go_roundg (gk - 1)
          case measure => omega
          case rel => exact ⟨j + 1, by omega, by go_num, hide ⟨_, _, _, _, _, _, AZ.out.mono (by omega)⟩⟩
        · rcases HA.out.hb.un with hu | hu
          · subst hu
            go_wp2
            go_roundg (gk - 1)
            case measure => omega
            case rel => exact ⟨j + 1, by omega, by go_num, hide ⟨_, _, _, _, _, _, HO.out.mono (by omega)⟩⟩
          · subst hu
            go_wp2_with fail
            generalize wr.alloc (.cells #[.int .i64 7, .int .i64 on, .int .i64 at_, .slice bo Bs.length bc, .bool raw, .slice fo F.length fc] 35) = wo at *
            generalize wr.heap.size = OB at *
            go_region_held3 (fun w' => w'.cell? ⟨TB, 3, none⟩ = some (.pointer (some ⟨b.b, 0, none⟩)) ∧ w'.cell? ⟨TB, 4, none⟩ = some (.pointer (some ⟨b.k.d, 0, none⟩)) ∧ w'.cell? ⟨TB, 5, none⟩ = some (.pointer (some ⟨b.c, 0, none⟩)) ∧ w'.cell? ⟨OB, 0, none⟩ = some (.int .i64 7) ∧ w'.cell? ⟨OB, 1, none⟩ = some (.int .i64 on) ∧ w'.cell? ⟨OB, 2, none⟩ = some (.int .i64 at_) ∧ w'.cell? ⟨OB, 3, none⟩ = some (.slice bo Bs.length bc) ∧ w'.cell? ⟨OB, 4, none⟩ = some (.bool raw) ∧ w'.cell? ⟨OB, 5, none⟩ = some (.slice fo F.length fc)) (first | exact ⟨t3, t4, t5, o0, o1, o2, o3, o4, o5⟩ | assumption | go_keep) (first
              | (go_at_call 9; refine (step_all (HO.out.hb.at_.then (grown_drew _ _)) (HO.out.hb.len.px (by omega)) (some ⟨b.k.d, 0, none⟩) ⟨7, on, at_, Bs, raw, F⟩ bo bc fo fc (HS.out.1.grown (grown_drew _ _)) HS.out.2.fin.lt HO.out.hb.same (fun _ => rfl)).mono ?_; rintro e wy hq; obtain ⟨rfl, p6, q1, q2, q3⟩ := stepped_to hq HO.out.hb.same HO.out.hb.len; have AY := hide ((HO.out.then (grown_drew _ _)).snd q1 q2 q3); have rOy := q1.mv.at rO.out (fun e => HO.out.hb.at_.off rO.out (.inr (.inr (.inr rfl))) (Px.own_all e)); have ryy := AY.out.row; have hSy : wy.cell? ⟨TB, 3, none⟩ = some (.pointer (some ⟨b.b, 0, none⟩)) ∧ wy.cell? ⟨TB, 4, none⟩ = some (.pointer (some ⟨b.k.d, 0, none⟩)) ∧ wy.cell? ⟨TB, 5, none⟩ = some (.pointer (some ⟨b.c, 0, none⟩)) ∧ wy.cell? ⟨OB, 0, none⟩ = some (.int .i64 7) ∧ wy.cell? ⟨OB, 1, none⟩ = some (.int .i64 on) ∧ wy.cell? ⟨OB, 2, none⟩ = some (.int .i64 at_) ∧ wy.cell? ⟨OB, 3, none⟩ = some (.slice bo Bs.length bc) ∧ wy.cell? ⟨OB, 4, none⟩ = some (.bool raw) ∧ wy.cell? ⟨OB, 5, none⟩ = some (.slice fo F.length fc) := ⟨(cell_row ryy 3).trans (by simp [tcells, q1.mv.eb]), cell_row ryy 4, (cell_row ryy 5).trans (by simp [tcells, q1.mv.ec]), cell_row rOy 0, cell_row rOy 1, cell_row rOy 2, cell_row rOy 3, cell_row rOy 4, cell_row rOy 5⟩; have EY := hide (And.intro q1.mv.eb q1.mv.ec); clear hq q1 q2 q3 rOy ryy))
            have y0 := hSy.1
            have y1 := hSy.2.1
            have y2 := hSy.2.2.1
            clear t0 t1 t2 t3 t4 t5 o0 o1 o2 o3 o4 o5 c0 c1 c2 c3 c4 c5 hSy
            go_wp2_with fail
            have his := is_any AY.out.hb.at_ AY.out.hb.same AY.out.hb.few (some ⟨b.k.d, 0, none⟩)
            rw [EY.out.1, EY.out.2] at his
            refine his.mono ?_
            clear his
            rintro e wz ⟨rfl, pz⟩
            have AZ := hide (AY.out.snd pz AY.out.hb.same (AY.out.hb.len.mono (by omega)))
            clear pz
            go_wp2
            go_roundg (gk - 1)
            case measure => omega
            case rel => exact ⟨j + 1, by omega, by go_num, hide ⟨_, _, _, _, _, _, AZ.out.mono (by omega)⟩⟩
        · rcases HA.out.hb.un with hu | hu
          · subst hu
            go_wp2
            go_roundg (gk - 1)
            case measure => omega
            case rel => exact ⟨j + 1, by omega, by go_num, hide ⟨_, _, _, _, _, _, HO.out.mono (by omega)⟩⟩
          · subst hu
            go_wp2_with fail
            generalize wr.alloc (.cells #[.int .i64 8, .int .i64 on, .int .i64 at_, .slice bo Bs.length bc, .bool raw, .slice fo F.length fc] 35) = wo at *
            generalize wr.heap.size = OB at *
            go_region_held3 (fun w' => w'.cell? ⟨TB, 3, none⟩ = some (.pointer (some ⟨b.b, 0, none⟩)) ∧ w'.cell? ⟨TB, 4, none⟩ = some (.pointer (some ⟨b.k.d, 0, none⟩)) ∧ w'.cell? ⟨TB, 5, none⟩ = some (.pointer (some ⟨b.c, 0, none⟩)) ∧ w'.cell? ⟨OB, 0, none⟩ = some (.int .i64 8) ∧ w'.cell? ⟨OB, 1, none⟩ = some (.int .i64 on) ∧ w'.cell? ⟨OB, 2, none⟩ = some (.int .i64 at_) ∧ w'.cell? ⟨OB, 3, none⟩ = some (.slice bo Bs.length bc) ∧ w'.cell? ⟨OB, 4, none⟩ = some (.bool raw) ∧ w'.cell? ⟨OB, 5, none⟩ = some (.slice fo F.length fc)) (first | exact ⟨t3, t4, t5, o0, o1, o2, o3, o4, o5⟩ | assumption | go_keep) (first
              | (go_at_call 9; refine (step_all (HO.out.hb.at_.then (grown_drew _ _)) (HO.out.hb.len.px (by omega)) (some ⟨b.k.d, 0, none⟩) ⟨8, on, at_, Bs, raw, F⟩ bo bc fo fc (HS.out.1.grown (grown_drew _ _)) HS.out.2.fin.lt HO.out.hb.same (fun _ => rfl)).mono ?_; rintro e wy hq; obtain ⟨rfl, p6, q1, q2, q3⟩ := stepped_to hq HO.out.hb.same HO.out.hb.len; have AY := hide ((HO.out.then (grown_drew _ _)).snd q1 q2 q3); have rOy := q1.mv.at rO.out (fun e => HO.out.hb.at_.off rO.out (.inr (.inr (.inr rfl))) (Px.own_all e)); have ryy := AY.out.row; have hSy : wy.cell? ⟨TB, 3, none⟩ = some (.pointer (some ⟨b.b, 0, none⟩)) ∧ wy.cell? ⟨TB, 4, none⟩ = some (.pointer (some ⟨b.k.d, 0, none⟩)) ∧ wy.cell? ⟨TB, 5, none⟩ = some (.pointer (some ⟨b.c, 0, none⟩)) ∧ wy.cell? ⟨OB, 0, none⟩ = some (.int .i64 8) ∧ wy.cell? ⟨OB, 1, none⟩ = some (.int .i64 on) ∧ wy.cell? ⟨OB, 2, none⟩ = some (.int .i64 at_) ∧ wy.cell? ⟨OB, 3, none⟩ = some (.slice bo Bs.length bc) ∧ wy.cell? ⟨OB, 4, none⟩ = some (.bool raw) ∧ wy.cell? ⟨OB, 5, none⟩ = some (.slice fo F.length fc) := ⟨(cell_row ryy 3).trans (by simp [tcells, q1.mv.eb]), cell_row ryy 4, (cell_row ryy 5).trans (by simp [tcells, q1.mv.ec]), cell_row rOy 0, cell_row rOy 1, cell_row rOy 2, cell_row rOy 3, cell_row rOy 4, cell_row rOy 5⟩; have EY := hide (And.intro q1.mv.eb q1.mv.ec); clear hq q1 q2 q3 rOy ryy))
            have y0 := hSy.1
            have y1 := hSy.2.1
            have y2 := hSy.2.2.1
            clear t0 t1 t2 t3 t4 t5 o0 o1 o2 o3 o4 o5 c0 c1 c2 c3 c4 c5 hSy
            go_wp2_with fail
            have his := is_any AY.out.hb.at_ AY.out.hb.same AY.out.hb.few (some ⟨b.k.d, 0, none⟩)
            rw [EY.out.1, EY.out.2] at his
            refine his.mono ?_
            clear his
            rintro e wz ⟨rfl, pz⟩
            have AZ := hide (AY.out.snd pz AY.out.hb.same (AY.out.hb.len.mono (by omega)))
            clear pz
            go_wp2
            go_roundg (gk - 1)
            case measure => omega
            case rel => exact ⟨j + 1, by omega, by go_num, hide ⟨_, _, _, _, _, _, AZ.out.mono (by omega)⟩⟩
        · have n6 : (kd == 6) = false := by simpa using k6
          have n7 : (kd == 7) = false := by simpa using k7
          have n8 : (kd == 8) = false := by simpa using k8
          go_wp2_with fail
          generalize wr.alloc (.cells #[.int .i64 kd, .int .i64 on, .int .i64 at_, .slice bo Bs.length bc, .bool raw, .slice fo F.length fc] 35) = wo at *
          generalize wr.heap.size = OB at *
          go_region_held3 (fun w' => w'.cell? ⟨TB, 3, none⟩ = some (.pointer (some ⟨b.b, 0, none⟩)) ∧ w'.cell? ⟨TB, 4, none⟩ = some (.pointer v) ∧ w'.cell? ⟨TB, 5, none⟩ = some (.pointer (some ⟨b.c, 0, none⟩)) ∧ w'.cell? ⟨OB, 0, none⟩ = some (.int .i64 kd) ∧ w'.cell? ⟨OB, 1, none⟩ = some (.int .i64 on) ∧ w'.cell? ⟨OB, 2, none⟩ = some (.int .i64 at_) ∧ w'.cell? ⟨OB, 3, none⟩ = some (.slice bo Bs.length bc) ∧ w'.cell? ⟨OB, 4, none⟩ = some (.bool raw) ∧ w'.cell? ⟨OB, 5, none⟩ = some (.slice fo F.length fc)) (first | exact ⟨t3, t4, t5, o0, o1, o2, o3, o4, o5⟩ | assumption | go_keep) (first
            | (go_at_call 9; refine (step_all (HO.out.hb.at_.then (grown_drew _ _)) (HO.out.hb.len.px (by omega)) v ⟨kd, on, at_, Bs, raw, F⟩ bo bc fo fc (HS.out.1.grown (grown_drew _ _)) HS.out.2.fin.lt HO.out.hb.same (fun e => absurd e (by rintro (h | h); exact k7 h; exact k8 h))).mono ?_; rintro e wy hq; obtain ⟨rfl, p6, q1, q2, q3⟩ := stepped_to hq HO.out.hb.same HO.out.hb.len; have AY := hide ((HO.out.then (grown_drew _ _)).snd q1 q2 q3); have rOy := q1.mv.at rO.out (fun e => HO.out.hb.at_.off rO.out (.inr (.inr (.inr rfl))) (Px.own_all e)); have ryy := AY.out.row; have hSy : wy.cell? ⟨TB, 3, none⟩ = some (.pointer (some ⟨b.b, 0, none⟩)) ∧ wy.cell? ⟨TB, 4, none⟩ = some (.pointer v) ∧ wy.cell? ⟨TB, 5, none⟩ = some (.pointer (some ⟨b.c, 0, none⟩)) ∧ wy.cell? ⟨OB, 0, none⟩ = some (.int .i64 kd) ∧ wy.cell? ⟨OB, 1, none⟩ = some (.int .i64 on) ∧ wy.cell? ⟨OB, 2, none⟩ = some (.int .i64 at_) ∧ wy.cell? ⟨OB, 3, none⟩ = some (.slice bo Bs.length bc) ∧ wy.cell? ⟨OB, 4, none⟩ = some (.bool raw) ∧ wy.cell? ⟨OB, 5, none⟩ = some (.slice fo F.length fc) := ⟨(cell_row ryy 3).trans (by simp [tcells, q1.mv.eb]), cell_row ryy 4, (cell_row ryy 5).trans (by simp [tcells, q1.mv.ec]), cell_row rOy 0, cell_row rOy 1, cell_row rOy 2, cell_row rOy 3, cell_row rOy 4, cell_row rOy 5⟩; have EY := hide (And.intro q1.mv.eb q1.mv.ec); clear hq q1 q2 q3 rOy ryy))
          have y0 := hSy.1
          have y1 := hSy.2.1
          have y2 := hSy.2.2.1
          clear t0 t1 t2 t3 t4 t5 o0 o1 o2 o3 o4 o5 c0 c1 c2 c3 c4 c5 hSy
          go_wp2_with fail
          have his := is_any AY.out.hb.at_ AY.out.hb.same AY.out.hb.few v
          rw [EY.out.1, EY.out.2] at his
          refine his.mono ?_
          clear his
          rintro e wz ⟨rfl, pz⟩
          have AZ := hide (AY.out.snd pz AY.out.hb.same (AY.out.hb.len.mono (by omega)))
          clear pz
          go_wp2
          go_roundg (gk - 1)
          case measure => omega
          case rel => exact ⟨j + 1, by omega, by go_num, hide ⟨_, _, _, _, _, _, AZ.out.mono (by omega)⟩⟩
    · have hj : j = m' := by omega
      subst hj
      have hjm : ¬ (j : Int) < (j : Int) := by omega
      have hrw := HA.out.row
      have t0 := cell_row hrw 0
      have t1 := cell_row hrw 1
      have t2 := cell_row hrw 2
      have t3 := cell_row hrw 3
      have t4 := cell_row hrw 4
      have t5 := cell_row hrw 5
      simp only [tcells, List.getElem?_cons_zero, List.getElem?_cons_succ] at t0 t1 t2 t3 t4 t5
      clear hrw
      go_wp2_with fail
      refine (is_any HA.out.ha.at_ HA.out.ha.same HA.out.ha.few _).mono ?_
      rintro e wx ⟨rfl, px⟩
      have AX := hide (HA.out.fst px HA.out.ha.same (HA.out.ha.len.mono (by omega)))
      clear px t0 t1 t2 t3 t4 t5
      have hrw := AX.out.row
      have t3 := cell_row hrw 3
      have t4 := cell_row hrw 4
      have t5 := cell_row hrw 5
      simp only [tcells, List.getElem?_cons_zero, List.getElem?_cons_succ] at t3 t4 t5
      clear hrw
      go_wp2_with fail
      refine (is_any AX.out.hb.at_ AX.out.hb.same AX.out.hb.few _).mono ?_
      rintro e wy ⟨rfl, py⟩
      have GY := hide py.z.dev.disk.grown
      clear py t3 t4 t5
      go_wp2_with fail
      refine (awake_any _).mono ?_
      rintro e wz ⟨rfl, gz⟩
      have GZ := hide (grown_trans GY.out gz)
      clear gz
      go_wp2
      go_ret
      exact ⟨rfl, GZ.out⟩
end Go.Proofs.YtaopcidkgcekdaaGreat
