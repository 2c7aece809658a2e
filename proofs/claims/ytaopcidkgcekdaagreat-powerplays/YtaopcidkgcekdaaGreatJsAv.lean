/- Texts joined: StO, Frs, Stay0. -/
import Derived.Test.YtaopcidkgcekdaaGreatJsAu
import Derived.Laws.ResultCell
/- A step on a device and the document's: any of them, but of its disk. -/
namespace Go.Proofs.YtaopcidkgcekdaaGreat
open Go.RowKit Ap
attribute [local go_sem ↓] Go.wp_at_zero Go.wp_at_succ

section
variable {w0 w : World} {n size : Nat} {p : Px}
set_option maxRecDepth 20000 in
set_option maxHeartbeats 16000000 in
theorem step_other (h : PxAt w0 w n size p) (hl : PxLen p) (uo : Option Addr) (kd on at_ : Int) (Bs : List Nat) (raw : Bool) (F : List (Int × Int)) (bo : Option Addr) (bc : Nat) (fo : Option Addr) (fc : Nat) (hs : SIn w ⟨kd, on, at_, Bs, raw, F⟩ bo bc fo fc) (h1 : (kd == 1) = false) (h2 : (kd == 2) = false) (h3 : (kd == 3) = false) (h4 : (kd == 4) = false) (h5 : (kd == 5) = false) (h7 : (kd == 7) = false) (h8 : (kd == 8) = false) :
    Calls Tryz.prog 9 #[.agg #[.pointer (some ⟨p.b, 0, none⟩), .pointer uo, .pointer (some ⟨p.c, 0, none⟩)], .agg #[.int .i64 kd, .int .i64 on, .int .i64 at_, .slice bo Bs.length bc, .bool raw, .slice fo F.length fc]] w fun e w' => Stepped w0 w w' n size p e := by
  have g1 := World.grownBy_alloc w (.cells #[.pointer (some ⟨p.b, 0, none⟩), .pointer uo, .pointer (some ⟨p.c, 0, none⟩)] 27) none
  have g2 := World.grownBy_alloc (w.alloc (.cells #[.pointer (some ⟨p.b, 0, none⟩), .pointer uo, .pointer (some ⟨p.c, 0, none⟩)] 27)) (.cells #[.int .i64 kd, .int .i64 on, .int .i64 at_, .slice bo Bs.length bc, .bool raw, .slice fo F.length fc] 35) none
  have r1 : (w.alloc (.cells #[.pointer (some ⟨p.b, 0, none⟩), .pointer uo, .pointer (some ⟨p.c, 0, none⟩)] 27)).heap[w.heap.size]? = some (.cells [.pointer (some ⟨p.b, 0, none⟩), .pointer uo, .pointer (some ⟨p.c, 0, none⟩)].toArray 27 (0, 0)) := heap_alloc_new w _
  have hX : (w.alloc (.cells #[.pointer (some ⟨p.b, 0, none⟩), .pointer uo, .pointer (some ⟨p.c, 0, none⟩)] 27)).heap.size = w.heap.size + 1 := by simp
  have r2 : ((w.alloc (.cells #[.pointer (some ⟨p.b, 0, none⟩), .pointer uo, .pointer (some ⟨p.c, 0, none⟩)] 27)).alloc (.cells #[.int .i64 kd, .int .i64 on, .int .i64 at_, .slice bo Bs.length bc, .bool raw, .slice fo F.length fc] 35)).heap[w.heap.size + 1]? = some (.cells (scells ⟨kd, on, at_, Bs, raw, F⟩ bo bc fo fc).toArray 35 (0, 0)) := by rw [← hX]; exact heap_alloc_new _ _
  have r1' := (g2.block _ (row_lt r1) (by simp)).trans r1
  have s1 := h.dev.disk.disk.shape.s1
  have s0 := h.dev.disk.disk.shape.s0
  have G := hide (grown_trans g1 g2)
  have HL := hide hl
  have HA := hide (And.intro h (hs.grown G.out))
  have F0 : Hid (∀ i, p.all i → i < w.heap.size) := h.lt
  have hS0 : ∀ B1 B2, B1 = w.heap.size → B2 = w.heap.size + 1 → (((w.alloc (.cells #[.pointer (some ⟨p.b, 0, none⟩), .pointer uo, .pointer (some ⟨p.c, 0, none⟩)] 27)).alloc (.cells #[.int .i64 kd, .int .i64 on, .int .i64 at_, .slice bo Bs.length bc, .bool raw, .slice fo F.length fc] 35)).cell? ⟨B1, 0, none⟩ = some (.pointer (some ⟨p.b, 0, none⟩)) ∧ ((w.alloc (.cells #[.pointer (some ⟨p.b, 0, none⟩), .pointer uo, .pointer (some ⟨p.c, 0, none⟩)] 27)).alloc (.cells #[.int .i64 kd, .int .i64 on, .int .i64 at_, .slice bo Bs.length bc, .bool raw, .slice fo F.length fc] 35)).cell? ⟨B1, 1, none⟩ = some (.pointer uo) ∧ ((w.alloc (.cells #[.pointer (some ⟨p.b, 0, none⟩), .pointer uo, .pointer (some ⟨p.c, 0, none⟩)] 27)).alloc (.cells #[.int .i64 kd, .int .i64 on, .int .i64 at_, .slice bo Bs.length bc, .bool raw, .slice fo F.length fc] 35)).cell? ⟨B1, 2, none⟩ = some (.pointer (some ⟨p.c, 0, none⟩)) ∧ ((w.alloc (.cells #[.pointer (some ⟨p.b, 0, none⟩), .pointer uo, .pointer (some ⟨p.c, 0, none⟩)] 27)).alloc (.cells #[.int .i64 kd, .int .i64 on, .int .i64 at_, .slice bo Bs.length bc, .bool raw, .slice fo F.length fc] 35)).cell? ⟨B2, 0, none⟩ = some (.int .i64 kd) ∧ ((w.alloc (.cells #[.pointer (some ⟨p.b, 0, none⟩), .pointer uo, .pointer (some ⟨p.c, 0, none⟩)] 27)).alloc (.cells #[.int .i64 kd, .int .i64 on, .int .i64 at_, .slice bo Bs.length bc, .bool raw, .slice fo F.length fc] 35)).cell? ⟨B2, 1, none⟩ = some (.int .i64 on) ∧ ((w.alloc (.cells #[.pointer (some ⟨p.b, 0, none⟩), .pointer uo, .pointer (some ⟨p.c, 0, none⟩)] 27)).alloc (.cells #[.int .i64 kd, .int .i64 on, .int .i64 at_, .slice bo Bs.length bc, .bool raw, .slice fo F.length fc] 35)).cell? ⟨B2, 2, none⟩ = some (.int .i64 at_) ∧ ((w.alloc (.cells #[.pointer (some ⟨p.b, 0, none⟩), .pointer uo, .pointer (some ⟨p.c, 0, none⟩)] 27)).alloc (.cells #[.int .i64 kd, .int .i64 on, .int .i64 at_, .slice bo Bs.length bc, .bool raw, .slice fo F.length fc] 35)).cell? ⟨B2, 3, none⟩ = some (.slice bo Bs.length bc) ∧ ((w.alloc (.cells #[.pointer (some ⟨p.b, 0, none⟩), .pointer uo, .pointer (some ⟨p.c, 0, none⟩)] 27)).alloc (.cells #[.int .i64 kd, .int .i64 on, .int .i64 at_, .slice bo Bs.length bc, .bool raw, .slice fo F.length fc] 35)).cell? ⟨B2, 4, none⟩ = some (.bool raw) ∧ ((w.alloc (.cells #[.pointer (some ⟨p.b, 0, none⟩), .pointer uo, .pointer (some ⟨p.c, 0, none⟩)] 27)).alloc (.cells #[.int .i64 kd, .int .i64 on, .int .i64 at_, .slice bo Bs.length bc, .bool raw, .slice fo F.length fc] 35)).cell? ⟨B2, 5, none⟩ = some (.slice fo F.length fc)) := by
    rintro B1 B2 rfl rfl
    exact ⟨cell_row r1' 0, cell_row r1' 1, cell_row r1' 2, cell_row r2 0, cell_row r2 1, cell_row r2 2, cell_row r2 3, cell_row r2 4, cell_row r2 5⟩
  have hS1 := hS0 _ _ rfl rfl
  obtain ⟨y0, y1, y2, y3, y4, y5, y6, y7, y8⟩ := hS1
  clear hS0 h hl hs g1 g2 r1 r1' r2 hX
  go_enter Tryz.func9, Tryz.ntmps9
  go_wp2_with fail
  generalize (w.alloc (.cells #[.pointer (some ⟨p.b, 0, none⟩), .pointer uo, .pointer (some ⟨p.c, 0, none⟩)] 27)).alloc (.cells #[.int .i64 kd, .int .i64 on, .int .i64 at_, .slice bo Bs.length bc, .bool raw, .slice fo F.length fc] 35) = wa at *
  obtain ⟨B1, hB1⟩ : ∃ B1, B1 = w.heap.size := ⟨_, rfl⟩
  obtain ⟨B2, hB2⟩ : ∃ B2, B2 = w.heap.size + 1 := ⟨_, rfl⟩
  have HB := hide (And.intro hB1 hB2)
  rw [← hB2] at y3 y4 y5 y6 y7 y8 ⊢
  rw [← hB1] at y0 y1 y2 ⊢
  clear hB1 hB2
  go_region_held3 (fun w' => w'.cell? ⟨B1, 0, none⟩ = some (.pointer (some ⟨p.b, 0, none⟩)) ∧ w'.cell? ⟨B1, 1, none⟩ = some (.pointer uo) ∧ w'.cell? ⟨B1, 2, none⟩ = some (.pointer (some ⟨p.c, 0, none⟩)) ∧ w'.cell? ⟨B2, 0, none⟩ = some (.int .i64 kd) ∧ w'.cell? ⟨B2, 1, none⟩ = some (.int .i64 on) ∧ w'.cell? ⟨B2, 2, none⟩ = some (.int .i64 at_) ∧ w'.cell? ⟨B2, 3, none⟩ = some (.slice bo Bs.length bc) ∧ w'.cell? ⟨B2, 4, none⟩ = some (.bool raw) ∧ w'.cell? ⟨B2, 5, none⟩ = some (.slice fo F.length fc)) (first | exact ⟨y0, y1, y2, y3, y4, y5, y6, y7, y8⟩ | assumption | go_keep) (first
    | (go_at_call 29; refine (rdsize_any (HA.out.1.rd.then (grown_trans G.out (grown_drew _ _)))).mono ?_; rintro e w1 ⟨rfl, rfl⟩)
    | (go_at_call 28; refine (block_any ⟨kd, on, at_, Bs, raw, F⟩ bo bc fo fc size s1 _ (HA.out.2.grown (grown_drew _ _))).mono ?_; rintro e w1 ⟨v, rfl, o2, g2⟩; have g2' := grown_trans (grown_drew wa none) g2; have hS2 : w1.cell? ⟨B1, 0, none⟩ = some (.pointer (some ⟨p.b, 0, none⟩)) ∧ w1.cell? ⟨B1, 1, none⟩ = some (.pointer uo) ∧ w1.cell? ⟨B1, 2, none⟩ = some (.pointer (some ⟨p.c, 0, none⟩)) ∧ w1.cell? ⟨B2, 0, none⟩ = some (.int .i64 kd) ∧ w1.cell? ⟨B2, 1, none⟩ = some (.int .i64 on) ∧ w1.cell? ⟨B2, 2, none⟩ = some (.int .i64 at_) ∧ w1.cell? ⟨B2, 3, none⟩ = some (.slice bo Bs.length bc) ∧ w1.cell? ⟨B2, 4, none⟩ = some (.bool raw) ∧ w1.cell? ⟨B2, 5, none⟩ = some (.slice fo F.length fc) := ⟨g2'.cell y0 (by simp), g2'.cell y1 (by simp), g2'.cell y2 (by simp), g2'.cell y3 (by simp), g2'.cell y4 (by simp), g2'.cell y5 (by simp), g2'.cell y6 (by simp), g2'.cell y7 (by simp), g2'.cell y8 (by simp)⟩; obtain ⟨ba, bcap, rfl, q1, q2, q3, q4, q5, q6⟩ := own_at o2; have A1 := hide (And.intro (grown_trans G.out g2') (And.intro q4 (And.intro q5 (And.intro q6 G.out.size)))); clear o2 g2 g2' q1 q2 q3 q4 q5 q6))
  obtain ⟨z0, z1, z2, z3, z4, z5, z6, z7, z8⟩ := hS2
  clear y0 y1 y2 y3 y4 y5 y6 y7 y8
  have hbl := blkOf_le ⟨kd, on, at_, Bs, raw, F⟩ size HA.out.2.bin.size s1
  have HX := hide (show (blkOf ⟨kd, on, at_, Bs, raw, F⟩ size).length = (blkOf ⟨kd, on, at_, Bs, raw, F⟩ size).length from rfl)
  obtain ⟨X, hX⟩ : ∃ X, X = blkOf ⟨kd, on, at_, Bs, raw, F⟩ size := ⟨_, rfl⟩
  rw [← hX] at A1 hbl HX ⊢
  have HXE := hide hX
  clear hX
  have HW := hide ((PxW.refl HA.out.1).new A1.out.1)
  go_wp2
  go_ret
  exact ⟨_, rfl, _, HW.out, ⟨Nat.le_succ _, Nat.le_succ _, Nat.le_succ _, Nat.le_succ _⟩, fun hsame => ⟨rfl, hsame⟩⟩
theorem step_any (h : PxAt w0 w n size p) (hl : PxLen p) (uo : Option Addr) (o : Stp) (bo : Option Addr) (bc : Nat) (fo : Option Addr) (fc : Nat) (hs : SIn w o bo bc fo fc) (hfl : ∀ a, fo = some a → 0 < o.F.length → a.block < w0.heap.size) (hsame : PxSame n size p) (h7 : o.kd ≠ 7) (h8 : o.kd ≠ 8) :
    Calls Tryz.prog 9 #[.agg #[.pointer (some ⟨p.b, 0, none⟩), .pointer uo, .pointer (some ⟨p.c, 0, none⟩)], .agg (scells o bo bc fo fc).toArray] w fun e w' => Stepped w0 w w' n size p e := by
  obtain ⟨kd, on, at_, B, raw, F⟩ := o
  by_cases e1 : kd = 1
  · subst e1; exact step_write h hl uo on at_ B raw F bo bc fo fc hs
  by_cases e2 : kd = 2
  · subst e2; exact step_read h hl uo on at_ B raw F bo bc fo fc hs hsame
  by_cases e3 : kd = 3
  · subst e3; exact step_sync h hl uo on at_ B raw F bo bc fo fc hs
  by_cases e4 : kd = 4
  · subst e4; exact step_arm h hl uo on at_ B raw F bo bc fo fc hs
  by_cases e5 : kd = 5
  · subst e5; exact step_restart h hl uo on at_ B raw F bo bc fo fc hs hfl
  exact step_other h hl uo kd on at_ B raw F bo bc fo fc hs (by simpa using e1) (by simpa using e2) (by simpa using e3) (by simpa using e4) (by simpa using e5) (by simpa using h7) (by simpa using h8)
end
end Go.Proofs.YtaopcidkgcekdaaGreat
/- A device, both ways, over a few small sectors. -/
namespace Go.Proofs.YtaopcidkgcekdaaGreat
open Go.RowKit Ap
attribute [local go_sem ↓] Go.wp_at_zero Go.wp_at_succ

def nOf (x : Int) : Nat := (1 + x % 8).toNat
def szOf (z : Int) : Nat := if z % 2 = 0 then 64 else 128
theorem nOf_pos (x : Int) : 1 ≤ nOf x ∧ nOf x ≤ 8 := by unfold nOf; omega
theorem szOf_is (z : Int) : szOf z = 64 ∨ szOf z = 128 := by unfold szOf; split <;> simp
theorem may_small (N SZ : Nat) (h1 : 1 ≤ N) (h2 : N ≤ 8) (h3 : SZ = 64 ∨ SZ = 128) : mayB (N : Int) (SZ : Int) = true := by
  rw [mayB_iff]
  rcases h3 with rfl | rfl
  · exact ⟨by omega, by omega, by omega, by omega, by decide, by omega⟩
  · exact ⟨by omega, by omega, by omega, by omega, by decide, by omega⟩
theorem wrap_n (x : Int) : 1 + x % 8 = (nOf x : Int) := by unfold nOf; omega
theorem wrap_sz (z : Int) : wrap64 (64 * 2 ^ (z % 2).toNat) = (szOf z : Int) := by
  have : z % 2 = 0 ∨ z % 2 = 1 := by omega
  unfold szOf
  rcases this with h | h
  · rw [h]; simp [wrap64]
  · rw [h]; simp [wrap64]
theorem secs_zs (n size : Nat) : secs n size (zs (n * size)) = List.replicate n (zs size) := by
  apply List.ext_getElem?
  intro i
  by_cases hi : i < n
  · rw [secs_get _ _ _ _ hi, zs_sec n size i hi, List.getElem?_replicate, if_pos hi]
  · rw [List.getElem?_eq_none (by rw [secs_length]; omega), List.getElem?_eq_none (by simp; omega)]
def Freshed (w0 w w' : World) (N SZ : Nat) (e : Ending) : Prop :=
  ∃ p : Px, e = .returned (.tuple #[.agg #[.pointer (some ⟨p.b, 0, none⟩), .pointer (some ⟨p.k.d, 0, none⟩), .pointer (some ⟨p.c, 0, none⟩)], .bool true]) ∧ PxAt w0 w' N SZ p ∧ PxSame N SZ p ∧ (p.W = [] ∧ p.q.V = [] ∧ p.s = Dv.anew ∧ p.t = Dv.anew) ∧ (∀ i, p.all i → w.heap.size ≤ i) ∧ w.grownBy w' none
set_option maxRecDepth 20000 in
set_option maxHeartbeats 8000000 in
theorem fresh_any (w0 w : World) (x z : Int) (hg : w0.grownBy w none) : Calls Tryz.prog 5 #[.int .i64 x, .int .i64 z] w fun e w' => Freshed w0 w w' (nOf x) (szOf z) e := by
  have HP : Hid (∀ w, Calls Tryz.prog 20 #[.int .i64 x, .int .i64 8] w fun e w' => e = .returned (.int .i64 (x % 8)) ∧ w' = w) := fun w => pick_any x 8 8 w rfl (by omega) (by omega)
  have HQ : Hid (∀ w, Calls Tryz.prog 20 #[.int .i64 z, .int .i64 2] w fun e w' => e = .returned (.int .i64 (z % 2)) ∧ w' = w) := fun w => pick_any z 2 2 w rfl (by omega) (by omega)
  have HWN := hide (wrap_n x)
  have HWZ := hide (wrap_sz z)
  have MB := hide (may_small (nOf x) (szOf z) (nOf_pos x).1 (nOf_pos x).2 (szOf_is z))
  generalize nOf x = N at *
  generalize szOf z = SZ at *
  have p1 : 0 ≤ x % 8 := by omega
  have p2 : x % 8 < 8 := by omega
  have p3 : 0 ≤ z % 2 := by omega
  have p4 : z % 2 < 2 := by omega
  generalize x % 8 = xx at *
  generalize z % 2 = zz at *
  have G0 := hide hg
  have g1 := World.grownBy_alloc w (.cells #[.pointer none, .pointer none, .pointer none] 27) none
  have R1 := hide (heap_alloc_new w (.cells #[.pointer none, .pointer none, .pointer none] 27))
  have G1 := hide g1
  clear g1 hg
  go_enter Tryz.func5, Tryz.ntmps5
  go_wp2_with fail
  generalize w.alloc (.cells #[.pointer none, .pointer none, .pointer none] 27) = w1 at *
  obtain ⟨B, hB⟩ : ∃ B, B = w.heap.size := ⟨_, rfl⟩
  have HB := hide hB
  rw [← hB] at R1 ⊢
  clear hB
  refine (HP.out _).mono ?_
  rintro e w' ⟨rfl, rfl⟩
  go_wp2_with fail
  refine (HQ.out _).mono ?_
  rintro e w' ⟨rfl, rfl⟩
  go_wp2_with fail
  rw [HWN.out, HWZ.out]
  refine (newS N SZ w0 w' (grown_trans G0.out G1.out) MB.out).mono ?_
  rintro e w2 ⟨k, rfl, u2, g2, l2⟩
  have U2 := hide (And.intro u2 (And.intro g2 l2))
  clear u2 g2 l2
  go_wp2_with fail
  refine (dnew_any rfl U2.out.1).mono ?_
  rintro e w3 ⟨b, rfl, d3, l3, g3⟩
  have D3 := hide (And.intro d3 (And.intro l3 g3))
  clear d3 l3 g3
  go_wp2_with fail
  refine (rnew_any N SZ w3 MB.out).mono ?_
  rintro e w4 ⟨q, rfl, r4, s4, v4, g4⟩
  have R4 := hide (And.intro r4 (And.intro s4 (And.intro v4 g4)))
  clear r4 s4 v4 g4
  go_wp2_with fail
  refine (rdnew_any (R4.out.1.mono (lo' := w0.heap.size) D3.out.1.disk.grown.size) (Nat.le_trans D3.out.1.disk.grown.size R4.out.2.2.2.size)).mono ?_
  rintro e w5 ⟨c, rfl, d5, l5, g5⟩
  have D5 := hide (And.intro d5 (And.intro l5 g5))
  clear d5 l5 g5
  have GB : Hid (w'.grownBy w5 none) := grown_trans (grown_trans (grown_trans U2.out.2.1 D3.out.2.2) R4.out.2.2.2) D5.out.2.2
  have rB := (GB.out.block B (row_lt R1.out) (by simp)).trans R1.out
  have f0 : w5.frozen? ⟨B, 0, none⟩ = false := free_row rB 0
  have f1 : w5.frozen? ⟨B, 1, none⟩ = false := free_row rB 1
  have f2 : w5.frozen? ⟨B, 2, none⟩ = false := free_row rB 2
  have c0 : w5.cell? ⟨B, 0, none⟩ = some (.pointer none) := cell_row (l := [.pointer none, .pointer none, .pointer none]) rB 0
  have c1 : w5.cell? ⟨B, 1, none⟩ = some (.pointer none) := cell_row (l := [.pointer none, .pointer none, .pointer none]) rB 1
  have c2 : w5.cell? ⟨B, 2, none⟩ = some (.pointer none) := cell_row (l := [.pointer none, .pointer none, .pointer none]) rB 2
  have RB := hide rB
  clear rB
  go_wp2
  have r1 := row_setCell (l := [.pointer none, .pointer none, .pointer none]) RB.out 0 (.pointer (some ⟨b, 0, none⟩))
  have r2 := row_setCell r1 1 (.pointer (some ⟨k.d, 0, none⟩))
  have r3 := row_setCell r2 2 (.pointer (some ⟨c, 0, none⟩))
  have gg := grown_then (grown_then (grown_setCell w5 B 0 (.pointer (some ⟨b, 0, none⟩))) (grown_setCell _ B 1 (.pointer (some ⟨k.d, 0, none⟩))) (fun j e => Or.inr e)) (grown_setCell _ B 2 (.pointer (some ⟨c, 0, none⟩))) (fun j e => Or.inr e)
  have e0 := cell_row r3 0
  have e1 := cell_row r3 1
  have e2 := cell_row r3 2
  clear r1 r2 r3 f0 f1 f2 c0 c1 c2
  generalize ((w5.setCell ⟨B, 0, none⟩ (.pointer (some ⟨b, 0, none⟩))).setCell ⟨B, 1, none⟩ (.pointer (some ⟨k.d, 0, none⟩))).setCell ⟨B, 2, none⟩ (.pointer (some ⟨c, 0, none⟩)) = w6 at *
  simp only [List.set_cons_zero, List.set_cons_succ, List.getElem?_cons_zero, List.getElem?_cons_succ] at e0 e1 e2
  refine bodyPost_ret (v := .tuple #[.agg #[.pointer (some ⟨b, 0, none⟩), .pointer (some ⟨k.d, 0, none⟩), .pointer (some ⟨c, 0, none⟩)], .bool true]) ?_ rfl ?_
  · rw [results_cell_tmp rfl]; go_simp
  have hB := HB.out
  have z1 := G1.out.size
  have z2 := U2.out.2.1.size
  have z3 := D3.out.2.2.size
  have z4 := R4.out.2.2.2.size
  have lB : B < w'.heap.size := row_lt R1.out
  have g25 : w2.grownBy w5 none := grown_trans (grown_trans D3.out.2.2 R4.out.2.2.2) D5.out.2.2
  have g35 : w3.grownBy w5 none := grown_trans R4.out.2.2.2 D5.out.2.2
  have lk : ∀ i, foot k [] i → w'.heap.size ≤ i ∧ i < w2.heap.size := by
    rintro i (e | ⟨y, hy, _⟩)
    · exact ⟨U2.out.2.2 i e, U2.out.1.disk.lt i (.inl e)⟩
    · cases hy
  have lq : ∀ i, rfoot q i → w3.heap.size ≤ i := fun i e => (R4.out.1.lt i e).1
  have lb : w2.heap.size ≤ b := D3.out.2.1
  have lc : w4.heap.size ≤ c := D5.out.2.1
  have hz : PxAt w0 w5 N SZ ⟨b, Dv.anew, k, zs (N * SZ), [], c, Dv.anew, q⟩ := ⟨D3.out.1.then g35, D5.out.1, fun i h1 h2 => by have := lk i h1; have := lq i h2; omega⟩
  have hall : ∀ i, Px.all ⟨b, Dv.anew, k, zs (N * SZ), [], c, Dv.anew, q⟩ i → w'.heap.size ≤ i := by
    rintro i (e | e | e | e)
    · exact (lk i e).1
    · have := lq i e; omega
    · have e : i = b := e
      omega
    · have e : i = c := e
      omega
  refine ⟨_, rfl, hz.other (Kept.of gg (S := fun i => i = B) (fun _ e _ => (Option.some.inj e).symm)) (fun i hi e => by have e : i = B := e; have := hall i hi; omega) (fun i e => by have e : i = B := e; have := G0.out.size; omega), ⟨rfl, ?_, ?_⟩, ⟨rfl, R4.out.2.2.1, rfl, rfl⟩, fun i hi => by have := hall i hi; omega, ?_⟩
  · show secs N SZ (zs (N * SZ)) = (rst q).1
    rw [secs_zs]; exact R4.out.2.1.symm
  · show abs [] = (rst q).2
    rw [rst, R4.out.2.2.1]; rfl
  · exact grown_then (grown_trans (grown_trans G1.out U2.out.2.1) g25) gg (fun j e => Or.inl (by have := Option.some.inj e; omega))
end Go.Proofs.YtaopcidkgcekdaaGreat
/- What lies aside of a device while another one goes on. -/
namespace Go.Proofs.YtaopcidkgcekdaaGreat
open Go.RowKit Ap

def Lens (p : Px) (M : Nat) : Prop := p.W.length ≤ M ∧ p.q.V.length ≤ M ∧ p.s.cnt ≤ M ∧ p.t.cnt ≤ M
theorem Lens.px {p : Px} {M : Nat} (h : Lens p M) (hM : M ≤ 900) : PxLen p := ⟨by have := h.1; omega, by have := h.2.1; omega, by have := h.2.2.1; omega, by have := h.2.2.2; omega⟩
theorem Lens.mono {p : Px} {M M' : Nat} (h : Lens p M) (hM : M ≤ M') : Lens p M' := ⟨by have := h.1; omega, by have := h.2.1; omega, by have := h.2.2.1; omega, by have := h.2.2.2; omega⟩
section
variable {w0 w w' : World} {n size : Nat} {p p' : Px}
/-- Cells of another type are none of it. -/
theorem PxAt.off (h : PxAt w0 w n size p) {A : Nat} {c : Array Value} {t : TypeId} {fr : Nat × Nat} (hA : w.heap[A]? = some (.cells c t fr)) (ht : t = 27 ∨ t = 30 ∨ t = 22 ∨ t = 35) : ¬ p.all A := by
  have e82 : t ≠ 82 := by rcases ht with rfl | rfl | rfl | rfl <;> decide
  have e5 : t ≠ 5 := by rcases ht with rfl | rfl | rfl | rfl <;> decide
  have e88 : t ≠ 88 := by rcases ht with rfl | rfl | rfl | rfl <;> decide
  have e85 : t ≠ 85 := by rcases ht with rfl | rfl | rfl | rfl <;> decide
  have e32 : t ≠ 32 := by rcases ht with rfl | rfl | rfl | rfl <;> decide
  have e91 : t ≠ 91 := by rcases ht with rfl | rfl | rfl | rfl <;> decide
  have e61 : t ≠ 61 := by rcases ht with rfl | rfl | rfl | rfl <;> decide
  have e64 : t ≠ 64 := by rcases ht with rfl | rfl | rfl | rfl <;> decide
  rintro (e | e | e | e)
  · rcases e with e | ⟨x, hx, e⟩
    · exact h.dev.disk.disk.other_off hA e82 e5 e88 e
    · have := (h.dev.disk.disk.waits x hx).2.2.2
      rw [e, hA] at this
      simp at this
      exact e5 this.2.1
  · exact h.rd.ref.other_off hA e85 e32 e91 e5 e
  · have := h.dev.dev.head
    rw [← e, hA] at this
    simp at this
    exact e61 this.2.1
  · have := h.rd.dev.head
    rw [← e, hA] at this
    simp at this
    exact e64 this.2.1
theorem PxM.not_own {i : Nat} (m : PxM w w' p p') (hi : i < w.heap.size) (h : ¬ p.own i) : ¬ p'.own i := fun e => by
  rcases m.own i e with e | e
  · exact h e
  · omega
theorem PxM.at {A : Nat} {o : Obj} (m : PxM w w' p p') (hA : w.heap[A]? = some o) (h : ¬ p.own A) : w'.heap[A]? = some o := m.kept.at hA h
theorem ImgAt.le {lo g sz : Nat} {R : List (List Nat)} {hs : List Nat} (h : ImgAt w lo g sz R hs) : ∀ i, i = g ∨ i ∈ hs → i < w.heap.size := by
  rintro i (rfl | hi)
  · exact row_lt h.row
  · obtain ⟨j, hj⟩ := List.getElem?_of_mem hi
    have hjl : j < R.length := by rw [← h.len]; exact (List.getElem?_eq_some_iff.1 hj).1
    obtain ⟨r1, _, _⟩ := h.rows j i R[j] hj (List.getElem?_eq_getElem hjl)
    exact row_lt r1
end
/-- A device, its pair's row and an image of it, while another device goes on. -/
structure Aw (w0 w : World) (n size b : Nat) (s : Dv) (k : Dk) (D : List Nat) (W : List Wt) (T U c lo g : Nat) (hs : List Nat) (p : Px) : Prop where
  px : PxAt w0 w n size p
  same : PxSame n size p
  dev : Dev w0 w n size b s k D W
  tw : w.heap[T]? = some (.cells [.pointer (some ⟨b, 0, none⟩), .pointer (some ⟨U, 0, none⟩), .pointer (some ⟨c, 0, none⟩)].toArray 27 (0, 0))
  img : ImgAt w lo g size (secs n size D) hs
  gd : ∀ i, (foot k W i ∨ i = b ∨ i = T ∨ i = g ∨ i ∈ hs) → i < w.heap.size ∧ ¬ p.own i
section
variable {w0 w w' : World} {n size b T U c lo g : Nat} {s : Dv} {k : Dk} {D : List Nat} {W : List Wt} {hs : List Nat} {p p' : Px}
theorem Aw.grown (h : Aw w0 w n size b s k D W T U c lo g hs p) (hg : w.grownBy w' none) : Aw w0 w' n size b s k D W T U c lo g hs p :=
  ⟨h.px.then hg, h.same, h.dev.then hg, (hg.block T (row_lt h.tw) (by simp)).trans h.tw, h.img.grown hg, fun i hi => ⟨Nat.lt_of_lt_of_le (h.gd i hi).1 hg.size, (h.gd i hi).2⟩⟩
theorem Aw.step (h : Aw w0 w n size b s k D W T U c lo g hs p) (m : PxW w0 w w' n size p p') (hsame : PxSame n size p') : Aw w0 w' n size b s k D W T U c lo g hs p' := by
  have kp := m.mv.kept
  have no : ∀ i, (foot k W i ∨ i = b ∨ i = T ∨ i = g ∨ i ∈ hs) → ¬ p.own i := fun i hi => (h.gd i hi).2
  refine ⟨m.z, hsame, ⟨⟨h.dev.disk.disk.kept kp (fun i hi => no i (.inl hi)), h.dev.disk.own, m.z.dev.disk.grown⟩, h.dev.dev.kept kp (no b (.inr (.inl rfl))), h.dev.low⟩, kp.at h.tw (no T (.inr (.inr (.inl rfl)))), h.img.off kp (no g (.inr (.inr (.inr (.inl rfl))))) (fun a ha => no a (.inr (.inr (.inr (.inr ha))))), fun i hi => ⟨Nat.lt_of_lt_of_le (h.gd i hi).1 kp.size, m.mv.not_own (h.gd i hi).1 (no i hi)⟩⟩
end
theorem ImgAt.low {w : World} {lo g sz : Nat} {R : List (List Nat)} {hs : List Nat} (h : ImgAt w lo g sz R hs) : ∀ i ∈ hs, lo ≤ i := by
  intro i hi
  obtain ⟨j, hj⟩ := List.getElem?_of_mem hi
  have hjl : j < R.length := by rw [← h.len]; exact (List.getElem?_eq_some_iff.1 hj).1
  exact (h.rows j i R[j] hj (List.getElem?_eq_getElem hjl)).2.2
theorem aw_of {w0 wr w6 w7 : World} {n size T U bx : Nat} {hs : List Nat} {p : Px} {kx : Dk} (h : PxAt w0 wr n size p) (hsame : PxSame n size p) (g6 : wr.grownBy w6 none) (dx : Dev w0 w6 n size bx p.s kx p.D p.W) (lx : wr.heap.size ≤ bx) (ox : ∀ i, kx.own i → wr.heap.size ≤ i)
    (hT : wr.heap[T]? = some (.cells [.pointer (some ⟨p.b, 0, none⟩), .pointer (some ⟨U, 0, none⟩), .pointer (some ⟨p.c, 0, none⟩)].toArray 27 (0, 0))) (g7 : w6.grownBy w7 none) (hi : ImgAt w7 w6.heap.size w6.heap.size size (secs n size p.D) hs) :
    Aw w0 w7 n size p.b p.s p.k p.D p.W T U p.c w6.heap.size w6.heap.size hs ⟨bx, p.s, kx, p.D, p.W, p.c, p.t, p.q⟩ := by
  have g67 := grown_trans g6 g7
  have hT7 := (g67.block T (row_lt hT) (by simp)).trans hT
  have z6 := g6.size
  have z7 := g7.size
  have lxx : bx < w6.heap.size := dx.dev.lt
  have hoT : ¬ p.all T := h.off hT (.inl rfl)
  have lT := row_lt hT
  have px : PxAt w0 w7 n size ⟨bx, p.s, kx, p.D, p.W, p.c, p.t, p.q⟩ := by
    refine ⟨dx.then g7, h.rd.then g67, ?_⟩
    rintro i (e | ⟨x, hx, e⟩) hr
    · have := ox i e; have := (h.rd.ref.lt i hr).2; omega
    · exact h.ap i (.inr ⟨x, hx, e⟩) hr
  have own_old : ∀ i, i < wr.heap.size → Px.own ⟨bx, p.s, kx, p.D, p.W, p.c, p.t, p.q⟩ i → rfoot p.q i ∨ i = p.c := by
    rintro i hi (e | e | e | e)
    · have := ox i e; omega
    · exact .inl e
    · have e : i = bx := e
      omega
    · exact .inr e
  refine ⟨px, ⟨hsame.st, hsame.rows, hsame.waits⟩, h.dev.then g67, hT7, hi, ?_⟩
  rintro i (e | e | e | e | e)
  · have hl := h.lt i (.inl e)
    refine ⟨by have := g67.size; omega, fun o => ?_⟩
    rcases own_old i hl o with r | r
    · exact h.ap i e r
    · exact h.cf (r ▸ e)
  · have hl := h.lt i (.inr (.inr (.inl e)))
    refine ⟨by have := g67.size; omega, fun o => ?_⟩
    rcases own_old i hl o with r | r
    · exact h.bq (e ▸ r)
    · exact h.bc (e.symm.trans r)
  · refine ⟨by have := g67.size; omega, fun o => ?_⟩
    rcases own_old i (by omega) o with r | r
    · exact hoT (e ▸ .inr (.inl r))
    · exact hoT (e ▸ .inr (.inr (.inr r)))
  · refine ⟨hi.le i (.inl e), fun o => ?_⟩
    have : i < w6.heap.size := by
      rcases o with o | o | o | o
      · exact dx.disk.disk.lt i (.inl o)
      · have := (h.rd.ref.lt i o).2; omega
      · have o : i = bx := o
        omega
      · have o : i = p.c := o
        have := h.rd.dev.lt; omega
    omega
  · refine ⟨hi.le i (.inr e), fun o => ?_⟩
    have hl := hi.low i e
    have : i < w6.heap.size := by
      rcases o with o | o | o | o
      · exact dx.disk.disk.lt i (.inl o)
      · have := (h.rd.ref.lt i o).2; omega
      · have o : i = bx := o
        omega
      · have o : i = p.c := o
        have := h.rd.dev.lt; omega
    omega
/-- A device that is down, with an image of it. -/
structure Dw (w0 w : World) (n size b : Nat) (s : Dv) (k : Dk) (D : List Nat) (W : List Wt) (T U c lo g : Nat) (hs : List Nat) : Prop where
  dev : Dev w0 w n size b s k D W
  tw : w.heap[T]? = some (.cells [.pointer (some ⟨b, 0, none⟩), .pointer (some ⟨U, 0, none⟩), .pointer (some ⟨c, 0, none⟩)].toArray 27 (0, 0))
  img : ImgAt w lo g size (secs n size D) hs
  gd : ∀ i, (i = g ∨ i ∈ hs) → ¬ k.own i ∧ i ≠ b
section
variable {w0 w w' : World} {n size b T U c lo g : Nat} {s s' : Dv} {k k' : Dk} {D : List Nat} {W W' : List Wt} {hs : List Nat}
theorem Dw.grown (h : Dw w0 w n size b s k D W T U c lo g hs) (hg : w.grownBy w' none) : Dw w0 w' n size b s k D W T U c lo g hs :=
  ⟨h.dev.then hg, (hg.block T (row_lt h.tw) (by simp)).trans h.tw, h.img.grown hg, h.gd⟩
theorem Dw.step (h : Dw w0 w n size b s k D W T U c lo g hs) (hd : Dev w0 w' n size b s' k' D W') (m : DvM w w' b k k' W W') : Dw w0 w' n size b s' k' D W' T U c lo g hs := by
  have hT : ¬ (k.own T ∨ T = b) := by
    rintro (e | e)
    · exact h.dev.disk.disk.other_off h.tw (by decide) (by decide) (by decide) e
    · have := h.dev.dev.head
      rw [← e, h.tw] at this
      simp at this
  refine ⟨hd, m.kept.at h.tw hT, h.img.off m.kept (fun e => e.elim (h.gd g (.inl rfl)).1 (h.gd g (.inl rfl)).2) (fun a ha e => e.elim (h.gd a (.inr ha)).1 (h.gd a (.inr ha)).2), fun i hi => ⟨fun e => ?_, (h.gd i hi).2⟩⟩
  rcases m.own i e with e | e
  · exact (h.gd i hi).1 e
  · have := h.img.le i hi; omega
/-- The other one has gone on; now this one. -/
theorem Aw.dw {p : Px} (h : Aw w0 w n size b s k D W T U c lo g hs p) (hlo : ∀ i, foot k W i ∨ i = b → i < lo) (hg : lo ≤ g) : Dw w0 w n size b s k D W T U c lo g hs := by
  refine ⟨h.dev, h.tw, h.img, ?_⟩
  rintro i (e | e)
  · exact ⟨fun o => by have := hlo i (.inl (.inl o)); omega, fun o => by have := hlo i (.inr o); omega⟩
  · have := h.img.low i e
    exact ⟨fun o => by have := hlo i (.inl (.inl o)); omega, fun o => by have := hlo i (.inr o); omega⟩
end
end Go.Proofs.YtaopcidkgcekdaaGreat
