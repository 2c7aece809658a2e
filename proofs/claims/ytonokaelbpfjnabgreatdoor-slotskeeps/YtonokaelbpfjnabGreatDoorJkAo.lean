/- Texts joined: Qg1, SlO, SlQ, SlB, SlA, SlLa, SlLb. -/
import Derived.Test.YtonokaelbpfjnabGreatDoorJkAg
import Derived.Test.YtonokaelbpfjnabGreatDoorJkAn
import Derived.Test.YtonokaelbpfjnabGreatDoorJkAe
import Derived.Test.YtonokaelbpfjnabGreatDoorJkAm
import Derived.Test.YtonokaelbpfjnabGreatDoorCards
import Derived.Test.YtonokaelbpfjnabGreatDoorTie
import Derived.ProofKit
import Derived.OpenShut
import Derived.Deep.DeepHandedRow
import Derived.Lib.LaidTab
import Derived.ChangeOld
import Derived.SizedLaws
/- The document's region in memory; its small calls. -/
namespace Go.Proofs.YtonokaelbpfjnabGreatDoor
open Go.RowKit Ap
attribute [local go_sem ↓] Go.wp_at_zero Go.wp_at_succ

/-- The document's region lies at r: sectors of its device c. -/
structure QgAt (w : World) (r c F C : Nat) : Prop where
  head : w.heap[r]? = some (.cells (rgcells c F C).toArray 137 (0, 0))
section
variable {w w' : World} {r c F C lo n size : Nat} {s : Dv} {q : Rk}
theorem QgAt.lt (h : QgAt w r c F C) : r < w.heap.size := row_lt h.head
theorem QgAt.same (h : QgAt w r c F C) (hb : w'.heap[r]? = w.heap[r]?) : QgAt w' r c F C := ⟨hb.trans h.head⟩
theorem QgAt.grown (h : QgAt w r c F C) (hg : w.grownBy w' none) : QgAt w' r c F C := h.same (hg.block r h.lt (by simp))
theorem QgAt.kept {S : Nat → Prop} (h : QgAt w r c F C) (hk : Kept w w' S) (hS : ¬ S r) : QgAt w' r c F C := h.same (hk.block r h.lt hS)
theorem QgAt.c0 (h : QgAt w r c F C) : w.cell? ⟨r, 0, none⟩ = some (.pointer (some ⟨c, 0, none⟩)) := cell_row h.head 0
theorem QgAt.c1 (h : QgAt w r c F C) : w.cell? ⟨r, 1, none⟩ = some (.int .i64 (F : Int)) := cell_row h.head 1
theorem QgAt.c2 (h : QgAt w r c F C) : w.cell? ⟨r, 2, none⟩ = some (.int .i64 (C : Int)) := cell_row h.head 2
theorem RDev.drew (h : RDev w lo n size c s q) (p : Nat) : RDev (w.drewN p) lo n size c s q := h.then (grown_drewN w p none)
set_option maxRecDepth 20000 in
set_option maxHeartbeats 1000000 in
theorem qbytes_at (h : RDev w lo n size c s q) (hr : QgAt w r c F C) (hC : C ≤ 65536) : Calls Tryz.prog 46 #[.pointer (some ⟨r, 0, none⟩)] w fun e w' => e = .returned (.int .i64 ((C * size : Nat) : Int)) ∧ ∃ p, w' = w.drewN p := by
  have c0 := hr.c0
  have c2 := hr.c2
  have s1 := h.ref.shape.s1
  have hm : C * size ≤ 65536 * 4096 := Nat.mul_le_mul hC s1
  have hm2 : (C : Int) * (size : Int) = ((C * size : Nat) : Int) := by simp
  have hm3 : (0 : Int) ≤ (C : Int) * (size : Int) ∧ (C : Int) * (size : Int) ≤ 268435456 := by rw [hm2]; omega
  have hm4 := hm3.1
  have hm5 := hm3.2
  have H := hide (fun p => rdsize_any (h.drew p))
  clear h hr hm2 hm hm3
  go_enter Tryz.func46, Tryz.ntmps46
  go_wp2_with fail
  go_quiet ((go_at_call 47; exact Calls.quiet_of_same (H.out _)))
  go_wp2
  go_ret
  exact ⟨rfl, _, rfl⟩
set_option maxRecDepth 20000 in
set_option maxHeartbeats 2000000 in
theorem qnew_at (h : RDev w lo n size c s q) (F C : Nat) (hok : spanOk n F C) : Calls Tryz.prog 21 #[.pointer (some ⟨c, 0, none⟩), .agg #[.int .i64 (F : Int), .int .i64 (C : Int)]] w fun e w' => ∃ r, e = .returned (.tuple #[.pointer (some ⟨r, 0, none⟩), .int .i64 0]) ∧ QgAt w' r c F C ∧ w.heap.size ≤ r ∧ w.grownBy w' none := by
  obtain ⟨h1, h2, h3⟩ := hok
  have n1 := h.ref.shape.n1
  have H : Hid (∀ w1 : World, w.grownBy w1 none → Calls Tryz.prog 43 #[.pointer (some ⟨c, 0, none⟩)] w1 fun e w' => e = .returned (.int .i64 (n : Int)) ∧ w' = w1) := fun w1 g1 => rdsectors_any (h.then g1)
  have G1 := hide (World.grownBy_alloc w (.cells #[.int .i64 (F : Int), .int .i64 (C : Int)] 53) none)
  have E := hide (span_new w F C)
  have hz := hide G1.out.size
  have h4 : (F : Int) ≤ (n : Int) := by omega
  clear h
  go_enter Tryz.func21, Tryz.ntmps21
  go_wp2_with fail
  generalize w.alloc (.cells #[.int .i64 (F : Int), .int .i64 (C : Int)] 53) = w1 at *
  have e0 := E.out.1
  have e1 := E.out.2
  generalize w.heap.size = z at *
  have HD : Hid (∀ p, Calls Tryz.prog 43 #[.pointer (some ⟨c, 0, none⟩)] (w1.drewN p) fun e w' => e = .returned (.int .i64 (n : Int)) ∧ w' = w1.drewN p) := fun p => H.out _ (grown_trans G1.out (grown_drewN w1 p none))
  have d1 : decide ((F : Int) < 0) = false := decide_eq_false (by omega)
  have d2 : decide ((C : Int) < 1) = false := decide_eq_false (by omega)
  have d3 : decide (n < F) = false := decide_eq_false (by omega)
  have d4 : decide ((n : Int) - (F : Int) < (C : Int)) = false := decide_eq_false (by omega)
  go_quiet ((go_at_call 43; exact Calls.quiet_of_same (HD.out _)))
  have e2 : (w1.drewN nq).cell? ⟨z, 0, none⟩ = some (.int .i64 (F : Int)) := e0
  have e3 : (w1.drewN nq).cell? ⟨z, 1, none⟩ = some (.int .i64 (C : Int)) := e1
  have G2 := hide (grown_trans G1.out (grown_drewN w1 nq none))
  generalize w1.drewN nq = w2 at *
  clear d1 d2 d3 d4
  go_wp2
  go_ret2
  have g3 := World.grownBy_alloc w2 (.cells (rgcells c F C).toArray 137) none
  exact ⟨w2.heap.size, rfl, ⟨heap_alloc_new w2 _⟩, by have := G2.out.size; have := hz.out; omega, grown_trans G2.out g3⟩
set_option maxRecDepth 20000 in
set_option maxHeartbeats 4000000 in
theorem qnew_bad (h : RDev w lo n size c s q) (F C : Int) (hF : F ≤ 9223372036854775807) (hok : ¬ spanOk n F C) : Calls Tryz.prog 21 #[.pointer (some ⟨c, 0, none⟩), .agg #[.int .i64 F, .int .i64 C]] w fun e w' => e = .returned (.tuple #[.pointer none, .int .i64 2]) ∧ w.grownBy w' none := by
  unfold spanOk at hok
  have n1 := h.ref.shape.n1
  have H : Hid (∀ w1 : World, w.grownBy w1 none → Calls Tryz.prog 43 #[.pointer (some ⟨c, 0, none⟩)] w1 fun e w' => e = .returned (.int .i64 (n : Int)) ∧ w' = w1) := fun w1 g1 => rdsectors_any (h.then g1)
  have G1 := hide (World.grownBy_alloc w (.cells #[.int .i64 F, .int .i64 C] 53) none)
  have E := hide (span_new w F C)
  clear h
  have hcase : F < 0 ∨ (0 ≤ F ∧ C < 1) ∨ (0 ≤ F ∧ 1 ≤ C ∧ (n : Int) < F) ∨ (0 ≤ F ∧ 1 ≤ C ∧ F ≤ (n : Int) ∧ (n : Int) - F < C) := by omega
  go_enter Tryz.func21, Tryz.ntmps21
  go_wp2_with fail
  generalize w.alloc (.cells #[.int .i64 F, .int .i64 C] 53) = w1 at *
  have e0 := E.out.1
  have e1 := E.out.2
  generalize w.heap.size = z at *
  have HD : Hid (∀ p, Calls Tryz.prog 43 #[.pointer (some ⟨c, 0, none⟩)] (w1.drewN p) fun e w' => e = .returned (.int .i64 (n : Int)) ∧ w' = w1.drewN p) := fun p => H.out _ (grown_trans G1.out (grown_drewN w1 p none))
  rcases hcase with k1 | ⟨k1, k2⟩ | ⟨k1, k2, k3⟩ | ⟨k1, k2, k3, k4⟩
  all_goals
    try (have d1 : decide (F < 0) = true := decide_eq_true (by omega))
    try (have d1 : decide (F < 0) = false := decide_eq_false (by omega))
    try (have d2 : decide (C < 1) = true := decide_eq_true (by omega))
    try (have d2 : decide (C < 1) = false := decide_eq_false (by omega))
    try (have d3 : decide ((n : Int) < F) = true := decide_eq_true (by omega))
    try (have d3 : decide ((n : Int) < F) = false := decide_eq_false (by omega))
    try (have d4 : decide ((n : Int) - F < C) = true := decide_eq_true (by omega))
    go_quiet ((go_at_call 43; exact Calls.quiet_of_same (HD.out _)))
    have G2 := hide (grown_trans G1.out (grown_drewN w1 nq none))
    generalize w1.drewN nq = w2 at *
    go_wp2
    go_ret2
    exact ⟨rfl, G2.out⟩
end
end Go.Proofs.YtonokaelbpfjnabGreatDoor
/- The document's slots: New, Bytes; made. -/
namespace Go.Proofs.YtonokaelbpfjnabGreatDoor
open Go.RowKit Ap
attribute [local go_sem ↓] Go.wp_at_zero Go.wp_at_succ
/-- The document's slots lie there. -/
structure RsAt (w : World) (s r1 r2 : Nat) : Prop where
  head : w.heap[s]? = some (.cells [rp r1, rp r2].toArray 139 (0, 0))
theorem RsAt.grown {w w' : World} {s r1 r2 : Nat} (h : RsAt w s r1 r2) (hg : w.grownBy w' none) : RsAt w' s r1 r2 := ⟨(hg.block _ (row_lt h.head) (by simp)).trans h.head⟩
section
variable {w w' : World} {lo n size c r1 r2 F1 F2 C : Nat} {s : Dv} {q : Rk}
set_option maxRecDepth 20000 in
set_option maxHeartbeats 4000000 in
theorem rsNew_at (h : RDev w lo n size c s q) (h1 : QgAt w r1 c F1 C) (h2 : QgAt w r2 c F2 C) (hC : 2 ≤ C) (hC2 : C ≤ 65536) : Calls Tryz.prog 23 #[rp r1, rp r2] w fun e w' => ∃ sw, e = .returned (.tuple #[.pointer (some ⟨sw, 0, none⟩), .int .i64 0]) ∧ w.heap.size ≤ sw ∧ RsAt w' sw r1 r2 ∧ w.grownBy w' none := by
  unfold rp
  have g1 := World.grownBy_alloc w (.cells #[.pointer (some ⟨r1, 0, none⟩), .pointer (some ⟨r2, 0, none⟩)] 139) none
  have b1 : (w.alloc (.cells #[.pointer (some ⟨r1, 0, none⟩), .pointer (some ⟨r2, 0, none⟩)] 139)).heap[w.heap.size]? = some (.cells [rp r1, rp r2].toArray 139 (0, 0)) := heap_alloc_new w _
  generalize hw1 : w.alloc (.cells #[.pointer (some ⟨r1, 0, none⟩), .pointer (some ⟨r2, 0, none⟩)] 139) = w1 at *
  have HA := hide (fun p => qbytes_at ((h.then g1).drew p) ((h1.grown g1).grown (grown_drewN w1 p none)) hC2)
  have HB := hide (fun p => qbytes_at ((h.then g1).drew p) ((h2.grown g1).grown (grown_drewN w1 p none)) hC2)
  have HS := hide (fun p => rdsize_any ((h.then g1).drew p))
  have c0 := (h1.grown g1).c0
  have c2 := (h1.grown g1).c2
  have d0 := (h2.grown g1).c0
  have HG := hide (And.intro g1 b1)
  have hlt : ¬ (C : Int) < 2 := by omega
  have hltd : decide ((C : Int) < 2) = false := decide_eq_false hlt
  generalize C * size = B at *
  clear h h1 h2 g1 b1
  go_enter Tryz.func23, Tryz.ntmps23
  go_wp2_with fail
  clear hw1
  go_quiet (first | (go_at_call_of 46 (Value.pointer (some ⟨r1, 0, none⟩)); exact Calls.quiet_of (HA.out _)) | (go_at_call_of 46 (Value.pointer (some ⟨r2, 0, none⟩)); exact Calls.quiet_of (HB.out _)) | (go_at_call 47; exact Calls.quiet_of_same (HS.out _)))
  go_wp2
  go_ret2
  exact ⟨_, rfl, Nat.le_refl _, ⟨HG.out.2⟩, grown_trans HG.out.1 (grown_drewN _ _ none)⟩
set_option maxRecDepth 20000 in
set_option maxHeartbeats 4000000 in
theorem rsBytes_at {sw : Nat} (hs : RsAt w sw r1 r2) (h : RDev w lo n size c s q) (h1 : QgAt w r1 c F1 C) (hC : 1 ≤ C) (hC2 : C ≤ 65536) (hz : size ≤ 4096) : Calls Tryz.prog 24 #[.pointer (some ⟨sw, 0, none⟩)] w fun e w' => e = .returned (.int .i64 (((C - 1) * size : Nat) : Int)) ∧ w.grownBy w' none := by
  have HA := hide (fun p => qbytes_at (h.drew p) (h1.grown (grown_drewN w p none)) hC2)
  have HS := hide (fun p => rdsize_any (h.drew p))
  have a0 : w.cell? ⟨sw, 0, none⟩ = some (.pointer (some ⟨r1, 0, none⟩)) := cell_row hs.head 0
  have c0 := h1.c0
  have e1 : (((C - 1) * size : Nat) : Int) = ((C * size : Nat) : Int) - (size : Int) := by
    obtain ⟨c, rfl⟩ : ∃ c, C = c + 1 := ⟨C - 1, by omega⟩
    rw [Nat.add_mul]
    simp
  rw [e1]
  have hB : C * size ≤ 65536 * 4096 := Nat.mul_le_mul hC2 hz
  have hB0 : size ≤ C * size := Nat.le_mul_of_pos_left _ hC
  clear h h1 hs e1
  generalize C * size = B at *
  have hw : IntKind.i64.wrap ((B : Int) - (size : Int)) = (B : Int) - (size : Int) := by rw [IntKind.wrap_i64]; omega
  go_enter Tryz.func24, Tryz.ntmps24
  go_wp2_with fail
  go_quiet (first | (go_at_call 46; exact Calls.quiet_of (HA.out _)) | (go_at_call 47; exact Calls.quiet_of_same (HS.out _)))
  go_wp2
  go_ret
  exact ⟨rfl, grown_drewN _ _ none⟩
end
end Go.Proofs.YtonokaelbpfjnabGreatDoor
/- made. -/
namespace Go.Proofs.YtonokaelbpfjnabGreatDoor
open Go.RowKit Ap
attribute [local go_sem ↓] Go.wp_at_zero Go.wp_at_succ
/-- Slots over a device, as the statements make them. -/
structure BoP (w0 w : World) (X b sl ra rb Fa Fb C : Nat) (s : Dv) (k : Dk) (D : List Nat) (W : List Wt) : Prop where
  box : ∃ c r : Value, w.heap[X]? = some (.cells [rp b, rp sl, c, r].toArray 37 (0, 0))
  dev : Dev w0 w 10 64 b s k D W
  hra : RgAt w ra b Fa C
  hrb : RgAt w rb b Fb C
  hsl : SlAt w sl ra rb
section
variable {w w' : World} {lo n size c X : Nat} {s : Dv} {q : Rk} {cc : Array Value} {fr : Nat × Nat}
theorem RDev.rowX (h : RDev w lo n size c s q) (hX : w.heap[X]? = some (.cells cc 37 fr)) (g : w.grownBy w' (some X)) : RDev w' lo n size c s q := by
  refine ⟨h.ref.kept (Kept.of (S := fun j => j = X) g (fun j e _ => (Option.some.inj e).symm)) (fun i hi e => ?_), ⟨(g.block c (row_lt h.dev.head) (fun e => ?_)).trans h.dev.head, h.dev.ok⟩, h.low⟩
  · have := h.ref.other_off hX (by decide) (by decide) (by decide) (by decide)
    exact this (e ▸ hi)
  · cases e
    have := h.dev.head
    rw [hX] at this
    simp at this
theorem Dev.rowX {w0 : World} {b : Nat} {k : Dk} {D : List Nat} {W : List Wt} (hd : Dev w0 w n size b s k D W) (hX : w.heap[X]? = some (.cells cc 37 fr)) (hl : w0.heap.size ≤ X) (g : w.grownBy w' (some X)) : Dev w0 w' n size b s k D W := by
  have hf := hd.far hX (by decide) (by decide) (by decide) (by decide)
  refine hd.row g ?_ hf.2 hl
  rintro (e | ⟨x, hx, e⟩)
  · exact hf.1 e
  · have h3 := (hd.disk.disk.waits x hx).2.2.2
    rw [e, hX] at h3
    simp at h3
theorem off71 {i t : Nat} {c2 : Array Value} {fr2 : Nat × Nat} (hi : w.heap[i]? = some (.cells c2 t fr2)) (ht : t ≠ 37) (hX : w.heap[X]? = some (.cells cc 37 fr)) (g : w.grownBy w' (some X)) : w'.heap[i]? = some (.cells c2 t fr2) := by
  refine (g.block i (row_lt hi) (fun e => ?_)).trans hi
  cases e
  rw [hX] at hi
  simp at hi
  exact ht hi.2.1.symm
theorem span_at {F C : Nat} (h : w.heap[X]? = some (.cells [Value.int .i64 (F : Int), .int .i64 (C : Int)].toArray 53 (0, 0))) : w.cell? ⟨X, 0, none⟩ = some (.int .i64 (F : Int)) ∧ w.cell? ⟨X, 1, none⟩ = some (.int .i64 (C : Int)) := ⟨cell_row h 0, cell_row h 1⟩
end
/-- Inside made. -/
structure MdS (w0 wr : World) (X P b c : Nat) (k : Dk) (q : Rk) (Fa Fb C : Nat) (v0 v1 v2 v3 : Value) : Prop where
  g : w0.grownBy wr none
  box : wr.heap[X]? = some (.cells [v0, v1, v2, v3].toArray 37 (0, 0))
  p0 : wr.heap[P]? = some (.cells [Value.int .i64 (Fa : Int), .int .i64 (C : Int)].toArray 53 (0, 0))
  p1 : wr.heap[P + 1]? = some (.cells [Value.int .i64 (Fb : Int), .int .i64 (C : Int)].toArray 53 (0, 0))
  dev : Dev w0 wr 10 64 b Dv.anew k (zs 640) []
  rdev : RDev wr w0.heap.size 10 64 c Dv.anew q
  low : w0.heap.size ≤ X
section
variable {w0 wr w' : World} {X P b c Fa Fb C : Nat} {k : Dk} {q : Rk} {v0 v1 v2 v3 : Value}
theorem MdS.grown (h : MdS w0 wr X P b c k q Fa Fb C v0 v1 v2 v3) (hg : wr.grownBy w' none) : MdS w0 w' X P b c k q Fa Fb C v0 v1 v2 v3 :=
  ⟨grown_trans h.g hg, (hg.block _ (row_lt h.box) (by simp)).trans h.box, (hg.block _ (row_lt h.p0) (by simp)).trans h.p0, (hg.block _ (row_lt h.p1) (by simp)).trans h.p1, h.dev.then hg, h.rdev.then hg, h.low⟩
theorem MdS.set (h : MdS w0 wr X P b c k q Fa Fb C v0 v1 v2 v3) (j : Nat) (u : Value) (y0 y1 y2 y3 : Value) (he : [v0, v1, v2, v3].set j u = [y0, y1, y2, y3]) : MdS w0 (wr.setCell ⟨X, j, none⟩ u) X P b c k q Fa Fb C y0 y1 y2 y3 := by
  have hg := grown_setCell wr X j u
  refine ⟨grown_then h.g hg (fun i e => by cases e; exact Or.inl h.low), ?_, off71 h.p0 (by decide) h.box hg, off71 h.p1 (by decide) h.box hg, h.dev.rowX h.box h.low hg, h.rdev.rowX h.box hg, h.low⟩
  rw [← he]; exact row_setCell h.box j u
theorem MdS.cells (h : MdS w0 wr X P b c k q Fa Fb C v0 v1 v2 v3) : wr.cell? ⟨X, 0, none⟩ = some v0 ∧ wr.cell? ⟨X, 1, none⟩ = some v1 ∧ wr.cell? ⟨X, 2, none⟩ = some v2 ∧ wr.cell? ⟨X, 3, none⟩ = some v3 ∧ wr.cell? ⟨P, 0, none⟩ = some (.int .i64 (Fa : Int)) ∧ wr.cell? ⟨P, 1, none⟩ = some (.int .i64 (C : Int)) ∧ wr.cell? ⟨P + 1, 0, none⟩ = some (.int .i64 (Fb : Int)) ∧ wr.cell? ⟨P + 1, 1, none⟩ = some (.int .i64 (C : Int)) :=
  ⟨cell_row h.box 0, cell_row h.box 1, cell_row h.box 2, cell_row h.box 3, cell_row h.p0 0, cell_row h.p0 1, cell_row h.p1 0, cell_row h.p1 1⟩
end
theorem may1064 : mayB (10 : Int) (64 : Int) = true := by decide
theorem two52 (w : World) (a b c d : Value) :
    ((w.alloc (.cells #[a, b] 53)).alloc (.cells #[c, d] 53)).heap[w.heap.size]? = some (.cells [a, b].toArray 53 (0, 0)) ∧ ((w.alloc (.cells #[a, b] 53)).alloc (.cells #[c, d] 53)).heap[w.heap.size + 1]? = some (.cells [c, d].toArray 53 (0, 0)) ∧ w.grownBy ((w.alloc (.cells #[a, b] 53)).alloc (.cells #[c, d] 53)) none := by
  have h1 := heap_alloc_new w (.cells #[a, b] 53)
  have h2 := heap_alloc_new (w.alloc (.cells #[a, b] 53)) (.cells #[c, d] 53)
  rw [World.size_alloc] at h2
  exact ⟨((World.grownBy_alloc (w.alloc (.cells #[a, b] 53)) (.cells #[c, d] 53) none).block _ (row_lt h1) (by simp)).trans h1, h2, grown_trans (World.grownBy_alloc w _ none) (World.grownBy_alloc _ _ none)⟩
set_option maxRecDepth 20000 in
set_option maxHeartbeats 8000000 in
theorem made_of (x : Int) (Fa Fb C : Nat) (w : World) (hsp : ∀ w, Calls Tryz.prog 15 #[.int .i64 x] w fun e w' => e = .returned (.tuple #[spV Fa C, spV Fb C]) ∧ w.grownBy w' none) (hC : 2 ≤ C) (hFa : Fa + C ≤ 10) (hFb : Fb + C ≤ 10) :
    Calls Tryz.prog 5 #[.int .i64 x] w fun e w' => ∃ X b sl ra rb k, e = .returned (.tuple #[.pointer (some ⟨X, 0, none⟩), .bool true]) ∧ BoP w w' X b sl ra rb Fa Fb C Dv.anew k (zs 640) [] ∧ w.grownBy w' none := by
  have HSp := hide hsp
  have hokA : spanOk 10 (Fa : Int) (C : Int) := ⟨by omega, by omega, by omega⟩
  have hokB : spanOk 10 (Fb : Int) (C : Int) := ⟨by omega, by omega, by omega⟩
  have HO := hide (And.intro hokA hokB)
  clear hsp hokA hokB
  unfold spV at HSp
  go_enter Tryz.func5, Tryz.ntmps5
  go_wp2_with fail
  refine (HSp.out _).mono ?_
  rintro e w1 ⟨rfl, g1⟩
  obtain ⟨p0, p1, g2⟩ := two52 w1 (.int .i64 (Fa : Int)) (.int .i64 (C : Int)) (.int .i64 (Fb : Int)) (.int .i64 (C : Int))
  have G2 := hide (And.intro (grown_trans g1 g2) (And.intro p0 p1))
  clear g1 g2 p0 p1
  obtain ⟨P, hP⟩ : ∃ P, w1.heap.size = P := ⟨_, rfl⟩
  rw [hP] at G2
  go_wp2_with fail
  clear hP
  generalize ((w1.alloc (.cells #[.int .i64 (Fa : Int), .int .i64 (C : Int)] 53)).alloc (.cells #[.int .i64 (Fb : Int), .int .i64 (C : Int)] 53)) = w2 at *
  refine (newS 10 64 w w2 G2.out.1 may1064).mono ?_
  rintro e w3 ⟨k, rfl, hdk, g3, hown⟩
  have G3 := hide (And.intro (grown_trans G2.out.1 g3) (And.intro ((g3.block _ (row_lt G2.out.2.1) (by simp)).trans G2.out.2.1) (And.intro ((g3.block _ (row_lt G2.out.2.2) (by simp)).trans G2.out.2.2) hdk)))
  clear g3 hdk hown G2
  go_wp2_with fail
  refine (rnew_any 10 64 w3 may1064).mono ?_
  rintro e w4 ⟨q, rfl, hrf, hq1, hq2, g4⟩
  have G4 := hide (And.intro (grown_trans G3.out.1 g4) (And.intro ((g4.block _ (row_lt G3.out.2.1) (by simp)).trans G3.out.2.1) (And.intro ((g4.block _ (row_lt G3.out.2.2.1) (by simp)).trans G3.out.2.2.1) (And.intro (G3.out.2.2.2.then g4) (hrf.mono G3.out.1.size)))))
  clear g4 hrf hq1 hq2 G3
  go_wp2_with fail
  refine (rdnew_any G4.out.2.2.2.2 G4.out.1.size).mono ?_
  rintro e w5 ⟨c, rfl, hrd, hc, g5⟩
  have G5 := hide (And.intro (grown_trans G4.out.1 g5) (And.intro ((g5.block _ (row_lt G4.out.2.1) (by simp)).trans G4.out.2.1) (And.intro ((g5.block _ (row_lt G4.out.2.2.1) (by simp)).trans G4.out.2.2.1) (And.intro (G4.out.2.2.2.1.then g5) hrd))))
  clear g5 hrd hc G4
  go_wp2_with fail
  have b6 : (w5.alloc (.cells #[.pointer none, .pointer none, .pointer (some ⟨c, 0, none⟩), .pointer none] 37)).heap[w5.heap.size]? = some (.cells [Value.pointer none, .pointer none, .pointer (some ⟨c, 0, none⟩), .pointer none].toArray 37 (0, 0)) := heap_alloc_new w5 _
  have g6 := World.grownBy_alloc w5 (.cells #[.pointer none, .pointer none, .pointer (some ⟨c, 0, none⟩), .pointer none] 37) none
  obtain ⟨X, hX⟩ : ∃ X, w5.heap.size = X := ⟨_, rfl⟩
  rw [hX] at b6 ⊢
  have hXl : w.heap.size ≤ X := by rw [← hX]; exact G5.out.1.size
  generalize (w5.alloc (.cells #[.pointer none, .pointer none, .pointer (some ⟨c, 0, none⟩), .pointer none] 37)) = w6 at *
  refine (dnew_any rfl (G5.out.2.2.2.1.then g6)).mono ?_
  rintro e w7 ⟨b, rfl, hdv, hb, g7⟩
  have M7 : Hid (MdS w w7 X P b c k q Fa Fb C (.pointer none) (.pointer none) (.pointer (some ⟨c, 0, none⟩)) (.pointer none)) :=
    ⟨grown_trans G5.out.1 (grown_trans g6 g7), (g7.block _ (row_lt b6) (by simp)).trans b6, ((grown_trans g6 g7).block _ (row_lt G5.out.2.1) (by simp)).trans G5.out.2.1, ((grown_trans g6 g7).block _ (row_lt G5.out.2.2.1) (by simp)).trans G5.out.2.2.1, hdv, G5.out.2.2.2.2.then (grown_trans g6 g7), hXl⟩
  have M8 := hide (M7.out.set 0 (.pointer (some ⟨b, 0, none⟩)) _ _ _ _ rfl)
  have f0 := free_row M7.out.box 0
  obtain ⟨c0, c1, c2, c3, _⟩ := M7.out.cells
  clear hX hXl hdv hb g7 g6 b6 G5
  go_wp2_with fail
  generalize w7.setCell ⟨X, 0, none⟩ (.pointer (some ⟨b, 0, none⟩)) = w8 at *
  clear c0 c1 c2 c3 f0 M7
  obtain ⟨c0, c1, c2, c3, u0, u1, u2, u3⟩ := M8.out.cells
  clear c0 c1 c2 c3 u0 u1 u2 u3
  have HS8 : Hid (∀ w9 : World, w8.grownBy w9 none → w9.cell? ⟨X, 0, none⟩ = some (.pointer (some ⟨b, 0, none⟩)) ∧ w9.cell? ⟨X, 2, none⟩ = some (.pointer (some ⟨c, 0, none⟩)) ∧ w9.cell? ⟨P, 0, none⟩ = some (.int .i64 (Fa : Int)) ∧ w9.cell? ⟨P, 1, none⟩ = some (.int .i64 (C : Int)) ∧ w9.cell? ⟨P + 1, 0, none⟩ = some (.int .i64 (Fb : Int)) ∧ w9.cell? ⟨P + 1, 1, none⟩ = some (.int .i64 (C : Int))) := fun w9 hg9 => by
    obtain ⟨a0, a1, a2, a3, a4, a5, a6, a7⟩ := (M8.out.grown hg9).cells
    exact ⟨a0, a2, a4, a5, a6, a7⟩
  obtain ⟨c0, c2, u0, u1, u2, u3⟩ := HS8.out w8 (grown_refl _ none)
  go_region_held3 (fun w9 => w9.cell? ⟨X, 0, none⟩ = some (.pointer (some ⟨b, 0, none⟩)) ∧ w9.cell? ⟨X, 2, none⟩ = some (.pointer (some ⟨c, 0, none⟩)) ∧ w9.cell? ⟨P, 0, none⟩ = some (.int .i64 (Fa : Int)) ∧ w9.cell? ⟨P, 1, none⟩ = some (.int .i64 (C : Int)) ∧ w9.cell? ⟨P + 1, 0, none⟩ = some (.int .i64 (Fb : Int)) ∧ w9.cell? ⟨P + 1, 1, none⟩ = some (.int .i64 (C : Int))) (first | exact ⟨c0, c2, u0, u1, u2, u3⟩ | assumption | exact HS8.out _ (grown_drew _ none)) ((go_at_call 20; refine (gnew_at (M8.out.grown (grown_drew _ none)).dev Fa C HO.out.1).mono ?_; rintro e10 w10 ⟨ra, rfl, hr10, hl10, g10⟩; have hk10 := HS8.out _ (grown_trans (grown_drew _ none) g10); have M10 := hide (M8.out.grown (grown_trans (grown_drew _ none) g10)); have E10 := hide (And.intro hr10 (grown_trans (grown_drew w8 none) g10)); clear hr10 g10))
  clear c0 c2 u0 u1 u2 u3 hk10 HS8 hl10
  go_wp2_with fail
  have HS10 : Hid (∀ w9 : World, w10.grownBy w9 none → w9.cell? ⟨X, 0, none⟩ = some (.pointer (some ⟨b, 0, none⟩)) ∧ w9.cell? ⟨X, 2, none⟩ = some (.pointer (some ⟨c, 0, none⟩)) ∧ w9.cell? ⟨P, 0, none⟩ = some (.int .i64 (Fa : Int)) ∧ w9.cell? ⟨P, 1, none⟩ = some (.int .i64 (C : Int)) ∧ w9.cell? ⟨P + 1, 0, none⟩ = some (.int .i64 (Fb : Int)) ∧ w9.cell? ⟨P + 1, 1, none⟩ = some (.int .i64 (C : Int))) := fun w9 hg9 => by
    obtain ⟨a0, a1, a2, a3, a4, a5, a6, a7⟩ := (M10.out.grown hg9).cells
    exact ⟨a0, a2, a4, a5, a6, a7⟩
  obtain ⟨c0, c2, u0, u1, u2, u3⟩ := HS10.out w10 (grown_refl _ none)
  go_region_held3 (fun w9 => w9.cell? ⟨X, 0, none⟩ = some (.pointer (some ⟨b, 0, none⟩)) ∧ w9.cell? ⟨X, 2, none⟩ = some (.pointer (some ⟨c, 0, none⟩)) ∧ w9.cell? ⟨P, 0, none⟩ = some (.int .i64 (Fa : Int)) ∧ w9.cell? ⟨P, 1, none⟩ = some (.int .i64 (C : Int)) ∧ w9.cell? ⟨P + 1, 0, none⟩ = some (.int .i64 (Fb : Int)) ∧ w9.cell? ⟨P + 1, 1, none⟩ = some (.int .i64 (C : Int))) (first | exact ⟨c0, c2, u0, u1, u2, u3⟩ | assumption | exact HS10.out _ (grown_drew _ none)) ((go_at_call 20; refine (gnew_at (M10.out.grown (grown_drew _ none)).dev Fb C HO.out.2).mono ?_; rintro e11 w11 ⟨rb, rfl, hr11, hl11, g11⟩; have hk11 := HS10.out _ (grown_trans (grown_drew _ none) g11); have M11 := hide (M10.out.grown (grown_trans (grown_drew _ none) g11)); have E11 := hide (And.intro hr11 (grown_trans (grown_drew w10 none) g11)); clear hr11 g11))
  clear c0 c2 u0 u1 u2 u3 hk11 HS10 hl11
  go_wp2_with fail
  have HS11 : Hid (∀ w9 : World, w11.grownBy w9 none → w9.cell? ⟨X, 0, none⟩ = some (.pointer (some ⟨b, 0, none⟩)) ∧ w9.cell? ⟨X, 2, none⟩ = some (.pointer (some ⟨c, 0, none⟩)) ∧ w9.cell? ⟨P, 0, none⟩ = some (.int .i64 (Fa : Int)) ∧ w9.cell? ⟨P, 1, none⟩ = some (.int .i64 (C : Int)) ∧ w9.cell? ⟨P + 1, 0, none⟩ = some (.int .i64 (Fb : Int)) ∧ w9.cell? ⟨P + 1, 1, none⟩ = some (.int .i64 (C : Int))) := fun w9 hg9 => by
    obtain ⟨a0, a1, a2, a3, a4, a5, a6, a7⟩ := (M11.out.grown hg9).cells
    exact ⟨a0, a2, a4, a5, a6, a7⟩
  obtain ⟨c0, c2, u0, u1, u2, u3⟩ := HS11.out w11 (grown_refl _ none)
  go_region_held3 (fun w9 => w9.cell? ⟨X, 0, none⟩ = some (.pointer (some ⟨b, 0, none⟩)) ∧ w9.cell? ⟨X, 2, none⟩ = some (.pointer (some ⟨c, 0, none⟩)) ∧ w9.cell? ⟨P, 0, none⟩ = some (.int .i64 (Fa : Int)) ∧ w9.cell? ⟨P, 1, none⟩ = some (.int .i64 (C : Int)) ∧ w9.cell? ⟨P + 1, 0, none⟩ = some (.int .i64 (Fb : Int)) ∧ w9.cell? ⟨P + 1, 1, none⟩ = some (.int .i64 (C : Int))) (first | exact ⟨c0, c2, u0, u1, u2, u3⟩ | assumption | exact HS11.out _ (grown_drew _ none)) ((go_at_call 21; refine (qnew_at (M11.out.grown (grown_drew _ none)).rdev Fa C HO.out.1).mono ?_; rintro e12 w12 ⟨r1, rfl, hr12, hl12, g12⟩; have hk12 := HS11.out _ (grown_trans (grown_drew _ none) g12); have M12 := hide (M11.out.grown (grown_trans (grown_drew _ none) g12)); have E12 := hide (And.intro hr12 (grown_trans (grown_drew w11 none) g12)); clear hr12 g12))
  clear c0 c2 u0 u1 u2 u3 hk12 HS11 hl12
  go_wp2_with fail
  have HS12 : Hid (∀ w9 : World, w12.grownBy w9 none → w9.cell? ⟨X, 0, none⟩ = some (.pointer (some ⟨b, 0, none⟩)) ∧ w9.cell? ⟨X, 2, none⟩ = some (.pointer (some ⟨c, 0, none⟩)) ∧ w9.cell? ⟨P, 0, none⟩ = some (.int .i64 (Fa : Int)) ∧ w9.cell? ⟨P, 1, none⟩ = some (.int .i64 (C : Int)) ∧ w9.cell? ⟨P + 1, 0, none⟩ = some (.int .i64 (Fb : Int)) ∧ w9.cell? ⟨P + 1, 1, none⟩ = some (.int .i64 (C : Int))) := fun w9 hg9 => by
    obtain ⟨a0, a1, a2, a3, a4, a5, a6, a7⟩ := (M12.out.grown hg9).cells
    exact ⟨a0, a2, a4, a5, a6, a7⟩
  obtain ⟨c0, c2, u0, u1, u2, u3⟩ := HS12.out w12 (grown_refl _ none)
  go_region_held3 (fun w9 => w9.cell? ⟨X, 0, none⟩ = some (.pointer (some ⟨b, 0, none⟩)) ∧ w9.cell? ⟨X, 2, none⟩ = some (.pointer (some ⟨c, 0, none⟩)) ∧ w9.cell? ⟨P, 0, none⟩ = some (.int .i64 (Fa : Int)) ∧ w9.cell? ⟨P, 1, none⟩ = some (.int .i64 (C : Int)) ∧ w9.cell? ⟨P + 1, 0, none⟩ = some (.int .i64 (Fb : Int)) ∧ w9.cell? ⟨P + 1, 1, none⟩ = some (.int .i64 (C : Int))) (first | exact ⟨c0, c2, u0, u1, u2, u3⟩ | assumption | exact HS12.out _ (grown_drew _ none)) ((go_at_call 21; refine (qnew_at (M12.out.grown (grown_drew _ none)).rdev Fb C HO.out.2).mono ?_; rintro e13 w13 ⟨r2, rfl, hr13, hl13, g13⟩; have hk13 := HS12.out _ (grown_trans (grown_drew _ none) g13); have M13 := hide (M12.out.grown (grown_trans (grown_drew _ none) g13)); have E13 := hide (And.intro hr13 (grown_trans (grown_drew w12 none) g13)); clear hr13 g13))
  clear c0 c2 u0 u1 u2 u3 hk13 HS12 hl13
  have hra := (((E10.out.1.grown E11.out.2).grown E12.out.2).grown E13.out.2)
  have hrb := ((E11.out.1.grown E12.out.2).grown E13.out.2)
  have hr1 := E12.out.1.grown E13.out.2
  have hr2 := E13.out.1
  have HR := hide (And.intro hra (And.intro hrb (And.intro hr1 hr2)))
  clear hra hrb hr1 hr2 E10 E11 E12 E13 M8 M10 M11 M12
  go_wp2_with fail
  refine (sNew_at M13.out.dev HR.out.1 HR.out.2.1 hC (by omega) (by decide) (by decide)).mono ?_
  rintro e w14 ⟨sl, rfl, hsl, hsA, g14⟩
  have M14 := hide (M13.out.grown g14)
  have M15 := hide (M14.out.set 1 (.pointer (some ⟨sl, 0, none⟩)) _ _ _ _ rfl)
  have f1 := free_row M14.out.box 1
  obtain ⟨c0, c1, c2, c3, u0, u1, u2, u3⟩ := M14.out.cells
  have gX := grown_setCell w14 X 1 (.pointer (some ⟨sl, 0, none⟩))
  have HR15 : Hid (RgAt (w14.setCell ⟨X, 1, none⟩ (.pointer (some ⟨sl, 0, none⟩))) ra b Fa C ∧ RgAt (w14.setCell ⟨X, 1, none⟩ (.pointer (some ⟨sl, 0, none⟩))) rb b Fb C ∧ QgAt (w14.setCell ⟨X, 1, none⟩ (.pointer (some ⟨sl, 0, none⟩))) r1 c Fa C ∧ QgAt (w14.setCell ⟨X, 1, none⟩ (.pointer (some ⟨sl, 0, none⟩))) r2 c Fb C ∧ SlAt (w14.setCell ⟨X, 1, none⟩ (.pointer (some ⟨sl, 0, none⟩))) sl ra rb) :=
    ⟨⟨off71 (HR.out.1.grown g14).head (by decide) M14.out.box gX⟩, ⟨off71 (HR.out.2.1.grown g14).head (by decide) M14.out.box gX⟩, ⟨off71 (HR.out.2.2.1.grown g14).head (by decide) M14.out.box gX⟩, ⟨off71 (HR.out.2.2.2.grown g14).head (by decide) M14.out.box gX⟩, ⟨off71 hsA.head (by decide) M14.out.box gX⟩⟩
  clear gX g14 hsl hsA HR M13
  go_wp2_with fail
  generalize w14.setCell ⟨X, 1, none⟩ (.pointer (some ⟨sl, 0, none⟩)) = w15 at *
  clear c0 c1 c2 c3 u0 u1 u2 u3 f1 M14
  refine (rsNew_at M15.out.rdev HR15.out.2.2.1 HR15.out.2.2.2.1 hC (by omega)).mono ?_
  rintro e w16 ⟨sw, rfl, hsw, hsB, g16⟩
  have M16 := hide (M15.out.grown g16)
  have M17 := hide (M16.out.set 3 (.pointer (some ⟨sw, 0, none⟩)) _ _ _ _ rfl)
  have f3 := free_row M16.out.box 3
  obtain ⟨c0, c1, c2, c3, u0, u1, u2, u3⟩ := M16.out.cells
  have gX := grown_setCell w16 X 3 (.pointer (some ⟨sw, 0, none⟩))
  have HR17 : Hid (RgAt (w16.setCell ⟨X, 3, none⟩ (.pointer (some ⟨sw, 0, none⟩))) ra b Fa C ∧ RgAt (w16.setCell ⟨X, 3, none⟩ (.pointer (some ⟨sw, 0, none⟩))) rb b Fb C ∧ QgAt (w16.setCell ⟨X, 3, none⟩ (.pointer (some ⟨sw, 0, none⟩))) r1 c Fa C ∧ SlAt (w16.setCell ⟨X, 3, none⟩ (.pointer (some ⟨sw, 0, none⟩))) sl ra rb ∧ RsAt (w16.setCell ⟨X, 3, none⟩ (.pointer (some ⟨sw, 0, none⟩))) sw r1 r2) :=
    ⟨⟨off71 (HR15.out.1.grown g16).head (by decide) M16.out.box gX⟩, ⟨off71 (HR15.out.2.1.grown g16).head (by decide) M16.out.box gX⟩, ⟨off71 (HR15.out.2.2.1.grown g16).head (by decide) M16.out.box gX⟩, ⟨off71 (HR15.out.2.2.2.2.grown g16).head (by decide) M16.out.box gX⟩, ⟨off71 hsB.head (by decide) M16.out.box gX⟩⟩
  have c1' := M17.out.cells.2.1
  clear gX g16 hsw hsB HR15 M15
  go_wp2_with fail
  generalize w16.setCell ⟨X, 3, none⟩ (.pointer (some ⟨sw, 0, none⟩)) = w17 at *
  clear c0 c1 c2 c3 u0 u1 u2 u3 f3 M16
  refine (sBytes_at HR17.out.2.2.2.1 M17.out.dev HR17.out.1 (by omega) (by omega) (by decide)).mono ?_
  rintro e w18 ⟨rfl, g18⟩
  have M18 := hide (And.intro (M17.out.grown g18) (And.intro (HR17.out.1.grown g18) (And.intro (HR17.out.2.1.grown g18) (And.intro (HR17.out.2.2.1.grown g18) (And.intro (HR17.out.2.2.2.1.grown g18) (HR17.out.2.2.2.2.grown g18))))))
  clear g18 HR17 M17 c1'
  have HB := hide (rsBytes_at M18.out.2.2.2.2.2 M18.out.1.rdev M18.out.2.2.2.1 (by omega) (by omega) (by decide))
  generalize (C - 1) * 64 = B at *
  go_wp2_with fail
  refine HB.out.mono ?_
  rintro e w19 ⟨rfl, g19⟩
  have M19 := hide (And.intro (M18.out.1.grown g19) (And.intro (M18.out.2.1.grown g19) (And.intro (M18.out.2.2.1.grown g19) (M18.out.2.2.2.2.1.grown g19))))
  clear g19 M18 HB
  go_wp2
  go_ret2
  exact ⟨X, b, sl, ra, rb, k, rfl, ⟨⟨_, _, M19.out.1.box⟩, M19.out.1.dev, M19.out.2.1, M19.out.2.2.1, M19.out.2.2.2⟩, M19.out.1.g⟩
theorem made_zero (w : World) : Calls Tryz.prog 5 #[.int .i64 0] w fun e w' => ∃ X b sl ra rb k, e = .returned (.tuple #[.pointer (some ⟨X, 0, none⟩), .bool true]) ∧ BoP w w' X b sl ra rb 0 5 4 Dv.anew k (zs 640) [] ∧ w.grownBy w' none :=
  made_of 0 0 5 4 w (fun w => spans_zero 0 0 rfl (.inl rfl) w) (by decide) (by decide) (by decide)
end Go.Proofs.YtonokaelbpfjnabGreatDoor
/- Saves and loads over a device that is not armed. -/
namespace Go.Proofs.YtonokaelbpfjnabGreatDoor
open Go.RowKit Ap
section
variable {w0 w w' : World} {X b sl ra rb Fa Fb C c : Nat} {s s' : Dv} {k k' : Dk} {D D' T : List Nat} {W W' : List Wt} {R : Fm.Hd × Option (List Nat) × Int}
/-- What lies apart from the device stays. -/
theorem BoP.moved (h : BoP w0 w X b sl ra rb Fa Fb C s k D W) (hd : Dev w0 w' 10 64 b s' k' D' W') (hk : Kept w w' (fun i => k.own i ∨ i = b)) : BoP w0 w' X b sl ra rb Fa Fb C s' k' D' W' := by
  obtain ⟨c, r, hb⟩ := h.box
  have hf := h.dev.far hb (by decide) (by decide) (by decide) (by decide)
  exact ⟨⟨c, r, hk.at hb (fun e => e.elim hf.1 hf.2)⟩, hd, h.hra.keptD h.dev hk, h.hrb.keptD h.dev hk, h.hsl.keptD h.dev hk⟩
theorem BoP.grown (h : BoP w0 w X b sl ra rb Fa Fb C s k D W) (hg : w.grownBy w' none) : BoP w0 w' X b sl ra rb Fa Fb C s k D W := h.moved (h.dev.then hg) (Kept.new hg _)
theorem BoP.cell (h : BoP w0 w X b sl ra rb Fa Fb C s k D W) : w.cell? ⟨X, 0, none⟩ = some (.pointer (some ⟨b, 0, none⟩)) ∧ w.cell? ⟨X, 1, none⟩ = some (.pointer (some ⟨sl, 0, none⟩)) := by
  obtain ⟨c, r, hb⟩ := h.box
  exact ⟨cell_row hb 0, cell_row hb 1⟩
theorem abs_nil {W : List Wt} (h : abs W = []) : W = [] := by
  unfold abs at h
  simpa using h
theorem loadF (h : BoP w0 w X b sl ra rb Fa Fb C (frD c) k T []) (hf : Found T 64 Fa Fb C R) (hFa : Fa + C ≤ 10) (hFb : Fb + C ≤ 10) (hC : 1 ≤ C) (hc : c ≤ 70000) (hT : Fm.Cr.Tab w0) (hB : Bytes T) :
    Calls Tryz.prog 10 #[.pointer (some ⟨sl, 0, none⟩)] w fun e w' => ∃ v c', e = .returned (.tuple #[Fm.hdV R.1, v, .int .i64 R.2.2, .int .i64 0]) ∧ c' ≤ c + 2 + C ∧ BoP w0 w' X b sl ra rb Fa Fb C (frD c') k T [] ∧ Kept w w' (fun i => k.own i ∨ i = b) ∧ ∀ xs, R.2.1 = some xs → ∃ g, v = .slice (some ⟨g, 0, none⟩) xs.length xs.length ∧ w.heap.size ≤ g ∧ w'.heap[g]? = some (.cells (bv xs).toArray 5 (0, 0)) := by
  obtain ⟨c', h1, e1⟩ := hf.ld c T [] (now_nil _ _)
  have q := load_at h.hsl h.dev h.hra h.hrb hFa hFb hC (by omega) (by decide) (by decide) (show (frD c).cnt ≤ 80000 from by show c ≤ 80000; omega) hT (by show Bytes (now 64 T []); rw [now_nil]; exact hB)
  rw [show abs ([] : List Wt) = [] from rfl, e1] at q
  refine q.mono ?_
  rintro e w' ⟨v, rfl, p⟩
  exact ⟨v, c', rfl, h1, h.moved p.dev p.kept, p.kept, p.yes⟩
theorem saveF (h : BoP w0 w X b sl ra rb Fa Fb C (frD c) k T []) (hf : Found T 64 Fa Fb C R) (hlen : T.length = 640) (hFa : Fa + C ≤ 10) (hFb : Fb + C ≤ 10) (hC : 1 ≤ C) (hc : c ≤ 6000) (hT : Fm.Cr.Tab w0) (hB : Bytes T)
    (ao : Option Addr) (m cap : Nat) (xs : List Nat) (hm : xs.length = m) (hat : At w ao xs) (hcap : m ≤ cap) (hfit : m ≤ (C - 1) * 64) (hx : Bytes xs) (hoff : ∀ a, ao = some a → a.block < w.heap.size ∧ (0 < m → ¬ k.own a.block ∧ a.block ≠ b)) (cov : Int) (hc0 : 0 ≤ cov) (hc1 : cov < 18446744073709551616) (hg : R.1.g ≠ 18446744073709551615) :
    Calls Tryz.prog 6 #[.pointer (some ⟨sl, 0, none⟩), .slice ao m cap, .int .u64 cov] w fun e w' => ∃ k' c', e = .returned (.tuple #[Fm.hdV (nxH R.1 cov xs), .int .i64 0]) ∧ c' ≤ c + 3 * C + 6 ∧ BoP w0 w' X b sl ra rb Fa Fb C (frD c') k' (svT T 64 (if R.2.2 = 0 then Fb else Fa) (nxH R.1 cov xs) xs) [] ∧ DvM w w' b k k' [] [] := by
  obtain ⟨c', h1, e1⟩ := svA_free (n := 10) (cov := cov) (xs := xs) hf (by decide) (by rw [hlen]) hFa hFb hC (by rw [hm]; exact hfit) hg c T [] (now_nil _ _)
  have q := save_at h.hsl h.dev h.hra h.hrb hFa hFb hC (by omega) (by decide) (by decide) (show (frD c).cnt ≤ 7000 from by show c ≤ 7000; omega) (by simp) hT (by show Bytes (now 64 T []); rw [now_nil]; exact hB) ao m cap xs hm hat hcap (by have : (C - 1) * 64 ≤ 9 * 64 := Nat.mul_le_mul_right _ (by omega); omega) hx hoff cov hc0 hc1
  rw [show abs ([] : List Wt) = [] from rfl, e1] at q
  refine q.mono ?_
  rintro e w' ⟨rfl, k', W', p⟩
  have hW := abs_nil p.abs
  subst hW
  exact ⟨k', c', rfl, h1, h.moved p.dev p.mov.kept, p.mov⟩
end
end Go.Proofs.YtonokaelbpfjnabGreatDoor
/- awake. -/
namespace Go.Proofs.YtonokaelbpfjnabGreatDoor
open Go.RowKit Ap
attribute [local go_sem ↓] Go.wp_at_zero Go.wp_at_succ
theorem bytes_splice {A xs : List Nat} {o : Nat} (h : Bytes A) (hx : Bytes xs) : Bytes (splice A o xs) := by
  intro y hy
  simp only [splice, List.mem_append] at hy
  rcases hy with hy | hy | hy
  · exact h y (List.mem_of_mem_take hy)
  · exact hx y hy
  · exact h y (List.mem_of_mem_drop hy)
theorem bytes_zs (n : Nat) : Bytes (zs n) := by
  intro y hy
  unfold zs at hy
  have := List.eq_of_mem_replicate hy
  omega
theorem bytes_svT {T : List Nat} {size F : Nat} {hd : Fm.Hd} {xs : List Nat} (h : Bytes T) (hx : Bytes xs) : Bytes (svT T size F hd xs) :=
  bytes_splice (bytes_splice h hx) (bytes_splice (bytes_zs _) (Fm.nats_lt hd.out_byt))
theorem bytes_abc : Bytes [97, 98, 99] := by intro x hx; simp at hx; omega
theorem bytes_none : Bytes [] := by intro x hx; cases hx
theorem hd0_ok : hd0.Ok := zHd_ok
/-- The first header, the second one. -/
def hA : Fm.Hd := nxH hd0 7 [97, 98, 99]
def hB : Fm.Hd := nxH hA 9 []
theorem hA_ok : hA.Ok ∧ hA.May := nxH_ok hd0_ok (by decide) (by decide) (by decide) bytes_abc (by decide)
theorem hB_ok : hB.Ok ∧ hB.May := nxH_ok hA_ok.1 (by decide) (by decide) (by decide) bytes_none (by decide)
def TA : List Nat := svT (zs 640) 64 0 hA [97, 98, 99]
def TB : List Nat := svT TA 64 5 hB []
theorem zs_len (n : Nat) : (zs n).length = n := by simp [zs]
theorem TA_len : TA.length = 640 := svT_len (n := 10) (by decide) (zs_len 640) (by decide)
theorem TB_len : TB.length = 640 := svT_len (n := 10) (by decide) TA_len (by decide)
theorem TA_bytes : Bytes TA := bytes_svT (bytes_zs _) bytes_abc
theorem TB_bytes : Bytes TB := bytes_svT TA_bytes bytes_none
theorem TA_a : Holds TA 64 0 hA [97, 98, 99] := holds_saved (n := 10) (by decide) (zs_len 640) (by decide) hA_ok.1 hA_ok.2 rfl rfl
theorem TA_b : Blank TA 64 5 := Blank.other (n := 10) (C := 4) (blank_zero 640 64 5 (by decide) (by decide)) (by decide) (zs_len 640) (by decide) (by decide) (by decide) (.inl (by decide))
theorem TB_b : Holds TB 64 5 hB [] := holds_saved (n := 10) (by decide) TA_len (by decide) hB_ok.1 hB_ok.2 rfl rfl
theorem TB_a : Holds TB 64 0 hA [97, 98, 99] := TA_a.other (n := 10) (C := 4) (by decide) TA_len (by decide) (by decide) (by decide) (by decide) (.inr (by decide))
theorem found0 : Found (zs 640) 64 0 5 4 (hd0, none, -1) := found_none (blank_zero 640 64 0 (by decide) (by decide)) (blank_zero 640 64 5 (by decide) (by decide))
theorem found1 : Found TA 64 0 5 4 (hA, some [97, 98, 99], 0) := found_a (by decide) TA_a (by decide) TA_b
theorem found2 : Found TB 64 0 5 4 (hB, some [], 1) := found_ba (by decide) TB_a (by decide) TB_b (by decide) (by decide)
/-- A box of a header stays. -/
theorem BoP.far35 {w0 w : World} {X b sl ra rb Fa Fb C i : Nat} {s : Dv} {k : Dk} {D : List Nat} {W : List Wt} {cc : Array Value} {fr : Nat × Nat} (h : BoP w0 w X b sl ra rb Fa Fb C s k D W) (hi : w.heap[i]? = some (.cells cc 25 fr)) : ¬ (k.own i ∨ i = b) := by
  have hf := h.dev.far hi (by decide) (by decide) (by decide) (by decide)
  exact fun e => e.elim hf.1 hf.2
set_option maxRecDepth 20000 in
set_option maxHeartbeats 8000000 in
theorem awake_any (w : World) (hT : Fm.Cr.Tab w) : Calls Tryz.prog 4 #[] w fun e w' => e = .returned (.bool true) ∧ w.grownBy w' none := by
  have HM := hide (made_zero w)
  have HT := hide hT
  clear hT
  go_enter Tryz.func4, Tryz.ntmps4
  go_wp2_with fail
  refine HM.out.mono ?_
  rintro e w1 ⟨X, b, sl, ra, rb, k1, rfl, hB1, g1⟩
  have B1 := hide hB1
  obtain ⟨x0, x1⟩ := hB1.cell
  have hcv := Go.Joins.run_convert_bytes_const_at (P := Tryz.prog) w1 39 5 #[.int .u8 97, .int .u8 98, .int .u8 99] 3 3 w1.heap.size (by simp) Tryz.underlying39 Tryz.underlying5
  clear hB1 g1 HM
  go_wp2_with fail
  clear hcv x0 x1
  have g2 := World.grownBy_alloc w1 (.cells #[.int .u8 97, .int .u8 98, .int .u8 99] 5 (3, 4)) none
  have b2 := heap_alloc_new w1 (.cells #[.int .u8 97, .int .u8 98, .int .u8 99] 5 (3, 4))
  have hoffn := new_off B1.out.dev (Nat.le_refl w1.heap.size)
  obtain ⟨A, hA'⟩ : ∃ A, w1.heap.size = A := ⟨_, rfl⟩
  rw [hA'] at b2 hoffn ⊢
  generalize (w1.alloc (.cells #[.int .u8 97, .int .u8 98, .int .u8 99] 5 (3, 4))) = w2 at *
  have hat2 : At w2 (some ⟨A, 0, none⟩) [97, 98, 99] := by
    intro j u hu
    refine ⟨_, rfl, ?_⟩
    rw [Addr.add_lit, Nat.zero_add, cell_of_row w2 A j _ _ _ b2]
    match j, hu with
    | 0, h => cases h; rfl
    | 1, h => cases h; rfl
    | 2, h => cases h; rfl
    | j + 3, h => simp at h
  have hlt2 := row_lt b2
  refine (saveF (c := 0) (k := k1) (B1.out.grown g2) found0 (zs_len 640) (by decide) (by decide) (by decide) (by decide) HT.out (bytes_zs 640) (some ⟨A, 0, none⟩) 3 3 [97, 98, 99] rfl hat2 (by decide) (by decide) bytes_abc (fun a e => by cases e; exact ⟨hlt2, fun _ => ⟨fun e => hoffn (.inl e), fun e => hoffn (.inr e)⟩⟩) 7 (by decide) (by decide) (by decide)).mono ?_
  clear hat2 hoffn b2 g2 B1 hlt2 hA'
  rintro e w3 ⟨k3, c3, rfl, hc3, hB3, _⟩
  have g4 := World.grownBy_alloc w3 (.cells #[.int .u64 hA.g, .int .u64 hA.c, .int .i64 hA.n, .int .u32 hA.s] 25) none
  have b4 : (w3.alloc (.cells #[.int .u64 hA.g, .int .u64 hA.c, .int .i64 hA.n, .int .u32 hA.s] 25)).heap[w3.heap.size]? = some (.cells (Fm.hdC hA).toArray 25 (0, 0)) := heap_alloc_new w3 _
  obtain ⟨H, hH⟩ : ∃ H, w3.heap.size = H := ⟨_, rfl⟩
  rw [hH] at b4
  have hc3' : c3 ≤ 18 := by omega
  have B4 : Hid (BoP w (w3.alloc (.cells #[.int .u64 hA.g, .int .u64 hA.c, .int .i64 hA.n, .int .u32 hA.s] 25)) X b sl ra rb 0 5 4 (frD c3) k3 TA [] ∧ (w3.alloc (.cells #[.int .u64 hA.g, .int .u64 hA.c, .int .i64 hA.n, .int .u32 hA.s] 25)).heap[H]? = some (.cells (Fm.hdC hA).toArray 25 (0, 0))) := ⟨hB3.grown g4, b4⟩
  obtain ⟨x0, x1⟩ := B4.out.1.cell
  rw [show nxH hd0 7 [97, 98, 99] = hA from rfl]
  unfold Fm.hdV
  clear hB3 g4 b4 hc3
  go_wp2_with fail
  clear hH
  generalize (w3.alloc (.cells #[.int .u64 hA.g, .int .u64 hA.c, .int .i64 hA.n, .int .u32 hA.s] 25)) = w4 at *
  refine (loadF B4.out.1 found1 (by decide) (by decide) (by decide) (by omega) HT.out TA_bytes).mono ?_
  rintro e w5 ⟨v5, c5, rfl, hc5, hB5, hk5, hy5⟩
  obtain ⟨G, rfl, hG, hbG⟩ := hy5 _ rfl
  have hGoff := new_off B4.out.1.dev hG
  have hH5 := hk5.at B4.out.2 (B4.out.1.far35 B4.out.2)
  have g6 := World.grownBy_alloc w5 (.cells #[.int .u64 hA.g, .int .u64 hA.c, .int .i64 hA.n, .int .u32 hA.s] 25) none
  have b6 : (w5.alloc (.cells #[.int .u64 hA.g, .int .u64 hA.c, .int .i64 hA.n, .int .u32 hA.s] 25)).heap[w5.heap.size]? = some (.cells (Fm.hdC hA).toArray 25 (0, 0)) := heap_alloc_new w5 _
  obtain ⟨I, hI⟩ : ∃ I, w5.heap.size = I := ⟨_, rfl⟩
  rw [hI] at b6
  have hc5' : c5 ≤ 40 := by omega
  have B6 : Hid (BoP w (w5.alloc (.cells #[.int .u64 hA.g, .int .u64 hA.c, .int .i64 hA.n, .int .u32 hA.s] 25)) X b sl ra rb 0 5 4 (frD c5) k3 TA [] ∧ (w5.alloc (.cells #[.int .u64 hA.g, .int .u64 hA.c, .int .i64 hA.n, .int .u32 hA.s] 25)).heap[H]? = some (.cells (Fm.hdC hA).toArray 25 (0, 0)) ∧ (w5.alloc (.cells #[.int .u64 hA.g, .int .u64 hA.c, .int .i64 hA.n, .int .u32 hA.s] 25)).heap[I]? = some (.cells (Fm.hdC hA).toArray 25 (0, 0)) ∧ (w5.alloc (.cells #[.int .u64 hA.g, .int .u64 hA.c, .int .i64 hA.n, .int .u32 hA.s] 25)).heap[G]? = some (.cells (bv [97, 98, 99]).toArray 5 (0, 0)) ∧ ¬ (k3.own G ∨ G = b)) :=
    ⟨hB5.grown g6, (g6.block _ (row_lt hH5) (by simp)).trans hH5, b6, (g6.block _ (row_lt hbG) (by simp)).trans hbG, hGoff⟩
  obtain ⟨x0', x1'⟩ := B6.out.1.cell
  unfold Fm.hdV
  clear hB5 hk5 hy5 hG hbG hGoff hH5 g6 b6 hc5 x0 x1 B4
  go_wp2_with fail
  clear hI x0' x1'
  generalize (w5.alloc (.cells #[.int .u64 hA.g, .int .u64 hA.c, .int .i64 hA.n, .int .u32 hA.s] 25)) = w6 at *
  refine (saveF B6.out.1 found1 TA_len (by decide) (by decide) (by decide) (by omega) HT.out TA_bytes none 0 0 [] rfl (fun j u hu => by cases hu) (by decide) (by decide) bytes_none (fun a e => by cases e) 9 (by decide) (by decide) (by decide)).mono ?_
  rintro e w7 ⟨k7, c7, rfl, hc7, hB7, hm7⟩
  obtain ⟨hB6, hH6, hI6, hG6, ho6⟩ := B6.out
  have hH7 := hm7.kept.at hH6 (hB6.far35 hH6)
  have hI7 := hm7.kept.at hI6 (hB6.far35 hI6)
  have hG7 := hm7.kept.at hG6 ho6
  have ho7 : ¬ (k7.own G ∨ G = b) := by
    rintro (e | e)
    · rcases hm7.own G e with e | e
      · exact ho6 (.inl e)
      · have := row_lt hG6; omega
    · exact ho6 (.inr e)
  have g8 := World.grownBy_alloc w7 (.cells #[.int .u64 hB.g, .int .u64 hB.c, .int .i64 hB.n, .int .u32 hB.s] 25) none
  have b8 : (w7.alloc (.cells #[.int .u64 hB.g, .int .u64 hB.c, .int .i64 hB.n, .int .u32 hB.s] 25)).heap[w7.heap.size]? = some (.cells (Fm.hdC hB).toArray 25 (0, 0)) := heap_alloc_new w7 _
  obtain ⟨J, hJ⟩ : ∃ J, w7.heap.size = J := ⟨_, rfl⟩
  rw [hJ] at b8
  have hc7' : c7 ≤ 100 := by omega
  have B8 : Hid (BoP w (w7.alloc (.cells #[.int .u64 hB.g, .int .u64 hB.c, .int .i64 hB.n, .int .u32 hB.s] 25)) X b sl ra rb 0 5 4 (frD c7) k7 TB [] ∧ (w7.alloc (.cells #[.int .u64 hB.g, .int .u64 hB.c, .int .i64 hB.n, .int .u32 hB.s] 25)).heap[H]? = some (.cells (Fm.hdC hA).toArray 25 (0, 0)) ∧ (w7.alloc (.cells #[.int .u64 hB.g, .int .u64 hB.c, .int .i64 hB.n, .int .u32 hB.s] 25)).heap[I]? = some (.cells (Fm.hdC hA).toArray 25 (0, 0)) ∧ (w7.alloc (.cells #[.int .u64 hB.g, .int .u64 hB.c, .int .i64 hB.n, .int .u32 hB.s] 25)).heap[G]? = some (.cells (bv [97, 98, 99]).toArray 5 (0, 0)) ∧ ¬ (k7.own G ∨ G = b) ∧ (w7.alloc (.cells #[.int .u64 hB.g, .int .u64 hB.c, .int .i64 hB.n, .int .u32 hB.s] 25)).heap[J]? = some (.cells (Fm.hdC hB).toArray 25 (0, 0))) :=
    ⟨hB7.grown g8, (g8.block _ (row_lt hH7) (by simp)).trans hH7, (g8.block _ (row_lt hI7) (by simp)).trans hI7, (g8.block _ (row_lt hG7) (by simp)).trans hG7, ho7, b8⟩
  obtain ⟨x0, x1⟩ := B8.out.1.cell
  rw [show nxH hA 9 [] = hB from rfl]
  unfold Fm.hdV
  clear hB6 hH6 hI6 hG6 ho6 hH7 hI7 hG7 ho7 g8 b8 hB7 hm7 hc7 B6
  go_wp2_with fail
  clear hJ x0 x1
  generalize (w7.alloc (.cells #[.int .u64 hB.g, .int .u64 hB.c, .int .i64 hB.n, .int .u32 hB.s] 25)) = w8 at *
  refine (loadF B8.out.1 found2 (by decide) (by decide) (by decide) (by omega) HT.out TB_bytes).mono ?_
  rintro e w9 ⟨v9, c9, rfl, hc9, hB9, hk9, hy9⟩
  obtain ⟨hB8, hH8, hI8, hG8, ho8, hJ8⟩ := B8.out
  have hH9 := hk9.at hH8 (hB8.far35 hH8)
  have hI9 := hk9.at hI8 (hB8.far35 hI8)
  have hJ9 := hk9.at hJ8 (hB8.far35 hJ8)
  have hG9 := hk9.at hG8 ho8
  have g10 := World.grownBy_alloc w9 (.cells #[.int .u64 hB.g, .int .u64 hB.c, .int .i64 hB.n, .int .u32 hB.s] 25) none
  have hH10 := (g10.block _ (row_lt hH9) (by simp)).trans hH9
  have hI10 := (g10.block _ (row_lt hI9) (by simp)).trans hI9
  have hJ10 := (g10.block _ (row_lt hJ9) (by simp)).trans hJ9
  have hG10 := (g10.block _ (row_lt hG9) (by simp)).trans hG9
  have hcv : (convert 39 9 (.slice (some ⟨G, 0, none⟩) 3 3)).run Tryz.prog (w9.alloc (.cells #[.int .u64 hB.g, .int .u64 hB.c, .int .i64 hB.n, .int .u32 hB.s] 25)) = .ok (.string ⟨#[97, 98, 99]⟩) (w9.alloc (.cells #[.int .u64 hB.g, .int .u64 hB.c, .int .i64 hB.n, .int .u32 hB.s] 25)) := by
    refine run_convert_bytes_back _ 39 9 5 ⟨G, 0, none⟩ 3 [97, 98, 99] Tryz.underlying39 Tryz.underlying5 Tryz.underlying9 ?_
    intro j hj
    rw [Addr.add_lit, Nat.zero_add, cell_row hG10]
    match j, hj with
    | 0, _ => rfl
    | 1, _ => rfl
    | 2, _ => rfl
  obtain ⟨p0, p1, p2, p3⟩ := Fm.box4 hH10
  obtain ⟨q0, q1, q2, q3⟩ := Fm.box4 hI10
  obtain ⟨r0, r1, r2, r3⟩ := Fm.box4 hJ10
  have HF := hide (grown_trans hB9.dev.disk.grown g10)
  have e1 : hA.g = 1 := rfl
  rw [e1] at p0
  rw [e1] at q0
  replace r0 : (w9.alloc (.cells #[.int .u64 hB.g, .int .u64 hB.c, .int .i64 hB.n, .int .u32 hB.s] 25)).cell? ⟨J, 0, none⟩ = some (.int .u64 2) := r0
  replace r1 : (w9.alloc (.cells #[.int .u64 hB.g, .int .u64 hB.c, .int .i64 hB.n, .int .u32 hB.s] 25)).cell? ⟨J, 1, none⟩ = some (.int .u64 9) := r1
  clear e1
  unfold Fm.hdV
  clear hB8 hH8 hI8 hG8 ho8 hJ8 hH9 hI9 hJ9 hG9 hB9 hk9 hy9 B8 g10 hH10 hI10 hJ10 hG10
  generalize hA.c = yc at *
  generalize hA.n = yn at *
  generalize hA.s = ys at *
  go_wp2
  go_ret
  exact ⟨rfl, HF.out⟩
end Go.Proofs.YtonokaelbpfjnabGreatDoor
/- What the rows' listed table gives; a world for the witnesses; arguments that are rows of bytes: shared by the rows' proofs. -/
namespace Go.Proofs.YtonokaelbpfjnabGreatDoor
open Go.ChangeShapes Go.WideShapes Go.ChangeAt Go.RowKit Go.Deep Ap

theorem seat_own : ownKnob Tryz.prog.godebug = none := by kernel_rfl
theorem seat_laid : laidOutB Tryz.prog = true := by kernel_rfl
theorem gTab : Tryz.prog.globalNamed "gangway/crc.four" = some 0 := by kernel_rfl
theorem gTabType : (Tryz.prog.globals[0]?).map (·.type) = some 171 := by kernel_rfl
theorem cellsTab : Tryz.prog.cellsOf 171 = 16 := by kernel_rfl
theorem cellsW : Tryz.prog.cellsOf 23 = 1 := by kernel_rfl
theorem cellsOf5 : Tryz.prog.cellsOf 5 = 1 := by kernel_rfl
theorem bytes5 : Tryz.prog.bytesOf 5 = 1 := by kernel_rfl
def tabL : List Int := [0, 498536548, 997073096, 651767980, 1994146192, 1802195444, 1303535960, 1342533948, 3988292384, 4027552580, 3604390888, 3412177804, 2607071920, 2262029012, 2685067896, 3183342108]
theorem tabL_at : ∀ j, j < 16 → tabL.getD j 0 = ((Fm.Cr.Poly.steps 4 j : Nat) : Int) := by decide
theorem table {W : World} (h : laidMetH Tryz.prog [("gangway/crc.four", Rows.laid_gangway_crc_four)] W) : Fm.Cr.Tab W := by
  have ht : Lib.TabIs Tryz.prog W "gangway/crc.four" .u32 tabL := Lib.tabIs_of_head (rest := []) gTab gTabType Tryz.underlying171 Tryz.underlying23 cellsW cellsTab h
  intro j hj
  rw [← tabL_at j hj]
  exact ht.cell gTab j hj
theorem grown_below {a b : World} (h : a.grownBy b none) : Below a.heap.size a b := ⟨h.os, h.tape, h.output, h.size, fun k hk => h.block k hk (fun e => by cases e)⟩

/-- A world for the witness: the table (block 0) holding what its initialiser lays. -/
noncomputable def laidWorld (os : Os) : World :=
  { World.holding Tryz.prog os ⟨#[], #[], []⟩ with heap := (World.holding Tryz.prog os ⟨#[], #[], []⟩).heap.modify 0 fun
      | .cells _ t frozen => .cells (tabL.map (Value.int .u32)).toArray t frozen
      | o => o }

variable {H : Type} {enc : TypeId × Value → H}
set_option maxRecDepth 20000 in
/-- An argument that is a slice of bytes. -/
theorem open_bytesArg {w : World} {base : Nat} {spare : Nat → Bool} {held : Bool} {r : Reach} {b0 : Nat} {v : Value} {d : DataW H} {ps : List MemPlace} (hval : Value.okWide Tryz.prog w r b0 39 v) (hd : DataW.Trod enc Tryz.prog w base spare held 39 v d ps) (hz : ∀ n ∈ d.weights Tryz.prog 39, n ≤ reachBytes) :
    ∃ (ao : Option Addr) (n cap : Nat) (xs : List Nat), v = .slice ao n cap ∧ xs.length = n ∧ At w ao xs ∧ Bytes xs ∧ n ≤ 140737488351232 ∧ (ao = none → n = 0 ∧ cap = 0) ∧ n ≤ cap ∧ cap ≤ maxLen := by
  obtain ⟨ao, len0, cap0, rfl⟩ := okWide_slice Tryz.underlying39 hval
  obtain ⟨fuel, hf⟩ := hd
  refine ⟨ao, len0, cap0, ?_⟩
  rcases open_ints Tryz.underlying39 Tryz.underlying5 cellsOf5 hf with ⟨hcs, _⟩ | ⟨a, len, cap, zs, hcs, _, hl, hm, hzz, hx, hcell, hwf⟩
  · simp [Value.cells] at hcs
    obtain ⟨rfl, rfl, rfl⟩ := hcs
    exact ⟨[], rfl, rfl, At.nil _ _, (fun x hx => by cases hx), by omega, fun _ => ⟨rfl, rfl⟩, by omega, by unfold maxLen; omega⟩
  · simp [Value.cells] at hcs
    obtain ⟨rfl, rfl, rfl⟩ := hcs
    have hd : d = .slice (lits .u8 (zs.take len0)) (lits .u8 (zs.drop len0)) := congrArg Prod.fst hx
    have h1 := hz ((lits .u8 (zs.take len0) : List (DataW H)).length * 1 + (lits .u8 (zs.drop len0) : List (DataW H)).length * 1) (by
      rw [hd]; simp [DataW.weights, Tryz.underlying39, bytes5])
    simp only [lits, List.length_map, List.length_take, List.length_drop, reachBytes] at h1
    have hzl : len0 ≤ zs.length := by rw [hzz]; split <;> omega
    refine ⟨(zs.take len0).map Int.toNat, rfl, by simp; omega, ?_, ?_, by omega, (fun e => by cases e), hl, hm⟩
    · intro j u hu
      rw [List.getElem?_map, List.getElem?_take] at hu
      split at hu
      · rename_i hj
        have hj2 : j < zs.length := by omega
        rw [List.getElem?_eq_getElem hj2] at hu
        have hc := hcell j hj2
        have hb := bounds_u8 (hwf zs[j] (List.getElem_mem hj2))
        refine ⟨a, rfl, ?_⟩
        rw [hc]
        simp [List.getD_eq_getElem?_getD, hj2] at hu ⊢
        omega
      · cases hu
    · intro x hx
      rw [List.mem_map] at hx
      obtain ⟨y, hy, rfl⟩ := hx
      have := bounds_u8 (hwf y (List.mem_of_mem_take hy))
      omega
end Go.Proofs.YtonokaelbpfjnabGreatDoor
/- An argument that is a header: opened. -/
namespace Go.Proofs.YtonokaelbpfjnabGreatDoor
open Go.ChangeShapes Go.WideShapes Go.ChangeAt Go.RowKit Go.Deep Ap

theorem listOf4 {α : Type} {l : List α} (h : l.length = 4) : ∃ a b c d, l = [a, b, c, d] := by
  match l, h with
  | [a, b, c, d], _ => exact ⟨a, b, c, d, rfl⟩
theorem cellsOf35 : Tryz.prog.cellsOf 25 = 4 := by kernel_rfl
theorem cellsOf23 : Tryz.prog.cellsOf 22 = 1 := by kernel_rfl
theorem cellsOf3 : Tryz.prog.cellsOf 3 = 1 := by kernel_rfl
variable {H : Type} {enc : TypeId × Value → H}
set_option maxRecDepth 20000 in
/-- An argument that is a header. -/
theorem open_headerArg {w : World} {base : Nat} {spare : Nat → Bool} {held : Bool} {r : Reach} {b0 : Nat} {v : Value} {d : DataW H} {ps : List MemPlace} (hval : Value.okWide Tryz.prog w r b0 25 v) (hd : DataW.Trod enc Tryz.prog w base spare held 25 v d ps) :
    ∃ h : Fm.Hd, v = Fm.hdV h ∧ h.Ok := by
  obtain ⟨cs, rfl, _⟩ := okWide_struct Tryz.underlying25 hval
  obtain ⟨fuel, h⟩ := hd
  have h : DataW.trod enc Tryz.prog w base spare held fuel 25 cs.toList = some (d, ps) := h
  obtain ⟨xs, n, _, hx, hl, hsz, hf⟩ := DataW.trod_struct Tryz.underlying25 h
  rw [cellsOf35] at hl
  obtain ⟨v0, v1, v2, v3, hc⟩ := listOf4 hl
  obtain ⟨y0, y1, y2, y3, rfl⟩ := listOf4 (show xs.length = 4 from hsz)
  rw [hc] at hf
  have f0 : DataW.trod enc Tryz.prog w base spare held n 22 [v0] = some y0 := by simpa [cellsOf23] using hf 0 _ rfl
  have f1 : DataW.trod enc Tryz.prog w base spare held n 22 [v1] = some y1 := by simpa [cellsOf23] using hf 1 _ rfl
  have f2 : DataW.trod enc Tryz.prog w base spare held n 3 [v2] = some y2 := by simpa [cellsOf3] using hf 2 _ rfl
  have f3 : DataW.trod enc Tryz.prog w base spare held n 23 [v3] = some y3 := by simpa [cellsW] using hf 3 _ rfl
  obtain ⟨a, e0, rfl, wa⟩ := DataW.trod_int Tryz.underlying22 f0
  obtain ⟨b, e1, rfl, wb⟩ := DataW.trod_int Tryz.underlying22 f1
  obtain ⟨c, e2, rfl, wc⟩ := DataW.trod_int Tryz.underlying3 f2
  obtain ⟨e, e3, rfl, we⟩ := DataW.trod_int Tryz.underlying23 f3
  simp only [List.cons.injEq, and_true] at e0 e1 e2 e3
  have ba := bounds_u64 wa
  have bb := bounds_u64 wb
  have bc := bounds_i64 wc
  have be := bounds_u32 we
  refine ⟨⟨a, b, c, e⟩, ?_, ⟨by simp only; omega, by simp only; omega, by simp only; omega, by simp only; omega, by simp only; omega, by simp only; omega, by simp only; omega, by simp only; omega⟩⟩
  rw [e0, e1, e2, e3] at hc
  unfold Fm.hdV
  congr 1
  cases cs
  simpa using hc
end Go.Proofs.YtonokaelbpfjnabGreatDoor
