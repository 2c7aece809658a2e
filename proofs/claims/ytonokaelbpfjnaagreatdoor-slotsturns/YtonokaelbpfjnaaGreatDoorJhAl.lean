/- Texts joined: Rg6, Rg7. -/
import Derived.Test.YtonokaelbpfjnaaGreatDoorJhAk
/- A region's write: one sector of it. -/
namespace Go.Proofs.YtonokaelbpfjnaaGreatDoor
open Go.RowKit Ap
attribute [local go_sem ↓] Go.wp_at_zero Go.wp_at_succ

theorem slice_lhA (a : Addr) (len cap lo hi : Nat) (h : lo < hi) (h2 : hi ≤ cap) (w : World) : (Instr.slice 36 (.slice (some a) len cap) (some (.int .i64 (lo : Int))) (some (.int .i64 (hi : Int))) none).run Tryz.prog w = .ok (.slice (some (a.add lo)) (hi - lo) (cap - lo)) w := by
  simp [Instr.slice, run_underlying Tryz.underlying36, Instr.sliceBounds, Instr.sliceBound, asIntOf, Nat.le_of_lt h, h2]
  intro e; omega
theorem at_from {w : World} {a : Addr} {xs : List Nat} (h : At w (some a) xs) (d : Nat) : At w (some (a.add d)) (xs.drop d) := by
  intro j u hu
  rw [List.getElem?_drop] at hu
  obtain ⟨a', e, hc⟩ := h (d + j) u hu
  cases e
  exact ⟨_, rfl, by rw [Addr.add_add]; exact hc⟩
section
variable {w0 w w' w'' : World} {n size b r F C : Nat} {s s' : Dv} {k k' : Dk} {D : List Nat} {W W' : List Wt}
/-- A foreign block is written. -/
theorem Dev.row {g : Nat} (h : Dev w0 w n size b s k D W) (hg : w.grownBy w' (some g)) (hf : ¬ foot k W g) (hb : g ≠ b) (hl : w0.heap.size ≤ g) : Dev w0 w' n size b s k D W :=
  ⟨h.disk.row hg (fun _ hi e => hf (e ▸ hi)) hl, h.dev.same (hg.block b h.dev.lt (fun e => hb (Option.some.inj e).symm)), h.low⟩
theorem DvM.newrow {g : Nat} (h : DvM w w' b k k' W W') (hg : w'.grownBy w'' (some g)) (hn : w.heap.size ≤ g) : DvM w w'' b k k' W W' :=
  ⟨h.d, h.own, h.blk, h.kept.trans (Kept.of hg (S := fun i => i = g) (fun _ e _ => (Option.some.inj e).symm)) (fun i hi e => by have e : i = g := e; omega)⟩
theorem at_off {S : Nat → Prop} {ao : Option Addr} {xs : List Nat} (h : At w ao xs) (hk : Kept w w' S) (hS : ∀ a, ao = some a → 0 < xs.length → ¬ S a.block) : At w' ao xs := by
  intro j u hu
  obtain ⟨a, e, hc⟩ := h j u hu
  have hl : 0 < xs.length := Nat.lt_of_le_of_lt (Nat.zero_le _) (List.getElem?_eq_some_iff.1 hu).1
  exact ⟨a, e, cell_kept hk hc (by rw [addr_add_block]; exact hS a e hl)⟩
/-- What a write of one sector leaves. -/
def WroteP (w0 w w' : World) (n size b : Nat) (s : Dv) (k : Dk) (D : List Nat) (W : List Wt) (P : List Pr) : Prop := ∃ k' W', Dev w0 w' n size b s k' D W' ∧ DvM w w' b k k' W W' ∧ abs W' = P ∧ W'.length ≤ W.length + 1
def ifP (c : Bool) (x y : List Pr) : List Pr := if c then x else y
theorem dwrite_ok (h : Dev w0 w n size b s k D W) (hW : W.length ≤ 900000) (hc : s.cnt < 100000) (i : Nat) (hi : i < n) (ao : Option Addr) (cap : Nat) (xs : List Nat) (hat : At w ao xs) (hx : xs.length = size) :
    Calls Tryz.prog 44 #[.pointer (some ⟨b, 0, none⟩), .int .i64 (i : Int), .slice ao size cap] w fun e w' => e = .returned (.int .i64 (s.code 0)) ∧ WroteP w0 w w' n size b s.next k D W (ifP s.goes (abs W ++ [(i, xs)]) (abs W)) := by
  refine (dwrite_any h hW hc (i : Int) ao size cap xs hat hx).mono ?_
  have hi2 : (0 : Int) ≤ (i : Int) ∧ (i : Int) < (n : Int) := by omega
  rw [wcode, if_pos hi2, if_pos rfl, wabs, if_pos hi2, if_pos hx, Int.toNat_natCast]
  exact fun e w' h => h
set_option maxRecDepth 20000 in
set_option maxHeartbeats 4000000 in
theorem turn_no (h : Dev w0 w n size b s k D W) (hr : RgAt w r b F C) (hc : s.cnt < 100000) (hgo : s.goes = false) (sc fr te d : Int) (v : Value) :
    Calls Tryz.prog 152 #[.pointer (some ⟨r, 0, none⟩), .agg #[.int .i64 sc, .int .i64 fr, .int .i64 te, .int .i64 d], v] w fun e w' => e = .returned (.int .i64 60) ∧ WroteP w0 w w' n size b s.next k D W (abs W) := by
  have g1 := World.grownBy_alloc w (.cells #[.int .i64 sc, .int .i64 fr, .int .i64 te, .int .i64 d] 184) none
  have H1 := hide (And.intro (h.then g1) (And.intro (hr.grown g1) (part_new w sc fr te d)))
  have G1 := hide g1
  clear h hr g1
  go_enter Tryz.func152, Tryz.ntmps152
  go_wp2_with fail
  generalize w.alloc (.cells #[.int .i64 sc, .int .i64 fr, .int .i64 te, .int .i64 d] 184) = w1 at *
  generalize hp : w.heap.size = p at *
  have HP := hide hp
  clear hp
  have a1 := H1.out.2.1.c0
  have a2 : w1.cell? ⟨p, 0, none⟩ = some (.int .i64 sc) := cell_row H1.out.2.2 0
  have hS0 := And.intro a1 a2
  have HX : Hid (∀ w2 : World, w1.grownBy w2 none → Calls Tryz.prog 46 #[.pointer (some ⟨b, 0, none⟩), .int .i64 sc] w2 fun e w' => e = .returned (.tuple #[.slice none 0 0, .int .i64 60]) ∧
      (Dev w0 w' n size b s.next k D W ∧ DvM w1 w' b k k W W ∧ RgAt w' r b F C ∧ w'.heap[p]? = some (.cells (pcells sc fr te d).toArray 184 (0, 0)))) := by
    intro w2 hg2
    have hR := H1.out.1.then hg2
    have hG2 := H1.out.2.1.grown hg2
    have hP2 := (hg2.block _ (row_lt H1.out.2.2) (by simp)).trans H1.out.2.2
    refine (dread_no hR hc hgo sc).mono ?_
    rintro e w' ⟨rfl, q3, q4⟩
    have hf := hR.far hP2 (by decide) (by decide) (by decide) (by decide)
    have hf2 := hR.far hG2.head (by decide) (by decide) (by decide) (by decide)
    exact ⟨rfl, q3, DvM.pre hg2 q4, ⟨q4.other hG2.head hf2.1 hf2.2⟩, q4.other hP2 hf.1 hf.2⟩
  go_region_held3 (fun w' => w'.cell? ⟨r, 0, none⟩ = some (.pointer (some ⟨b, 0, none⟩)) ∧ w'.cell? ⟨p, 0, none⟩ = some (.int .i64 sc)) (first | assumption | go_keep) (first
    | (go_at_call 46; refine (HX.out _ (grown_drew _ _)).mono ?_; rintro e w2 ⟨rfl, hq⟩; have H2 := hide hq; clear hq; have hS2 : w2.cell? ⟨r, 0, none⟩ = some (.pointer (some ⟨b, 0, none⟩)) ∧ w2.cell? ⟨p, 0, none⟩ = some (.int .i64 sc) := ⟨H2.out.2.2.1.c0, cell_row H2.out.2.2.2 0⟩))
  rename_i hHeld
  clear hHeld hS2 hS0 a1 a2 HX
  go_wp2
  go_ret
  exact ⟨rfl, k, W, H2.out.1, DvM.pre G1.out H2.out.2.1, rfl, by omega⟩
set_option maxRecDepth 20000 in
set_option maxHeartbeats 4000000 in
theorem turn_go (h : Dev w0 w n size b s k D W) (hr : RgAt w r b F C) (hW : W.length ≤ 900000) (hc : s.cnt + 1 < 100000) (hgo : s.goes = true) (sc fr te : Nat) (d : Int) (hsc : sc < n) (hft : fr < te) (hte : te ≤ size) (ao : Option Addr) (cap : Nat) (xs : List Nat) (hat : At w ao xs) (hx : xs.length = te - fr) (hao : ∀ a, ao = some a → ¬ k.own a.block ∧ a.block ≠ b) :
    Calls Tryz.prog 152 #[.pointer (some ⟨r, 0, none⟩), .agg #[.int .i64 (sc : Int), .int .i64 (fr : Int), .int .i64 (te : Int), .int .i64 d], .slice ao (te - fr) cap] w fun e w' => e = .returned (.int .i64 (s.next.code 0)) ∧ WroteP w0 w w' n size b s.next.next k D W (ifP s.next.goes (abs W ++ [(sc, splice (found size D W sc) fr xs)]) (abs W)) := by
  have g1 := World.grownBy_alloc w (.cells #[.int .i64 (sc : Int), .int .i64 (fr : Int), .int .i64 (te : Int), .int .i64 d] 184) none
  have H1 := hide (And.intro (h.then g1) (And.intro (hr.grown g1) (And.intro (part_new w sc fr te d) (hat.grown g1))))
  have G1 := hide g1
  have hlen := hide (found_length h.disk.disk.len h.disk.disk.fitsW sc hsc)
  have hlw := hide h.disk.grown.size
  have HXs := hide (And.intro hx hao)
  have hnc : Hid (s.next.cnt < 100000) := by show s.next.cnt < 100000; rw [Dv.goes_next_cnt hgo]; omega
  clear h hr g1 hat hao hx
  go_enter Tryz.func152, Tryz.ntmps152
  go_wp2_with fail
  generalize w.alloc (.cells #[.int .i64 (sc : Int), .int .i64 (fr : Int), .int .i64 (te : Int), .int .i64 d] 184) = w1 at *
  generalize hp : w.heap.size = p at *
  have HP := hide hp
  clear hp
  have a1 := H1.out.2.1.c0
  have a2 : w1.cell? ⟨p, 0, none⟩ = some (.int .i64 (sc : Int)) := cell_row H1.out.2.2.1 0
  have hS0 := And.intro a1 a2
  have HX : Hid (∀ w2 : World, w1.grownBy w2 none → Calls Tryz.prog 46 #[.pointer (some ⟨b, 0, none⟩), .int .i64 (sc : Int)] w2 fun e w' => ∃ g2 : Nat, e = .returned (.tuple #[.slice (some ⟨g2, 0, none⟩) size size, .int .i64 0]) ∧
      (Dev w0 w' n size b s.next k D W ∧ DvM w1 w' b k k W W ∧ RgAt w' r b F C ∧ w'.heap[p]? = some (.cells (pcells sc fr te d).toArray 184 (0, 0)) ∧ At w' ao xs ∧ w'.heap[g2]? = some (.cells (bv (found size D W sc)).toArray 5 (0, 0)) ∧ w1.heap.size ≤ g2)) := by
    intro w2 hg2
    have hR := H1.out.1.then hg2
    have hG2 := H1.out.2.1.grown hg2
    have hP2 := (hg2.block _ (row_lt H1.out.2.2.1) (by simp)).trans H1.out.2.2.1
    refine (dread_go hR (by omega) hgo sc hsc).mono ?_
    rintro e w' ⟨g2, rfl, q1, q2, q3, q4⟩
    have hf := hR.far hP2 (by decide) (by decide) (by decide) (by decide)
    have hf2 := hR.far hG2.head (by decide) (by decide) (by decide) (by decide)
    exact ⟨g2, rfl, q3, DvM.pre hg2 q4, ⟨q4.other hG2.head hf2.1 hf2.2⟩, q4.other hP2 hf.1 hf.2, at_off (H1.out.2.2.2.grown hg2) q4.kept (fun a e _ hs => hs.elim (HXs.out.2 a e).1 (HXs.out.2 a e).2), q2, Nat.le_trans hg2.size q1⟩
  go_region_held3 (fun w' => w'.cell? ⟨r, 0, none⟩ = some (.pointer (some ⟨b, 0, none⟩)) ∧ w'.cell? ⟨p, 0, none⟩ = some (.int .i64 (sc : Int))) (first | assumption | go_keep) (first
    | (go_at_call 46; refine (HX.out _ (grown_drew _ _)).mono ?_; rintro e w2 ⟨g2, rfl, hq⟩; have H2 := hide hq; clear hq; have hS2 : w2.cell? ⟨r, 0, none⟩ = some (.pointer (some ⟨b, 0, none⟩)) ∧ w2.cell? ⟨p, 0, none⟩ = some (.int .i64 (sc : Int)) := ⟨H2.out.2.2.1.c0, cell_row H2.out.2.2.2.1 0⟩))
  rename_i hHeld
  clear hHeld hS2 hS0 a1 a2 HX
  have b1 : w2.cell? ⟨p, 1, none⟩ = some (.int .i64 (fr : Int)) := cell_row H2.out.2.2.2.1 1
  have b2 : w2.cell? ⟨p, 2, none⟩ = some (.int .i64 (te : Int)) := cell_row H2.out.2.2.2.1 2
  have hsl2 := slice_lh g2 size size fr te hft hte
  obtain ⟨w3, hrun, hW3, hg3⟩ := run_copy_any w2 g2 fr (te - fr) (size - fr) ao (te - fr) cap (found size D W sc) xs H2.out.2.2.2.2.2.1 (by rw [HXs.out.1]; exact (Nat.min_self _).symm) (by rw [HXs.out.1, hlen.out]; omega) H2.out.2.2.2.2.1
  have hwz : w.heap.size ≤ w1.heap.size := G1.out.size
  have H3 : Hid (Dev w0 w3 n size b s.next k D W ∧ DvM w1 w3 b k k W W ∧ RgAt w3 r b F C ∧ w3.heap[p]? = some (.cells (pcells sc fr te d).toArray 184 (0, 0)) ∧ w3.heap[g2]? = some (.cells (bv (splice (found size D W sc) fr xs)).toArray 5 (0, 0))) := by
    obtain ⟨q1, q2, q3, q4, q5, q6, q7⟩ := H2.out
    have nf : ¬ foot k W g2 := fun hf => by have := H1.out.1.disk.disk.lt _ hf; omega
    have nb : g2 ≠ b := fun e => by have := q1.dev.head; rw [← e, q6] at this; simp at this
    have nr : some r ≠ some g2 := fun e => by have e := Option.some.inj e; have := q3.head; rw [e, q6] at this; simp at this
    have np : some p ≠ some g2 := fun e => by have e := Option.some.inj e; have := q4; rw [e, q6] at this; simp at this
    exact ⟨q1.row hg3 nf nb (by have := hlw.out; have := HP.out; omega), q2.newrow hg3 q7, ⟨(hg3.block _ q3.lt nr).trans q3.head⟩, (hg3.block _ (row_lt q4) np).trans q4, hW3⟩
  rw [HXs.out.1] at hrun
  clear hW3 hg3 hwz
  have c1 := H3.out.2.2.1.c0
  have c2 : w3.cell? ⟨p, 0, none⟩ = some (.int .i64 (sc : Int)) := cell_row H3.out.2.2.2.1 0
  have hS3 := And.intro c1 c2
  have HY : Hid (∀ w4 : World, w3.grownBy w4 none → Calls Tryz.prog 44 #[.pointer (some ⟨b, 0, none⟩), .int .i64 (sc : Int), .slice (some ⟨g2, 0, none⟩) size size] w4 fun e w' => e = .returned (.int .i64 (s.next.code 0)) ∧
      (WroteP w0 w1 w' n size b s.next.next k D W (ifP s.next.goes (abs W ++ [(sc, splice (found size D W sc) fr xs)]) (abs W)) ∧ RgAt w' r b F C ∧ w'.heap[p]? = some (.cells (pcells sc fr te d).toArray 184 (0, 0)))) := by
    intro w4 hg4
    have hR := H3.out.1.then hg4
    have hG4 := H3.out.2.2.1.grown hg4
    have hP4 := (hg4.block _ (row_lt H3.out.2.2.2.1) (by simp)).trans H3.out.2.2.2.1
    have hB4 := (hg4.block _ (row_lt H3.out.2.2.2.2) (by simp)).trans H3.out.2.2.2.2
    refine (dwrite_ok hR hW hnc.out sc hsc (some ⟨g2, 0, none⟩) size _ (at_row hB4) (by rw [length_splice _ _ _ (by rw [HXs.out.1, hlen.out]; omega), hlen.out])).mono ?_
    rintro e w' ⟨rfl, k5, W5, q1, q2, q3, q4⟩
    have hf := hR.far hP4 (by decide) (by decide) (by decide) (by decide)
    have hf2 := hR.far hG4.head (by decide) (by decide) (by decide) (by decide)
    have hbl : b < w1.heap.size := H1.out.1.dev.lt
    exact ⟨rfl, ⟨k5, W5, q1, (H3.out.2.1.new hg4).trans q2 hbl, q3, q4⟩, ⟨q2.other hG4.head hf2.1 hf2.2⟩, q2.other hP4 hf.1 hf.2⟩
  go_wp2_with fail
  go_region_held3 (fun w' => w'.cell? ⟨r, 0, none⟩ = some (.pointer (some ⟨b, 0, none⟩)) ∧ w'.cell? ⟨p, 0, none⟩ = some (.int .i64 (sc : Int))) (first | assumption | go_keep) (first
    | (go_at_call 44; refine (HY.out _ (grown_drew _ _)).mono ?_; rintro e w5 ⟨rfl, hq⟩; have H5 := hide hq; clear hq; have hS5 : w5.cell? ⟨r, 0, none⟩ = some (.pointer (some ⟨b, 0, none⟩)) ∧ w5.cell? ⟨p, 0, none⟩ = some (.int .i64 (sc : Int)) := ⟨H5.out.2.1.c0, cell_row H5.out.2.2 0⟩))
  rename_i hHeld
  clear hHeld hS5 hS3 c1 c2 HY
  go_wp2
  go_ret
  obtain ⟨k5, W5, q1, q2, q3, q4⟩ := H5.out.1
  exact ⟨rfl, k5, W5, q1, DvM.pre G1.out q2, q3, q4⟩
end
end Go.Proofs.YtonokaelbpfjnaaGreatDoor
/- A region's write: one sector of it, whole or in part. -/
namespace Go.Proofs.YtonokaelbpfjnaaGreatDoor
open Go.RowKit Ap
attribute [local go_sem ↓] Go.wp_at_zero Go.wp_at_succ

/-- All that a write looks at. -/
structure WrS (w0 w : World) (n size b : Nat) (s : Dv) (k : Dk) (D : List Nat) (W : List Wt) (r F C br bb : Nat) (a : Addr) (cap : Nat) (xs : List Nat) : Prop where
  dev : Dev w0 w n size b s k D W
  rg : RgAt w r b F C
  hbr : w.heap[br]? = some (.cells #[.pointer (some ⟨r, 0, none⟩)] 77 (0, 0))
  hbb : w.heap[bb]? = some (.cells #[.slice (some a) xs.length cap] 36 (0, 0))
  at_ : At w (some a) xs
  cap : xs.length ≤ cap
  off : ¬ k.own a.block
  ob : a.block ≠ b
section
variable {w0 w w' : World} {n size b r F C br bb cap : Nat} {s s' : Dv} {k k' : Dk} {D : List Nat} {W W' : List Wt} {a : Addr} {xs : List Nat}
theorem WrS.then (h : WrS w0 w n size b s k D W r F C br bb a cap xs) (hg : w.grownBy w' none) : WrS w0 w' n size b s k D W r F C br bb a cap xs :=
  ⟨h.dev.then hg, h.rg.grown hg, (hg.block _ (row_lt h.hbr) (by simp)).trans h.hbr, (hg.block _ (row_lt h.hbb) (by simp)).trans h.hbb, h.at_.grown hg, h.cap, h.off, h.ob⟩
theorem WrS.goes {D' : List Nat} (h : WrS w0 w n size b s k D W r F C br bb a cap xs) (hd : Dev w0 w' n size b s' k' D' W') (hm : DvM w w' b k k' W W') (ha : a.block < w.heap.size) : WrS w0 w' n size b s' k' D' W' r F C br bb a cap xs := by
  have h1 := h.dev.far h.rg.head (by decide) (by decide) (by decide) (by decide)
  have h2 := h.dev.far h.hbr (by decide) (by decide) (by decide) (by decide)
  have h3 := h.dev.far h.hbb (by decide) (by decide) (by decide) (by decide)
  refine ⟨hd, ⟨hm.other h.rg.head h1.1 h1.2⟩, hm.other h.hbr h2.1 h2.2, hm.other h.hbb h3.1 h3.2, at_off h.at_ hm.kept (fun a' e _ hs => by cases e; exact hs.elim h.off h.ob), h.cap, ?_, h.ob⟩
  intro e
  rcases hm.own _ e with e | e
  · exact h.off e
  · omega
set_option maxRecDepth 20000 in
set_option maxHeartbeats 4000000 in
theorem wr1_full (h : WrS w0 w n size b s k D W r F C br bb a cap xs) (hW : W.length ≤ 900000) (hc : s.cnt < 100000) (sc d : Nat) (hsc : sc < n) (hd : d + size ≤ xs.length) (hL : xs.length ≤ 268435456) :
    Calls Tryz.prog 151 #[.agg #[.int .i64 (sc : Int), .int .i64 0, .int .i64 (size : Int), .int .i64 (d : Int)], .pointer (some ⟨bb, 0, none⟩), .pointer (some ⟨br, 0, none⟩)] w fun e w' => e = .returned (.int .i64 (s.code 0)) ∧ WroteP w0 w w' n size b s.next k D W (ifP s.goes (abs W ++ [(sc, (xs.drop d).take size)]) (abs W)) := by
  have s0 := h.dev.disk.disk.shape.s0
  have s1 := h.dev.disk.disk.shape.s1
  have g1 := World.grownBy_alloc w (.cells #[.int .i64 (sc : Int), .int .i64 0, .int .i64 (size : Int), .int .i64 (d : Int)] 184) none
  have H1 := hide (And.intro (h.then g1) (part_new w sc 0 size d))
  have G1 := hide g1
  have hsl := slice_lhA a xs.length cap d (d + size) (by omega) (by have := h.cap; omega)
  rw [show d + size - d = size by omega, show ((d + size : Nat) : Int) = (d : Int) + (size : Int) by omega] at hsl
  have x0 : (w.alloc (.cells #[.int .i64 (sc : Int), .int .i64 0, .int .i64 (size : Int), .int .i64 (d : Int)] 184)).cell? ⟨bb, 0, none⟩ = some (.slice (some a) xs.length cap) := cell_row (l := [_]) H1.out.1.hbb 0
  have x1 : (w.alloc (.cells #[.int .i64 (sc : Int), .int .i64 0, .int .i64 (size : Int), .int .i64 (d : Int)] 184)).cell? ⟨br, 0, none⟩ = some (.pointer (some ⟨r, 0, none⟩)) := cell_row (l := [_]) H1.out.1.hbr 0
  have x2 := H1.out.1.rg.c0
  have y1 : (w.alloc (.cells #[.int .i64 (sc : Int), .int .i64 0, .int .i64 (size : Int), .int .i64 (d : Int)] 184)).cell? ⟨w.heap.size, 1, none⟩ = some (.int .i64 0) := cell_row H1.out.2 1
  have y2 : (w.alloc (.cells #[.int .i64 (sc : Int), .int .i64 0, .int .i64 (size : Int), .int .i64 (d : Int)] 184)).cell? ⟨w.heap.size, 2, none⟩ = some (.int .i64 (size : Int)) := cell_row H1.out.2 2
  have y3 : (w.alloc (.cells #[.int .i64 (sc : Int), .int .i64 0, .int .i64 (size : Int), .int .i64 (d : Int)] 184)).cell? ⟨w.heap.size, 3, none⟩ = some (.int .i64 (d : Int)) := cell_row H1.out.2 3
  have HS := hide (dsize_any H1.out.1.dev)
  clear h g1
  generalize hL2 : xs.length = L at *
  have HL := hide hL2
  clear hL2
  go_enter Tryz.func151, Tryz.ntmps151
  go_wp2_with fail
  refine HS.out.mono ?_
  rintro e w' ⟨rfl, rfl⟩
  generalize w.alloc (.cells #[.int .i64 (sc : Int), .int .i64 0, .int .i64 (size : Int), .int .i64 (d : Int)] 184) = w1 at *
  generalize hp : w.heap.size = p at *
  have HP := hide hp
  clear hp
  have y0 : w1.cell? ⟨p, 0, none⟩ = some (.int .i64 (sc : Int)) := cell_row H1.out.2 0
  have hS0 := And.intro x1 (And.intro x2 y0)
  have HX : Hid (∀ w2 : World, w1.grownBy w2 none → Calls Tryz.prog 44 #[.pointer (some ⟨b, 0, none⟩), .int .i64 (sc : Int), .slice (some (a.add d)) size (cap - d)] w2 fun e w' => e = .returned (.int .i64 (s.code 0)) ∧
      (WroteP w0 w1 w' n size b s.next k D W (ifP s.goes (abs W ++ [(sc, (xs.drop d).take size)]) (abs W)) ∧ RgAt w' r b F C ∧ w'.heap[p]? = some (.cells (pcells sc 0 size d).toArray 184 (0, 0)) ∧ w'.heap[br]? = some (.cells #[.pointer (some ⟨r, 0, none⟩)] 77 (0, 0)))) := by
    intro w2 hg2
    have hR := H1.out.1.then hg2
    have hP2 := (hg2.block _ (row_lt H1.out.2) (by simp)).trans H1.out.2
    refine (dwrite_ok hR.dev hW hc sc hsc (some (a.add d)) (cap - d) _ ((at_from hR.at_ d).take size) (by have := HL.out; simp; omega)).mono ?_
    rintro e w' ⟨rfl, k5, W5, q1, q2, q3, q4⟩
    have hf := hR.dev.far hP2 (by decide) (by decide) (by decide) (by decide)
    have hf2 := hR.dev.far hR.rg.head (by decide) (by decide) (by decide) (by decide)
    have hf3 := hR.dev.far hR.hbr (by decide) (by decide) (by decide) (by decide)
    exact ⟨rfl, ⟨k5, W5, q1, DvM.pre hg2 q2, q3, q4⟩, ⟨q2.other hR.rg.head hf2.1 hf2.2⟩, q2.other hP2 hf.1 hf.2, q2.other hR.hbr hf3.1 hf3.2⟩
  clear x0 y1 y2 y3
  go_wp2_with fail
  go_region_held3 (fun w' => w'.cell? ⟨br, 0, none⟩ = some (.pointer (some ⟨r, 0, none⟩)) ∧ w'.cell? ⟨r, 0, none⟩ = some (.pointer (some ⟨b, 0, none⟩)) ∧ w'.cell? ⟨p, 0, none⟩ = some (.int .i64 (sc : Int))) (first | assumption | go_keep) (first
    | (go_at_call 44; refine (HX.out _ (grown_drew _ _)).mono ?_; rintro e w2 ⟨rfl, hq⟩; have H2 := hide hq; clear hq; have hS2 : w2.cell? ⟨br, 0, none⟩ = some (.pointer (some ⟨r, 0, none⟩)) ∧ w2.cell? ⟨r, 0, none⟩ = some (.pointer (some ⟨b, 0, none⟩)) ∧ w2.cell? ⟨p, 0, none⟩ = some (.int .i64 (sc : Int)) := ⟨cell_row (l := [_]) H2.out.2.2.2 0, H2.out.2.1.c0, cell_row H2.out.2.2.1 0⟩))
  rename_i hHeld
  clear hHeld hS2 hS0 x1 x2 y0 HX
  go_wp2
  go_ret
  obtain ⟨k5, W5, q1, q2, q3, q4⟩ := H2.out.1
  exact ⟨rfl, k5, W5, q1, DvM.pre G1.out q2, q3, q4⟩
set_option maxRecDepth 20000 in
set_option maxHeartbeats 4000000 in
theorem wr1_part (h : WrS w0 w n size b s k D W r F C br bb a cap xs) (hW : W.length ≤ 900000) (hc : s.cnt + 1 < 100000) (sc fr te d l : Nat) (hsc : sc < n) (htl : te = fr + l) (hte : te ≤ size) (hl0 : 0 < l) (hl : l < size) (hd : d + l ≤ xs.length) (hL : xs.length ≤ 268435456)
    (c : Int) (s2 : Dv) (P : List Pr) (hout : (s.goes = false ∧ c = 60 ∧ s2 = s.next ∧ P = abs W) ∨ (s.goes = true ∧ c = s.next.code 0 ∧ s2 = s.next.next ∧ P = ifP s.next.goes (abs W ++ [(sc, splice (found size D W sc) fr ((xs.drop d).take l))]) (abs W))) :
    Calls Tryz.prog 151 #[.agg #[.int .i64 (sc : Int), .int .i64 (fr : Int), .int .i64 (te : Int), .int .i64 (d : Int)], .pointer (some ⟨bb, 0, none⟩), .pointer (some ⟨br, 0, none⟩)] w fun e w' => e = .returned (.int .i64 c) ∧ WroteP w0 w w' n size b s2 k D W P := by
  have s0 := h.dev.disk.disk.shape.s0
  have s1 := h.dev.disk.disk.shape.s1
  have g1 := World.grownBy_alloc w (.cells #[.int .i64 (sc : Int), .int .i64 (fr : Int), .int .i64 (te : Int), .int .i64 (d : Int)] 184) none
  have H1 := hide (And.intro (h.then g1) (part_new w sc fr te d))
  have G1 := hide g1
  have hsl := slice_lhA a xs.length cap d (d + l) (by omega) (by have := h.cap; omega)
  rw [show d + l - d = l by omega, show ((d + l : Nat) : Int) = (d : Int) + (te : Int) - (fr : Int) by omega] at hsl
  have x0 : (w.alloc (.cells #[.int .i64 (sc : Int), .int .i64 (fr : Int), .int .i64 (te : Int), .int .i64 (d : Int)] 184)).cell? ⟨bb, 0, none⟩ = some (.slice (some a) xs.length cap) := cell_row (l := [_]) H1.out.1.hbb 0
  have x1 : (w.alloc (.cells #[.int .i64 (sc : Int), .int .i64 (fr : Int), .int .i64 (te : Int), .int .i64 (d : Int)] 184)).cell? ⟨br, 0, none⟩ = some (.pointer (some ⟨r, 0, none⟩)) := cell_row (l := [_]) H1.out.1.hbr 0
  have x2 := H1.out.1.rg.c0
  have y0 : (w.alloc (.cells #[.int .i64 (sc : Int), .int .i64 (fr : Int), .int .i64 (te : Int), .int .i64 (d : Int)] 184)).cell? ⟨w.heap.size, 0, none⟩ = some (.int .i64 (sc : Int)) := cell_row H1.out.2 0
  have y1 : (w.alloc (.cells #[.int .i64 (sc : Int), .int .i64 (fr : Int), .int .i64 (te : Int), .int .i64 (d : Int)] 184)).cell? ⟨w.heap.size, 1, none⟩ = some (.int .i64 (fr : Int)) := cell_row H1.out.2 1
  have y2 : (w.alloc (.cells #[.int .i64 (sc : Int), .int .i64 (fr : Int), .int .i64 (te : Int), .int .i64 (d : Int)] 184)).cell? ⟨w.heap.size, 2, none⟩ = some (.int .i64 (te : Int)) := cell_row H1.out.2 2
  have y3 : (w.alloc (.cells #[.int .i64 (sc : Int), .int .i64 (fr : Int), .int .i64 (te : Int), .int .i64 (d : Int)] 184)).cell? ⟨w.heap.size, 3, none⟩ = some (.int .i64 (d : Int)) := cell_row H1.out.2 3
  have HS := hide (dsize_any H1.out.1.dev)
  have HO := hide hout
  have HT := hide htl
  have hft : fr < te := by omega
  have hne : (l : Int) ≠ (size : Int) := by omega
  have hle : (fr : Int) ≤ (d : Int) + (te : Int) := by omega
  clear h g1 hout htl
  generalize hL2 : xs.length = L at *
  have HL := hide hL2
  clear hL2
  go_enter Tryz.func151, Tryz.ntmps151
  go_wp2_with fail
  refine HS.out.mono ?_
  rintro e w' ⟨rfl, rfl⟩
  generalize w.alloc (.cells #[.int .i64 (sc : Int), .int .i64 (fr : Int), .int .i64 (te : Int), .int .i64 (d : Int)] 184) = w1 at *
  generalize hp : w.heap.size = p at *
  have HP := hide hp
  clear hp
  have hS0 := And.intro x1 (And.intro x2 (And.intro y0 (And.intro y1 (And.intro y2 y3))))
  have HX : Hid (∀ w2 : World, w1.grownBy w2 none → Calls Tryz.prog 152 #[.pointer (some ⟨r, 0, none⟩), .agg #[.int .i64 (sc : Int), .int .i64 (fr : Int), .int .i64 (te : Int), .int .i64 (d : Int)], .slice (some (a.add d)) l (cap - d)] w2 fun e w' => e = .returned (.int .i64 c) ∧
      (WroteP w0 w1 w' n size b s2 k D W P ∧ RgAt w' r b F C ∧ w'.heap[p]? = some (.cells (pcells sc fr te d).toArray 184 (0, 0)) ∧ w'.heap[br]? = some (.cells #[.pointer (some ⟨r, 0, none⟩)] 77 (0, 0)))) := by
    intro w2 hg2
    have hR := H1.out.1.then hg2
    have hP2 := (hg2.block _ (row_lt H1.out.2) (by simp)).trans H1.out.2
    have hf := hR.dev.far hP2 (by decide) (by decide) (by decide) (by decide)
    have hf2 := hR.dev.far hR.rg.head (by decide) (by decide) (by decide) (by decide)
    have hf3 := hR.dev.far hR.hbr (by decide) (by decide) (by decide) (by decide)
    rcases HO.out with ⟨h1, rfl, rfl, rfl⟩ | ⟨h1, rfl, rfl, rfl⟩
    · refine (turn_no hR.dev hR.rg (by omega) h1 sc fr te d _).mono ?_
      rintro e w' ⟨rfl, k5, W5, q1, q2, q3, q4⟩
      exact ⟨rfl, ⟨k5, W5, q1, DvM.pre hg2 q2, q3, q4⟩, ⟨q2.other hR.rg.head hf2.1 hf2.2⟩, q2.other hP2 hf.1 hf.2, q2.other hR.hbr hf3.1 hf3.2⟩
    · have htl : te - fr = l := by have := HT.out; omega
      have hh := turn_go hR.dev hR.rg hW hc h1 sc fr te d hsc hft hte (some (a.add d)) (cap - d) ((xs.drop d).take l) ((at_from hR.at_ d).take l) (by have := HL.out; simp; omega) (fun a' e => by cases e; rw [addr_add_block]; exact ⟨hR.off, hR.ob⟩)
      rw [htl] at hh
      refine hh.mono ?_
      rintro e w' ⟨rfl, k5, W5, q1, q2, q3, q4⟩
      exact ⟨rfl, ⟨k5, W5, q1, DvM.pre hg2 q2, q3, q4⟩, ⟨q2.other hR.rg.head hf2.1 hf2.2⟩, q2.other hP2 hf.1 hf.2, q2.other hR.hbr hf3.1 hf3.2⟩
  clear x0
  go_wp2_with fail
  go_region_held3 (fun w' => w'.cell? ⟨br, 0, none⟩ = some (.pointer (some ⟨r, 0, none⟩)) ∧ w'.cell? ⟨r, 0, none⟩ = some (.pointer (some ⟨b, 0, none⟩)) ∧ w'.cell? ⟨p, 0, none⟩ = some (.int .i64 (sc : Int)) ∧ w'.cell? ⟨p, 1, none⟩ = some (.int .i64 (fr : Int)) ∧ w'.cell? ⟨p, 2, none⟩ = some (.int .i64 (te : Int)) ∧ w'.cell? ⟨p, 3, none⟩ = some (.int .i64 (d : Int))) (first | assumption | go_keep) (first
    | (go_at_call 152; refine (HX.out _ (grown_drew _ _)).mono ?_; rintro e w2 ⟨rfl, hq⟩; have H2 := hide hq; clear hq; have hS2 : w2.cell? ⟨br, 0, none⟩ = some (.pointer (some ⟨r, 0, none⟩)) ∧ w2.cell? ⟨r, 0, none⟩ = some (.pointer (some ⟨b, 0, none⟩)) ∧ w2.cell? ⟨p, 0, none⟩ = some (.int .i64 (sc : Int)) ∧ w2.cell? ⟨p, 1, none⟩ = some (.int .i64 (fr : Int)) ∧ w2.cell? ⟨p, 2, none⟩ = some (.int .i64 (te : Int)) ∧ w2.cell? ⟨p, 3, none⟩ = some (.int .i64 (d : Int)) := ⟨cell_row (l := [_]) H2.out.2.2.2 0, H2.out.2.1.c0, cell_row H2.out.2.2.1 0, cell_row H2.out.2.2.1 1, cell_row H2.out.2.2.1 2, cell_row H2.out.2.2.1 3⟩))
  rename_i hHeld
  clear hHeld hS2 hS0 x1 x2 y0 y1 y2 y3 HX
  go_wp2
  go_ret
  obtain ⟨k5, W5, q1, q2, q3, q4⟩ := H2.out.1
  exact ⟨rfl, k5, W5, q1, DvM.pre G1.out q2, q3, q4⟩
end
end Go.Proofs.YtonokaelbpfjnaaGreatDoor
