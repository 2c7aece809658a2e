/- Texts joined: Px, Lg8, FFk, FFl, Hs, Fr0. -/
import Derived.Test.YtofdijaipjkfbaaDoorJeAs
import Derived.Test.YtofdijaipjkfbaaDoorJeAn
import Derived.Test.YtofdijaipjkfbaaDoorJeAg
/- A device beside the document's. -/
namespace Go.Proofs.YtofdijaipjkfbaaDoor
open Go.RowKit Ap

structure Px where
  b : Nat
  s : Dv
  k : Dk
  D : List Nat
  W : List Wt
  c : Nat
  t : Dv
  q : Rk
structure PxAt (w0 w : World) (n size : Nat) (p : Px) : Prop where
  dev : Dev w0 w n size p.b p.s p.k p.D p.W
  rd : RDev w w0.heap.size n size p.c p.t p.q
  ap : ∀ i, foot p.k p.W i → ¬ rfoot p.q i
/-- The blocks that it may write. -/
def Px.own (p : Px) (i : Nat) : Prop := p.k.own i ∨ rfoot p.q i ∨ i = p.b ∨ i = p.c
/-- The blocks that it looks at. -/
def Px.all (p : Px) (i : Nat) : Prop := foot p.k p.W i ∨ rfoot p.q i ∨ i = p.b ∨ i = p.c
structure PxM (w w' : World) (p p' : Px) : Prop where
  eb : p'.b = p.b
  ec : p'.c = p.c
  kd : p'.k.d = p.k.d
  own : ∀ i, p'.own i → p.own i ∨ w.heap.size ≤ i
  all : ∀ i, p'.all i → p.all i ∨ w.heap.size ≤ i
  kept : Kept w w' p.own
structure PxW (w0 w w' : World) (n size : Nat) (p p' : Px) : Prop where
  z : PxAt w0 w' n size p'
  mv : PxM w w' p p'
  low : w0.heap.size ≤ w.heap.size
/-- They hold the same. -/
structure PxSame (n size : Nat) (p : Px) : Prop where
  st : p.s = p.t
  rows : secs n size p.D = (rst p.q).1
  waits : abs p.W = (rst p.q).2
section
variable {w0 w w' w'' : World} {n size : Nat} {p p' : Px}
theorem PxAt.bq (h : PxAt w0 w n size p) : ¬ rfoot p.q p.b := h.rd.ref.other_off h.dev.dev.head (by decide) (by decide) (by decide) (by decide)
theorem PxAt.cf (h : PxAt w0 w n size p) : ¬ foot p.k p.W p.c := by
  rintro (e | ⟨x, hx, e⟩)
  · exact h.dev.disk.disk.other_off h.rd.dev.head (by decide) (by decide) (by decide) e
  · have h1 := (h.dev.disk.disk.waits x hx).2.2.2
    have h2 := h.rd.dev.head
    rw [← e, h1] at h2
    simp at h2
theorem PxAt.bc (h : PxAt w0 w n size p) : p.b ≠ p.c := by
  intro e
  have h1 := h.dev.dev.head
  rw [e, h.rd.dev.head] at h1
  simp at h1
theorem PxAt.lt (h : PxAt w0 w n size p) : ∀ i, p.all i → i < w.heap.size := by
  rintro i (e | e | rfl | rfl)
  · exact h.dev.disk.disk.lt i e
  · exact (h.rd.ref.lt i e).2
  · exact h.dev.dev.lt
  · exact h.rd.dev.lt
theorem PxAt.low (h : PxAt w0 w n size p) : ∀ i, p.own i → w0.heap.size ≤ i := by
  rintro i (e | e | rfl | rfl)
  · exact h.dev.disk.own i e
  · exact (h.rd.ref.lt i e).1
  · exact h.dev.low
  · exact h.rd.low
theorem Px.own_all {i : Nat} (h : p.own i) : p.all i := by
  rcases h with e | e | e | e
  · exact .inl (.inl e)
  · exact .inr (.inl e)
  · exact .inr (.inr (.inl e))
  · exact .inr (.inr (.inr e))
theorem PxAt.then (h : PxAt w0 w n size p) (hg : w.grownBy w' none) : PxAt w0 w' n size p := ⟨h.dev.then hg, h.rd.then hg, h.ap⟩
theorem PxAt.other (h : PxAt w0 w n size p) {S : Nat → Prop} (hk : Kept w w' S) (hS : ∀ i, p.all i → ¬ S i) (hl : ∀ i, S i → w0.heap.size ≤ i) : PxAt w0 w' n size p :=
  ⟨⟨⟨h.dev.disk.disk.kept hk (fun i hi => hS i (.inl hi)), h.dev.disk.own, kept_new h.dev.disk.grown hk hl⟩, h.dev.dev.kept hk (hS _ (.inr (.inr (.inl rfl)))), h.dev.low⟩, ⟨h.rd.ref.kept hk (fun i hi => hS i (.inr (.inl hi))), h.rd.dev.kept hk (hS _ (.inr (.inr (.inr rfl)))), h.rd.low⟩, h.ap⟩
theorem PxW.refl (h : PxAt w0 w n size p) : PxW w0 w w n size p p := ⟨h, ⟨rfl, rfl, rfl, fun _ e => .inl e, fun _ e => .inl e, Kept.refl _ _⟩, h.dev.disk.grown.size⟩
theorem PxW.new (h : PxW w0 w w' n size p p') (hg : w'.grownBy w'' none) : PxW w0 w w'' n size p p' :=
  ⟨h.z.then hg, ⟨h.mv.eb, h.mv.ec, h.mv.kd, h.mv.own, h.mv.all, h.mv.kept.trans (Kept.new hg _) (fun _ _ e => e)⟩, h.low⟩
/-- A block that came later is written. -/
theorem PxW.row {g : Nat} (h : PxW w0 w w' n size p p') (hg : w'.grownBy w'' (some g)) (hn : w.heap.size ≤ g) (h1 : ¬ p'.all g) : PxW w0 w w'' n size p p' := by
  have hk : Kept w' w'' (fun i => i = g) := Kept.of hg (fun _ e _ => (Option.some.inj e).symm)
  exact ⟨h.z.other hk (fun i hi e => by have e : i = g := e; exact h1 (e ▸ hi)) (fun i e => by have e : i = g := e; have := h.low; omega), ⟨h.mv.eb, h.mv.ec, h.mv.kd, h.mv.own, h.mv.all, h.mv.kept.trans hk (fun i hi e => by have e : i = g := e; omega)⟩, h.low⟩
/-- The device goes on. -/
theorem PxW.dev {s' : Dv} {k' : Dk} {D' : List Nat} {W' : List Wt} (h : PxW w0 w w' n size p p') (hd : Dev w0 w'' n size p'.b s' k' D' W') (hm : DvM w' w'' p'.b p'.k k' p'.W W') : PxW w0 w w'' n size p ⟨p'.b, s', k', D', W', p'.c, p'.t, p'.q⟩ := by
  have hz := h.mv.kept.size
  have hft : ∀ i, foot k' W' i → foot p'.k p'.W i ∨ w'.heap.size ≤ i := by
    rintro i (e | ⟨x, hx, rfl⟩)
    · exact (hm.own i e).imp .inl id
    · rcases hm.blk x hx with ⟨y, hy, e⟩ | e
      · exact Or.inl (.inr ⟨y, hy, e⟩)
      · exact Or.inr e
  have hnb : ¬ rfoot p'.q p'.b := h.z.bq
  have hcf : ¬ foot p'.k p'.W p'.c := h.z.cf
  have hbc : p'.b ≠ p'.c := h.z.bc
  refine ⟨⟨hd, ⟨h.z.rd.ref.kept hm.kept ?_, h.z.rd.dev.kept hm.kept ?_, h.z.rd.low⟩, ?_⟩, ⟨h.mv.eb, h.mv.ec, hm.d.trans h.mv.kd, ?_, ?_, h.mv.kept.trans hm.kept ?_⟩, h.low⟩
  · rintro i hi (e | e)
    · exact h.z.ap i (.inl e) hi
    · have e : i = p'.b := e
      exact hnb (e ▸ hi)
  · rintro (e | e)
    · exact hcf (.inl e)
    · exact hbc e.symm
  · intro i hi hr
    rcases hft i hi with e | e
    · exact h.z.ap i e hr
    · have := (h.z.rd.ref.lt i hr).2; omega
  · rintro i (e | e | e | e)
    · rcases hm.own i e with e | e
      · exact h.mv.own i (.inl e)
      · exact Or.inr (by omega)
    · exact h.mv.own i (.inr (.inl e))
    · exact h.mv.own i (.inr (.inr (.inl e)))
    · exact h.mv.own i (.inr (.inr (.inr e)))
  · rintro i (e | e | e | e)
    · rcases hft i e with e | e
      · exact h.mv.all i (.inl e)
      · exact Or.inr (by omega)
    · exact h.mv.all i (.inr (.inl e))
    · exact h.mv.all i (.inr (.inr (.inl e)))
    · exact h.mv.all i (.inr (.inr (.inr e)))
  · rintro i hi (e | e)
    · rcases h.mv.own i (.inl e) with e | e
      · exact e
      · omega
    · rcases h.mv.own i (.inr (.inr (.inl e))) with e | e
      · exact e
      · omega
/-- The document's device goes on. -/
theorem PxW.ref {t' : Dv} {q' : Rk} (h : PxW w0 w w' n size p p') (hq : RDev w'' w0.heap.size n size p'.c t' q') (hm : RM w' w'' p'.c p'.q q') : PxW w0 w w'' n size p ⟨p'.b, p'.s, p'.k, p'.D, p'.W, p'.c, t', q'⟩ := by
  have hz := h.mv.kept.size
  have hnb : ¬ rfoot p'.q p'.b := h.z.bq
  have hcf : ¬ foot p'.k p'.W p'.c := h.z.cf
  have hbc : p'.b ≠ p'.c := h.z.bc
  have hl : ∀ i, rfoot p'.q i ∨ i = p'.c → w0.heap.size ≤ i := by
    rintro i (e | rfl)
    · exact (h.z.rd.ref.lt i e).1
    · exact h.z.rd.low
  have hno : ∀ i, foot p'.k p'.W i → ¬ (rfoot p'.q i ∨ i = p'.c) := by
    rintro i hi (e | e)
    · exact h.z.ap i hi e
    · exact hcf (e ▸ hi)
  refine ⟨⟨⟨⟨h.z.dev.disk.disk.kept hm.kept hno, h.z.dev.disk.own, kept_new h.z.dev.disk.grown hm.kept hl⟩, h.z.dev.dev.kept hm.kept ?_, h.z.dev.low⟩, hq, ?_⟩, ⟨h.mv.eb, h.mv.ec, h.mv.kd, ?_, ?_, h.mv.kept.trans hm.kept ?_⟩, h.low⟩
  · rintro (e | e)
    · exact hnb e
    · exact hbc e
  · intro i hi e
    rcases hm.rf i e with e | e
    · exact h.z.ap i hi e
    · have := h.z.dev.disk.disk.lt i hi; omega
  · rintro i (e | e | e | e)
    · exact h.mv.own i (.inl e)
    · rcases hm.rf i e with e | e
      · exact h.mv.own i (.inr (.inl e))
      · exact Or.inr (by omega)
    · exact h.mv.own i (.inr (.inr (.inl e)))
    · exact h.mv.own i (.inr (.inr (.inr e)))
  · rintro i (e | e | e | e)
    · exact h.mv.all i (.inl e)
    · rcases hm.rf i e with e | e
      · exact h.mv.all i (.inr (.inl e))
      · exact Or.inr (by omega)
    · exact h.mv.all i (.inr (.inr (.inl e)))
    · exact h.mv.all i (.inr (.inr (.inr e)))
  · rintro i hi (e | e)
    · rcases h.mv.own i (.inr (.inl e)) with e | e
      · exact e
      · omega
    · rcases h.mv.own i (.inr (.inr (.inr e))) with e | e
      · exact e
      · omega
theorem PxSame.len (h : PxSame n size p) : p.q.V.length = p.W.length := by
  have := congrArg List.length h.waits
  simpa [abs, rst, absV] using this.symm
end
end Go.Proofs.YtofdijaipjkfbaaDoor
/- place: a region of a few sectors of 64 bytes behind a first one, both ways. -/
namespace Go.Proofs.YtofdijaipjkfbaaDoor
open Go.RowKit Ap
attribute [local go_sem ↓] Go.wp_at_zero Go.wp_at_succ
def pN (x : Int) : Nat := (1 + x % 8).toNat
theorem pN_pos (x : Int) : 1 ≤ pN x ∧ pN x ≤ 8 := by unfold pN; omega
theorem pN_cast (x : Int) : 1 + x % 8 = (pN x : Int) := by unfold pN; omega
theorem may64 (N : Nat) (h1 : 1 ≤ N) (h2 : N ≤ 9) : mayB (N : Int) 64 = true := by
  rw [mayB_iff]
  exact ⟨by omega, by omega, by omega, by omega, by decide, by omega⟩
theorem secs_zs (n size : Nat) : secs n size (zs (n * size)) = List.replicate n (zs size) := by
  apply List.ext_getElem?
  intro i
  by_cases hi : i < n
  · rw [secs_get _ _ _ _ hi, zs_sec n size i hi, List.getElem?_replicate, if_pos hi]
  · rw [List.getElem?_eq_none (by rw [secs_length]; omega), List.getElem?_eq_none (by simp; omega)]
/-- What place leaves: a device and the document's, a region of each. -/
structure Plc (w0 w w' : World) (N r qr : Nat) (p : Px) : Prop where
  px : PxAt w0 w' (N + 1) 64 p
  same : PxSame (N + 1) 64 p
  new : p.W = [] ∧ p.q.V = [] ∧ p.s = Dv.anew ∧ p.t = Dv.anew ∧ p.D = zs ((N + 1) * 64)
  all : ∀ i, p.all i → w.heap.size ≤ i
  rg : RgAt w' r p.b 1 N
  rl : w.heap.size ≤ r
  qg : QgAt w' qr p.c 1 N
  ql : w.heap.size ≤ qr
  grown : w.grownBy w' none
set_option maxRecDepth 20000 in
set_option maxHeartbeats 8000000 in
theorem place_any (w0 w : World) (x : Int) (hg : w0.grownBy w none) : Calls Tryd.prog 17 #[.int .i64 x] w fun e w' => ∃ (p : Px) (r qr : Nat), e = .returned (.tuple #[.pointer (some ⟨r, 0, none⟩), .pointer (some ⟨p.b, 0, none⟩), .pointer (some ⟨qr, 0, none⟩), .bool true]) ∧ Plc w0 w w' (pN x) r qr p := by
  have HP : Hid (∀ w, Calls Tryd.prog 20 #[.int .i64 x, .int .i64 8] w fun e w' => e = .returned (.int .i64 (x % 8)) ∧ w' = w) := fun w => pick_any x 8 8 w rfl (by omega) (by omega)
  have HWN := hide (pN_cast x)
  have h1 := (pN_pos x).1
  have h2 := (pN_pos x).2
  have MB : Hid (mayB ((pN x + 1 : Nat) : Int) ((64 : Nat) : Int) = true) := may64 (pN x + 1) (by omega) (by omega)
  have SP : Hid (spanOk (pN x + 1) ((1 : Nat) : Int) ((pN x : Nat) : Int)) := ⟨by omega, by omega, by omega⟩
  generalize pN x = N at *
  have p1 : 0 ≤ x % 8 := by omega
  have p2 : x % 8 < 8 := by omega
  generalize x % 8 = xx at *
  have G0 := hide hg
  have HC : Hid ((N : Int) + 1 = ((N + 1 : Nat) : Int)) := by show _ = _; omega
  clear hg
  go_enter Tryd.func17, Tryd.ntmps17
  go_wp2_with fail
  refine (HP.out _).mono ?_
  rintro e w' ⟨rfl, rfl⟩
  go_wp2_with fail
  rw [HWN.out, HC.out]
  refine (newS (N + 1) 64 w0 w' G0.out MB.out).mono ?_
  rintro e w2 ⟨k, rfl, u2, g2, l2⟩
  have U2 := hide (And.intro u2 (And.intro g2 l2))
  clear u2 g2 l2
  go_wp2_with fail
  refine (dnew_any rfl U2.out.1).mono ?_
  rintro e w3 ⟨b, rfl, d3, l3, g3⟩
  have D3 := hide (And.intro d3 (And.intro l3 g3))
  clear d3 l3 g3
  go_wp2_with fail
  refine (gnew_at D3.out.1 1 N SP.out).mono ?_
  rintro e w4 ⟨r, rfl, d4, l4, g4⟩
  have D4 := hide (And.intro d4 (And.intro l4 g4))
  clear d4 l4 g4
  go_wp2_with fail
  rw [HC.out]
  refine (rnew_any (N + 1) 64 w4 MB.out).mono ?_
  rintro e w5 ⟨q, rfl, r5, s5, v5, g5⟩
  have R5 := hide (And.intro r5 (And.intro s5 (And.intro v5 g5)))
  clear r5 s5 v5 g5
  have Z4 : Hid (w0.heap.size ≤ w4.heap.size) := Nat.le_trans D3.out.1.disk.grown.size D4.out.2.2.size
  go_wp2_with fail
  refine (rdnew_any (R5.out.1.mono (lo' := w0.heap.size) Z4.out) (Nat.le_trans Z4.out R5.out.2.2.2.size)).mono ?_
  rintro e w6 ⟨c, rfl, d6, l6, g6⟩
  have D6 := hide (And.intro d6 (And.intro l6 g6))
  clear d6 l6 g6
  go_wp2_with fail
  refine (qnew_at D6.out.1 1 N SP.out).mono ?_
  rintro e w7 ⟨qr, rfl, d7, l7, g7⟩
  have D7 := hide (And.intro d7 (And.intro l7 g7))
  clear d7 l7 g7
  go_wp2
  refine bodyPost_ret (results_tmp4 rfl _ _ _) rfl ?_
  have z2 := U2.out.2.1.size
  have z3 := D3.out.2.2.size
  have z4 := D4.out.2.2.size
  have z5 := R5.out.2.2.2.size
  have z6 := D6.out.2.2.size
  have g47 : w4.grownBy w7 none := grown_trans (grown_trans R5.out.2.2.2 D6.out.2.2) D7.out.2.2
  have g37 : w3.grownBy w7 none := grown_trans D4.out.2.2 g47
  have g27 : w2.grownBy w7 none := grown_trans D3.out.2.2 g37
  have lk : ∀ i, foot k [] i → w'.heap.size ≤ i ∧ i < w2.heap.size := by
    rintro i (e | ⟨y, hy, _⟩)
    · exact ⟨U2.out.2.2 i e, U2.out.1.disk.lt i (.inl e)⟩
    · cases hy
  have lq : ∀ i, rfoot q i → w4.heap.size ≤ i := fun i e => (R5.out.1.lt i e).1
  have lb : w2.heap.size ≤ b := D3.out.2.1
  have lr : w3.heap.size ≤ r := D4.out.2.1
  have lc : w5.heap.size ≤ c := D6.out.2.1
  have lqr : w6.heap.size ≤ qr := D7.out.2.1
  have hz : PxAt w0 w7 (N + 1) 64 ⟨b, Dv.anew, k, zs ((N + 1) * 64), [], c, Dv.anew, q⟩ := ⟨D3.out.1.then g37, D6.out.1.then D7.out.2.2, fun i h1 h2 => by have := lk i h1; have := lq i h2; omega⟩
  have hall : ∀ i, Px.all ⟨b, Dv.anew, k, zs ((N + 1) * 64), [], c, Dv.anew, q⟩ i → w'.heap.size ≤ i := by
    rintro i (e | e | e | e)
    · exact (lk i e).1
    · have := lq i e; omega
    · have e : i = b := e
      omega
    · have e : i = c := e
      omega
  refine ⟨⟨b, Dv.anew, k, zs ((N + 1) * 64), [], c, Dv.anew, q⟩, r, qr, rfl, hz, ⟨rfl, ?_, ?_⟩, ⟨rfl, R5.out.2.2.1, rfl, rfl, rfl⟩, hall, D4.out.1.grown g47, by omega, D7.out.1, by omega, grown_trans U2.out.2.1 g27⟩
  · show secs (N + 1) 64 (zs ((N + 1) * 64)) = (rst q).1
    rw [secs_zs]; exact R5.out.2.1.symm
  · show abs [] = (rst q).2
    rw [rst, R5.out.2.2.1]; rfl
end Go.Proofs.YtofdijaipjkfbaaDoor
/- The contracts of the statements' own helpers for frames: SameFrame, LentFrame, KeptFrame, OverFrame, Pick. -/
namespace Go.Proofs.YtofdijaipjkfbaaDoor.Fm
open Go.RowKit
attribute [local go_sem ↓] Go.wp_at_zero Go.wp_at_succ

theorem tmod_neg (x : Int) (n : Nat) (hn : 1 ≤ n) (h : x.tmod (n : Int) < 0) : x.tmod (n : Int) + (n : Int) = x % (n : Int) := by
  have h1 := Int.tmod_eq_emod (a := x) (b := (n : Int))
  have h2 := Int.emod_nonneg x (show (n : Int) ≠ 0 by omega)
  have h3 := Int.emod_lt_of_pos x (show (0 : Int) < (n : Int) by omega)
  rw [h1] at h ⊢
  split at h
  · omega
  · rename_i h4
    rw [if_neg h4]
    simp
theorem tmod_nonneg (x : Int) (n : Nat) (hn : 1 ≤ n) (h : 0 ≤ x.tmod (n : Int)) : x.tmod (n : Int) = x % (n : Int) := by
  have h1 := Int.tmod_eq_emod (a := x) (b := (n : Int))
  have h2 := Int.emod_nonneg x (show (n : Int) ≠ 0 by omega)
  have h3 := Int.emod_lt_of_pos x (show (0 : Int) < (n : Int) by omega)
  rw [h1] at h ⊢
  split
  · omega
  · rename_i h4
    rw [if_neg h4] at h
    simp at h
    omega

set_option maxHeartbeats 400000 in
theorem pick_any (x N : Int) (n : Nat) (w : World) (hN : N = (n : Int)) (hn : 1 ≤ n) (hn2 : n ≤ 4611686018427387904) :
    Calls Tryd.prog 20 #[.int .i64 x, .int .i64 N] w fun e w' => e = .returned (.int .i64 (x % (n : Int))) ∧ w' = w := by
  subst hN
  have h1 : (1 : Int) ≤ (n : Int) := by omega
  have h2 : ((n : Int) == 0) = false := by simp; omega
  have hb := Int.tmod_lt_of_pos x (show (0 : Int) < (n : Int) by omega)
  have hb2 := Int.lt_tmod_of_pos x (show (0 : Int) < (n : Int) by omega)
  have hr1 := tmod_neg x n hn
  have hr2 := tmod_nonneg x n hn
  by_cases hs : x.tmod (n : Int) < 0
  · have hr := hr1 hs
    have HR := hide hr
    clear hr hr1 hr2
    go_enter Tryd.func20, Tryd.ntmps20
    go_wp2
    go_ret
    exact ⟨by rw [← HR.out]; rfl, rfl⟩
  · have hs2 : 0 ≤ x.tmod (n : Int) := by omega
    have hr := hr2 hs2
    have HR := hide hr
    clear hr hr1 hr2
    go_enter Tryd.func20, Tryd.ntmps20
    go_wp2
    go_ret
    exact ⟨by rw [← HR.out]; rfl, rfl⟩



theorem results_cell1 {fn : Func} {p : Tmp} {ty : TypeId} (h : fn.results = #[.cell p ty]) (tmps : Array Value) (P : Program) (w : World) :
    (results fn tmps).run P w = ((asAddr (tmps.getD p undef)).run P w).andThen fun a w₁ => (loadVar ty a).run P w₁ := by
  simp only [results, h]
  simp [Sem.run_bind, Result.andThen]

theorem LentAt.kept {w w' : World} {B k : Nat} {v : Value} {xs : List Int} {c : Array Value} {t : TypeId} {fr : Nat × Nat} (h : LentAt w B v xs) (hg : w.grownBy w' (some k)) (hk : w.heap[k]? = some (.cells c t fr)) (hne : t ≠ 5) : LentAt w' B v xs := by
  obtain ⟨g, cap, hv, ho⟩ := h
  exact ⟨g, cap, hv, own_kept ho hg hk hne⟩
theorem LentAt.grown {w w' : World} {B : Nat} {v : Value} {xs : List Int} (h : LentAt w B v xs) (hg : w.grownBy w' none) : LentAt w' B v xs := by
  obtain ⟨g, cap, hv, ho⟩ := h
  exact ⟨g, cap, hv, own_grown ho hg⟩
theorem LentAt.base {w : World} {B B' : Nat} {v : Value} {xs : List Int} (h : LentAt w B v xs) (hb : B' ≤ B) : LentAt w B' v xs := by
  obtain ⟨g, cap, hv, ho⟩ := h
  exact ⟨g, cap, hv, own_base ho hb⟩

end Go.Proofs.YtofdijaipjkfbaaDoor.Fm
/- Lists of frames, read: the contract of SameFrames. -/
namespace Go.Proofs.YtofdijaipjkfbaaDoor.Fm
open Go.RowKit
attribute [local go_sem ↓] Go.wp_at_zero Go.wp_at_succ

/-- The frame x, laid at the place j of a row at the head of block g. -/
structure FrC (w : World) (g j : Nat) (x : El) : Prop where
  c0 : w.cell? ⟨g, j * 3, none⟩ = some (.int .u64 x.f.e)
  c1 : w.cell? ⟨g, j * 3 + 1, none⟩ = some (.int .u64 x.f.s)
  c2 : w.cell? ⟨g, j * 3 + 2, none⟩ = some x.v
  body : ∃ bo bc, x.v = .slice bo x.f.b.length bc ∧ At w bo x.f.b
  short : x.f.b.length ≤ 32
def FsR (w : World) (ao : Option Addr) (ys : List El) : Prop := ∀ j x, ys[j]? = some x → ∃ g, ao = some ⟨g, 0, none⟩ ∧ FrC w g j x
theorem FrC.grown {w w' : World} {g j : Nat} {x : El} (h : FrC w g j x) (hg : w.grownBy w' none) : FrC w' g j x := by
  obtain ⟨bo, bc, e, ha⟩ := h.body
  exact ⟨hg.cell h.c0 (by simp), hg.cell h.c1 (by simp), hg.cell h.c2 (by simp), ⟨bo, bc, e, ha.kept hg (fun _ _ e => by cases e)⟩, h.short⟩
theorem FsR.grown {w w' : World} {ao : Option Addr} {ys : List El} (h : FsR w ao ys) (hg : w.grownBy w' none) : FsR w' ao ys := fun j x hx => by
  obtain ⟨g, ha, hc⟩ := h j x hx
  exact ⟨g, ha, hc.grown hg⟩
theorem FsAt.read {w : World} {base : Nat} {v : Value} {ys : List El} (h : FsAt w base v ys) : ∃ ao cap, v = .slice ao ys.length cap ∧ FsR w ao ys ∧ ys.length ≤ cap := by
  rcases h.own.2 with ⟨rfl, h0⟩ | ⟨g, cap, cur, rfl, hb, hg, hc, hm, hs, ht⟩
  · have : ys = [] := List.eq_nil_of_length_eq_zero h0
    subst this
    exact ⟨none, 0, rfl, (fun j x hx => by simp at hx), Nat.le_refl _⟩
  · refine ⟨some ⟨g, 0, none⟩, cap, rfl, fun j x hx => ⟨g, rfl, ?_⟩, hc⟩
    have hjl := (List.getElem?_eq_some_iff.1 hx).1
    obtain ⟨h1, h2, h3⟩ := fcl_at ys j x hx
    have hce : ∀ k u, (fcl ys)[k]? = some u → w.cell? ⟨g, k, none⟩ = some u := fun k u hu => by
      have := h.own.cells (g := g) rfl k u hu
      rwa [Addr.add_lit, Nat.zero_add] at this
    have hx' := h.each x (List.mem_of_getElem? hx)
    obtain ⟨bo, bc, e, q1, q2, q3, q4, q5, q6⟩ := own_at hx'.1.own
    exact ⟨hce _ _ (by rw [Nat.mul_comm]; exact h1), hce _ _ (by rw [Nat.mul_comm]; exact h2), hce _ _ (by rw [Nat.mul_comm]; exact h3), ⟨bo, bc, e, q4⟩, hx'.2.2.2⟩
theorem frs_at {l : List El} {j : Nat} {x : El} (h : l[j]? = some x) : (frs l)[j]? = some x.f := by simp [frs, h]

end Go.Proofs.YtofdijaipjkfbaaDoor.Fm
/- What a log's frames are: its history; a flush where the power does not go. -/
namespace Go.Proofs.YtofdijaipjkfbaaDoor
open Go.RowKit Ap
attribute [local go_sem ↓] Go.wp_at_zero Go.wp_at_succ
/-- The frames since the log began (behind the number S): their bytes are those that lie in the region, and those that wait. -/
structure Hist (g : Lg) (S : Int) (fs : List Fm.Fr) (X : List Nat) : Prop where
  chn : Fm.Chn g.e S fs
  la : g.la = S + fs.length
  bytes : X.take g.a ++ g.bs = Fm.nats (Fm.outs fs)
  fit : g.a ≤ X.length
  du : g.du = g.la → g.bs = []
  le : g.du ≤ g.la
theorem Hist.new (l : Nat) (E S : Int) (X : List Nat) : Hist (Lg.new l E S) S [] X := ⟨(fun i f h => by simp at h), by simp [Lg.new], by simp [Lg.new, Fm.outs, Fm.nats], Nat.zero_le _, fun _ => rfl, Int.le_refl _⟩
theorem Hist.reset (g : Lg) (E : Int) (X : List Nat) : Hist (g.reset E) g.la [] X := ⟨(fun i f h => by simp at h), by simp [Lg.reset], by simp [Lg.reset, Fm.outs, Fm.nats], Nat.zero_le _, fun _ => rfl, Int.le_refl _⟩
theorem nats_append (xs ys : List Int) : Fm.nats (xs ++ ys) = Fm.nats xs ++ Fm.nats ys := by simp [Fm.nats]
theorem Hist.end_ {g : Lg} {S : Int} {fs : List Fm.Fr} {X : List Nat} (h : Hist g S fs X) : g.end_ = Fm.fend fs := by
  have := congrArg List.length h.bytes
  rw [List.length_append, List.length_take, Fm.nats_length, Fm.outs_length] at this
  have := h.fit
  unfold Lg.end_
  omega
theorem Hist.more {g : Lg} {S : Int} {fs : List Fm.Fr} {X : List Nat} (h : Hist g S fs X) (xs : List Nat) (v : Value) (hok : (g.fr xs).Ok) (hl : xs.length ≤ 32) : Hist (g.more xs v) S (fs ++ [g.fr xs]) X := by
  have hle := h.le
  refine ⟨h.chn.snoc rfl ?_ hok (by show (ints xs).length ≤ 32; rw [ints_length]; exact hl), ?_, ?_, h.fit, ?_, ?_⟩
  · show g.la + 1 = _
    rw [h.la]
  · show g.la + 1 = _
    rw [h.la, List.length_append]; simp; omega
  · show X.take g.a ++ (g.bs ++ Fm.nats (g.fr xs).out) = _
    rw [Fm.outs_snoc, nats_append, ← List.append_assoc, h.bytes]
  · intro hd
    have hd : g.du = g.la + 1 := hd
    omega
  · show g.du ≤ g.la + 1
    omega
/-- What a flush that was OK leaves of a log. -/
structure FlG (g g' : Lg) : Prop where
  l : g'.l = g.l
  e : g'.e = g.e
  la : g'.la = g.la
  du : g'.du = g.la
  bs : g'.bs = []
  a : g'.a = g.end_
theorem FlG.fl (g : Lg) : FlG g (g.fl 0) := ⟨rfl, rfl, rfl, rfl, rfl, rfl⟩
theorem FlG.same {g : Lg} (hd : g.du = g.la) (hb : g.bs = []) : FlG g g := ⟨rfl, rfl, rfl, hd, hb, by simp [Lg.end_, hb]⟩
theorem FlG.end_ {g g' : Lg} (h : FlG g g') : g'.end_ = g.end_ := by unfold Lg.end_; rw [h.bs, h.a]; simp [Lg.end_]
theorem splice_take (X xs : List Nat) (a : Nat) (h : a + xs.length ≤ X.length) : (splice X a xs).take (a + xs.length) = X.take a ++ xs := by
  unfold splice
  rw [← List.append_assoc, List.take_append_of_le_length (by simp; omega), List.take_of_length_le (by simp; omega)]
theorem Hist.flush {g g' : Lg} {S : Int} {fs : List Fm.Fr} {X : List Nat} (h : Hist g S fs X) (q : FlG g g') (hf : g.end_ ≤ X.length) : Hist g' S fs (splice X g.a g.bs) := by
  have hf' : g.a + g.bs.length ≤ X.length := hf
  refine ⟨by rw [q.e]; exact h.chn, by rw [q.la]; exact h.la, ?_, ?_, fun _ => q.bs, by rw [q.du, q.la]; exact Int.le_refl _⟩
  · rw [q.a, q.bs, List.append_nil]
    show (splice X g.a g.bs).take (g.a + g.bs.length) = _
    rw [splice_take _ _ _ hf', h.bytes]
  · rw [q.a, length_splice _ _ _ hf']; exact hf
/-- Bytes of a region behind those of the frames. -/
theorem Hist.parts {g : Lg} {S : Int} {fs : List Fm.Fr} {X : List Nat} (h : Hist g S fs X) (hb : g.bs = []) : ints X = Fm.outs fs ++ ints (X.drop g.a) := by
  have h1 := h.bytes
  rw [hb, List.append_nil] at h1
  have h2 : ints (X.take g.a) = Fm.outs fs := by rw [h1, ints_nats h.chn.byt]
  rw [← h2, ← ints_append, List.take_append_drop]
theorem rowF_outs_nil (E S : Int) (fs : List Fm.Fr) (h : Fm.Chn E S fs) : Fm.rowF E S (Fm.outs fs) = fs := by
  have := Fm.rowF_outs E fs S [] h (fun x hx => by cases hx) (by
    intro hg
    have := hg.1
    simp [Fm.getF] at this)
  simpa using this
theorem Hist.pre {g : Lg} {S : Int} {fs : List Fm.Fr} {X : List Nat} (h : Hist g S fs X) (hb : g.bs = []) (hX : Bytes X) : fs <+: Fm.rowF g.e S (ints X) := by
  have h1 := h.parts hb
  have h2 := rowF_outs_nil g.e S fs h.chn
  have h3 := Fm.rowF_pre g.e _ S (Fm.outs fs) (ints (X.drop g.a)) (Nat.le_refl _) h.chn.byt (ints_byt (fun x hx => hX x (List.mem_of_mem_drop hx)))
  rw [h2, ← h1] at h3
  exact h3
theorem leV_zeros : ∀ (m : Nat), Fm.leV (List.replicate m 0) = 0 := by
  intro m
  induction m with
  | zero => rfl
  | succ m ih => simp [List.replicate_succ, Fm.leV, ih]
theorem not_goes_zeros (E S : Int) (m : Nat) (hE : E ≠ 0) : ¬ Fm.Goes E S (List.replicate m 0) := by
  intro h
  have h2 := h.2.1
  apply hE
  rw [← h2]
  unfold Fm.getF
  have : Fm.leV (((List.replicate m (0 : Int)).drop 2).take 8) = 0 := by
    rw [List.drop_replicate, List.take_replicate]; exact leV_zeros _
  repeat' split
  all_goals first | rfl | exact this
theorem Hist.only {g : Lg} {S : Int} {fs : List Fm.Fr} {X : List Nat} (h : Hist g S fs X) (hb : g.bs = []) (hE : g.e ≠ 0) (m : Nat) (hz : X.drop g.a = zs m) : Fm.rowF g.e S (ints X) = fs := by
  rw [h.parts hb, hz]
  have e : ints (zs m) = List.replicate m 0 := by simp [ints, zs]
  rw [e]
  exact Fm.rowF_outs g.e fs S _ h.chn (fun x hx => by have := List.eq_of_mem_replicate hx; omega) (not_goes_zeros _ _ _ hE)
/-- A flush where the power does not go. -/
theorem flA_free {n F a c : Nat} {xs : List Nat} {D : List Nat} (hD : D.length = n * 64) (hfit : F * 64 + a + xs.length ≤ n * 64) :
    flA F a xs (frD c) D [] = (0, frD (c + cst (full 64 a xs.length) (pcn 64 a xs.length) 0 + 1), splice D (F * 64 + a) xs, []) := by
  unfold flA
  simp only [wgo_free, frD_goes, frD_next, if_true]
  rw [syncA]
  have := now_all (size := 64) (F := F) (at_ := a) (D := D) (P := []) (b := xs) (n := n) (by omega) (by rw [now_nil]; exact hD) hfit
  unfold now at this
  rw [now, this]
  rfl
theorem abs_nil {W : List Wt} (h : abs W = []) : W = [] := by
  have := congrArg List.length h
  rw [abs_length] at this
  exact List.eq_nil_of_length_eq_zero this
section
variable {w0 w w' : World} {n b r F C c : Nat} {k : Dk} {D : List Nat} {g : Lg}
theorem LgAt.dlen {s : Dv} {W : List Wt} (h : LgAt w0 w n b r F C s k D W g) : D.length = n * 64 := h.dev.disk.disk.len
theorem lFlush_free (h : LgAt w0 w n b r F C (frD c) k D [] g) (hc : c ≤ 80000) (hdu : g.du = g.la → g.bs = []) :
    Calls Tryd.prog 7 #[.pointer (some ⟨g.l, 0, none⟩)] w fun e w' => e = .returned (.int .i64 0) ∧ ∃ k' c' g', LgAt w0 w' n b r F C (frD c') k' (splice D (F * 64 + g.a) g.bs) [] g' ∧ c' ≤ c + 25 ∧ FlG g g' ∧ LgW w w' b k k' [] [] g g' := by
  have hD := h.dlen
  have hfit := h.fit
  have hFC := h.hFC
  have hC := h.hC
  have hf := flA_free (n := n) (F := F) (a := g.a) (c := c) (xs := g.bs) hD (by omega)
  have hcst := cst_few (size := 64) (at_ := g.a) (n := g.bs.length) (by omega)
  refine (lFlush_at h (by simp) (by show c ≤ 90000; omega)).mono ?_
  rintro e w' (⟨h1, rfl, h3⟩ | ⟨h1, rfl, k', W', p⟩)
  · refine ⟨rfl, k, c, g, ?_, by omega, FlG.same h1 (hdu h1), LgM.lw (LgM.new h3)⟩
    rw [hdu h1, splice_nil]
    exact h.then h3
  · have e0 : abs ([] : List Wt) = [] := rfl
    rw [e0, hf] at p ⊢
    have hW := abs_nil p.abs
    subst hW
    exact ⟨rfl, k', _, g.fl 0, p.at_, by omega, FlG.fl g, p.mov⟩
end
end Go.Proofs.YtofdijaipjkfbaaDoor
/- A log over a device whose power does not go, with its frames: what each call comes to. -/
namespace Go.Proofs.YtofdijaipjkfbaaDoor
open Go.RowKit Ap
attribute [local go_sem ↓] Go.wp_at_zero Go.wp_at_succ
structure FrS (w0 w : World) (N b r : Nat) (k : Dk) (c : Nat) (D : List Nat) (g : Lg) (S : Int) (fs : List Fm.Fr) : Prop where
  at_ : LgAt w0 w (N + 1) b r 1 N (frD c) k D [] g
  hist : Hist g S fs (bytesAt D (1 * 64) (N * 64))
  byt : Bytes D
theorem bytes_bytesAt {D : List Nat} (h : Bytes D) (o m : Nat) : Bytes (bytesAt D o m) := fun x hx => h x (List.mem_of_mem_drop (List.mem_of_mem_take hx))
theorem bytes_splice {D xs : List Nat} (h : Bytes D) (hx : Bytes xs) (o : Nat) : Bytes (splice D o xs) := by
  intro x hm
  unfold splice at hm
  rcases List.mem_append.1 hm with h1 | h1
  · exact h x (List.mem_of_mem_take h1)
  · rcases List.mem_append.1 h1 with h2 | h2
    · exact hx x h2
    · exact h x (List.mem_of_mem_drop h2)
theorem bytesAt_splice (D xs : List Nat) (o a m : Nat) (h1 : a + xs.length ≤ m) (h2 : o + m ≤ D.length) : bytesAt (splice D (o + a) xs) o m = splice (bytesAt D o m) a xs := by
  have hl : (bytesAt D o m).length = m := bytesAt_length h2
  apply List.ext_getElem?
  intro i
  rw [bytesAt_get, splice_get _ _ _ _ (by omega), splice_get _ _ _ _ (by omega), bytesAt_get]
  by_cases hi : i < m
  · rw [if_pos hi]
    by_cases hx : a ≤ i ∧ i < a + xs.length
    · rw [if_pos (by omega), if_pos hx]
      congr 1; omega
    · rw [if_neg (by omega), if_neg hx, if_pos hi]
  · rw [if_neg hi, if_neg (by omega), if_neg hi]
theorem zs_bytes (m : Nat) : Bytes (zs m) := fun x hx => by have := List.eq_of_mem_replicate hx; omega
theorem bytesAt_zs (o m M : Nat) (h : o + m ≤ M) : bytesAt (zs M) o m = zs m := by
  simp [bytesAt, zs]; omega
section
variable {w0 w w' : World} {N b r c : Nat} {k : Dk} {D : List Nat} {g : Lg} {S : Int} {fs : List Fm.Fr}
theorem FrS.then (h : FrS w0 w N b r k c D g S fs) (hg : w.grownBy w' none) : FrS w0 w' N b r k c D g S fs := ⟨h.at_.then hg, h.hist, h.byt⟩
theorem FrS.xlen (h : FrS w0 w N b r k c D g S fs) : (bytesAt D (1 * 64) (N * 64)).length = N * 64 := bytesAt_length (by have := h.at_.dlen; omega)
theorem sNew {p : Px} {qr : Nat} {wp : World} (hp : Plc w0 wp w N r qr p) (h0 : w0.heap.size ≤ wp.heap.size) (hN : 1 ≤ N) (hN8 : N ≤ 8) (E S : Int) (hE : U64 E) (hS : U64 S) :
    Calls Tryd.prog 15 #[.pointer (some ⟨r, 0, none⟩), .int .u64 E, .int .u64 S] w fun e w' => ∃ l, e = .returned (.tuple #[.pointer (some ⟨l, 0, none⟩), .int .i64 0]) ∧ FrS w0 w' N p.b r p.k 0 (zs ((N + 1) * 64)) (Lg.new l E S) S [] ∧ w.grownBy w' none := by
  obtain ⟨h1, -, ⟨e1, -, e3, -, e5⟩, -, h5, h6, -, -, -⟩ := hp
  have hd := h1.dev
  rw [e1, e3, e5] at hd
  refine (lNew_at hd h5 (by omega) hN (by omega) (by omega) E S hE hS).mono ?_
  rintro e w' ⟨l, rfl, h2, h3, h4⟩
  exact ⟨l, rfl, ⟨h2, Hist.new l E S _, zs_bytes _⟩, h4⟩
theorem sAppend (h : FrS w0 w N b r k c D g S fs) (hT : Fm.Cr.Tab w0) (hw0 : 0 < w0.heap.size) (ao : Option Addr) (m cap : Nat) (xs : List Nat) (hm : xs.length = m) (hat : At w ao xs) (hb : Bytes xs) (hc : m ≤ cap) (hcm : cap ≤ maxLen) :
    Calls Tryd.prog 6 #[.pointer (some ⟨g.l, 0, none⟩), .slice ao m cap] w fun e w' =>
      (apC N g m ≠ 0 ∧ e = .returned (.tuple #[.int .u64 0, .int .i64 (apC N g m)]) ∧ w.grownBy w' none) ∨
      (apC N g m = 0 ∧ e = .returned (.tuple #[.int .u64 (g.la + 1), .int .i64 0]) ∧ ∃ v', FrS w0 w' N b r k c D (g.more xs v') S (fs ++ [g.fr xs]) ∧ LgM w w' g (g.more xs v')) := by
  refine (lAppend_at h.at_ hT hw0 ao m cap xs hm hat hb hc hcm).mono ?_
  rintro e w' (h1 | ⟨h1, h2, v', h3, h4⟩)
  · exact .inl h1
  · refine .inr ⟨h1, h2, v', ⟨h3, ?_, h.byt⟩, h4⟩
    have hq : ¬ 32 < m ∧ fitsB N g (m : Int) = true := by
      unfold apC at h1
      split at h1
      · simp at h1
      · split at h1
        · exact ⟨by assumption, by assumption⟩
        · simp at h1
    have hf := hq.2
    unfold fitsB at hf
    have hf := of_decide_eq_true hf
    exact h.hist.more xs v' (fr_ok h.at_ hf.2.2.1 hb) (by omega)
theorem sFlush (h : FrS w0 w N b r k c D g S fs) (hc : c ≤ 80000) :
    Calls Tryd.prog 7 #[.pointer (some ⟨g.l, 0, none⟩)] w fun e w' => e = .returned (.int .i64 0) ∧ ∃ k' c' g', FrS w0 w' N b r k' c' (splice D (1 * 64 + g.a) g.bs) g' S fs ∧ c' ≤ c + 25 ∧ FlG g g' ∧ LgW w w' b k k' [] [] g g' := by
  refine (lFlush_free h.at_ hc h.hist.du).mono ?_
  rintro e w' ⟨rfl, k', c', g', h1, h2, h3, h4⟩
  refine ⟨rfl, k', c', g', ⟨h1, ?_, bytes_splice h.byt h.at_.byt _⟩, h2, h3, h4⟩
  have hfit := h.at_.fit
  rw [bytesAt_splice D g.bs (1 * 64) g.a (N * 64) hfit (by have := h.at_.dlen; omega)]
  exact h.hist.flush h3 (by rw [h.xlen]; exact hfit)
theorem sReset (h : FrS w0 w N b r k c D g S fs) (E : Int) (hE : U64 E) :
    Calls Tryd.prog 8 #[.pointer (some ⟨g.l, 0, none⟩), .int .u64 E] w fun e w' => e = .returned (.int .i64 0) ∧ FrS w0 w' N b r k c D (g.reset E) g.la [] ∧ LgM w w' g (g.reset E) := by
  refine (lReset_at h.at_ E hE).mono ?_
  rintro e w' ⟨rfl, h1, h2⟩
  exact ⟨rfl, ⟨h1, Hist.reset g E _, h.byt⟩, h2⟩
theorem shows_now (F C : Nat) (D : List Nat) : shows F C D (abs []) = bytesAt D (F * 64) (C * 64) := rfl
theorem sScan (h : FrS w0 w N b r k c D g S fs) (hc : c ≤ 80000) (hT : Fm.Cr.Tab w0) (E S' : Int) (hS : U64 S') :
    Calls Tryd.prog 16 #[.pointer (some ⟨r, 0, none⟩), .int .u64 E, .int .u64 S'] w fun e w' => ∃ v ys c', e = .returned (.tuple #[v, .int .i64 ((Fm.fend (Fm.rowF E S' (ints (bytesAt D (1 * 64) (N * 64)))) : Nat) : Int), .int .i64 0]) ∧ Fm.frs ys = Fm.rowF E S' (ints (bytesAt D (1 * 64) (N * 64))) ∧ Fm.FsAt w' w.heap.size v ys ∧ FrS w0 w' N b r k c' D g S fs ∧ c' ≤ c + 11 ∧ LgW w w' b k k [] [] g g := by
  have hN := h.at_.hC
  have hp := pcn64 0 (N * 64) (by omega)
  refine (lScan_at h.at_.dev h.at_.rg (by omega) h.at_.few (by show c ≤ 90000; omega) hT E S' hS (bytes_bytesAt h.byt _ _)).mono ?_
  rw [shows_now, rgo_free]
  rintro e w' (⟨h1, v, ys, rfl, h2, h3, h4⟩ | ⟨h1, _⟩)
  · exact ⟨v, ys, _, rfl, h2, h3, ⟨h.at_.dv h4.dev h4.mov, h.hist, h.byt⟩, by omega, h4.mov.lw⟩
  · exact absurd rfl h1
end
end Go.Proofs.YtofdijaipjkfbaaDoor
