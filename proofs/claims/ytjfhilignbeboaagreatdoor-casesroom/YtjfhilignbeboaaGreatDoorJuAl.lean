/- Texts joined: BkM, BkO, La, RkRy, Qx, Qa, Yx, Ya. -/
import Derived.ProofKit
import Derived.OpenShut
import Derived.Deep.DeepHandedRow
import Derived.Lib.LaidTab
import Derived.ChangeOld
import Derived.SizedLaws
import Derived.Test.YtjfhilignbeboaaGreatDoorJuAk
import Derived.Test.YtjfhilignbeboaaGreatDoorJuAi
import Derived.Test.YtjfhilignbeboaaGreatDoorCards
import Derived.Test.YtjfhilignbeboaaGreatDoorTie
import Derived.Laws.BitsAllLaws
import Derived.WalkKit
import Derived.WalkSpells
import Derived.WalkLawsBesides
import Derived.Laws.CopyOwn
import Derived.Deep.MidRow
import Derived.Test.YtjfhilignbeboaaGreatDoorChecked
import Derived.Laws.ResultCell
import Derived.Laws.EntriesVeiled
import Derived.LoopN
import Derived.Test.YtjfhilignbeboaaGreatDoorJuAa
/- What a book is asked. -/
namespace Go.Proofs.YtjfhilignbeboaaGreatDoor
open Go.RowKit
attribute [local go_sem ↓] Go.wp_at_zero Go.wp_at_succ
attribute [local go_sem] Oper.semAt_some
section
variable {w w' W : World} {p q : Bp} {S S' : Sb} {K K' : Nat}
set_option maxHeartbeats 4000000 in
theorem len_any (h : BkAt w p S K) : Calls Tryz.prog 27 #[.pointer (some ⟨p.b, 0, none⟩)] w fun e w' => e = .returned (.int .i64 (S.L.length : Int)) ∧ w' = w := by
  have HC1 := hide h.isNone
  have HC2 := hide h.len
  have c8 := h.cells 8 _ rfl
  clear h
  go_enter Tryz.func27, Tryz.ntmps27
  go_wp2_with fail
  refine HC1.out.mono ?_
  rintro e w1 ⟨rfl, rfl⟩
  go_wp2_with fail
  refine HC2.out.mono ?_
  rintro e w2 ⟨rfl, rfl⟩
  go_wp2
  go_ret
  exact ⟨rfl, rfl⟩
set_option maxHeartbeats 4000000 in
theorem next_any (h : BkAt w p S K) : Calls Tryz.prog 26 #[.pointer (some ⟨p.b, 0, none⟩)] w fun e w' => e = .returned (.int .u32 (S.n : Int)) ∧ w' = w := by
  have HC1 := hide h.isNone
  have c8 := h.cells 4 _ rfl
  clear h
  go_enter Tryz.func26, Tryz.ntmps26
  go_wp2_with fail
  refine HC1.out.mono ?_
  rintro e w1 ⟨rfl, rfl⟩
  go_wp2
  go_ret
  exact ⟨rfl, rfl⟩
set_option maxHeartbeats 4000000 in
theorem clock_any (h : BkAt w p S K) : Calls Tryz.prog 28 #[.pointer (some ⟨p.b, 0, none⟩)] w fun e w' => e = .returned (.int .i64 S.t) ∧ w' = w := by
  have HC1 := hide h.isNone
  have c8 := h.cells 5 _ rfl
  clear h
  go_enter Tryz.func28, Tryz.ntmps28
  go_wp2_with fail
  refine HC1.out.mono ?_
  rintro e w1 ⟨rfl, rfl⟩
  go_wp2
  go_ret
  exact ⟨rfl, rfl⟩
set_option maxHeartbeats 4000000 in
theorem get_any (h : BkAt w p S K) (hw : S.Wk) (k : Nat) (hk : k < 4294967296) : Calls Tryz.prog 25 #[.pointer (some ⟨p.b, 0, none⟩), .int .u32 (k : Int)] w fun e w' => e = .returned (.tuple #[bgV ((fnd S.L k).getD ⟨0, 0, 0⟩), .int .i64 (if (fnd S.L k).isSome then 0 else 171)]) ∧ BkAt w' p S K ∧ Kept w w' p.own := by
  have b0 := Bx.start h.lt bgz 51
  have h0 := h.then (grown_alloc w (.cells bgz.toArray 51))
  have HC1 := hide h0.isNone
  have hC2 := h0.find hw k hk
  have HB := hide b0
  generalize (fnd S.L k).getD ⟨0, 0, 0⟩ = x at hC2 ⊢
  generalize (if (fnd S.L k).isSome then (0 : Int) else 171) = er at hC2 ⊢
  have HC2 := hide hC2
  clear hC2 h h0 b0
  obtain ⟨xi, xs, xu⟩ := x
  unfold bgV at *
  simp only [bgz] at *
  go_enter Tryz.func25, Tryz.ntmps25
  go_wp2_with fail
  refine HC1.out.mono ?_
  rintro e w1 ⟨rfl, rfl⟩
  go_wp2_with fail
  refine HC2.out.mono ?_
  rintro e w2 ⟨rfl, hA, hk2⟩
  have hX := HB.out.keep hk2
  obtain ⟨d0, d1, d2, d3⟩ := box3 hX.box
  have H3 := hide (And.intro hA hX)
  clear hA hX hk2 HB HC1 HC2
  go_wp2
  obtain ⟨r1, r2⟩ := row3 _ H3.out.2.box (.int .u32 (xi : Int)) (.int .i64 (xs : Int)) (.int .i64 xu)
  have k1 : Kept _ _ (fun i => i = w.heap.size) := Kept.of r2 (fun _ e _ => (Option.some.inj e).symm)
  refine bodyPost_ret (results_bg rfl _ _ w.heap.size ⟨xi, xs, xu⟩ (.int .i64 er) rfl r1 rfl) rfl ⟨rfl, H3.out.1.far k1 (fun i hi e => H3.out.2.nx (by rw [← e]; exact hi)), ?_⟩
  exact H3.out.2.st.kept.trans k1 (fun i hi e => absurd hi (by rw [e]; exact Nat.lt_irrefl _))
/-- What stands at a seat that is taken. -/
theorem BkAt.seat (h : BkAt w p S K) (hw : S.Wk) {s : Nat} {x : Bg} (hx : sat S.L s = some x) : w.cell? ⟨p.sg, s * 3, none⟩ = some (.int .u32 (x.i : Int)) ∧ w.cell? ⟨p.sg, s * 3 + 1, none⟩ = some (.int .i64 (x.s : Int)) ∧ w.cell? ⟨p.sg, s * 3 + 2, none⟩ = some (.int .i64 x.u) := by
  obtain ⟨Lb, R, M, E, T, N, B, C, h, hR, hN⟩ := h
  obtain ⟨hm, hs⟩ := (sat_some hw.one).1 hx
  have h1 := hR.rw x hm
  rw [hs] at h1
  have h2 : s < R.length := by
    apply Classical.byContradiction
    intro hn
    rw [List.getElem?_eq_none (by omega)] at h1
    cases h1
  have h3 : rd R s = x := by unfold rd; rw [h1]; rfl
  have h4 := h.fd.seat h2
  rw [h3] at h4
  exact h4
/-- What a book answers at a seat. -/
def atX (S : Sb) (s : Int) : Bg := if 0 ≤ s ∧ s < (S.a : Int) then (sat S.L s.toNat).getD ⟨0, 0, 0⟩ else ⟨0, 0, 0⟩
def atE (S : Sb) (s : Int) : Int := if 0 ≤ s ∧ s < (S.a : Int) then (if (sat S.L s.toNat).isSome then 0 else 171) else 140
set_option maxHeartbeats 4000000 in
theorem at_any (h : BkAt w p S K) (hw : S.Wk) (s : Int) : Calls Tryz.prog 35 #[.pointer (some ⟨p.b, 0, none⟩), .int .i64 s] w fun e w' => e = .returned (.tuple #[bgV (atX S s), .int .i64 (atE S s)]) ∧ w.grownBy w' none := by
  have m0 := Bm.start h bgz 51
  have HC1 := hide m0.bk.isNone
  have HC2 := hide (fun W => hasSeat_any S.a S.b S.c s W)
  have a0 := m0.ff.a0
  have a1 := m0.ff.a1
  have a2 := m0.ff.a2
  obtain ⟨d0, d1, d2, d3⟩ := box3 m0.box
  by_cases hs : 0 ≤ s ∧ s < (S.a : Int)
  · obtain ⟨n, rfl⟩ := Int.eq_ofNat_of_zero_le hs.1
    have hn : n < S.a := by omega
    rw [decide_eq_true hs] at HC2
    unfold atX atE
    rw [if_pos hs, if_pos hs, Int.toNat_natCast]
    have HC3 : Hid (∀ W, Bm w W w.heap.size bgz 51 p S K → Calls Tryz.prog 88 #[.pointer (some ⟨p.tb, 0, none⟩), .int .i64 (n : Int)] W fun e w' => e = .returned (.bool (sat S.L n).isSome) ∧ W.grownBy w' none) := fun W hW => hW.bk.has n hn
    have HM := hide m0
    cases hq : sat S.L n with
    | some x =>
      have HS : Hid (∀ W, Bm w W w.heap.size bgz 51 p S K → W.cell? ⟨p.sg, n * 3, none⟩ = some (.int .u32 (x.i : Int)) ∧ W.cell? ⟨p.sg, n * 3 + 1, none⟩ = some (.int .i64 (x.s : Int)) ∧ W.cell? ⟨p.sg, n * 3 + 2, none⟩ = some (.int .i64 x.u)) := fun W hW => hW.bk.seat hw hq
      rw [hq] at HC3
      simp only [Option.isSome, Option.getD, if_true] at *
      have h1 : (0 : Int) ≤ (n : Int) := by omega
      have h2 : (n : Int) < (S.a : Int) := by omega
      clear m0 h hs hq hw
      obtain ⟨xi, xs, xu⟩ := x
      unfold bgV limV at *
      simp only [bgz] at *
      go_enter Tryz.func35, Tryz.ntmps35
      go_wp2_with fail
      refine HC1.out.mono ?_
      rintro e w1 ⟨rfl, rfl⟩
      go_wp2_with fail
      refine (HC2.out _).mono ?_
      rintro e w2 ⟨rfl, hg2⟩
      have m2 := HM.out.then hg2
      have a6 := m2.ff.a6
      have HM2 := hide m2
      clear m2 HM a0 a1 a2 d0 d1 d2 d3 HC1 HC2
      go_wp2_with fail
      refine (HC3.out _ HM2.out).mono ?_
      rintro e w3 ⟨rfl, hg3⟩
      have m3 := HM2.out.then hg3
      have a7 := m3.bk.cells 7 _ rfl
      obtain ⟨s0, s1, s2⟩ := HS.out _ m3
      obtain ⟨d0, d1, d2, d3⟩ := box3 m3.box
      have HM3 := hide m3
      clear m3 HM2 a6 HC3 HS
      go_wp2
      obtain ⟨r1, r2⟩ := row3 _ HM3.out.box (.int .u32 (xi : Int)) (.int .i64 (xs : Int)) (.int .i64 xu)
      exact bodyPost_ret (results_bg rfl _ _ w.heap.size ⟨xi, xs, xu⟩ (.int .i64 0) rfl r1 rfl) rfl ⟨rfl, gn_set (gn_set (gn_set HM3.out.gr (Nat.le_refl _)) (Nat.le_refl _)) (Nat.le_refl _)⟩
    | none =>
      rw [hq] at HC3
      simp only [Option.isSome, Option.getD, Bool.false_eq_true, if_false] at *
      clear m0 h hs hq hw
      unfold bgV limV at *
      simp only [bgz] at *
      go_enter Tryz.func35, Tryz.ntmps35
      go_wp2_with fail
      refine HC1.out.mono ?_
      rintro e w1 ⟨rfl, rfl⟩
      go_wp2_with fail
      refine (HC2.out _).mono ?_
      rintro e w2 ⟨rfl, hg2⟩
      have m2 := HM.out.then hg2
      have a6 := m2.ff.a6
      have HM2 := hide m2
      clear m2 HM a0 a1 a2 d0 d1 d2 d3 HC1 HC2
      go_wp2_with fail
      refine (HC3.out _ HM2.out).mono ?_
      rintro e w3 ⟨rfl, hg3⟩
      have m3 := HM2.out.then hg3
      obtain ⟨d0, d1, d2, d3⟩ := box3 m3.box
      have HM3 := hide m3
      clear m3 HM2 a6 HC3
      go_wp2
      obtain ⟨r1, r2⟩ := row3 _ HM3.out.box (.int .u32 0) (.int .i64 0) (.int .i64 0)
      exact bodyPost_ret (results_bg rfl _ _ w.heap.size ⟨0, 0, 0⟩ (.int .i64 171) rfl r1 rfl) rfl ⟨rfl, gn_set (gn_set (gn_set HM3.out.gr (Nat.le_refl _)) (Nat.le_refl _)) (Nat.le_refl _)⟩
  · rw [decide_eq_false hs] at HC2
    unfold atX atE
    rw [if_neg hs, if_neg hs]
    have HM := hide m0
    clear m0 h hs hw
    unfold bgV limV at *
    simp only [bgz] at *
    go_enter Tryz.func35, Tryz.ntmps35
    go_wp2_with fail
    refine HC1.out.mono ?_
    rintro e w1 ⟨rfl, rfl⟩
    go_wp2_with fail
    refine (HC2.out _).mono ?_
    rintro e w2 ⟨rfl, hg2⟩
    have m2 := HM.out.then hg2
    obtain ⟨d0, d1, d2, d3⟩ := box3 m2.box
    have HM3 := hide m2
    clear m2 HM a0 a1 a2 HC1 HC2
    go_wp2
    obtain ⟨r1, r2⟩ := row3 _ HM3.out.box (.int .u32 0) (.int .i64 0) (.int .i64 0)
    exact bodyPost_ret (results_bg rfl _ _ w.heap.size ⟨0, 0, 0⟩ (.int .i64 140) rfl r1 rfl) rfl ⟨rfl, gn_set (gn_set (gn_set HM3.out.gr (Nat.le_refl _)) (Nat.le_refl _)) (Nat.le_refl _)⟩
end
end Go.Proofs.YtjfhilignbeboaaGreatDoor
/- A book in the midst of a law: beside boxes of the law's own. -/
namespace Go.Proofs.YtjfhilignbeboaaGreatDoor
open Go.RowKit
attribute [local go_sem ↓] Go.wp_at_zero Go.wp_at_succ
attribute [local go_sem] Oper.semAt_some
/-- A book at b, made since w, beside boxes. -/
structure Lk (w W : World) (b : Nat) (S : Sb) (K : Nat) (p : Bp) (Bs : List (Nat × List Value × TypeId)) : Prop where
  eb : p.b = b
  bk : BkAt W p S K
  gr : w.grownBy W none
  own : ∀ i, p.own i → w.heap.size ≤ i
  bx : ∀ x ∈ Bs, W.heap[x.1]? = some (.cells x.2.1.toArray x.2.2 (0, 0)) ∧ ¬ p.own x.1 ∧ w.heap.size ≤ x.1
section
variable {w W W' : World} {b : Nat} {S S' : Sb} {K K' : Nat} {p q : Bp} {Bs : List (Nat × List Value × TypeId)}
theorem Lk.kept (h : Lk w W b S K p Bs) (k : Kept W W' p.own) : w.grownBy W' none :=
  ((Kept.new h.gr (fun i => w.heap.size ≤ i)).trans k (fun i _ e => h.own i e)).grown (fun i hi e => by omega)
theorem Lk.step (h : Lk w W b S K p Bs) (k : Bst W W' p q) (hb : BkAt W' q S' K') : Lk w W' b S' K' q Bs :=
  ⟨k.b.trans h.eb, hb, h.kept k.kept, fun i hi => by
    rcases k.own i hi with e | e
    · exact h.own i e
    · exact Nat.le_trans h.gr.size e, fun x hx => by
    obtain ⟨h1, h2, h3⟩ := h.bx x hx
    refine ⟨k.kept.at h1 h2, fun e => ?_, h3⟩
    rcases k.own _ e with e | e
    · exact h2 e
    · have := row_lt h1; omega⟩
theorem Lk.then (h : Lk w W b S K p Bs) (g : W.grownBy W' none) : Lk w W' b S K p Bs := h.step (Bst.grown g p) (h.bk.then g)
theorem Lk.drew (h : Lk w W b S K p Bs) : Lk w W.drew b S K p Bs := h.then (grown_drew W none)
theorem Lk.box (h : Lk w W b S K p Bs) (cs : List Value) (ty : TypeId) : Lk w (W.alloc (.cells cs.toArray ty)) b S K p ((W.heap.size, cs, ty) :: Bs) := by
  have h1 := h.then (grown_alloc W (.cells cs.toArray ty))
  refine ⟨h1.eb, h1.bk, h1.gr, h1.own, fun x hx => ?_⟩
  rcases List.mem_cons.1 hx with rfl | hx
  · exact ⟨heap_alloc_new W _, fun e => Nat.lt_irrefl _ (h.bk.lt _ e), h.gr.size⟩
  · exact h1.bx x hx
theorem Lk.sub {Cs : List (Nat × List Value × TypeId)} (h : Lk w W b S K p Bs) (hs : ∀ x ∈ Cs, x ∈ Bs) : Lk w W b S K p Cs := ⟨h.eb, h.bk, h.gr, h.own, fun x hx => h.bx x (hs x hx)⟩
theorem Lk.bare (h : Lk w W b S K p Bs) : Lk w W b S K p [] := h.sub (fun x hx => by cases hx)
theorem Lk.more (h : Lk w W b S K p Bs) (hk : K ≤ K') : Lk w W b S K' p Bs := ⟨h.eb, h.bk.mono hk, h.gr, h.own, h.bx⟩
theorem Lk.put {X : Nat} {cs : List Value} {ty : TypeId} (h : Lk w W b S K p [(X, cs, ty)]) (j : Nat) (v : Value) : Lk w (W.setCell ⟨X, j, none⟩ v) b S K p [(X, cs.set j v, ty)] := by
  obtain ⟨h1, h2, h3⟩ := h.bx (X, cs, ty) (by simp)
  refine ⟨h.eb, h.bk.far (kept_setCell W X j v) (fun i hi e => h2 (by rw [← e]; exact hi)), grown_then h.gr (grown_setCell W X j v) (fun i e => .inl (by cases e; exact h3)), h.own, fun x hx => ?_⟩
  simp only [List.mem_singleton] at hx
  subst hx
  exact ⟨row_setCell h1 j v, h2, h3⟩
theorem Lk.cell {X : Nat} {cs : List Value} {ty : TypeId} (h : Lk w W b S K p Bs) (hm : (X, cs, ty) ∈ Bs) (j : Nat) (v : Value) (hv : cs[j]? = some v) : W.cell? ⟨X, j, none⟩ = some v := by
  rw [cell_row (h.bx _ hm).1]; exact hv
theorem Lk.free {X : Nat} {cs : List Value} {ty : TypeId} (h : Lk w W b S K p Bs) (hm : (X, cs, ty) ∈ Bs) (j : Nat) : W.frozen? ⟨X, j, none⟩ = false := free_row (h.bx _ hm).1 j
theorem Lk.apply (h : Lk w W b S K p Bs) (ho : S.Ok) (hK : K ≤ 10000000) (hT : Rk.Tab w) (r : Rc) (hr : r.Ok) : Calls Tryz.prog 24 #[.pointer (some ⟨b, 0, none⟩), Rk.rcV r] W fun e w' => e = .returned (.int .i64 (appE S r)) ∧ ∃ q, Lk w w' b (app S r) (K + 1) q Bs ∧ Bst W w' p q := by
  have := apply_any h.bk ho hK r hr (hT.grown h.gr (by simp))
  rw [h.eb] at this
  refine this.mono ?_
  rintro e w' ⟨rfl, q, h1, h2⟩
  exact ⟨rfl, q, h.step h2 h1, h2⟩
theorem Lk.len (h : Lk w W b S K p Bs) : Calls Tryz.prog 27 #[.pointer (some ⟨b, 0, none⟩)] W fun e w' => e = .returned (.int .i64 (S.L.length : Int)) ∧ w' = W := by
  have := len_any h.bk; rw [h.eb] at this; exact this
theorem Lk.next (h : Lk w W b S K p Bs) : Calls Tryz.prog 26 #[.pointer (some ⟨b, 0, none⟩)] W fun e w' => e = .returned (.int .u32 (S.n : Int)) ∧ w' = W := by
  have := next_any h.bk; rw [h.eb] at this; exact this
theorem Lk.clock (h : Lk w W b S K p Bs) : Calls Tryz.prog 28 #[.pointer (some ⟨b, 0, none⟩)] W fun e w' => e = .returned (.int .i64 S.t) ∧ w' = W := by
  have := clock_any h.bk; rw [h.eb] at this; exact this
theorem Lk.seat (h : Lk w W b S K p Bs) (hw : S.Wk) (s : Int) : Calls Tryz.prog 35 #[.pointer (some ⟨b, 0, none⟩), .int .i64 s] W fun e w' => e = .returned (.tuple #[bgV (atX S s), .int .i64 (atE S s)]) ∧ Lk w w' b S K p Bs := by
  have := at_any h.bk hw s; rw [h.eb] at this
  refine this.mono ?_
  rintro e w' ⟨rfl, g⟩
  exact ⟨rfl, h.then g⟩
theorem Lk.get (h : Lk w W b S K p Bs) (hw : S.Wk) (k : Nat) (hk : k < 4294967296) : Calls Tryz.prog 25 #[.pointer (some ⟨b, 0, none⟩), .int .u32 (k : Int)] W fun e w' => e = .returned (.tuple #[bgV ((fnd S.L k).getD ⟨0, 0, 0⟩), .int .i64 (if (fnd S.L k).isSome then 0 else 171)]) ∧ Lk w w' b S K p Bs := by
  have := get_any h.bk hw k hk; rw [h.eb] at this
  refine this.mono ?_
  rintro e w' ⟨rfl, h1, h2⟩
  exact ⟨rfl, h.step (Bst.keep h2) h1⟩
theorem Lk.all (h : Lk w W b S K p Bs) (hw : S.Wk) : Calls Tryz.prog 46 #[.pointer (some ⟨b, 0, none⟩)] W fun e w' => ∃ u, e = .returned u ∧ VlV w' W.heap.size u S.L ∧ Lk w w' b S K p Bs := by
  have := all_any h.bk hw; rw [h.eb] at this
  refine this.mono ?_
  rintro e w' ⟨u, rfl, h1, h2⟩
  exact ⟨u, rfl, h1, h.then h2⟩
theorem Lk.copy (h : Lk w W b S K p Bs) (hw : S.Wk) : Calls Tryz.prog 14 #[.pointer (some ⟨b, 0, none⟩)] W fun e w' => ∃ q : Bp, e = .returned (.pointer (some ⟨q.b, 0, none⟩)) ∧ BkAt w' q S 4096 ∧ Lk w w' b S K p Bs ∧ (∀ i, q.own i → W.heap.size ≤ i) ∧ (∀ i, p.own i → ¬ q.own i) := by
  have := copy_any h.bk hw; rw [h.eb] at this
  refine this.mono ?_
  rintro e w' ⟨q, rfl, h1, h2, h3⟩
  exact ⟨q, rfl, h1, h.then h2, h3, fun i hp hq => by have := h3 i hq; have := h.bk.lt i hp; omega⟩
end
theorem Sb.Ok.new {a b c : Nat} (h : Gx.OkS a b c) : Sb.Ok ⟨a, b, c, 1, 0, []⟩ := by
  obtain ⟨h1, h2, h3, h4, h5, h6⟩ := h
  exact ⟨by simp only; omega, by simp only; omega, by simp only; omega, by simp only; omega, by simp only; omega, by simp only; omega, by simp only; omega, by simp only; omega, by simp only; omega, by simp only [mxC]; omega, List.Pairwise.nil, (fun x hx => by cases hx), (fun x hx => by cases hx), List.Pairwise.nil, (fun x hx => by cases hx), by simp⟩
/-- Records that lie somewhere. -/
def RecsAt (w : World) (ao : Option Addr) (rs : List Rc) : Prop := ∀ j r, rs[j]? = some r → ∃ blk off, ao = some (⟨blk, off, none⟩ : Addr) ∧ w.cell? ⟨blk, off + j * 5, none⟩ = some (.int .i64 r.k) ∧ w.cell? ⟨blk, off + j * 5 + 1, none⟩ = some (.int .u32 r.i) ∧ w.cell? ⟨blk, off + j * 5 + 2, none⟩ = some (.int .i64 r.s) ∧ w.cell? ⟨blk, off + j * 5 + 3, none⟩ = some (.int .i64 r.u) ∧ w.cell? ⟨blk, off + j * 5 + 4, none⟩ = some (.int .i64 r.c)
theorem RecsAt.grown {w w' : World} {ao : Option Addr} {os : List Rc} (h : RecsAt w ao os) (g : w.grownBy w' none) : RecsAt w' ao os := by
  intro j o hj
  obtain ⟨b, off, e, h1, h2, h3, h4, h5⟩ := h j o hj
  exact ⟨b, off, e, g.cell h1 (by simp), g.cell h2 (by simp), g.cell h3 (by simp), g.cell h4 (by simp), g.cell h5 (by simp)⟩
def S0 : Sb := ⟨3, 2, 1, 1, 0, []⟩
def S1 : Sb := ⟨3, 2, 1, 2, 0, [⟨1, 0, 10⟩]⟩
def S2 : Sb := ⟨3, 2, 1, 2, 10, []⟩
end Go.Proofs.YtjfhilignbeboaaGreatDoor
/- What the rows' listed table gives; a world for the witnesses; arguments that are rows of bytes, records: shared by the rows' proofs. -/
namespace Go.Proofs.YtjfhilignbeboaaGreatDoor
open Go.ChangeShapes Go.WideShapes Go.ChangeAt Go.RowKit Go.Deep

theorem seat_own : ownKnob Tryz.prog.godebug = none := by kernel_rfl
theorem seat_laid : laidOutB Tryz.prog = true := by kernel_rfl
theorem gTab : Tryz.prog.globalNamed "gangway/records.fieldsOf" = some 0 := by kernel_rfl
theorem gTabType : (Tryz.prog.globals[0]?).map (·.type) = some 127 := by kernel_rfl
theorem cells160 : Tryz.prog.cellsOf 127 = 24 := by kernel_rfl
theorem cells159 : Tryz.prog.cellsOf 126 = 4 := by kernel_rfl
theorem cells4 : Tryz.prog.cellsOf 4 = 1 := by kernel_rfl
theorem cellsOf24 : Tryz.prog.cellsOf 23 = 1 := by kernel_rfl
theorem cellsOf3 : Tryz.prog.cellsOf 3 = 1 := by kernel_rfl
theorem cellsOf2 : Tryz.prog.cellsOf 2 = 1 := by kernel_rfl
theorem listOf4 {α : Type} {l : List α} (h : l.length = 4) : ∃ a b c d, l = [a, b, c, d] := by
  match l, h with
  | [a, b, c, d], _ => exact ⟨a, b, c, d, rfl⟩
theorem listOf5 {α : Type} {l : List α} (h : l.length = 5) : ∃ a b c d e, l = [a, b, c, d, e] := by
  match l, h with
  | [a, b, c, d, e], _ => exact ⟨a, b, c, d, e, rfl⟩
variable {H : Type} {enc : TypeId × Value → H}
/-- Four bools that read as such lie so. -/
theorem cells_fields {w : World} {base : Nat} {sp : Nat → Bool} {held : Bool} {fuel : Nat} {cs : List Value} {a b c d : Bool} {p : List MemPlace}
    (h : DataW.trod enc Tryz.prog w base sp held fuel 126 cs = some (.agg [.lit (.bool a), .lit (.bool b), .lit (.bool c), .lit (.bool d)], p)) : cs = [.bool a, .bool b, .bool c, .bool d] := by
  obtain ⟨xs, n, _, hx, hl, hsz, hf⟩ := DataW.trod_struct Tryz.underlying126 h
  rw [cells159] at hl
  obtain ⟨v0, v1, v2, v3, rfl⟩ := listOf4 hl
  obtain ⟨y0, y1, y2, y3, rfl⟩ := listOf4 (show xs.length = 4 from hsz)
  have f0 : DataW.trod enc Tryz.prog w base sp held n 4 [v0] = some y0 := by simpa [cells4] using hf 0 _ rfl
  have f1 : DataW.trod enc Tryz.prog w base sp held n 4 [v1] = some y1 := by simpa [cells4] using hf 1 _ rfl
  have f2 : DataW.trod enc Tryz.prog w base sp held n 4 [v2] = some y2 := by simpa [cells4] using hf 2 _ rfl
  have f3 : DataW.trod enc Tryz.prog w base sp held n 4 [v3] = some y3 := by simpa [cells4] using hf 3 _ rfl
  obtain ⟨b0, e0, rfl⟩ := DataW.trod_bool Tryz.underlying4 f0
  obtain ⟨b1, e1, rfl⟩ := DataW.trod_bool Tryz.underlying4 f1
  obtain ⟨b2, e2, rfl⟩ := DataW.trod_bool Tryz.underlying4 f2
  obtain ⟨b3, e3, rfl⟩ := DataW.trod_bool Tryz.underlying4 f3
  have hd := congrArg Prod.fst hx
  simp at hd e0 e1 e2 e3
  obtain ⟨rfl, rfl, rfl, rfl⟩ := hd
  rw [e0, e1, e2, e3]
theorem table {W : World} (h : laidMetH Tryz.prog [("gangway/records.fieldsOf", Rows.laid_gangway_records_fieldsOf)] W) : Rk.Tab W := by
  have h' : laidMet Tryz.prog [("gangway/records.fieldsOf", Rows.laid_gangway_records_fieldsOf)] W := h
  obtain ⟨ps, ⟨g', t', cs, fuel, p, q, hg', ht', hvar, hd, _, _⟩, _⟩ := h'
  obtain rfl := Option.some.inj (gTab.symm.trans hg')
  obtain rfl := Option.some.inj (gTabType.symm.trans ht')
  cases fuel with
  | zero => simp [DataW.trod] at hd
  | succ fuel =>
    simp only [DataW.trod, Tryz.underlying127, cells160, cells159] at hd
    split at hd
    · rename_i hl
      obtain ⟨xs, hm, hx⟩ := Option.map_eq_some_iff.1 hd
      have hxs := congrArg Prod.fst hx
      simp only [Rows.laid_gangway_records_fieldsOf, DataW.agg.injEq] at hxs
      have key : ∀ i (a b c d : Bool), i < 6 → (xs.map (·.1))[i]? = some (.agg [.lit (.bool a), .lit (.bool b), .lit (.bool c), .lit (.bool d)]) → (cs.toList.drop (i * 4)).take 4 = [.bool a, .bool b, .bool c, .bool d] := by
        intro i a b c d hi he
        obtain ⟨y, hy, hf⟩ := Lib.mapM_at hm i i (by simp [hi])
        rw [List.getElem?_map, hy] at he
        obtain ⟨y1, y2⟩ := y
        simp at he
        subst he
        exact cells_fields hf
      rw [hxs] at key
      have k0 := key 0 _ _ _ _ (by decide) rfl
      have k1 := key 1 _ _ _ _ (by decide) rfl
      have k2 := key 2 _ _ _ _ (by decide) rfl
      have k3 := key 3 _ _ _ _ (by decide) rfl
      have k4 := key 4 _ _ _ _ (by decide) rfl
      have k5 := key 5 _ _ _ _ (by decide) rfl
      have hall : cs.toList = Rk.tabB.map Value.bool := by
        have e : cs.toList = (cs.toList.drop (0 * 4)).take 4 ++ ((cs.toList.drop (1 * 4)).take 4 ++ ((cs.toList.drop (2 * 4)).take 4 ++ ((cs.toList.drop (3 * 4)).take 4 ++ ((cs.toList.drop (4 * 4)).take 4 ++ (cs.toList.drop (5 * 4)).take 4)))) := by
          have s : ∀ n, cs.toList.drop n = (cs.toList.drop n).take 4 ++ cs.toList.drop (n + 4) := by
            intro n
            conv => lhs; rw [← List.take_append_drop 4 (cs.toList.drop n), List.drop_drop]
          have z : (cs.toList.drop (5 * 4)).take 4 = cs.toList.drop (5 * 4) := List.take_of_length_le (by rw [List.length_drop, hl]; decide)
          rw [z, ← s (4 * 4), ← s (3 * 4), ← s (2 * 4), ← s (1 * 4), ← s (0 * 4)]
          simp
        rw [e, k0, k1, k2, k3, k4, k5]
        rfl
      intro j hj
      have := World.var?_cell gTab hvar j
      rw [this, show cs[j]? = cs.toList[j]? by simp, hall, List.getElem?_map, List.getD_eq_getElem?_getD]
      have hjl : j < Rk.tabB.length := hj
      rw [List.getElem?_eq_getElem hjl]
      rfl
    · cases hd
/-- A world for the witness: the table (block 0) holding what its initialiser lays. -/
noncomputable def laidWorld (os : Os) : World :=
  { World.holding Tryz.prog os ⟨#[], #[], []⟩ with heap := (World.holding Tryz.prog os ⟨#[], #[], []⟩).heap.modify 0 fun
      | .cells _ t frozen => .cells (Rk.tabB.map Value.bool).toArray t frozen
      | o => o }
end Go.Proofs.YtjfhilignbeboaaGreatDoor
/- Records as bytes: numbers alone. -/
namespace Go.Proofs.YtjfhilignbeboaaGreatDoor
/-- How many bytes a kind has. -/
def sz (k : Int) : Nat := if k = 1 then 15 else if k = 2 then 5 else if k = 3 then 5 else if k = 4 then 7 else if k = 5 then 9 else 0
theorem sz_zero {k : Int} (h : ¬ (1 ≤ k ∧ k ≤ 5)) : sz k = 0 := by
  unfold sz
  rw [if_neg (by omega), if_neg (by omega), if_neg (by omega), if_neg (by omega), if_neg (by omega)]
end Go.Proofs.YtjfhilignbeboaaGreatDoor
/- Requests as bytes: numbers alone, without the program. -/
namespace Go.Proofs.YtjfhilignbeboaaGreatDoor.Rs
/-- A request: kind, tag, id, seat, ttl. -/
structure Rq where
  k : Int
  t : Int
  i : Int
  s : Int
  u : Int
/-- Its numbers are such. -/
structure Rq.Ok (q : Rq) : Prop where
  k0 : -9223372036854775808 ≤ q.k
  k1 : q.k ≤ 9223372036854775807
  t0 : 0 ≤ q.t
  t1 : q.t < 4294967296
  i0 : 0 ≤ q.i
  i1 : q.i < 4294967296
  s0 : -9223372036854775808 ≤ q.s
  s1 : q.s ≤ 9223372036854775807
  u0 : -9223372036854775808 ≤ q.u
  u1 : q.u ≤ 9223372036854775807
/-- What a kind has. -/
def hI (k : Int) : Bool := decide (k = 2 ∨ k = 3 ∨ k = 4 ∨ k = 5)
def hS (k : Int) : Bool := decide (k = 1 ∨ k = 4 ∨ k = 6)
def hL (k : Int) : Bool := decide (k = 1 ∨ k = 7)
/-- A number in its place. -/
def inP (b : Bool) (n m : Int) : Bool := if b then decide (0 ≤ n ∧ n ≤ m) else decide (n = 0)
/-- It may be. -/
def Rq.mayB (q : Rq) : Bool := decide (1 ≤ q.k ∧ q.k ≤ 10) && (inP (hI q.k) q.i 4294967295 && (inP (hS q.k) q.s 65535 && inP (hL q.k) q.u 9223372036854775807))
def Rq.May (q : Rq) : Prop := q.mayB = true
instance (q : Rq) : Decidable q.May := by unfold Rq.May; exact inferInstance
/-- What Check answers. -/
def chk (q : Rq) : Int := if q.May then 0 else 200
end Go.Proofs.YtjfhilignbeboaaGreatDoor.Rs
/- requests: parts, what a kind has. -/
namespace Go.Proofs.YtjfhilignbeboaaGreatDoor.Rs
open Go.RowKit
attribute [local go_sem ↓] Go.wp_at_zero Go.wp_at_succ
def rqV (q : Rq) : Value := .agg #[.int .i64 q.k, .int .u32 q.t, .int .u32 q.i, .int .i64 q.s, .int .i64 q.u]
def rqC (q : Rq) : List Value := [.int .i64 q.k, .int .u32 q.t, .int .u32 q.i, .int .i64 q.s, .int .i64 q.u]
theorem results_cell1 {fn : Func} {p : Tmp} {ty : TypeId} (h : fn.results = #[.cell p ty]) (tmps : Array Value) (P : Program) (w : World) :
    (results fn tmps).run P w = ((asAddr (tmps.getD p undef)).run P w).andThen fun a w₁ => (loadVar ty a).run P w₁ := by
  simp only [results, h]
  simp [Sem.run_bind, Result.andThen]
theorem isKind_any (k : Int) (w : World) : Calls Tryz.prog 72 #[.int .i64 k] w fun e w' => e = .returned (.bool (decide (1 ≤ k ∧ k ≤ 10))) ∧ w' = w := by
  by_cases h1 : 1 ≤ k
  · by_cases h2 : k ≤ 10
    · rw [decide_eq_true (show 1 ≤ k ∧ k ≤ 10 from ⟨h1, h2⟩)]
      go_enter Tryz.func72, Tryz.ntmps72
      go_wp2
      go_ret
      exact ⟨rfl, rfl⟩
    · rw [decide_eq_false (show ¬ (1 ≤ k ∧ k ≤ 10) from fun h => h2 h.2)]
      go_enter Tryz.func72, Tryz.ntmps72
      go_wp2
      go_ret
      exact ⟨rfl, rfl⟩
  · rw [decide_eq_false (show ¬ (1 ≤ k ∧ k ≤ 10) from fun h => h1 h.1)]
    go_enter Tryz.func72, Tryz.ntmps72
    go_wp2
    go_ret
    exact ⟨rfl, rfl⟩
def partsV : Value := .agg #[.int .i64 4294967295, .func (.func 120) #[] #[], .func (.func 121) #[] #[], .func (.func 122) #[] #[], .func (.func 124) #[] #[], .int .i64 65535, .func (.func 126) #[] #[], .func (.func 127) #[] #[], .func (.func 128) #[] #[], .func (.func 130) #[] #[], .int .i64 9223372036854775807, .func (.func 132) #[] #[], .func (.func 133) #[] #[], .func (.func 134) #[] #[], .func (.func 136) #[] #[]]
theorem parts_any (w : World) : Calls Tryz.prog 73 #[] w fun e w' => e = .returned partsV ∧ w.grownBy w' none := by
  unfold partsV
  go_enter Tryz.func73, Tryz.ntmps73
  go_wp2
  have b := heap_alloc_new w (.cells [Value.int .i64 4294967295, .func (.func 120) #[] #[], .func (.func 121) #[] #[], .func (.func 122) #[] #[], .func (.func 124) #[] #[], .int .i64 65535, .func (.func 126) #[] #[], .func (.func 127) #[] #[], .func (.func 128) #[] #[], .func (.func 130) #[] #[], .int .i64 9223372036854775807, .func (.func 132) #[] #[], .func (.func 133) #[] #[], .func (.func 134) #[] #[], .func (.func 136) #[] #[]].toArray 134)
  have G := hide (World.grownBy_alloc w (.cells #[.int .i64 4294967295, .func (.func 120) #[] #[], .func (.func 121) #[] #[], .func (.func 122) #[] #[], .func (.func 124) #[] #[], .int .i64 65535, .func (.func 126) #[] #[], .func (.func 127) #[] #[], .func (.func 128) #[] #[], .func (.func 130) #[] #[], .int .i64 9223372036854775807, .func (.func 132) #[] #[], .func (.func 133) #[] #[], .func (.func 134) #[] #[], .func (.func 136) #[] #[]] 134) none)

  have c0 := cell_row b 0
  have c1 := cell_row b 1
  have c2 := cell_row b 2
  have c3 := cell_row b 3
  have c4 := cell_row b 4
  have c5 := cell_row b 5
  have c6 := cell_row b 6
  have c7 := cell_row b 7
  have c8 := cell_row b 8
  have c9 := cell_row b 9
  have c10 := cell_row b 10
  have c11 := cell_row b 11
  have c12 := cell_row b 12
  have c13 := cell_row b 13
  have c14 := cell_row b 14
  clear b
  generalize w.alloc (.cells #[.int .i64 4294967295, .func (.func 120) #[] #[], .func (.func 121) #[] #[], .func (.func 122) #[] #[], .func (.func 124) #[] #[], .int .i64 65535, .func (.func 126) #[] #[], .func (.func 127) #[] #[], .func (.func 128) #[] #[], .func (.func 130) #[] #[], .int .i64 9223372036854775807, .func (.func 132) #[] #[], .func (.func 133) #[] #[], .func (.func 134) #[] #[], .func (.func 136) #[] #[]] 134) = w1 at *
  refine bodyPost_ret (v := .agg #[.int .i64 4294967295, .func (.func 120) #[] #[], .func (.func 121) #[] #[], .func (.func 122) #[] #[], .func (.func 124) #[] #[], .int .i64 65535, .func (.func 126) #[] #[], .func (.func 127) #[] #[], .func (.func 128) #[] #[], .func (.func 130) #[] #[], .int .i64 9223372036854775807, .func (.func 132) #[] #[], .func (.func 133) #[] #[], .func (.func 134) #[] #[], .func (.func 136) #[] #[]]) ?_ rfl ?_
  · rw [results_cell1 rfl]; go_simp
  exact ⟨rfl, G.out⟩
theorem hasId_any (k : Int) (w : World) : Calls Tryz.prog 120 #[.int .i64 k] w fun e w' => e = .returned (.bool (hI k)) ∧ w' = w := by
  by_cases h2 : k = 2
  · subst h2
    go_enter Tryz.func120, Tryz.ntmps120
    go_wp2
    go_ret
    exact ⟨rfl, rfl⟩
  by_cases h3 : k = 3
  · subst h3
    go_enter Tryz.func120, Tryz.ntmps120
    go_wp2
    go_ret
    exact ⟨rfl, rfl⟩
  by_cases h4 : k = 4
  · subst h4
    go_enter Tryz.func120, Tryz.ntmps120
    go_wp2
    go_ret
    exact ⟨rfl, rfl⟩
  by_cases h5 : k = 5
  · subst h5
    go_enter Tryz.func120, Tryz.ntmps120
    go_wp2
    go_ret
    exact ⟨rfl, rfl⟩
  rw [show hI k = false from decide_eq_false (by omega)]
  have a2 : (k == 2) = false := by simpa using h2
  have b2 : decide (k = 2) = false := by simpa using h2
  have a3 : (k == 3) = false := by simpa using h3
  have b3 : decide (k = 3) = false := by simpa using h3
  have a4 : (k == 4) = false := by simpa using h4
  have b4 : decide (k = 4) = false := by simpa using h4
  have a5 : (k == 5) = false := by simpa using h5
  have b5 : decide (k = 5) = false := by simpa using h5
  go_enter Tryz.func120, Tryz.ntmps120
  go_wp2
  go_ret
  exact ⟨rfl, rfl⟩
theorem hasSeat_any (k : Int) (w : World) : Calls Tryz.prog 126 #[.int .i64 k] w fun e w' => e = .returned (.bool (hS k)) ∧ w' = w := by
  by_cases h1 : k = 1
  · subst h1
    go_enter Tryz.func126, Tryz.ntmps126
    go_wp2
    go_ret
    exact ⟨rfl, rfl⟩
  by_cases h4 : k = 4
  · subst h4
    go_enter Tryz.func126, Tryz.ntmps126
    go_wp2
    go_ret
    exact ⟨rfl, rfl⟩
  by_cases h6 : k = 6
  · subst h6
    go_enter Tryz.func126, Tryz.ntmps126
    go_wp2
    go_ret
    exact ⟨rfl, rfl⟩
  rw [show hS k = false from decide_eq_false (by omega)]
  have a1 : (k == 1) = false := by simpa using h1
  have b1 : decide (k = 1) = false := by simpa using h1
  have a4 : (k == 4) = false := by simpa using h4
  have b4 : decide (k = 4) = false := by simpa using h4
  have a6 : (k == 6) = false := by simpa using h6
  have b6 : decide (k = 6) = false := by simpa using h6
  go_enter Tryz.func126, Tryz.ntmps126
  go_wp2
  go_ret
  exact ⟨rfl, rfl⟩
theorem hasTtl_any (k : Int) (w : World) : Calls Tryz.prog 132 #[.int .i64 k] w fun e w' => e = .returned (.bool (hL k)) ∧ w' = w := by
  by_cases h1 : k = 1
  · subst h1
    go_enter Tryz.func132, Tryz.ntmps132
    go_wp2
    go_ret
    exact ⟨rfl, rfl⟩
  by_cases h7 : k = 7
  · subst h7
    go_enter Tryz.func132, Tryz.ntmps132
    go_wp2
    go_ret
    exact ⟨rfl, rfl⟩
  rw [show hL k = false from decide_eq_false (by omega)]
  have a1 : (k == 1) = false := by simpa using h1
  have b1 : decide (k = 1) = false := by simpa using h1
  have a7 : (k == 7) = false := by simpa using h7
  have b7 : decide (k = 7) = false := by simpa using h7
  go_enter Tryz.func132, Tryz.ntmps132
  go_wp2
  go_ret
  exact ⟨rfl, rfl⟩
/-- The kinds that change something. -/
def chg (k : Int) : Bool := decide (k = 1 ∨ k = 2 ∨ k = 3 ∨ k = 4 ∨ k = 7)
theorem changes_any (k : Int) (w : World) : Calls Tryz.prog 32 #[.int .i64 k] w fun e w' => e = .returned (.bool (chg k)) ∧ w' = w := by
  by_cases h1 : k = 1
  · subst h1
    go_enter Tryz.func32, Tryz.ntmps32
    go_wp2
    go_ret
    exact ⟨rfl, rfl⟩
  by_cases h2 : k = 2
  · subst h2
    go_enter Tryz.func32, Tryz.ntmps32
    go_wp2
    go_ret
    exact ⟨rfl, rfl⟩
  by_cases h3 : k = 3
  · subst h3
    go_enter Tryz.func32, Tryz.ntmps32
    go_wp2
    go_ret
    exact ⟨rfl, rfl⟩
  by_cases h4 : k = 4
  · subst h4
    go_enter Tryz.func32, Tryz.ntmps32
    go_wp2
    go_ret
    exact ⟨rfl, rfl⟩
  by_cases h7 : k = 7
  · subst h7
    go_enter Tryz.func32, Tryz.ntmps32
    go_wp2
    go_ret
    exact ⟨rfl, rfl⟩
  rw [show chg k = false from decide_eq_false (by omega)]
  have a1 : (k == 1) = false := by simpa using h1
  have b1 : decide (k = 1) = false := by simpa using h1
  have a2 : (k == 2) = false := by simpa using h2
  have b2 : decide (k = 2) = false := by simpa using h2
  have a3 : (k == 3) = false := by simpa using h3
  have b3 : decide (k = 3) = false := by simpa using h3
  have a4 : (k == 4) = false := by simpa using h4
  have b4 : decide (k = 4) = false := by simpa using h4
  have a7 : (k == 7) = false := by simpa using h7
  have b7 : decide (k = 7) = false := by simpa using h7
  go_enter Tryz.func32, Tryz.ntmps32
  go_wp2
  go_ret
  exact ⟨rfl, rfl⟩
end Go.Proofs.YtjfhilignbeboaaGreatDoor.Rs
/- Replies as bytes: numbers alone, without the program. -/
namespace Go.Proofs.YtjfhilignbeboaaGreatDoor.Rt
/-- A reply: tag, kind, error, id, seat, until, count. -/
structure Ry where
  t : Int
  k : Int
  e : Int
  i : Int
  s : Int
  u : Int
  c : Int
/-- Its numbers are such. -/
structure Ry.Ok (q : Ry) : Prop where
  t0 : 0 ≤ q.t
  t1 : q.t < 4294967296
  k0 : -9223372036854775808 ≤ q.k
  k1 : q.k ≤ 9223372036854775807
  e0 : -9223372036854775808 ≤ q.e
  e1 : q.e ≤ 9223372036854775807
  i0 : 0 ≤ q.i
  i1 : q.i < 4294967296
  s0 : -9223372036854775808 ≤ q.s
  s1 : q.s ≤ 9223372036854775807
  u0 : -9223372036854775808 ≤ q.u
  u1 : q.u ≤ 9223372036854775807
  c0 : -9223372036854775808 ≤ q.c
  c1 : q.c ≤ 9223372036854775807
/-- What a reply of a kind and an error has. -/
def hI (k e : Int) : Bool := decide (e = 0 ∧ (k = 1 ∨ k = 6))
def hS (k e : Int) : Bool := decide (e = 0 ∧ (k = 4 ∨ k = 5))
def hU (k e : Int) : Bool := decide (e = 0 ∧ (k = 1 ∨ k = 5 ∨ k = 6 ∨ k = 7))
def hC (k e : Int) : Bool := decide (e = 0 ∧ (k = 8 ∨ k = 9 ∨ k = 10))
/-- A number in its place. -/
def inP (b : Bool) (n m : Int) : Bool := if b then decide (0 ≤ n ∧ n ≤ m) else decide (n = 0)
/-- It may be as a reply of a kind. -/
def Ry.kindB (q : Ry) : Bool := decide (1 ≤ q.k ∧ q.k ≤ 10) && (decide (0 ≤ q.e ∧ q.e ≤ 65535) && (inP (hI q.k q.e) q.i 4294967295 && (inP (hS q.k q.e) q.s 65535 && (inP (hU q.k q.e) q.u 9223372036854775807 && inP (hC q.k q.e) q.c 65535))))
/-- It is what no request is answered with. -/
def Ry.noneB (q : Ry) : Bool := decide (q.t = 0 ∧ q.k = 0 ∧ q.e = 200 ∧ q.i = 0 ∧ q.s = 0 ∧ q.u = 0 ∧ q.c = 0)
def Ry.mayB (q : Ry) : Bool := q.kindB || q.noneB
def Ry.May (q : Ry) : Prop := q.mayB = true
instance (q : Ry) : Decidable q.May := by unfold Ry.May; exact inferInstance
/-- What Check answers. -/
def chk (q : Ry) : Int := if q.May then 0 else 210
def zRy : Ry := ⟨0, 0, 0, 0, 0, 0, 0⟩
theorem has_e {k e : Int} (h : e ≠ 0) : hI k e = false ∧ hS k e = false ∧ hU k e = false ∧ hC k e = false := by
  refine ⟨decide_eq_false (fun x => h x.1), decide_eq_false (fun x => h x.1), decide_eq_false (fun x => h x.1), decide_eq_false (fun x => h x.1)⟩
end Go.Proofs.YtjfhilignbeboaaGreatDoor.Rt
/- replies: which fields a reply has, what may stand in one. -/
namespace Go.Proofs.YtjfhilignbeboaaGreatDoor.Rt
open Go.RowKit
attribute [local go_sem ↓] Go.wp_at_zero Go.wp_at_succ
def ryV (q : Ry) : Value := .agg #[.int .u32 q.t, .int .i64 q.k, .int .i64 q.e, .int .u32 q.i, .int .i64 q.s, .int .i64 q.u, .int .i64 q.c]
theorem box7 {w : World} {g : Nat} {t : TypeId} {a b c d e f h : Value} (hh : w.heap[g]? = some (.cells [a, b, c, d, e, f, h].toArray t (0, 0))) : w.cell? ⟨g, 0, none⟩ = some a ∧ w.cell? ⟨g, 1, none⟩ = some b ∧ w.cell? ⟨g, 2, none⟩ = some c ∧ w.cell? ⟨g, 3, none⟩ = some d ∧ w.cell? ⟨g, 4, none⟩ = some e ∧ w.cell? ⟨g, 5, none⟩ = some f ∧ w.cell? ⟨g, 6, none⟩ = some h :=
  ⟨cell_row hh 0, cell_row hh 1, cell_row hh 2, cell_row hh 3, cell_row hh 4, cell_row hh 5, cell_row hh 6⟩
/-- The table of fields. -/
def tabN : List Int := [0, 5, 0, 0, 2, 6, 5, 4, 8, 8, 8]
def Tab (w : World) : Prop := ∀ j, j < 11 → w.cell? ⟨1, j, none⟩ = some (.int .u8 (tabN.getD j 0))
theorem Tab.lt {w : World} (h : Tab w) : 0 < w.heap.size := by
  have := h 0 (by decide)
  cases hb : w.heap[1]? with
  | none => simp [World.cell?, hb] at this
  | some o => exact Nat.lt_of_le_of_lt (Nat.zero_le _) (row_lt hb)
theorem Tab.grown {w w' : World} {row : Option Nat} (h : Tab w) (hg : w.grownBy w' row) (hr : row ≠ some 1) : Tab w' := fun j hj => hg.cell (h j hj) (fun e => hr e.symm)
theorem Tab.new {w w' : World} (h : Tab w) (hg : w.grownBy w' none) : Tab w' := h.grown hg (by simp)
/-- Which fields there are, as bits. -/
def fv (k e : Int) : Int := if e = 0 then (if k = 1 ∨ k = 6 then 5 else if k = 4 then 2 else if k = 5 then 6 else if k = 7 then 4 else if k = 8 ∨ k = 9 ∨ k = 10 then 8 else 0) else 0
def hasT : List (Int × Int × Bool) := [(0, 1, false), (0, 2, false), (0, 4, false), (0, 8, false), (5, 1, true), (5, 2, false), (5, 4, true), (5, 8, false), (2, 1, false), (2, 2, true), (2, 4, false), (2, 8, false), (6, 1, false), (6, 2, true), (6, 4, true), (6, 8, false), (4, 1, false), (4, 2, false), (4, 4, true), (4, 8, false), (8, 1, false), (8, 2, false), (8, 4, false), (8, 8, true)]
theorem fv_cases (k e : Int) : (fv k e = 0 ∧ hI k e = false ∧ hS k e = false ∧ hU k e = false ∧ hC k e = false) ∨ (fv k e = 5 ∧ hI k e = true ∧ hS k e = false ∧ hU k e = true ∧ hC k e = false) ∨ (fv k e = 2 ∧ hI k e = false ∧ hS k e = true ∧ hU k e = false ∧ hC k e = false) ∨ (fv k e = 6 ∧ hI k e = false ∧ hS k e = true ∧ hU k e = true ∧ hC k e = false) ∨ (fv k e = 4 ∧ hI k e = false ∧ hS k e = false ∧ hU k e = true ∧ hC k e = false) ∨ (fv k e = 8 ∧ hI k e = false ∧ hS k e = false ∧ hU k e = false ∧ hC k e = true) := by
  by_cases he : e = 0
  · subst he
    unfold fv
    rw [if_pos rfl]
    by_cases h1 : k = 1 ∨ k = 6
    · rw [if_pos h1]; exact Or.inr (Or.inl ⟨rfl, decide_eq_true (by omega), decide_eq_false (by omega), decide_eq_true (by omega), decide_eq_false (by omega)⟩)
    rw [if_neg h1]
    by_cases h2 : k = 4
    · rw [if_pos h2]; exact Or.inr (Or.inr (Or.inl ⟨rfl, decide_eq_false (by omega), decide_eq_true (by omega), decide_eq_false (by omega), decide_eq_false (by omega)⟩))
    rw [if_neg h2]
    by_cases h3 : k = 5
    · rw [if_pos h3]; exact Or.inr (Or.inr (Or.inr (Or.inl ⟨rfl, decide_eq_false (by omega), decide_eq_true (by omega), decide_eq_true (by omega), decide_eq_false (by omega)⟩)))
    rw [if_neg h3]
    by_cases h4 : k = 7
    · rw [if_pos h4]; exact Or.inr (Or.inr (Or.inr (Or.inr (Or.inl ⟨rfl, decide_eq_false (by omega), decide_eq_false (by omega), decide_eq_true (by omega), decide_eq_false (by omega)⟩))))
    rw [if_neg h4]
    by_cases h5 : k = 8 ∨ k = 9 ∨ k = 10
    · rw [if_pos h5]; exact Or.inr (Or.inr (Or.inr (Or.inr (Or.inr ⟨rfl, decide_eq_false (by omega), decide_eq_false (by omega), decide_eq_false (by omega), decide_eq_true (by omega)⟩))))
    rw [if_neg h5]
    exact Or.inl ⟨rfl, decide_eq_false (by omega), decide_eq_false (by omega), decide_eq_false (by omega), decide_eq_false (by omega)⟩
  · obtain ⟨a, b, c, d⟩ := has_e (k := k) he
    exact Or.inl ⟨if_neg he, a, b, c, d⟩
theorem fv_has (k e : Int) : (fv k e, 1, hI k e) ∈ hasT ∧ (fv k e, 2, hS k e) ∈ hasT ∧ (fv k e, 4, hU k e) ∈ hasT ∧ (fv k e, 8, hC k e) ∈ hasT := by
  rcases fv_cases k e with ⟨a, b, c, d, f⟩ | ⟨a, b, c, d, f⟩ | ⟨a, b, c, d, f⟩ | ⟨a, b, c, d, f⟩ | ⟨a, b, c, d, f⟩ | ⟨a, b, c, d, f⟩ <;> (rw [a, b, c, d, f]; exact ⟨by decide, by decide, by decide, by decide⟩)
theorem isKind_any (k : Int) (w : World) : Calls Tryz.prog 110 #[.int .i64 k] w fun e w' => e = .returned (.bool (decide (1 ≤ k ∧ k ≤ 10))) ∧ w' = w := by
  by_cases h1 : 1 ≤ k
  · by_cases h2 : k ≤ 10
    · rw [decide_eq_true (show 1 ≤ k ∧ k ≤ 10 from ⟨h1, h2⟩)]
      go_enter Tryz.func110, Tryz.ntmps110
      go_wp2
      go_ret
      exact ⟨rfl, rfl⟩
    · rw [decide_eq_false (show ¬ (1 ≤ k ∧ k ≤ 10) from fun h => h2 h.2)]
      go_enter Tryz.func110, Tryz.ntmps110
      go_wp2
      go_ret
      exact ⟨rfl, rfl⟩
  · rw [decide_eq_false (show ¬ (1 ≤ k ∧ k ≤ 10) from fun h => h1 h.1)]
    go_enter Tryz.func110, Tryz.ntmps110
    go_wp2
    go_ret
    exact ⟨rfl, rfl⟩
theorem has_any (f one : Int) (r : Bool) (h : (f, one, r) ∈ hasT) (w : World) : Calls Tryz.prog 155 #[.int .u8 f, .int .u8 one] w fun e w' => e = .returned (.bool r) ∧ w' = w := by
  simp only [hasT, List.mem_cons, List.not_mem_nil, or_false, Prod.mk.injEq] at h
  rcases h with ⟨rfl, rfl, rfl⟩ | ⟨rfl, rfl, rfl⟩ | ⟨rfl, rfl, rfl⟩ | ⟨rfl, rfl, rfl⟩ | ⟨rfl, rfl, rfl⟩ | ⟨rfl, rfl, rfl⟩ | ⟨rfl, rfl, rfl⟩ | ⟨rfl, rfl, rfl⟩ | ⟨rfl, rfl, rfl⟩ | ⟨rfl, rfl, rfl⟩ | ⟨rfl, rfl, rfl⟩ | ⟨rfl, rfl, rfl⟩ | ⟨rfl, rfl, rfl⟩ | ⟨rfl, rfl, rfl⟩ | ⟨rfl, rfl, rfl⟩ | ⟨rfl, rfl, rfl⟩ | ⟨rfl, rfl, rfl⟩ | ⟨rfl, rfl, rfl⟩ | ⟨rfl, rfl, rfl⟩ | ⟨rfl, rfl, rfl⟩ | ⟨rfl, rfl, rfl⟩ | ⟨rfl, rfl, rfl⟩ | ⟨rfl, rfl, rfl⟩ | ⟨rfl, rfl, rfl⟩
  all_goals
    go_enter Tryz.func155, Tryz.ntmps155
    go_wp2
    go_ret
    exact ⟨rfl, rfl⟩
theorem allow_any (f one n m : Int) (r : Bool) (h : (f, one, r) ∈ hasT) (w : World) : Calls Tryz.prog 111 #[.int .u8 f, .int .u8 one, .int .i64 n, .int .i64 m] w fun e w' => e = .returned (.bool (inP r n m)) ∧ w' = w := by
  have qh := has_any f one r h w
  clear h
  cases r with
  | false =>
    rw [show inP false n m = decide (n = 0) from rfl]
    by_cases h0 : n = 0
    · subst h0
      go_enter Tryz.func111, Tryz.ntmps111
      go_wp2_with fail
      refine qh.mono ?_
      clear qh
      rintro e w2 ⟨rfl, rfl⟩
      go_wp2
      go_ret
      exact ⟨rfl, rfl⟩
    · rw [decide_eq_false h0]
      have h1 : (n == 0) = false := by simpa using h0
      have h2 : decide (n = 0) = false := by simpa using h0
      go_enter Tryz.func111, Tryz.ntmps111
      go_wp2_with fail
      refine qh.mono ?_
      clear qh
      rintro e w2 ⟨rfl, rfl⟩
      go_wp2
      go_ret
      exact ⟨rfl, rfl⟩
  | true =>
    rw [show inP true n m = decide (0 ≤ n ∧ n ≤ m) from rfl]
    by_cases h1 : 0 ≤ n
    · by_cases h2 : n ≤ m
      · rw [decide_eq_true (show 0 ≤ n ∧ n ≤ m from ⟨h1, h2⟩)]
        go_enter Tryz.func111, Tryz.ntmps111
        go_wp2_with fail
        refine qh.mono ?_
        clear qh
        rintro e w2 ⟨rfl, rfl⟩
        go_wp2
        go_ret
        exact ⟨rfl, rfl⟩
      · rw [decide_eq_false (show ¬ (0 ≤ n ∧ n ≤ m) from fun h => h2 h.2)]
        have h3 : decide (n ≤ m) = false := decide_eq_false h2
        go_enter Tryz.func111, Tryz.ntmps111
        go_wp2_with fail
        refine qh.mono ?_
        clear qh
        rintro e w2 ⟨rfl, rfl⟩
        go_wp2
        go_ret
        exact ⟨rfl, rfl⟩
    · rw [decide_eq_false (show ¬ (0 ≤ n ∧ n ≤ m) from fun h => h1 h.1)]
      go_enter Tryz.func111, Tryz.ntmps111
      go_wp2_with fail
      refine qh.mono ?_
      clear qh
      rintro e w2 ⟨rfl, rfl⟩
      go_wp2
      go_ret
      exact ⟨rfl, rfl⟩
/-- A reply in a box of the call's own. -/
structure CkS (w wr : World) (q : Ry) : Prop where
  box : wr.heap[w.heap.size]? = some (.cells [Value.int .u32 q.t, .int .i64 q.k, .int .i64 q.e, .int .u32 q.i, .int .i64 q.s, .int .i64 q.u, .int .i64 q.c].toArray 31 (0, 0))
  gr : w.grownBy wr none
theorem CkS.then {w wr wr' : World} {q : Ry} (h : CkS w wr q) (hg : wr.grownBy wr' none) : CkS w wr' q := ⟨(hg.block _ (row_lt h.box) (by simp)).trans h.box, grown_trans h.gr hg⟩
theorem CkS.begin (w : World) (q : Ry) : CkS w (w.alloc (.cells #[.int .u32 q.t, .int .i64 q.k, .int .i64 q.e, .int .u32 q.i, .int .i64 q.s, .int .i64 q.u, .int .i64 q.c] 31)) q := ⟨heap_alloc_new w _, World.grownBy_alloc w _ none⟩
theorem fi1 (t i s u c : Int) (w : World) (hT : Tab w) : Calls Tryz.prog 109 #[.agg #[.int .u32 t, .int .i64 1, .int .i64 0, .int .u32 i, .int .i64 s, .int .i64 u, .int .i64 c]] w fun r w' => r = .returned (.int .u8 5) ∧ w.grownBy w' none := by
  have S0 := hide (CkS.begin w ⟨t, 1, 0, i, s, u, c⟩)
  obtain ⟨c0, c1, c2, c3, c4, c5, c6⟩ := box7 S0.out.box
  have qk := isKind_any 1 (w.alloc (.cells #[.int .u32 t, .int .i64 1, .int .i64 0, .int .u32 i, .int .i64 s, .int .i64 u, .int .i64 c] 31))
  rw [show decide ((1 : Int) ≤ 1 ∧ (1 : Int) ≤ 10) = true from rfl] at qk
  have d0 : _ = some (Value.int .u8 5) := hT.new S0.out.gr 1 (by decide)
  clear hT
  go_enter Tryz.func109, Tryz.ntmps109
  go_wp2_with fail
  generalize w.alloc (.cells #[.int .u32 t, .int .i64 1, .int .i64 0, .int .u32 i, .int .i64 s, .int .i64 u, .int .i64 c] 31) = w1 at *
  refine qk.mono ?_
  clear qk
  rintro r wx ⟨rfl, hw⟩
  obtain rfl := hw.symm
  clear hw
  go_wp2
  go_ret
  exact ⟨rfl, S0.out.gr⟩
theorem fi2 (t i s u c : Int) (w : World) (hT : Tab w) : Calls Tryz.prog 109 #[.agg #[.int .u32 t, .int .i64 2, .int .i64 0, .int .u32 i, .int .i64 s, .int .i64 u, .int .i64 c]] w fun r w' => r = .returned (.int .u8 0) ∧ w.grownBy w' none := by
  have S0 := hide (CkS.begin w ⟨t, 2, 0, i, s, u, c⟩)
  obtain ⟨c0, c1, c2, c3, c4, c5, c6⟩ := box7 S0.out.box
  have qk := isKind_any 2 (w.alloc (.cells #[.int .u32 t, .int .i64 2, .int .i64 0, .int .u32 i, .int .i64 s, .int .i64 u, .int .i64 c] 31))
  rw [show decide ((1 : Int) ≤ 2 ∧ (2 : Int) ≤ 10) = true from rfl] at qk
  have d0 : _ = some (Value.int .u8 0) := hT.new S0.out.gr 2 (by decide)
  clear hT
  go_enter Tryz.func109, Tryz.ntmps109
  go_wp2_with fail
  generalize w.alloc (.cells #[.int .u32 t, .int .i64 2, .int .i64 0, .int .u32 i, .int .i64 s, .int .i64 u, .int .i64 c] 31) = w1 at *
  refine qk.mono ?_
  clear qk
  rintro r wx ⟨rfl, hw⟩
  obtain rfl := hw.symm
  clear hw
  go_wp2
  go_ret
  exact ⟨rfl, S0.out.gr⟩
theorem fi3 (t i s u c : Int) (w : World) (hT : Tab w) : Calls Tryz.prog 109 #[.agg #[.int .u32 t, .int .i64 3, .int .i64 0, .int .u32 i, .int .i64 s, .int .i64 u, .int .i64 c]] w fun r w' => r = .returned (.int .u8 0) ∧ w.grownBy w' none := by
  have S0 := hide (CkS.begin w ⟨t, 3, 0, i, s, u, c⟩)
  obtain ⟨c0, c1, c2, c3, c4, c5, c6⟩ := box7 S0.out.box
  have qk := isKind_any 3 (w.alloc (.cells #[.int .u32 t, .int .i64 3, .int .i64 0, .int .u32 i, .int .i64 s, .int .i64 u, .int .i64 c] 31))
  rw [show decide ((1 : Int) ≤ 3 ∧ (3 : Int) ≤ 10) = true from rfl] at qk
  have d0 : _ = some (Value.int .u8 0) := hT.new S0.out.gr 3 (by decide)
  clear hT
  go_enter Tryz.func109, Tryz.ntmps109
  go_wp2_with fail
  generalize w.alloc (.cells #[.int .u32 t, .int .i64 3, .int .i64 0, .int .u32 i, .int .i64 s, .int .i64 u, .int .i64 c] 31) = w1 at *
  refine qk.mono ?_
  clear qk
  rintro r wx ⟨rfl, hw⟩
  obtain rfl := hw.symm
  clear hw
  go_wp2
  go_ret
  exact ⟨rfl, S0.out.gr⟩
theorem fi4 (t i s u c : Int) (w : World) (hT : Tab w) : Calls Tryz.prog 109 #[.agg #[.int .u32 t, .int .i64 4, .int .i64 0, .int .u32 i, .int .i64 s, .int .i64 u, .int .i64 c]] w fun r w' => r = .returned (.int .u8 2) ∧ w.grownBy w' none := by
  have S0 := hide (CkS.begin w ⟨t, 4, 0, i, s, u, c⟩)
  obtain ⟨c0, c1, c2, c3, c4, c5, c6⟩ := box7 S0.out.box
  have qk := isKind_any 4 (w.alloc (.cells #[.int .u32 t, .int .i64 4, .int .i64 0, .int .u32 i, .int .i64 s, .int .i64 u, .int .i64 c] 31))
  rw [show decide ((1 : Int) ≤ 4 ∧ (4 : Int) ≤ 10) = true from rfl] at qk
  have d0 : _ = some (Value.int .u8 2) := hT.new S0.out.gr 4 (by decide)
  clear hT
  go_enter Tryz.func109, Tryz.ntmps109
  go_wp2_with fail
  generalize w.alloc (.cells #[.int .u32 t, .int .i64 4, .int .i64 0, .int .u32 i, .int .i64 s, .int .i64 u, .int .i64 c] 31) = w1 at *
  refine qk.mono ?_
  clear qk
  rintro r wx ⟨rfl, hw⟩
  obtain rfl := hw.symm
  clear hw
  go_wp2
  go_ret
  exact ⟨rfl, S0.out.gr⟩
theorem fi5 (t i s u c : Int) (w : World) (hT : Tab w) : Calls Tryz.prog 109 #[.agg #[.int .u32 t, .int .i64 5, .int .i64 0, .int .u32 i, .int .i64 s, .int .i64 u, .int .i64 c]] w fun r w' => r = .returned (.int .u8 6) ∧ w.grownBy w' none := by
  have S0 := hide (CkS.begin w ⟨t, 5, 0, i, s, u, c⟩)
  obtain ⟨c0, c1, c2, c3, c4, c5, c6⟩ := box7 S0.out.box
  have qk := isKind_any 5 (w.alloc (.cells #[.int .u32 t, .int .i64 5, .int .i64 0, .int .u32 i, .int .i64 s, .int .i64 u, .int .i64 c] 31))
  rw [show decide ((1 : Int) ≤ 5 ∧ (5 : Int) ≤ 10) = true from rfl] at qk
  have d0 : _ = some (Value.int .u8 6) := hT.new S0.out.gr 5 (by decide)
  clear hT
  go_enter Tryz.func109, Tryz.ntmps109
  go_wp2_with fail
  generalize w.alloc (.cells #[.int .u32 t, .int .i64 5, .int .i64 0, .int .u32 i, .int .i64 s, .int .i64 u, .int .i64 c] 31) = w1 at *
  refine qk.mono ?_
  clear qk
  rintro r wx ⟨rfl, hw⟩
  obtain rfl := hw.symm
  clear hw
  go_wp2
  go_ret
  exact ⟨rfl, S0.out.gr⟩
theorem fi6 (t i s u c : Int) (w : World) (hT : Tab w) : Calls Tryz.prog 109 #[.agg #[.int .u32 t, .int .i64 6, .int .i64 0, .int .u32 i, .int .i64 s, .int .i64 u, .int .i64 c]] w fun r w' => r = .returned (.int .u8 5) ∧ w.grownBy w' none := by
  have S0 := hide (CkS.begin w ⟨t, 6, 0, i, s, u, c⟩)
  obtain ⟨c0, c1, c2, c3, c4, c5, c6⟩ := box7 S0.out.box
  have qk := isKind_any 6 (w.alloc (.cells #[.int .u32 t, .int .i64 6, .int .i64 0, .int .u32 i, .int .i64 s, .int .i64 u, .int .i64 c] 31))
  rw [show decide ((1 : Int) ≤ 6 ∧ (6 : Int) ≤ 10) = true from rfl] at qk
  have d0 : _ = some (Value.int .u8 5) := hT.new S0.out.gr 6 (by decide)
  clear hT
  go_enter Tryz.func109, Tryz.ntmps109
  go_wp2_with fail
  generalize w.alloc (.cells #[.int .u32 t, .int .i64 6, .int .i64 0, .int .u32 i, .int .i64 s, .int .i64 u, .int .i64 c] 31) = w1 at *
  refine qk.mono ?_
  clear qk
  rintro r wx ⟨rfl, hw⟩
  obtain rfl := hw.symm
  clear hw
  go_wp2
  go_ret
  exact ⟨rfl, S0.out.gr⟩
theorem fi7 (t i s u c : Int) (w : World) (hT : Tab w) : Calls Tryz.prog 109 #[.agg #[.int .u32 t, .int .i64 7, .int .i64 0, .int .u32 i, .int .i64 s, .int .i64 u, .int .i64 c]] w fun r w' => r = .returned (.int .u8 4) ∧ w.grownBy w' none := by
  have S0 := hide (CkS.begin w ⟨t, 7, 0, i, s, u, c⟩)
  obtain ⟨c0, c1, c2, c3, c4, c5, c6⟩ := box7 S0.out.box
  have qk := isKind_any 7 (w.alloc (.cells #[.int .u32 t, .int .i64 7, .int .i64 0, .int .u32 i, .int .i64 s, .int .i64 u, .int .i64 c] 31))
  rw [show decide ((1 : Int) ≤ 7 ∧ (7 : Int) ≤ 10) = true from rfl] at qk
  have d0 : _ = some (Value.int .u8 4) := hT.new S0.out.gr 7 (by decide)
  clear hT
  go_enter Tryz.func109, Tryz.ntmps109
  go_wp2_with fail
  generalize w.alloc (.cells #[.int .u32 t, .int .i64 7, .int .i64 0, .int .u32 i, .int .i64 s, .int .i64 u, .int .i64 c] 31) = w1 at *
  refine qk.mono ?_
  clear qk
  rintro r wx ⟨rfl, hw⟩
  obtain rfl := hw.symm
  clear hw
  go_wp2
  go_ret
  exact ⟨rfl, S0.out.gr⟩
theorem fi8 (t i s u c : Int) (w : World) (hT : Tab w) : Calls Tryz.prog 109 #[.agg #[.int .u32 t, .int .i64 8, .int .i64 0, .int .u32 i, .int .i64 s, .int .i64 u, .int .i64 c]] w fun r w' => r = .returned (.int .u8 8) ∧ w.grownBy w' none := by
  have S0 := hide (CkS.begin w ⟨t, 8, 0, i, s, u, c⟩)
  obtain ⟨c0, c1, c2, c3, c4, c5, c6⟩ := box7 S0.out.box
  have qk := isKind_any 8 (w.alloc (.cells #[.int .u32 t, .int .i64 8, .int .i64 0, .int .u32 i, .int .i64 s, .int .i64 u, .int .i64 c] 31))
  rw [show decide ((1 : Int) ≤ 8 ∧ (8 : Int) ≤ 10) = true from rfl] at qk
  have d0 : _ = some (Value.int .u8 8) := hT.new S0.out.gr 8 (by decide)
  clear hT
  go_enter Tryz.func109, Tryz.ntmps109
  go_wp2_with fail
  generalize w.alloc (.cells #[.int .u32 t, .int .i64 8, .int .i64 0, .int .u32 i, .int .i64 s, .int .i64 u, .int .i64 c] 31) = w1 at *
  refine qk.mono ?_
  clear qk
  rintro r wx ⟨rfl, hw⟩
  obtain rfl := hw.symm
  clear hw
  go_wp2
  go_ret
  exact ⟨rfl, S0.out.gr⟩
theorem fi9 (t i s u c : Int) (w : World) (hT : Tab w) : Calls Tryz.prog 109 #[.agg #[.int .u32 t, .int .i64 9, .int .i64 0, .int .u32 i, .int .i64 s, .int .i64 u, .int .i64 c]] w fun r w' => r = .returned (.int .u8 8) ∧ w.grownBy w' none := by
  have S0 := hide (CkS.begin w ⟨t, 9, 0, i, s, u, c⟩)
  obtain ⟨c0, c1, c2, c3, c4, c5, c6⟩ := box7 S0.out.box
  have qk := isKind_any 9 (w.alloc (.cells #[.int .u32 t, .int .i64 9, .int .i64 0, .int .u32 i, .int .i64 s, .int .i64 u, .int .i64 c] 31))
  rw [show decide ((1 : Int) ≤ 9 ∧ (9 : Int) ≤ 10) = true from rfl] at qk
  have d0 : _ = some (Value.int .u8 8) := hT.new S0.out.gr 9 (by decide)
  clear hT
  go_enter Tryz.func109, Tryz.ntmps109
  go_wp2_with fail
  generalize w.alloc (.cells #[.int .u32 t, .int .i64 9, .int .i64 0, .int .u32 i, .int .i64 s, .int .i64 u, .int .i64 c] 31) = w1 at *
  refine qk.mono ?_
  clear qk
  rintro r wx ⟨rfl, hw⟩
  obtain rfl := hw.symm
  clear hw
  go_wp2
  go_ret
  exact ⟨rfl, S0.out.gr⟩
theorem fi10 (t i s u c : Int) (w : World) (hT : Tab w) : Calls Tryz.prog 109 #[.agg #[.int .u32 t, .int .i64 10, .int .i64 0, .int .u32 i, .int .i64 s, .int .i64 u, .int .i64 c]] w fun r w' => r = .returned (.int .u8 8) ∧ w.grownBy w' none := by
  have S0 := hide (CkS.begin w ⟨t, 10, 0, i, s, u, c⟩)
  obtain ⟨c0, c1, c2, c3, c4, c5, c6⟩ := box7 S0.out.box
  have qk := isKind_any 10 (w.alloc (.cells #[.int .u32 t, .int .i64 10, .int .i64 0, .int .u32 i, .int .i64 s, .int .i64 u, .int .i64 c] 31))
  rw [show decide ((1 : Int) ≤ 10 ∧ (10 : Int) ≤ 10) = true from rfl] at qk
  have d0 : _ = some (Value.int .u8 8) := hT.new S0.out.gr 10 (by decide)
  clear hT
  go_enter Tryz.func109, Tryz.ntmps109
  go_wp2_with fail
  generalize w.alloc (.cells #[.int .u32 t, .int .i64 10, .int .i64 0, .int .u32 i, .int .i64 s, .int .i64 u, .int .i64 c] 31) = w1 at *
  refine qk.mono ?_
  clear qk
  rintro r wx ⟨rfl, hw⟩
  obtain rfl := hw.symm
  clear hw
  go_wp2
  go_ret
  exact ⟨rfl, S0.out.gr⟩
theorem fiE (t k e i s u c : Int) (w : World) (hk : 1 ≤ k ∧ k ≤ 10) (he : e ≠ 0) : Calls Tryz.prog 109 #[.agg #[.int .u32 t, .int .i64 k, .int .i64 e, .int .u32 i, .int .i64 s, .int .i64 u, .int .i64 c]] w fun r w' => r = .returned (.int .u8 0) ∧ w.grownBy w' none := by
  have S0 := hide (CkS.begin w ⟨t, k, e, i, s, u, c⟩)
  obtain ⟨c0, c1, c2, c3, c4, c5, c6⟩ := box7 S0.out.box
  have qk := isKind_any k (w.alloc (.cells #[.int .u32 t, .int .i64 k, .int .i64 e, .int .u32 i, .int .i64 s, .int .i64 u, .int .i64 c] 31))
  rw [decide_eq_true hk] at qk
  have e1 : (e == 0) = false := by simpa using he
  have e2 : (e != 0) = true := by simpa using he
  have e3 : decide (e = 0) = false := by simpa using he
  clear he hk
  go_enter Tryz.func109, Tryz.ntmps109
  go_wp2_with fail
  generalize w.alloc (.cells #[.int .u32 t, .int .i64 k, .int .i64 e, .int .u32 i, .int .i64 s, .int .i64 u, .int .i64 c] 31) = w1 at *
  refine qk.mono ?_
  clear qk
  rintro r wx ⟨rfl, hw⟩
  obtain rfl := hw.symm
  clear hw
  go_wp2
  go_ret
  exact ⟨rfl, S0.out.gr⟩
theorem fiN (t k e i s u c : Int) (w : World) (hk : ¬ (1 ≤ k ∧ k ≤ 10)) : Calls Tryz.prog 109 #[.agg #[.int .u32 t, .int .i64 k, .int .i64 e, .int .u32 i, .int .i64 s, .int .i64 u, .int .i64 c]] w fun r w' => r = .returned (.int .u8 0) ∧ w.grownBy w' none := by
  have S0 := hide (CkS.begin w ⟨t, k, e, i, s, u, c⟩)
  obtain ⟨c0, c1, c2, c3, c4, c5, c6⟩ := box7 S0.out.box
  have qk := isKind_any k (w.alloc (.cells #[.int .u32 t, .int .i64 k, .int .i64 e, .int .u32 i, .int .i64 s, .int .i64 u, .int .i64 c] 31))
  rw [decide_eq_false hk] at qk
  clear hk
  go_enter Tryz.func109, Tryz.ntmps109
  go_wp2_with fail
  generalize w.alloc (.cells #[.int .u32 t, .int .i64 k, .int .i64 e, .int .u32 i, .int .i64 s, .int .i64 u, .int .i64 c] 31) = w1 at *
  refine qk.mono ?_
  clear qk
  rintro r wx ⟨rfl, hw⟩
  obtain rfl := hw.symm
  clear hw
  go_wp2
  go_ret
  exact ⟨rfl, S0.out.gr⟩
theorem fieldsIn_any (q : Ry) (w : World) (hT : Tab w) : Calls Tryz.prog 109 #[ryV q] w fun r w' => r = .returned (.int .u8 (fv q.k q.e)) ∧ w.grownBy w' none := by
  obtain ⟨t, k, e, i, s, u, c⟩ := q
  unfold ryV
  dsimp only
  by_cases hk : 1 ≤ k ∧ k ≤ 10
  · by_cases he : e = 0
    · subst he
      have hkk : k = 1 ∨ k = 2 ∨ k = 3 ∨ k = 4 ∨ k = 5 ∨ k = 6 ∨ k = 7 ∨ k = 8 ∨ k = 9 ∨ k = 10 := by omega
      rcases hkk with rfl | rfl | rfl | rfl | rfl | rfl | rfl | rfl | rfl | rfl
      · exact fi1 t i s u c w hT
      · exact fi2 t i s u c w hT
      · exact fi3 t i s u c w hT
      · exact fi4 t i s u c w hT
      · exact fi5 t i s u c w hT
      · exact fi6 t i s u c w hT
      · exact fi7 t i s u c w hT
      · exact fi8 t i s u c w hT
      · exact fi9 t i s u c w hT
      · exact fi10 t i s u c w hT
    · rw [show fv k e = 0 from if_neg he]
      exact fiE t k e i s u c w hk he
  · have hf : fv k e = 0 := by
      unfold fv
      by_cases he : e = 0
      · rw [if_pos he, if_neg (by omega), if_neg (by omega), if_neg (by omega), if_neg (by omega), if_neg (by omega)]
      · rw [if_neg he]
    rw [hf]
    exact fiN t k e i s u c w hk
end Go.Proofs.YtjfhilignbeboaaGreatDoor.Rt
