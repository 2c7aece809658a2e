/- Texts joined: JnAj. -/
import Derived.Test.YtinkkocleognbaaGreatDoorJuAi
/- Texts joined: BkD, BkE, BkF. -/
/- Reseat, tick. -/
namespace Go.Proofs.YtinkkocleognbaaGreatDoor
open Go.RowKit
attribute [local go_sem ↓] Go.wp_at_zero Go.wp_at_succ
section
variable {w w' : World} {p q : Bp} {S : Sb} {Lb Lb' : List Bool} {R : List Bg} {M E : List (Nat × Int)} {T : List Nat} {N B C K : Nat} {f : Int → Option Nat}
theorem hasSeat_nat (S : Sb) (s : Nat) (W : World) : Calls Tryz.prog 110 #[.agg #[.int .i64 (S.a : Int), .int .i64 (S.b : Int), .int .i64 (S.c : Int)], .int .i64 (s : Int)] W fun e w' => e = .returned (.bool (decide (s < S.a))) ∧ W.grownBy w' none := by
  have := hasSeat_any S.a S.b S.c (s : Int) W
  rw [show decide (0 ≤ (s : Int) ∧ (s : Int) < (S.a : Int)) = decide (s < S.a) by simp] at this
  exact this
set_option maxHeartbeats 4000000 in
theorem reseat_any (h : BkAt w p S K) (hw : S.Wk) (k : Nat) (hk : k < 4294967296) (s : Nat) :
    Calls Tryz.prog 76 #[.pointer (some ⟨p.b, 0, none⟩), .int .u32 (k : Int), .int .i64 (s : Int)] w fun e w' => e = .returned (.int .i64 (reseatE S k s)) ∧ BkAt w' p (if reseatE S k s = 0 then { S with L := (fnd S.L k).elim S.L fun x => upd S.L x.i { x with s := s } } else S) K ∧ Kept w w' p.own := by
  have HC1 := hide (h.find hw k hk)
  cases hf : fnd S.L k with
  | none =>
    have hr : reseatE S k s = 171 := by unfold reseatE; rw [hf]
    rw [hr, if_neg (by decide)]
    rw [hf] at HC1
    simp only [Option.isSome, Option.getD, Bool.false_eq_true, if_false] at HC1
    clear h hf hr
    unfold bgV at HC1
    simp only at HC1
    go_enter Tryz.func76, Tryz.ntmps76
    go_wp2_with fail
    refine HC1.out.mono ?_
    rintro e w1 ⟨rfl, hA, hk1⟩
    have HF : Hid (∀ W, w1.grownBy W none → BkAt W p S K ∧ Kept w W p.own) := fun W hg => ⟨hA.then hg, hk1.trans (Kept.new hg _) (fun _ _ e => e)⟩
    clear hA hk1 HC1
    go_wp2
    go_ret
    exact ⟨rfl, HF.out _ (grown_alloc _ _)⟩
  | some x =>
    obtain ⟨hx, hxi⟩ := (fnd_some hw.asc).1 hf
    subst hxi
    have hr : reseatE S x.i s = if ¬ s < S.a then 140 else if s ≠ x.s ∧ (sat S.L s).isSome then 170 else 0 := by unfold reseatE; rw [hf]
    rw [hf] at HC1
    simp only [Option.isSome, Option.getD, if_true, Option.elim] at HC1 ⊢
    rw [hr]
    have H1 : Hid (∀ w1, BkAt w1 p S K → Kept w w1 p.own → ∀ W, w1.grownBy W none → (BkAt W p S K ∧ Kept w W p.own) ∧ W.cell? ⟨p.b, 0, none⟩ = some (.int .i64 (S.a : Int)) ∧ W.cell? ⟨p.b, 1, none⟩ = some (.int .i64 (S.b : Int)) ∧ W.cell? ⟨p.b, 2, none⟩ = some (.int .i64 (S.c : Int)) ∧ W.cell? ⟨p.b, 6, none⟩ = some (.pointer (some ⟨p.tb, 0, none⟩))) := by
      intro w1 h1 h2 W hg
      have h3 := h1.then hg
      exact ⟨⟨h3, h2.trans (Kept.new hg _) (fun _ _ e => e)⟩, h3.cells 0 _ rfl, h3.cells 1 _ rfl, h3.cells 2 _ rfl, h3.cells 6 _ rfl⟩
    have HS := hide (hasSeat_nat S s)
    by_cases h2 : s < S.a
    · rw [if_neg (fun e => e h2)]
      rw [decide_eq_true h2] at HS
      have HH : Hid (∀ W, BkAt W p S K → Calls Tryz.prog 111 #[.pointer (some ⟨p.tb, 0, none⟩), .int .i64 (s : Int)] W fun e w' => e = .returned (.bool (sat S.L s).isSome) ∧ W.grownBy w' none) := fun W hW => hW.has s h2
      by_cases hbad : s ≠ x.s ∧ (sat S.L s).isSome = true
      · rw [if_pos hbad, if_neg (by decide)]
        obtain ⟨hne, hsm⟩ := hbad
        rw [hsm] at HH
        have hn1 : ((s : Int) != (x.s : Int)) = true := by simp; omega
        have hn2 : decide ((s : Int) = (x.s : Int)) = false := by simp; omega
        have hn3 : ((s : Int) == (x.s : Int)) = false := by simp; omega
        clear h hf hx hw hr hne hsm
        obtain ⟨xi, xs, xu⟩ := x
        unfold bgV at HC1
        simp only at *
        go_enter Tryz.func76, Tryz.ntmps76
        go_wp2_with fail
        refine HC1.out.mono ?_
        rintro e w1 ⟨rfl, hA, hk1⟩
        obtain ⟨-, c0, c1, c2, -⟩ := H1.out w1 hA hk1 _ (grown_alloc w1 (.cells #[.int .u32 (xi : Int), .int .i64 (xs : Int), .int .i64 xu] 108))
        have H1' : Hid (∀ W, w1.grownBy W none → _) := H1.out w1 hA hk1
        clear hA hk1 HC1 H1
        go_wp2_with fail
        refine (HS.out _).mono ?_
        rintro e w2 ⟨rfl, hg2⟩
        have G2 := grown_trans (grown_alloc w1 (.cells #[.int .u32 (xi : Int), .int .i64 (xs : Int), .int .i64 xu] 108)) hg2
        obtain ⟨hA2, -, -, -, c6⟩ := H1'.out w2 G2
        have hbx : w2.heap[w1.heap.size]? = some (.cells [Value.int .u32 (xi : Int), .int .i64 (xs : Int), .int .i64 xu].toArray 108 (0, 0)) := (hg2.block _ (by simp) (by simp)).trans (heap_alloc_new w1 _)
        obtain ⟨-, z1, -, -⟩ := box3 hbx
        have HH' := hide (HH.out w2 hA2.1)
        have HG2 := hide G2
        clear hA2 hbx hg2 G2 c0 c1 c2 HS HH
        go_wp2_with fail
        refine HH'.out.mono ?_
        rintro e w3 ⟨rfl, hg3⟩
        have HF := hide (H1'.out w3 (grown_trans HG2.out hg3)).1
        clear hg3 HG2 H1' HH'
        go_wp2
        go_ret
        exact ⟨rfl, HF.out⟩
      · rw [if_neg hbad, if_pos rfl]
        have ho : s = x.s ∨ sat S.L s = none := by
          by_cases e : s = x.s
          · exact .inl e
          · cases hq : sat S.L s with
            | none => exact .inr rfl
            | some y => exact absurd ⟨e, by rw [hq]; rfl⟩ hbad
        have HM : Hid (∀ W, BkAt W p S K → Calls Tryz.prog 112 #[.pointer (some ⟨p.b, 0, none⟩), bgV x, .int .i64 (s : Int)] W fun e w' => e = .returned (.tuple #[]) ∧ BkAt w' p { S with L := upd S.L x.i { x with s := s } } K ∧ Kept W w' p.own) := fun W hW => move_any hW hw x hx s h2 ho
        clear h hf hx hw hr hbad
        by_cases hne : s = x.s
        · obtain ⟨xi, xs, xu⟩ := x
          unfold bgV at HC1 HM
          simp only at *
          subst hne
          clear ho
          go_enter Tryz.func76, Tryz.ntmps76
          go_wp2_with fail
          refine HC1.out.mono ?_
          rintro e w1 ⟨rfl, hA, hk1⟩
          obtain ⟨-, c0, c1, c2, -⟩ := H1.out w1 hA hk1 _ (grown_alloc w1 (.cells #[.int .u32 (xi : Int), .int .i64 (s : Int), .int .i64 xu] 108))
          have H1' : Hid (∀ W, w1.grownBy W none → _) := H1.out w1 hA hk1
          clear hA hk1 HC1 H1
          go_wp2_with fail
          refine (HS.out _).mono ?_
          rintro e w2 ⟨rfl, hg2⟩
          have G2 := grown_trans (grown_alloc w1 (.cells #[.int .u32 (xi : Int), .int .i64 (s : Int), .int .i64 xu] 108)) hg2
          obtain ⟨hA2, -, -, -, c6⟩ := H1'.out w2 G2
          have hbx : w2.heap[w1.heap.size]? = some (.cells [Value.int .u32 (xi : Int), .int .i64 (s : Int), .int .i64 xu].toArray 108 (0, 0)) := (hg2.block _ (by simp) (by simp)).trans (heap_alloc_new w1 _)
          obtain ⟨z0, z1, z2, -⟩ := box3 hbx
          have HM' := hide (HM.out w2 hA2.1)
          have HK2 := hide hA2.2
          clear hA2 hbx hg2 G2 c0 c1 c2 HS HH HM
          go_wp2_with fail
          refine HM'.out.mono ?_
          rintro e w3 ⟨rfl, hA3, hk3⟩
          have HF := hide (And.intro hA3 (HK2.out.trans hk3 (fun _ _ e => e)))
          clear hA3 hk3 HK2 HM'
          go_wp2
          go_ret
          exact ⟨rfl, HF.out⟩
        · have hsn : sat S.L s = none := ho.resolve_left hne
          rw [hsn] at HH
          simp only [Option.isSome] at HH
          have hn1 : ((s : Int) != (x.s : Int)) = true := by simp; omega
          have hn2 : decide ((s : Int) = (x.s : Int)) = false := by simp; omega
          have hn3 : ((s : Int) == (x.s : Int)) = false := by simp; omega
          obtain ⟨xi, xs, xu⟩ := x
          unfold bgV at HC1 HM
          simp only at *
          clear ho hsn
          go_enter Tryz.func76, Tryz.ntmps76
          go_wp2_with fail
          refine HC1.out.mono ?_
          rintro e w1 ⟨rfl, hA, hk1⟩
          obtain ⟨-, c0, c1, c2, -⟩ := H1.out w1 hA hk1 _ (grown_alloc w1 (.cells #[.int .u32 (xi : Int), .int .i64 (xs : Int), .int .i64 xu] 108))
          have H1' : Hid (∀ W, w1.grownBy W none → _) := H1.out w1 hA hk1
          clear hA hk1 HC1 H1
          go_wp2_with fail
          refine (HS.out _).mono ?_
          rintro e w2 ⟨rfl, hg2⟩
          have G2 := grown_trans (grown_alloc w1 (.cells #[.int .u32 (xi : Int), .int .i64 (xs : Int), .int .i64 xu] 108)) hg2
          obtain ⟨hA2, -, -, -, c6⟩ := H1'.out w2 G2
          have hbx : w2.heap[w1.heap.size]? = some (.cells [Value.int .u32 (xi : Int), .int .i64 (xs : Int), .int .i64 xu].toArray 108 (0, 0)) := (hg2.block _ (by simp) (by simp)).trans (heap_alloc_new w1 _)
          obtain ⟨z0, z1, z2, -⟩ := box3 hbx
          have HH' := hide (HH.out w2 hA2.1)
          have HG2 := hide (And.intro G2 hbx)
          clear hA2 hbx hg2 G2 c0 c1 c2 HS HH
          go_wp2_with fail
          refine HH'.out.mono ?_
          rintro e w3 ⟨rfl, hg3⟩
          have hA3 := (H1'.out w3 (grown_trans HG2.out.1 hg3)).1
          have hbx3 := (hg3.block _ (row_lt HG2.out.2) (by simp)).trans HG2.out.2
          obtain ⟨z0, z1, z2, -⟩ := box3 hbx3
          have HM' := hide (HM.out w3 hA3.1)
          have HK2 := hide hA3.2
          clear hA3 hbx3 hg3 HG2 H1' HH' HM
          go_wp2_with fail
          refine HM'.out.mono ?_
          rintro e w4 ⟨rfl, hA4, hk4⟩
          have HF := hide (And.intro hA4 (HK2.out.trans hk4 (fun _ _ e => e)))
          clear hA4 hk4 HK2 HM'
          go_wp2
          go_ret
          exact ⟨rfl, HF.out⟩
    · rw [if_pos h2, if_neg (by decide)]
      rw [decide_eq_false h2] at HS
      clear h hf hx hw hr
      obtain ⟨xi, xs, xu⟩ := x
      unfold bgV at HC1
      simp only at *
      go_enter Tryz.func76, Tryz.ntmps76
      go_wp2_with fail
      refine HC1.out.mono ?_
      rintro e w1 ⟨rfl, hA, hk1⟩
      obtain ⟨-, c0, c1, c2, -⟩ := H1.out w1 hA hk1 _ (grown_alloc w1 (.cells #[.int .u32 (xi : Int), .int .i64 (xs : Int), .int .i64 xu] 108))
      have H1' : Hid (∀ W, w1.grownBy W none → _) := H1.out w1 hA hk1
      clear hA hk1 HC1 H1
      go_wp2_with fail
      refine (HS.out _).mono ?_
      rintro e w2 ⟨rfl, hg2⟩
      have HF := hide (H1'.out w2 (grown_trans (grown_alloc w1 (.cells #[.int .u32 (xi : Int), .int .i64 (xs : Int), .int .i64 xu] 108)) hg2)).1
      clear hg2 H1' c0 c1 c2 HS
      go_wp2
      go_ret
      exact ⟨rfl, HF.out⟩
end
end Go.Proofs.YtinkkocleognbaaGreatDoor
/- Tick. -/
namespace Go.Proofs.YtinkkocleognbaaGreatDoor
open Go.RowKit
attribute [local go_sem ↓] Go.wp_at_zero Go.wp_at_succ
theorem Sb.Wk.sub {S : Sb} (h : S.Wk) {c : Int} {L : List Bg} (hL : L.Sublist S.L) (h0 : 0 ≤ c) (h1 : c ≤ mxC) : Sb.Wk { S with t := c, L := L } :=
  ⟨h.a0, h.a1, h.b0, h.b1, h.c0, h.c1, h.n0, h.n1, h0, h1, List.Pairwise.sublist hL h.asc, fun x hx => h.id x (hL.subset hx), fun x hx => h.st x (hL.subset hx), List.Pairwise.sublist hL h.one, fun x hx => h.til x (hL.subset hx), Nat.le_trans hL.length_le h.few⟩
theorem tik_del {L : List Bg} {x : Bg} (hA : AscB L) (hx : x ∈ L) {c : Int} (hu : x.u ≠ 0) (hc : x.u ≤ c) : tik (del L x.i) c = tik L c := by
  unfold tik del
  rw [List.filter_filter]
  apply List.filter_congr
  intro y hy
  by_cases e : y.i = x.i
  · rw [hA.same hy hx e]
    simp [hu]; omega
  · simp [e]
theorem tik_all {L : List Bg} {c : Int} (h : ∀ y ∈ L, y.u = 0 ∨ c < y.u) : tik L c = L := by
  unfold tik
  rw [List.filter_eq_self]
  intro y hy
  simpa using h y hy
theorem del_sub (L : List Bg) (i : Nat) : (del L i).Sublist L := List.filter_sublist
theorem del_less {L : List Bg} {x : Bg} (hx : x ∈ L) : (del L x.i).length < L.length := by
  unfold del
  rw [List.length_filter_lt_length_iff_exists]
  exact ⟨x, hx, by simp⟩
/-- In the midst of a tick. -/
def TkR (w : World) (p : Bp) (S : Sb) (c : Int) (K n X : Nat) (b : Bool) (W : World) : Prop :=
  ∃ r L x, BkAt W r { S with t := c, L := L } K ∧ L.Sublist S.L ∧ Fst { S with t := c, L := L } x b ∧ Bx w W X (bgc x) 108 p r ∧ tik L c = tik S.L c ∧ L.length ≤ n
section
variable {w w' : World} {p q : Bp} {S : Sb} {Lb Lb' : List Bool} {R : List Bg} {M E : List (Nat × Int)} {T : List Nat} {N B C K : Nat} {f : Int → Option Nat}
set_option maxHeartbeats 4000000 in
theorem tick_any (h : BkAt w p S K) (hw : S.Wk) (hK : K ≤ 10000000) (c : Int) (hc : c ≤ mxC) :
    Calls Tryz.prog 77 #[.pointer (some ⟨p.b, 0, none⟩), .int .i64 c] w fun e w' => e = .returned (.int .i64 (if c ≤ S.t then 173 else 0)) ∧ ∃ q, BkAt w' q (if c ≤ S.t then S else { S with L := tik S.L c, t := c }) K ∧ Bst w w' p q := by
  have c5 := h.cells 5 _ rfl
  by_cases hp : c ≤ S.t
  · rw [if_pos hp, if_pos hp]
    have H := hide h
    clear h
    go_enter Tryz.func77, Tryz.ntmps77
    go_wp2
    go_ret
    exact ⟨rfl, p, H.out, Bst.refl _ _⟩
  · rw [if_neg hp, if_neg hp]
    have hp' : S.t < c := by omega
    have ht0 := hw.t0
    obtain ⟨h1, h2⟩ := h.tick c
    have c5f := h.free 5
    have hwk : ∀ L, L.Sublist S.L → Sb.Wk { S with t := c, L := L } := fun L hL => hw.sub hL (by omega) hc
    have HC1 := hide (first_any h1 (hwk S.L (List.Sublist.refl _)))
    have HS1 : Hid (∀ W x b, BkAt W p { S with t := c } K → Kept (w.setCell ⟨p.b, 5, none⟩ (.int .i64 c)) W p.own → Fst { S with t := c } x b → TkR w p S c K S.L.length W.heap.size b (W.alloc (.cells (bgc x).toArray 108))) := by
      intro W x b g1 g2 g3
      have hb := Bx.start g1.lt (bgc x) 108
      exact ⟨p, S.L, x, g1.then (grown_alloc W _), List.Sublist.refl _, g3, ⟨hb.box, (Bst.keep (h2.trans g2 (fun _ _ e => e))).trans hb.st, hb.nx, Nat.le_trans (h2.trans g2 (fun _ _ e => e)).size hb.lo⟩, rfl, Nat.le_refl _⟩
    have HEnd : Hid (∀ n X b W, TkR w p S c K n X b W → (∀ L x, L.Sublist S.L → Fst { S with t := c, L := L } x b → W.heap[X]? = some (.cells (bgc x).toArray 108 (0, 0)) → ∀ y ∈ L, y.u = 0 ∨ c < y.u) → ∃ q, BkAt W q { S with L := tik S.L c, t := c } K ∧ Bst w W p q) := by
      rintro n X b W ⟨r, L, x, g1, g2, g3, g4, g5, g6⟩ hall
      have := tik_all (hall L x g2 g3 g4.box)
      rw [g5] at this
      rw [this]
      exact ⟨r, g1, g4.st⟩
    have HRem : Hid (∀ n X W, TkR w p S c K n X true W → ∃ x : Bg, W.heap[X]? = some (.cells (bgc x).toArray 108 (0, 0)) ∧ (c < x.u → ∃ q, BkAt W q { S with L := tik S.L c, t := c } K ∧ Bst w W p q) ∧ (x.u ≤ c → 0 < n ∧ Calls Tryz.prog 109 #[.pointer (some ⟨p.b, 0, none⟩), bgV x] W fun e w' => e = .returned (.tuple #[]) ∧ ∃ r L, BkAt w' r { S with t := c, L := L } K ∧ L.Sublist S.L ∧ Bx w w' X (bgc x) 108 p r ∧ tik L c = tik S.L c ∧ L.length ≤ n - 1)) := by
      rintro n X W ⟨r, L, x, g1, g2, g3, g4, g5, g6⟩
      rcases g3 with ⟨e, -⟩ | ⟨-, hx, hxu, hle⟩
      · cases e
      refine ⟨x, g4.box, fun hlt => ?_, fun hu => ?_⟩
      · have := tik_all (L := L) (c := c) (fun y hy => by
          by_cases e : y.u = 0
          · exact .inl e
          · have := hle y hy e; exact .inr (by omega))
        rw [g5] at this
        rw [this]
        exact ⟨r, g1, g4.st⟩
      · have hdl := del_less (L := L) hx
        refine ⟨by omega, ?_⟩
        have := remove_any g1 (hwk L g2) hK x hx
        rw [g4.st.b] at this
        refine this.mono ?_
        rintro e w' ⟨rfl, q, k1, k2⟩
        exact ⟨rfl, q, del L x.i, k1, (del_sub L x.i).trans g2, g4.step k2, by rw [tik_del (List.Pairwise.sublist g2 hw.asc) hx hxu hu]; exact g5, by omega⟩
    have HFirst : Hid (∀ n X x W r L, BkAt W r { S with t := c, L := L } K → L.Sublist S.L → Bx w W X (bgc x) 108 p r → tik L c = tik S.L c → L.length ≤ n → ∀ W', W' = W.alloc (.cells (bgc x).toArray 108) → Calls Tryz.prog 113 #[.pointer (some ⟨p.b, 0, none⟩)] W' fun e w' => ∃ y b, e = .returned (.tuple #[bgV y, .bool b]) ∧ (∃ v1 v2 v3, w'.heap[W.heap.size]? = some (.cells [v1, v2, v3].toArray 108 (0, 0))) ∧ ∀ W'', W'' = (((w'.setCell ⟨W.heap.size, 0, none⟩ (.int .u32 (y.i : Int))).setCell ⟨W.heap.size, 1, none⟩ (.int .i64 (y.s : Int))).setCell ⟨W.heap.size, 2, none⟩ (.int .i64 y.u)) → TkR w p S c K n W.heap.size b W'') := by
      rintro n X x W r L g1 g2 g3 g4 g5 W' e0
      have gr : W.grownBy W' none := by rw [e0]; exact grown_alloc _ _
      have hbx : Bx W W' W.heap.size (bgc x) 108 r r := by rw [e0]; exact Bx.start g1.lt (bgc x) 108
      have := first_any (g1.then gr) (hwk L g2)
      rw [g3.st.b] at this
      refine this.mono ?_
      rintro e w' ⟨y, b, rfl, k1, k2, k3⟩
      have hb2 := hbx.keep k3
      refine ⟨y, b, rfl, ⟨_, _, _, hb2.box⟩, fun W'' e2 => ?_⟩
      obtain ⟨r1, r2⟩ := row3 w' hb2.box (.int .u32 (y.i : Int)) (.int .i64 (y.s : Int)) (.int .i64 y.u)
      rw [← e2] at r1 r2
      have kk : Kept w' W'' (fun i => i = W.heap.size) := Kept.of r2 (fun _ e _ => (Option.some.inj e).symm)
      refine ⟨r, L, y, k2.far kk (fun i hi e => hb2.nx (by rw [← e]; exact hi)), g2, k1, ⟨r1, ?_, hb2.nx, Nat.le_trans g3.st.kept.size (Nat.le_refl _)⟩, g4, g5⟩
      refine g3.st.trans ⟨hb2.st.eq, hb2.st.h, hb2.st.mb, hb2.st.kept.trans kk (fun i hi e => absurd hi (by rw [e]; exact Nat.lt_irrefl _)), fun i e => .inl e⟩
    clear h h1 h2 hw hwk hp
    go_enter Tryz.func77, Tryz.ntmps77
    go_wp2_with fail
    refine HC1.out.mono ?_
    rintro e w1 ⟨x, b, rfl, k1, k2, k3⟩
    have HT := hide (HS1.out w1 x b k2 k3 k1)
    clear k1 k2 k3 HC1 HS1 c5 c5f
    obtain ⟨xi, xs, xu⟩ := x
    unfold bgV
    simp only [bgc] at *
    go_wp2
    go_loopg [5, 6] S.L.length (fun n v hd wr => ∃ X bb, v = .pointer (some ⟨X, 0, none⟩) ∧ hd = .bool bb ∧ Hid (TkR w p S c K n X bb wr))
    case atStart => exact ⟨_, _, rfl, rfl, HT.out⟩
    case round =>
      obtain ⟨X, bb, rfl, rfl, HR⟩ := hrel
      cases bb with
      | false =>
        have hE := HEnd.out _ _ _ _ HR.out (fun L x g1 g2 _ y hy => by
          rcases g2 with ⟨-, -, g3⟩ | ⟨g3, -⟩
          · exact .inl (g3 y hy)
          · cases g3)
        have HE := hide hE
        clear hE HR HEnd HRem HFirst HT
        go_wp2
        go_ret
        exact ⟨rfl, HE.out⟩
      | true =>
        obtain ⟨⟨yi, ys, yu⟩, y1, y2, y3⟩ := HRem.out _ _ _ HR.out
        obtain ⟨z0, z1, z2, -⟩ := box3 y1
        by_cases hu : yu ≤ c
        · obtain ⟨hpos, hcall⟩ := y3 hu
          have HCall := hide hcall
          unfold bgV at HCall
          simp only at HCall
          clear hcall y1 y2 y3 HEnd HRem HT HR
          go_wp2_with fail
          refine HCall.out.mono ?_
          rintro e w2 ⟨rfl, r, L, g1, g2, g3, g4, g5⟩
          have v0 := g3.cells 0 _ rfl
          have v1 := g3.cells 1 _ rfl
          have v2 := g3.cells 2 _ rfl
          have HF := hide (HFirst.out (gk - 1) X ⟨yi, ys, yu⟩ w2 r L g1 g2 g3 g4 g5 _ rfl)
          simp only at HF
          clear g1 g2 g3 g4 g5 HCall HFirst z0 z1 z2
          go_wp2_with fail
          refine HF.out.mono ?_
          rintro e w3 ⟨⟨qi, qs, qu⟩, b3, rfl, ⟨u1, u2, u3, hb⟩, hall⟩
          obtain ⟨t0, t1, t2, t3⟩ := box3 hb
          have HA := hide hall
          clear hall hb HF v0 v1 v2
          unfold bgV
          simp only at HA
          go_wp2
          go_roundg (gk - 1)
          case rel => exact ⟨_, _, rfl, rfl, HA.out _ rfl⟩
          case measure => omega
        · have HE := hide (y2 (by simp only; omega))
          clear y1 y2 y3 HR HEnd HRem HFirst HT
          go_wp2
          go_ret
          exact ⟨rfl, HE.out⟩
end
end Go.Proofs.YtinkkocleognbaaGreatDoor
/- Apply. -/
namespace Go.Proofs.YtinkkocleognbaaGreatDoor
open Go.RowKit
attribute [local go_sem ↓] Go.wp_at_zero Go.wp_at_succ
section
variable {w w' : World} {p q : Bp} {S : Sb} {K : Nat}
set_option maxHeartbeats 4000000 in
theorem apply_0 (h : BkAt w p S K) (k i s u c : Int) (hr : Rc.Ok ⟨k, i, s, u, c⟩) (hm : ¬ Rc.May ⟨k, i, s, u, c⟩) (hT : Rk.Tab w) : Calls Tryz.prog 39 #[.pointer (some ⟨p.b, 0, none⟩), Rk.rcV ⟨k, i, s, u, c⟩] w fun e w' => e = .returned (.int .i64 160) ∧ ∃ q, BkAt w' q S (K + 1) ∧ Bst w w' p q := by
  have b0 := Bx.start h.lt [.int .i64 k, .int .u32 i, .int .i64 s, .int .i64 u, .int .i64 c] 47
  have h0 := h.then (grown_alloc w (.cells [Value.int .i64 k, .int .u32 i, .int .i64 s, .int .i64 u, .int .i64 c].toArray 47))
  have HN := hide h0.isNone
  have HC := hide (Rk.check_any ⟨k, i, s, u, c⟩ hr _ (hT.new (grown_alloc w (.cells [Value.int .i64 k, .int .u32 i, .int .i64 s, .int .i64 u, .int .i64 c].toArray 47))))
  rw [show Rk.chk ⟨k, i, s, u, c⟩ = 160 from if_neg hm] at HC
  have H0 := hide (And.intro h0 b0)
  clear h h0 b0 hr hm hT
  unfold Rk.rcV at *
  go_enter Tryz.func39, Tryz.ntmps39
  go_wp2_with fail
  refine HN.out.mono ?_
  rintro e w1 ⟨rfl, rfl⟩
  go_wp2_with fail
  refine HC.out.mono ?_
  rintro e w2 ⟨rfl, hg2⟩
  have HF := hide (And.intro ((H0.out.1.then hg2).mono (Nat.le_succ K)) (H0.out.2.then hg2).st)
  clear hg2 H0 HN HC
  go_wp2
  go_ret
  exact ⟨rfl, p, HF.out⟩
set_option maxHeartbeats 4000000 in
theorem apply_1 (h : BkAt w p S K) (ho : S.Ok) (hK : K ≤ 10000000) (i s : Nat) (u : Int) (hi : i < 4294967296) (hr : Rc.Ok ⟨1, (i : Int), (s : Int), u, 0⟩) (hm : Rc.May ⟨1, (i : Int), (s : Int), u, 0⟩) (hT : Rk.Tab w) : Calls Tryz.prog 39 #[.pointer (some ⟨p.b, 0, none⟩), Rk.rcV ⟨1, (i : Int), (s : Int), u, 0⟩] w fun e w' => e = .returned (.int .i64 (holdE S ⟨1, (i : Int), (s : Int), u, 0⟩)) ∧ ∃ q, BkAt w' q (if holdE S ⟨1, (i : Int), (s : Int), u, 0⟩ = 0 then { S with L := S.L ++ [⟨i, s, u⟩], n := S.n + 1 } else S) (K + 1) ∧ Bst w w' p q := by
  have b0 := Bx.start h.lt [.int .i64 1, .int .u32 (i : Int), .int .i64 (s : Int), .int .i64 u, .int .i64 0] 47
  have h0 := h.then (grown_alloc w (.cells [Value.int .i64 1, .int .u32 (i : Int), .int .i64 (s : Int), .int .i64 u, .int .i64 0].toArray 47))
  have HN := hide h0.isNone
  have HC := hide (Rk.check_any ⟨1, (i : Int), (s : Int), u, 0⟩ hr _ (hT.new (grown_alloc w (.cells [Value.int .i64 1, .int .u32 (i : Int), .int .i64 (s : Int), .int .i64 u, .int .i64 0].toArray 47))))
  rw [show Rk.chk ⟨1, (i : Int), (s : Int), u, 0⟩ = 0 from if_pos hm] at HC
  have HA : Hid (∀ W, BkAt W p S K → Calls Tryz.prog 73 #[.pointer (some ⟨p.b, 0, none⟩), .agg #[.int .i64 1, .int .u32 (i : Int), .int .i64 (s : Int), .int .i64 u, .int .i64 0]] W fun e w' => e = .returned (.int .i64 (holdE S ⟨1, (i : Int), (s : Int), u, 0⟩)) ∧ ∃ q, BkAt w' q (if holdE S ⟨1, (i : Int), (s : Int), u, 0⟩ = 0 then { S with L := S.L ++ [⟨i, s, u⟩], n := S.n + 1 } else S) (K + 1) ∧ Bst W w' p q) := by
    intro W hW
    refine (hold_any hW ho hK 1 0 i s hi u).mono ?_
    rintro e w' ⟨rfl, q, g1, g2⟩
    exact ⟨rfl, q, g1.mono (by omega), g2⟩
  have H0 := hide (And.intro h0 b0)
  clear h h0 b0 hr hm hT ho
  generalize (if holdE S ⟨1, (i : Int), (s : Int), u, 0⟩ = 0 then { S with L := S.L ++ [⟨i, s, u⟩], n := S.n + 1 } else S) = S' at *
  generalize (holdE S ⟨1, (i : Int), (s : Int), u, 0⟩) = res at *
  unfold Rk.rcV at *
  go_enter Tryz.func39, Tryz.ntmps39
  go_wp2_with fail
  refine HN.out.mono ?_
  rintro e w1 ⟨rfl, rfl⟩
  go_wp2_with fail
  refine HC.out.mono ?_
  rintro e w2 ⟨rfl, hg2⟩
  have hX := H0.out.2.then hg2
  have x0 := hX.cells 0 _ rfl
  have x1 := hX.cells 1 _ rfl
  have x2 := hX.cells 2 _ rfl
  have x3 := hX.cells 3 _ rfl
  have x4 := hX.cells 4 _ rfl
  have HA' := hide (HA.out w2 (H0.out.1.then hg2))
  have HX := hide hX.st
  clear hX hg2 H0 HN HC HA
  go_wp2_with fail
  refine HA'.out.mono ?_
  rintro e w3 ⟨rfl, q, g1, g2⟩
  have HF := hide (And.intro g1 (HX.out.trans g2))
  clear g1 g2 HX HA'
  go_wp2
  go_ret
  exact ⟨rfl, q, HF.out⟩
set_option maxHeartbeats 4000000 in
theorem apply_2 (h : BkAt w p S K) (ho : S.Ok) (hK : K ≤ 10000000) (i : Nat) (hi : i < 4294967296) (hr : Rc.Ok ⟨2, (i : Int), 0, 0, 0⟩) (hm : Rc.May ⟨2, (i : Int), 0, 0, 0⟩) (hT : Rk.Tab w) : Calls Tryz.prog 39 #[.pointer (some ⟨p.b, 0, none⟩), Rk.rcV ⟨2, (i : Int), 0, 0, 0⟩] w fun e w' => e = .returned (.int .i64 (if (fnd S.L i).isSome then (0 : Int) else 171)) ∧ ∃ q, BkAt w' q { S with L := (fnd S.L i).elim S.L fun x => upd S.L x.i { x with u := 0 } } (K + 1) ∧ Bst w w' p q := by
  have b0 := Bx.start h.lt [.int .i64 2, .int .u32 (i : Int), .int .i64 0, .int .i64 0, .int .i64 0] 47
  have h0 := h.then (grown_alloc w (.cells [Value.int .i64 2, .int .u32 (i : Int), .int .i64 0, .int .i64 0, .int .i64 0].toArray 47))
  have HN := hide h0.isNone
  have HC := hide (Rk.check_any ⟨2, (i : Int), 0, 0, 0⟩ hr _ (hT.new (grown_alloc w (.cells [Value.int .i64 2, .int .u32 (i : Int), .int .i64 0, .int .i64 0, .int .i64 0].toArray 47))))
  rw [show Rk.chk ⟨2, (i : Int), 0, 0, 0⟩ = 0 from if_pos hm] at HC
  have HA : Hid (∀ W, BkAt W p S K → Calls Tryz.prog 74 #[.pointer (some ⟨p.b, 0, none⟩), .int .u32 (i : Int)] W fun e w' => e = .returned (.int .i64 (if (fnd S.L i).isSome then (0 : Int) else 171)) ∧ ∃ q, BkAt w' q { S with L := (fnd S.L i).elim S.L fun x => upd S.L x.i { x with u := 0 } } (K + 1) ∧ Bst W w' p q) := by
    intro W hW
    refine (confirm_any hW ho.wk hK i hi).mono ?_
    rintro e w' ⟨rfl, q, g1, g2⟩
    exact ⟨rfl, q, g1.mono (by omega), g2⟩
  have H0 := hide (And.intro h0 b0)
  clear h h0 b0 hr hm hT ho
  generalize { S with L := (fnd S.L i).elim S.L fun x => upd S.L x.i { x with u := 0 } } = S' at *
  generalize (if (fnd S.L i).isSome then (0 : Int) else 171) = res at *
  unfold Rk.rcV at *
  go_enter Tryz.func39, Tryz.ntmps39
  go_wp2_with fail
  refine HN.out.mono ?_
  rintro e w1 ⟨rfl, rfl⟩
  go_wp2_with fail
  refine HC.out.mono ?_
  rintro e w2 ⟨rfl, hg2⟩
  have hX := H0.out.2.then hg2
  have x0 := hX.cells 0 _ rfl
  have x1 := hX.cells 1 _ rfl
  have HA' := hide (HA.out w2 (H0.out.1.then hg2))
  have HX := hide hX.st
  clear hX hg2 H0 HN HC HA
  go_wp2_with fail
  refine HA'.out.mono ?_
  rintro e w3 ⟨rfl, q, g1, g2⟩
  have HF := hide (And.intro g1 (HX.out.trans g2))
  clear g1 g2 HX HA'
  go_wp2
  go_ret
  exact ⟨rfl, q, HF.out⟩
set_option maxHeartbeats 4000000 in
theorem apply_3 (h : BkAt w p S K) (ho : S.Ok) (hK : K ≤ 10000000) (i : Nat) (hi : i < 4294967296) (hr : Rc.Ok ⟨3, (i : Int), 0, 0, 0⟩) (hm : Rc.May ⟨3, (i : Int), 0, 0, 0⟩) (hT : Rk.Tab w) : Calls Tryz.prog 39 #[.pointer (some ⟨p.b, 0, none⟩), Rk.rcV ⟨3, (i : Int), 0, 0, 0⟩] w fun e w' => e = .returned (.int .i64 (if (fnd S.L i).isSome then (0 : Int) else 171)) ∧ ∃ q, BkAt w' q { S with L := del S.L i } (K + 1) ∧ Bst w w' p q := by
  have b0 := Bx.start h.lt [.int .i64 3, .int .u32 (i : Int), .int .i64 0, .int .i64 0, .int .i64 0] 47
  have h0 := h.then (grown_alloc w (.cells [Value.int .i64 3, .int .u32 (i : Int), .int .i64 0, .int .i64 0, .int .i64 0].toArray 47))
  have HN := hide h0.isNone
  have HC := hide (Rk.check_any ⟨3, (i : Int), 0, 0, 0⟩ hr _ (hT.new (grown_alloc w (.cells [Value.int .i64 3, .int .u32 (i : Int), .int .i64 0, .int .i64 0, .int .i64 0].toArray 47))))
  rw [show Rk.chk ⟨3, (i : Int), 0, 0, 0⟩ = 0 from if_pos hm] at HC
  have HA : Hid (∀ W, BkAt W p S K → Calls Tryz.prog 75 #[.pointer (some ⟨p.b, 0, none⟩), .int .u32 (i : Int)] W fun e w' => e = .returned (.int .i64 (if (fnd S.L i).isSome then (0 : Int) else 171)) ∧ ∃ q, BkAt w' q { S with L := del S.L i } (K + 1) ∧ Bst W w' p q) := by
    intro W hW
    refine (cancel_any hW ho.wk hK i hi).mono ?_
    rintro e w' ⟨rfl, q, g1, g2⟩
    exact ⟨rfl, q, g1.mono (by omega), g2⟩
  have H0 := hide (And.intro h0 b0)
  clear h h0 b0 hr hm hT ho
  generalize { S with L := del S.L i } = S' at *
  generalize (if (fnd S.L i).isSome then (0 : Int) else 171) = res at *
  unfold Rk.rcV at *
  go_enter Tryz.func39, Tryz.ntmps39
  go_wp2_with fail
  refine HN.out.mono ?_
  rintro e w1 ⟨rfl, rfl⟩
  go_wp2_with fail
  refine HC.out.mono ?_
  rintro e w2 ⟨rfl, hg2⟩
  have hX := H0.out.2.then hg2
  have x0 := hX.cells 0 _ rfl
  have x1 := hX.cells 1 _ rfl
  have HA' := hide (HA.out w2 (H0.out.1.then hg2))
  have HX := hide hX.st
  clear hX hg2 H0 HN HC HA
  go_wp2_with fail
  refine HA'.out.mono ?_
  rintro e w3 ⟨rfl, q, g1, g2⟩
  have HF := hide (And.intro g1 (HX.out.trans g2))
  clear g1 g2 HX HA'
  go_wp2
  go_ret
  exact ⟨rfl, q, HF.out⟩
set_option maxHeartbeats 4000000 in
theorem apply_4 (h : BkAt w p S K) (ho : S.Ok) (_hK : K ≤ 10000000) (i s : Nat) (hi : i < 4294967296) (hr : Rc.Ok ⟨4, (i : Int), (s : Int), 0, 0⟩) (hm : Rc.May ⟨4, (i : Int), (s : Int), 0, 0⟩) (hT : Rk.Tab w) : Calls Tryz.prog 39 #[.pointer (some ⟨p.b, 0, none⟩), Rk.rcV ⟨4, (i : Int), (s : Int), 0, 0⟩] w fun e w' => e = .returned (.int .i64 (reseatE S i s)) ∧ ∃ q, BkAt w' q (if reseatE S i s = 0 then { S with L := (fnd S.L i).elim S.L fun x => upd S.L x.i { x with s := s } } else S) (K + 1) ∧ Bst w w' p q := by
  have b0 := Bx.start h.lt [.int .i64 4, .int .u32 (i : Int), .int .i64 (s : Int), .int .i64 0, .int .i64 0] 47
  have h0 := h.then (grown_alloc w (.cells [Value.int .i64 4, .int .u32 (i : Int), .int .i64 (s : Int), .int .i64 0, .int .i64 0].toArray 47))
  have HN := hide h0.isNone
  have HC := hide (Rk.check_any ⟨4, (i : Int), (s : Int), 0, 0⟩ hr _ (hT.new (grown_alloc w (.cells [Value.int .i64 4, .int .u32 (i : Int), .int .i64 (s : Int), .int .i64 0, .int .i64 0].toArray 47))))
  rw [show Rk.chk ⟨4, (i : Int), (s : Int), 0, 0⟩ = 0 from if_pos hm] at HC
  have HA : Hid (∀ W, BkAt W p S K → Calls Tryz.prog 76 #[.pointer (some ⟨p.b, 0, none⟩), .int .u32 (i : Int), .int .i64 (s : Int)] W fun e w' => e = .returned (.int .i64 (reseatE S i s)) ∧ ∃ q, BkAt w' q (if reseatE S i s = 0 then { S with L := (fnd S.L i).elim S.L fun x => upd S.L x.i { x with s := s } } else S) (K + 1) ∧ Bst W w' p q) := by
    intro W hW
    refine (reseat_any hW ho.wk i hi s).mono ?_
    rintro e w' ⟨rfl, g1, g2⟩
    exact ⟨rfl, p, g1.mono (by omega), Bst.keep g2⟩
  have H0 := hide (And.intro h0 b0)
  clear h h0 b0 hr hm hT ho
  generalize (if reseatE S i s = 0 then { S with L := (fnd S.L i).elim S.L fun x => upd S.L x.i { x with s := s } } else S) = S' at *
  generalize (reseatE S i s) = res at *
  unfold Rk.rcV at *
  go_enter Tryz.func39, Tryz.ntmps39
  go_wp2_with fail
  refine HN.out.mono ?_
  rintro e w1 ⟨rfl, rfl⟩
  go_wp2_with fail
  refine HC.out.mono ?_
  rintro e w2 ⟨rfl, hg2⟩
  have hX := H0.out.2.then hg2
  have x0 := hX.cells 0 _ rfl
  have x1 := hX.cells 1 _ rfl
  have x2 := hX.cells 2 _ rfl
  have HA' := hide (HA.out w2 (H0.out.1.then hg2))
  have HX := hide hX.st
  clear hX hg2 H0 HN HC HA
  go_wp2_with fail
  refine HA'.out.mono ?_
  rintro e w3 ⟨rfl, q, g1, g2⟩
  have HF := hide (And.intro g1 (HX.out.trans g2))
  clear g1 g2 HX HA'
  go_wp2
  go_ret
  exact ⟨rfl, q, HF.out⟩
set_option maxHeartbeats 4000000 in
theorem apply_5 (h : BkAt w p S K) (ho : S.Ok) (hK : K ≤ 10000000) (c : Int) (hc : c ≤ mxC) (hr : Rc.Ok ⟨5, 0, 0, 0, c⟩) (hm : Rc.May ⟨5, 0, 0, 0, c⟩) (hT : Rk.Tab w) : Calls Tryz.prog 39 #[.pointer (some ⟨p.b, 0, none⟩), Rk.rcV ⟨5, 0, 0, 0, c⟩] w fun e w' => e = .returned (.int .i64 (if c ≤ S.t then (173 : Int) else 0)) ∧ ∃ q, BkAt w' q (if c ≤ S.t then S else { S with L := tik S.L c, t := c }) (K + 1) ∧ Bst w w' p q := by
  have b0 := Bx.start h.lt [.int .i64 5, .int .u32 0, .int .i64 0, .int .i64 0, .int .i64 c] 47
  have h0 := h.then (grown_alloc w (.cells [Value.int .i64 5, .int .u32 0, .int .i64 0, .int .i64 0, .int .i64 c].toArray 47))
  have HN := hide h0.isNone
  have HC := hide (Rk.check_any ⟨5, 0, 0, 0, c⟩ hr _ (hT.new (grown_alloc w (.cells [Value.int .i64 5, .int .u32 0, .int .i64 0, .int .i64 0, .int .i64 c].toArray 47))))
  rw [show Rk.chk ⟨5, 0, 0, 0, c⟩ = 0 from if_pos hm] at HC
  have HA : Hid (∀ W, BkAt W p S K → Calls Tryz.prog 77 #[.pointer (some ⟨p.b, 0, none⟩), .int .i64 c] W fun e w' => e = .returned (.int .i64 (if c ≤ S.t then (173 : Int) else 0)) ∧ ∃ q, BkAt w' q (if c ≤ S.t then S else { S with L := tik S.L c, t := c }) (K + 1) ∧ Bst W w' p q) := by
    intro W hW
    refine (tick_any hW ho.wk hK c hc).mono ?_
    rintro e w' ⟨rfl, q, g1, g2⟩
    exact ⟨rfl, q, g1.mono (by omega), g2⟩
  have H0 := hide (And.intro h0 b0)
  clear h h0 b0 hr hm hT ho
  generalize (if c ≤ S.t then S else { S with L := tik S.L c, t := c }) = S' at *
  generalize (if c ≤ S.t then (173 : Int) else 0) = res at *
  unfold Rk.rcV at *
  go_enter Tryz.func39, Tryz.ntmps39
  go_wp2_with fail
  refine HN.out.mono ?_
  rintro e w1 ⟨rfl, rfl⟩
  go_wp2_with fail
  refine HC.out.mono ?_
  rintro e w2 ⟨rfl, hg2⟩
  have hX := H0.out.2.then hg2
  have x0 := hX.cells 0 _ rfl
  have x4 := hX.cells 4 _ rfl
  have HA' := hide (HA.out w2 (H0.out.1.then hg2))
  have HX := hide hX.st
  clear hX hg2 H0 HN HC HA
  go_wp2_with fail
  refine HA'.out.mono ?_
  rintro e w3 ⟨rfl, q, g1, g2⟩
  have HF := hide (And.intro g1 (HX.out.trans g2))
  clear g1 g2 HX HA'
  go_wp2
  go_ret
  exact ⟨rfl, q, HF.out⟩
/-- Any record. -/
theorem apply_any (h : BkAt w p S K) (ho : S.Ok) (hK : K ≤ 10000000) (r : Rc) (hr : r.Ok) (hT : Rk.Tab w) : Calls Tryz.prog 39 #[.pointer (some ⟨p.b, 0, none⟩), Rk.rcV r] w fun e w' => e = .returned (.int .i64 (appE S r)) ∧ ∃ q, BkAt w' q (app S r) (K + 1) ∧ Bst w w' p q := by
  obtain ⟨k, i, s, u, c⟩ := r
  by_cases hm : Rc.May ⟨k, i, s, u, c⟩
  · have hi1 := hr.i1
    have hi0 := hr.i0
    simp only at hi0 hi1
    obtain ⟨n, rfl⟩ : ∃ n : Nat, i = (n : Int) := ⟨i.toNat, by omega⟩
    have hk := may_kind hm
    simp only at hk
    have hE : ∀ {e : Int} {S' S'' : Sb}, appE S ⟨k, (n : Int), s, u, c⟩ = e → (e = 0 → appS S ⟨k, (n : Int), s, u, c⟩ = S') → (e ≠ 0 → S' = S) → app S ⟨k, (n : Int), s, u, c⟩ = S' := by
      intro e S' _ h1 h2 h3
      by_cases h4 : e = 0
      · rw [app_yes (by rw [h1, h4]), h2 h4]
      · rw [app_no (by rw [h1]; exact h4), h3 h4]
    rcases hk with rfl | rfl | rfl | rfl | rfl
    · have hv : 0 ≤ s ∧ c = 0 := by unfold Rc.May at hm; simp only at hm; omega
      obtain ⟨hs, rfl⟩ := hv
      obtain ⟨m, rfl⟩ : ∃ m : Nat, s = (m : Int) := ⟨s.toNat, by omega⟩
      have h1 : appE S ⟨1, (n : Int), (m : Int), u, 0⟩ = holdE S ⟨1, (n : Int), (m : Int), u, 0⟩ := by unfold appE; rw [if_neg (fun e => e hm)]; rfl
      rw [h1, hE (S'' := S) (S' := if holdE S ⟨1, (n : Int), (m : Int), u, 0⟩ = 0 then { S with L := S.L ++ [⟨n, m, u⟩], n := S.n + 1 } else S) h1 (fun e => by rw [if_pos e]; rfl) (fun e => if_neg e)]
      exact apply_1 h ho hK n m u (by omega) hr hm hT
    · have hv : s = 0 ∧ u = 0 ∧ c = 0 := by unfold Rc.May at hm; simp only at hm; omega
      obtain ⟨rfl, rfl, rfl⟩ := hv
      have h1 : appE S ⟨2, (n : Int), 0, 0, 0⟩ = if (fnd S.L n).isSome then 0 else 171 := by unfold appE; rw [if_neg (fun e => e hm)]; rfl
      rw [h1, hE (S'' := S) (S' := { S with L := (fnd S.L n).elim S.L fun x => upd S.L x.i { x with u := 0 } }) h1 (fun e => rfl) (fun e => by
        cases hf : fnd S.L n with
        | none => rfl
        | some x => rw [hf] at e; exact absurd rfl e)]
      exact apply_2 h ho hK n (by omega) hr hm hT
    · have hv : s = 0 ∧ u = 0 ∧ c = 0 := by unfold Rc.May at hm; simp only at hm; omega
      obtain ⟨rfl, rfl, rfl⟩ := hv
      have h1 : appE S ⟨3, (n : Int), 0, 0, 0⟩ = if (fnd S.L n).isSome then 0 else 171 := by unfold appE; rw [if_neg (fun e => e hm)]; rfl
      rw [h1, hE (S'' := S) (S' := { S with L := del S.L n }) h1 (fun e => rfl) (fun e => by
        cases hf : fnd S.L n with
        | none =>
          have : del S.L n = S.L := by
            unfold del
            rw [List.filter_eq_self]
            intro y hy
            simpa using fnd_none.1 hf y hy
          rw [this]
        | some x => rw [hf] at e; exact absurd rfl e)]
      exact apply_3 h ho hK n (by omega) hr hm hT
    · have hv : 0 ≤ s ∧ u = 0 ∧ c = 0 := by unfold Rc.May at hm; simp only at hm; omega
      obtain ⟨hs, rfl, rfl⟩ := hv
      obtain ⟨m, rfl⟩ : ∃ m : Nat, s = (m : Int) := ⟨s.toNat, by omega⟩
      have h1 : appE S ⟨4, (n : Int), (m : Int), 0, 0⟩ = reseatE S n m := by unfold appE; rw [if_neg (fun e => e hm)]; rfl
      rw [h1, hE (S'' := S) (S' := if reseatE S n m = 0 then { S with L := (fnd S.L n).elim S.L fun x => upd S.L x.i { x with s := m } } else S) h1 (fun e => by rw [if_pos e]; rfl) (fun e => if_neg e)]
      exact apply_4 h ho hK n m (by omega) hr hm hT
    · have hv : n = 0 ∧ s = 0 ∧ u = 0 ∧ c ≤ mxC := by unfold Rc.May at hm; simp only at hm; omega
      obtain ⟨rfl, rfl, rfl, hc⟩ := hv
      have h1 : appE S ⟨5, ((0 : Nat) : Int), 0, 0, c⟩ = if c ≤ S.t then 173 else 0 := by unfold appE; rw [if_neg (fun e => e hm)]; rfl
      rw [h1, hE (S'' := S) (S' := if c ≤ S.t then S else { S with L := tik S.L c, t := c }) h1 (fun e => by
        by_cases h5 : c ≤ S.t
        · rw [if_pos h5] at e; cases e
        · rw [if_neg h5]; rfl) (fun e => by
        by_cases h5 : c ≤ S.t
        · rw [if_pos h5]
        · rw [if_neg h5] at e; exact absurd rfl e)]
      exact apply_5 h ho hK c hc hr hm hT
  · have h1 : appE S ⟨k, i, s, u, c⟩ = 160 := by unfold appE; rw [if_pos hm]
    rw [h1, app_no (by rw [h1]; decide)]
    exact apply_0 h k i s u c hr hm hT
end
end Go.Proofs.YtinkkocleognbaaGreatDoor
