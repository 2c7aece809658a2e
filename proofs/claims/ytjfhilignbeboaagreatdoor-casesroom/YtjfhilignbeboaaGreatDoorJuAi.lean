/- Texts joined: BkE, BkF, IxIg, IxSh, IxIh, IxIi, IxIj. -/
import Derived.Test.YtjfhilignbeboaaGreatDoorJuAh
import Derived.Test.YtjfhilignbeboaaGreatDoorJuAc
import Derived.Deep.CutRange
import Derived.Deep.DeepCutAuto
import Derived.RangeFuncNested
import Derived.RangeFuncBound
import Derived.RangeFuncCalls
import Derived.RangeFuncLeaves
import Derived.RangeFuncBox
import Derived.Shelf.Abstract
import Derived.Shelf.RegionOpen
import Derived.OwnWalkIn
import Derived.TacticsInMore
import Derived.LoopNIn
import Derived.LoopIn
import Derived.Shelf.SlSortCmp.WholeK
import Derived.Ground.SlsfProg
import Derived.Shelf.SlSortCmp.NoneTotal
import Derived.Sort.OwnSorted
import Derived.Test.YtjfhilignbeboaaGreatDoorJuAg
import Derived.OrdersIn
import Derived.OrdersHeld
import Derived.Deep.RegionHeld
import Derived.Deep.Quiet
/- Tick. -/
namespace Go.Proofs.YtjfhilignbeboaaGreatDoor
open Go.RowKit
attribute [local go_sem ↓] Go.wp_at_zero Go.wp_at_succ
theorem Sb.Wk.sub {S : Sb} (h : S.Wk) {c : Int} {L : List Bg} (hL : L.Sublist S.L) (h0 : 0 ≤ c) (h1 : c ≤ mxC) : Sb.Wk { S with t := c, L := L } :=
  ⟨h.a0, h.a1, h.b0, h.b1, h.c0, h.c1, h.n0, h.n1, h0, h1, List.Pairwise.sublist hL h.asc, fun x hx => h.id x (hL.subset hx), fun x hx => h.st x (hL.subset hx), List.Pairwise.sublist hL h.one, fun x hx => h.til x (hL.subset hx), Nat.le_trans hL.length_le h.few⟩
theorem tik_del {L : List Bg} {x : Bg} (hA : AscB L) (hx : x ∈ L) {c : Int} (hu : x.u ≠ 0) (hc : x.u ≤ c) : tik (del L x.i) c = tik L c := by
  unfold tik del
  rw [List.filter_filter]
  apply List.filter_congr
  intro y hy
  by_cases e : y.i = x.i
  · rw [hA.same hy hx e]
    simp [hu]; omega
  · simp [e]
theorem tik_all {L : List Bg} {c : Int} (h : ∀ y ∈ L, y.u = 0 ∨ c < y.u) : tik L c = L := by
  unfold tik
  rw [List.filter_eq_self]
  intro y hy
  simpa using h y hy
theorem del_sub (L : List Bg) (i : Nat) : (del L i).Sublist L := List.filter_sublist
theorem del_less {L : List Bg} {x : Bg} (hx : x ∈ L) : (del L x.i).length < L.length := by
  unfold del
  rw [List.length_filter_lt_length_iff_exists]
  exact ⟨x, hx, by simp⟩
/-- In the midst of a tick. -/
def TkR (w : World) (p : Bp) (S : Sb) (c : Int) (K n X : Nat) (b : Bool) (W : World) : Prop :=
  ∃ r L x, BkAt W r { S with t := c, L := L } K ∧ L.Sublist S.L ∧ Fst { S with t := c, L := L } x b ∧ Bx w W X (bgc x) 51 p r ∧ tik L c = tik S.L c ∧ L.length ≤ n
section
variable {w w' : World} {p q : Bp} {S : Sb} {Lb Lb' : List Bool} {R : List Bg} {M E : List (Nat × Int)} {T : List Nat} {N B C K : Nat} {f : Int → Option Nat}
set_option maxHeartbeats 4000000 in
theorem tick_any (h : BkAt w p S K) (hw : S.Wk) (hK : K ≤ 10000000) (c : Int) (hc : c ≤ mxC) :
    Calls Tryz.prog 68 #[.pointer (some ⟨p.b, 0, none⟩), .int .i64 c] w fun e w' => e = .returned (.int .i64 (if c ≤ S.t then 173 else 0)) ∧ ∃ q, BkAt w' q (if c ≤ S.t then S else { S with L := tik S.L c, t := c }) K ∧ Bst w w' p q := by
  have c5 := h.cells 5 _ rfl
  by_cases hp : c ≤ S.t
  · rw [if_pos hp, if_pos hp]
    have H := hide h
    clear h
    go_enter Tryz.func68, Tryz.ntmps68
    go_wp2
    go_ret
    exact ⟨rfl, p, H.out, Bst.refl _ _⟩
  · rw [if_neg hp, if_neg hp]
    have hp' : S.t < c := by omega
    have ht0 := hw.t0
    obtain ⟨h1, h2⟩ := h.tick c
    have c5f := h.free 5
    have hwk : ∀ L, L.Sublist S.L → Sb.Wk { S with t := c, L := L } := fun L hL => hw.sub hL (by omega) hc
    have HC1 := hide (first_any h1 (hwk S.L (List.Sublist.refl _)))
    have HS1 : Hid (∀ W x b, BkAt W p { S with t := c } K → Kept (w.setCell ⟨p.b, 5, none⟩ (.int .i64 c)) W p.own → Fst { S with t := c } x b → TkR w p S c K S.L.length W.heap.size b (W.alloc (.cells (bgc x).toArray 51))) := by
      intro W x b g1 g2 g3
      have hb := Bx.start g1.lt (bgc x) 51
      exact ⟨p, S.L, x, g1.then (grown_alloc W _), List.Sublist.refl _, g3, ⟨hb.box, (Bst.keep (h2.trans g2 (fun _ _ e => e))).trans hb.st, hb.nx, Nat.le_trans (h2.trans g2 (fun _ _ e => e)).size hb.lo⟩, rfl, Nat.le_refl _⟩
    have HEnd : Hid (∀ n X b W, TkR w p S c K n X b W → (∀ L x, L.Sublist S.L → Fst { S with t := c, L := L } x b → W.heap[X]? = some (.cells (bgc x).toArray 51 (0, 0)) → ∀ y ∈ L, y.u = 0 ∨ c < y.u) → ∃ q, BkAt W q { S with L := tik S.L c, t := c } K ∧ Bst w W p q) := by
      rintro n X b W ⟨r, L, x, g1, g2, g3, g4, g5, g6⟩ hall
      have := tik_all (hall L x g2 g3 g4.box)
      rw [g5] at this
      rw [this]
      exact ⟨r, g1, g4.st⟩
    have HRem : Hid (∀ n X W, TkR w p S c K n X true W → ∃ x : Bg, W.heap[X]? = some (.cells (bgc x).toArray 51 (0, 0)) ∧ (c < x.u → ∃ q, BkAt W q { S with L := tik S.L c, t := c } K ∧ Bst w W p q) ∧ (x.u ≤ c → 0 < n ∧ Calls Tryz.prog 115 #[.pointer (some ⟨p.b, 0, none⟩), bgV x] W fun e w' => e = .returned (.tuple #[]) ∧ ∃ r L, BkAt w' r { S with t := c, L := L } K ∧ L.Sublist S.L ∧ Bx w w' X (bgc x) 51 p r ∧ tik L c = tik S.L c ∧ L.length ≤ n - 1)) := by
      rintro n X W ⟨r, L, x, g1, g2, g3, g4, g5, g6⟩
      rcases g3 with ⟨e, -⟩ | ⟨-, hx, hxu, hle⟩
      · cases e
      refine ⟨x, g4.box, fun hlt => ?_, fun hu => ?_⟩
      · have := tik_all (L := L) (c := c) (fun y hy => by
          by_cases e : y.u = 0
          · exact .inl e
          · have := hle y hy e; exact .inr (by omega))
        rw [g5] at this
        rw [this]
        exact ⟨r, g1, g4.st⟩
      · have hdl := del_less (L := L) hx
        refine ⟨by omega, ?_⟩
        have := remove_any g1 (hwk L g2) hK x hx
        rw [g4.st.b] at this
        refine this.mono ?_
        rintro e w' ⟨rfl, q, k1, k2⟩
        exact ⟨rfl, q, del L x.i, k1, (del_sub L x.i).trans g2, g4.step k2, by rw [tik_del (List.Pairwise.sublist g2 hw.asc) hx hxu hu]; exact g5, by omega⟩
    have HFirst : Hid (∀ n X x W r L, BkAt W r { S with t := c, L := L } K → L.Sublist S.L → Bx w W X (bgc x) 51 p r → tik L c = tik S.L c → L.length ≤ n → ∀ W', W' = W.alloc (.cells (bgc x).toArray 51) → Calls Tryz.prog 117 #[.pointer (some ⟨p.b, 0, none⟩)] W' fun e w' => ∃ y b, e = .returned (.tuple #[bgV y, .bool b]) ∧ (∃ v1 v2 v3, w'.heap[W.heap.size]? = some (.cells [v1, v2, v3].toArray 51 (0, 0))) ∧ ∀ W'', W'' = (((w'.setCell ⟨W.heap.size, 0, none⟩ (.int .u32 (y.i : Int))).setCell ⟨W.heap.size, 1, none⟩ (.int .i64 (y.s : Int))).setCell ⟨W.heap.size, 2, none⟩ (.int .i64 y.u)) → TkR w p S c K n W.heap.size b W'') := by
      rintro n X x W r L g1 g2 g3 g4 g5 W' e0
      have gr : W.grownBy W' none := by rw [e0]; exact grown_alloc _ _
      have hbx : Bx W W' W.heap.size (bgc x) 51 r r := by rw [e0]; exact Bx.start g1.lt (bgc x) 51
      have := first_any (g1.then gr) (hwk L g2)
      rw [g3.st.b] at this
      refine this.mono ?_
      rintro e w' ⟨y, b, rfl, k1, k2, k3⟩
      have hb2 := hbx.keep k3
      refine ⟨y, b, rfl, ⟨_, _, _, hb2.box⟩, fun W'' e2 => ?_⟩
      obtain ⟨r1, r2⟩ := row3 w' hb2.box (.int .u32 (y.i : Int)) (.int .i64 (y.s : Int)) (.int .i64 y.u)
      rw [← e2] at r1 r2
      have kk : Kept w' W'' (fun i => i = W.heap.size) := Kept.of r2 (fun _ e _ => (Option.some.inj e).symm)
      refine ⟨r, L, y, k2.far kk (fun i hi e => hb2.nx (by rw [← e]; exact hi)), g2, k1, ⟨r1, ?_, hb2.nx, Nat.le_trans g3.st.kept.size (Nat.le_refl _)⟩, g4, g5⟩
      refine g3.st.trans ⟨hb2.st.eq, hb2.st.h, hb2.st.mb, hb2.st.kept.trans kk (fun i hi e => absurd hi (by rw [e]; exact Nat.lt_irrefl _)), fun i e => .inl e⟩
    clear h h1 h2 hw hwk hp
    go_enter Tryz.func68, Tryz.ntmps68
    go_wp2_with fail
    refine HC1.out.mono ?_
    rintro e w1 ⟨x, b, rfl, k1, k2, k3⟩
    have HT := hide (HS1.out w1 x b k2 k3 k1)
    clear k1 k2 k3 HC1 HS1 c5 c5f
    obtain ⟨xi, xs, xu⟩ := x
    unfold bgV
    simp only [bgc] at *
    go_wp2
    go_loopg [5, 6] S.L.length (fun n v hd wr => ∃ X bb, v = .pointer (some ⟨X, 0, none⟩) ∧ hd = .bool bb ∧ Hid (TkR w p S c K n X bb wr))
    case atStart => exact ⟨_, _, rfl, rfl, HT.out⟩
    case round =>
      obtain ⟨X, bb, rfl, rfl, HR⟩ := hrel
      cases bb with
      | false =>
        have hE := HEnd.out _ _ _ _ HR.out (fun L x g1 g2 _ y hy => by
          rcases g2 with ⟨-, -, g3⟩ | ⟨g3, -⟩
          · exact .inl (g3 y hy)
          · cases g3)
        have HE := hide hE
        clear hE HR HEnd HRem HFirst HT
        go_wp2
        go_ret
        exact ⟨rfl, HE.out⟩
      | true =>
        obtain ⟨⟨yi, ys, yu⟩, y1, y2, y3⟩ := HRem.out _ _ _ HR.out
        obtain ⟨z0, z1, z2, -⟩ := box3 y1
        by_cases hu : yu ≤ c
        · obtain ⟨hpos, hcall⟩ := y3 hu
          have HCall := hide hcall
          unfold bgV at HCall
          simp only at HCall
          clear hcall y1 y2 y3 HEnd HRem HT HR
          go_wp2_with fail
          refine HCall.out.mono ?_
          rintro e w2 ⟨rfl, r, L, g1, g2, g3, g4, g5⟩
          have v0 := g3.cells 0 _ rfl
          have v1 := g3.cells 1 _ rfl
          have v2 := g3.cells 2 _ rfl
          have HF := hide (HFirst.out (gk - 1) X ⟨yi, ys, yu⟩ w2 r L g1 g2 g3 g4 g5 _ rfl)
          simp only at HF
          clear g1 g2 g3 g4 g5 HCall HFirst z0 z1 z2
          go_wp2_with fail
          refine HF.out.mono ?_
          rintro e w3 ⟨⟨qi, qs, qu⟩, b3, rfl, ⟨u1, u2, u3, hb⟩, hall⟩
          obtain ⟨t0, t1, t2, t3⟩ := box3 hb
          have HA := hide hall
          clear hall hb HF v0 v1 v2
          unfold bgV
          simp only at HA
          go_wp2
          go_roundg (gk - 1)
          case rel => exact ⟨_, _, rfl, rfl, HA.out _ rfl⟩
          case measure => omega
        · have HE := hide (y2 (by simp only; omega))
          clear y1 y2 y3 HR HEnd HRem HFirst HT
          go_wp2
          go_ret
          exact ⟨rfl, HE.out⟩
end
end Go.Proofs.YtjfhilignbeboaaGreatDoor
/- Apply. -/
namespace Go.Proofs.YtjfhilignbeboaaGreatDoor
open Go.RowKit
attribute [local go_sem ↓] Go.wp_at_zero Go.wp_at_succ
section
variable {w w' : World} {p q : Bp} {S : Sb} {K : Nat}
set_option maxHeartbeats 4000000 in
theorem apply_0 (h : BkAt w p S K) (k i s u c : Int) (hr : Rc.Ok ⟨k, i, s, u, c⟩) (hm : ¬ Rc.May ⟨k, i, s, u, c⟩) (hT : Rk.Tab w) : Calls Tryz.prog 24 #[.pointer (some ⟨p.b, 0, none⟩), Rk.rcV ⟨k, i, s, u, c⟩] w fun e w' => e = .returned (.int .i64 160) ∧ ∃ q, BkAt w' q S (K + 1) ∧ Bst w w' p q := by
  have b0 := Bx.start h.lt [.int .i64 k, .int .u32 i, .int .i64 s, .int .i64 u, .int .i64 c] 28
  have h0 := h.then (grown_alloc w (.cells [Value.int .i64 k, .int .u32 i, .int .i64 s, .int .i64 u, .int .i64 c].toArray 28))
  have HN := hide h0.isNone
  have HC := hide (Rk.check_any ⟨k, i, s, u, c⟩ hr _ (hT.new (grown_alloc w (.cells [Value.int .i64 k, .int .u32 i, .int .i64 s, .int .i64 u, .int .i64 c].toArray 28))))
  rw [show Rk.chk ⟨k, i, s, u, c⟩ = 160 from if_neg hm] at HC
  have H0 := hide (And.intro h0 b0)
  clear h h0 b0 hr hm hT
  unfold Rk.rcV at *
  go_enter Tryz.func24, Tryz.ntmps24
  go_wp2_with fail
  refine HN.out.mono ?_
  rintro e w1 ⟨rfl, rfl⟩
  go_wp2_with fail
  refine HC.out.mono ?_
  rintro e w2 ⟨rfl, hg2⟩
  have HF := hide (And.intro ((H0.out.1.then hg2).mono (Nat.le_succ K)) (H0.out.2.then hg2).st)
  clear hg2 H0 HN HC
  go_wp2
  go_ret
  exact ⟨rfl, p, HF.out⟩
set_option maxHeartbeats 4000000 in
theorem apply_1 (h : BkAt w p S K) (ho : S.Ok) (hK : K ≤ 10000000) (i s : Nat) (u : Int) (hi : i < 4294967296) (hr : Rc.Ok ⟨1, (i : Int), (s : Int), u, 0⟩) (hm : Rc.May ⟨1, (i : Int), (s : Int), u, 0⟩) (hT : Rk.Tab w) : Calls Tryz.prog 24 #[.pointer (some ⟨p.b, 0, none⟩), Rk.rcV ⟨1, (i : Int), (s : Int), u, 0⟩] w fun e w' => e = .returned (.int .i64 (holdE S ⟨1, (i : Int), (s : Int), u, 0⟩)) ∧ ∃ q, BkAt w' q (if holdE S ⟨1, (i : Int), (s : Int), u, 0⟩ = 0 then { S with L := S.L ++ [⟨i, s, u⟩], n := S.n + 1 } else S) (K + 1) ∧ Bst w w' p q := by
  have b0 := Bx.start h.lt [.int .i64 1, .int .u32 (i : Int), .int .i64 (s : Int), .int .i64 u, .int .i64 0] 28
  have h0 := h.then (grown_alloc w (.cells [Value.int .i64 1, .int .u32 (i : Int), .int .i64 (s : Int), .int .i64 u, .int .i64 0].toArray 28))
  have HN := hide h0.isNone
  have HC := hide (Rk.check_any ⟨1, (i : Int), (s : Int), u, 0⟩ hr _ (hT.new (grown_alloc w (.cells [Value.int .i64 1, .int .u32 (i : Int), .int .i64 (s : Int), .int .i64 u, .int .i64 0].toArray 28))))
  rw [show Rk.chk ⟨1, (i : Int), (s : Int), u, 0⟩ = 0 from if_pos hm] at HC
  have HA : Hid (∀ W, BkAt W p S K → Calls Tryz.prog 64 #[.pointer (some ⟨p.b, 0, none⟩), .agg #[.int .i64 1, .int .u32 (i : Int), .int .i64 (s : Int), .int .i64 u, .int .i64 0]] W fun e w' => e = .returned (.int .i64 (holdE S ⟨1, (i : Int), (s : Int), u, 0⟩)) ∧ ∃ q, BkAt w' q (if holdE S ⟨1, (i : Int), (s : Int), u, 0⟩ = 0 then { S with L := S.L ++ [⟨i, s, u⟩], n := S.n + 1 } else S) (K + 1) ∧ Bst W w' p q) := by
    intro W hW
    refine (hold_any hW ho hK 1 0 i s hi u).mono ?_
    rintro e w' ⟨rfl, q, g1, g2⟩
    exact ⟨rfl, q, g1.mono (by omega), g2⟩
  have H0 := hide (And.intro h0 b0)
  clear h h0 b0 hr hm hT ho
  generalize (if holdE S ⟨1, (i : Int), (s : Int), u, 0⟩ = 0 then { S with L := S.L ++ [⟨i, s, u⟩], n := S.n + 1 } else S) = S' at *
  generalize (holdE S ⟨1, (i : Int), (s : Int), u, 0⟩) = res at *
  unfold Rk.rcV at *
  go_enter Tryz.func24, Tryz.ntmps24
  go_wp2_with fail
  refine HN.out.mono ?_
  rintro e w1 ⟨rfl, rfl⟩
  go_wp2_with fail
  refine HC.out.mono ?_
  rintro e w2 ⟨rfl, hg2⟩
  have hX := H0.out.2.then hg2
  have x0 := hX.cells 0 _ rfl
  have x1 := hX.cells 1 _ rfl
  have x2 := hX.cells 2 _ rfl
  have x3 := hX.cells 3 _ rfl
  have x4 := hX.cells 4 _ rfl
  have HA' := hide (HA.out w2 (H0.out.1.then hg2))
  have HX := hide hX.st
  clear hX hg2 H0 HN HC HA
  go_wp2_with fail
  refine HA'.out.mono ?_
  rintro e w3 ⟨rfl, q, g1, g2⟩
  have HF := hide (And.intro g1 (HX.out.trans g2))
  clear g1 g2 HX HA'
  go_wp2
  go_ret
  exact ⟨rfl, q, HF.out⟩
set_option maxHeartbeats 4000000 in
theorem apply_2 (h : BkAt w p S K) (ho : S.Ok) (hK : K ≤ 10000000) (i : Nat) (hi : i < 4294967296) (hr : Rc.Ok ⟨2, (i : Int), 0, 0, 0⟩) (hm : Rc.May ⟨2, (i : Int), 0, 0, 0⟩) (hT : Rk.Tab w) : Calls Tryz.prog 24 #[.pointer (some ⟨p.b, 0, none⟩), Rk.rcV ⟨2, (i : Int), 0, 0, 0⟩] w fun e w' => e = .returned (.int .i64 (if (fnd S.L i).isSome then (0 : Int) else 171)) ∧ ∃ q, BkAt w' q { S with L := (fnd S.L i).elim S.L fun x => upd S.L x.i { x with u := 0 } } (K + 1) ∧ Bst w w' p q := by
  have b0 := Bx.start h.lt [.int .i64 2, .int .u32 (i : Int), .int .i64 0, .int .i64 0, .int .i64 0] 28
  have h0 := h.then (grown_alloc w (.cells [Value.int .i64 2, .int .u32 (i : Int), .int .i64 0, .int .i64 0, .int .i64 0].toArray 28))
  have HN := hide h0.isNone
  have HC := hide (Rk.check_any ⟨2, (i : Int), 0, 0, 0⟩ hr _ (hT.new (grown_alloc w (.cells [Value.int .i64 2, .int .u32 (i : Int), .int .i64 0, .int .i64 0, .int .i64 0].toArray 28))))
  rw [show Rk.chk ⟨2, (i : Int), 0, 0, 0⟩ = 0 from if_pos hm] at HC
  have HA : Hid (∀ W, BkAt W p S K → Calls Tryz.prog 65 #[.pointer (some ⟨p.b, 0, none⟩), .int .u32 (i : Int)] W fun e w' => e = .returned (.int .i64 (if (fnd S.L i).isSome then (0 : Int) else 171)) ∧ ∃ q, BkAt w' q { S with L := (fnd S.L i).elim S.L fun x => upd S.L x.i { x with u := 0 } } (K + 1) ∧ Bst W w' p q) := by
    intro W hW
    refine (confirm_any hW ho.wk hK i hi).mono ?_
    rintro e w' ⟨rfl, q, g1, g2⟩
    exact ⟨rfl, q, g1.mono (by omega), g2⟩
  have H0 := hide (And.intro h0 b0)
  clear h h0 b0 hr hm hT ho
  generalize { S with L := (fnd S.L i).elim S.L fun x => upd S.L x.i { x with u := 0 } } = S' at *
  generalize (if (fnd S.L i).isSome then (0 : Int) else 171) = res at *
  unfold Rk.rcV at *
  go_enter Tryz.func24, Tryz.ntmps24
  go_wp2_with fail
  refine HN.out.mono ?_
  rintro e w1 ⟨rfl, rfl⟩
  go_wp2_with fail
  refine HC.out.mono ?_
  rintro e w2 ⟨rfl, hg2⟩
  have hX := H0.out.2.then hg2
  have x0 := hX.cells 0 _ rfl
  have x1 := hX.cells 1 _ rfl
  have HA' := hide (HA.out w2 (H0.out.1.then hg2))
  have HX := hide hX.st
  clear hX hg2 H0 HN HC HA
  go_wp2_with fail
  refine HA'.out.mono ?_
  rintro e w3 ⟨rfl, q, g1, g2⟩
  have HF := hide (And.intro g1 (HX.out.trans g2))
  clear g1 g2 HX HA'
  go_wp2
  go_ret
  exact ⟨rfl, q, HF.out⟩
set_option maxHeartbeats 4000000 in
theorem apply_3 (h : BkAt w p S K) (ho : S.Ok) (hK : K ≤ 10000000) (i : Nat) (hi : i < 4294967296) (hr : Rc.Ok ⟨3, (i : Int), 0, 0, 0⟩) (hm : Rc.May ⟨3, (i : Int), 0, 0, 0⟩) (hT : Rk.Tab w) : Calls Tryz.prog 24 #[.pointer (some ⟨p.b, 0, none⟩), Rk.rcV ⟨3, (i : Int), 0, 0, 0⟩] w fun e w' => e = .returned (.int .i64 (if (fnd S.L i).isSome then (0 : Int) else 171)) ∧ ∃ q, BkAt w' q { S with L := del S.L i } (K + 1) ∧ Bst w w' p q := by
  have b0 := Bx.start h.lt [.int .i64 3, .int .u32 (i : Int), .int .i64 0, .int .i64 0, .int .i64 0] 28
  have h0 := h.then (grown_alloc w (.cells [Value.int .i64 3, .int .u32 (i : Int), .int .i64 0, .int .i64 0, .int .i64 0].toArray 28))
  have HN := hide h0.isNone
  have HC := hide (Rk.check_any ⟨3, (i : Int), 0, 0, 0⟩ hr _ (hT.new (grown_alloc w (.cells [Value.int .i64 3, .int .u32 (i : Int), .int .i64 0, .int .i64 0, .int .i64 0].toArray 28))))
  rw [show Rk.chk ⟨3, (i : Int), 0, 0, 0⟩ = 0 from if_pos hm] at HC
  have HA : Hid (∀ W, BkAt W p S K → Calls Tryz.prog 66 #[.pointer (some ⟨p.b, 0, none⟩), .int .u32 (i : Int)] W fun e w' => e = .returned (.int .i64 (if (fnd S.L i).isSome then (0 : Int) else 171)) ∧ ∃ q, BkAt w' q { S with L := del S.L i } (K + 1) ∧ Bst W w' p q) := by
    intro W hW
    refine (cancel_any hW ho.wk hK i hi).mono ?_
    rintro e w' ⟨rfl, q, g1, g2⟩
    exact ⟨rfl, q, g1.mono (by omega), g2⟩
  have H0 := hide (And.intro h0 b0)
  clear h h0 b0 hr hm hT ho
  generalize { S with L := del S.L i } = S' at *
  generalize (if (fnd S.L i).isSome then (0 : Int) else 171) = res at *
  unfold Rk.rcV at *
  go_enter Tryz.func24, Tryz.ntmps24
  go_wp2_with fail
  refine HN.out.mono ?_
  rintro e w1 ⟨rfl, rfl⟩
  go_wp2_with fail
  refine HC.out.mono ?_
  rintro e w2 ⟨rfl, hg2⟩
  have hX := H0.out.2.then hg2
  have x0 := hX.cells 0 _ rfl
  have x1 := hX.cells 1 _ rfl
  have HA' := hide (HA.out w2 (H0.out.1.then hg2))
  have HX := hide hX.st
  clear hX hg2 H0 HN HC HA
  go_wp2_with fail
  refine HA'.out.mono ?_
  rintro e w3 ⟨rfl, q, g1, g2⟩
  have HF := hide (And.intro g1 (HX.out.trans g2))
  clear g1 g2 HX HA'
  go_wp2
  go_ret
  exact ⟨rfl, q, HF.out⟩
set_option maxHeartbeats 4000000 in
theorem apply_4 (h : BkAt w p S K) (ho : S.Ok) (_hK : K ≤ 10000000) (i s : Nat) (hi : i < 4294967296) (hr : Rc.Ok ⟨4, (i : Int), (s : Int), 0, 0⟩) (hm : Rc.May ⟨4, (i : Int), (s : Int), 0, 0⟩) (hT : Rk.Tab w) : Calls Tryz.prog 24 #[.pointer (some ⟨p.b, 0, none⟩), Rk.rcV ⟨4, (i : Int), (s : Int), 0, 0⟩] w fun e w' => e = .returned (.int .i64 (reseatE S i s)) ∧ ∃ q, BkAt w' q (if reseatE S i s = 0 then { S with L := (fnd S.L i).elim S.L fun x => upd S.L x.i { x with s := s } } else S) (K + 1) ∧ Bst w w' p q := by
  have b0 := Bx.start h.lt [.int .i64 4, .int .u32 (i : Int), .int .i64 (s : Int), .int .i64 0, .int .i64 0] 28
  have h0 := h.then (grown_alloc w (.cells [Value.int .i64 4, .int .u32 (i : Int), .int .i64 (s : Int), .int .i64 0, .int .i64 0].toArray 28))
  have HN := hide h0.isNone
  have HC := hide (Rk.check_any ⟨4, (i : Int), (s : Int), 0, 0⟩ hr _ (hT.new (grown_alloc w (.cells [Value.int .i64 4, .int .u32 (i : Int), .int .i64 (s : Int), .int .i64 0, .int .i64 0].toArray 28))))
  rw [show Rk.chk ⟨4, (i : Int), (s : Int), 0, 0⟩ = 0 from if_pos hm] at HC
  have HA : Hid (∀ W, BkAt W p S K → Calls Tryz.prog 67 #[.pointer (some ⟨p.b, 0, none⟩), .int .u32 (i : Int), .int .i64 (s : Int)] W fun e w' => e = .returned (.int .i64 (reseatE S i s)) ∧ ∃ q, BkAt w' q (if reseatE S i s = 0 then { S with L := (fnd S.L i).elim S.L fun x => upd S.L x.i { x with s := s } } else S) (K + 1) ∧ Bst W w' p q) := by
    intro W hW
    refine (reseat_any hW ho.wk i hi s).mono ?_
    rintro e w' ⟨rfl, g1, g2⟩
    exact ⟨rfl, p, g1.mono (by omega), Bst.keep g2⟩
  have H0 := hide (And.intro h0 b0)
  clear h h0 b0 hr hm hT ho
  generalize (if reseatE S i s = 0 then { S with L := (fnd S.L i).elim S.L fun x => upd S.L x.i { x with s := s } } else S) = S' at *
  generalize (reseatE S i s) = res at *
  unfold Rk.rcV at *
  go_enter Tryz.func24, Tryz.ntmps24
  go_wp2_with fail
  refine HN.out.mono ?_
  rintro e w1 ⟨rfl, rfl⟩
  go_wp2_with fail
  refine HC.out.mono ?_
  rintro e w2 ⟨rfl, hg2⟩
  have hX := H0.out.2.then hg2
  have x0 := hX.cells 0 _ rfl
  have x1 := hX.cells 1 _ rfl
  have x2 := hX.cells 2 _ rfl
  have HA' := hide (HA.out w2 (H0.out.1.then hg2))
  have HX := hide hX.st
  clear hX hg2 H0 HN HC HA
  go_wp2_with fail
  refine HA'.out.mono ?_
  rintro e w3 ⟨rfl, q, g1, g2⟩
  have HF := hide (And.intro g1 (HX.out.trans g2))
  clear g1 g2 HX HA'
  go_wp2
  go_ret
  exact ⟨rfl, q, HF.out⟩
set_option maxHeartbeats 4000000 in
theorem apply_5 (h : BkAt w p S K) (ho : S.Ok) (hK : K ≤ 10000000) (c : Int) (hc : c ≤ mxC) (hr : Rc.Ok ⟨5, 0, 0, 0, c⟩) (hm : Rc.May ⟨5, 0, 0, 0, c⟩) (hT : Rk.Tab w) : Calls Tryz.prog 24 #[.pointer (some ⟨p.b, 0, none⟩), Rk.rcV ⟨5, 0, 0, 0, c⟩] w fun e w' => e = .returned (.int .i64 (if c ≤ S.t then (173 : Int) else 0)) ∧ ∃ q, BkAt w' q (if c ≤ S.t then S else { S with L := tik S.L c, t := c }) (K + 1) ∧ Bst w w' p q := by
  have b0 := Bx.start h.lt [.int .i64 5, .int .u32 0, .int .i64 0, .int .i64 0, .int .i64 c] 28
  have h0 := h.then (grown_alloc w (.cells [Value.int .i64 5, .int .u32 0, .int .i64 0, .int .i64 0, .int .i64 c].toArray 28))
  have HN := hide h0.isNone
  have HC := hide (Rk.check_any ⟨5, 0, 0, 0, c⟩ hr _ (hT.new (grown_alloc w (.cells [Value.int .i64 5, .int .u32 0, .int .i64 0, .int .i64 0, .int .i64 c].toArray 28))))
  rw [show Rk.chk ⟨5, 0, 0, 0, c⟩ = 0 from if_pos hm] at HC
  have HA : Hid (∀ W, BkAt W p S K → Calls Tryz.prog 68 #[.pointer (some ⟨p.b, 0, none⟩), .int .i64 c] W fun e w' => e = .returned (.int .i64 (if c ≤ S.t then (173 : Int) else 0)) ∧ ∃ q, BkAt w' q (if c ≤ S.t then S else { S with L := tik S.L c, t := c }) (K + 1) ∧ Bst W w' p q) := by
    intro W hW
    refine (tick_any hW ho.wk hK c hc).mono ?_
    rintro e w' ⟨rfl, q, g1, g2⟩
    exact ⟨rfl, q, g1.mono (by omega), g2⟩
  have H0 := hide (And.intro h0 b0)
  clear h h0 b0 hr hm hT ho
  generalize (if c ≤ S.t then S else { S with L := tik S.L c, t := c }) = S' at *
  generalize (if c ≤ S.t then (173 : Int) else 0) = res at *
  unfold Rk.rcV at *
  go_enter Tryz.func24, Tryz.ntmps24
  go_wp2_with fail
  refine HN.out.mono ?_
  rintro e w1 ⟨rfl, rfl⟩
  go_wp2_with fail
  refine HC.out.mono ?_
  rintro e w2 ⟨rfl, hg2⟩
  have hX := H0.out.2.then hg2
  have x0 := hX.cells 0 _ rfl
  have x4 := hX.cells 4 _ rfl
  have HA' := hide (HA.out w2 (H0.out.1.then hg2))
  have HX := hide hX.st
  clear hX hg2 H0 HN HC HA
  go_wp2_with fail
  refine HA'.out.mono ?_
  rintro e w3 ⟨rfl, q, g1, g2⟩
  have HF := hide (And.intro g1 (HX.out.trans g2))
  clear g1 g2 HX HA'
  go_wp2
  go_ret
  exact ⟨rfl, q, HF.out⟩
/-- Any record. -/
theorem apply_any (h : BkAt w p S K) (ho : S.Ok) (hK : K ≤ 10000000) (r : Rc) (hr : r.Ok) (hT : Rk.Tab w) : Calls Tryz.prog 24 #[.pointer (some ⟨p.b, 0, none⟩), Rk.rcV r] w fun e w' => e = .returned (.int .i64 (appE S r)) ∧ ∃ q, BkAt w' q (app S r) (K + 1) ∧ Bst w w' p q := by
  obtain ⟨k, i, s, u, c⟩ := r
  by_cases hm : Rc.May ⟨k, i, s, u, c⟩
  · have hi1 := hr.i1
    have hi0 := hr.i0
    simp only at hi0 hi1
    obtain ⟨n, rfl⟩ : ∃ n : Nat, i = (n : Int) := ⟨i.toNat, by omega⟩
    have hk := may_kind hm
    simp only at hk
    have hE : ∀ {e : Int} {S' S'' : Sb}, appE S ⟨k, (n : Int), s, u, c⟩ = e → (e = 0 → appS S ⟨k, (n : Int), s, u, c⟩ = S') → (e ≠ 0 → S' = S) → app S ⟨k, (n : Int), s, u, c⟩ = S' := by
      intro e S' _ h1 h2 h3
      by_cases h4 : e = 0
      · rw [app_yes (by rw [h1, h4]), h2 h4]
      · rw [app_no (by rw [h1]; exact h4), h3 h4]
    rcases hk with rfl | rfl | rfl | rfl | rfl
    · have hv : 0 ≤ s ∧ c = 0 := by unfold Rc.May at hm; simp only at hm; omega
      obtain ⟨hs, rfl⟩ := hv
      obtain ⟨m, rfl⟩ : ∃ m : Nat, s = (m : Int) := ⟨s.toNat, by omega⟩
      have h1 : appE S ⟨1, (n : Int), (m : Int), u, 0⟩ = holdE S ⟨1, (n : Int), (m : Int), u, 0⟩ := by unfold appE; rw [if_neg (fun e => e hm)]; rfl
      rw [h1, hE (S'' := S) (S' := if holdE S ⟨1, (n : Int), (m : Int), u, 0⟩ = 0 then { S with L := S.L ++ [⟨n, m, u⟩], n := S.n + 1 } else S) h1 (fun e => by rw [if_pos e]; rfl) (fun e => if_neg e)]
      exact apply_1 h ho hK n m u (by omega) hr hm hT
    · have hv : s = 0 ∧ u = 0 ∧ c = 0 := by unfold Rc.May at hm; simp only at hm; omega
      obtain ⟨rfl, rfl, rfl⟩ := hv
      have h1 : appE S ⟨2, (n : Int), 0, 0, 0⟩ = if (fnd S.L n).isSome then 0 else 171 := by unfold appE; rw [if_neg (fun e => e hm)]; rfl
      rw [h1, hE (S'' := S) (S' := { S with L := (fnd S.L n).elim S.L fun x => upd S.L x.i { x with u := 0 } }) h1 (fun e => rfl) (fun e => by
        cases hf : fnd S.L n with
        | none => rfl
        | some x => rw [hf] at e; exact absurd rfl e)]
      exact apply_2 h ho hK n (by omega) hr hm hT
    · have hv : s = 0 ∧ u = 0 ∧ c = 0 := by unfold Rc.May at hm; simp only at hm; omega
      obtain ⟨rfl, rfl, rfl⟩ := hv
      have h1 : appE S ⟨3, (n : Int), 0, 0, 0⟩ = if (fnd S.L n).isSome then 0 else 171 := by unfold appE; rw [if_neg (fun e => e hm)]; rfl
      rw [h1, hE (S'' := S) (S' := { S with L := del S.L n }) h1 (fun e => rfl) (fun e => by
        cases hf : fnd S.L n with
        | none =>
          have : del S.L n = S.L := by
            unfold del
            rw [List.filter_eq_self]
            intro y hy
            simpa using fnd_none.1 hf y hy
          rw [this]
        | some x => rw [hf] at e; exact absurd rfl e)]
      exact apply_3 h ho hK n (by omega) hr hm hT
    · have hv : 0 ≤ s ∧ u = 0 ∧ c = 0 := by unfold Rc.May at hm; simp only at hm; omega
      obtain ⟨hs, rfl, rfl⟩ := hv
      obtain ⟨m, rfl⟩ : ∃ m : Nat, s = (m : Int) := ⟨s.toNat, by omega⟩
      have h1 : appE S ⟨4, (n : Int), (m : Int), 0, 0⟩ = reseatE S n m := by unfold appE; rw [if_neg (fun e => e hm)]; rfl
      rw [h1, hE (S'' := S) (S' := if reseatE S n m = 0 then { S with L := (fnd S.L n).elim S.L fun x => upd S.L x.i { x with s := m } } else S) h1 (fun e => by rw [if_pos e]; rfl) (fun e => if_neg e)]
      exact apply_4 h ho hK n m (by omega) hr hm hT
    · have hv : n = 0 ∧ s = 0 ∧ u = 0 ∧ c ≤ mxC := by unfold Rc.May at hm; simp only at hm; omega
      obtain ⟨rfl, rfl, rfl, hc⟩ := hv
      have h1 : appE S ⟨5, ((0 : Nat) : Int), 0, 0, c⟩ = if c ≤ S.t then 173 else 0 := by unfold appE; rw [if_neg (fun e => e hm)]; rfl
      rw [h1, hE (S'' := S) (S' := if c ≤ S.t then S else { S with L := tik S.L c, t := c }) h1 (fun e => by
        by_cases h5 : c ≤ S.t
        · rw [if_pos h5] at e; cases e
        · rw [if_neg h5]; rfl) (fun e => by
        by_cases h5 : c ≤ S.t
        · rw [if_pos h5]
        · rw [if_neg h5] at e; exact absurd rfl e)]
      exact apply_5 h ho hK c hc hr hm hT
  · have h1 : appE S ⟨k, i, s, u, c⟩ = 160 := by unfold appE; rw [if_pos hm]
    rw [h1, app_no (by rw [h1]; decide)]
    exact apply_0 h k i s u c hr hm hT
end
end Go.Proofs.YtjfhilignbeboaaGreatDoor
/- What goes through all items. -/
namespace Go.Proofs.YtjfhilignbeboaaGreatDoor.Ix
open Go.RowKit Go.Shelf
attribute [local go_sem] Oper.semAt_some
def en (E : List (Nat × Int)) (i : Nat) : Nat × Int := (E[i]?).getD (0, 0)
def encE (x : Nat × Int) : Array Value := #[.int .u32 (x.1 : Int), .int .i64 x.2]
/-- The row that is gone through. -/
structure ItE (W : World) (B : Nat) (so : Option Addr) (cap : Nat) (X : List (Nat × Int)) : Prop where
  box : W.heap[B]? = some (.cells [Value.slice so X.length cap].toArray 198 (0, 0))
  le : X.length ≤ cap
  row : ∀ i, i < X.length → ∃ g, so = some ⟨g, 0, none⟩ ∧ W.cell? ⟨g, i * 2, none⟩ = some (.int .u32 ((en X i).1 : Int)) ∧ W.cell? ⟨g, i * 2 + 1, none⟩ = some (.int .i64 (en X i).2)
theorem ItE.grown {W W' : World} {B : Nat} {so : Option Addr} {cap : Nat} {X : List (Nat × Int)} (h : ItE W B so cap X) (g : W.grownBy W' none) : ItE W' B so cap X :=
  ⟨(g.block _ (row_lt h.box) (by simp)).trans h.box, h.le, fun i hi => by obtain ⟨q, h1, h2, h3⟩ := h.row i hi; exact ⟨q, h1, g.cell h2 (by simp), g.cell h3 (by simp)⟩⟩
theorem take_en {X : List (Nat × Int)} {i : Nat} (h : i < X.length) : X.take i ++ [en X i] = X.take (i + 1) := by
  rw [List.take_add_one, List.getElem?_eq_getElem h]
  unfold en
  rw [List.getElem?_eq_getElem h]
  rfl
/-- How many rounds are left. -/
def leftE (n : Nat) (q : Value) : Nat := match q with | .int _ i => n - i.toNat | _ => 0
theorem leftE_nat (n i : Nat) : leftE n (.int .i64 (i : Int)) = n - i := by simp [leftE]
end Go.Proofs.YtjfhilignbeboaaGreatDoor.Ix
/- The library's sort (WholeK), laid at this program, in plain words: shelf_lay_g SlLaysF0.n6 Slsf 6 at Tryz 151 as Tryz.sortE, by lay-plain.mjs. -/
namespace Go.Proofs
open Go.Shelf
def Tryz.sortE_ren : Go.Shelf.Ren := ⟨fun | 6 => 151 | 15 => 169 | 14 => 168 | 28 => 187 | 29 => 188 | 20 => 179 | 21 => 180 | 22 => 181 | 23 => 182 | 24 => 183 | 25 => 184 | 26 => 185 | 27 => 186 | 46 => 195 | 47 => 196 | 48 => 197 | 49 => 198 | 50 => 199 | 57 => 200 | n => n, fun | 22 => 198 | 24 => 192 | 25 => 202 | 3 => 3 | 39 => 216 | 0 => 0 | 53 => 23 | 55 => 180 | 4 => 4 | 46 => 225 | 45 => 224 | 50 => 168 | 5 => 5 | 9 => 9 | 66 => 242 | 70 => 245 | 76 => 248 | 77 => 249 | n => n, fun | n => n⟩
theorem Tryz.sortE : Go.Proofs.SlLaysF0.n6 Tryz.prog Tryz.sortE_ren := {
  mixed := by kernel_rfl
  f6 := ⟨Tryz.f151.name, by decide, Tryz.func151.trans (congrArg some (by kernel_rfl))⟩
  f14 := ⟨Tryz.f168.name, by decide, Tryz.func168.trans (congrArg some (by kernel_rfl))⟩
  f15 := Tryz.func169.trans (congrArg some (by kernel_rfl))
  f20 := ⟨Tryz.f179.name, by decide, Tryz.func179.trans (congrArg some (by kernel_rfl))⟩
  f21 := ⟨Tryz.f180.name, by decide, Tryz.func180.trans (congrArg some (by kernel_rfl))⟩
  f22 := ⟨Tryz.f181.name, by decide, Tryz.func181.trans (congrArg some (by kernel_rfl))⟩
  f23 := ⟨Tryz.f182.name, by decide, Tryz.func182.trans (congrArg some (by kernel_rfl))⟩
  f24 := ⟨Tryz.f183.name, by decide, Tryz.func183.trans (congrArg some (by kernel_rfl))⟩
  f25 := ⟨Tryz.f184.name, by decide, Tryz.func184.trans (congrArg some (by kernel_rfl))⟩
  f26 := ⟨Tryz.f185.name, by decide, Tryz.func185.trans (congrArg some (by kernel_rfl))⟩
  f27 := ⟨Tryz.f186.name, by decide, Tryz.func186.trans (congrArg some (by kernel_rfl))⟩
  f28 := Tryz.func187.trans (congrArg some (by kernel_rfl))
  f29 := Tryz.func188.trans (congrArg some (by kernel_rfl))
  f46 := ⟨Tryz.f195.name, by decide, Tryz.func195.trans (congrArg some (by kernel_rfl))⟩
  f47 := Tryz.func196.trans (congrArg some (by kernel_rfl))
  f48 := Tryz.func197.trans (congrArg some (by kernel_rfl))
  f49 := ⟨Tryz.f198.name, by decide, Tryz.func198.trans (congrArg some (by kernel_rfl))⟩
  f50 := ⟨Tryz.f199.name, by decide, Tryz.func199.trans (congrArg some (by kernel_rfl))⟩
  f57 := ⟨Tryz.f200.name, by decide, Tryz.func200.trans (congrArg some (by kernel_rfl))⟩
  t0 := Tryz.underlying0
  a0 := Tryz.isAgg0
  z0 := Tryz.sizeOf0
  v0 := Tryz.zeroValue0
  t3 := Tryz.underlying3
  a3 := Tryz.isAgg3
  z3 := Tryz.sizeOf3
  v3 := Tryz.zeroValue3
  t4 := Tryz.underlying4
  a4 := Tryz.isAgg4
  z4 := Tryz.sizeOf4
  v4 := Tryz.zeroValue4
  t5 := Tryz.underlying5
  a5 := Tryz.isAgg5
  z5 := Tryz.sizeOf5
  v5 := Tryz.zeroValue5
  t9 := Tryz.underlying9
  a9 := Tryz.isAgg9
  z9 := Tryz.sizeOf9
  v9 := Tryz.zeroValue9
  t22 := Tryz.underlying198
  a22 := Tryz.isAgg198
  z22 := Tryz.sizeOf198
  v22 := Tryz.zeroValue198
  t25 := Tryz.underlying202
  a25 := Tryz.isAgg202
  z25 := Tryz.sizeOf202
  v25 := Tryz.zeroValue202
  t39 := Tryz.underlying216
  a39 := Tryz.isAgg216
  z39 := Tryz.sizeOf216
  v39 := Tryz.zeroValue216
  t45 := Tryz.underlying224
  a45 := Tryz.isAgg224
  z45 := Tryz.sizeOf224
  v45 := Tryz.zeroValue224
  t46 := Tryz.underlying225
  a46 := Tryz.isAgg225
  z46 := Tryz.sizeOf225
  v46 := Tryz.zeroValue225
  t50 := Tryz.underlying168
  a50 := Tryz.isAgg168
  z50 := Tryz.sizeOf168
  v50 := Tryz.zeroValue168
  t53 := Tryz.underlying23
  a53 := Tryz.isAgg23
  z53 := Tryz.sizeOf23
  v53 := Tryz.zeroValue23
  t55 := Tryz.underlying180
  a55 := Tryz.isAgg180
  z55 := Tryz.sizeOf180
  v55 := Tryz.zeroValue180
  t66 := Tryz.underlying242
  a66 := Tryz.isAgg242
  z66 := Tryz.sizeOf242
  v66 := Tryz.zeroValue242
  t70 := Tryz.underlying245
  a70 := Tryz.isAgg245
  z70 := Tryz.sizeOf245
  v70 := Tryz.zeroValue245
  t76 := Tryz.underlying248
  a76 := Tryz.isAgg248
  z76 := Tryz.sizeOf248
  v76 := Tryz.zeroValue248
  t77 := Tryz.underlying249
  a77 := Tryz.isAgg249
  z77 := Tryz.sizeOf249
  v77 := Tryz.zeroValue249 }
end Go.Proofs
/- Items, sorted by their ids. -/
namespace Go.Proofs.YtjfhilignbeboaaGreatDoor.Ix
open Go.RowKit Go.Shelf
attribute [local go_sem ↓] Go.wp_at_zero Go.wp_at_succ
theorem nan_any (x : Int) (w : World) : Calls Tryz.prog 170 #[.int .u32 x] w fun e w' => e = .returned (.bool false) ∧ w' = w := by
  go_enter Tryz.func170, Tryz.ntmps170
  go_wp2
  go_ret
  exact ⟨by simp, rfl⟩
/-- Before, same, behind. -/
def cmpI (a b : Int) : Int := if a < b then -1 else if b < a then 1 else 0
set_option maxRecDepth 20000 in
theorem cmp_any (a b : Int) (w : World) : Calls Tryz.prog 153 #[.int .u32 a, .int .u32 b] w fun e w' => e = .returned (.int .i64 (cmpI a b)) ∧ w' = w := by
  have hn := fun x => nan_any x w
  by_cases h1 : a < b
  · have e1 : cmpI a b = -1 := if_pos h1
    rw [e1]
    clear e1
    go_enter Tryz.func153, Tryz.ntmps153
    go_wp2_with (go_at_call 170; refine (hn _).mono ?_; rintro e w1 ⟨rfl, hw1⟩; obtain rfl := hw1.symm)
    go_ret
    exact ⟨rfl, rfl⟩
  · by_cases h2 : b < a
    · have e1 : cmpI a b = 1 := by rw [cmpI, if_neg h1, if_pos h2]
      rw [e1]
      clear e1
      go_enter Tryz.func153, Tryz.ntmps153
      go_wp2_with (go_at_call 170; refine (hn _).mono ?_; rintro e w1 ⟨rfl, hw1⟩; obtain rfl := hw1.symm)
      go_ret
      exact ⟨rfl, rfl⟩
    · have e1 : cmpI a b = 0 := by rw [cmpI, if_neg h1, if_neg h2]
      rw [e1]
      clear e1
      go_enter Tryz.func153, Tryz.ntmps153
      go_wp2_with (go_at_call 170; refine (hn _).mono ?_; rintro e w1 ⟨rfl, hw1⟩; obtain rfl := hw1.symm)
      go_ret
      exact ⟨rfl, rfl⟩
set_option maxRecDepth 20000 in
theorem cmpE_any (x y : Nat × Int) (w : World) : Calls Tryz.prog 152 #[.agg #[.int .u32 (x.1 : Int), .int .i64 x.2], .agg #[.int .u32 (y.1 : Int), .int .i64 y.2]] w fun e w' => e = .returned (.int .i64 (cmpI (x.1 : Int) (y.1 : Int))) ∧ ∃ q os, w' = Go.Sort.grow (w.drewN q) os := by
  have hcon := fun W => cmp_any (x.1 : Int) (y.1 : Int) W
  generalize cmpI (x.1 : Int) (y.1 : Int) = r at hcon ⊢
  go_enter Tryz.func152, Tryz.ntmps152
  go_wp2_with (go_at_call 153; refine (hcon _).mono ?_; rintro e w1 ⟨rfl, hw1⟩; obtain rfl := hw1.symm)
  go_ret
  exact ⟨rfl, 0, _, by rw [Go.Sort.alloc_eq_grow, Go.Sort.alloc_eq_grow, Go.Sort.grow_grow]; rfl⟩
def encL (x : Nat × Int) : List Value := [.int .u32 (x.1 : Int), .int .i64 x.2]
def cfE (x y : Nat × Int) : Int := cmpI (x.1 : Int) (y.1 : Int)
theorem ltE (x y : Nat × Int) : ltOf cfE x y = decide (x.1 < y.1) := by
  unfold ltOf cfE cmpI
  by_cases h1 : x.1 < y.1
  · simp [h1]
  · by_cases h2 : y.1 < x.1 <;> simp [h1, h2]
theorem swoE : Go.Sort.SWO (ltOf cfE) where
  irrefl x := by rw [ltE]; simp
  trans x y z h1 h2 := by rw [ltE] at *; simp at *; omega
  ntrans x y z h1 h2 := by rw [ltE] at *; simp at *; omega
theorem grown_sortW {w : World} {g m : Nat} {os : Array Obj} (d : Array (Nat × Int)) : w.grownBy (sortWorldK encL 2 w g 0 m d os) (some g) := by
  refine ⟨rfl, rfl, rfl, by simp [sortWorldK, Go.Sort.putRowK, Go.Sort.grow, Go.Sort.putRow, Go.Sort.mapBlock, Go.Sort.ahead], fun k hk hne => ?_⟩
  have : g ≠ k := fun e => hne (by rw [e])
  unfold sortWorldK
  rw [Go.Sort.heap_grow_old _ _ (by simpa [Go.Sort.putRowK, Go.Sort.putRow, Go.Sort.mapBlock, Go.Sort.ahead] using hk)]
  simp [Go.Sort.putRowK, Go.Sort.putRow, Go.Sort.mapBlock, Go.Sort.ahead, Array.getElem?_modify, this]
theorem sortE_any (blk cap : Nat) (d : Array (Nat × Int)) (w : World) (hH : Go.Sort.HoldsK encL 2 w blk 0 d) (hblk : blk < w.heap.size) (hsz : d.size ≤ 65536) :
    Calls Tryz.prog 151 #[.slice (some ⟨blk, 0, none⟩) d.size cap, .func (.func 152) #[] #[]] w fun e w' => e = .returned (.tuple #[]) ∧ ∃ d', Go.Sort.PermIn 0 d.size d d' ∧ Go.Sort.SortedIn (ltOf cfE) 0 d.size d' ∧ Go.Sort.HoldsK encL 2 w' blk 0 d' ∧ w.grownBy w' (some blk) := by
  have eg : ∀ args w, (callFunc 152 args).run Tryz.prog w = .ok (.enter 152 args) w := enters_of Tryz.func152 (by kernel_rfl) rfl
  have hcon := AnyQ.slices_SortFunc Tryz.sortE 2 Tryz.isAgg192 Tryz.sizeOf192 encL (fun _ => rfl) (fun x v hv => by simp [encL] at hv; rcases hv with rfl | rfl <;> rfl) cfE swoE 152 #[] blk 0 cap d w eg (fun _ _ _ _ x y => cmpE_any x y _) hH hblk (by omega)
  refine hcon.mono ?_
  rintro e w' ⟨rfl, d', n, os, hp, hs, rfl⟩
  exact ⟨rfl, d', hp, hs, holdsK_sortWorldK_c encL 2 w blk 0 d d' n os hH hblk hp.1, grown_sortW d'⟩
/-- Items as they lie in cells. -/
def icells (E : List (Nat × Int)) : List Value := E.flatMap fun e => [.int .u32 (e.1 : Int), .int .i64 e.2]
theorem icells_snoc (E : List (Nat × Int)) (x : Nat × Int) : icells (E ++ [x]) = icells E ++ [.int .u32 (x.1 : Int), .int .i64 x.2] := by simp [icells]
theorem icells_get {E : List (Nat × Int)} {i : Nat} (h : i < E.length) : (icells E)[i * 2]? = some (.int .u32 ((en E i).1 : Int)) ∧ (icells E)[i * 2 + 1]? = some (.int .i64 (en E i).2) := by
  induction E generalizing i with
  | nil => simp at h
  | cons y r ih =>
    cases i with
    | zero => simp [icells, en]
    | succ i =>
      have := ih (i := i) (by simpa using h)
      have e : icells (y :: r) = .int .u32 (y.1 : Int) :: .int .i64 y.2 :: icells r := by simp [icells]
      have e2 : en (y :: r) (i + 1) = en r i := by simp [en]
      rw [e, e2, show (i + 1) * 2 = i * 2 + 2 by omega, show i * 2 + 2 + 1 = (i * 2 + 1) + 2 by omega]
      simpa using this
/-- The clone's row, as the sort wants it. -/
theorem holds_row {w : World} {g : Nat} {cur : List Value} {E : List (Nat × Int)} (hg : w.heap[g]? = some (.cells cur.toArray 192 (0, 0))) (ht : cur.take (E.length * 2) = icells E) : Go.Sort.HoldsK encL 2 w g 0 E.toArray := by
  intro j hj
  rw [Go.Sort.size_flatK] at hj
  refine ⟨?_, free_row hg _⟩
  rw [Go.Sort.get_flatK _ _ _ _ hj, Nat.zero_add]
  have hj' : j < E.length * 2 := by simpa using hj
  have hi : j / 2 < E.length := by omega
  have he : E.toArray[j / 2]! = en E (j / 2) := by simp [en, hi]
  rw [he]
  obtain ⟨h1, h2⟩ := icells_get hi
  rcases Nat.mod_two_eq_zero_or_one j with hm | hm
  · have hjj : j / 2 * 2 = j := by omega
    rw [hjj] at h1
    rw [hm, own_cell hg ht h1]
    rfl
  · have hjj : j / 2 * 2 + 1 = j := by omega
    rw [hjj] at h2
    rw [hm, own_cell hg ht h2]
    rfl
theorem perm_whole {d d' : Array (Nat × Int)} (h : Go.Sort.PermIn 0 d.size d d') : d'.toList.Perm d.toList := by
  have h2 := h.2.2
  have e1 : d'.extract 0 d.size = d' := by rw [← h.1]; simp
  have e2 : d.extract 0 d.size = d := by simp
  rw [e1, e2] at h2
  exact h2
/-- What the sort leaves of rows with distinct handles: the one order by rising handles. -/
theorem sorted_is {E X : List (Nat × Int)} {d' : Array (Nat × Int)} (hp : Go.Sort.PermIn 0 E.toArray.size E.toArray d') (hs : Go.Sort.SortedIn (ltOf cfE) 0 E.toArray.size d') (hX : X.Perm E) (hA : Asc X) : d' = X.toArray := by
  have hperm : d'.toList.Perm X := (perm_whole hp).trans hX.symm
  have hnd : (X.map (·.1)).Nodup := by
    have := hA
    unfold Asc at this
    exact List.pairwise_map.2 (this.imp (fun h => by omega))
  have hnd' : (d'.toList.map (·.1)).Nodup := (hperm.map _).nodup_iff.2 hnd
  have hasc : Asc d'.toList := by
    unfold Asc
    rw [List.pairwise_iff_getElem]
    intro i j hi hj hij
    have hsz : d'.size = E.toArray.size := hp.1
    have h1 := hs i j (Nat.zero_le _) hij (by rw [← hsz]; simpa using hj)
    rw [ltE] at h1
    rw [getElem!_pos d' j (by simpa using hj), getElem!_pos d' i (by simpa using hi)] at h1
    have h2 : d'.toList[i].1 ≠ d'.toList[j].1 := by
      have := List.pairwise_iff_getElem.1 hnd' i j (by simpa using hi) (by simpa using hj) hij
      simpa using this
    simp at h1 h2 ⊢
    omega
  have := asc_unique hasc hA hperm
  rw [← this]
/-- The sort of items. -/
theorem sort_row {w : World} {B0 : Nat} {so : Option Addr} {cap : Nat} {E X : List (Nat × Int)} (hr : w.ownsRow B0 192 2 (.slice so E.length cap) E.length (icells E)) (hE : E.length ≤ 65536) (hX : X.Perm E) (hA : Asc X) :
    Calls Tryz.prog 151 #[.slice so E.length cap, .func (.func 152) #[] #[]] w fun e w' => e = .returned (.tuple #[]) ∧ w.grownBy w' (Value.slice so E.length cap).ownBlock ∧ (∀ i, i < X.length → ∃ g, so = some ⟨g, 0, none⟩ ∧ w'.cell? ⟨g, i * 2, none⟩ = some (.int .u32 ((en X i).1 : Int)) ∧ w'.cell? ⟨g, i * 2 + 1, none⟩ = some (.int .i64 (en X i).2)) := by
  have hXl : X.length = E.length := hX.length_eq
  by_cases hz : 0 < E.length
  · obtain ⟨g, c2, cur, hv, hb, hg, hn, -, -, ht⟩ := own_row hr hz
    cases hv
    have hh := holds_row hg ht
    have hc := sortE_any g cap E.toArray w hh (row_lt hg) (by simpa using hE)
    rw [show E.toArray.size = E.length by simp] at hc
    refine hc.mono ?_
    rintro e w' ⟨rfl, d', hp, hs, hh', hgr⟩
    have he := sorted_is (d' := d') (by simpa using hp) (by simpa using hs) hX hA
    subst he
    refine ⟨rfl, hgr, fun i hi => ⟨g, rfl, ?_, ?_⟩⟩
    · have := (hh'.cell (i := i) (c := 0) (by simpa using hi) (by omega)).1
      simpa [encL, en, hi] using this
    · have := (hh'.cell (i := i) (c := 1) (by simpa using hi) (by omega)).1
      simpa [encL, en, hi] using this
  · have h0 : E.length = 0 := by omega
    rw [h0]
    refine (AnyF.slices_SortFunc_none Tryz.sortE so cap (.func (.func 152) #[] #[]) w).mono ?_
    rintro e w' ⟨rfl, rfl⟩
    exact ⟨rfl, grown_refl _ _, fun i hi => by omega⟩
end Go.Proofs.YtjfhilignbeboaaGreatDoor.Ix
/- All of an index. -/
namespace Go.Proofs.YtjfhilignbeboaaGreatDoor.Ix
open Go.RowKit Go.Shelf
attribute [local go_sem ↓] Go.wp_at_zero Go.wp_at_succ
theorem Tryz.info192 : (Tryz.prog.info? 192).map (fun i => (i.zero, i.size, i.bytes)) = some (some (.agg #[.int .u32 0, .int .i64 0]), 2, 16) := by kernel_rfl
def its (S : List (Option (Nat × Int))) : List (Nat × Int) := S.filterMap id
theorem its_take {S : List (Option (Nat × Int))} {i : Nat} (h : i < S.length) : its (S.take (i + 1)) = its (S.take i) ++ (sl S i).toList := by
  unfold its sl
  rw [List.take_add_one, List.filterMap_append, List.getElem?_eq_getElem h]
  simp
  cases S[i] <;> simp
theorem its_len (S : List (Option (Nat × Int))) : (its S).length ≤ S.length := List.length_filterMap_le _ _
theorem two_cells (W : World) (a b : Value) (t : TypeId) : ∀ j u, [a, b][j]? = some u → (W.alloc (.cells #[a, b] t)).cell? ((⟨W.heap.size, 0, none⟩ : Addr).add j) = some u := by
  intro j u hu
  rw [Addr.add_lit, Nat.zero_add, cell_row (heap_alloc_new W (.cells [a, b].toArray t))]
  exact hu
set_option maxRecDepth 20000 in
set_option maxHeartbeats 2000000 in
theorem items_at {w : World} {x g n m c st : Nat} {S : List (Option (Nat × Int))} (h : IxR w x g n m c st S) : Calls Tryz.prog 150 #[.pointer (some ⟨x, 0, none⟩)] w fun e w' => ∃ so cap, e = .returned (.slice so (its S).length cap) ∧ w'.ownsRow w.heap.size 192 2 (.slice so (its S).length cap) (its S).length (icells (its S)) ∧ w.grownBy w' none := by
  obtain ⟨i0, hi0, hz0, hz1, hz2⟩ := info_parts Tryz.info192
  have HI0 := hide (And.intro hi0 (And.intro hz0 (And.intro hz1 hz2)))
  have hno := none_at h
  obtain ⟨-, -, -, -, c4⟩ := h.cells
  have hn8 := h.most
  have HH := hide h
  clear h hi0 hz0 hz1 hz2
  go_enter Tryz.func150, Tryz.ntmps150
  go_wp2_with fail
  refine hno.mono ?_
  clear hno
  rintro e w1 ⟨rfl, hw1⟩
  obtain rfl := hw1.symm
  go_wp2
  go_loopg [3, 13] n (fun q v3 v13 wr => ∃ i : Nat, v13 = .int .i64 (i : Int) ∧ Hid (q = n - i ∧ i ≤ n ∧ w.grownBy wr none ∧ wr.ownsRow w.heap.size 192 2 v3 (its (S.take i)).length (icells (its (S.take i)))))
  case atStart => exact ⟨0, rfl, rfl, Nat.zero_le _, grown_refl _ _, World.ownsRow_nil _ _ _ _⟩
  case round =>
    obtain ⟨i, rfl, HR⟩ := hrel
    by_cases hlt : i < n
    · have hI := HH.out.then HR.out.2.2.1
      obtain ⟨d0, d1, d2⟩ := hI.slot hlt
      have hlS : i < S.length := by rw [hI.len]; exact hlt
      have htk := its_take hlS
      have hle := its_len (S.take i)
      have hlt' : ((i : Int) < (n : Int)) = True := by simp; omega
      have hwr : IntKind.i64.wrap ((i : Int) + 1) = ((i : Int) + 1) := by rw [IntKind.wrap_i64]; omega
      have hle2 : (its (S.take i)).length ≤ 8192 := by have := List.length_take_le i S; omega
      cases hy : sl S i with
      | none =>
        rw [hy] at d0 d1 d2 htk
        simp only [Option.isSome] at d0
        have HT := hide htk
        clear htk hI hlS hle
        generalize idN none = z1 at *
        generalize vlN none = z2 at *
        go_wp2
        go_roundg (gk - 1)
        case rel => exact ⟨i + 1, by simp, by have := HR.out.1; omega, by omega, grown_trans HR.out.2.2.1 (World.grownBy_alloc wr _ none), by rw [HT.out]; simp only [Option.toList, List.append_nil]; exact HR.out.2.2.2.alloc _⟩
        case measure => have := HR.out.1; omega
      | some y =>
        rw [hy] at d0 d1 d2 htk
        simp only [Option.isSome] at d0
        rw [show idN (some y) = y.1 from rfl] at d1
        rw [show vlN (some y) = y.2 from rfl] at d2
        have HT := hide htk
        clear htk hI hlS
        obtain ⟨y1, hy1⟩ : ∃ y1, y1 = y.1 := ⟨_, rfl⟩
        obtain ⟨y2, hy2⟩ : ∃ y2, y2 = y.2 := ⟨_, rfl⟩
        rw [← hy1] at d1
        rw [← hy2] at d2
        have HY := hide (And.intro hy1 hy2)
        clear hy1 hy2 hle
        have hA := World.grownBy_alloc wr (.cells #[.bool true, .int .u32 (y1 : Int), .int .i64 y2] 194) none
        have hB := World.grownBy_alloc (wr.alloc (.cells #[.bool true, .int .u32 (y1 : Int), .int .i64 y2] 194)) (.cells #[.int .u32 (y1 : Int), .int .i64 y2] 192) none
        have hgB := hide (grown_trans HR.out.2.2.1 (grown_trans hA hB))
        clear hA hB
        have hcs := two_cells (wr.alloc (.cells #[.bool true, .int .u32 (y1 : Int), .int .i64 y2] 194)) (.int .u32 (y1 : Int)) (.int .i64 y2) 192
        have HCS := hide hcs
        clear hcs
        go_wp2_with (at_builtin; refine wpList_append_own _ rfl (.tmp 19) (.tmp 22) 198 rfl w.heap.size 192 i0 (.agg #[.int .u32 0, .int .i64 0]) 2 16 Tryz.underlying198 HI0.out.1 HI0.out.2.1 HI0.out.2.2.1 HI0.out.2.2.2 rfl (by decide) u3 (its (S.take i)).length (icells (its (S.take i))) rfl ((HR.out.2.2.2.alloc _).alloc _) ⟨wr.heap.size + 1, 0, none⟩ 1 1 [.int .u32 (y1 : Int), .int .i64 y2] rfl rfl (by have := HCS.out; rw [World.size_alloc] at this; exact this) (by simp [Value.oneCell']) (by unfold maxLen; omega) (by omega) hgB.out.size ?_)
        intro v' w' ho hg hv
        clear hv
        have H := hide (And.intro ho (grown_then hgB.out hg (fun j e => Or.inl (HR.out.2.2.2.lt j e).1)))
        clear ho hg
        go_wp2
        go_roundg (gk - 1)
        case rel => exact ⟨i + 1, by simp, by have := HR.out.1; omega, by omega, H.out.2, by rw [HT.out]; simp only [Option.toList, List.length_append, List.length_cons, List.length_nil]; rw [icells_snoc, ← HY.out.1, ← HY.out.2]; exact H.out.1⟩
        case measure => have := HR.out.1; omega
    · have hlt' : ((i : Int) < (n : Int)) = False := by simp; omega
      obtain rfl : i = n := by have := HR.out.2.1; omega
      have hr := HR.out.2.2.2
      rw [show S.take i = S by rw [← HH.out.len]; exact List.take_length] at hr
      obtain ⟨so, cap, rfl, -⟩ := own_form hr
      have H := hide hr
      clear hr
      go_wp2
      go_ret
      exact ⟨so, cap, rfl, H.out, HR.out.2.2.1⟩
end Go.Proofs.YtjfhilignbeboaaGreatDoor.Ix
/- All of an index: the iterator's value. -/
namespace Go.Proofs.YtjfhilignbeboaaGreatDoor.Ix
open Go.RowKit Go.Shelf
attribute [local go_sem ↓] Go.wp_at_zero Go.wp_at_succ
/-- What goes through the items M, its blocks from B0 on. -/
def AllV (w : World) (B0 : Nat) (v : Value) (M : List (Nat × Int)) : Prop := ∃ B so cap, v = .func (.func 154) #[] #[.pointer (some ⟨B, 0, none⟩)] ∧ ItE w B so cap M ∧ B0 ≤ B ∧ (∀ a, so = some a → B0 ≤ a.block)
theorem all_of {w : World} {arg : Value} {E X : List (Nat × Int)} (hit : Calls Tryz.prog 150 #[arg] w fun e w' => ∃ so cap, e = .returned (.slice so E.length cap) ∧ w'.ownsRow w.heap.size 192 2 (.slice so E.length cap) E.length (icells E) ∧ w.grownBy w' none) (hE : E.length ≤ 65536) (hX : X.Perm E) (hA : Asc X) :
    Calls Tryz.prog 108 #[arg] w fun e w' => ∃ v, e = .returned v ∧ AllV w' w.heap.size v X ∧ w.grownBy w' none := by
  have hXl : X.length = E.length := hX.length_eq
  have hmf : ∀ (fn : Fn) (first cap : Array Value) (w : World), (Instr.makeFunc fn first cap).run Tryz.prog w = .ok (.func fn first cap) w := fun _ _ _ _ => rfl
  have HE := hide (And.intro hE (And.intro hX (And.intro hA hXl)))
  clear hE hX hA hXl
  go_enter Tryz.func108, Tryz.ntmps108
  go_wp2_with fail
  refine hit.mono ?_
  clear hit
  rintro e w1 ⟨so, cap, rfl, hr1, g1⟩
  obtain ⟨w2, hw2⟩ : ∃ w2, w2 = w1.alloc (.cells #[.slice so E.length cap] 198) := ⟨_, rfl⟩
  have g2 : w1.grownBy w2 none := by rw [hw2]; exact World.grownBy_alloc w1 _ none
  have hB2 : w2.heap[w1.heap.size]? = some (.cells [Value.slice so E.length cap].toArray 198 (0, 0)) := by rw [hw2]; exact heap_alloc_new w1 _
  have hr2 : w2.ownsRow w.heap.size 192 2 (.slice so E.length cap) E.length (icells E) := by rw [hw2]; exact hr1.alloc _
  have hso := sort_row hr2 HE.out.1 HE.out.2.1 HE.out.2.2.1
  rw [hw2] at hso
  have H2 := hide (And.intro hw2 (And.intro g2 (And.intro hB2 (And.intro hr2 (And.intro hr1 g1)))))
  clear hw2 g2 hB2 hr2 hr1 g1
  go_wp2_with fail
  refine hso.mono ?_
  clear hso
  rintro e w4 ⟨rfl, g4, hc4⟩
  rw [← H2.out.1] at g4
  have H4 := hide (And.intro g4 hc4)
  clear g4 hc4
  go_wp2
  go_ret
  have hsz := H2.out.2.2.2.2.2.size
  have hblk : ∀ g, (Value.slice so E.length cap).ownBlock = some g → w.heap.size ≤ g ∧ g ≠ w1.heap.size := fun g hg => by
    obtain ⟨h1, cur, hc⟩ := own_block H2.out.2.2.2.2.1 hg
    exact ⟨h1, fun e => by have := row_lt hc; omega⟩
  refine ⟨_, rfl, ⟨w1.heap.size, so, cap, rfl, ⟨?_, ?_, H4.out.2⟩, hsz, fun a ha => (hblk a.block (by rw [ha]; rfl)).1⟩, ?_⟩
  · rw [HE.out.2.2.2]
    exact (H4.out.1.block _ (row_lt H2.out.2.2.1) (fun e => (hblk _ e.symm).2 rfl)).trans H2.out.2.2.1
  · obtain ⟨vo, c2, hv, hle⟩ := own_form H2.out.2.2.2.1
    cases hv
    rw [HE.out.2.2.2]
    exact hle
  · exact grown_then (grown_trans H2.out.2.2.2.2.2 H2.out.2.1) H4.out.1 (fun j e => Or.inl (hblk j e).1)
theorem all_io {w : World} {p : Ip} {M : List (Nat × Int)} {lo : Bool} (h : Io w p M lo) :
    Calls Tryz.prog 108 #[.pointer (some ⟨p.x, 0, none⟩)] w fun e w' => ∃ v, e = .returned v ∧ AllV w' w.heap.size v M ∧ w.grownBy w' none := by
  obtain ⟨st, S, h1, _⟩ := h
  have hp := h1.inv.perm
  have hl := hp.length_eq
  exact all_of (items_at h1.at_) (by have := h1.full; have := h1.m2; unfold its; omega) hp.symm h1.inv.asc
/-- No index: none, or one that New did not answer. -/
def NoIx (w : World) (v : Value) : Prop := v = .pointer none ∨ ∃ x, v = .pointer (some ⟨x, 0, none⟩) ∧ w.cell? ⟨x, 0, none⟩ = some (.pointer none)
theorem NoIx.then {w w' : World} {v : Value} (h : NoIx w v) (g : w.grownBy w' none) : NoIx w' v := by
  rcases h with h | ⟨x, h1, h2⟩
  · exact .inl h
  · exact .inr ⟨x, h1, g.cell h2 (by simp)⟩
end Go.Proofs.YtjfhilignbeboaaGreatDoor.Ix
