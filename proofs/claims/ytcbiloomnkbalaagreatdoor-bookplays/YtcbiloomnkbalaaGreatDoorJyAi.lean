/- Texts joined: BkB, BkC, BkD, BkE, BkF, IxIg, IxSh. -/
import Derived.Test.YtcbiloomnkbalaaGreatDoorJyAh
import Derived.Test.YtcbiloomnkbalaaGreatDoorJyAc
import Derived.Deep.CutRange
import Derived.Deep.DeepCutAuto
import Derived.RangeFuncNested
import Derived.RangeFuncBound
import Derived.RangeFuncCalls
import Derived.RangeFuncLeaves
import Derived.RangeFuncBox
import Derived.Shelf.Abstract
import Derived.Shelf.RegionOpen
import Derived.OwnWalkIn
import Derived.TacticsInMore
import Derived.LoopNIn
import Derived.LoopIn
import Derived.Shelf.SlSortCmp.WholeK
import Derived.Ground.SlsfProg
import Derived.Shelf.SlSortCmp.NoneTotal
import Derived.Sort.OwnSorted
/- Confirm, another seat. -/
namespace Go.Proofs.YtcbiloomnkbalaaGreatDoor
open Go.RowKit
attribute [local go_sem ↓] Go.wp_at_zero Go.wp_at_succ
theorem bgs_setU {R : List Bg} {s : Nat} {x : Bg} (h : R[s]? = some x) (u : Int) : (bgs R).set (s * 3 + 2) (.int .i64 u) = bgs (R.set s { x with u := u }) := by
  have hs : s < R.length := (List.getElem?_eq_some_iff.1 h).1
  have hr : rd R s = x := by unfold rd; rw [h]; rfl
  obtain ⟨h1, h2, h3⟩ := bgs_get hs
  rw [hr] at h1 h2
  rw [bgs_set]
  simp only
  rw [Ix.set_same h1, Ix.set_same h2]
theorem fnd_upd {L : List Bg} (hA : AscB L) {x y : Bg} (hx : x ∈ L) (hy : y.i = x.i) (k : Nat) : fnd (upd L x.i y) k = if k = x.i then some y else fnd L k := by
  have hA' := upd_asc hA hy
  split
  · rename_i e
    rw [fnd_some hA']
    exact ⟨upd_mem.2 (.inl ⟨rfl, x, hx, rfl⟩), by rw [e]; exact hy⟩
  · rename_i e
    cases hf : fnd L k with
    | none =>
      rw [fnd_none] at hf ⊢
      intro z hz
      rcases upd_mem.1 hz with ⟨rfl, -⟩ | ⟨hz, -⟩
      · rw [hy]; exact fun e2 => e e2.symm
      · exact hf z hz
    | some z =>
      obtain ⟨h1, h2⟩ := (fnd_some hA).1 hf
      rw [fnd_some hA']
      exact ⟨upd_mem.2 (.inr ⟨h1, by rw [h2]; exact e⟩), h2⟩
section
variable {w w' : World} {p q : Bp} {S : Sb} {Lb Lb' : List Bool} {R : List Bg} {M E : List (Nat × Int)} {T : List Nat} {N B C K : Nat} {f : Int → Option Nat}
/-- A seat's until is written. -/
theorem BkR.confd (h : BkR w p S Lb R M E T N B C f) {x : Bg} (hx : R[x.s]? = some x) (ht : ∀ e ∈ E, Ix.lk M e.2.toNat ≠ some (x.s : Int)) : BkR (w.setCell ⟨p.sg, x.s * 3 + 2, none⟩ (.int .i64 0)) p S Lb (R.set x.s { x with u := 0 }) M E T N B C f ∧ Kept w (w.setCell ⟨p.sg, x.s * 3 + 2, none⟩ (.int .i64 0)) p.own := by
  obtain ⟨lo, h1⟩ := h.ix
  refine h.seated (grown_setCell w _ _ _) ?_ (by simp) (fun e he => tl_set (ht e he) (fun y hy => (h.mi y hy).1) h1.asc)
  rw [← bgs_setU hx]
  exact row_setCell h.row _ _
set_option maxHeartbeats 4000000 in
theorem confirm_any (h : BkAt w p S K) (hw : S.Wk) (hK : K ≤ 10000000) (k : Nat) (hk : k < 4294967296) :
    Calls Tryz.prog 60 #[.pointer (some ⟨p.b, 0, none⟩), .int .u32 (k : Int)] w fun e w' => e = .returned (.int .i64 (if (fnd S.L k).isSome then 0 else 171)) ∧ ∃ q, BkAt w' q { S with L := (fnd S.L k).elim S.L fun x => upd S.L x.i { x with u := 0 } } K ∧ Bst w w' p q := by
  have HC1 := hide (h.find hw k hk)
  cases hf : fnd S.L k with
  | none =>
    rw [hf] at HC1
    simp only [Option.isSome, Option.getD, Option.elim, Bool.false_eq_true, if_false] at HC1 ⊢
    clear h hf
    unfold bgV at HC1
    simp only at HC1
    go_enter Tryz.func60, Tryz.ntmps60
    go_wp2_with fail
    refine HC1.out.mono ?_
    rintro e w1 ⟨rfl, hA, hk1⟩
    have HF : Hid (∀ W, w1.grownBy W none → BkAt W p S K ∧ Bst w W p p) := fun W hg => ⟨hA.then hg, (Bst.keep hk1).trans (Bst.grown hg p)⟩
    clear hA hk1 HC1
    go_wp2
    go_ret
    exact ⟨rfl, p, HF.out _ (grown_alloc _ _)⟩
  | some x =>
    obtain ⟨hx, hxi⟩ := (fnd_some hw.asc).1 hf
    subst hxi
    rw [hf] at HC1
    simp only [Option.isSome, Option.getD, Option.elim, if_true] at HC1 ⊢
    have HC2 : Hid (∀ W, BkAt W p S K → Kept w W p.own → ∀ W0, W0 = W.alloc (.cells (bgc x).toArray 78) → Calls Tryz.prog 91 #[.pointer (some ⟨p.b, 0, none⟩), .int .u32 (x.i : Int)] W0 fun e w' => e = .returned (.tuple #[]) ∧ ∃ q, Bx w w' W.heap.size (bgc x) 78 p q ∧ w'.cell? ⟨p.b, 7, none⟩ = some (.slice (some ⟨p.sg, 0, none⟩) S.a S.a) ∧ (∃ v, w'.cell? ⟨p.sg, x.s * 3 + 2, none⟩ = some v) ∧ (w'.frozen? ⟨p.sg, x.s * 3 + 2, none⟩ = false) ∧ BkAt (w'.setCell ⟨p.sg, x.s * 3 + 2, none⟩ (.int .i64 0)) q { S with L := upd S.L x.i { x with u := 0 } } K ∧ Bst w' (w'.setCell ⟨p.sg, x.s * 3 + 2, none⟩ (.int .i64 0)) q q) := by
      intro W hW hkW W0 e0
      have hlt := hW.lt
      obtain ⟨Lb, R, M, E, T, N, B, C, h1, hR, hN, hB, hC⟩ := hW
      have hE : E.length ≤ 65536 := by have := hR.few; have := hw.few; have := hw.b1; omega
      have g0 : W.grownBy W0 none := by rw [e0]; exact grown_alloc _ _
      have b0 : Bx W W0 W.heap.size (bgc x) 78 p p := by rw [e0]; exact Bx.start hlt (bgc x) 78
      refine (release_any (h1.then g0) hR.e3 hE (by omega) hB x.i hk).mono ?_
      rintro e w' ⟨rfl, q, E', T', B', h2, h3, h4, h5, h6⟩
      have hsg : q.sg = p.sg := by rw [h3.eq]
      have hxs := hw.st x hx
      have hrx := hR.rw x hx
      have hlk : ∀ e ∈ E', Ix.lk M e.2.toNat ≠ some (x.s : Int) := fun e he e2 => by
        obtain ⟨h7, h8⟩ := (h4 e).1 he
        obtain ⟨y, hy, h9, -⟩ := hR.e1 e h7
        have h10 : e.2.toNat = y.i := by omega
        rw [h10, hR.m, lk_mx, (fnd_some hw.asc).2 ⟨hy, rfl⟩] at e2
        have e3 : y.s = x.s := Int.ofNat.inj (Option.some.inj e2)
        exact h8 (by rw [← h9, hw.one.same hy hx e3])
      obtain ⟨h7, h8⟩ := h2.confd hrx hlk
      rw [hsg] at h7 h8
      obtain ⟨⟨_, _, vc, -, -, h9⟩, h10⟩ := seat_lies h2 (s := x.s) (by rw [hR.rl]; exact hxs)
      rw [hsg] at h9 h10
      have bx := b0.step h3
      refine ⟨rfl, q, ⟨bx.box, (Bst.keep hkW).trans bx.st, bx.nx, Nat.le_trans hkW.size bx.lo⟩, ?_, ⟨_, h9⟩, h10 _, ⟨_, _, _, E', T', N, B', C, h7.re rfl rfl rfl rfl rfl, hR.conf hw hx h4 h5, hN, h6, hC⟩, Bst.keep h8⟩
      have := h2.cells' bx.st 7 _ rfl
      exact this
    have hsa := hw.a1
    have hxs := hw.st x hx
    clear h hf hx hw
    obtain ⟨xi, xs, xu⟩ := x
    unfold bgV at HC1
    simp only [bgc] at *
    go_enter Tryz.func60, Tryz.ntmps60
    go_wp2_with fail
    refine HC1.out.mono ?_
    rintro e w1 ⟨rfl, hA, hk1⟩
    have HC2' := hide (HC2.out w1 hA hk1 _ rfl)
    clear hA hk1 HC1 HC2
    go_wp2_with fail
    refine HC2'.out.mono ?_
    rintro e w2 ⟨rfl, q, bx, c7, ⟨v, y2⟩, y3, hA, hS⟩
    have x1 := bx.cells 1 _ rfl
    have HF : Hid (∀ W, (w2.setCell ⟨p.sg, xs * 3 + 2, none⟩ (.int .i64 0)).grownBy W none → ∃ q, BkAt W q { S with L := upd S.L xi ⟨xi, xs, 0⟩ } K ∧ Bst w W p q) := fun W hg => ⟨q, hA.then hg, (bx.st.trans hS).trans (Bst.grown hg q)⟩
    clear hA hS bx HC2'
    go_wp2
    go_region
    go_wp2
    go_ret
    exact ⟨rfl, HF.out _ (grown_drew _ none)⟩
end
end Go.Proofs.YtcbiloomnkbalaaGreatDoor
/- Another seat. -/
namespace Go.Proofs.YtcbiloomnkbalaaGreatDoor
open Go.RowKit
attribute [local go_sem ↓] Go.wp_at_zero Go.wp_at_succ
section
variable {w w' : World} {p q : Bp} {S : Sb} {Lb Lb' : List Bool} {R : List Bg} {M E : List (Nat × Int)} {T : List Nat} {N B C K : Nat} {f : Int → Option Nat}
set_option maxHeartbeats 4000000 in
theorem move_any (h : BkAt w p S K) (hw : S.Wk) (x : Bg) (hx : x ∈ S.L) (s : Nat) (hs : s < S.a) (ho : s = x.s ∨ sat S.L s = none) :
    Calls Tryz.prog 93 #[.pointer (some ⟨p.b, 0, none⟩), bgV x, .int .i64 (s : Int)] w fun e w' => e = .returned (.tuple #[]) ∧ BkAt w' p { S with L := upd S.L x.i { x with s := s } } K ∧ Kept w w' p.own := by
  obtain ⟨Lb, R, M, E, T, N, B, C, h, hR, hN⟩ := h
  have hi : x.i < 4294967296 := by have := hw.id x hx; have := hw.n1; omega
  have hxs := hw.st x hx
  have hR2 := hR.move hw hx hs ho
  have b0 := Bx.start h.lt (bgc x) 78
  have h0 := h.then (grown_alloc w (.cells (bgc x).toArray 78))
  have hsa := hw.a1
  have hrl := h.rl
  have HC1 : Hid (∀ W, (w.alloc (.cells (bgc x).toArray 78)).grownBy W none → Calls Tryz.prog 110 #[.pointer (some ⟨p.tb, 0, none⟩), .int .i64 (x.s : Int)] W fun e w' => e = .returned (.int .i64 0) ∧ BkR w' p S (Lb.set x.s false) R M E T N B C (hmf E) ∧ Bx w w' w.heap.size (bgc x) 78 p p) := by
    intro W hg
    refine (free_bk (h0.then hg) x.s (by rw [hR.lb]; exact hxs)).mono ?_
    rintro e w' ⟨rfl, h1, h2⟩
    exact ⟨rfl, h1, (b0.then hg).keep h2⟩
  have HC2 : Hid (∀ W, BkR W p S (Lb.set x.s false) R M E T N B C (hmf E) → Bx w W w.heap.size (bgc x) 78 p p → Calls Tryz.prog 73 #[.pointer (some ⟨p.tb, 0, none⟩), .int .i64 (s : Int)] W fun e w' => e = .returned (.int .i64 0) ∧ BkR w' p S ((Lb.set x.s false).set s true) R M E T N B C (hmf E) ∧ Bx w w' w.heap.size (bgc x) 78 p p) := by
    intro W h1 h2
    refine (put_bk h1 s (by rw [List.length_set, hR.lb]; exact hs)).mono ?_
    rintro e w' ⟨rfl, h3, h4⟩
    exact ⟨rfl, h3, h2.keep h4⟩
  have HC3 : Hid (∀ W, BkR W p S ((Lb.set x.s false).set s true) R M E T N B C (hmf E) → Calls Tryz.prog 111 #[.pointer (some ⟨p.ip.x, 0, none⟩), .int .u32 (x.i : Int), .int .i64 (s : Int)] W fun e w' => ∃ b, e = .returned (.bool b) ∧ Ix.Io w' p.ip (Ix.up M x.i (s : Int)) true ∧ Kept W w' p.ip.own) := by
    intro W h1
    obtain ⟨lo, h2⟩ := h1.ix
    refine (Ix.set_io h2 x.i hi (s : Int) (by omega) (by omega)).mono ?_
    rintro e w' ⟨rfl, h3, h4⟩
    exact ⟨_, rfl, h3, h4⟩
  have HF : Hid (∀ W W3 W', BkR W p S ((Lb.set x.s false).set s true) R M E T N B C (hmf E) → Bx w W w.heap.size (bgc x) 78 p p → Ix.Io W3 p.ip (Ix.up M x.i (s : Int)) true → Kept W W3 p.ip.own →
      W' = ((((W3.setCell ⟨w.heap.size, 1, none⟩ (.int .i64 (s : Int))).setCell ⟨p.sg, s * 3, none⟩ (.int .u32 (x.i : Int))).setCell ⟨p.sg, s * 3 + 1, none⟩ (.int .i64 (s : Int))).setCell ⟨p.sg, s * 3 + 2, none⟩ (.int .i64 x.u)) → BkAt W' p { S with L := upd S.L x.i { x with s := s } } K ∧ Kept w W' p.own) := by
    intro W W3 W' h1 h2 h3 h4 e
    have hnx : ∀ i, p.own i → ¬ i = w.heap.size := fun i hi e => h2.nx (by rw [← e]; exact hi)
    have k1 := kept_setCell W3 w.heap.size 1 (.int .i64 (s : Int))
    have k2 := (((kept_setCell (W3.setCell ⟨w.heap.size, 1, none⟩ (.int .i64 (s : Int))) p.sg (s * 3) (.int .u32 (x.i : Int))).trans (kept_setCell _ p.sg (s * 3 + 1) (.int .i64 (s : Int))) (fun _ _ e => e)).trans (kept_setCell _ p.sg (s * 3 + 2) (.int .i64 x.u)) (fun _ _ e => e))
    rw [← e] at k2
    have k3 : Kept W W' (fun i => p.ip.own i ∨ i = p.sg ∨ i = w.heap.size) := ((h4.mono (fun _ _ e => .inl e)).trans k1 (fun _ _ e => .inr (.inr e))).trans k2 (fun _ _ e => .inr (.inl e))
    have hio : Ix.Io W' p.ip (Ix.up M x.i (s : Int)) true := (h3.far k1 (fun i hi => hnx i ⟨3, Bp.r3 hi⟩)).far k2 (fun i hi e => h1.ap.no Bp.r2 (Bp.r3 (by rw [← e]; exact hi)) (by decide))
    have hrow : W'.heap[p.sg]? = some (.cells (bgs (R.set s { x with s := s })).toArray 78 (0, 0)) := by
      rw [e, bgs_set]
      exact row_setCell (row_setCell (row_setCell (k1.at (h4.at h1.row (fun e => h1.ap.no Bp.r2 (Bp.r3 e) (by decide))) (hnx _ ⟨2, Bp.r2⟩)) _ _) _ _) _ _
    have hb := h1.moved (Z := fun i => i = w.heap.size) hnx k3 ⟨true, hio⟩ hrow (by simp) (fun y hy => ?_) (fun e he => ?_)
    · refine ⟨⟨_, _, _, E, T, N, B, C, hb.re rfl rfl rfl rfl rfl, hR2, hN⟩, h2.st.kept.trans k3 (fun i hi e => ?_)⟩
      rcases e with e | e | e
      · exact ⟨3, Bp.r3 e⟩
      · exact ⟨2, by rw [e]; exact Bp.r2⟩
      · exact absurd hi (by rw [e]; exact Nat.lt_irrefl _)
    · rcases Ix.up_mem.1 hy with ⟨rfl, -⟩ | ⟨hy, -⟩
      · simp; omega
      · exact h1.mi y hy
    · rw [hR2.tl, hR.tl]
      show (fnd (upd S.L x.i { x with s := s }) _).elim 0 _ = _
      rw [fnd_upd hw.asc (y := { x with s := s }) hx rfl]
      split
      · rename_i e2
        rw [e2, (fnd_some hw.asc).2 ⟨hx, rfl⟩]
        rfl
      · rfl
  have HL : Hid (∀ W W3, BkR W p S ((Lb.set x.s false).set s true) R M E T N B C (hmf E) → Bx w W w.heap.size (bgc x) 78 p p → Kept W W3 p.ip.own → W3.heap[w.heap.size]? = some (.cells (bgc x).toArray 78 (0, 0)) ∧ W3.cell? ⟨p.b, 7, none⟩ = some (.slice (some ⟨p.sg, 0, none⟩) S.a S.a) ∧ W3.cell? ⟨p.b, 8, none⟩ = some (.pointer (some ⟨p.ip.x, 0, none⟩)) ∧ (∃ a b c, W3.cell? ⟨p.sg, s * 3, none⟩ = some a ∧ W3.cell? ⟨p.sg, s * 3 + 1, none⟩ = some b ∧ W3.cell? ⟨p.sg, s * 3 + 2, none⟩ = some c) ∧ (∀ j, W3.frozen? ⟨p.sg, j, none⟩ = false) ∧ ¬ p.sg = w.heap.size ∧ ¬ p.b = w.heap.size) := by
    intro W W3 h1 h2 h3
    have hhd := h3.at h1.head (fun e => h1.ap.no Bp.r0 (Bp.r3 e) (by decide))
    have hrow := h3.at h1.row (fun e => h1.ap.no Bp.r2 (Bp.r3 e) (by decide))
    have hsr : s < R.length := by omega
    obtain ⟨g1, g2, g3⟩ := bgs_get hsr
    refine ⟨h3.at h2.box (fun e => h2.nx ⟨3, Bp.r3 e⟩), by rw [cell_row hhd]; rfl, by rw [cell_row hhd]; rfl, ⟨_, _, _, by rw [cell_row hrow]; exact g1, by rw [cell_row hrow]; exact g2, by rw [cell_row hrow]; exact g3⟩, fun j => free_row hrow j, fun e => h2.nx ⟨2, by rw [← e]; exact Bp.r2⟩, fun e => h2.nx ⟨0, by rw [← e]; exact Bp.r0⟩⟩
  have c6 := h0.cells 6 _ rfl
  have x1 := b0.cells 1 _ rfl
  clear h h0 b0 hR hR2 hw hx ho
  obtain ⟨xi, xs, xu⟩ := x
  unfold bgV
  simp only [bgc] at *
  go_enter Tryz.func93, Tryz.ntmps93
  go_wp2
  go_region_held3 (fun W => W.cell? ⟨p.b, 6, none⟩ = some (.pointer (some ⟨p.tb, 0, none⟩)) ∧ W.cell? ⟨w.heap.size, 1, none⟩ = some (.int .i64 (xs : Int))) (first | assumption | exact ⟨c6, x1⟩)
    ((go_at_call 110; refine (HC1.out _ (grown_drew _ none)).mono ?_; rintro e w1 ⟨rfl, hA, hX⟩; have hK1 := And.intro (hA.cells 6 _ rfl) (hX.cells 1 _ rfl)))
  have HC2' := hide (HC2.out w1 hA hX)
  have d6 := hA.cells 6 _ rfl
  clear hA hX hK1 c6 x1 HC1 HC2
  go_wp2_with fail
  refine HC2'.out.mono ?_
  rintro e w2 ⟨rfl, hA, hX⟩
  have HC3' := hide (HC3.out w2.drew (hA.then (grown_drew _ none)))
  have HL2 : Hid (∀ W3, Kept w2.drew W3 p.ip.own → _) := fun W3 => HL.out w2.drew W3 (hA.then (grown_drew _ none)) (hX.then (grown_drew _ none))
  have HF2 : Hid (∀ W3 W', Ix.Io W3 p.ip (Ix.up M xi (s : Int)) true → Kept w2.drew W3 p.ip.own → _ → BkAt W' p { S with L := upd S.L xi ⟨xi, s, xu⟩ } K ∧ Kept w W' p.own) := fun W3 W' => HF.out w2.drew W3 W' (hA.then (grown_drew _ none)) (hX.then (grown_drew _ none))
  have d8 := hA.cells 8 _ rfl
  have x0 := hX.cells 0 _ rfl
  clear hA hX HC2' HC3 HF HL d6
  go_wp2
  go_region_held3 (fun W => W.cell? ⟨p.b, 8, none⟩ = some (.pointer (some ⟨p.ip.x, 0, none⟩)) ∧ W.cell? ⟨w.heap.size, 0, none⟩ = some (.int .u32 (xi : Int))) (first | assumption | exact ⟨d8, x0⟩)
    ((go_at_call 111; refine HC3'.out.mono ?_; rintro e w3 ⟨bb, rfl, hio, hk3⟩; obtain ⟨q1, q2, q3, q4, q5, q6, q7⟩ := HL2.out w3 hk3; have hK1 := And.intro q3 (cell_row q1 0)))
  obtain ⟨z0, z1, z2, z3⟩ := box3 q1
  obtain ⟨va, vb, vc, y0, y1, y2⟩ := q4
  have HE : Hid (∀ W', _ → BkAt W' p { S with L := upd S.L xi ⟨xi, s, xu⟩ } K ∧ Kept w W' p.own) := fun W' => HF2.out w3 W' hio hk3
  clear hK1 q1 q3 hio hk3 HF2 HL2 HC3' d8 x0
  go_wp2
  go_region
  obtain ⟨f1, f2⟩ := HE.out _ rfl
  go_end0
  exact ⟨rfl, f1.then (grown_drew _ none), f2.trans (Kept.new (grown_drew _ none) _) (fun _ _ e => e)⟩
end
end Go.Proofs.YtcbiloomnkbalaaGreatDoor
/- Reseat, tick. -/
namespace Go.Proofs.YtcbiloomnkbalaaGreatDoor
open Go.RowKit
attribute [local go_sem ↓] Go.wp_at_zero Go.wp_at_succ
section
variable {w w' : World} {p q : Bp} {S : Sb} {Lb Lb' : List Bool} {R : List Bg} {M E : List (Nat × Int)} {T : List Nat} {N B C K : Nat} {f : Int → Option Nat}
theorem hasSeat_nat (S : Sb) (s : Nat) (W : World) : Calls Tryz.prog 55 #[.agg #[.int .i64 (S.a : Int), .int .i64 (S.b : Int), .int .i64 (S.c : Int)], .int .i64 (s : Int)] W fun e w' => e = .returned (.bool (decide (s < S.a))) ∧ W.grownBy w' none := by
  have := hasSeat_any S.a S.b S.c (s : Int) W
  rw [show decide (0 ≤ (s : Int) ∧ (s : Int) < (S.a : Int)) = decide (s < S.a) by simp] at this
  exact this
set_option maxHeartbeats 4000000 in
theorem reseat_any (h : BkAt w p S K) (hw : S.Wk) (k : Nat) (hk : k < 4294967296) (s : Nat) :
    Calls Tryz.prog 62 #[.pointer (some ⟨p.b, 0, none⟩), .int .u32 (k : Int), .int .i64 (s : Int)] w fun e w' => e = .returned (.int .i64 (reseatE S k s)) ∧ BkAt w' p (if reseatE S k s = 0 then { S with L := (fnd S.L k).elim S.L fun x => upd S.L x.i { x with s := s } } else S) K ∧ Kept w w' p.own := by
  have HC1 := hide (h.find hw k hk)
  cases hf : fnd S.L k with
  | none =>
    have hr : reseatE S k s = 171 := by unfold reseatE; rw [hf]
    rw [hr, if_neg (by decide)]
    rw [hf] at HC1
    simp only [Option.isSome, Option.getD, Bool.false_eq_true, if_false] at HC1
    clear h hf hr
    unfold bgV at HC1
    simp only at HC1
    go_enter Tryz.func62, Tryz.ntmps62
    go_wp2_with fail
    refine HC1.out.mono ?_
    rintro e w1 ⟨rfl, hA, hk1⟩
    have HF : Hid (∀ W, w1.grownBy W none → BkAt W p S K ∧ Kept w W p.own) := fun W hg => ⟨hA.then hg, hk1.trans (Kept.new hg _) (fun _ _ e => e)⟩
    clear hA hk1 HC1
    go_wp2
    go_ret
    exact ⟨rfl, HF.out _ (grown_alloc _ _)⟩
  | some x =>
    obtain ⟨hx, hxi⟩ := (fnd_some hw.asc).1 hf
    subst hxi
    have hr : reseatE S x.i s = if ¬ s < S.a then 140 else if s ≠ x.s ∧ (sat S.L s).isSome then 170 else 0 := by unfold reseatE; rw [hf]
    rw [hf] at HC1
    simp only [Option.isSome, Option.getD, if_true, Option.elim] at HC1 ⊢
    rw [hr]
    have H1 : Hid (∀ w1, BkAt w1 p S K → Kept w w1 p.own → ∀ W, w1.grownBy W none → (BkAt W p S K ∧ Kept w W p.own) ∧ W.cell? ⟨p.b, 0, none⟩ = some (.int .i64 (S.a : Int)) ∧ W.cell? ⟨p.b, 1, none⟩ = some (.int .i64 (S.b : Int)) ∧ W.cell? ⟨p.b, 2, none⟩ = some (.int .i64 (S.c : Int)) ∧ W.cell? ⟨p.b, 6, none⟩ = some (.pointer (some ⟨p.tb, 0, none⟩))) := by
      intro w1 h1 h2 W hg
      have h3 := h1.then hg
      exact ⟨⟨h3, h2.trans (Kept.new hg _) (fun _ _ e => e)⟩, h3.cells 0 _ rfl, h3.cells 1 _ rfl, h3.cells 2 _ rfl, h3.cells 6 _ rfl⟩
    have HS := hide (hasSeat_nat S s)
    by_cases h2 : s < S.a
    · rw [if_neg (fun e => e h2)]
      rw [decide_eq_true h2] at HS
      have HH : Hid (∀ W, BkAt W p S K → Calls Tryz.prog 56 #[.pointer (some ⟨p.tb, 0, none⟩), .int .i64 (s : Int)] W fun e w' => e = .returned (.bool (sat S.L s).isSome) ∧ W.grownBy w' none) := fun W hW => hW.has s h2
      by_cases hbad : s ≠ x.s ∧ (sat S.L s).isSome = true
      · rw [if_pos hbad, if_neg (by decide)]
        obtain ⟨hne, hsm⟩ := hbad
        rw [hsm] at HH
        have hn1 : ((s : Int) != (x.s : Int)) = true := by simp; omega
        have hn2 : decide ((s : Int) = (x.s : Int)) = false := by simp; omega
        have hn3 : ((s : Int) == (x.s : Int)) = false := by simp; omega
        clear h hf hx hw hr hne hsm
        obtain ⟨xi, xs, xu⟩ := x
        unfold bgV at HC1
        simp only at *
        go_enter Tryz.func62, Tryz.ntmps62
        go_wp2_with fail
        refine HC1.out.mono ?_
        rintro e w1 ⟨rfl, hA, hk1⟩
        obtain ⟨-, c0, c1, c2, -⟩ := H1.out w1 hA hk1 _ (grown_alloc w1 (.cells #[.int .u32 (xi : Int), .int .i64 (xs : Int), .int .i64 xu] 78))
        have H1' : Hid (∀ W, w1.grownBy W none → _) := H1.out w1 hA hk1
        clear hA hk1 HC1 H1
        go_wp2_with fail
        refine (HS.out _).mono ?_
        rintro e w2 ⟨rfl, hg2⟩
        have G2 := grown_trans (grown_alloc w1 (.cells #[.int .u32 (xi : Int), .int .i64 (xs : Int), .int .i64 xu] 78)) hg2
        obtain ⟨hA2, -, -, -, c6⟩ := H1'.out w2 G2
        have hbx : w2.heap[w1.heap.size]? = some (.cells [Value.int .u32 (xi : Int), .int .i64 (xs : Int), .int .i64 xu].toArray 78 (0, 0)) := (hg2.block _ (by simp) (by simp)).trans (heap_alloc_new w1 _)
        obtain ⟨-, z1, -, -⟩ := box3 hbx
        have HH' := hide (HH.out w2 hA2.1)
        have HG2 := hide G2
        clear hA2 hbx hg2 G2 c0 c1 c2 HS HH
        go_wp2_with fail
        refine HH'.out.mono ?_
        rintro e w3 ⟨rfl, hg3⟩
        have HF := hide (H1'.out w3 (grown_trans HG2.out hg3)).1
        clear hg3 HG2 H1' HH'
        go_wp2
        go_ret
        exact ⟨rfl, HF.out⟩
      · rw [if_neg hbad, if_pos rfl]
        have ho : s = x.s ∨ sat S.L s = none := by
          by_cases e : s = x.s
          · exact .inl e
          · cases hq : sat S.L s with
            | none => exact .inr rfl
            | some y => exact absurd ⟨e, by rw [hq]; rfl⟩ hbad
        have HM : Hid (∀ W, BkAt W p S K → Calls Tryz.prog 93 #[.pointer (some ⟨p.b, 0, none⟩), bgV x, .int .i64 (s : Int)] W fun e w' => e = .returned (.tuple #[]) ∧ BkAt w' p { S with L := upd S.L x.i { x with s := s } } K ∧ Kept W w' p.own) := fun W hW => move_any hW hw x hx s h2 ho
        clear h hf hx hw hr hbad
        by_cases hne : s = x.s
        · obtain ⟨xi, xs, xu⟩ := x
          unfold bgV at HC1 HM
          simp only at *
          subst hne
          clear ho
          go_enter Tryz.func62, Tryz.ntmps62
          go_wp2_with fail
          refine HC1.out.mono ?_
          rintro e w1 ⟨rfl, hA, hk1⟩
          obtain ⟨-, c0, c1, c2, -⟩ := H1.out w1 hA hk1 _ (grown_alloc w1 (.cells #[.int .u32 (xi : Int), .int .i64 (s : Int), .int .i64 xu] 78))
          have H1' : Hid (∀ W, w1.grownBy W none → _) := H1.out w1 hA hk1
          clear hA hk1 HC1 H1
          go_wp2_with fail
          refine (HS.out _).mono ?_
          rintro e w2 ⟨rfl, hg2⟩
          have G2 := grown_trans (grown_alloc w1 (.cells #[.int .u32 (xi : Int), .int .i64 (s : Int), .int .i64 xu] 78)) hg2
          obtain ⟨hA2, -, -, -, c6⟩ := H1'.out w2 G2
          have hbx : w2.heap[w1.heap.size]? = some (.cells [Value.int .u32 (xi : Int), .int .i64 (s : Int), .int .i64 xu].toArray 78 (0, 0)) := (hg2.block _ (by simp) (by simp)).trans (heap_alloc_new w1 _)
          obtain ⟨z0, z1, z2, -⟩ := box3 hbx
          have HM' := hide (HM.out w2 hA2.1)
          have HK2 := hide hA2.2
          clear hA2 hbx hg2 G2 c0 c1 c2 HS HH HM
          go_wp2_with fail
          refine HM'.out.mono ?_
          rintro e w3 ⟨rfl, hA3, hk3⟩
          have HF := hide (And.intro hA3 (HK2.out.trans hk3 (fun _ _ e => e)))
          clear hA3 hk3 HK2 HM'
          go_wp2
          go_ret
          exact ⟨rfl, HF.out⟩
        · have hsn : sat S.L s = none := ho.resolve_left hne
          rw [hsn] at HH
          simp only [Option.isSome] at HH
          have hn1 : ((s : Int) != (x.s : Int)) = true := by simp; omega
          have hn2 : decide ((s : Int) = (x.s : Int)) = false := by simp; omega
          have hn3 : ((s : Int) == (x.s : Int)) = false := by simp; omega
          obtain ⟨xi, xs, xu⟩ := x
          unfold bgV at HC1 HM
          simp only at *
          clear ho hsn
          go_enter Tryz.func62, Tryz.ntmps62
          go_wp2_with fail
          refine HC1.out.mono ?_
          rintro e w1 ⟨rfl, hA, hk1⟩
          obtain ⟨-, c0, c1, c2, -⟩ := H1.out w1 hA hk1 _ (grown_alloc w1 (.cells #[.int .u32 (xi : Int), .int .i64 (xs : Int), .int .i64 xu] 78))
          have H1' : Hid (∀ W, w1.grownBy W none → _) := H1.out w1 hA hk1
          clear hA hk1 HC1 H1
          go_wp2_with fail
          refine (HS.out _).mono ?_
          rintro e w2 ⟨rfl, hg2⟩
          have G2 := grown_trans (grown_alloc w1 (.cells #[.int .u32 (xi : Int), .int .i64 (xs : Int), .int .i64 xu] 78)) hg2
          obtain ⟨hA2, -, -, -, c6⟩ := H1'.out w2 G2
          have hbx : w2.heap[w1.heap.size]? = some (.cells [Value.int .u32 (xi : Int), .int .i64 (xs : Int), .int .i64 xu].toArray 78 (0, 0)) := (hg2.block _ (by simp) (by simp)).trans (heap_alloc_new w1 _)
          obtain ⟨z0, z1, z2, -⟩ := box3 hbx
          have HH' := hide (HH.out w2 hA2.1)
          have HG2 := hide (And.intro G2 hbx)
          clear hA2 hbx hg2 G2 c0 c1 c2 HS HH
          go_wp2_with fail
          refine HH'.out.mono ?_
          rintro e w3 ⟨rfl, hg3⟩
          have hA3 := (H1'.out w3 (grown_trans HG2.out.1 hg3)).1
          have hbx3 := (hg3.block _ (row_lt HG2.out.2) (by simp)).trans HG2.out.2
          obtain ⟨z0, z1, z2, -⟩ := box3 hbx3
          have HM' := hide (HM.out w3 hA3.1)
          have HK2 := hide hA3.2
          clear hA3 hbx3 hg3 HG2 H1' HH' HM
          go_wp2_with fail
          refine HM'.out.mono ?_
          rintro e w4 ⟨rfl, hA4, hk4⟩
          have HF := hide (And.intro hA4 (HK2.out.trans hk4 (fun _ _ e => e)))
          clear hA4 hk4 HK2 HM'
          go_wp2
          go_ret
          exact ⟨rfl, HF.out⟩
    · rw [if_pos h2, if_neg (by decide)]
      rw [decide_eq_false h2] at HS
      clear h hf hx hw hr
      obtain ⟨xi, xs, xu⟩ := x
      unfold bgV at HC1
      simp only at *
      go_enter Tryz.func62, Tryz.ntmps62
      go_wp2_with fail
      refine HC1.out.mono ?_
      rintro e w1 ⟨rfl, hA, hk1⟩
      obtain ⟨-, c0, c1, c2, -⟩ := H1.out w1 hA hk1 _ (grown_alloc w1 (.cells #[.int .u32 (xi : Int), .int .i64 (xs : Int), .int .i64 xu] 78))
      have H1' : Hid (∀ W, w1.grownBy W none → _) := H1.out w1 hA hk1
      clear hA hk1 HC1 H1
      go_wp2_with fail
      refine (HS.out _).mono ?_
      rintro e w2 ⟨rfl, hg2⟩
      have HF := hide (H1'.out w2 (grown_trans (grown_alloc w1 (.cells #[.int .u32 (xi : Int), .int .i64 (xs : Int), .int .i64 xu] 78)) hg2)).1
      clear hg2 H1' c0 c1 c2 HS
      go_wp2
      go_ret
      exact ⟨rfl, HF.out⟩
end
end Go.Proofs.YtcbiloomnkbalaaGreatDoor
/- Tick. -/
namespace Go.Proofs.YtcbiloomnkbalaaGreatDoor
open Go.RowKit
attribute [local go_sem ↓] Go.wp_at_zero Go.wp_at_succ
theorem Sb.Wk.sub {S : Sb} (h : S.Wk) {c : Int} {L : List Bg} (hL : L.Sublist S.L) (h0 : 0 ≤ c) (h1 : c ≤ mxC) : Sb.Wk { S with t := c, L := L } :=
  ⟨h.a0, h.a1, h.b0, h.b1, h.c0, h.c1, h.n0, h.n1, h0, h1, List.Pairwise.sublist hL h.asc, fun x hx => h.id x (hL.subset hx), fun x hx => h.st x (hL.subset hx), List.Pairwise.sublist hL h.one, fun x hx => h.til x (hL.subset hx), Nat.le_trans hL.length_le h.few⟩
theorem tik_del {L : List Bg} {x : Bg} (hA : AscB L) (hx : x ∈ L) {c : Int} (hu : x.u ≠ 0) (hc : x.u ≤ c) : tik (del L x.i) c = tik L c := by
  unfold tik del
  rw [List.filter_filter]
  apply List.filter_congr
  intro y hy
  by_cases e : y.i = x.i
  · rw [hA.same hy hx e]
    simp [hu]; omega
  · simp [e]
theorem tik_all {L : List Bg} {c : Int} (h : ∀ y ∈ L, y.u = 0 ∨ c < y.u) : tik L c = L := by
  unfold tik
  rw [List.filter_eq_self]
  intro y hy
  simpa using h y hy
theorem del_sub (L : List Bg) (i : Nat) : (del L i).Sublist L := List.filter_sublist
theorem del_less {L : List Bg} {x : Bg} (hx : x ∈ L) : (del L x.i).length < L.length := by
  unfold del
  rw [List.length_filter_lt_length_iff_exists]
  exact ⟨x, hx, by simp⟩
/-- In the midst of a tick. -/
def TkR (w : World) (p : Bp) (S : Sb) (c : Int) (K n X : Nat) (b : Bool) (W : World) : Prop :=
  ∃ r L x, BkAt W r { S with t := c, L := L } K ∧ L.Sublist S.L ∧ Fst { S with t := c, L := L } x b ∧ Bx w W X (bgc x) 78 p r ∧ tik L c = tik S.L c ∧ L.length ≤ n
section
variable {w w' : World} {p q : Bp} {S : Sb} {Lb Lb' : List Bool} {R : List Bg} {M E : List (Nat × Int)} {T : List Nat} {N B C K : Nat} {f : Int → Option Nat}
set_option maxHeartbeats 4000000 in
theorem tick_any (h : BkAt w p S K) (hw : S.Wk) (hK : K ≤ 10000000) (c : Int) (hc : c ≤ mxC) :
    Calls Tryz.prog 63 #[.pointer (some ⟨p.b, 0, none⟩), .int .i64 c] w fun e w' => e = .returned (.int .i64 (if c ≤ S.t then 173 else 0)) ∧ ∃ q, BkAt w' q (if c ≤ S.t then S else { S with L := tik S.L c, t := c }) K ∧ Bst w w' p q := by
  have c5 := h.cells 5 _ rfl
  by_cases hp : c ≤ S.t
  · rw [if_pos hp, if_pos hp]
    have H := hide h
    clear h
    go_enter Tryz.func63, Tryz.ntmps63
    go_wp2
    go_ret
    exact ⟨rfl, p, H.out, Bst.refl _ _⟩
  · rw [if_neg hp, if_neg hp]
    have hp' : S.t < c := by omega
    have ht0 := hw.t0
    obtain ⟨h1, h2⟩ := h.tick c
    have c5f := h.free 5
    have hwk : ∀ L, L.Sublist S.L → Sb.Wk { S with t := c, L := L } := fun L hL => hw.sub hL (by omega) hc
    have HC1 := hide (first_any h1 (hwk S.L (List.Sublist.refl _)))
    have HS1 : Hid (∀ W x b, BkAt W p { S with t := c } K → Kept (w.setCell ⟨p.b, 5, none⟩ (.int .i64 c)) W p.own → Fst { S with t := c } x b → TkR w p S c K S.L.length W.heap.size b (W.alloc (.cells (bgc x).toArray 78))) := by
      intro W x b g1 g2 g3
      have hb := Bx.start g1.lt (bgc x) 78
      exact ⟨p, S.L, x, g1.then (grown_alloc W _), List.Sublist.refl _, g3, ⟨hb.box, (Bst.keep (h2.trans g2 (fun _ _ e => e))).trans hb.st, hb.nx, Nat.le_trans (h2.trans g2 (fun _ _ e => e)).size hb.lo⟩, rfl, Nat.le_refl _⟩
    have HEnd : Hid (∀ n X b W, TkR w p S c K n X b W → (∀ L x, L.Sublist S.L → Fst { S with t := c, L := L } x b → W.heap[X]? = some (.cells (bgc x).toArray 78 (0, 0)) → ∀ y ∈ L, y.u = 0 ∨ c < y.u) → ∃ q, BkAt W q { S with L := tik S.L c, t := c } K ∧ Bst w W p q) := by
      rintro n X b W ⟨r, L, x, g1, g2, g3, g4, g5, g6⟩ hall
      have := tik_all (hall L x g2 g3 g4.box)
      rw [g5] at this
      rw [this]
      exact ⟨r, g1, g4.st⟩
    have HRem : Hid (∀ n X W, TkR w p S c K n X true W → ∃ x : Bg, W.heap[X]? = some (.cells (bgc x).toArray 78 (0, 0)) ∧ (c < x.u → ∃ q, BkAt W q { S with L := tik S.L c, t := c } K ∧ Bst w W p q) ∧ (x.u ≤ c → 0 < n ∧ Calls Tryz.prog 92 #[.pointer (some ⟨p.b, 0, none⟩), bgV x] W fun e w' => e = .returned (.tuple #[]) ∧ ∃ r L, BkAt w' r { S with t := c, L := L } K ∧ L.Sublist S.L ∧ Bx w w' X (bgc x) 78 p r ∧ tik L c = tik S.L c ∧ L.length ≤ n - 1)) := by
      rintro n X W ⟨r, L, x, g1, g2, g3, g4, g5, g6⟩
      rcases g3 with ⟨e, -⟩ | ⟨-, hx, hxu, hle⟩
      · cases e
      refine ⟨x, g4.box, fun hlt => ?_, fun hu => ?_⟩
      · have := tik_all (L := L) (c := c) (fun y hy => by
          by_cases e : y.u = 0
          · exact .inl e
          · have := hle y hy e; exact .inr (by omega))
        rw [g5] at this
        rw [this]
        exact ⟨r, g1, g4.st⟩
      · have hdl := del_less (L := L) hx
        refine ⟨by omega, ?_⟩
        have := remove_any g1 (hwk L g2) hK x hx
        rw [g4.st.b] at this
        refine this.mono ?_
        rintro e w' ⟨rfl, q, k1, k2⟩
        exact ⟨rfl, q, del L x.i, k1, (del_sub L x.i).trans g2, g4.step k2, by rw [tik_del (List.Pairwise.sublist g2 hw.asc) hx hxu hu]; exact g5, by omega⟩
    have HFirst : Hid (∀ n X x W r L, BkAt W r { S with t := c, L := L } K → L.Sublist S.L → Bx w W X (bgc x) 78 p r → tik L c = tik S.L c → L.length ≤ n → ∀ W', W' = W.alloc (.cells (bgc x).toArray 78) → Calls Tryz.prog 57 #[.pointer (some ⟨p.b, 0, none⟩)] W' fun e w' => ∃ y b, e = .returned (.tuple #[bgV y, .bool b]) ∧ (∃ v1 v2 v3, w'.heap[W.heap.size]? = some (.cells [v1, v2, v3].toArray 78 (0, 0))) ∧ ∀ W'', W'' = (((w'.setCell ⟨W.heap.size, 0, none⟩ (.int .u32 (y.i : Int))).setCell ⟨W.heap.size, 1, none⟩ (.int .i64 (y.s : Int))).setCell ⟨W.heap.size, 2, none⟩ (.int .i64 y.u)) → TkR w p S c K n W.heap.size b W'') := by
      rintro n X x W r L g1 g2 g3 g4 g5 W' e0
      have gr : W.grownBy W' none := by rw [e0]; exact grown_alloc _ _
      have hbx : Bx W W' W.heap.size (bgc x) 78 r r := by rw [e0]; exact Bx.start g1.lt (bgc x) 78
      have := first_any (g1.then gr) (hwk L g2)
      rw [g3.st.b] at this
      refine this.mono ?_
      rintro e w' ⟨y, b, rfl, k1, k2, k3⟩
      have hb2 := hbx.keep k3
      refine ⟨y, b, rfl, ⟨_, _, _, hb2.box⟩, fun W'' e2 => ?_⟩
      obtain ⟨r1, r2⟩ := row3 w' hb2.box (.int .u32 (y.i : Int)) (.int .i64 (y.s : Int)) (.int .i64 y.u)
      rw [← e2] at r1 r2
      have kk : Kept w' W'' (fun i => i = W.heap.size) := Kept.of r2 (fun _ e _ => (Option.some.inj e).symm)
      refine ⟨r, L, y, k2.far kk (fun i hi e => hb2.nx (by rw [← e]; exact hi)), g2, k1, ⟨r1, ?_, hb2.nx, Nat.le_trans g3.st.kept.size (Nat.le_refl _)⟩, g4, g5⟩
      refine g3.st.trans ⟨hb2.st.eq, hb2.st.h, hb2.st.mb, hb2.st.kept.trans kk (fun i hi e => absurd hi (by rw [e]; exact Nat.lt_irrefl _)), fun i e => .inl e⟩
    clear h h1 h2 hw hwk hp
    go_enter Tryz.func63, Tryz.ntmps63
    go_wp2_with fail
    refine HC1.out.mono ?_
    rintro e w1 ⟨x, b, rfl, k1, k2, k3⟩
    have HT := hide (HS1.out w1 x b k2 k3 k1)
    clear k1 k2 k3 HC1 HS1 c5 c5f
    obtain ⟨xi, xs, xu⟩ := x
    unfold bgV
    simp only [bgc] at *
    go_wp2
    go_loopg [5, 6] S.L.length (fun n v hd wr => ∃ X bb, v = .pointer (some ⟨X, 0, none⟩) ∧ hd = .bool bb ∧ Hid (TkR w p S c K n X bb wr))
    case atStart => exact ⟨_, _, rfl, rfl, HT.out⟩
    case round =>
      obtain ⟨X, bb, rfl, rfl, HR⟩ := hrel
      cases bb with
      | false =>
        have hE := HEnd.out _ _ _ _ HR.out (fun L x g1 g2 _ y hy => by
          rcases g2 with ⟨-, -, g3⟩ | ⟨g3, -⟩
          · exact .inl (g3 y hy)
          · cases g3)
        have HE := hide hE
        clear hE HR HEnd HRem HFirst HT
        go_wp2
        go_ret
        exact ⟨rfl, HE.out⟩
      | true =>
        obtain ⟨⟨yi, ys, yu⟩, y1, y2, y3⟩ := HRem.out _ _ _ HR.out
        obtain ⟨z0, z1, z2, -⟩ := box3 y1
        by_cases hu : yu ≤ c
        · obtain ⟨hpos, hcall⟩ := y3 hu
          have HCall := hide hcall
          unfold bgV at HCall
          simp only at HCall
          clear hcall y1 y2 y3 HEnd HRem HT HR
          go_wp2_with fail
          refine HCall.out.mono ?_
          rintro e w2 ⟨rfl, r, L, g1, g2, g3, g4, g5⟩
          have v0 := g3.cells 0 _ rfl
          have v1 := g3.cells 1 _ rfl
          have v2 := g3.cells 2 _ rfl
          have HF := hide (HFirst.out (gk - 1) X ⟨yi, ys, yu⟩ w2 r L g1 g2 g3 g4 g5 _ rfl)
          simp only at HF
          clear g1 g2 g3 g4 g5 HCall HFirst z0 z1 z2
          go_wp2_with fail
          refine HF.out.mono ?_
          rintro e w3 ⟨⟨qi, qs, qu⟩, b3, rfl, ⟨u1, u2, u3, hb⟩, hall⟩
          obtain ⟨t0, t1, t2, t3⟩ := box3 hb
          have HA := hide hall
          clear hall hb HF v0 v1 v2
          unfold bgV
          simp only at HA
          go_wp2
          go_roundg (gk - 1)
          case rel => exact ⟨_, _, rfl, rfl, HA.out _ rfl⟩
          case measure => omega
        · have HE := hide (y2 (by simp only; omega))
          clear y1 y2 y3 HR HEnd HRem HFirst HT
          go_wp2
          go_ret
          exact ⟨rfl, HE.out⟩
end
end Go.Proofs.YtcbiloomnkbalaaGreatDoor
/- Apply. -/
namespace Go.Proofs.YtcbiloomnkbalaaGreatDoor
open Go.RowKit
attribute [local go_sem ↓] Go.wp_at_zero Go.wp_at_succ
section
variable {w w' : World} {p q : Bp} {S : Sb} {K : Nat}
set_option maxHeartbeats 4000000 in
theorem apply_0 (h : BkAt w p S K) (k i s u c : Int) (hr : Rc.Ok ⟨k, i, s, u, c⟩) (hm : ¬ Rc.May ⟨k, i, s, u, c⟩) (hT : Rk.Tab w) : Calls Tryz.prog 36 #[.pointer (some ⟨p.b, 0, none⟩), Rk.rcV ⟨k, i, s, u, c⟩] w fun e w' => e = .returned (.int .i64 160) ∧ ∃ q, BkAt w' q S (K + 1) ∧ Bst w w' p q := by
  have b0 := Bx.start h.lt [.int .i64 k, .int .u32 i, .int .i64 s, .int .i64 u, .int .i64 c] 46
  have h0 := h.then (grown_alloc w (.cells [Value.int .i64 k, .int .u32 i, .int .i64 s, .int .i64 u, .int .i64 c].toArray 46))
  have HN := hide h0.isNone
  have HC := hide (Rk.check_any ⟨k, i, s, u, c⟩ hr _ (hT.new (grown_alloc w (.cells [Value.int .i64 k, .int .u32 i, .int .i64 s, .int .i64 u, .int .i64 c].toArray 46))))
  rw [show Rk.chk ⟨k, i, s, u, c⟩ = 160 from if_neg hm] at HC
  have H0 := hide (And.intro h0 b0)
  clear h h0 b0 hr hm hT
  unfold Rk.rcV at *
  go_enter Tryz.func36, Tryz.ntmps36
  go_wp2_with fail
  refine HN.out.mono ?_
  rintro e w1 ⟨rfl, rfl⟩
  go_wp2_with fail
  refine HC.out.mono ?_
  rintro e w2 ⟨rfl, hg2⟩
  have HF := hide (And.intro ((H0.out.1.then hg2).mono (Nat.le_succ K)) (H0.out.2.then hg2).st)
  clear hg2 H0 HN HC
  go_wp2
  go_ret
  exact ⟨rfl, p, HF.out⟩
set_option maxHeartbeats 4000000 in
theorem apply_1 (h : BkAt w p S K) (ho : S.Ok) (hK : K ≤ 10000000) (i s : Nat) (u : Int) (hi : i < 4294967296) (hr : Rc.Ok ⟨1, (i : Int), (s : Int), u, 0⟩) (hm : Rc.May ⟨1, (i : Int), (s : Int), u, 0⟩) (hT : Rk.Tab w) : Calls Tryz.prog 36 #[.pointer (some ⟨p.b, 0, none⟩), Rk.rcV ⟨1, (i : Int), (s : Int), u, 0⟩] w fun e w' => e = .returned (.int .i64 (holdE S ⟨1, (i : Int), (s : Int), u, 0⟩)) ∧ ∃ q, BkAt w' q (if holdE S ⟨1, (i : Int), (s : Int), u, 0⟩ = 0 then { S with L := S.L ++ [⟨i, s, u⟩], n := S.n + 1 } else S) (K + 1) ∧ Bst w w' p q := by
  have b0 := Bx.start h.lt [.int .i64 1, .int .u32 (i : Int), .int .i64 (s : Int), .int .i64 u, .int .i64 0] 46
  have h0 := h.then (grown_alloc w (.cells [Value.int .i64 1, .int .u32 (i : Int), .int .i64 (s : Int), .int .i64 u, .int .i64 0].toArray 46))
  have HN := hide h0.isNone
  have HC := hide (Rk.check_any ⟨1, (i : Int), (s : Int), u, 0⟩ hr _ (hT.new (grown_alloc w (.cells [Value.int .i64 1, .int .u32 (i : Int), .int .i64 (s : Int), .int .i64 u, .int .i64 0].toArray 46))))
  rw [show Rk.chk ⟨1, (i : Int), (s : Int), u, 0⟩ = 0 from if_pos hm] at HC
  have HA : Hid (∀ W, BkAt W p S K → Calls Tryz.prog 59 #[.pointer (some ⟨p.b, 0, none⟩), .agg #[.int .i64 1, .int .u32 (i : Int), .int .i64 (s : Int), .int .i64 u, .int .i64 0]] W fun e w' => e = .returned (.int .i64 (holdE S ⟨1, (i : Int), (s : Int), u, 0⟩)) ∧ ∃ q, BkAt w' q (if holdE S ⟨1, (i : Int), (s : Int), u, 0⟩ = 0 then { S with L := S.L ++ [⟨i, s, u⟩], n := S.n + 1 } else S) (K + 1) ∧ Bst W w' p q) := by
    intro W hW
    refine (hold_any hW ho hK 1 0 i s hi u).mono ?_
    rintro e w' ⟨rfl, q, g1, g2⟩
    exact ⟨rfl, q, g1.mono (by omega), g2⟩
  have H0 := hide (And.intro h0 b0)
  clear h h0 b0 hr hm hT ho
  generalize (if holdE S ⟨1, (i : Int), (s : Int), u, 0⟩ = 0 then { S with L := S.L ++ [⟨i, s, u⟩], n := S.n + 1 } else S) = S' at *
  generalize (holdE S ⟨1, (i : Int), (s : Int), u, 0⟩) = res at *
  unfold Rk.rcV at *
  go_enter Tryz.func36, Tryz.ntmps36
  go_wp2_with fail
  refine HN.out.mono ?_
  rintro e w1 ⟨rfl, rfl⟩
  go_wp2_with fail
  refine HC.out.mono ?_
  rintro e w2 ⟨rfl, hg2⟩
  have hX := H0.out.2.then hg2
  have x0 := hX.cells 0 _ rfl
  have x1 := hX.cells 1 _ rfl
  have x2 := hX.cells 2 _ rfl
  have x3 := hX.cells 3 _ rfl
  have x4 := hX.cells 4 _ rfl
  have HA' := hide (HA.out w2 (H0.out.1.then hg2))
  have HX := hide hX.st
  clear hX hg2 H0 HN HC HA
  go_wp2_with fail
  refine HA'.out.mono ?_
  rintro e w3 ⟨rfl, q, g1, g2⟩
  have HF := hide (And.intro g1 (HX.out.trans g2))
  clear g1 g2 HX HA'
  go_wp2
  go_ret
  exact ⟨rfl, q, HF.out⟩
set_option maxHeartbeats 4000000 in
theorem apply_2 (h : BkAt w p S K) (ho : S.Ok) (hK : K ≤ 10000000) (i : Nat) (hi : i < 4294967296) (hr : Rc.Ok ⟨2, (i : Int), 0, 0, 0⟩) (hm : Rc.May ⟨2, (i : Int), 0, 0, 0⟩) (hT : Rk.Tab w) : Calls Tryz.prog 36 #[.pointer (some ⟨p.b, 0, none⟩), Rk.rcV ⟨2, (i : Int), 0, 0, 0⟩] w fun e w' => e = .returned (.int .i64 (if (fnd S.L i).isSome then (0 : Int) else 171)) ∧ ∃ q, BkAt w' q { S with L := (fnd S.L i).elim S.L fun x => upd S.L x.i { x with u := 0 } } (K + 1) ∧ Bst w w' p q := by
  have b0 := Bx.start h.lt [.int .i64 2, .int .u32 (i : Int), .int .i64 0, .int .i64 0, .int .i64 0] 46
  have h0 := h.then (grown_alloc w (.cells [Value.int .i64 2, .int .u32 (i : Int), .int .i64 0, .int .i64 0, .int .i64 0].toArray 46))
  have HN := hide h0.isNone
  have HC := hide (Rk.check_any ⟨2, (i : Int), 0, 0, 0⟩ hr _ (hT.new (grown_alloc w (.cells [Value.int .i64 2, .int .u32 (i : Int), .int .i64 0, .int .i64 0, .int .i64 0].toArray 46))))
  rw [show Rk.chk ⟨2, (i : Int), 0, 0, 0⟩ = 0 from if_pos hm] at HC
  have HA : Hid (∀ W, BkAt W p S K → Calls Tryz.prog 60 #[.pointer (some ⟨p.b, 0, none⟩), .int .u32 (i : Int)] W fun e w' => e = .returned (.int .i64 (if (fnd S.L i).isSome then (0 : Int) else 171)) ∧ ∃ q, BkAt w' q { S with L := (fnd S.L i).elim S.L fun x => upd S.L x.i { x with u := 0 } } (K + 1) ∧ Bst W w' p q) := by
    intro W hW
    refine (confirm_any hW ho.wk hK i hi).mono ?_
    rintro e w' ⟨rfl, q, g1, g2⟩
    exact ⟨rfl, q, g1.mono (by omega), g2⟩
  have H0 := hide (And.intro h0 b0)
  clear h h0 b0 hr hm hT ho
  generalize { S with L := (fnd S.L i).elim S.L fun x => upd S.L x.i { x with u := 0 } } = S' at *
  generalize (if (fnd S.L i).isSome then (0 : Int) else 171) = res at *
  unfold Rk.rcV at *
  go_enter Tryz.func36, Tryz.ntmps36
  go_wp2_with fail
  refine HN.out.mono ?_
  rintro e w1 ⟨rfl, rfl⟩
  go_wp2_with fail
  refine HC.out.mono ?_
  rintro e w2 ⟨rfl, hg2⟩
  have hX := H0.out.2.then hg2
  have x0 := hX.cells 0 _ rfl
  have x1 := hX.cells 1 _ rfl
  have HA' := hide (HA.out w2 (H0.out.1.then hg2))
  have HX := hide hX.st
  clear hX hg2 H0 HN HC HA
  go_wp2_with fail
  refine HA'.out.mono ?_
  rintro e w3 ⟨rfl, q, g1, g2⟩
  have HF := hide (And.intro g1 (HX.out.trans g2))
  clear g1 g2 HX HA'
  go_wp2
  go_ret
  exact ⟨rfl, q, HF.out⟩
set_option maxHeartbeats 4000000 in
theorem apply_3 (h : BkAt w p S K) (ho : S.Ok) (hK : K ≤ 10000000) (i : Nat) (hi : i < 4294967296) (hr : Rc.Ok ⟨3, (i : Int), 0, 0, 0⟩) (hm : Rc.May ⟨3, (i : Int), 0, 0, 0⟩) (hT : Rk.Tab w) : Calls Tryz.prog 36 #[.pointer (some ⟨p.b, 0, none⟩), Rk.rcV ⟨3, (i : Int), 0, 0, 0⟩] w fun e w' => e = .returned (.int .i64 (if (fnd S.L i).isSome then (0 : Int) else 171)) ∧ ∃ q, BkAt w' q { S with L := del S.L i } (K + 1) ∧ Bst w w' p q := by
  have b0 := Bx.start h.lt [.int .i64 3, .int .u32 (i : Int), .int .i64 0, .int .i64 0, .int .i64 0] 46
  have h0 := h.then (grown_alloc w (.cells [Value.int .i64 3, .int .u32 (i : Int), .int .i64 0, .int .i64 0, .int .i64 0].toArray 46))
  have HN := hide h0.isNone
  have HC := hide (Rk.check_any ⟨3, (i : Int), 0, 0, 0⟩ hr _ (hT.new (grown_alloc w (.cells [Value.int .i64 3, .int .u32 (i : Int), .int .i64 0, .int .i64 0, .int .i64 0].toArray 46))))
  rw [show Rk.chk ⟨3, (i : Int), 0, 0, 0⟩ = 0 from if_pos hm] at HC
  have HA : Hid (∀ W, BkAt W p S K → Calls Tryz.prog 61 #[.pointer (some ⟨p.b, 0, none⟩), .int .u32 (i : Int)] W fun e w' => e = .returned (.int .i64 (if (fnd S.L i).isSome then (0 : Int) else 171)) ∧ ∃ q, BkAt w' q { S with L := del S.L i } (K + 1) ∧ Bst W w' p q) := by
    intro W hW
    refine (cancel_any hW ho.wk hK i hi).mono ?_
    rintro e w' ⟨rfl, q, g1, g2⟩
    exact ⟨rfl, q, g1.mono (by omega), g2⟩
  have H0 := hide (And.intro h0 b0)
  clear h h0 b0 hr hm hT ho
  generalize { S with L := del S.L i } = S' at *
  generalize (if (fnd S.L i).isSome then (0 : Int) else 171) = res at *
  unfold Rk.rcV at *
  go_enter Tryz.func36, Tryz.ntmps36
  go_wp2_with fail
  refine HN.out.mono ?_
  rintro e w1 ⟨rfl, rfl⟩
  go_wp2_with fail
  refine HC.out.mono ?_
  rintro e w2 ⟨rfl, hg2⟩
  have hX := H0.out.2.then hg2
  have x0 := hX.cells 0 _ rfl
  have x1 := hX.cells 1 _ rfl
  have HA' := hide (HA.out w2 (H0.out.1.then hg2))
  have HX := hide hX.st
  clear hX hg2 H0 HN HC HA
  go_wp2_with fail
  refine HA'.out.mono ?_
  rintro e w3 ⟨rfl, q, g1, g2⟩
  have HF := hide (And.intro g1 (HX.out.trans g2))
  clear g1 g2 HX HA'
  go_wp2
  go_ret
  exact ⟨rfl, q, HF.out⟩
set_option maxHeartbeats 4000000 in
theorem apply_4 (h : BkAt w p S K) (ho : S.Ok) (_hK : K ≤ 10000000) (i s : Nat) (hi : i < 4294967296) (hr : Rc.Ok ⟨4, (i : Int), (s : Int), 0, 0⟩) (hm : Rc.May ⟨4, (i : Int), (s : Int), 0, 0⟩) (hT : Rk.Tab w) : Calls Tryz.prog 36 #[.pointer (some ⟨p.b, 0, none⟩), Rk.rcV ⟨4, (i : Int), (s : Int), 0, 0⟩] w fun e w' => e = .returned (.int .i64 (reseatE S i s)) ∧ ∃ q, BkAt w' q (if reseatE S i s = 0 then { S with L := (fnd S.L i).elim S.L fun x => upd S.L x.i { x with s := s } } else S) (K + 1) ∧ Bst w w' p q := by
  have b0 := Bx.start h.lt [.int .i64 4, .int .u32 (i : Int), .int .i64 (s : Int), .int .i64 0, .int .i64 0] 46
  have h0 := h.then (grown_alloc w (.cells [Value.int .i64 4, .int .u32 (i : Int), .int .i64 (s : Int), .int .i64 0, .int .i64 0].toArray 46))
  have HN := hide h0.isNone
  have HC := hide (Rk.check_any ⟨4, (i : Int), (s : Int), 0, 0⟩ hr _ (hT.new (grown_alloc w (.cells [Value.int .i64 4, .int .u32 (i : Int), .int .i64 (s : Int), .int .i64 0, .int .i64 0].toArray 46))))
  rw [show Rk.chk ⟨4, (i : Int), (s : Int), 0, 0⟩ = 0 from if_pos hm] at HC
  have HA : Hid (∀ W, BkAt W p S K → Calls Tryz.prog 62 #[.pointer (some ⟨p.b, 0, none⟩), .int .u32 (i : Int), .int .i64 (s : Int)] W fun e w' => e = .returned (.int .i64 (reseatE S i s)) ∧ ∃ q, BkAt w' q (if reseatE S i s = 0 then { S with L := (fnd S.L i).elim S.L fun x => upd S.L x.i { x with s := s } } else S) (K + 1) ∧ Bst W w' p q) := by
    intro W hW
    refine (reseat_any hW ho.wk i hi s).mono ?_
    rintro e w' ⟨rfl, g1, g2⟩
    exact ⟨rfl, p, g1.mono (by omega), Bst.keep g2⟩
  have H0 := hide (And.intro h0 b0)
  clear h h0 b0 hr hm hT ho
  generalize (if reseatE S i s = 0 then { S with L := (fnd S.L i).elim S.L fun x => upd S.L x.i { x with s := s } } else S) = S' at *
  generalize (reseatE S i s) = res at *
  unfold Rk.rcV at *
  go_enter Tryz.func36, Tryz.ntmps36
  go_wp2_with fail
  refine HN.out.mono ?_
  rintro e w1 ⟨rfl, rfl⟩
  go_wp2_with fail
  refine HC.out.mono ?_
  rintro e w2 ⟨rfl, hg2⟩
  have hX := H0.out.2.then hg2
  have x0 := hX.cells 0 _ rfl
  have x1 := hX.cells 1 _ rfl
  have x2 := hX.cells 2 _ rfl
  have HA' := hide (HA.out w2 (H0.out.1.then hg2))
  have HX := hide hX.st
  clear hX hg2 H0 HN HC HA
  go_wp2_with fail
  refine HA'.out.mono ?_
  rintro e w3 ⟨rfl, q, g1, g2⟩
  have HF := hide (And.intro g1 (HX.out.trans g2))
  clear g1 g2 HX HA'
  go_wp2
  go_ret
  exact ⟨rfl, q, HF.out⟩
set_option maxHeartbeats 4000000 in
theorem apply_5 (h : BkAt w p S K) (ho : S.Ok) (hK : K ≤ 10000000) (c : Int) (hc : c ≤ mxC) (hr : Rc.Ok ⟨5, 0, 0, 0, c⟩) (hm : Rc.May ⟨5, 0, 0, 0, c⟩) (hT : Rk.Tab w) : Calls Tryz.prog 36 #[.pointer (some ⟨p.b, 0, none⟩), Rk.rcV ⟨5, 0, 0, 0, c⟩] w fun e w' => e = .returned (.int .i64 (if c ≤ S.t then (173 : Int) else 0)) ∧ ∃ q, BkAt w' q (if c ≤ S.t then S else { S with L := tik S.L c, t := c }) (K + 1) ∧ Bst w w' p q := by
  have b0 := Bx.start h.lt [.int .i64 5, .int .u32 0, .int .i64 0, .int .i64 0, .int .i64 c] 46
  have h0 := h.then (grown_alloc w (.cells [Value.int .i64 5, .int .u32 0, .int .i64 0, .int .i64 0, .int .i64 c].toArray 46))
  have HN := hide h0.isNone
  have HC := hide (Rk.check_any ⟨5, 0, 0, 0, c⟩ hr _ (hT.new (grown_alloc w (.cells [Value.int .i64 5, .int .u32 0, .int .i64 0, .int .i64 0, .int .i64 c].toArray 46))))
  rw [show Rk.chk ⟨5, 0, 0, 0, c⟩ = 0 from if_pos hm] at HC
  have HA : Hid (∀ W, BkAt W p S K → Calls Tryz.prog 63 #[.pointer (some ⟨p.b, 0, none⟩), .int .i64 c] W fun e w' => e = .returned (.int .i64 (if c ≤ S.t then (173 : Int) else 0)) ∧ ∃ q, BkAt w' q (if c ≤ S.t then S else { S with L := tik S.L c, t := c }) (K + 1) ∧ Bst W w' p q) := by
    intro W hW
    refine (tick_any hW ho.wk hK c hc).mono ?_
    rintro e w' ⟨rfl, q, g1, g2⟩
    exact ⟨rfl, q, g1.mono (by omega), g2⟩
  have H0 := hide (And.intro h0 b0)
  clear h h0 b0 hr hm hT ho
  generalize (if c ≤ S.t then S else { S with L := tik S.L c, t := c }) = S' at *
  generalize (if c ≤ S.t then (173 : Int) else 0) = res at *
  unfold Rk.rcV at *
  go_enter Tryz.func36, Tryz.ntmps36
  go_wp2_with fail
  refine HN.out.mono ?_
  rintro e w1 ⟨rfl, rfl⟩
  go_wp2_with fail
  refine HC.out.mono ?_
  rintro e w2 ⟨rfl, hg2⟩
  have hX := H0.out.2.then hg2
  have x0 := hX.cells 0 _ rfl
  have x4 := hX.cells 4 _ rfl
  have HA' := hide (HA.out w2 (H0.out.1.then hg2))
  have HX := hide hX.st
  clear hX hg2 H0 HN HC HA
  go_wp2_with fail
  refine HA'.out.mono ?_
  rintro e w3 ⟨rfl, q, g1, g2⟩
  have HF := hide (And.intro g1 (HX.out.trans g2))
  clear g1 g2 HX HA'
  go_wp2
  go_ret
  exact ⟨rfl, q, HF.out⟩
/-- Any record. -/
theorem apply_any (h : BkAt w p S K) (ho : S.Ok) (hK : K ≤ 10000000) (r : Rc) (hr : r.Ok) (hT : Rk.Tab w) : Calls Tryz.prog 36 #[.pointer (some ⟨p.b, 0, none⟩), Rk.rcV r] w fun e w' => e = .returned (.int .i64 (appE S r)) ∧ ∃ q, BkAt w' q (app S r) (K + 1) ∧ Bst w w' p q := by
  obtain ⟨k, i, s, u, c⟩ := r
  by_cases hm : Rc.May ⟨k, i, s, u, c⟩
  · have hi1 := hr.i1
    have hi0 := hr.i0
    simp only at hi0 hi1
    obtain ⟨n, rfl⟩ : ∃ n : Nat, i = (n : Int) := ⟨i.toNat, by omega⟩
    have hk := may_kind hm
    simp only at hk
    have hE : ∀ {e : Int} {S' S'' : Sb}, appE S ⟨k, (n : Int), s, u, c⟩ = e → (e = 0 → appS S ⟨k, (n : Int), s, u, c⟩ = S') → (e ≠ 0 → S' = S) → app S ⟨k, (n : Int), s, u, c⟩ = S' := by
      intro e S' _ h1 h2 h3
      by_cases h4 : e = 0
      · rw [app_yes (by rw [h1, h4]), h2 h4]
      · rw [app_no (by rw [h1]; exact h4), h3 h4]
    rcases hk with rfl | rfl | rfl | rfl | rfl
    · have hv : 0 ≤ s ∧ c = 0 := by unfold Rc.May at hm; simp only at hm; omega
      obtain ⟨hs, rfl⟩ := hv
      obtain ⟨m, rfl⟩ : ∃ m : Nat, s = (m : Int) := ⟨s.toNat, by omega⟩
      have h1 : appE S ⟨1, (n : Int), (m : Int), u, 0⟩ = holdE S ⟨1, (n : Int), (m : Int), u, 0⟩ := by unfold appE; rw [if_neg (fun e => e hm)]; rfl
      rw [h1, hE (S'' := S) (S' := if holdE S ⟨1, (n : Int), (m : Int), u, 0⟩ = 0 then { S with L := S.L ++ [⟨n, m, u⟩], n := S.n + 1 } else S) h1 (fun e => by rw [if_pos e]; rfl) (fun e => if_neg e)]
      exact apply_1 h ho hK n m u (by omega) hr hm hT
    · have hv : s = 0 ∧ u = 0 ∧ c = 0 := by unfold Rc.May at hm; simp only at hm; omega
      obtain ⟨rfl, rfl, rfl⟩ := hv
      have h1 : appE S ⟨2, (n : Int), 0, 0, 0⟩ = if (fnd S.L n).isSome then 0 else 171 := by unfold appE; rw [if_neg (fun e => e hm)]; rfl
      rw [h1, hE (S'' := S) (S' := { S with L := (fnd S.L n).elim S.L fun x => upd S.L x.i { x with u := 0 } }) h1 (fun e => rfl) (fun e => by
        cases hf : fnd S.L n with
        | none => rfl
        | some x => rw [hf] at e; exact absurd rfl e)]
      exact apply_2 h ho hK n (by omega) hr hm hT
    · have hv : s = 0 ∧ u = 0 ∧ c = 0 := by unfold Rc.May at hm; simp only at hm; omega
      obtain ⟨rfl, rfl, rfl⟩ := hv
      have h1 : appE S ⟨3, (n : Int), 0, 0, 0⟩ = if (fnd S.L n).isSome then 0 else 171 := by unfold appE; rw [if_neg (fun e => e hm)]; rfl
      rw [h1, hE (S'' := S) (S' := { S with L := del S.L n }) h1 (fun e => rfl) (fun e => by
        cases hf : fnd S.L n with
        | none =>
          have : del S.L n = S.L := by
            unfold del
            rw [List.filter_eq_self]
            intro y hy
            simpa using fnd_none.1 hf y hy
          rw [this]
        | some x => rw [hf] at e; exact absurd rfl e)]
      exact apply_3 h ho hK n (by omega) hr hm hT
    · have hv : 0 ≤ s ∧ u = 0 ∧ c = 0 := by unfold Rc.May at hm; simp only at hm; omega
      obtain ⟨hs, rfl, rfl⟩ := hv
      obtain ⟨m, rfl⟩ : ∃ m : Nat, s = (m : Int) := ⟨s.toNat, by omega⟩
      have h1 : appE S ⟨4, (n : Int), (m : Int), 0, 0⟩ = reseatE S n m := by unfold appE; rw [if_neg (fun e => e hm)]; rfl
      rw [h1, hE (S'' := S) (S' := if reseatE S n m = 0 then { S with L := (fnd S.L n).elim S.L fun x => upd S.L x.i { x with s := m } } else S) h1 (fun e => by rw [if_pos e]; rfl) (fun e => if_neg e)]
      exact apply_4 h ho hK n m (by omega) hr hm hT
    · have hv : n = 0 ∧ s = 0 ∧ u = 0 ∧ c ≤ mxC := by unfold Rc.May at hm; simp only at hm; omega
      obtain ⟨rfl, rfl, rfl, hc⟩ := hv
      have h1 : appE S ⟨5, ((0 : Nat) : Int), 0, 0, c⟩ = if c ≤ S.t then 173 else 0 := by unfold appE; rw [if_neg (fun e => e hm)]; rfl
      rw [h1, hE (S'' := S) (S' := if c ≤ S.t then S else { S with L := tik S.L c, t := c }) h1 (fun e => by
        by_cases h5 : c ≤ S.t
        · rw [if_pos h5] at e; cases e
        · rw [if_neg h5]; rfl) (fun e => by
        by_cases h5 : c ≤ S.t
        · rw [if_pos h5]
        · rw [if_neg h5] at e; exact absurd rfl e)]
      exact apply_5 h ho hK c hc hr hm hT
  · have h1 : appE S ⟨k, i, s, u, c⟩ = 160 := by unfold appE; rw [if_pos hm]
    rw [h1, app_no (by rw [h1]; decide)]
    exact apply_0 h k i s u c hr hm hT
end
end Go.Proofs.YtcbiloomnkbalaaGreatDoor
/- What goes through all items. -/
namespace Go.Proofs.YtcbiloomnkbalaaGreatDoor.Ix
open Go.RowKit Go.Shelf
attribute [local go_sem] Oper.semAt_some
def en (E : List (Nat × Int)) (i : Nat) : Nat × Int := (E[i]?).getD (0, 0)
def encE (x : Nat × Int) : Array Value := #[.int .u32 (x.1 : Int), .int .i64 x.2]
/-- The row that is gone through. -/
structure ItE (W : World) (B : Nat) (so : Option Addr) (cap : Nat) (X : List (Nat × Int)) : Prop where
  box : W.heap[B]? = some (.cells [Value.slice so X.length cap].toArray 152 (0, 0))
  le : X.length ≤ cap
  row : ∀ i, i < X.length → ∃ g, so = some ⟨g, 0, none⟩ ∧ W.cell? ⟨g, i * 2, none⟩ = some (.int .u32 ((en X i).1 : Int)) ∧ W.cell? ⟨g, i * 2 + 1, none⟩ = some (.int .i64 (en X i).2)
theorem ItE.grown {W W' : World} {B : Nat} {so : Option Addr} {cap : Nat} {X : List (Nat × Int)} (h : ItE W B so cap X) (g : W.grownBy W' none) : ItE W' B so cap X :=
  ⟨(g.block _ (row_lt h.box) (by simp)).trans h.box, h.le, fun i hi => by obtain ⟨q, h1, h2, h3⟩ := h.row i hi; exact ⟨q, h1, g.cell h2 (by simp), g.cell h3 (by simp)⟩⟩
theorem take_en {X : List (Nat × Int)} {i : Nat} (h : i < X.length) : X.take i ++ [en X i] = X.take (i + 1) := by
  rw [List.take_add_one, List.getElem?_eq_getElem h]
  unfold en
  rw [List.getElem?_eq_getElem h]
  rfl
/-- How many rounds are left. -/
def leftE (n : Nat) (q : Value) : Nat := match q with | .int _ i => n - i.toNat | _ => 0
theorem leftE_nat (n i : Nat) : leftE n (.int .i64 (i : Int)) = n - i := by simp [leftE]
end Go.Proofs.YtcbiloomnkbalaaGreatDoor.Ix
/- The library's sort (WholeK), laid at this program, in plain words: shelf_lay_g SlLaysF0.n6 Slsf 6 at Tryz 101 as Tryz.sortE, by lay-plain.mjs. -/
namespace Go.Proofs
open Go.Shelf
def Tryz.sortE_ren : Go.Shelf.Ren := ⟨fun | 6 => 101 | 15 => 117 | 14 => 116 | 28 => 132 | 29 => 133 | 20 => 124 | 21 => 125 | 22 => 126 | 23 => 127 | 24 => 128 | 25 => 129 | 26 => 130 | 27 => 131 | 46 => 138 | 47 => 139 | 48 => 140 | 49 => 141 | 50 => 142 | 57 => 143 | n => n, fun | 22 => 152 | 24 => 146 | 25 => 156 | 3 => 3 | 39 => 169 | 0 => 0 | 53 => 24 | 55 => 129 | 4 => 4 | 46 => 174 | 45 => 173 | 50 => 127 | 5 => 5 | 9 => 9 | 66 => 181 | 70 => 185 | 76 => 187 | 77 => 188 | n => n, fun | n => n⟩
theorem Tryz.sortE : Go.Proofs.SlLaysF0.n6 Tryz.prog Tryz.sortE_ren := {
  mixed := by kernel_rfl
  f6 := ⟨Tryz.f101.name, by decide, Tryz.func101.trans (congrArg some (by kernel_rfl))⟩
  f14 := ⟨Tryz.f116.name, by decide, Tryz.func116.trans (congrArg some (by kernel_rfl))⟩
  f15 := Tryz.func117.trans (congrArg some (by kernel_rfl))
  f20 := ⟨Tryz.f124.name, by decide, Tryz.func124.trans (congrArg some (by kernel_rfl))⟩
  f21 := ⟨Tryz.f125.name, by decide, Tryz.func125.trans (congrArg some (by kernel_rfl))⟩
  f22 := ⟨Tryz.f126.name, by decide, Tryz.func126.trans (congrArg some (by kernel_rfl))⟩
  f23 := ⟨Tryz.f127.name, by decide, Tryz.func127.trans (congrArg some (by kernel_rfl))⟩
  f24 := ⟨Tryz.f128.name, by decide, Tryz.func128.trans (congrArg some (by kernel_rfl))⟩
  f25 := ⟨Tryz.f129.name, by decide, Tryz.func129.trans (congrArg some (by kernel_rfl))⟩
  f26 := ⟨Tryz.f130.name, by decide, Tryz.func130.trans (congrArg some (by kernel_rfl))⟩
  f27 := ⟨Tryz.f131.name, by decide, Tryz.func131.trans (congrArg some (by kernel_rfl))⟩
  f28 := Tryz.func132.trans (congrArg some (by kernel_rfl))
  f29 := Tryz.func133.trans (congrArg some (by kernel_rfl))
  f46 := ⟨Tryz.f138.name, by decide, Tryz.func138.trans (congrArg some (by kernel_rfl))⟩
  f47 := Tryz.func139.trans (congrArg some (by kernel_rfl))
  f48 := Tryz.func140.trans (congrArg some (by kernel_rfl))
  f49 := ⟨Tryz.f141.name, by decide, Tryz.func141.trans (congrArg some (by kernel_rfl))⟩
  f50 := ⟨Tryz.f142.name, by decide, Tryz.func142.trans (congrArg some (by kernel_rfl))⟩
  f57 := ⟨Tryz.f143.name, by decide, Tryz.func143.trans (congrArg some (by kernel_rfl))⟩
  t0 := Tryz.underlying0
  a0 := Tryz.isAgg0
  z0 := Tryz.sizeOf0
  v0 := Tryz.zeroValue0
  t3 := Tryz.underlying3
  a3 := Tryz.isAgg3
  z3 := Tryz.sizeOf3
  v3 := Tryz.zeroValue3
  t4 := Tryz.underlying4
  a4 := Tryz.isAgg4
  z4 := Tryz.sizeOf4
  v4 := Tryz.zeroValue4
  t5 := Tryz.underlying5
  a5 := Tryz.isAgg5
  z5 := Tryz.sizeOf5
  v5 := Tryz.zeroValue5
  t9 := Tryz.underlying9
  a9 := Tryz.isAgg9
  z9 := Tryz.sizeOf9
  v9 := Tryz.zeroValue9
  t22 := Tryz.underlying152
  a22 := Tryz.isAgg152
  z22 := Tryz.sizeOf152
  v22 := Tryz.zeroValue152
  t25 := Tryz.underlying156
  a25 := Tryz.isAgg156
  z25 := Tryz.sizeOf156
  v25 := Tryz.zeroValue156
  t39 := Tryz.underlying169
  a39 := Tryz.isAgg169
  z39 := Tryz.sizeOf169
  v39 := Tryz.zeroValue169
  t45 := Tryz.underlying173
  a45 := Tryz.isAgg173
  z45 := Tryz.sizeOf173
  v45 := Tryz.zeroValue173
  t46 := Tryz.underlying174
  a46 := Tryz.isAgg174
  z46 := Tryz.sizeOf174
  v46 := Tryz.zeroValue174
  t50 := Tryz.underlying127
  a50 := Tryz.isAgg127
  z50 := Tryz.sizeOf127
  v50 := Tryz.zeroValue127
  t53 := Tryz.underlying24
  a53 := Tryz.isAgg24
  z53 := Tryz.sizeOf24
  v53 := Tryz.zeroValue24
  t55 := Tryz.underlying129
  a55 := Tryz.isAgg129
  z55 := Tryz.sizeOf129
  v55 := Tryz.zeroValue129
  t66 := Tryz.underlying181
  a66 := Tryz.isAgg181
  z66 := Tryz.sizeOf181
  v66 := Tryz.zeroValue181
  t70 := Tryz.underlying185
  a70 := Tryz.isAgg185
  z70 := Tryz.sizeOf185
  v70 := Tryz.zeroValue185
  t76 := Tryz.underlying187
  a76 := Tryz.isAgg187
  z76 := Tryz.sizeOf187
  v76 := Tryz.zeroValue187
  t77 := Tryz.underlying188
  a77 := Tryz.isAgg188
  z77 := Tryz.sizeOf188
  v77 := Tryz.zeroValue188 }
end Go.Proofs
