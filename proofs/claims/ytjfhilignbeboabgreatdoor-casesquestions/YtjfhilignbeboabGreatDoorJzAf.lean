/- Texts joined: Bk6, Bk8, Bk9, BkB, BkA, BkE, IxIg, IxSh, IxIh, IxIi, IxIj. -/
import Derived.Test.YtjfhilignbeboabGreatDoorJzAe
import Derived.Deep.CutRange
import Derived.Deep.DeepCutAuto
import Derived.RangeFuncNested
import Derived.RangeFuncBound
import Derived.RangeFuncCalls
import Derived.RangeFuncLeaves
import Derived.RangeFuncBox
import Derived.Shelf.Abstract
import Derived.Shelf.RegionOpen
import Derived.OwnWalkIn
import Derived.TacticsInMore
import Derived.LoopNIn
import Derived.LoopIn
import Derived.Shelf.SlSortCmp.WholeK
import Derived.Ground.SlsfProg
import Derived.Shelf.SlSortCmp.NoneTotal
import Derived.Sort.OwnSorted
import Derived.OrdersIn
import Derived.OrdersHeld
import Derived.Deep.RegionHeld
import Derived.Deep.Quiet
/- A booking added to a book. -/
namespace Go.Proofs.YtjfhilignbeboabGreatDoor
open Go.RowKit
attribute [local go_sem ↓] Go.wp_at_zero Go.wp_at_succ
/-- A book, and as many items as were due in it at most. -/
def BkAt (w : World) (p : Bp) (S : Sb) (K : Nat) : Prop := ∃ Lb R M E T N B C, BkR w p S Lb R M E T N B C (hmf E) ∧ Rel S Lb R M E ∧ N ≤ K ∧ B + E.length ≤ 2 * N ∧ C ≤ N
theorem few_due : ∀ {E : List (Nat × Int)} {L : List Bg}, (E.Pairwise fun e f => e.2 ≠ f.2) → (∀ e ∈ E, ∃ x ∈ L, (x.i : Int) = e.2) → E.length ≤ L.length
  | [], _, _, _ => Nat.zero_le _
  | e :: E, L, h3, h1 => by
    obtain ⟨x, hx, hxe⟩ := h1 e (List.mem_cons_self ..)
    obtain ⟨h4, h5⟩ := List.pairwise_cons.1 h3
    have ih := few_due (E := E) (L := del L x.i) h5 (fun f hf => by
      obtain ⟨y, hy, hyf⟩ := h1 f (List.mem_cons_of_mem _ hf)
      exact ⟨y, del_mem.2 ⟨hy, fun e2 => h4 f hf (by rw [← hxe, ← hyf, e2])⟩, hyf⟩)
    have hl : (del L x.i).length < L.length := by
      unfold del
      rw [List.length_filter_lt_length_iff_exists]
      exact ⟨x, hx, by simp⟩
    simp
    omega
theorem Rel.few {S : Sb} {Lb : List Bool} {R : List Bg} {M E : List (Nat × Int)} (h : Rel S Lb R M E) : E.length ≤ S.L.length :=
  few_due h.e3 (fun e he => by obtain ⟨x, hx, h1, -⟩ := h.e1 e he; exact ⟨x, hx, h1⟩)
/-- A box beside a book. -/
structure Bx (w W : World) (X : Nat) (cs : List Value) (ty : TypeId) (p q : Bp) : Prop where
  box : W.heap[X]? = some (.cells cs.toArray ty (0, 0))
  st : Bst w W p q
  nx : ¬ q.own X
  lo : w.heap.size ≤ X
section
variable {w W W' : World} {X : Nat} {cs : List Value} {ty : TypeId} {p q q' : Bp}
theorem Bx.step (h : Bx w W X cs ty p q) (k : Bst W W' q q') : Bx w W' X cs ty p q' :=
  ⟨k.kept.at h.box h.nx, h.st.trans k, fun e => by
    rcases k.own _ e with e | e
    · exact h.nx e
    · have := row_lt h.box; omega, h.lo⟩
theorem Bx.keep (h : Bx w W X cs ty p q) (k : Kept W W' q.own) : Bx w W' X cs ty p q := h.step (Bst.keep k)
theorem Bx.then (h : Bx w W X cs ty p q) (k : W.grownBy W' none) : Bx w W' X cs ty p q := h.keep (Kept.new k _)
theorem Bx.cells (h : Bx w W X cs ty p q) : ∀ j v, cs[j]? = some v → W.cell? ⟨X, j, none⟩ = some v := fun j v hv => by rw [cell_row h.box]; exact hv
theorem Bx.start {w : World} {p : Bp} (hlt : ∀ i, p.own i → i < w.heap.size) (cs : List Value) (ty : TypeId) : Bx w (w.alloc (.cells cs.toArray ty)) w.heap.size cs ty p p :=
  ⟨heap_alloc_new w _, Bst.grown (grown_alloc w _) p, fun e => Nat.lt_irrefl _ (hlt _ e), Nat.le_refl _⟩
end
section
variable {w w' : World} {p q : Bp} {S : Sb} {Lb Lb' : List Bool} {R : List Bg} {M E : List (Nat × Int)} {T : List Nat} {N B C K : Nat} {f : Int → Option Nat}
/-- Another seat's booking leaves an id's until as it is. -/
theorem tl_set {M : List (Nat × Int)} {R : List Bg} {k s : Nat} {y : Bg} (h : Ix.lk M k ≠ some (s : Int)) (hm : ∀ y ∈ M, 0 ≤ y.2) (ha : Ix.Asc M) : tl M (R.set s y) k = tl M R k := by
  unfold tl
  cases hq : Ix.lk M k with
  | none => rfl
  | some t =>
    have h0 : 0 ≤ t := hm (k, t) ((Ix.lk_some ha).1 hq)
    have hne : ¬ s = t.toNat := fun e => h (by rw [hq, e]; congr 1; omega)
    simp [List.getElem?_set, hne]
theorem seat_lies (h : BkR w p S Lb R M E T N B C f) {s : Nat} (hs : s < R.length) : (∃ a b c, w.cell? ⟨p.sg, s * 3, none⟩ = some a ∧ w.cell? ⟨p.sg, s * 3 + 1, none⟩ = some b ∧ w.cell? ⟨p.sg, s * 3 + 2, none⟩ = some c) ∧ (∀ j, w.frozen? ⟨p.sg, j, none⟩ = false) := by
  obtain ⟨h1, h2, h3⟩ := h.fd.seat hs
  exact ⟨⟨_, _, _, h1, h2, h3⟩, fun j => free_row h.row j⟩
/-- A booking is written at its seat. -/
theorem BkR.laid (h : BkR w p S Lb R M E T N B C f) (s : Nat) (y : Bg) (ht : ∀ e ∈ E, Ix.lk M e.2.toNat ≠ some (s : Int)) : BkR (((w.setCell ⟨p.sg, s * 3, none⟩ (.int .u32 (y.i : Int))).setCell ⟨p.sg, s * 3 + 1, none⟩ (.int .i64 (y.s : Int))).setCell ⟨p.sg, s * 3 + 2, none⟩ (.int .i64 y.u)) p S Lb (R.set s y) M E T N B C f ∧ Kept w (((w.setCell ⟨p.sg, s * 3, none⟩ (.int .u32 (y.i : Int))).setCell ⟨p.sg, s * 3 + 1, none⟩ (.int .i64 (y.s : Int))).setCell ⟨p.sg, s * 3 + 2, none⟩ (.int .i64 y.u)) p.own := by
  obtain ⟨lo, h1⟩ := h.ix
  refine h.seated (grown_trans (grown_trans (grown_setCell w _ _ _) (grown_setCell _ _ _ _)) (grown_setCell _ _ _ _)) ?_ (by simp) (fun e he => tl_set (ht e he) (fun y hy => (h.mi y hy).1) h1.asc)
  rw [bgs_set]
  exact row_setCell (row_setCell (row_setCell h.row _ _) _ _) _ _
set_option maxHeartbeats 4000000 in
theorem add_any (h : BkAt w p S K) (hw : S.Wk) (hK : K ≤ 10000000) (x : Bg) (hi : x.i < 4294967296) (hs : x.s < S.a) (ha : ∀ y ∈ S.L, y.i < x.i) (hn : sat S.L x.s = none) (hf : S.L.length < S.b) :
    Calls Tryz.prog 35 #[.pointer (some ⟨p.b, 0, none⟩), bgV x] w fun e w' => e = .returned (.tuple #[]) ∧ ∃ q, BkAt w' q { S with L := S.L ++ [x] } (K + 1) ∧ Bst w w' p q := by
  obtain ⟨Lb, R, M, E, T, N, B, C, h, hR, hN, hB, hC⟩ := h
  have hasc : Ix.Asc M := by obtain ⟨lo, h1⟩ := h.ix; exact h1.asc
  have hE : E.length < 65536 := by have := hR.few; have := hw.b1; omega
  have hLb : x.s < Lb.length := by rw [hR.lb]; exact hs
  have hRs : x.s < R.length := by rw [hR.rl]; exact hs
  have hno : fnd S.L x.i = none := fnd_none.2 (fun y hy e => by have := ha y hy; omega)
  have hlk : Ix.lk M x.i = none := by rw [hR.m, lk_mx, hno]; rfl
  have hml : M.length < S.b := by rw [hR.m, mx_length]; exact hf
  have hid : ∀ e ∈ E, e.2.toNat ≠ x.i := fun e he e2 => by
    obtain ⟨y, hy, h1, -⟩ := hR.e1 e he
    have := ha y hy
    omega
  have hst : ∀ e ∈ E, Ix.lk M e.2.toNat ≠ some (x.s : Int) := fun e he e2 => by
    obtain ⟨y, hy, h1, -⟩ := hR.e1 e he
    have h2 : e.2.toNat = y.i := by omega
    rw [h2, hR.m, lk_mx, (fnd_some hw.asc).2 ⟨hy, rfl⟩] at e2
    have e3 := Option.some.inj e2
    exact sat_none.1 hn y hy (Int.ofNat.inj e3)
  have b0 := Bx.start h.lt (bgc x) 34
  have h0 := h.then (grown_alloc w (.cells (bgc x).toArray 34))
  have HF : Hid (∀ W q E' T' N' B' C', BkR W q S (Lb.set x.s true) (R.set x.s x) (Ix.ins M (x.i, (x.s : Int))) E' T' N' B' C' (hmf E') → Bst w W p q → (x.u = 0 ∧ E' = E ∧ N' = N ∧ B' = B ∧ C' = C ∨ x.u ≠ 0 ∧ E' = E ++ [(N, (x.i : Int))] ∧ N' = N + 1 ∧ B' = B + 1 ∧ C' = C + 1) → ∃ q, BkAt W q { S with L := S.L ++ [x] } (K + 1) ∧ Bst w W p q) := by
    intro W q E' T' N' B' C' h1 h2 h3
    refine ⟨q, ⟨_, _, _, E', T', N', B', C', ⟨h1.head, h1.var, h1.set, h1.row, h1.ix, h1.due, h1.map, h1.ap, h1.z, h1.rl, h1.im, h1.sa, h1.mi⟩, ?_⟩, h2⟩
    rcases h3 with ⟨h3, rfl, rfl, rfl, rfl⟩ | ⟨h3, rfl, rfl, rfl, rfl⟩
    · exact ⟨hR.add hw hs ha hn h3, by omega, hB, hC⟩
    · exact ⟨hR.addH hw hs ha hn h3 N, by omega, by simp; omega, by omega⟩
  have HC1 : Hid (∀ W, (w.alloc (.cells (bgc x).toArray 34)).grownBy W none → Calls Tryz.prog 58 #[.pointer (some ⟨p.tb, 0, none⟩), .int .i64 (x.s : Int)] W fun e w' => e = .returned (.int .i64 0) ∧ BkR w' p S (Lb.set x.s true) R M E T N B C (hmf E) ∧ Bx w w' w.heap.size (bgc x) 34 p p) := by
    intro W hg
    refine (put_bk (h0.then hg) x.s hLb).mono ?_
    rintro e w' ⟨rfl, h1, h2⟩
    exact ⟨rfl, h1, (b0.then hg).keep h2⟩
  have HC3 : Hid (∀ W, BkR W p S (Lb.set x.s true) (R.set x.s x) M E T N B C (hmf E) → Bx w W w.heap.size (bgc x) 34 p p → Calls Tryz.prog 59 #[.pointer (some ⟨p.ip.x, 0, none⟩), .int .u32 (x.i : Int), .int .i64 (x.s : Int)] W fun e w' => e = .returned (.int .i64 0) ∧ BkR w' p S (Lb.set x.s true) (R.set x.s x) (Ix.ins M (x.i, (x.s : Int))) E T N B C (hmf E) ∧ Bx w w' w.heap.size (bgc x) 34 p p) := by
    intro W h1 h2
    refine (ixput_bk h1 x.i x.s hi (by simp; exact hRs) hlk hml hid).mono ?_
    rintro e w' ⟨rfl, h3, h4⟩
    exact ⟨rfl, h3, h2.keep h4⟩
  have HC5 : Hid (∀ W, BkR W p S (Lb.set x.s true) (R.set x.s x) (Ix.ins M (x.i, (x.s : Int))) E T N B C (hmf E) → Bx w W w.heap.size (bgc x) 34 p p → Calls Tryz.prog 60 #[.pointer (some ⟨p.hp.h, 0, none⟩), .int .u32 (x.i : Int)] W fun e w' => e = .returned (.tuple #[.int .i64 (N : Int), .int .i64 0]) ∧ ∃ q T', BkR w' q S (Lb.set x.s true) (R.set x.s x) (Ix.ins M (x.i, (x.s : Int))) (E ++ [(N, (x.i : Int))]) T' (N + 1) (B + 1) C (hmf E) ∧ Bx w w' w.heap.size (bgc x) 34 p q) := by
    intro W h1 h2
    refine (push_bk h1 hE (by omega) (by omega) x.i hi).mono ?_
    rintro e w' ⟨rfl, q, T', h3, h4⟩
    exact ⟨rfl, q, T', h3, h2.step h4⟩
  have HL : Hid (∀ W, BkR W p S (Lb.set x.s true) R M E T N B C (hmf E) → (∃ a b c, W.cell? ⟨p.sg, x.s * 3, none⟩ = some a ∧ W.cell? ⟨p.sg, x.s * 3 + 1, none⟩ = some b ∧ W.cell? ⟨p.sg, x.s * 3 + 2, none⟩ = some c) ∧ (∀ j, W.frozen? ⟨p.sg, j, none⟩ = false) ∧ ∀ W', W' = ((W.setCell ⟨p.sg, x.s * 3, none⟩ (.int .u32 (x.i : Int))).setCell ⟨p.sg, x.s * 3 + 1, none⟩ (.int .i64 (x.s : Int))).setCell ⟨p.sg, x.s * 3 + 2, none⟩ (.int .i64 x.u) → BkR W' p S (Lb.set x.s true) (R.set x.s x) M E T N B C (hmf E) ∧ Kept W W' p.own) := by
    intro W h1
    obtain ⟨h2, h3⟩ := seat_lies h1 hRs
    exact ⟨h2, h3, fun W' e => by rw [e]; exact h1.laid x.s x hst⟩
  have HM : Hid (∀ W q T', BkR W q S (Lb.set x.s true) (R.set x.s x) (Ix.ins M (x.i, (x.s : Int))) (E ++ [(N, (x.i : Int))]) T' (N + 1) (B + 1) C (hmf E) → q.hm = p.hm → ∃ W', (Instr.mapUpdate 75 (.map (some p.hm)) (.int .u32 (x.i : Int)) (.int .i64 (N : Int))).run Tryz.prog W = .ok () W' ∧ BkR W' q S (Lb.set x.s true) (R.set x.s x) (Ix.ins M (x.i, (x.s : Int))) (E ++ [(N, (x.i : Int))]) T' (N + 1) (B + 1) (C + 1) (hmf (E ++ [(N, (x.i : Int))])) ∧ Kept W W' q.own) := by
    intro W q T' h1 hq
    obtain ⟨W', hrun, hmap, hg⟩ := h1.map.store (by first | exact Tryz.underlying23 | kernel_rfl) Tryz.underlying75 (by unfold maxLen; omega) (wf_u32 hi) (.int .i64 (N : Int))
    rw [hq] at hrun
    refine ⟨W', hrun, h1.mapped hg (hmap.congr (fun y => ?_))⟩
    rw [← hmf_push (fun e he e2 => hid e he (by omega))]
    split <;> rfl
  have hsa : S.a ≤ 1024 := hw.a1
  have hrl := h.rl
  have HB0 := hide (And.intro h0 b0)
  have c6 := h0.cells 6 _ rfl
  have x0 := b0.cells 0 _ rfl
  have x1 := b0.cells 1 _ rfl
  have x2 := b0.cells 2 _ rfl
  clear h h0 b0 hR hst hid hno hlk hml hasc ha hn hw
  obtain ⟨xi, xs, xu⟩ := x
  unfold bgV
  simp only [bgc] at *
  go_enter Tryz.func35, Tryz.ntmps35
  go_wp2
  go_region_held3 (fun W => W.cell? ⟨p.b, 6, none⟩ = some (.pointer (some ⟨p.tb, 0, none⟩)) ∧ W.cell? ⟨w.heap.size, 1, none⟩ = some (.int .i64 (xs : Int))) (first | assumption | exact ⟨c6, x1⟩)
    ((go_at_call 58; refine (HC1.out _ (grown_drew _ none)).mono ?_; rintro e w1 ⟨rfl, hA, hX⟩; have hK1 := And.intro (hA.cells 6 _ rfl) (hX.cells 1 _ rfl)))
  have H1 := hide (And.intro hA hX)
  obtain ⟨⟨va, vb', vc, y0, y1, y2⟩, y3, y4⟩ := HL.out w1 hA
  have HY := hide y4
  have b7 := hA.cells 7 _ rfl
  have z0 := hX.cells 0 _ rfl
  have z1 := hX.cells 1 _ rfl
  have z2 := hX.cells 2 _ rfl
  clear hK1 hA hX c6 x0 x1 x2 y4 HL HC1 HB0
  go_wp2
  go_region
  have q1 := HY.out _ rfl
  have hA2 := q1.1.then (grown_drew _ none)
  have hX2 := (H1.out.2.keep q1.2).then (grown_drew _ none)
  clear q1 HY H1 y0 y1 y2 y3 b7 z0 z1 z2
  generalize (((w1.setCell ⟨p.sg, xs * 3, none⟩ (.int .u32 (xi : Int))).setCell ⟨p.sg, xs * 3 + 1, none⟩ (.int .i64 (xs : Int))).setCell ⟨p.sg, xs * 3 + 2, none⟩ (.int .i64 xu)).drew = w2 at *
  have HC3' := hide (HC3.out w2.drew (hA2.then (grown_drew _ none)) (hX2.then (grown_drew _ none)))
  have b8 := hA2.cells 8 _ rfl
  have z0 := hX2.cells 0 _ rfl
  have z1 := hX2.cells 1 _ rfl
  clear hA2 hX2 HC3
  go_wp2
  go_region_held3 (fun W => W.cell? ⟨p.b, 8, none⟩ = some (.pointer (some ⟨p.ip.x, 0, none⟩)) ∧ W.cell? ⟨w.heap.size, 0, none⟩ = some (.int .u32 (xi : Int)) ∧ W.cell? ⟨w.heap.size, 1, none⟩ = some (.int .i64 (xs : Int))) (first | assumption | exact ⟨b8, z0, z1⟩)
    ((go_at_call 59; refine HC3'.out.mono ?_; rintro e w3 ⟨rfl, hA, hX⟩; have hK1 := And.intro (hA.cells 8 _ rfl) (And.intro (hX.cells 0 _ rfl) (hX.cells 1 _ rfl))))
  have H3 := hide (And.intro hA hX)
  have b9 := hA.cells 9 _ rfl
  have b10 := hA.cells 10 _ rfl
  have z0 := hX.cells 0 _ rfl
  have z2 := hX.cells 2 _ rfl
  have HC5' := hide (HC5.out w3.drew (hA.then (grown_drew _ none)) (hX.then (grown_drew _ none)))
  clear hK1 hA hX b8 HC3' HC5
  by_cases hu : xu = 0
  · have hF := HF.out w3 p E T N B C H3.out.1 H3.out.2.st (.inl ⟨hu, rfl, rfl, rfl, rfl⟩)
    have HFF := hide hF
    clear hF HF H3
    subst hu
    go_wp2
    go_end0
    exact ⟨rfl, HFF.out⟩
  · have hu1 : (xu == 0) = false := by simpa using hu
    have hu2 : (xu != 0) = true := by simpa using hu
    have hu3 : decide (xu = 0) = false := by simpa using hu
    go_wp2
    go_region_held3 (fun W => W.cell? ⟨p.b, 9, none⟩ = some (.pointer (some ⟨p.hp.h, 0, none⟩)) ∧ W.cell? ⟨p.b, 10, none⟩ = some (.map (some p.hm)) ∧ W.cell? ⟨w.heap.size, 0, none⟩ = some (.int .u32 (xi : Int))) (first | assumption | exact ⟨b9, b10, z0⟩)
      ((go_at_call 60; refine HC5'.out.mono ?_; rintro e w4 ⟨rfl, q, T', hA, hX⟩; have hcl : ∀ j v, (bkc p S)[j]? = some v → w4.cell? ⟨p.b, j, none⟩ = some v := (by have h9 := hA.cells; rw [hX.st.bkc, hX.st.b] at h9; exact h9); have hk4 := And.intro (hcl 9 _ rfl) (And.intro (hcl 10 _ rfl) (hX.cells 0 _ rfl)); obtain ⟨w5, hrun, hB5, hK5⟩ := HM.out w4 q T' hA hX.st.hm; have hX5 := hX.keep hK5; have hcl5 : ∀ j v, (bkc p S)[j]? = some v → w5.cell? ⟨p.b, j, none⟩ = some v := (by have h9 := hB5.cells; rw [hX5.st.bkc, hX5.st.b] at h9; exact h9); have hk5 := And.intro (hcl5 9 _ rfl) (And.intro (hcl5 10 _ rfl) (hX5.cells 0 _ rfl)); have HE5 := hide (And.intro hB5 hX5); clear hcl hcl5 hA hX hB5 hX5 hK5))
    go_end0
    exact ⟨rfl, HF.out w5 q _ T' _ _ _ HE5.out.1 HE5.out.2.st (.inr ⟨hu, rfl, rfl, rfl, rfl⟩)⟩
end
end Go.Proofs.YtjfhilignbeboabGreatDoor
/- A booking removed; the one that is due first; another seat. -/
namespace Go.Proofs.YtjfhilignbeboabGreatDoor
open Go.RowKit
attribute [local go_sem ↓] Go.wp_at_zero Go.wp_at_succ
section
variable {w w' : World} {p q : Bp} {S : Sb} {Lb Lb' : List Bool} {R : List Bg} {M E : List (Nat × Int)} {T : List Nat} {N B C K : Nat} {f : Int → Option Nat}
theorem BkR.re {S' : Sb} (h : BkR w p S Lb R M E T N B C f) (ha : S'.a = S.a) (hb : S'.b = S.b) (hc : S'.c = S.c) (hn : S'.n = S.n) (ht : S'.t = S.t) : BkR w p S' Lb R M E T N B C f :=
  ⟨by have := h.head; unfold bkc at *; rw [ha, hb, hc, hn, ht]; exact this, h.var, h.set, h.row, h.ix, h.due, h.map, h.ap, h.z, by rw [ha]; exact h.rl, by rw [hb]; exact h.im, by rw [ha]; exact h.sa, h.mi⟩
theorem BkAt.lt (h : BkAt w p S K) : ∀ i, p.own i → i < w.heap.size := by obtain ⟨_, _, _, _, _, _, _, _, h, _⟩ := h; exact h.lt
theorem BkAt.far {X : Nat → Prop} (h : BkAt w p S K) (k : Kept w w' X) (hX : ∀ i, p.own i → ¬ X i) : BkAt w' p S K := by
  obtain ⟨Lb, R, M, E, T, N, B, C, h, h1⟩ := h; exact ⟨Lb, R, M, E, T, N, B, C, h.far k hX, h1⟩
theorem BkAt.then (h : BkAt w p S K) (k : w.grownBy w' none) : BkAt w' p S K := h.far (Kept.new k (fun _ => False)) (fun _ _ e => e)
theorem BkAt.mono (h : BkAt w p S K) {K' : Nat} (hk : K ≤ K') : BkAt w p S K' := by
  obtain ⟨Lb, R, M, E, T, N, B, C, h, h1, h2, h3, h4⟩ := h; exact ⟨Lb, R, M, E, T, N, B, C, h, h1, by omega, h3, h4⟩
theorem BkAt.cells (h : BkAt w p S K) : ∀ j v, (bkc p S)[j]? = some v → w.cell? ⟨p.b, j, none⟩ = some v := by obtain ⟨_, _, _, _, _, _, _, _, h, _⟩ := h; exact h.cells
theorem BkAt.z (h : BkAt w p S K) : ¬ p.own 0 := by obtain ⟨_, _, _, _, _, _, _, _, h, _⟩ := h; exact h.z
/-- The cells of no booking. -/
def bgz : List Value := [.int .u32 0, .int .i64 0, .int .i64 0]
end
end Go.Proofs.YtjfhilignbeboabGreatDoor
/- What a shape tells; a hold that may be. -/
namespace Go.Proofs.YtjfhilignbeboabGreatDoor
open Go.RowKit
attribute [local go_sem ↓] Go.wp_at_zero Go.wp_at_succ
def limV (a b c : Nat) : Value := .agg #[.int .i64 (a : Int), .int .i64 (b : Int), .int .i64 (c : Int)]
theorem hasSeat_any (a b c : Nat) (s : Int) (w : World) : Calls Tryz.prog 43 #[limV a b c, .int .i64 s] w fun e w' => e = .returned (.bool (decide (0 ≤ s ∧ s < (a : Int)))) ∧ w.grownBy w' none := by
  have hg : ∀ o, w.grownBy (w.alloc o) none := fun o => grown_alloc w o
  unfold limV
  by_cases h1 : 0 ≤ s
  · by_cases h2 : s < (a : Int)
    · rw [decide_eq_true (show 0 ≤ s ∧ s < (a : Int) from ⟨h1, h2⟩)]
      go_enter Tryz.func43, Tryz.ntmps43
      go_wp2
      go_ret
      exact ⟨rfl, hg _⟩
    · rw [decide_eq_false (show ¬ (0 ≤ s ∧ s < (a : Int)) from fun h => h2 h.2)]
      go_enter Tryz.func43, Tryz.ntmps43
      go_wp2
      go_ret
      exact ⟨rfl, hg _⟩
  · rw [decide_eq_false (show ¬ (0 ≤ s ∧ s < (a : Int)) from fun h => h1 h.1)]
    go_enter Tryz.func43, Tryz.ntmps43
    go_wp2
    go_ret
    exact ⟨rfl, hg _⟩
theorem hasRoom_any (a b c : Nat) (s : Int) (w : World) : Calls Tryz.prog 56 #[limV a b c, .int .i64 s] w fun e w' => e = .returned (.bool (decide (s < (b : Int)))) ∧ w.grownBy w' none := by
  have hg : ∀ o, w.grownBy (w.alloc o) none := fun o => grown_alloc w o
  unfold limV
  by_cases h2 : s < (b : Int)
  · rw [decide_eq_true h2]
    go_enter Tryz.func56, Tryz.ntmps56
    go_wp2
    go_ret
    exact ⟨rfl, hg _⟩
  · rw [decide_eq_false h2]
    go_enter Tryz.func56, Tryz.ntmps56
    go_wp2
    go_ret
    exact ⟨rfl, hg _⟩
section
variable {w w' : World} {p q : Bp} {S : Sb} {Lb Lb' : List Bool} {R : List Bg} {M E : List (Nat × Int)} {T : List Nat} {N B C K : Nat} {f : Int → Option Nat}
/-- The taken seats, asked. -/
theorem BkAt.has (h : BkAt w p S K) (s : Nat) (hs : s < S.a) : Calls Tryz.prog 44 #[.pointer (some ⟨p.tb, 0, none⟩), .int .i64 (s : Int)] w fun e w' => e = .returned (.bool (sat S.L s).isSome) ∧ w.grownBy w' none := by
  obtain ⟨Lb, R, M, E, T, N, B, C, h, hR, hN⟩ := h
  have := has_bk h s (by rw [hR.lb]; exact hs)
  rw [hR.tk] at this
  exact this
theorem BkAt.len (h : BkAt w p S K) : Calls Tryz.prog 37 #[.pointer (some ⟨p.ip.x, 0, none⟩)] w fun e w' => e = .returned (.int .i64 (S.L.length : Int)) ∧ w' = w := by
  obtain ⟨Lb, R, M, E, T, N, B, C, h, hR, hN⟩ := h
  have := len_bk h
  rw [hR.m, mx_length] at this
  exact this
theorem BkAt.isNone (h : BkAt w p S K) : Calls Tryz.prog 22 #[.pointer (some ⟨p.b, 0, none⟩)] w fun e w' => e = .returned (.bool false) ∧ w' = w := by
  obtain ⟨Lb, R, M, E, T, N, B, C, h, hR, hN⟩ := h
  exact isNone_bk h
/-- A book beside a box, in the midst of a call that changes nothing. -/
structure Bm (w W : World) (X : Nat) (cs : List Value) (ty : TypeId) (p : Bp) (S : Sb) (K : Nat) : Prop where
  bk : BkAt W p S K
  gr : w.grownBy W none
  box : W.heap[X]? = some (.cells cs.toArray ty (0, 0))
  lo : w.heap.size ≤ X
theorem Bm.then {W W' : World} {X : Nat} {cs : List Value} {ty : TypeId} (h : Bm w W X cs ty p S K) (g : W.grownBy W' none) : Bm w W' X cs ty p S K :=
  ⟨h.bk.then g, grown_trans h.gr g, (g.block _ (row_lt h.box) (by simp)).trans h.box, h.lo⟩
theorem Bm.cells {W : World} {X : Nat} {cs : List Value} {ty : TypeId} (h : Bm w W X cs ty p S K) : ∀ j v, cs[j]? = some v → W.cell? ⟨X, j, none⟩ = some v := fun j v hv => by rw [cell_row h.box]; exact hv
theorem Bm.start (h : BkAt w p S K) (cs : List Value) (ty : TypeId) : Bm w (w.alloc (.cells cs.toArray ty)) w.heap.size cs ty p S K :=
  ⟨h.then (grown_alloc w _), grown_alloc w _, heap_alloc_new w _, Nat.le_refl _⟩
/-- What stands in the book's head and in the box. -/
structure Bf (W : World) (X : Nat) (cs : List Value) (p : Bp) (S : Sb) : Prop where
  a0 : W.cell? ⟨p.b, 0, none⟩ = some (.int .i64 (S.a : Int))
  a1 : W.cell? ⟨p.b, 1, none⟩ = some (.int .i64 (S.b : Int))
  a2 : W.cell? ⟨p.b, 2, none⟩ = some (.int .i64 (S.c : Int))
  a4 : W.cell? ⟨p.b, 4, none⟩ = some (.int .u32 (S.n : Int))
  a5 : W.cell? ⟨p.b, 5, none⟩ = some (.int .i64 S.t)
  a6 : W.cell? ⟨p.b, 6, none⟩ = some (.pointer (some ⟨p.tb, 0, none⟩))
  a8 : W.cell? ⟨p.b, 8, none⟩ = some (.pointer (some ⟨p.ip.x, 0, none⟩))
  bx : ∀ j v, cs[j]? = some v → W.cell? ⟨X, j, none⟩ = some v
theorem Bm.ff {W : World} {X : Nat} {cs : List Value} {ty : TypeId} (h : Bm w W X cs ty p S K) : Bf W X cs p S :=
  ⟨h.bk.cells 0 _ rfl, h.bk.cells 1 _ rfl, h.bk.cells 2 _ rfl, h.bk.cells 4 _ rfl, h.bk.cells 5 _ rfl, h.bk.cells 6 _ rfl, h.bk.cells 8 _ rfl, h.cells⟩
theorem hold_2 {k c u : Int} {i s : Nat} (h1 : ¬ i = S.n) : holdE S ⟨k, (i : Int), (s : Int), u, c⟩ = 2 := by
  unfold holdE; rw [if_pos (by simp only [ne_eq]; omega)]
theorem hold_140 {k c u : Int} {s : Nat} (h2 : ¬ s < S.a) : holdE S ⟨k, (S.n : Int), (s : Int), u, c⟩ = 140 := by
  unfold holdE; rw [if_neg (fun e => e rfl), if_pos (by show ¬ (s : Int) < (S.a : Int); omega)]
theorem hold_173 {k c u : Int} {s : Nat} (h2 : s < S.a) (h3 : u ≤ S.t) : holdE S ⟨k, (S.n : Int), (s : Int), u, c⟩ = 173 := by
  unfold holdE; rw [if_neg (fun e => e rfl), if_neg (by show ¬ ¬ (s : Int) < (S.a : Int); omega), if_pos h3]
theorem hold_170 {k c u : Int} {s : Nat} {y : Bg} (h2 : s < S.a) (h3 : ¬ u ≤ S.t) (hq : sat S.L s = some y) : holdE S ⟨k, (S.n : Int), (s : Int), u, c⟩ = 170 := by
  unfold holdE; rw [if_neg (fun e => e rfl), if_neg (by show ¬ ¬ (s : Int) < (S.a : Int); omega), if_neg h3, if_pos (by simp only [Int.toNat_natCast, hq]; rfl)]
theorem hold_6 {k c u : Int} {s : Nat} (h2 : s < S.a) (h3 : ¬ u ≤ S.t) (hq : sat S.L s = none) (h5 : S.b ≤ S.L.length ∨ S.n = 4294967295) : holdE S ⟨k, (S.n : Int), (s : Int), u, c⟩ = 6 := by
  unfold holdE; rw [if_neg (fun e => e rfl), if_neg (by show ¬ ¬ (s : Int) < (S.a : Int); omega), if_neg h3, if_neg (by simp only [Int.toNat_natCast, hq]; simp), if_pos h5]
theorem hold_0 {k c u : Int} {s : Nat} (h2 : s < S.a) (h3 : ¬ u ≤ S.t) (hq : sat S.L s = none) (h5 : ¬ (S.b ≤ S.L.length ∨ S.n = 4294967295)) : holdE S ⟨k, (S.n : Int), (s : Int), u, c⟩ = 0 := by
  unfold holdE; rw [if_neg (fun e => e rfl), if_neg (by show ¬ ¬ (s : Int) < (S.a : Int); omega), if_neg h3, if_neg (by simp only [Int.toNat_natCast, hq]; simp), if_neg h5]
end
end Go.Proofs.YtjfhilignbeboabGreatDoor
/- Confirm, another seat. -/
namespace Go.Proofs.YtjfhilignbeboabGreatDoor
open Go.RowKit
attribute [local go_sem ↓] Go.wp_at_zero Go.wp_at_succ
theorem bgs_setU {R : List Bg} {s : Nat} {x : Bg} (h : R[s]? = some x) (u : Int) : (bgs R).set (s * 3 + 2) (.int .i64 u) = bgs (R.set s { x with u := u }) := by
  have hs : s < R.length := (List.getElem?_eq_some_iff.1 h).1
  have hr : rd R s = x := by unfold rd; rw [h]; rfl
  obtain ⟨h1, h2, h3⟩ := bgs_get hs
  rw [hr] at h1 h2
  rw [bgs_set]
  simp only
  rw [Ix.set_same h1, Ix.set_same h2]
section
variable {w w' : World} {p q : Bp} {S : Sb} {Lb Lb' : List Bool} {R : List Bg} {M E : List (Nat × Int)} {T : List Nat} {N B C K : Nat} {f : Int → Option Nat}
end
end Go.Proofs.YtjfhilignbeboabGreatDoor
/- Hold, confirm, cancel. -/
namespace Go.Proofs.YtjfhilignbeboabGreatDoor
open Go.RowKit
attribute [local go_sem ↓] Go.wp_at_zero Go.wp_at_succ
theorem Rel.re {S S' : Sb} {Lb : List Bool} {R : List Bg} {M E : List (Nat × Int)} (h : Rel S Lb R M E) (ha : S'.a = S.a) (hL : S'.L = S.L) : Rel S' Lb R M E :=
  ⟨by rw [ha]; exact h.lb, by rw [hL]; exact h.tk, by rw [ha]; exact h.rl, by rw [hL]; exact h.rw, by rw [hL]; exact h.m, by rw [hL]; exact h.e1, by rw [hL]; exact h.e2, h.e3⟩
section
variable {w w' : World} {p q : Bp} {S : Sb} {Lb Lb' : List Bool} {R : List Bg} {M E : List (Nat × Int)} {T : List Nat} {N B C K : Nat} {f : Int → Option Nat}
theorem BkAt.next (h : BkAt w p S K) : BkAt (w.setCell ⟨p.b, 4, none⟩ (.int .u32 ((S.n : Int) + 1))) p { S with n := S.n + 1 } K ∧ Kept w (w.setCell ⟨p.b, 4, none⟩ (.int .u32 ((S.n : Int) + 1))) p.own := by
  obtain ⟨Lb, R, M, E, T, N, B, C, h, hR, hN⟩ := h
  obtain ⟨h1, h2⟩ := h.headed (S' := { S with n := S.n + 1 }) (grown_setCell w p.b 4 (.int .u32 ((S.n : Int) + 1))) (by rw [row_setCell h.head]; rfl) rfl rfl
  exact ⟨⟨Lb, R, M, E, T, N, B, C, h1, hR.re rfl rfl, hN⟩, h2⟩
theorem BkAt.free (h : BkAt w p S K) (j : Nat) : w.frozen? ⟨p.b, j, none⟩ = false := by obtain ⟨_, _, _, _, _, _, _, _, h, _⟩ := h; exact free_row h.head j
/-- An id, found or not. -/
theorem BkAt.find (h : BkAt w p S K) (_hw : S.Wk) (k : Nat) (hk : k < 4294967296) : Calls Tryz.prog 42 #[.pointer (some ⟨p.b, 0, none⟩), .int .u32 (k : Int)] w fun e w' => e = .returned (.tuple #[bgV ((fnd S.L k).getD ⟨0, 0, 0⟩), .int .i64 (if (fnd S.L k).isSome then 0 else 171)]) ∧ BkAt w' p S K ∧ Kept w w' p.own := by
  obtain ⟨Lb, R, M, E, T, N, B, C, h, hR, hN⟩ := h
  have hc := find_bk h k hk
  have hlk : Ix.lk M k = (fnd S.L k).map fun x => (x.s : Int) := by rw [hR.m, lk_mx]
  have hfx : fn M R k = (fnd S.L k).getD ⟨0, 0, 0⟩ := by
    unfold fn
    rw [hlk]
    cases hf : fnd S.L k with
    | none => rfl
    | some x => simp [rd, hR.rw x (List.mem_of_find?_eq_some hf)]
  rw [hfx, hlk, Option.isSome_map] at hc
  refine hc.mono ?_
  rintro e w' ⟨rfl, h3, h4⟩
  exact ⟨rfl, ⟨Lb, R, M, E, T, N, B, C, h3, hR, hN⟩, h4⟩
end
end Go.Proofs.YtjfhilignbeboabGreatDoor
/- Tick. -/
namespace Go.Proofs.YtjfhilignbeboabGreatDoor
open Go.RowKit
attribute [local go_sem ↓] Go.wp_at_zero Go.wp_at_succ
theorem Sb.Wk.sub {S : Sb} (h : S.Wk) {c : Int} {L : List Bg} (hL : L.Sublist S.L) (h0 : 0 ≤ c) (h1 : c ≤ mxC) : Sb.Wk { S with t := c, L := L } :=
  ⟨h.a0, h.a1, h.b0, h.b1, h.c0, h.c1, h.n0, h.n1, h0, h1, List.Pairwise.sublist hL h.asc, fun x hx => h.id x (hL.subset hx), fun x hx => h.st x (hL.subset hx), List.Pairwise.sublist hL h.one, fun x hx => h.til x (hL.subset hx), Nat.le_trans hL.length_le h.few⟩
section
variable {w w' : World} {p q : Bp} {S : Sb} {Lb Lb' : List Bool} {R : List Bg} {M E : List (Nat × Int)} {T : List Nat} {N B C K : Nat} {f : Int → Option Nat}
end
end Go.Proofs.YtjfhilignbeboabGreatDoor
/- What goes through all items. -/
namespace Go.Proofs.YtjfhilignbeboabGreatDoor.Ix
open Go.RowKit Go.Shelf
attribute [local go_sem] Oper.semAt_some
def en (E : List (Nat × Int)) (i : Nat) : Nat × Int := (E[i]?).getD (0, 0)
def encE (x : Nat × Int) : Array Value := #[.int .u32 (x.1 : Int), .int .i64 x.2]
/-- The row that is gone through. -/
structure ItE (W : World) (B : Nat) (so : Option Addr) (cap : Nat) (X : List (Nat × Int)) : Prop where
  box : W.heap[B]? = some (.cells [Value.slice so X.length cap].toArray 133 (0, 0))
  le : X.length ≤ cap
  row : ∀ i, i < X.length → ∃ g, so = some ⟨g, 0, none⟩ ∧ W.cell? ⟨g, i * 2, none⟩ = some (.int .u32 ((en X i).1 : Int)) ∧ W.cell? ⟨g, i * 2 + 1, none⟩ = some (.int .i64 (en X i).2)
theorem ItE.grown {W W' : World} {B : Nat} {so : Option Addr} {cap : Nat} {X : List (Nat × Int)} (h : ItE W B so cap X) (g : W.grownBy W' none) : ItE W' B so cap X :=
  ⟨(g.block _ (row_lt h.box) (by simp)).trans h.box, h.le, fun i hi => by obtain ⟨q, h1, h2, h3⟩ := h.row i hi; exact ⟨q, h1, g.cell h2 (by simp), g.cell h3 (by simp)⟩⟩
theorem take_en {X : List (Nat × Int)} {i : Nat} (h : i < X.length) : X.take i ++ [en X i] = X.take (i + 1) := by
  rw [List.take_add_one, List.getElem?_eq_getElem h]
  unfold en
  rw [List.getElem?_eq_getElem h]
  rfl
/-- How many rounds are left. -/
def leftE (n : Nat) (q : Value) : Nat := match q with | .int _ i => n - i.toNat | _ => 0
theorem leftE_nat (n i : Nat) : leftE n (.int .i64 (i : Int)) = n - i := by simp [leftE]
end Go.Proofs.YtjfhilignbeboabGreatDoor.Ix
/- The library's sort (WholeK), laid at this program, in plain words: shelf_lay_g SlLaysF0.n6 Slsf 6 at Tryz 63 as Tryz.sortE, by lay-plain.mjs. -/
namespace Go.Proofs
open Go.Shelf
def Tryz.sortE_ren : Go.Shelf.Ren := ⟨fun | 6 => 63 | 15 => 107 | 14 => 106 | 28 => 128 | 29 => 129 | 20 => 120 | 21 => 121 | 22 => 122 | 23 => 123 | 24 => 124 | 25 => 125 | 26 => 126 | 27 => 127 | 46 => 137 | 47 => 138 | 48 => 139 | 49 => 140 | 50 => 141 | 57 => 146 | n => n, fun | 22 => 133 | 24 => 137 | 25 => 139 | 3 => 3 | 39 => 171 | 0 => 0 | 53 => 23 | 55 => 150 | 4 => 4 | 46 => 182 | 45 => 181 | 50 => 152 | 5 => 5 | 9 => 9 | 66 => 198 | 70 => 201 | 76 => 214 | 77 => 215 | n => n, fun | n => n⟩
theorem Tryz.sortE : Go.Proofs.SlLaysF0.n6 Tryz.prog Tryz.sortE_ren := {
  mixed := by kernel_rfl
  f6 := ⟨Tryz.f63.name, by decide, Tryz.func63.trans (congrArg some (by kernel_rfl))⟩
  f14 := ⟨Tryz.f106.name, by decide, Tryz.func106.trans (congrArg some (by kernel_rfl))⟩
  f15 := Tryz.func107.trans (congrArg some (by kernel_rfl))
  f20 := ⟨Tryz.f120.name, by decide, Tryz.func120.trans (congrArg some (by kernel_rfl))⟩
  f21 := ⟨Tryz.f121.name, by decide, Tryz.func121.trans (congrArg some (by kernel_rfl))⟩
  f22 := ⟨Tryz.f122.name, by decide, Tryz.func122.trans (congrArg some (by kernel_rfl))⟩
  f23 := ⟨Tryz.f123.name, by decide, Tryz.func123.trans (congrArg some (by kernel_rfl))⟩
  f24 := ⟨Tryz.f124.name, by decide, Tryz.func124.trans (congrArg some (by kernel_rfl))⟩
  f25 := ⟨Tryz.f125.name, by decide, Tryz.func125.trans (congrArg some (by kernel_rfl))⟩
  f26 := ⟨Tryz.f126.name, by decide, Tryz.func126.trans (congrArg some (by kernel_rfl))⟩
  f27 := ⟨Tryz.f127.name, by decide, Tryz.func127.trans (congrArg some (by kernel_rfl))⟩
  f28 := Tryz.func128.trans (congrArg some (by kernel_rfl))
  f29 := Tryz.func129.trans (congrArg some (by kernel_rfl))
  f46 := ⟨Tryz.f137.name, by decide, Tryz.func137.trans (congrArg some (by kernel_rfl))⟩
  f47 := Tryz.func138.trans (congrArg some (by kernel_rfl))
  f48 := Tryz.func139.trans (congrArg some (by kernel_rfl))
  f49 := ⟨Tryz.f140.name, by decide, Tryz.func140.trans (congrArg some (by kernel_rfl))⟩
  f50 := ⟨Tryz.f141.name, by decide, Tryz.func141.trans (congrArg some (by kernel_rfl))⟩
  f57 := ⟨Tryz.f146.name, by decide, Tryz.func146.trans (congrArg some (by kernel_rfl))⟩
  t0 := Tryz.underlying0
  a0 := Tryz.isAgg0
  z0 := Tryz.sizeOf0
  v0 := Tryz.zeroValue0
  t3 := Tryz.underlying3
  a3 := Tryz.isAgg3
  z3 := Tryz.sizeOf3
  v3 := Tryz.zeroValue3
  t4 := Tryz.underlying4
  a4 := Tryz.isAgg4
  z4 := Tryz.sizeOf4
  v4 := Tryz.zeroValue4
  t5 := Tryz.underlying5
  a5 := Tryz.isAgg5
  z5 := Tryz.sizeOf5
  v5 := Tryz.zeroValue5
  t9 := Tryz.underlying9
  a9 := Tryz.isAgg9
  z9 := Tryz.sizeOf9
  v9 := Tryz.zeroValue9
  t22 := Tryz.underlying133
  a22 := Tryz.isAgg133
  z22 := Tryz.sizeOf133
  v22 := Tryz.zeroValue133
  t25 := Tryz.underlying139
  a25 := Tryz.isAgg139
  z25 := Tryz.sizeOf139
  v25 := Tryz.zeroValue139
  t39 := Tryz.underlying171
  a39 := Tryz.isAgg171
  z39 := Tryz.sizeOf171
  v39 := Tryz.zeroValue171
  t45 := Tryz.underlying181
  a45 := Tryz.isAgg181
  z45 := Tryz.sizeOf181
  v45 := Tryz.zeroValue181
  t46 := Tryz.underlying182
  a46 := Tryz.isAgg182
  z46 := Tryz.sizeOf182
  v46 := Tryz.zeroValue182
  t50 := Tryz.underlying152
  a50 := Tryz.isAgg152
  z50 := Tryz.sizeOf152
  v50 := Tryz.zeroValue152
  t53 := Tryz.underlying23
  a53 := Tryz.isAgg23
  z53 := Tryz.sizeOf23
  v53 := Tryz.zeroValue23
  t55 := Tryz.underlying150
  a55 := Tryz.isAgg150
  z55 := Tryz.sizeOf150
  v55 := Tryz.zeroValue150
  t66 := Tryz.underlying198
  a66 := Tryz.isAgg198
  z66 := Tryz.sizeOf198
  v66 := Tryz.zeroValue198
  t70 := Tryz.underlying201
  a70 := Tryz.isAgg201
  z70 := Tryz.sizeOf201
  v70 := Tryz.zeroValue201
  t76 := Tryz.underlying214
  a76 := Tryz.isAgg214
  z76 := Tryz.sizeOf214
  v76 := Tryz.zeroValue214
  t77 := Tryz.underlying215
  a77 := Tryz.isAgg215
  z77 := Tryz.sizeOf215
  v77 := Tryz.zeroValue215 }
end Go.Proofs
/- Items, sorted by their ids. -/
namespace Go.Proofs.YtjfhilignbeboabGreatDoor.Ix
open Go.RowKit Go.Shelf
attribute [local go_sem ↓] Go.wp_at_zero Go.wp_at_succ
theorem nan_any (x : Int) (w : World) : Calls Tryz.prog 108 #[.int .u32 x] w fun e w' => e = .returned (.bool false) ∧ w' = w := by
  go_enter Tryz.func108, Tryz.ntmps108
  go_wp2
  go_ret
  exact ⟨by simp, rfl⟩
/-- Before, same, behind. -/
def cmpI (a b : Int) : Int := if a < b then -1 else if b < a then 1 else 0
set_option maxRecDepth 20000 in
theorem cmp_any (a b : Int) (w : World) : Calls Tryz.prog 65 #[.int .u32 a, .int .u32 b] w fun e w' => e = .returned (.int .i64 (cmpI a b)) ∧ w' = w := by
  have hn := fun x => nan_any x w
  by_cases h1 : a < b
  · have e1 : cmpI a b = -1 := if_pos h1
    rw [e1]
    clear e1
    go_enter Tryz.func65, Tryz.ntmps65
    go_wp2_with (go_at_call 108; refine (hn _).mono ?_; rintro e w1 ⟨rfl, hw1⟩; obtain rfl := hw1.symm)
    go_ret
    exact ⟨rfl, rfl⟩
  · by_cases h2 : b < a
    · have e1 : cmpI a b = 1 := by rw [cmpI, if_neg h1, if_pos h2]
      rw [e1]
      clear e1
      go_enter Tryz.func65, Tryz.ntmps65
      go_wp2_with (go_at_call 108; refine (hn _).mono ?_; rintro e w1 ⟨rfl, hw1⟩; obtain rfl := hw1.symm)
      go_ret
      exact ⟨rfl, rfl⟩
    · have e1 : cmpI a b = 0 := by rw [cmpI, if_neg h1, if_neg h2]
      rw [e1]
      clear e1
      go_enter Tryz.func65, Tryz.ntmps65
      go_wp2_with (go_at_call 108; refine (hn _).mono ?_; rintro e w1 ⟨rfl, hw1⟩; obtain rfl := hw1.symm)
      go_ret
      exact ⟨rfl, rfl⟩
set_option maxRecDepth 20000 in
theorem cmpE_any (x y : Nat × Int) (w : World) : Calls Tryz.prog 64 #[.agg #[.int .u32 (x.1 : Int), .int .i64 x.2], .agg #[.int .u32 (y.1 : Int), .int .i64 y.2]] w fun e w' => e = .returned (.int .i64 (cmpI (x.1 : Int) (y.1 : Int))) ∧ ∃ q os, w' = Go.Sort.grow (w.drewN q) os := by
  have hcon := fun W => cmp_any (x.1 : Int) (y.1 : Int) W
  generalize cmpI (x.1 : Int) (y.1 : Int) = r at hcon ⊢
  go_enter Tryz.func64, Tryz.ntmps64
  go_wp2_with (go_at_call 65; refine (hcon _).mono ?_; rintro e w1 ⟨rfl, hw1⟩; obtain rfl := hw1.symm)
  go_ret
  exact ⟨rfl, 0, _, by rw [Go.Sort.alloc_eq_grow, Go.Sort.alloc_eq_grow, Go.Sort.grow_grow]; rfl⟩
def encL (x : Nat × Int) : List Value := [.int .u32 (x.1 : Int), .int .i64 x.2]
def cfE (x y : Nat × Int) : Int := cmpI (x.1 : Int) (y.1 : Int)
theorem ltE (x y : Nat × Int) : ltOf cfE x y = decide (x.1 < y.1) := by
  unfold ltOf cfE cmpI
  by_cases h1 : x.1 < y.1
  · simp [h1]
  · by_cases h2 : y.1 < x.1 <;> simp [h1, h2]
theorem swoE : Go.Sort.SWO (ltOf cfE) where
  irrefl x := by rw [ltE]; simp
  trans x y z h1 h2 := by rw [ltE] at *; simp at *; omega
  ntrans x y z h1 h2 := by rw [ltE] at *; simp at *; omega
theorem grown_sortW {w : World} {g m : Nat} {os : Array Obj} (d : Array (Nat × Int)) : w.grownBy (sortWorldK encL 2 w g 0 m d os) (some g) := by
  refine ⟨rfl, rfl, rfl, by simp [sortWorldK, Go.Sort.putRowK, Go.Sort.grow, Go.Sort.putRow, Go.Sort.mapBlock, Go.Sort.ahead], fun k hk hne => ?_⟩
  have : g ≠ k := fun e => hne (by rw [e])
  unfold sortWorldK
  rw [Go.Sort.heap_grow_old _ _ (by simpa [Go.Sort.putRowK, Go.Sort.putRow, Go.Sort.mapBlock, Go.Sort.ahead] using hk)]
  simp [Go.Sort.putRowK, Go.Sort.putRow, Go.Sort.mapBlock, Go.Sort.ahead, Array.getElem?_modify, this]
theorem sortE_any (blk cap : Nat) (d : Array (Nat × Int)) (w : World) (hH : Go.Sort.HoldsK encL 2 w blk 0 d) (hblk : blk < w.heap.size) (hsz : d.size ≤ 65536) :
    Calls Tryz.prog 63 #[.slice (some ⟨blk, 0, none⟩) d.size cap, .func (.func 64) #[] #[]] w fun e w' => e = .returned (.tuple #[]) ∧ ∃ d', Go.Sort.PermIn 0 d.size d d' ∧ Go.Sort.SortedIn (ltOf cfE) 0 d.size d' ∧ Go.Sort.HoldsK encL 2 w' blk 0 d' ∧ w.grownBy w' (some blk) := by
  have eg : ∀ args w, (callFunc 64 args).run Tryz.prog w = .ok (.enter 64 args) w := enters_of Tryz.func64 (by kernel_rfl) rfl
  have hcon := AnyQ.slices_SortFunc Tryz.sortE 2 Tryz.isAgg137 Tryz.sizeOf137 encL (fun _ => rfl) (fun x v hv => by simp [encL] at hv; rcases hv with rfl | rfl <;> rfl) cfE swoE 64 #[] blk 0 cap d w eg (fun _ _ _ _ x y => cmpE_any x y _) hH hblk (by omega)
  refine hcon.mono ?_
  rintro e w' ⟨rfl, d', n, os, hp, hs, rfl⟩
  exact ⟨rfl, d', hp, hs, holdsK_sortWorldK_c encL 2 w blk 0 d d' n os hH hblk hp.1, grown_sortW d'⟩
/-- Items as they lie in cells. -/
def icells (E : List (Nat × Int)) : List Value := E.flatMap fun e => [.int .u32 (e.1 : Int), .int .i64 e.2]
theorem icells_snoc (E : List (Nat × Int)) (x : Nat × Int) : icells (E ++ [x]) = icells E ++ [.int .u32 (x.1 : Int), .int .i64 x.2] := by simp [icells]
theorem icells_get {E : List (Nat × Int)} {i : Nat} (h : i < E.length) : (icells E)[i * 2]? = some (.int .u32 ((en E i).1 : Int)) ∧ (icells E)[i * 2 + 1]? = some (.int .i64 (en E i).2) := by
  induction E generalizing i with
  | nil => simp at h
  | cons y r ih =>
    cases i with
    | zero => simp [icells, en]
    | succ i =>
      have := ih (i := i) (by simpa using h)
      have e : icells (y :: r) = .int .u32 (y.1 : Int) :: .int .i64 y.2 :: icells r := by simp [icells]
      have e2 : en (y :: r) (i + 1) = en r i := by simp [en]
      rw [e, e2, show (i + 1) * 2 = i * 2 + 2 by omega, show i * 2 + 2 + 1 = (i * 2 + 1) + 2 by omega]
      simpa using this
/-- The clone's row, as the sort wants it. -/
theorem holds_row {w : World} {g : Nat} {cur : List Value} {E : List (Nat × Int)} (hg : w.heap[g]? = some (.cells cur.toArray 137 (0, 0))) (ht : cur.take (E.length * 2) = icells E) : Go.Sort.HoldsK encL 2 w g 0 E.toArray := by
  intro j hj
  rw [Go.Sort.size_flatK] at hj
  refine ⟨?_, free_row hg _⟩
  rw [Go.Sort.get_flatK _ _ _ _ hj, Nat.zero_add]
  have hj' : j < E.length * 2 := by simpa using hj
  have hi : j / 2 < E.length := by omega
  have he : E.toArray[j / 2]! = en E (j / 2) := by simp [en, hi]
  rw [he]
  obtain ⟨h1, h2⟩ := icells_get hi
  rcases Nat.mod_two_eq_zero_or_one j with hm | hm
  · have hjj : j / 2 * 2 = j := by omega
    rw [hjj] at h1
    rw [hm, own_cell hg ht h1]
    rfl
  · have hjj : j / 2 * 2 + 1 = j := by omega
    rw [hjj] at h2
    rw [hm, own_cell hg ht h2]
    rfl
theorem perm_whole {d d' : Array (Nat × Int)} (h : Go.Sort.PermIn 0 d.size d d') : d'.toList.Perm d.toList := by
  have h2 := h.2.2
  have e1 : d'.extract 0 d.size = d' := by rw [← h.1]; simp
  have e2 : d.extract 0 d.size = d := by simp
  rw [e1, e2] at h2
  exact h2
/-- What the sort leaves of rows with distinct handles: the one order by rising handles. -/
theorem sorted_is {E X : List (Nat × Int)} {d' : Array (Nat × Int)} (hp : Go.Sort.PermIn 0 E.toArray.size E.toArray d') (hs : Go.Sort.SortedIn (ltOf cfE) 0 E.toArray.size d') (hX : X.Perm E) (hA : Asc X) : d' = X.toArray := by
  have hperm : d'.toList.Perm X := (perm_whole hp).trans hX.symm
  have hnd : (X.map (·.1)).Nodup := by
    have := hA
    unfold Asc at this
    exact List.pairwise_map.2 (this.imp (fun h => by omega))
  have hnd' : (d'.toList.map (·.1)).Nodup := (hperm.map _).nodup_iff.2 hnd
  have hasc : Asc d'.toList := by
    unfold Asc
    rw [List.pairwise_iff_getElem]
    intro i j hi hj hij
    have hsz : d'.size = E.toArray.size := hp.1
    have h1 := hs i j (Nat.zero_le _) hij (by rw [← hsz]; simpa using hj)
    rw [ltE] at h1
    rw [getElem!_pos d' j (by simpa using hj), getElem!_pos d' i (by simpa using hi)] at h1
    have h2 : d'.toList[i].1 ≠ d'.toList[j].1 := by
      have := List.pairwise_iff_getElem.1 hnd' i j (by simpa using hi) (by simpa using hj) hij
      simpa using this
    simp at h1 h2 ⊢
    omega
  have := asc_unique hasc hA hperm
  rw [← this]
/-- The sort of items. -/
theorem sort_row {w : World} {B0 : Nat} {so : Option Addr} {cap : Nat} {E X : List (Nat × Int)} (hr : w.ownsRow B0 137 2 (.slice so E.length cap) E.length (icells E)) (hE : E.length ≤ 65536) (hX : X.Perm E) (hA : Asc X) :
    Calls Tryz.prog 63 #[.slice so E.length cap, .func (.func 64) #[] #[]] w fun e w' => e = .returned (.tuple #[]) ∧ w.grownBy w' (Value.slice so E.length cap).ownBlock ∧ (∀ i, i < X.length → ∃ g, so = some ⟨g, 0, none⟩ ∧ w'.cell? ⟨g, i * 2, none⟩ = some (.int .u32 ((en X i).1 : Int)) ∧ w'.cell? ⟨g, i * 2 + 1, none⟩ = some (.int .i64 (en X i).2)) := by
  have hXl : X.length = E.length := hX.length_eq
  by_cases hz : 0 < E.length
  · obtain ⟨g, c2, cur, hv, hb, hg, hn, -, -, ht⟩ := own_row hr hz
    cases hv
    have hh := holds_row hg ht
    have hc := sortE_any g cap E.toArray w hh (row_lt hg) (by simpa using hE)
    rw [show E.toArray.size = E.length by simp] at hc
    refine hc.mono ?_
    rintro e w' ⟨rfl, d', hp, hs, hh', hgr⟩
    have he := sorted_is (d' := d') (by simpa using hp) (by simpa using hs) hX hA
    subst he
    refine ⟨rfl, hgr, fun i hi => ⟨g, rfl, ?_, ?_⟩⟩
    · have := (hh'.cell (i := i) (c := 0) (by simpa using hi) (by omega)).1
      simpa [encL, en, hi] using this
    · have := (hh'.cell (i := i) (c := 1) (by simpa using hi) (by omega)).1
      simpa [encL, en, hi] using this
  · have h0 : E.length = 0 := by omega
    rw [h0]
    refine (AnyF.slices_SortFunc_none Tryz.sortE so cap (.func (.func 64) #[] #[]) w).mono ?_
    rintro e w' ⟨rfl, rfl⟩
    exact ⟨rfl, grown_refl _ _, fun i hi => by omega⟩
end Go.Proofs.YtjfhilignbeboabGreatDoor.Ix
/- All of an index. -/
namespace Go.Proofs.YtjfhilignbeboabGreatDoor.Ix
open Go.RowKit Go.Shelf
attribute [local go_sem ↓] Go.wp_at_zero Go.wp_at_succ
theorem Tryz.info137 : (Tryz.prog.info? 137).map (fun i => (i.zero, i.size, i.bytes)) = some (some (.agg #[.int .u32 0, .int .i64 0]), 2, 16) := by kernel_rfl
def its (S : List (Option (Nat × Int))) : List (Nat × Int) := S.filterMap id
theorem its_take {S : List (Option (Nat × Int))} {i : Nat} (h : i < S.length) : its (S.take (i + 1)) = its (S.take i) ++ (sl S i).toList := by
  unfold its sl
  rw [List.take_add_one, List.filterMap_append, List.getElem?_eq_getElem h]
  simp
  cases S[i] <;> simp
theorem its_len (S : List (Option (Nat × Int))) : (its S).length ≤ S.length := List.length_filterMap_le _ _
theorem two_cells (W : World) (a b : Value) (t : TypeId) : ∀ j u, [a, b][j]? = some u → (W.alloc (.cells #[a, b] t)).cell? ((⟨W.heap.size, 0, none⟩ : Addr).add j) = some u := by
  intro j u hu
  rw [Addr.add_lit, Nat.zero_add, cell_row (heap_alloc_new W (.cells [a, b].toArray t))]
  exact hu
set_option maxRecDepth 20000 in
set_option maxHeartbeats 2000000 in
theorem items_at {w : World} {x g n m c st : Nat} {S : List (Option (Nat × Int))} (h : IxR w x g n m c st S) : Calls Tryz.prog 62 #[.pointer (some ⟨x, 0, none⟩)] w fun e w' => ∃ so cap, e = .returned (.slice so (its S).length cap) ∧ w'.ownsRow w.heap.size 137 2 (.slice so (its S).length cap) (its S).length (icells (its S)) ∧ w.grownBy w' none := by
  obtain ⟨i0, hi0, hz0, hz1, hz2⟩ := info_parts Tryz.info137
  have HI0 := hide (And.intro hi0 (And.intro hz0 (And.intro hz1 hz2)))
  have hno := none_at h
  obtain ⟨-, -, -, -, c4⟩ := h.cells
  have hn8 := h.most
  have HH := hide h
  clear h hi0 hz0 hz1 hz2
  go_enter Tryz.func62, Tryz.ntmps62
  go_wp2_with fail
  refine hno.mono ?_
  clear hno
  rintro e w1 ⟨rfl, hw1⟩
  obtain rfl := hw1.symm
  go_wp2
  go_loopg [3, 13] n (fun q v3 v13 wr => ∃ i : Nat, v13 = .int .i64 (i : Int) ∧ Hid (q = n - i ∧ i ≤ n ∧ w.grownBy wr none ∧ wr.ownsRow w.heap.size 137 2 v3 (its (S.take i)).length (icells (its (S.take i)))))
  case atStart => exact ⟨0, rfl, rfl, Nat.zero_le _, grown_refl _ _, World.ownsRow_nil _ _ _ _⟩
  case round =>
    obtain ⟨i, rfl, HR⟩ := hrel
    by_cases hlt : i < n
    · have hI := HH.out.then HR.out.2.2.1
      obtain ⟨d0, d1, d2⟩ := hI.slot hlt
      have hlS : i < S.length := by rw [hI.len]; exact hlt
      have htk := its_take hlS
      have hle := its_len (S.take i)
      have hlt' : ((i : Int) < (n : Int)) = True := by simp; omega
      have hwr : IntKind.i64.wrap ((i : Int) + 1) = ((i : Int) + 1) := by rw [IntKind.wrap_i64]; omega
      have hle2 : (its (S.take i)).length ≤ 8192 := by have := List.length_take_le i S; omega
      cases hy : sl S i with
      | none =>
        rw [hy] at d0 d1 d2 htk
        simp only [Option.isSome] at d0
        have HT := hide htk
        clear htk hI hlS hle
        generalize idN none = z1 at *
        generalize vlN none = z2 at *
        go_wp2
        go_roundg (gk - 1)
        case rel => exact ⟨i + 1, by simp, by have := HR.out.1; omega, by omega, grown_trans HR.out.2.2.1 (World.grownBy_alloc wr _ none), by rw [HT.out]; simp only [Option.toList, List.append_nil]; exact HR.out.2.2.2.alloc _⟩
        case measure => have := HR.out.1; omega
      | some y =>
        rw [hy] at d0 d1 d2 htk
        simp only [Option.isSome] at d0
        rw [show idN (some y) = y.1 from rfl] at d1
        rw [show vlN (some y) = y.2 from rfl] at d2
        have HT := hide htk
        clear htk hI hlS
        obtain ⟨y1, hy1⟩ : ∃ y1, y1 = y.1 := ⟨_, rfl⟩
        obtain ⟨y2, hy2⟩ : ∃ y2, y2 = y.2 := ⟨_, rfl⟩
        rw [← hy1] at d1
        rw [← hy2] at d2
        have HY := hide (And.intro hy1 hy2)
        clear hy1 hy2 hle
        have hA := World.grownBy_alloc wr (.cells #[.bool true, .int .u32 (y1 : Int), .int .i64 y2] 165) none
        have hB := World.grownBy_alloc (wr.alloc (.cells #[.bool true, .int .u32 (y1 : Int), .int .i64 y2] 165)) (.cells #[.int .u32 (y1 : Int), .int .i64 y2] 137) none
        have hgB := hide (grown_trans HR.out.2.2.1 (grown_trans hA hB))
        clear hA hB
        have hcs := two_cells (wr.alloc (.cells #[.bool true, .int .u32 (y1 : Int), .int .i64 y2] 165)) (.int .u32 (y1 : Int)) (.int .i64 y2) 137
        have HCS := hide hcs
        clear hcs
        go_wp2_with (at_builtin; refine wpList_append_own _ rfl (.tmp 19) (.tmp 22) 133 rfl w.heap.size 137 i0 (.agg #[.int .u32 0, .int .i64 0]) 2 16 Tryz.underlying133 HI0.out.1 HI0.out.2.1 HI0.out.2.2.1 HI0.out.2.2.2 rfl (by decide) u3 (its (S.take i)).length (icells (its (S.take i))) rfl ((HR.out.2.2.2.alloc _).alloc _) ⟨wr.heap.size + 1, 0, none⟩ 1 1 [.int .u32 (y1 : Int), .int .i64 y2] rfl rfl (by have := HCS.out; rw [World.size_alloc] at this; exact this) (by simp [Value.oneCell']) (by unfold maxLen; omega) (by omega) hgB.out.size ?_)
        intro v' w' ho hg hv
        clear hv
        have H := hide (And.intro ho (grown_then hgB.out hg (fun j e => Or.inl (HR.out.2.2.2.lt j e).1)))
        clear ho hg
        go_wp2
        go_roundg (gk - 1)
        case rel => exact ⟨i + 1, by simp, by have := HR.out.1; omega, by omega, H.out.2, by rw [HT.out]; simp only [Option.toList, List.length_append, List.length_cons, List.length_nil]; rw [icells_snoc, ← HY.out.1, ← HY.out.2]; exact H.out.1⟩
        case measure => have := HR.out.1; omega
    · have hlt' : ((i : Int) < (n : Int)) = False := by simp; omega
      obtain rfl : i = n := by have := HR.out.2.1; omega
      have hr := HR.out.2.2.2
      rw [show S.take i = S by rw [← HH.out.len]; exact List.take_length] at hr
      obtain ⟨so, cap, rfl, -⟩ := own_form hr
      have H := hide hr
      clear hr
      go_wp2
      go_ret
      exact ⟨so, cap, rfl, H.out, HR.out.2.2.1⟩
end Go.Proofs.YtjfhilignbeboabGreatDoor.Ix
/- All of an index: the iterator's value. -/
namespace Go.Proofs.YtjfhilignbeboabGreatDoor.Ix
open Go.RowKit Go.Shelf
attribute [local go_sem ↓] Go.wp_at_zero Go.wp_at_succ
/-- What goes through the items M, its blocks from B0 on. -/
def AllV (w : World) (B0 : Nat) (v : Value) (M : List (Nat × Int)) : Prop := ∃ B so cap, v = .func (.func 66) #[] #[.pointer (some ⟨B, 0, none⟩)] ∧ ItE w B so cap M ∧ B0 ≤ B ∧ (∀ a, so = some a → B0 ≤ a.block)
theorem all_of {w : World} {arg : Value} {E X : List (Nat × Int)} (hit : Calls Tryz.prog 62 #[arg] w fun e w' => ∃ so cap, e = .returned (.slice so E.length cap) ∧ w'.ownsRow w.heap.size 137 2 (.slice so E.length cap) E.length (icells E) ∧ w.grownBy w' none) (hE : E.length ≤ 65536) (hX : X.Perm E) (hA : Asc X) :
    Calls Tryz.prog 38 #[arg] w fun e w' => ∃ v, e = .returned v ∧ AllV w' w.heap.size v X ∧ w.grownBy w' none := by
  have hXl : X.length = E.length := hX.length_eq
  have hmf : ∀ (fn : Fn) (first cap : Array Value) (w : World), (Instr.makeFunc fn first cap).run Tryz.prog w = .ok (.func fn first cap) w := fun _ _ _ _ => rfl
  have HE := hide (And.intro hE (And.intro hX (And.intro hA hXl)))
  clear hE hX hA hXl
  go_enter Tryz.func38, Tryz.ntmps38
  go_wp2_with fail
  refine hit.mono ?_
  clear hit
  rintro e w1 ⟨so, cap, rfl, hr1, g1⟩
  obtain ⟨w2, hw2⟩ : ∃ w2, w2 = w1.alloc (.cells #[.slice so E.length cap] 133) := ⟨_, rfl⟩
  have g2 : w1.grownBy w2 none := by rw [hw2]; exact World.grownBy_alloc w1 _ none
  have hB2 : w2.heap[w1.heap.size]? = some (.cells [Value.slice so E.length cap].toArray 133 (0, 0)) := by rw [hw2]; exact heap_alloc_new w1 _
  have hr2 : w2.ownsRow w.heap.size 137 2 (.slice so E.length cap) E.length (icells E) := by rw [hw2]; exact hr1.alloc _
  have hso := sort_row hr2 HE.out.1 HE.out.2.1 HE.out.2.2.1
  rw [hw2] at hso
  have H2 := hide (And.intro hw2 (And.intro g2 (And.intro hB2 (And.intro hr2 (And.intro hr1 g1)))))
  clear hw2 g2 hB2 hr2 hr1 g1
  go_wp2_with fail
  refine hso.mono ?_
  clear hso
  rintro e w4 ⟨rfl, g4, hc4⟩
  rw [← H2.out.1] at g4
  have H4 := hide (And.intro g4 hc4)
  clear g4 hc4
  go_wp2
  go_ret
  have hsz := H2.out.2.2.2.2.2.size
  have hblk : ∀ g, (Value.slice so E.length cap).ownBlock = some g → w.heap.size ≤ g ∧ g ≠ w1.heap.size := fun g hg => by
    obtain ⟨h1, cur, hc⟩ := own_block H2.out.2.2.2.2.1 hg
    exact ⟨h1, fun e => by have := row_lt hc; omega⟩
  refine ⟨_, rfl, ⟨w1.heap.size, so, cap, rfl, ⟨?_, ?_, H4.out.2⟩, hsz, fun a ha => (hblk a.block (by rw [ha]; rfl)).1⟩, ?_⟩
  · rw [HE.out.2.2.2]
    exact (H4.out.1.block _ (row_lt H2.out.2.2.1) (fun e => (hblk _ e.symm).2 rfl)).trans H2.out.2.2.1
  · obtain ⟨vo, c2, hv, hle⟩ := own_form H2.out.2.2.2.1
    cases hv
    rw [HE.out.2.2.2]
    exact hle
  · exact grown_then (grown_trans H2.out.2.2.2.2.2 H2.out.2.1) H4.out.1 (fun j e => Or.inl (hblk j e).1)
theorem all_io {w : World} {p : Ip} {M : List (Nat × Int)} {lo : Bool} (h : Io w p M lo) :
    Calls Tryz.prog 38 #[.pointer (some ⟨p.x, 0, none⟩)] w fun e w' => ∃ v, e = .returned v ∧ AllV w' w.heap.size v M ∧ w.grownBy w' none := by
  obtain ⟨st, S, h1, _⟩ := h
  have hp := h1.inv.perm
  have hl := hp.length_eq
  exact all_of (items_at h1.at_) (by have := h1.full; have := h1.m2; unfold its; omega) hp.symm h1.inv.asc
/-- No index: none, or one that New did not answer. -/
def NoIx (w : World) (v : Value) : Prop := v = .pointer none ∨ ∃ x, v = .pointer (some ⟨x, 0, none⟩) ∧ w.cell? ⟨x, 0, none⟩ = some (.pointer none)
theorem NoIx.then {w w' : World} {v : Value} (h : NoIx w v) (g : w.grownBy w' none) : NoIx w' v := by
  rcases h with h | ⟨x, h1, h2⟩
  · exact .inl h
  · exact .inr ⟨x, h1, g.cell h2 (by simp)⟩
end Go.Proofs.YtjfhilignbeboabGreatDoor.Ix
