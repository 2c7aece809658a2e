/- Texts joined: Bk6, Bk7, Bk8, Bk9, BkA. -/
import Derived.Test.YtcbiloomnkbalaaGreatDoorJyAg
/- A booking added to a book. -/
namespace Go.Proofs.YtcbiloomnkbalaaGreatDoor
open Go.RowKit
attribute [local go_sem ↓] Go.wp_at_zero Go.wp_at_succ
/-- A book, and as many items as were due in it at most. -/
def BkAt (w : World) (p : Bp) (S : Sb) (K : Nat) : Prop := ∃ Lb R M E T N B C, BkR w p S Lb R M E T N B C (hmf E) ∧ Rel S Lb R M E ∧ N ≤ K ∧ B + E.length ≤ 2 * N ∧ C ≤ N
theorem few_due : ∀ {E : List (Nat × Int)} {L : List Bg}, (E.Pairwise fun e f => e.2 ≠ f.2) → (∀ e ∈ E, ∃ x ∈ L, (x.i : Int) = e.2) → E.length ≤ L.length
  | [], _, _, _ => Nat.zero_le _
  | e :: E, L, h3, h1 => by
    obtain ⟨x, hx, hxe⟩ := h1 e (List.mem_cons_self ..)
    obtain ⟨h4, h5⟩ := List.pairwise_cons.1 h3
    have ih := few_due (E := E) (L := del L x.i) h5 (fun f hf => by
      obtain ⟨y, hy, hyf⟩ := h1 f (List.mem_cons_of_mem _ hf)
      exact ⟨y, del_mem.2 ⟨hy, fun e2 => h4 f hf (by rw [← hxe, ← hyf, e2])⟩, hyf⟩)
    have hl : (del L x.i).length < L.length := by
      unfold del
      rw [List.length_filter_lt_length_iff_exists]
      exact ⟨x, hx, by simp⟩
    simp
    omega
theorem Rel.few {S : Sb} {Lb : List Bool} {R : List Bg} {M E : List (Nat × Int)} (h : Rel S Lb R M E) : E.length ≤ S.L.length :=
  few_due h.e3 (fun e he => by obtain ⟨x, hx, h1, -⟩ := h.e1 e he; exact ⟨x, hx, h1⟩)
/-- A box beside a book. -/
structure Bx (w W : World) (X : Nat) (cs : List Value) (ty : TypeId) (p q : Bp) : Prop where
  box : W.heap[X]? = some (.cells cs.toArray ty (0, 0))
  st : Bst w W p q
  nx : ¬ q.own X
  lo : w.heap.size ≤ X
section
variable {w W W' : World} {X : Nat} {cs : List Value} {ty : TypeId} {p q q' : Bp}
theorem Bx.step (h : Bx w W X cs ty p q) (k : Bst W W' q q') : Bx w W' X cs ty p q' :=
  ⟨k.kept.at h.box h.nx, h.st.trans k, fun e => by
    rcases k.own _ e with e | e
    · exact h.nx e
    · have := row_lt h.box; omega, h.lo⟩
theorem Bx.keep (h : Bx w W X cs ty p q) (k : Kept W W' q.own) : Bx w W' X cs ty p q := h.step (Bst.keep k)
theorem Bx.then (h : Bx w W X cs ty p q) (k : W.grownBy W' none) : Bx w W' X cs ty p q := h.keep (Kept.new k _)
theorem Bx.cells (h : Bx w W X cs ty p q) : ∀ j v, cs[j]? = some v → W.cell? ⟨X, j, none⟩ = some v := fun j v hv => by rw [cell_row h.box]; exact hv
theorem Bx.start {w : World} {p : Bp} (hlt : ∀ i, p.own i → i < w.heap.size) (cs : List Value) (ty : TypeId) : Bx w (w.alloc (.cells cs.toArray ty)) w.heap.size cs ty p p :=
  ⟨heap_alloc_new w _, Bst.grown (grown_alloc w _) p, fun e => Nat.lt_irrefl _ (hlt _ e), Nat.le_refl _⟩
end
section
variable {w w' : World} {p q : Bp} {S : Sb} {Lb Lb' : List Bool} {R : List Bg} {M E : List (Nat × Int)} {T : List Nat} {N B C K : Nat} {f : Int → Option Nat}
/-- Another seat's booking leaves an id's until as it is. -/
theorem tl_set {M : List (Nat × Int)} {R : List Bg} {k s : Nat} {y : Bg} (h : Ix.lk M k ≠ some (s : Int)) (hm : ∀ y ∈ M, 0 ≤ y.2) (ha : Ix.Asc M) : tl M (R.set s y) k = tl M R k := by
  unfold tl
  cases hq : Ix.lk M k with
  | none => rfl
  | some t =>
    have h0 : 0 ≤ t := hm (k, t) ((Ix.lk_some ha).1 hq)
    have hne : ¬ s = t.toNat := fun e => h (by rw [hq, e]; congr 1; omega)
    simp [List.getElem?_set, hne]
theorem seat_lies (h : BkR w p S Lb R M E T N B C f) {s : Nat} (hs : s < R.length) : (∃ a b c, w.cell? ⟨p.sg, s * 3, none⟩ = some a ∧ w.cell? ⟨p.sg, s * 3 + 1, none⟩ = some b ∧ w.cell? ⟨p.sg, s * 3 + 2, none⟩ = some c) ∧ (∀ j, w.frozen? ⟨p.sg, j, none⟩ = false) := by
  obtain ⟨h1, h2, h3⟩ := h.fd.seat hs
  exact ⟨⟨_, _, _, h1, h2, h3⟩, fun j => free_row h.row j⟩
/-- A booking is written at its seat. -/
theorem BkR.laid (h : BkR w p S Lb R M E T N B C f) (s : Nat) (y : Bg) (ht : ∀ e ∈ E, Ix.lk M e.2.toNat ≠ some (s : Int)) : BkR (((w.setCell ⟨p.sg, s * 3, none⟩ (.int .u32 (y.i : Int))).setCell ⟨p.sg, s * 3 + 1, none⟩ (.int .i64 (y.s : Int))).setCell ⟨p.sg, s * 3 + 2, none⟩ (.int .i64 y.u)) p S Lb (R.set s y) M E T N B C f ∧ Kept w (((w.setCell ⟨p.sg, s * 3, none⟩ (.int .u32 (y.i : Int))).setCell ⟨p.sg, s * 3 + 1, none⟩ (.int .i64 (y.s : Int))).setCell ⟨p.sg, s * 3 + 2, none⟩ (.int .i64 y.u)) p.own := by
  obtain ⟨lo, h1⟩ := h.ix
  refine h.seated (grown_trans (grown_trans (grown_setCell w _ _ _) (grown_setCell _ _ _ _)) (grown_setCell _ _ _ _)) ?_ (by simp) (fun e he => tl_set (ht e he) (fun y hy => (h.mi y hy).1) h1.asc)
  rw [bgs_set]
  exact row_setCell (row_setCell (row_setCell h.row _ _) _ _) _ _
set_option maxHeartbeats 4000000 in
theorem add_any (h : BkAt w p S K) (hw : S.Wk) (hK : K ≤ 10000000) (x : Bg) (hi : x.i < 4294967296) (hs : x.s < S.a) (ha : ∀ y ∈ S.L, y.i < x.i) (hn : sat S.L x.s = none) (hf : S.L.length < S.b) :
    Calls Tryz.prog 42 #[.pointer (some ⟨p.b, 0, none⟩), bgV x] w fun e w' => e = .returned (.tuple #[]) ∧ ∃ q, BkAt w' q { S with L := S.L ++ [x] } (K + 1) ∧ Bst w w' p q := by
  obtain ⟨Lb, R, M, E, T, N, B, C, h, hR, hN, hB, hC⟩ := h
  have hasc : Ix.Asc M := by obtain ⟨lo, h1⟩ := h.ix; exact h1.asc
  have hE : E.length < 65536 := by have := hR.few; have := hw.b1; omega
  have hLb : x.s < Lb.length := by rw [hR.lb]; exact hs
  have hRs : x.s < R.length := by rw [hR.rl]; exact hs
  have hno : fnd S.L x.i = none := fnd_none.2 (fun y hy e => by have := ha y hy; omega)
  have hlk : Ix.lk M x.i = none := by rw [hR.m, lk_mx, hno]; rfl
  have hml : M.length < S.b := by rw [hR.m, mx_length]; exact hf
  have hid : ∀ e ∈ E, e.2.toNat ≠ x.i := fun e he e2 => by
    obtain ⟨y, hy, h1, -⟩ := hR.e1 e he
    have := ha y hy
    omega
  have hst : ∀ e ∈ E, Ix.lk M e.2.toNat ≠ some (x.s : Int) := fun e he e2 => by
    obtain ⟨y, hy, h1, -⟩ := hR.e1 e he
    have h2 : e.2.toNat = y.i := by omega
    rw [h2, hR.m, lk_mx, (fnd_some hw.asc).2 ⟨hy, rfl⟩] at e2
    have e3 := Option.some.inj e2
    exact sat_none.1 hn y hy (Int.ofNat.inj e3)
  have b0 := Bx.start h.lt (bgc x) 78
  have h0 := h.then (grown_alloc w (.cells (bgc x).toArray 78))
  have HF : Hid (∀ W q E' T' N' B' C', BkR W q S (Lb.set x.s true) (R.set x.s x) (Ix.ins M (x.i, (x.s : Int))) E' T' N' B' C' (hmf E') → Bst w W p q → (x.u = 0 ∧ E' = E ∧ N' = N ∧ B' = B ∧ C' = C ∨ x.u ≠ 0 ∧ E' = E ++ [(N, (x.i : Int))] ∧ N' = N + 1 ∧ B' = B + 1 ∧ C' = C + 1) → ∃ q, BkAt W q { S with L := S.L ++ [x] } (K + 1) ∧ Bst w W p q) := by
    intro W q E' T' N' B' C' h1 h2 h3
    refine ⟨q, ⟨_, _, _, E', T', N', B', C', ⟨h1.head, h1.var, h1.set, h1.row, h1.ix, h1.due, h1.map, h1.ap, h1.z, h1.rl, h1.im, h1.sa, h1.mi⟩, ?_⟩, h2⟩
    rcases h3 with ⟨h3, rfl, rfl, rfl, rfl⟩ | ⟨h3, rfl, rfl, rfl, rfl⟩
    · exact ⟨hR.add hw hs ha hn h3, by omega, hB, hC⟩
    · exact ⟨hR.addH hw hs ha hn h3 N, by omega, by simp; omega, by omega⟩
  have HC1 : Hid (∀ W, (w.alloc (.cells (bgc x).toArray 78)).grownBy W none → Calls Tryz.prog 73 #[.pointer (some ⟨p.tb, 0, none⟩), .int .i64 (x.s : Int)] W fun e w' => e = .returned (.int .i64 0) ∧ BkR w' p S (Lb.set x.s true) R M E T N B C (hmf E) ∧ Bx w w' w.heap.size (bgc x) 78 p p) := by
    intro W hg
    refine (put_bk (h0.then hg) x.s hLb).mono ?_
    rintro e w' ⟨rfl, h1, h2⟩
    exact ⟨rfl, h1, (b0.then hg).keep h2⟩
  have HC3 : Hid (∀ W, BkR W p S (Lb.set x.s true) (R.set x.s x) M E T N B C (hmf E) → Bx w W w.heap.size (bgc x) 78 p p → Calls Tryz.prog 74 #[.pointer (some ⟨p.ip.x, 0, none⟩), .int .u32 (x.i : Int), .int .i64 (x.s : Int)] W fun e w' => e = .returned (.int .i64 0) ∧ BkR w' p S (Lb.set x.s true) (R.set x.s x) (Ix.ins M (x.i, (x.s : Int))) E T N B C (hmf E) ∧ Bx w w' w.heap.size (bgc x) 78 p p) := by
    intro W h1 h2
    refine (ixput_bk h1 x.i x.s hi (by simp; exact hRs) hlk hml hid).mono ?_
    rintro e w' ⟨rfl, h3, h4⟩
    exact ⟨rfl, h3, h2.keep h4⟩
  have HC5 : Hid (∀ W, BkR W p S (Lb.set x.s true) (R.set x.s x) (Ix.ins M (x.i, (x.s : Int))) E T N B C (hmf E) → Bx w W w.heap.size (bgc x) 78 p p → Calls Tryz.prog 75 #[.pointer (some ⟨p.hp.h, 0, none⟩), .int .u32 (x.i : Int)] W fun e w' => e = .returned (.tuple #[.int .i64 (N : Int), .int .i64 0]) ∧ ∃ q T', BkR w' q S (Lb.set x.s true) (R.set x.s x) (Ix.ins M (x.i, (x.s : Int))) (E ++ [(N, (x.i : Int))]) T' (N + 1) (B + 1) C (hmf E) ∧ Bx w w' w.heap.size (bgc x) 78 p q) := by
    intro W h1 h2
    refine (push_bk h1 hE (by omega) (by omega) x.i hi).mono ?_
    rintro e w' ⟨rfl, q, T', h3, h4⟩
    exact ⟨rfl, q, T', h3, h2.step h4⟩
  have HL : Hid (∀ W, BkR W p S (Lb.set x.s true) R M E T N B C (hmf E) → (∃ a b c, W.cell? ⟨p.sg, x.s * 3, none⟩ = some a ∧ W.cell? ⟨p.sg, x.s * 3 + 1, none⟩ = some b ∧ W.cell? ⟨p.sg, x.s * 3 + 2, none⟩ = some c) ∧ (∀ j, W.frozen? ⟨p.sg, j, none⟩ = false) ∧ ∀ W', W' = ((W.setCell ⟨p.sg, x.s * 3, none⟩ (.int .u32 (x.i : Int))).setCell ⟨p.sg, x.s * 3 + 1, none⟩ (.int .i64 (x.s : Int))).setCell ⟨p.sg, x.s * 3 + 2, none⟩ (.int .i64 x.u) → BkR W' p S (Lb.set x.s true) (R.set x.s x) M E T N B C (hmf E) ∧ Kept W W' p.own) := by
    intro W h1
    obtain ⟨h2, h3⟩ := seat_lies h1 hRs
    exact ⟨h2, h3, fun W' e => by rw [e]; exact h1.laid x.s x hst⟩
  have HM : Hid (∀ W q T', BkR W q S (Lb.set x.s true) (R.set x.s x) (Ix.ins M (x.i, (x.s : Int))) (E ++ [(N, (x.i : Int))]) T' (N + 1) (B + 1) C (hmf E) → q.hm = p.hm → ∃ W', (Instr.mapUpdate 64 (.map (some p.hm)) (.int .u32 (x.i : Int)) (.int .i64 (N : Int))).run Tryz.prog W = .ok () W' ∧ BkR W' q S (Lb.set x.s true) (R.set x.s x) (Ix.ins M (x.i, (x.s : Int))) (E ++ [(N, (x.i : Int))]) T' (N + 1) (B + 1) (C + 1) (hmf (E ++ [(N, (x.i : Int))])) ∧ Kept W W' q.own) := by
    intro W q T' h1 hq
    obtain ⟨W', hrun, hmap, hg⟩ := h1.map.store (by first | exact Tryz.underlying24 | kernel_rfl) Tryz.underlying64 (by unfold maxLen; omega) (wf_u32 hi) (.int .i64 (N : Int))
    rw [hq] at hrun
    refine ⟨W', hrun, h1.mapped hg (hmap.congr (fun y => ?_))⟩
    rw [← hmf_push (fun e he e2 => hid e he (by omega))]
    split <;> rfl
  have hsa : S.a ≤ 1024 := hw.a1
  have hrl := h.rl
  have HB0 := hide (And.intro h0 b0)
  have c6 := h0.cells 6 _ rfl
  have x0 := b0.cells 0 _ rfl
  have x1 := b0.cells 1 _ rfl
  have x2 := b0.cells 2 _ rfl
  clear h h0 b0 hR hst hid hno hlk hml hasc ha hn hw
  obtain ⟨xi, xs, xu⟩ := x
  unfold bgV
  simp only [bgc] at *
  go_enter Tryz.func42, Tryz.ntmps42
  go_wp2
  go_region_held3 (fun W => W.cell? ⟨p.b, 6, none⟩ = some (.pointer (some ⟨p.tb, 0, none⟩)) ∧ W.cell? ⟨w.heap.size, 1, none⟩ = some (.int .i64 (xs : Int))) (first | assumption | exact ⟨c6, x1⟩)
    ((go_at_call 73; refine (HC1.out _ (grown_drew _ none)).mono ?_; rintro e w1 ⟨rfl, hA, hX⟩; have hK1 := And.intro (hA.cells 6 _ rfl) (hX.cells 1 _ rfl)))
  have H1 := hide (And.intro hA hX)
  obtain ⟨⟨va, vb', vc, y0, y1, y2⟩, y3, y4⟩ := HL.out w1 hA
  have HY := hide y4
  have b7 := hA.cells 7 _ rfl
  have z0 := hX.cells 0 _ rfl
  have z1 := hX.cells 1 _ rfl
  have z2 := hX.cells 2 _ rfl
  clear hK1 hA hX c6 x0 x1 x2 y4 HL HC1 HB0
  go_wp2
  go_region
  have q1 := HY.out _ rfl
  have hA2 := q1.1.then (grown_drew _ none)
  have hX2 := (H1.out.2.keep q1.2).then (grown_drew _ none)
  clear q1 HY H1 y0 y1 y2 y3 b7 z0 z1 z2
  generalize (((w1.setCell ⟨p.sg, xs * 3, none⟩ (.int .u32 (xi : Int))).setCell ⟨p.sg, xs * 3 + 1, none⟩ (.int .i64 (xs : Int))).setCell ⟨p.sg, xs * 3 + 2, none⟩ (.int .i64 xu)).drew = w2 at *
  have HC3' := hide (HC3.out w2.drew (hA2.then (grown_drew _ none)) (hX2.then (grown_drew _ none)))
  have b8 := hA2.cells 8 _ rfl
  have z0 := hX2.cells 0 _ rfl
  have z1 := hX2.cells 1 _ rfl
  clear hA2 hX2 HC3
  go_wp2
  go_region_held3 (fun W => W.cell? ⟨p.b, 8, none⟩ = some (.pointer (some ⟨p.ip.x, 0, none⟩)) ∧ W.cell? ⟨w.heap.size, 0, none⟩ = some (.int .u32 (xi : Int)) ∧ W.cell? ⟨w.heap.size, 1, none⟩ = some (.int .i64 (xs : Int))) (first | assumption | exact ⟨b8, z0, z1⟩)
    ((go_at_call 74; refine HC3'.out.mono ?_; rintro e w3 ⟨rfl, hA, hX⟩; have hK1 := And.intro (hA.cells 8 _ rfl) (And.intro (hX.cells 0 _ rfl) (hX.cells 1 _ rfl))))
  have H3 := hide (And.intro hA hX)
  have b9 := hA.cells 9 _ rfl
  have b10 := hA.cells 10 _ rfl
  have z0 := hX.cells 0 _ rfl
  have z2 := hX.cells 2 _ rfl
  have HC5' := hide (HC5.out w3.drew (hA.then (grown_drew _ none)) (hX.then (grown_drew _ none)))
  clear hK1 hA hX b8 HC3' HC5
  by_cases hu : xu = 0
  · have hF := HF.out w3 p E T N B C H3.out.1 H3.out.2.st (.inl ⟨hu, rfl, rfl, rfl, rfl⟩)
    have HFF := hide hF
    clear hF HF H3
    subst hu
    go_wp2
    go_end0
    exact ⟨rfl, HFF.out⟩
  · have hu1 : (xu == 0) = false := by simpa using hu
    have hu2 : (xu != 0) = true := by simpa using hu
    have hu3 : decide (xu = 0) = false := by simpa using hu
    go_wp2
    go_region_held3 (fun W => W.cell? ⟨p.b, 9, none⟩ = some (.pointer (some ⟨p.hp.h, 0, none⟩)) ∧ W.cell? ⟨p.b, 10, none⟩ = some (.map (some p.hm)) ∧ W.cell? ⟨w.heap.size, 0, none⟩ = some (.int .u32 (xi : Int))) (first | assumption | exact ⟨b9, b10, z0⟩)
      ((go_at_call 75; refine HC5'.out.mono ?_; rintro e w4 ⟨rfl, q, T', hA, hX⟩; have hcl : ∀ j v, (bkc p S)[j]? = some v → w4.cell? ⟨p.b, j, none⟩ = some v := (by have h9 := hA.cells; rw [hX.st.bkc, hX.st.b] at h9; exact h9); have hk4 := And.intro (hcl 9 _ rfl) (And.intro (hcl 10 _ rfl) (hX.cells 0 _ rfl)); obtain ⟨w5, hrun, hB5, hK5⟩ := HM.out w4 q T' hA hX.st.hm; have hX5 := hX.keep hK5; have hcl5 : ∀ j v, (bkc p S)[j]? = some v → w5.cell? ⟨p.b, j, none⟩ = some v := (by have h9 := hB5.cells; rw [hX5.st.bkc, hX5.st.b] at h9; exact h9); have hk5 := And.intro (hcl5 9 _ rfl) (And.intro (hcl5 10 _ rfl) (hX5.cells 0 _ rfl)); have HE5 := hide (And.intro hB5 hX5); clear hcl hcl5 hA hX hB5 hX5 hK5))
    go_end0
    exact ⟨rfl, HF.out w5 q _ T' _ _ _ HE5.out.1 HE5.out.2.st (.inr ⟨hu, rfl, rfl, rfl, rfl⟩)⟩
end
end Go.Proofs.YtcbiloomnkbalaaGreatDoor
/- What is due: taken out, the first one; a booking removed. -/
namespace Go.Proofs.YtcbiloomnkbalaaGreatDoor
open Go.RowKit
attribute [local go_sem ↓] Go.wp_at_zero Go.wp_at_succ
section
variable {w w' : World} {p q : Bp} {S : Sb} {Lb Lb' : List Bool} {R : List Bg} {M E : List (Nat × Int)} {T : List Nat} {N B C K : Nat} {f : Int → Option Nat}
theorem BkR.cells' {w0 : World} {p0 : Bp} (h : BkR w p S Lb R M E T N B C f) (k : Bst w0 w p0 p) : ∀ j v, (bkc p0 S)[j]? = some v → w.cell? ⟨p0.b, j, none⟩ = some v := by
  have h9 := h.cells
  rw [k.bkc, k.b] at h9
  exact h9
set_option maxHeartbeats 4000000 in
theorem release_any (h : BkR w p S Lb R M E T N B C (hmf E)) (h3 : E.Pairwise fun e f => e.2 ≠ f.2) (hE : E.length ≤ 65536) (hN : N ≤ 10000000) (hB : B + E.length ≤ 2 * N) (k : Nat) (hk : k < 4294967296) :
    Calls Tryz.prog 91 #[.pointer (some ⟨p.b, 0, none⟩), .int .u32 (k : Int)] w fun e w' => e = .returned (.tuple #[]) ∧ ∃ q E' T' B', BkR w' q S Lb R M E' T' N B' C (hmf E') ∧ Bst w w' p q ∧ (∀ e, e ∈ E' ↔ e ∈ E ∧ e.2 ≠ (k : Int)) ∧ (E'.Pairwise fun e f => e.2 ≠ f.2) ∧ B' + E'.length ≤ 2 * N := by
  have hl := look_bk h k hk
  have b10 := h.cells 10 _ rfl
  have b9 := h.cells 9 _ rfl
  cases hq : hmf E (k : Int) with
  | none =>
    rw [hq] at hl
    have hF : ∃ q E' T' B', BkR w q S Lb R M E' T' N B' C (hmf E') ∧ Bst w w p q ∧ (∀ e, e ∈ E' ↔ e ∈ E ∧ e.2 ≠ (k : Int)) ∧ (E'.Pairwise fun e f => e.2 ≠ f.2) ∧ B' + E'.length ≤ 2 * N :=
      ⟨p, E, T, B, h, Bst.refl _ _, fun e => ⟨fun he => ⟨he, hmf_none.1 hq e he⟩, fun he => he.1⟩, h3, hB⟩
    have HF := hide hF
    clear hF hq h h3
    simp only [Option.getD, Option.isSome] at hl
    go_enter Tryz.func91, Tryz.ntmps91
    go_wp2
    go_end0
    exact ⟨rfl, HF.out⟩
  | some n =>
    rw [hq] at hl
    obtain ⟨i, hi, hei⟩ := List.mem_iff_getElem.1 ((hmf_some h3).1 hq)
    have hen : Hp.en E i = (n, (k : Int)) := by rw [en_getElem hi]; exact hei
    have hC := hdrop_bk h hE (by omega) (by omega) i hi
    rw [hen] at hC
    simp only at hC
    have HC := hide hC
    have HM : Hid (∀ W q T', BkR W q S Lb R M (Hp.outE E i) T' N (B + 1) C (hmf E) → Bst w W p q → ∃ W', (Builtin.delete_ #[64, 24] 0 #[.map (some p.hm), .int .u32 (k : Int)]).run Tryz.prog W = .ok (.tuple #[]) W' ∧ ∃ q E' T' B', BkR W' q S Lb R M E' T' N B' C (hmf E') ∧ Bst w W' p q ∧ (∀ e, e ∈ E' ↔ e ∈ E ∧ e.2 ≠ (k : Int)) ∧ (E'.Pairwise fun e f => e.2 ≠ f.2) ∧ B' + E'.length ≤ 2 * N) := by
      intro W q T' h1 h2
      obtain ⟨W', hrun, hmap, hg⟩ := h1.map.drop (by first | exact Tryz.underlying24 | kernel_rfl) Tryz.underlying64 (wf_u32 hk) 0
      rw [h2.hm] at hrun
      obtain ⟨h4, h5⟩ := h1.mapped (f' := hmf (Hp.outE E i)) hg (hmap.congr (fun y => by
        rw [← hmf_out h3 hi, hen]
        split <;> rfl))
      refine ⟨W', hrun, q, Hp.outE E i, T', B + 1, h4, h2.trans (Bst.keep h5), fun e => ?_, outE_pair h3 hi, ?_⟩
      · rw [outE_mem h3 hi, hen]
      · rw [Hp.outE_length]; omega
    clear hC hq h3 hei hen h
    simp only [Option.getD, Option.isSome] at hl
    go_enter Tryz.func91, Tryz.ntmps91
    go_wp2_with fail
    refine HC.out.mono ?_
    rintro e w1 ⟨rfl, q, T', hA, hS⟩
    have c10 := hA.cells' hS 10 _ rfl
    obtain ⟨W', hrun, hF⟩ := HM.out w1 q T' hA hS
    have HF := hide hF
    clear hF hA hS HM HC b10 b9 hl
    go_wp2
    go_end0
    exact ⟨rfl, HF.out⟩
end
end Go.Proofs.YtcbiloomnkbalaaGreatDoor
/- A booking removed; the one that is due first; another seat. -/
namespace Go.Proofs.YtcbiloomnkbalaaGreatDoor
open Go.RowKit
attribute [local go_sem ↓] Go.wp_at_zero Go.wp_at_succ
section
variable {w w' : World} {p q : Bp} {S : Sb} {Lb Lb' : List Bool} {R : List Bg} {M E : List (Nat × Int)} {T : List Nat} {N B C K : Nat} {f : Int → Option Nat}
theorem BkR.re {S' : Sb} (h : BkR w p S Lb R M E T N B C f) (ha : S'.a = S.a) (hb : S'.b = S.b) (hc : S'.c = S.c) (hn : S'.n = S.n) (ht : S'.t = S.t) : BkR w p S' Lb R M E T N B C f :=
  ⟨by have := h.head; unfold bkc at *; rw [ha, hb, hc, hn, ht]; exact this, h.var, h.set, h.row, h.ix, h.due, h.map, h.ap, h.z, by rw [ha]; exact h.rl, by rw [hb]; exact h.im, by rw [ha]; exact h.sa, h.mi⟩
theorem BkAt.lt (h : BkAt w p S K) : ∀ i, p.own i → i < w.heap.size := by obtain ⟨_, _, _, _, _, _, _, _, h, _⟩ := h; exact h.lt
theorem BkAt.far {X : Nat → Prop} (h : BkAt w p S K) (k : Kept w w' X) (hX : ∀ i, p.own i → ¬ X i) : BkAt w' p S K := by
  obtain ⟨Lb, R, M, E, T, N, B, C, h, h1⟩ := h; exact ⟨Lb, R, M, E, T, N, B, C, h.far k hX, h1⟩
theorem BkAt.then (h : BkAt w p S K) (k : w.grownBy w' none) : BkAt w' p S K := h.far (Kept.new k (fun _ => False)) (fun _ _ e => e)
theorem BkAt.mono (h : BkAt w p S K) {K' : Nat} (hk : K ≤ K') : BkAt w p S K' := by
  obtain ⟨Lb, R, M, E, T, N, B, C, h, h1, h2, h3, h4⟩ := h; exact ⟨Lb, R, M, E, T, N, B, C, h, h1, by omega, h3, h4⟩
theorem BkAt.cells (h : BkAt w p S K) : ∀ j v, (bkc p S)[j]? = some v → w.cell? ⟨p.b, j, none⟩ = some v := by obtain ⟨_, _, _, _, _, _, _, _, h, _⟩ := h; exact h.cells
theorem BkAt.z (h : BkAt w p S K) : ¬ p.own 0 := by obtain ⟨_, _, _, _, _, _, _, _, h, _⟩ := h; exact h.z
set_option maxHeartbeats 4000000 in
theorem remove_any (h : BkAt w p S K) (hw : S.Wk) (hK : K ≤ 10000000) (x : Bg) (hx : x ∈ S.L) :
    Calls Tryz.prog 92 #[.pointer (some ⟨p.b, 0, none⟩), bgV x] w fun e w' => e = .returned (.tuple #[]) ∧ ∃ q, BkAt w' q { S with L := del S.L x.i } K ∧ Bst w w' p q := by
  obtain ⟨Lb, R, M, E, T, N, B, C, h, hR, hN, hB, hC⟩ := h
  have hE : E.length ≤ 65536 := by have := hR.few; have := hw.few; have := hw.b1; omega
  have hLb : x.s < Lb.length := by rw [hR.lb]; exact hw.st x hx
  have hi : x.i < 4294967296 := by have := hw.id x hx; have := hw.n1; omega
  have b0 := Bx.start h.lt (bgc x) 78
  have h0 := h.then (grown_alloc w (.cells (bgc x).toArray 78))
  have HC1 := hide (release_any h0 hR.e3 hE (by omega) hB x.i hi)
  have HS1 : Hid (∀ W q E' T' B', BkR W q S Lb R M E' T' N B' C (hmf E') → Bst (w.alloc (.cells (bgc x).toArray 78)) W p q → (∀ e, e ∈ E' ↔ e ∈ E ∧ e.2 ≠ (x.i : Int)) → Bx w W w.heap.size (bgc x) 78 p q) := fun W q E' T' B' h1 h2 h3 => b0.step h2
  have HC2 : Hid (∀ W q E' T' B', BkR W q S Lb R M E' T' N B' C (hmf E') → Bx w W w.heap.size (bgc x) 78 p q → (∀ e, e ∈ E' ↔ e ∈ E ∧ e.2 ≠ (x.i : Int)) → Calls Tryz.prog 109 #[.pointer (some ⟨p.ip.x, 0, none⟩), .int .u32 (x.i : Int)] W fun e w' => ∃ b, e = .returned (.bool b) ∧ BkR w' q S Lb R (Ix.dr M x.i) E' T' N B' C (hmf E') ∧ Bx w w' w.heap.size (bgc x) 78 p q) := by
    intro W q E' T' B' h1 h2 h3
    have hip : q.ip = p.ip := by rw [h2.st.eq]
    rw [← hip]
    refine (ixdrop_bk h1 x.i hi (fun e he e2 => ((h3 e).1 he).2 ?_)).mono ?_
    · obtain ⟨y, hy, h4, -⟩ := hR.e1 e ((h3 e).1 he).1
      omega
    · rintro e w' ⟨rfl, h4, h5⟩
      exact ⟨_, rfl, h4, h2.keep h5⟩
  have HC3 : Hid (∀ W q E' T' B', BkR W q S Lb R (Ix.dr M x.i) E' T' N B' C (hmf E') → Bx w W w.heap.size (bgc x) 78 p q → (∀ e, e ∈ E' ↔ e ∈ E ∧ e.2 ≠ (x.i : Int)) → (E'.Pairwise fun e f => e.2 ≠ f.2) → B' + E'.length ≤ 2 * N → Calls Tryz.prog 110 #[.pointer (some ⟨p.tb, 0, none⟩), .int .i64 (x.s : Int)] W fun e w' => e = .returned (.int .i64 0) ∧ BkAt w' q { S with L := del S.L x.i } K ∧ Bx w w' w.heap.size (bgc x) 78 p q) := by
    intro W q E' T' B' h1 h2 h3 h4 h5
    have hip : q.tb = p.tb := by rw [h2.st.eq]
    rw [← hip]
    refine (free_bk h1 x.s hLb).mono ?_
    rintro e w' ⟨rfl, h6, h7⟩
    exact ⟨rfl, ⟨_, _, _, E', T', N, B', C, h6.re rfl rfl rfl rfl rfl, hR.gone hw hx h3 h4, hN, h5, hC⟩, h2.keep h7⟩
  have x0 := b0.cells 0 _ rfl
  clear h h0 b0 hR hw hx
  obtain ⟨xi, xs, xu⟩ := x
  unfold bgV
  simp only [bgc] at *
  go_enter Tryz.func92, Tryz.ntmps92
  go_wp2_with fail
  refine HC1.out.mono ?_
  rintro e w1 ⟨rfl, q, E', T', B', hA, hS, hm, hp, hb⟩
  have hX := HS1.out w1 q E' T' B' hA hS hm
  have c8 := hA.cells' hX.st 8 _ rfl
  have z0 := hX.cells 0 _ rfl
  have HC2' := hide (HC2.out w1.drew q E' T' B' (hA.then (grown_drew _ none)) (hX.then (grown_drew _ none)) hm)
  have HP := hide (And.intro hm (And.intro hp hb))
  clear hA hS hX hm hp hb HS1 HC1 x0 HC2
  go_wp2
  go_region_held3 (fun W => W.cell? ⟨p.b, 8, none⟩ = some (.pointer (some ⟨p.ip.x, 0, none⟩)) ∧ W.cell? ⟨w.heap.size, 0, none⟩ = some (.int .u32 (xi : Int))) (first | assumption | exact ⟨c8, z0⟩)
    ((go_at_call 109; refine HC2'.out.mono ?_; rintro e w2 ⟨bb, rfl, hA, hX⟩; have hK1 := And.intro (hA.cells' hX.st 8 _ rfl) (hX.cells 0 _ rfl)))
  have c6 := hA.cells' hX.st 6 _ rfl
  have z1 := hX.cells 1 _ rfl
  have HC3' := hide (HC3.out w2.drew q E' T' B' (hA.then (grown_drew _ none)) (hX.then (grown_drew _ none)) HP.out.1 HP.out.2.1 HP.out.2.2)
  clear hA hX hK1 c8 z0 HC2' HC3
  go_wp2
  go_region_held3 (fun W => W.cell? ⟨p.b, 6, none⟩ = some (.pointer (some ⟨p.tb, 0, none⟩)) ∧ W.cell? ⟨w.heap.size, 1, none⟩ = some (.int .i64 (xs : Int))) (first | assumption | exact ⟨c6, z1⟩)
    ((go_at_call 110; refine HC3'.out.mono ?_; rintro e w3 ⟨rfl, hA, hX⟩; have hcl : ∀ j v, (bkc p S)[j]? = some v → w3.cell? ⟨p.b, j, none⟩ = some v := (by have h9 := hA.cells; rw [hX.st.bkc, hX.st.b] at h9; exact h9); have hK1 := And.intro (hcl 6 _ rfl) (hX.cells 1 _ rfl)))
  go_end0
  exact ⟨rfl, q, hA, hX.st⟩
/-- The cells of no booking. -/
def bgz : List Value := [.int .u32 0, .int .i64 0, .int .i64 0]
/-- What is due first. -/
def Fst (S : Sb) (x : Bg) (b : Bool) : Prop := (b = false ∧ x = ⟨0, 0, 0⟩ ∧ ∀ y ∈ S.L, y.u = 0) ∨ (b = true ∧ x ∈ S.L ∧ x.u ≠ 0 ∧ ∀ y ∈ S.L, y.u ≠ 0 → x.u ≤ y.u)
set_option maxHeartbeats 4000000 in
theorem first_any (h : BkAt w p S K) (hw : S.Wk) : Calls Tryz.prog 57 #[.pointer (some ⟨p.b, 0, none⟩)] w fun e w' => ∃ x b, e = .returned (.tuple #[bgV x, .bool b]) ∧ Fst S x b ∧ BkAt w' p S K ∧ Kept w w' p.own := by
  obtain ⟨Lb, R, M, E, T, N, B, C, h, hR, hN⟩ := h
  have b0 := Bx.start h.lt bgz 78
  have h0 := h.then (grown_alloc w (.cells bgz.toArray 78))
  have c9 := h0.cells 9 _ rfl
  have HC1 := hide (least_bk h0)
  by_cases hz : 0 < E.length
  · obtain ⟨ht, hle⟩ := least_le h hz
    obtain ⟨x, hx, hxe, hxu⟩ := hR.e1 _ (Hp.en_mem ht)
    have hi : x.i < 4294967296 := by have := hw.id x hx; have := hw.n1; omega
    have hfn : fnd S.L x.i = some x := (fnd_some hw.asc).2 ⟨hx, rfl⟩
    have hlk : Ix.lk M x.i = some (x.s : Int) := by rw [hR.m, lk_mx, hfn]; rfl
    have hfx : fn M R x.i = x := by unfold fn; rw [hlk]; simp [rd, hR.rw x hx]
    have HF : Hid (Fst S x true) := by
      refine .inr ⟨rfl, hx, hxu, fun y hy hyu => ?_⟩
      obtain ⟨e, he, h2⟩ := hR.e2 y hy hyu
      have := hle e he
      rw [h2, ← hxe] at this
      simp only [Int.toNat_natCast] at this
      rw [hR.tl_mem hw.asc hx, hR.tl_mem hw.asc hy] at this
      exact this
    have HC2 : Hid (∀ W, BkR W p S Lb R M E T N B C (hmf E) → Bx w W w.heap.size bgz 78 p p → Calls Tryz.prog 54 #[.pointer (some ⟨p.b, 0, none⟩), .int .u32 (x.i : Int)] W fun e w' => e = .returned (.tuple #[bgV x, .int .i64 0]) ∧ BkAt w' p S K ∧ Bx w w' w.heap.size bgz 78 p p) := by
      intro W h1 h2
      have hc := find_bk h1 x.i hi
      rw [hfx, hlk] at hc
      refine hc.mono ?_
      rintro e w' ⟨rfl, h3, h4⟩
      exact ⟨rfl, ⟨Lb, R, M, E, T, N, B, C, h3, hR, hN⟩, h2.keep h4⟩
    rw [if_pos hz, if_pos hz, decide_eq_true hz, ← hxe] at HC1
    have H0 := hide (And.intro h0 b0)
    clear h h0 b0 hR hw hx hxe hxu hi hfn hlk hfx hle ht hz hN
    generalize (Hp.en E (Hp.tn T 0)).1 = hd at *
    obtain ⟨xi, xs, xu⟩ := x
    unfold bgV at HC2
    simp only [bgz] at *
    go_enter Tryz.func57, Tryz.ntmps57
    go_wp2_with fail
    refine HC1.out.mono ?_
    rintro e w1 ⟨rfl, hg1⟩
    have HC2' := hide (HC2.out w1 (H0.out.1.then hg1) (H0.out.2.then hg1))
    clear HC1 HC2 H0 c9 hg1
    go_wp2_with fail
    refine HC2'.out.mono ?_
    rintro e w2 ⟨rfl, hA, hX⟩
    have hA3 := hA.then (grown_alloc w2 (.cells #[.int .u32 (xi : Int), .int .i64 (xs : Int), .int .i64 xu] 78))
    have hX3 := hX.then (grown_alloc w2 (.cells #[.int .u32 (xi : Int), .int .i64 (xs : Int), .int .i64 xu] 78))
    obtain ⟨d0, d1, d2, d3⟩ := box3 hX3.box
    have hne : ¬ w.heap.size = w2.heap.size := by have := row_lt hX.box; omega
    have H3 := hide (And.intro hA3 hX3)
    clear hA hX hA3 hX3 HC2'
    go_wp2
    obtain ⟨r1, r2⟩ := row3 _ H3.out.2.box (.int .u32 (xi : Int)) (.int .i64 (xs : Int)) (.int .i64 xu)
    have k1 : Kept _ _ (fun i => i = w.heap.size) := Kept.of r2 (fun _ e _ => (Option.some.inj e).symm)
    refine bodyPost_ret (results_bg rfl _ _ w.heap.size ⟨xi, xs, xu⟩ (.bool true) rfl r1 rfl) rfl ⟨_, _, rfl, HF.out, H3.out.1.far k1 (fun i hi e => H3.out.2.nx (by rw [← e]; exact hi)), ?_⟩
    exact H3.out.2.st.kept.trans k1 (fun i hi e => absurd hi (by rw [e]; exact Nat.lt_irrefl _))
  · have hE0 : E = [] := List.eq_nil_of_length_eq_zero (by omega)
    have HF : Hid (Fst S ⟨0, 0, 0⟩ false) := by
      refine .inl ⟨rfl, rfl, fun y hy => ?_⟩
      apply Classical.byContradiction
      intro hyu
      obtain ⟨e, he, -⟩ := hR.e2 y hy hyu
      rw [hE0] at he
      cases he
    rw [if_neg hz, if_neg hz, decide_eq_false hz] at HC1
    have H0 : Hid (∀ W, (w.alloc (.cells bgz.toArray 78)).grownBy W none → BkAt W p S K ∧ Bx w W w.heap.size bgz 78 p p) := fun W hg => ⟨⟨Lb, R, M, E, T, N, B, C, h0.then hg, hR, hN⟩, b0.then hg⟩
    clear h h0 b0 hR hw hz hE0 hN
    simp only [bgz] at *
    go_enter Tryz.func57, Tryz.ntmps57
    go_wp2_with fail
    refine HC1.out.mono ?_
    rintro e w1 ⟨rfl, hg1⟩
    obtain ⟨hA, hX⟩ := H0.out w1 hg1
    obtain ⟨d0, d1, d2, d3⟩ := box3 hX.box
    have H3 := hide (And.intro hA hX)
    clear HC1 H0 c9 hg1 hA hX
    go_wp2
    obtain ⟨r1, r2⟩ := row3 _ H3.out.2.box (.int .u32 0) (.int .i64 0) (.int .i64 0)
    have k1 : Kept _ _ (fun i => i = w.heap.size) := Kept.of r2 (fun _ e _ => (Option.some.inj e).symm)
    refine bodyPost_ret (results_bg rfl _ _ w.heap.size ⟨0, 0, 0⟩ (.bool false) rfl r1 rfl) rfl ⟨_, _, rfl, HF.out, H3.out.1.far k1 (fun i hi e => H3.out.2.nx (by rw [← e]; exact hi)), ?_⟩
    exact H3.out.2.st.kept.trans k1 (fun i hi e => absurd hi (by rw [e]; exact Nat.lt_irrefl _))
end
end Go.Proofs.YtcbiloomnkbalaaGreatDoor
/- What a shape tells; a hold that may be. -/
namespace Go.Proofs.YtcbiloomnkbalaaGreatDoor
open Go.RowKit
attribute [local go_sem ↓] Go.wp_at_zero Go.wp_at_succ
def limV (a b c : Nat) : Value := .agg #[.int .i64 (a : Int), .int .i64 (b : Int), .int .i64 (c : Int)]
theorem hasSeat_any (a b c : Nat) (s : Int) (w : World) : Calls Tryz.prog 55 #[limV a b c, .int .i64 s] w fun e w' => e = .returned (.bool (decide (0 ≤ s ∧ s < (a : Int)))) ∧ w.grownBy w' none := by
  have hg : ∀ o, w.grownBy (w.alloc o) none := fun o => grown_alloc w o
  unfold limV
  by_cases h1 : 0 ≤ s
  · by_cases h2 : s < (a : Int)
    · rw [decide_eq_true (show 0 ≤ s ∧ s < (a : Int) from ⟨h1, h2⟩)]
      go_enter Tryz.func55, Tryz.ntmps55
      go_wp2
      go_ret
      exact ⟨rfl, hg _⟩
    · rw [decide_eq_false (show ¬ (0 ≤ s ∧ s < (a : Int)) from fun h => h2 h.2)]
      go_enter Tryz.func55, Tryz.ntmps55
      go_wp2
      go_ret
      exact ⟨rfl, hg _⟩
  · rw [decide_eq_false (show ¬ (0 ≤ s ∧ s < (a : Int)) from fun h => h1 h.1)]
    go_enter Tryz.func55, Tryz.ntmps55
    go_wp2
    go_ret
    exact ⟨rfl, hg _⟩
theorem hasRoom_any (a b c : Nat) (s : Int) (w : World) : Calls Tryz.prog 71 #[limV a b c, .int .i64 s] w fun e w' => e = .returned (.bool (decide (s < (b : Int)))) ∧ w.grownBy w' none := by
  have hg : ∀ o, w.grownBy (w.alloc o) none := fun o => grown_alloc w o
  unfold limV
  by_cases h2 : s < (b : Int)
  · rw [decide_eq_true h2]
    go_enter Tryz.func71, Tryz.ntmps71
    go_wp2
    go_ret
    exact ⟨rfl, hg _⟩
  · rw [decide_eq_false h2]
    go_enter Tryz.func71, Tryz.ntmps71
    go_wp2
    go_ret
    exact ⟨rfl, hg _⟩
section
variable {w w' : World} {p q : Bp} {S : Sb} {Lb Lb' : List Bool} {R : List Bg} {M E : List (Nat × Int)} {T : List Nat} {N B C K : Nat} {f : Int → Option Nat}
/-- The taken seats, asked. -/
theorem BkAt.has (h : BkAt w p S K) (s : Nat) (hs : s < S.a) : Calls Tryz.prog 56 #[.pointer (some ⟨p.tb, 0, none⟩), .int .i64 (s : Int)] w fun e w' => e = .returned (.bool (sat S.L s).isSome) ∧ w.grownBy w' none := by
  obtain ⟨Lb, R, M, E, T, N, B, C, h, hR, hN⟩ := h
  have := has_bk h s (by rw [hR.lb]; exact hs)
  rw [hR.tk] at this
  exact this
theorem BkAt.len (h : BkAt w p S K) : Calls Tryz.prog 53 #[.pointer (some ⟨p.ip.x, 0, none⟩)] w fun e w' => e = .returned (.int .i64 (S.L.length : Int)) ∧ w' = w := by
  obtain ⟨Lb, R, M, E, T, N, B, C, h, hR, hN⟩ := h
  have := len_bk h
  rw [hR.m, mx_length] at this
  exact this
theorem BkAt.isNone (h : BkAt w p S K) : Calls Tryz.prog 47 #[.pointer (some ⟨p.b, 0, none⟩)] w fun e w' => e = .returned (.bool false) ∧ w' = w := by
  obtain ⟨Lb, R, M, E, T, N, B, C, h, hR, hN⟩ := h
  exact isNone_bk h
/-- A book beside a box, in the midst of a call that changes nothing. -/
structure Bm (w W : World) (X : Nat) (cs : List Value) (ty : TypeId) (p : Bp) (S : Sb) (K : Nat) : Prop where
  bk : BkAt W p S K
  gr : w.grownBy W none
  box : W.heap[X]? = some (.cells cs.toArray ty (0, 0))
  lo : w.heap.size ≤ X
theorem Bm.then {W W' : World} {X : Nat} {cs : List Value} {ty : TypeId} (h : Bm w W X cs ty p S K) (g : W.grownBy W' none) : Bm w W' X cs ty p S K :=
  ⟨h.bk.then g, grown_trans h.gr g, (g.block _ (row_lt h.box) (by simp)).trans h.box, h.lo⟩
theorem Bm.cells {W : World} {X : Nat} {cs : List Value} {ty : TypeId} (h : Bm w W X cs ty p S K) : ∀ j v, cs[j]? = some v → W.cell? ⟨X, j, none⟩ = some v := fun j v hv => by rw [cell_row h.box]; exact hv
theorem Bm.start (h : BkAt w p S K) (cs : List Value) (ty : TypeId) : Bm w (w.alloc (.cells cs.toArray ty)) w.heap.size cs ty p S K :=
  ⟨h.then (grown_alloc w _), grown_alloc w _, heap_alloc_new w _, Nat.le_refl _⟩
/-- What stands in the book's head and in the box. -/
structure Bf (W : World) (X : Nat) (cs : List Value) (p : Bp) (S : Sb) : Prop where
  a0 : W.cell? ⟨p.b, 0, none⟩ = some (.int .i64 (S.a : Int))
  a1 : W.cell? ⟨p.b, 1, none⟩ = some (.int .i64 (S.b : Int))
  a2 : W.cell? ⟨p.b, 2, none⟩ = some (.int .i64 (S.c : Int))
  a4 : W.cell? ⟨p.b, 4, none⟩ = some (.int .u32 (S.n : Int))
  a5 : W.cell? ⟨p.b, 5, none⟩ = some (.int .i64 S.t)
  a6 : W.cell? ⟨p.b, 6, none⟩ = some (.pointer (some ⟨p.tb, 0, none⟩))
  a8 : W.cell? ⟨p.b, 8, none⟩ = some (.pointer (some ⟨p.ip.x, 0, none⟩))
  bx : ∀ j v, cs[j]? = some v → W.cell? ⟨X, j, none⟩ = some v
theorem Bm.ff {W : World} {X : Nat} {cs : List Value} {ty : TypeId} (h : Bm w W X cs ty p S K) : Bf W X cs p S :=
  ⟨h.bk.cells 0 _ rfl, h.bk.cells 1 _ rfl, h.bk.cells 2 _ rfl, h.bk.cells 4 _ rfl, h.bk.cells 5 _ rfl, h.bk.cells 6 _ rfl, h.bk.cells 8 _ rfl, h.cells⟩
theorem hold_2 {k c u : Int} {i s : Nat} (h1 : ¬ i = S.n) : holdE S ⟨k, (i : Int), (s : Int), u, c⟩ = 2 := by
  unfold holdE; rw [if_pos (by simp only [ne_eq]; omega)]
theorem hold_140 {k c u : Int} {s : Nat} (h2 : ¬ s < S.a) : holdE S ⟨k, (S.n : Int), (s : Int), u, c⟩ = 140 := by
  unfold holdE; rw [if_neg (fun e => e rfl), if_pos (by show ¬ (s : Int) < (S.a : Int); omega)]
theorem hold_173 {k c u : Int} {s : Nat} (h2 : s < S.a) (h3 : u ≤ S.t) : holdE S ⟨k, (S.n : Int), (s : Int), u, c⟩ = 173 := by
  unfold holdE; rw [if_neg (fun e => e rfl), if_neg (by show ¬ ¬ (s : Int) < (S.a : Int); omega), if_pos h3]
theorem hold_170 {k c u : Int} {s : Nat} {y : Bg} (h2 : s < S.a) (h3 : ¬ u ≤ S.t) (hq : sat S.L s = some y) : holdE S ⟨k, (S.n : Int), (s : Int), u, c⟩ = 170 := by
  unfold holdE; rw [if_neg (fun e => e rfl), if_neg (by show ¬ ¬ (s : Int) < (S.a : Int); omega), if_neg h3, if_pos (by simp only [Int.toNat_natCast, hq]; rfl)]
theorem hold_6 {k c u : Int} {s : Nat} (h2 : s < S.a) (h3 : ¬ u ≤ S.t) (hq : sat S.L s = none) (h5 : S.b ≤ S.L.length ∨ S.n = 4294967295) : holdE S ⟨k, (S.n : Int), (s : Int), u, c⟩ = 6 := by
  unfold holdE; rw [if_neg (fun e => e rfl), if_neg (by show ¬ ¬ (s : Int) < (S.a : Int); omega), if_neg h3, if_neg (by simp only [Int.toNat_natCast, hq]; simp), if_pos h5]
theorem hold_0 {k c u : Int} {s : Nat} (h2 : s < S.a) (h3 : ¬ u ≤ S.t) (hq : sat S.L s = none) (h5 : ¬ (S.b ≤ S.L.length ∨ S.n = 4294967295)) : holdE S ⟨k, (S.n : Int), (s : Int), u, c⟩ = 0 := by
  unfold holdE; rw [if_neg (fun e => e rfl), if_neg (by show ¬ ¬ (s : Int) < (S.a : Int); omega), if_neg h3, if_neg (by simp only [Int.toNat_natCast, hq]; simp), if_neg h5]
set_option maxHeartbeats 8000000 in
theorem mayHold_any (h : BkAt w p S K) (_hw : S.Wk) (k c : Int) (i s : Nat) (u : Int) :
    Calls Tryz.prog 90 #[.pointer (some ⟨p.b, 0, none⟩), Rk.rcV ⟨k, (i : Int), (s : Int), u, c⟩] w fun e w' => e = .returned (.int .i64 (holdE S ⟨k, (i : Int), (s : Int), u, c⟩)) ∧ w.grownBy w' none := by
  have m0 := Bm.start h [.int .i64 k, .int .u32 (i : Int), .int .i64 (s : Int), .int .i64 u, .int .i64 c] 46
  have HS : Hid (∀ W, Calls Tryz.prog 55 #[limV S.a S.b S.c, .int .i64 (s : Int)] W fun e w' => e = .returned (.bool (decide (s < S.a))) ∧ W.grownBy w' none) := by
    intro W
    have := hasSeat_any S.a S.b S.c (s : Int) W
    rw [show decide (0 ≤ (s : Int) ∧ (s : Int) < (S.a : Int)) = decide (s < S.a) by simp] at this
    exact this
  have HR : Hid (∀ W, Calls Tryz.prog 71 #[limV S.a S.b S.c, .int .i64 (S.L.length : Int)] W fun e w' => e = .returned (.bool (decide (S.L.length < S.b))) ∧ W.grownBy w' none) := by
    intro W
    have := hasRoom_any S.a S.b S.c (S.L.length : Int) W
    rw [show decide ((S.L.length : Int) < (S.b : Int)) = decide (S.L.length < S.b) by simp] at this
    exact this
  unfold limV at HS HR
  have HM := hide m0
  obtain ⟨a0, a1, a2, a4, a5, a6, a8, bx⟩ := m0.ff
  have x1 := bx 1 _ rfl
  have x2 := bx 2 _ rfl
  have x3 := bx 3 _ rfl
  clear m0 bx h
  unfold Rk.rcV
  obtain ⟨res, hres⟩ : ∃ res, holdE S ⟨k, (i : Int), (s : Int), u, c⟩ = res := ⟨_, rfl⟩
  rw [hres]
  have HE := hide hres
  clear hres
  by_cases h1 : i = S.n
  · subst h1
    go_enter Tryz.func90, Tryz.ntmps90
    go_wp2
    go_quiet (fail)
    go_wp2
    clear a0 a1 a2 a4 a5 a6 a8 x1 x2 x3
    have m1 := HM.out.then (grown_drewN _ nq none)
    clear HM
    generalize World.drewN _ nq = w1 at *
    obtain ⟨a0, a1, a2, a4, a5, a6, a8, bx⟩ := m1.ff
    have x1 := bx 1 _ rfl
    have x2 := bx 2 _ rfl
    have x3 := bx 3 _ rfl
    have HM := hide m1
    clear bx
    by_cases h2 : s < S.a
    · rw [decide_eq_true h2] at HS
      go_region_held3 (fun W => W.cell? ⟨p.b, 0, none⟩ = some (.int .i64 (S.a : Int)) ∧ W.cell? ⟨p.b, 1, none⟩ = some (.int .i64 (S.b : Int)) ∧ W.cell? ⟨p.b, 2, none⟩ = some (.int .i64 (S.c : Int)) ∧ W.cell? ⟨w.heap.size, 2, none⟩ = some (.int .i64 (s : Int))) (first | assumption | exact ⟨a0, a1, a2, x2⟩) ((go_at_call 55; refine (HS.out _).mono ?_; rintro e w2 ⟨rfl, hg2⟩; have m2 := (m1.then (grown_drew w1 none)).then hg2; have hK := And.intro m2.ff.a0 (And.intro m2.ff.a1 (And.intro m2.ff.a2 (m2.ff.bx 2 _ rfl)))))
      clear a0 a1 a2 a4 a5 a6 a8 x1 x2 x3
      obtain ⟨a0, a1, a2, a4, a5, a6, a8, bx⟩ := m2.ff
      have x3 := bx 3 _ rfl
      have HM := hide m2
      clear bx hK m1 m2
      go_wp2
      by_cases h3 : u ≤ S.t
      · have HV := hide (HE.out.symm.trans (hold_173 h2 h3))
        go_quiet (fail)
        go_wp2
        go_ret
        exact ⟨by rw [HV.out]; rfl, (HM.out.then (grown_drewN _ _ none)).gr⟩
      · go_quiet (fail)
        go_wp2
        have m3 := HM.out.then (grown_drewN _ nq none)
        clear HM a0 a1 a2 a4 a5 a6 a8 x3
        generalize World.drewN _ nq = w3 at *
        have a6 := m3.ff.a6
        have x2 := m3.ff.bx 2 _ rfl
        have hC := (m3.then (grown_drew w3 none)).bk.has s h2
        have HC := hide hC
        have HM := hide m3
        clear hC
        cases hq : sat S.L s with
        | some y =>
          rw [hq] at HC
          simp only [Option.isSome] at HC
          have HV := hide (HE.out.symm.trans (hold_170 h2 (by omega) hq))
          go_region_held3 (fun W => W.cell? ⟨p.b, 6, none⟩ = some (.pointer (some ⟨p.tb, 0, none⟩)) ∧ W.cell? ⟨w.heap.size, 2, none⟩ = some (.int .i64 (s : Int))) (first | assumption | exact ⟨a6, x2⟩) ((go_at_call 56; refine HC.out.mono ?_; rintro e w4 ⟨rfl, hg4⟩; have m4 := (m3.then (grown_drew w3 none)).then hg4; have hK := And.intro m4.ff.a6 (m4.ff.bx 2 _ rfl)))
          go_wp2
          go_ret
          exact ⟨by rw [HV.out]; rfl, m4.gr⟩
        | none =>
          rw [hq] at HC
          simp only [Option.isSome] at HC
          go_region_held3 (fun W => W.cell? ⟨p.b, 6, none⟩ = some (.pointer (some ⟨p.tb, 0, none⟩)) ∧ W.cell? ⟨w.heap.size, 2, none⟩ = some (.int .i64 (s : Int))) (first | assumption | exact ⟨a6, x2⟩) ((go_at_call 56; refine HC.out.mono ?_; rintro e w4 ⟨rfl, hg4⟩; have m4 := (m3.then (grown_drew w3 none)).then hg4; have hK := And.intro m4.ff.a6 (m4.ff.bx 2 _ rfl)))
          clear hK a6 x2 HC HM
          obtain ⟨a0, a1, a2, a4, a5, a6, a8, -⟩ := m4.ff
          have HM := hide m4
          have HL : Hid (∀ W, Bm w W w.heap.size [.int .i64 k, .int .u32 (S.n : Int), .int .i64 (s : Int), .int .i64 u, .int .i64 c] 46 p S K → Calls Tryz.prog 53 #[.pointer (some ⟨p.ip.x, 0, none⟩)] W fun e w' => e = .returned (.int .i64 (S.L.length : Int)) ∧ w' = W) := fun W hW => hW.bk.len
          go_wp2
          by_cases h5 : S.L.length < S.b
          · rw [decide_eq_true h5] at HR
            by_cases h6 : S.n = 4294967295
            · have HV := hide (HE.out.symm.trans (hold_6 h2 (by omega) hq (.inr h6)))
              have h6a : ((S.n : Int) == 4294967295) = true := by simp; omega
              have h6b : decide ((S.n : Int) = 4294967295) = true := by simp; omega
              go_region_held3 (fun W => W.cell? ⟨p.b, 0, none⟩ = some (.int .i64 (S.a : Int)) ∧ W.cell? ⟨p.b, 1, none⟩ = some (.int .i64 (S.b : Int)) ∧ W.cell? ⟨p.b, 2, none⟩ = some (.int .i64 (S.c : Int)) ∧ W.cell? ⟨p.b, 4, none⟩ = some (.int .u32 (S.n : Int)) ∧ W.cell? ⟨p.b, 8, none⟩ = some (.pointer (some ⟨p.ip.x, 0, none⟩))) (first | assumption | exact ⟨a0, a1, a2, a4, a8⟩) ((first | (go_at_call 53; refine (HL.out _ (m4.then (grown_drew w4 none))).mono ?_; rintro e w5 ⟨rfl, rfl⟩) | (go_at_call 71; refine (HR.out _).mono ?_; rintro e w6 ⟨rfl, hg6⟩; have m6 := (m4.then (grown_drew w4 none)).then hg6; have hK := And.intro m6.ff.a0 (And.intro m6.ff.a1 (And.intro m6.ff.a2 (And.intro m6.ff.a4 m6.ff.a8))))))
              go_wp2
              go_ret
              exact ⟨by rw [HV.out]; rfl, m6.gr⟩
            · have HV := hide (HE.out.symm.trans (hold_0 h2 (by omega) hq (by omega)))
              have h6a : ((S.n : Int) == 4294967295) = false := by simp; omega
              have h6b : decide ((S.n : Int) = 4294967295) = false := by simp; omega
              go_region_held3 (fun W => W.cell? ⟨p.b, 0, none⟩ = some (.int .i64 (S.a : Int)) ∧ W.cell? ⟨p.b, 1, none⟩ = some (.int .i64 (S.b : Int)) ∧ W.cell? ⟨p.b, 2, none⟩ = some (.int .i64 (S.c : Int)) ∧ W.cell? ⟨p.b, 4, none⟩ = some (.int .u32 (S.n : Int)) ∧ W.cell? ⟨p.b, 8, none⟩ = some (.pointer (some ⟨p.ip.x, 0, none⟩))) (first | assumption | exact ⟨a0, a1, a2, a4, a8⟩) ((first | (go_at_call 53; refine (HL.out _ (m4.then (grown_drew w4 none))).mono ?_; rintro e w5 ⟨rfl, rfl⟩) | (go_at_call 71; refine (HR.out _).mono ?_; rintro e w6 ⟨rfl, hg6⟩; have m6 := (m4.then (grown_drew w4 none)).then hg6; have hK := And.intro m6.ff.a0 (And.intro m6.ff.a1 (And.intro m6.ff.a2 (And.intro m6.ff.a4 m6.ff.a8))))))
              go_wp2
              go_ret
              exact ⟨by rw [HV.out]; rfl, m6.gr⟩
          · rw [decide_eq_false h5] at HR
            have HV := hide (HE.out.symm.trans (hold_6 h2 (by omega) hq (.inl (by omega))))
            refine wp_region_held_drew (S := (fun W => W.cell? ⟨p.b, 0, none⟩ = some (.int .i64 (S.a : Int)) ∧ W.cell? ⟨p.b, 1, none⟩ = some (.int .i64 (S.b : Int)) ∧ W.cell? ⟨p.b, 2, none⟩ = some (.int .i64 (S.c : Int)) ∧ W.cell? ⟨p.b, 4, none⟩ = some (.int .u32 (S.n : Int)) ∧ W.cell? ⟨p.b, 8, none⟩ = some (.pointer (some ⟨p.ip.x, 0, none⟩)))) (by kernel_rfl) ?_ (fun hHeld => ?_)
            · (exact ⟨a0, a1, a2, a4, a8⟩)
            refine tkQ 0 (oi := ⟨some 39, .move (.tmp 0), 31, "book.go:313", #[], none⟩) rfl ?_
            try simp only [Act.put, pA, pB, pC]
            refine tkQ 1 (oi := ⟨some 40, .nilCheck (.tmp 39), 0, "book.go:313", #[⟨0, .data⟩], none⟩) rfl ?_
            try simp only [Act.put, pA, pB, pC]
            refine tkQ 2 (oi := ⟨some 41, .fieldAddr 66 (.tmp 40) 0, 0, "book.go:313", #[⟨1, .data⟩], none⟩) rfl ?_
            try simp only [Act.put, pA, pB, pC]
            refine tkQ 3 (oi := ⟨some 42, .load 60 (.tmp 41), 60, "book.go:313", #[⟨2, .data⟩], none⟩) rfl ?_
            try simp only [Act.put, pA, pB, pC]
            refine tkQ 4 (oi := ⟨some 43, .move (.tmp 0), 31, "book.go:313", #[], none⟩) rfl ?_
            try simp only [Act.put, pA, pB, pC]
            refine tkQ 5 (oi := ⟨some 44, .nilCheck (.tmp 43), 0, "book.go:313", #[⟨4, .data⟩], none⟩) rfl ?_
            try simp only [Act.put, pA, pB, pC]
            refine tkQ 6 (oi := ⟨some 45, .fieldAddr 66 (.tmp 44) 6, 0, "book.go:313", #[⟨5, .data⟩], none⟩) rfl ?_
            try simp only [Act.put, pA, pB, pC]
            refine tkQ 7 (oi := ⟨some 46, .load 62 (.tmp 45), 62, "book.go:313", #[⟨6, .data⟩], none⟩) rfl ?_
            try simp only [Act.put, pA, pB, pC]
            refine rdH (i := 8) rfl (fun K hK => ?_)
            go_simp
            refine (HL.out _ (m4.then (grown_drew w4 none))).mono ?_
            rintro e w5 ⟨rfl, rfl⟩
            go_wp2_with fail
            refine hK.out _ _ ?_ (fun hHeld => ?_)
            · ((try dsimp only); first | exact hK9 | assumption)
            clear hK K
            try simp only [Act.put, pA, pB, pC]
            refine rdH (i := 9) rfl (fun K hK => ?_)
            go_simp
            refine (HR.out _).mono ?_
            rintro e w6 ⟨rfl, hg6⟩
            have m6 := (m4.then (grown_drew w4 none)).then hg6
            have hK9 := And.intro m6.ff.a0 (And.intro m6.ff.a1 (And.intro m6.ff.a2 (And.intro m6.ff.a4 m6.ff.a8)))
            go_wp2_with fail
            refine hK.out _ _ ?_ (fun hHeld => ?_)
            · ((try dsimp only); first | exact hK9 | assumption)
            clear hK K
            try simp only [Act.put, pA, pB, pC]
            refine tkQ 10 (oi := ⟨some 49, .unOp .not 4 (.tmp 48), 4, "book.go:313", #[⟨9, .data⟩], none⟩) rfl ?_
            try simp only [Act.put, pA, pB, pC]
            refine tkQ 11 (oi := ⟨some 50, .move (.tmp 49), 4, "book.go:313", #[⟨10, .data⟩, ⟨9, .chain⟩], none⟩) rfl ?_
            try simp only [Act.put, pA, pB, pC]
            refine skH 12 (oi := ⟨some 51, .move (.tmp 0), 31, "book.go:313", #[⟨11, .guard⟩], some (11, false)⟩) rfl ?_
            try simp only [Act.put, pA, pB, pC]
            refine skH 13 (oi := ⟨some 52, .nilCheck (.tmp 51), 0, "book.go:313", #[⟨12, .data⟩, ⟨11, .guard⟩], some (11, false)⟩) rfl ?_
            try simp only [Act.put, pA, pB, pC]
            refine skH 14 (oi := ⟨some 53, .fieldAddr 66 (.tmp 52) 2, 0, "book.go:313", #[⟨13, .data⟩, ⟨11, .guard⟩], some (11, false)⟩) rfl ?_
            try simp only [Act.put, pA, pB, pC]
            refine skH 15 (oi := ⟨some 54, .load 24 (.tmp 53), 24, "book.go:313", #[⟨14, .data⟩, ⟨11, .guard⟩], some (11, false)⟩) rfl ?_
            try simp only [Act.put, pA, pB, pC]
            refine skH 16 (oi := ⟨some 55, .binOp .eql 24 (.tmp 54) (.const (.int .u32 4294967295)) 24, 4, "book.go:313", #[⟨15, .data⟩, ⟨11, .guard⟩], some (11, false)⟩) rfl ?_
            try simp only [Act.put, pA, pB, pC]
            refine tkQ 17 (oi := ⟨some 56, .pick (.tmp 50) (.const (.bool true)) (.tmp 55), 4, "book.go:313", #[⟨11, .data⟩, ⟨16, .data⟩], none⟩) rfl ?_
            try simp only [Act.put, pA, pB, pC]
            refine tkQ 18 (oi := ⟨some 38, .assign (.tmp 56), 4, "book.go:313", #[⟨17, .data⟩, ⟨11, .chain⟩], none⟩) rfl ?_
            try simp only [Act.put, pA, pB, pC]
            refine wpAnyH_done (by kernel_rfl) ?_ _
            go_wp2
            go_ret
            exact ⟨by rw [HV.out]; rfl, m6.gr⟩
    · have HV := hide (HE.out.symm.trans (hold_140 h2))
      rw [decide_eq_false h2] at HS
      go_region_held3 (fun W => W.cell? ⟨p.b, 0, none⟩ = some (.int .i64 (S.a : Int)) ∧ W.cell? ⟨p.b, 1, none⟩ = some (.int .i64 (S.b : Int)) ∧ W.cell? ⟨p.b, 2, none⟩ = some (.int .i64 (S.c : Int)) ∧ W.cell? ⟨w.heap.size, 2, none⟩ = some (.int .i64 (s : Int))) (first | assumption | exact ⟨a0, a1, a2, x2⟩) ((go_at_call 55; refine (HS.out _).mono ?_; rintro e w2 ⟨rfl, hg2⟩; have m2 := (m1.then (grown_drew w1 none)).then hg2; have hK := And.intro m2.ff.a0 (And.intro m2.ff.a1 (And.intro m2.ff.a2 (m2.ff.bx 2 _ rfl)))))
      go_wp2
      go_ret
      exact ⟨by rw [HV.out]; rfl, m2.gr⟩
  · have HV := hide (HE.out.symm.trans (hold_2 h1))
    have h1a : ((i : Int) != (S.n : Int)) = true := by simp; omega
    have h1b : decide ((i : Int) = (S.n : Int)) = false := by simp; omega
    go_enter Tryz.func90, Tryz.ntmps90
    go_wp2
    go_quiet (fail)
    go_wp2
    go_ret
    exact ⟨by rw [HV.out]; rfl, (HM.out.then (grown_drewN _ _ none)).gr⟩
end
end Go.Proofs.YtcbiloomnkbalaaGreatDoor
/- Hold, confirm, cancel. -/
namespace Go.Proofs.YtcbiloomnkbalaaGreatDoor
open Go.RowKit
attribute [local go_sem ↓] Go.wp_at_zero Go.wp_at_succ
theorem Rel.re {S S' : Sb} {Lb : List Bool} {R : List Bg} {M E : List (Nat × Int)} (h : Rel S Lb R M E) (ha : S'.a = S.a) (hL : S'.L = S.L) : Rel S' Lb R M E :=
  ⟨by rw [ha]; exact h.lb, by rw [hL]; exact h.tk, by rw [ha]; exact h.rl, by rw [hL]; exact h.rw, by rw [hL]; exact h.m, by rw [hL]; exact h.e1, by rw [hL]; exact h.e2, h.e3⟩
section
variable {w w' : World} {p q : Bp} {S : Sb} {Lb Lb' : List Bool} {R : List Bg} {M E : List (Nat × Int)} {T : List Nat} {N B C K : Nat} {f : Int → Option Nat}
theorem BkAt.next (h : BkAt w p S K) : BkAt (w.setCell ⟨p.b, 4, none⟩ (.int .u32 ((S.n : Int) + 1))) p { S with n := S.n + 1 } K ∧ Kept w (w.setCell ⟨p.b, 4, none⟩ (.int .u32 ((S.n : Int) + 1))) p.own := by
  obtain ⟨Lb, R, M, E, T, N, B, C, h, hR, hN⟩ := h
  obtain ⟨h1, h2⟩ := h.headed (S' := { S with n := S.n + 1 }) (grown_setCell w p.b 4 (.int .u32 ((S.n : Int) + 1))) (by rw [row_setCell h.head]; rfl) rfl rfl
  exact ⟨⟨Lb, R, M, E, T, N, B, C, h1, hR.re rfl rfl, hN⟩, h2⟩
theorem BkAt.tick (h : BkAt w p S K) (t : Int) : BkAt (w.setCell ⟨p.b, 5, none⟩ (.int .i64 t)) p { S with t := t } K ∧ Kept w (w.setCell ⟨p.b, 5, none⟩ (.int .i64 t)) p.own := by
  obtain ⟨Lb, R, M, E, T, N, B, C, h, hR, hN⟩ := h
  obtain ⟨h1, h2⟩ := h.headed (S' := { S with t := t }) (grown_setCell w p.b 5 (.int .i64 t)) (by rw [row_setCell h.head]; rfl) rfl rfl
  exact ⟨⟨Lb, R, M, E, T, N, B, C, h1, hR.re rfl rfl, hN⟩, h2⟩
theorem BkAt.free (h : BkAt w p S K) (j : Nat) : w.frozen? ⟨p.b, j, none⟩ = false := by obtain ⟨_, _, _, _, _, _, _, _, h, _⟩ := h; exact free_row h.head j
/-- An id, found or not. -/
theorem BkAt.find (h : BkAt w p S K) (_hw : S.Wk) (k : Nat) (hk : k < 4294967296) : Calls Tryz.prog 54 #[.pointer (some ⟨p.b, 0, none⟩), .int .u32 (k : Int)] w fun e w' => e = .returned (.tuple #[bgV ((fnd S.L k).getD ⟨0, 0, 0⟩), .int .i64 (if (fnd S.L k).isSome then 0 else 171)]) ∧ BkAt w' p S K ∧ Kept w w' p.own := by
  obtain ⟨Lb, R, M, E, T, N, B, C, h, hR, hN⟩ := h
  have hc := find_bk h k hk
  have hlk : Ix.lk M k = (fnd S.L k).map fun x => (x.s : Int) := by rw [hR.m, lk_mx]
  have hfx : fn M R k = (fnd S.L k).getD ⟨0, 0, 0⟩ := by
    unfold fn
    rw [hlk]
    cases hf : fnd S.L k with
    | none => rfl
    | some x => simp [rd, hR.rw x (List.mem_of_find?_eq_some hf)]
  rw [hfx, hlk, Option.isSome_map] at hc
  refine hc.mono ?_
  rintro e w' ⟨rfl, h3, h4⟩
  exact ⟨rfl, ⟨Lb, R, M, E, T, N, B, C, h3, hR, hN⟩, h4⟩
set_option maxHeartbeats 4000000 in
theorem hold_any (h : BkAt w p S K) (ho : S.Ok) (hK : K ≤ 10000000) (k c : Int) (i s : Nat) (hi : i < 4294967296) (u : Int) :
    Calls Tryz.prog 59 #[.pointer (some ⟨p.b, 0, none⟩), Rk.rcV ⟨k, (i : Int), (s : Int), u, c⟩] w fun e w' => e = .returned (.int .i64 (holdE S ⟨k, (i : Int), (s : Int), u, c⟩)) ∧ ∃ q, BkAt w' q (if holdE S ⟨k, (i : Int), (s : Int), u, c⟩ = 0 then { S with L := S.L ++ [⟨i, s, u⟩], n := S.n + 1 } else S) (K + 1) ∧ Bst w w' p q := by
  have b0 := Bx.start h.lt [.int .i64 k, .int .u32 (i : Int), .int .i64 (s : Int), .int .i64 u, .int .i64 c] 46
  have h0 := h.then (grown_alloc w (.cells [Value.int .i64 k, .int .u32 (i : Int), .int .i64 (s : Int), .int .i64 u, .int .i64 c].toArray 46))
  have HC1 := hide (mayHold_any h0 ho.wk k c i s u)
  have H0 := hide (And.intro h0 b0)
  by_cases hz : holdE S ⟨k, (i : Int), (s : Int), u, c⟩ = 0
  · obtain ⟨z1, z2, z3, z4, z5, z6⟩ := holdE_zero.1 hz
    simp only at z1 z2 z3 z4
    simp only [Int.toNat_natCast] at z4
    have hin : i = S.n := by omega
    rw [if_pos hz]
    rw [hz] at HC1 ⊢
    have HC2 : Hid (∀ W, BkAt W p S K → Calls Tryz.prog 42 #[.pointer (some ⟨p.b, 0, none⟩), bgV ⟨i, s, u⟩] W fun e w' => e = .returned (.tuple #[]) ∧ ∃ q, BkAt w' q { S with L := S.L ++ [⟨i, s, u⟩] } (K + 1) ∧ Bst W w' p q) := by
      intro W hW
      exact add_any hW ho.wk hK ⟨i, s, u⟩ hi (by show s < S.a; omega) (fun y hy => by have := ho.id y hy; show y.i < i; omega) z4 z5
    unfold bgV at HC2
    simp only at HC2
    have hw1 : IntKind.u32.wrap ((S.n : Int) + 1) = (S.n : Int) + 1 := by
      have := ho.n1
      simp [IntKind.wrap, IntKind.bits, IntKind.signed]
      omega
    clear h h0 b0 ho hz z1 z2 z3 z4 z5 z6 hin
    unfold Rk.rcV at *
    go_enter Tryz.func59, Tryz.ntmps59
    go_wp2_with fail
    refine HC1.out.mono ?_
    rintro e w1 ⟨rfl, hg1⟩
    have hA := H0.out.1.then hg1
    have hX := H0.out.2.then hg1
    have x1 := hX.cells 1 _ rfl
    have x2 := hX.cells 2 _ rfl
    have x3 := hX.cells 3 _ rfl
    have HC2' := hide (HC2.out w1 hA)
    have H1 := hide (And.intro hA hX)
    clear hA hX H0 HC1 HC2 hg1
    go_wp2_with fail
    refine HC2'.out.mono ?_
    rintro e w2 ⟨rfl, q, hA, hS⟩
    have hX := H1.out.2.step hS
    have c4 : w2.cell? ⟨p.b, 4, none⟩ = some (.int .u32 (S.n : Int)) := by have := hA.cells 4 _ rfl; rw [hS.b] at this; exact this
    have c4f : w2.frozen? ⟨p.b, 4, none⟩ = false := by have := hA.free 4; rw [hS.b] at this; exact this
    obtain ⟨n1, n2⟩ := hA.next
    rw [hS.b] at n1 n2
    have HF := hide (And.intro n1 (hX.st.trans (Bst.keep n2)))
    clear hA hS hX n1 n2 H1 HC2' x1 x2 x3
    go_wp2
    go_ret
    exact ⟨rfl, q, HF.out⟩
  · rw [if_neg hz]
    generalize holdE S ⟨k, (i : Int), (s : Int), u, c⟩ = res at *
    have hz1 : (res != 0) = true := by simpa using hz
    have hz2 : decide (res = 0) = false := by simpa using hz
    have hz3 : (res == 0) = false := by simpa using hz
    clear h h0 b0 ho
    unfold Rk.rcV at *
    go_enter Tryz.func59, Tryz.ntmps59
    go_wp2_with fail
    refine HC1.out.mono ?_
    rintro e w1 ⟨rfl, hg1⟩
    have HF := hide (And.intro ((H0.out.1.then hg1).mono (Nat.le_succ K)) (H0.out.2.then hg1).st)
    clear H0 HC1
    go_wp2
    go_ret
    exact ⟨rfl, p, HF.out⟩
set_option maxHeartbeats 4000000 in
theorem cancel_any (h : BkAt w p S K) (hw : S.Wk) (hK : K ≤ 10000000) (k : Nat) (hk : k < 4294967296) :
    Calls Tryz.prog 61 #[.pointer (some ⟨p.b, 0, none⟩), .int .u32 (k : Int)] w fun e w' => e = .returned (.int .i64 (if (fnd S.L k).isSome then 0 else 171)) ∧ ∃ q, BkAt w' q { S with L := del S.L k } K ∧ Bst w w' p q := by
  have HC1 := hide (h.find hw k hk)
  cases hf : fnd S.L k with
  | none =>
    have hd : del S.L k = S.L := by
      unfold del
      rw [List.filter_eq_self]
      intro y hy
      have := fnd_none.1 hf y hy
      simpa using this
    rw [hd]
    rw [hf] at HC1
    simp only [Option.isSome, Option.getD, Bool.false_eq_true, if_false] at HC1 ⊢
    clear h hf hd
    unfold bgV at HC1
    simp only at HC1
    go_enter Tryz.func61, Tryz.ntmps61
    go_wp2_with fail
    refine HC1.out.mono ?_
    rintro e w1 ⟨rfl, hA, hk1⟩
    have HF : Hid (∀ W, w1.grownBy W none → BkAt W p S K ∧ Bst w W p p) := fun W hg => ⟨hA.then hg, (Bst.keep hk1).trans (Bst.grown hg p)⟩
    clear hA hk1 HC1
    go_wp2
    go_ret
    exact ⟨rfl, p, HF.out _ (grown_alloc _ _)⟩
  | some x =>
    obtain ⟨hx, hxi⟩ := (fnd_some hw.asc).1 hf
    subst hxi
    rw [hf] at HC1
    simp only [Option.isSome, Option.getD, if_true] at HC1 ⊢
    have HC2 : Hid (∀ W, BkAt W p S K → Calls Tryz.prog 92 #[.pointer (some ⟨p.b, 0, none⟩), bgV x] W fun e w' => e = .returned (.tuple #[]) ∧ ∃ q, BkAt w' q { S with L := del S.L x.i } K ∧ Bst W w' p q) := fun W hW => remove_any hW hw hK x hx
    clear h hf hx hw
    obtain ⟨xi, xs, xu⟩ := x
    unfold bgV at HC1 HC2
    simp only at HC1 HC2 ⊢
    go_enter Tryz.func61, Tryz.ntmps61
    go_wp2_with fail
    refine HC1.out.mono ?_
    rintro e w1 ⟨rfl, hA, hk1⟩
    have HC2' := hide (HC2.out _ (hA.then (grown_alloc w1 (.cells #[.int .u32 (xi : Int), .int .i64 (xs : Int), .int .i64 xu] 78))))
    have H1 := hide ((Bst.keep hk1).trans (Bst.grown (grown_alloc w1 (.cells #[.int .u32 (xi : Int), .int .i64 (xs : Int), .int .i64 xu] 78)) p))
    clear hA hk1 HC1 HC2
    go_wp2_with fail
    refine HC2'.out.mono ?_
    rintro e w2 ⟨rfl, q, hA, hS⟩
    have HF := hide (And.intro hA (H1.out.trans hS))
    clear hA hS H1 HC2'
    go_wp2
    go_ret
    exact ⟨rfl, q, HF.out⟩
end
end Go.Proofs.YtcbiloomnkbalaaGreatDoor
