/- Texts joined: Bk6, Bk7, Bk8, Bk9, BkA, BkB, BkC, BkD, BkE, BkF. -/
import Derived.Test.YtahjckcfcdnlmaaGreatJnAf
/- A booking added to a book. -/
namespace Go.Proofs.YtahjckcfcdnlmaaGreat
open Go.RowKit
attribute [local go_sem ↓] Go.wp_at_zero Go.wp_at_succ
/-- A book, and as many items as were due in it at most. -/
def BkAt (w : World) (p : Bp) (S : Sb) (K : Nat) : Prop := ∃ Lb R M E T N B C, BkR w p S Lb R M E T N B C (hmf E) ∧ Rel S Lb R M E ∧ N ≤ K ∧ B + E.length ≤ 2 * N ∧ C ≤ N
theorem few_due : ∀ {E : List (Nat × Int)} {L : List Bg}, (E.Pairwise fun e f => e.2 ≠ f.2) → (∀ e ∈ E, ∃ x ∈ L, (x.i : Int) = e.2) → E.length ≤ L.length
  | [], _, _, _ => Nat.zero_le _
  | e :: E, L, h3, h1 => by
    obtain ⟨x, hx, hxe⟩ := h1 e (List.mem_cons_self ..)
    obtain ⟨h4, h5⟩ := List.pairwise_cons.1 h3
    have ih := few_due (E := E) (L := del L x.i) h5 (fun f hf => by
      obtain ⟨y, hy, hyf⟩ := h1 f (List.mem_cons_of_mem _ hf)
      exact ⟨y, del_mem.2 ⟨hy, fun e2 => h4 f hf (by rw [← hxe, ← hyf, e2])⟩, hyf⟩)
    have hl : (del L x.i).length < L.length := by
      unfold del
      rw [List.length_filter_lt_length_iff_exists]
      exact ⟨x, hx, by simp⟩
    simp
    omega
theorem Rel.few {S : Sb} {Lb : List Bool} {R : List Bg} {M E : List (Nat × Int)} (h : Rel S Lb R M E) : E.length ≤ S.L.length :=
  few_due h.e3 (fun e he => by obtain ⟨x, hx, h1, -⟩ := h.e1 e he; exact ⟨x, hx, h1⟩)
/-- A box beside a book. -/
structure Bx (w W : World) (X : Nat) (cs : List Value) (ty : TypeId) (p q : Bp) : Prop where
  box : W.heap[X]? = some (.cells cs.toArray ty (0, 0))
  st : Bst w W p q
  nx : ¬ q.own X
  lo : w.heap.size ≤ X
section
variable {w W W' : World} {X : Nat} {cs : List Value} {ty : TypeId} {p q q' : Bp}
theorem Bx.step (h : Bx w W X cs ty p q) (k : Bst W W' q q') : Bx w W' X cs ty p q' :=
  ⟨k.kept.at h.box h.nx, h.st.trans k, fun e => by
    rcases k.own _ e with e | e
    · exact h.nx e
    · have := row_lt h.box; omega, h.lo⟩
theorem Bx.keep (h : Bx w W X cs ty p q) (k : Kept W W' q.own) : Bx w W' X cs ty p q := h.step (Bst.keep k)
theorem Bx.then (h : Bx w W X cs ty p q) (k : W.grownBy W' none) : Bx w W' X cs ty p q := h.keep (Kept.new k _)
theorem Bx.cells (h : Bx w W X cs ty p q) : ∀ j v, cs[j]? = some v → W.cell? ⟨X, j, none⟩ = some v := fun j v hv => by rw [cell_row h.box]; exact hv
theorem Bx.start {w : World} {p : Bp} (hlt : ∀ i, p.own i → i < w.heap.size) (cs : List Value) (ty : TypeId) : Bx w (w.alloc (.cells cs.toArray ty)) w.heap.size cs ty p p :=
  ⟨heap_alloc_new w _, Bst.grown (grown_alloc w _) p, fun e => Nat.lt_irrefl _ (hlt _ e), Nat.le_refl _⟩
end
section
variable {w w' : World} {p q : Bp} {S : Sb} {Lb Lb' : List Bool} {R : List Bg} {M E : List (Nat × Int)} {T : List Nat} {N B C K : Nat} {f : Int → Option Nat}
/-- Another seat's booking leaves an id's until as it is. -/
theorem tl_set {M : List (Nat × Int)} {R : List Bg} {k s : Nat} {y : Bg} (h : Ix.lk M k ≠ some (s : Int)) (hm : ∀ y ∈ M, 0 ≤ y.2) (ha : Ix.Asc M) : tl M (R.set s y) k = tl M R k := by
  unfold tl
  cases hq : Ix.lk M k with
  | none => rfl
  | some t =>
    have h0 : 0 ≤ t := hm (k, t) ((Ix.lk_some ha).1 hq)
    have hne : ¬ s = t.toNat := fun e => h (by rw [hq, e]; congr 1; omega)
    simp [List.getElem?_set, hne]
theorem seat_lies (h : BkR w p S Lb R M E T N B C f) {s : Nat} (hs : s < R.length) : (∃ a b c, w.cell? ⟨p.sg, s * 3, none⟩ = some a ∧ w.cell? ⟨p.sg, s * 3 + 1, none⟩ = some b ∧ w.cell? ⟨p.sg, s * 3 + 2, none⟩ = some c) ∧ (∀ j, w.frozen? ⟨p.sg, j, none⟩ = false) := by
  obtain ⟨h1, h2, h3⟩ := h.fd.seat hs
  exact ⟨⟨_, _, _, h1, h2, h3⟩, fun j => free_row h.row j⟩
/-- A booking is written at its seat. -/
theorem BkR.laid (h : BkR w p S Lb R M E T N B C f) (s : Nat) (y : Bg) (ht : ∀ e ∈ E, Ix.lk M e.2.toNat ≠ some (s : Int)) : BkR (((w.setCell ⟨p.sg, s * 3, none⟩ (.int .u32 (y.i : Int))).setCell ⟨p.sg, s * 3 + 1, none⟩ (.int .i64 (y.s : Int))).setCell ⟨p.sg, s * 3 + 2, none⟩ (.int .i64 y.u)) p S Lb (R.set s y) M E T N B C f ∧ Kept w (((w.setCell ⟨p.sg, s * 3, none⟩ (.int .u32 (y.i : Int))).setCell ⟨p.sg, s * 3 + 1, none⟩ (.int .i64 (y.s : Int))).setCell ⟨p.sg, s * 3 + 2, none⟩ (.int .i64 y.u)) p.own := by
  obtain ⟨lo, h1⟩ := h.ix
  refine h.seated (grown_trans (grown_trans (grown_setCell w _ _ _) (grown_setCell _ _ _ _)) (grown_setCell _ _ _ _)) ?_ (by simp) (fun e he => tl_set (ht e he) (fun y hy => (h.mi y hy).1) h1.asc)
  rw [bgs_set]
  exact row_setCell (row_setCell (row_setCell h.row _ _) _ _) _ _
set_option maxHeartbeats 4000000 in
theorem add_any (h : BkAt w p S K) (hw : S.Wk) (hK : K ≤ 10000000) (x : Bg) (hi : x.i < 4294967296) (hs : x.s < S.a) (ha : ∀ y ∈ S.L, y.i < x.i) (hn : sat S.L x.s = none) (hf : S.L.length < S.b) :
    Calls Tryz.prog 43 #[.pointer (some ⟨p.b, 0, none⟩), bgV x] w fun e w' => e = .returned (.tuple #[]) ∧ ∃ q, BkAt w' q { S with L := S.L ++ [x] } (K + 1) ∧ Bst w w' p q := by
  obtain ⟨Lb, R, M, E, T, N, B, C, h, hR, hN, hB, hC⟩ := h
  have hasc : Ix.Asc M := by obtain ⟨lo, h1⟩ := h.ix; exact h1.asc
  have hE : E.length < 65536 := by have := hR.few; have := hw.b1; omega
  have hLb : x.s < Lb.length := by rw [hR.lb]; exact hs
  have hRs : x.s < R.length := by rw [hR.rl]; exact hs
  have hno : fnd S.L x.i = none := fnd_none.2 (fun y hy e => by have := ha y hy; omega)
  have hlk : Ix.lk M x.i = none := by rw [hR.m, lk_mx, hno]; rfl
  have hml : M.length < S.b := by rw [hR.m, mx_length]; exact hf
  have hid : ∀ e ∈ E, e.2.toNat ≠ x.i := fun e he e2 => by
    obtain ⟨y, hy, h1, -⟩ := hR.e1 e he
    have := ha y hy
    omega
  have hst : ∀ e ∈ E, Ix.lk M e.2.toNat ≠ some (x.s : Int) := fun e he e2 => by
    obtain ⟨y, hy, h1, -⟩ := hR.e1 e he
    have h2 : e.2.toNat = y.i := by omega
    rw [h2, hR.m, lk_mx, (fnd_some hw.asc).2 ⟨hy, rfl⟩] at e2
    have e3 := Option.some.inj e2
    exact sat_none.1 hn y hy (Int.ofNat.inj e3)
  have b0 := Bx.start h.lt (bgc x) 78
  have h0 := h.then (grown_alloc w (.cells (bgc x).toArray 78))
  have HF : Hid (∀ W q E' T' N' B' C', BkR W q S (Lb.set x.s true) (R.set x.s x) (Ix.ins M (x.i, (x.s : Int))) E' T' N' B' C' (hmf E') → Bst w W p q → (x.u = 0 ∧ E' = E ∧ N' = N ∧ B' = B ∧ C' = C ∨ x.u ≠ 0 ∧ E' = E ++ [(N, (x.i : Int))] ∧ N' = N + 1 ∧ B' = B + 1 ∧ C' = C + 1) → ∃ q, BkAt W q { S with L := S.L ++ [x] } (K + 1) ∧ Bst w W p q) := by
    intro W q E' T' N' B' C' h1 h2 h3
    refine ⟨q, ⟨_, _, _, E', T', N', B', C', ⟨h1.head, h1.var, h1.set, h1.row, h1.ix, h1.due, h1.map, h1.ap, h1.z, h1.rl, h1.im, h1.sa, h1.mi⟩, ?_⟩, h2⟩
    rcases h3 with ⟨h3, rfl, rfl, rfl, rfl⟩ | ⟨h3, rfl, rfl, rfl, rfl⟩
    · exact ⟨hR.add hw hs ha hn h3, by omega, hB, hC⟩
    · exact ⟨hR.addH hw hs ha hn h3 N, by omega, by simp; omega, by omega⟩
  have HC1 : Hid (∀ W, (w.alloc (.cells (bgc x).toArray 78)).grownBy W none → Calls Tryz.prog 83 #[.pointer (some ⟨p.tb, 0, none⟩), .int .i64 (x.s : Int)] W fun e w' => e = .returned (.int .i64 0) ∧ BkR w' p S (Lb.set x.s true) R M E T N B C (hmf E) ∧ Bx w w' w.heap.size (bgc x) 78 p p) := by
    intro W hg
    refine (put_bk (h0.then hg) x.s hLb).mono ?_
    rintro e w' ⟨rfl, h1, h2⟩
    exact ⟨rfl, h1, (b0.then hg).keep h2⟩
  have HC3 : Hid (∀ W, BkR W p S (Lb.set x.s true) (R.set x.s x) M E T N B C (hmf E) → Bx w W w.heap.size (bgc x) 78 p p → Calls Tryz.prog 84 #[.pointer (some ⟨p.ip.x, 0, none⟩), .int .u32 (x.i : Int), .int .i64 (x.s : Int)] W fun e w' => e = .returned (.int .i64 0) ∧ BkR w' p S (Lb.set x.s true) (R.set x.s x) (Ix.ins M (x.i, (x.s : Int))) E T N B C (hmf E) ∧ Bx w w' w.heap.size (bgc x) 78 p p) := by
    intro W h1 h2
    refine (ixput_bk h1 x.i x.s hi (by simp; exact hRs) hlk hml hid).mono ?_
    rintro e w' ⟨rfl, h3, h4⟩
    exact ⟨rfl, h3, h2.keep h4⟩
  have HC5 : Hid (∀ W, BkR W p S (Lb.set x.s true) (R.set x.s x) (Ix.ins M (x.i, (x.s : Int))) E T N B C (hmf E) → Bx w W w.heap.size (bgc x) 78 p p → Calls Tryz.prog 85 #[.pointer (some ⟨p.hp.h, 0, none⟩), .int .u32 (x.i : Int)] W fun e w' => e = .returned (.tuple #[.int .i64 (N : Int), .int .i64 0]) ∧ ∃ q T', BkR w' q S (Lb.set x.s true) (R.set x.s x) (Ix.ins M (x.i, (x.s : Int))) (E ++ [(N, (x.i : Int))]) T' (N + 1) (B + 1) C (hmf E) ∧ Bx w w' w.heap.size (bgc x) 78 p q) := by
    intro W h1 h2
    refine (push_bk h1 hE (by omega) (by omega) x.i hi).mono ?_
    rintro e w' ⟨rfl, q, T', h3, h4⟩
    exact ⟨rfl, q, T', h3, h2.step h4⟩
  have HL : Hid (∀ W, BkR W p S (Lb.set x.s true) R M E T N B C (hmf E) → (∃ a b c, W.cell? ⟨p.sg, x.s * 3, none⟩ = some a ∧ W.cell? ⟨p.sg, x.s * 3 + 1, none⟩ = some b ∧ W.cell? ⟨p.sg, x.s * 3 + 2, none⟩ = some c) ∧ (∀ j, W.frozen? ⟨p.sg, j, none⟩ = false) ∧ ∀ W', W' = ((W.setCell ⟨p.sg, x.s * 3, none⟩ (.int .u32 (x.i : Int))).setCell ⟨p.sg, x.s * 3 + 1, none⟩ (.int .i64 (x.s : Int))).setCell ⟨p.sg, x.s * 3 + 2, none⟩ (.int .i64 x.u) → BkR W' p S (Lb.set x.s true) (R.set x.s x) M E T N B C (hmf E) ∧ Kept W W' p.own) := by
    intro W h1
    obtain ⟨h2, h3⟩ := seat_lies h1 hRs
    exact ⟨h2, h3, fun W' e => by rw [e]; exact h1.laid x.s x hst⟩
  have HM : Hid (∀ W q T', BkR W q S (Lb.set x.s true) (R.set x.s x) (Ix.ins M (x.i, (x.s : Int))) (E ++ [(N, (x.i : Int))]) T' (N + 1) (B + 1) C (hmf E) → q.hm = p.hm → ∃ W', (Instr.mapUpdate 50 (.map (some p.hm)) (.int .u32 (x.i : Int)) (.int .i64 (N : Int))).run Tryz.prog W = .ok () W' ∧ BkR W' q S (Lb.set x.s true) (R.set x.s x) (Ix.ins M (x.i, (x.s : Int))) (E ++ [(N, (x.i : Int))]) T' (N + 1) (B + 1) (C + 1) (hmf (E ++ [(N, (x.i : Int))])) ∧ Kept W W' q.own) := by
    intro W q T' h1 hq
    obtain ⟨W', hrun, hmap, hg⟩ := h1.map.store (by first | exact Tryz.underlying24 | kernel_rfl) Tryz.underlying50 (by unfold maxLen; omega) (wf_u32 hi) (.int .i64 (N : Int))
    rw [hq] at hrun
    refine ⟨W', hrun, h1.mapped hg (hmap.congr (fun y => ?_))⟩
    rw [← hmf_push (fun e he e2 => hid e he (by omega))]
    split <;> rfl
  have hsa : S.a ≤ 1024 := hw.a1
  have hrl := h.rl
  have HB0 := hide (And.intro h0 b0)
  have c6 := h0.cells 6 _ rfl
  have x0 := b0.cells 0 _ rfl
  have x1 := b0.cells 1 _ rfl
  have x2 := b0.cells 2 _ rfl
  clear h h0 b0 hR hst hid hno hlk hml hasc ha hn hw
  obtain ⟨xi, xs, xu⟩ := x
  unfold bgV
  simp only [bgc] at *
  go_enter Tryz.func43, Tryz.ntmps43
  go_wp2
  go_region_held3 (fun W => W.cell? ⟨p.b, 6, none⟩ = some (.pointer (some ⟨p.tb, 0, none⟩)) ∧ W.cell? ⟨w.heap.size, 1, none⟩ = some (.int .i64 (xs : Int))) (first | assumption | exact ⟨c6, x1⟩)
    ((go_at_call 83; refine (HC1.out _ (grown_drew _ none)).mono ?_; rintro e w1 ⟨rfl, hA, hX⟩; have hK1 := And.intro (hA.cells 6 _ rfl) (hX.cells 1 _ rfl)))
  have H1 := hide (And.intro hA hX)
  obtain ⟨⟨va, vb', vc, y0, y1, y2⟩, y3, y4⟩ := HL.out w1 hA
  have HY := hide y4
  have b7 := hA.cells 7 _ rfl
  have z0 := hX.cells 0 _ rfl
  have z1 := hX.cells 1 _ rfl
  have z2 := hX.cells 2 _ rfl
  clear hK1 hA hX c6 x0 x1 x2 y4 HL HC1 HB0
  go_wp2
  go_region
  have q1 := HY.out _ rfl
  have hA2 := q1.1.then (grown_drew _ none)
  have hX2 := (H1.out.2.keep q1.2).then (grown_drew _ none)
  clear q1 HY H1 y0 y1 y2 y3 b7 z0 z1 z2
  generalize (((w1.setCell ⟨p.sg, xs * 3, none⟩ (.int .u32 (xi : Int))).setCell ⟨p.sg, xs * 3 + 1, none⟩ (.int .i64 (xs : Int))).setCell ⟨p.sg, xs * 3 + 2, none⟩ (.int .i64 xu)).drew = w2 at *
  have HC3' := hide (HC3.out w2.drew (hA2.then (grown_drew _ none)) (hX2.then (grown_drew _ none)))
  have b8 := hA2.cells 8 _ rfl
  have z0 := hX2.cells 0 _ rfl
  have z1 := hX2.cells 1 _ rfl
  clear hA2 hX2 HC3
  go_wp2
  go_region_held3 (fun W => W.cell? ⟨p.b, 8, none⟩ = some (.pointer (some ⟨p.ip.x, 0, none⟩)) ∧ W.cell? ⟨w.heap.size, 0, none⟩ = some (.int .u32 (xi : Int)) ∧ W.cell? ⟨w.heap.size, 1, none⟩ = some (.int .i64 (xs : Int))) (first | assumption | exact ⟨b8, z0, z1⟩)
    ((go_at_call 84; refine HC3'.out.mono ?_; rintro e w3 ⟨rfl, hA, hX⟩; have hK1 := And.intro (hA.cells 8 _ rfl) (And.intro (hX.cells 0 _ rfl) (hX.cells 1 _ rfl))))
  have H3 := hide (And.intro hA hX)
  have b9 := hA.cells 9 _ rfl
  have b10 := hA.cells 10 _ rfl
  have z0 := hX.cells 0 _ rfl
  have z2 := hX.cells 2 _ rfl
  have HC5' := hide (HC5.out w3.drew (hA.then (grown_drew _ none)) (hX.then (grown_drew _ none)))
  clear hK1 hA hX b8 HC3' HC5
  by_cases hu : xu = 0
  · have hF := HF.out w3 p E T N B C H3.out.1 H3.out.2.st (.inl ⟨hu, rfl, rfl, rfl, rfl⟩)
    have HFF := hide hF
    clear hF HF H3
    subst hu
    go_wp2
    go_end0
    exact ⟨rfl, HFF.out⟩
  · have hu1 : (xu == 0) = false := by simpa using hu
    have hu2 : (xu != 0) = true := by simpa using hu
    have hu3 : decide (xu = 0) = false := by simpa using hu
    go_wp2
    go_region_held3 (fun W => W.cell? ⟨p.b, 9, none⟩ = some (.pointer (some ⟨p.hp.h, 0, none⟩)) ∧ W.cell? ⟨p.b, 10, none⟩ = some (.map (some p.hm)) ∧ W.cell? ⟨w.heap.size, 0, none⟩ = some (.int .u32 (xi : Int))) (first | assumption | exact ⟨b9, b10, z0⟩)
      ((go_at_call 85; refine HC5'.out.mono ?_; rintro e w4 ⟨rfl, q, T', hA, hX⟩; have hcl : ∀ j v, (bkc p S)[j]? = some v → w4.cell? ⟨p.b, j, none⟩ = some v := (by have h9 := hA.cells; rw [hX.st.bkc, hX.st.b] at h9; exact h9); have hk4 := And.intro (hcl 9 _ rfl) (And.intro (hcl 10 _ rfl) (hX.cells 0 _ rfl)); obtain ⟨w5, hrun, hB5, hK5⟩ := HM.out w4 q T' hA hX.st.hm; have hX5 := hX.keep hK5; have hcl5 : ∀ j v, (bkc p S)[j]? = some v → w5.cell? ⟨p.b, j, none⟩ = some v := (by have h9 := hB5.cells; rw [hX5.st.bkc, hX5.st.b] at h9; exact h9); have hk5 := And.intro (hcl5 9 _ rfl) (And.intro (hcl5 10 _ rfl) (hX5.cells 0 _ rfl)); have HE5 := hide (And.intro hB5 hX5); clear hcl hcl5 hA hX hB5 hX5 hK5))
    go_end0
    exact ⟨rfl, HF.out w5 q _ T' _ _ _ HE5.out.1 HE5.out.2.st (.inr ⟨hu, rfl, rfl, rfl, rfl⟩)⟩
end
end Go.Proofs.YtahjckcfcdnlmaaGreat
/- What is due: taken out, the first one; a booking removed. -/
namespace Go.Proofs.YtahjckcfcdnlmaaGreat
open Go.RowKit
attribute [local go_sem ↓] Go.wp_at_zero Go.wp_at_succ
section
variable {w w' : World} {p q : Bp} {S : Sb} {Lb Lb' : List Bool} {R : List Bg} {M E : List (Nat × Int)} {T : List Nat} {N B C K : Nat} {f : Int → Option Nat}
theorem BkR.cells' {w0 : World} {p0 : Bp} (h : BkR w p S Lb R M E T N B C f) (k : Bst w0 w p0 p) : ∀ j v, (bkc p0 S)[j]? = some v → w.cell? ⟨p0.b, j, none⟩ = some v := by
  have h9 := h.cells
  rw [k.bkc, k.b] at h9
  exact h9
end
end Go.Proofs.YtahjckcfcdnlmaaGreat
/- A booking removed; the one that is due first; another seat. -/
namespace Go.Proofs.YtahjckcfcdnlmaaGreat
open Go.RowKit
attribute [local go_sem ↓] Go.wp_at_zero Go.wp_at_succ
section
variable {w w' : World} {p q : Bp} {S : Sb} {Lb Lb' : List Bool} {R : List Bg} {M E : List (Nat × Int)} {T : List Nat} {N B C K : Nat} {f : Int → Option Nat}
theorem BkR.re {S' : Sb} (h : BkR w p S Lb R M E T N B C f) (ha : S'.a = S.a) (hb : S'.b = S.b) (hc : S'.c = S.c) (hn : S'.n = S.n) (ht : S'.t = S.t) : BkR w p S' Lb R M E T N B C f :=
  ⟨by have := h.head; unfold bkc at *; rw [ha, hb, hc, hn, ht]; exact this, h.var, h.set, h.row, h.ix, h.due, h.map, h.ap, h.z, by rw [ha]; exact h.rl, by rw [hb]; exact h.im, by rw [ha]; exact h.sa, h.mi⟩
theorem BkAt.lt (h : BkAt w p S K) : ∀ i, p.own i → i < w.heap.size := by obtain ⟨_, _, _, _, _, _, _, _, h, _⟩ := h; exact h.lt
theorem BkAt.far {X : Nat → Prop} (h : BkAt w p S K) (k : Kept w w' X) (hX : ∀ i, p.own i → ¬ X i) : BkAt w' p S K := by
  obtain ⟨Lb, R, M, E, T, N, B, C, h, h1⟩ := h; exact ⟨Lb, R, M, E, T, N, B, C, h.far k hX, h1⟩
theorem BkAt.then (h : BkAt w p S K) (k : w.grownBy w' none) : BkAt w' p S K := h.far (Kept.new k (fun _ => False)) (fun _ _ e => e)
theorem BkAt.mono (h : BkAt w p S K) {K' : Nat} (hk : K ≤ K') : BkAt w p S K' := by
  obtain ⟨Lb, R, M, E, T, N, B, C, h, h1, h2, h3, h4⟩ := h; exact ⟨Lb, R, M, E, T, N, B, C, h, h1, by omega, h3, h4⟩
theorem BkAt.cells (h : BkAt w p S K) : ∀ j v, (bkc p S)[j]? = some v → w.cell? ⟨p.b, j, none⟩ = some v := by obtain ⟨_, _, _, _, _, _, _, _, h, _⟩ := h; exact h.cells
theorem BkAt.z (h : BkAt w p S K) : ¬ p.own 0 := by obtain ⟨_, _, _, _, _, _, _, _, h, _⟩ := h; exact h.z
/-- The cells of no booking. -/
def bgz : List Value := [.int .u32 0, .int .i64 0, .int .i64 0]
/-- What is due first. -/
def Fst (S : Sb) (x : Bg) (b : Bool) : Prop := (b = false ∧ x = ⟨0, 0, 0⟩ ∧ ∀ y ∈ S.L, y.u = 0) ∨ (b = true ∧ x ∈ S.L ∧ x.u ≠ 0 ∧ ∀ y ∈ S.L, y.u ≠ 0 → x.u ≤ y.u)
end
end Go.Proofs.YtahjckcfcdnlmaaGreat
/- What a shape tells; a hold that may be. -/
namespace Go.Proofs.YtahjckcfcdnlmaaGreat
open Go.RowKit
attribute [local go_sem ↓] Go.wp_at_zero Go.wp_at_succ
def limV (a b c : Nat) : Value := .agg #[.int .i64 (a : Int), .int .i64 (b : Int), .int .i64 (c : Int)]
theorem hasSeat_any (a b c : Nat) (s : Int) (w : World) : Calls Tryz.prog 79 #[limV a b c, .int .i64 s] w fun e w' => e = .returned (.bool (decide (0 ≤ s ∧ s < (a : Int)))) ∧ w.grownBy w' none := by
  have hg : ∀ o, w.grownBy (w.alloc o) none := fun o => grown_alloc w o
  unfold limV
  by_cases h1 : 0 ≤ s
  · by_cases h2 : s < (a : Int)
    · rw [decide_eq_true (show 0 ≤ s ∧ s < (a : Int) from ⟨h1, h2⟩)]
      go_enter Tryz.func79, Tryz.ntmps79
      go_wp2
      go_ret
      exact ⟨rfl, hg _⟩
    · rw [decide_eq_false (show ¬ (0 ≤ s ∧ s < (a : Int)) from fun h => h2 h.2)]
      go_enter Tryz.func79, Tryz.ntmps79
      go_wp2
      go_ret
      exact ⟨rfl, hg _⟩
  · rw [decide_eq_false (show ¬ (0 ≤ s ∧ s < (a : Int)) from fun h => h1 h.1)]
    go_enter Tryz.func79, Tryz.ntmps79
    go_wp2
    go_ret
    exact ⟨rfl, hg _⟩
theorem hasRoom_any (a b c : Nat) (s : Int) (w : World) : Calls Tryz.prog 81 #[limV a b c, .int .i64 s] w fun e w' => e = .returned (.bool (decide (s < (b : Int)))) ∧ w.grownBy w' none := by
  have hg : ∀ o, w.grownBy (w.alloc o) none := fun o => grown_alloc w o
  unfold limV
  by_cases h2 : s < (b : Int)
  · rw [decide_eq_true h2]
    go_enter Tryz.func81, Tryz.ntmps81
    go_wp2
    go_ret
    exact ⟨rfl, hg _⟩
  · rw [decide_eq_false h2]
    go_enter Tryz.func81, Tryz.ntmps81
    go_wp2
    go_ret
    exact ⟨rfl, hg _⟩
section
variable {w w' : World} {p q : Bp} {S : Sb} {Lb Lb' : List Bool} {R : List Bg} {M E : List (Nat × Int)} {T : List Nat} {N B C K : Nat} {f : Int → Option Nat}
/-- The taken seats, asked. -/
theorem BkAt.has (h : BkAt w p S K) (s : Nat) (hs : s < S.a) : Calls Tryz.prog 80 #[.pointer (some ⟨p.tb, 0, none⟩), .int .i64 (s : Int)] w fun e w' => e = .returned (.bool (sat S.L s).isSome) ∧ w.grownBy w' none := by
  obtain ⟨Lb, R, M, E, T, N, B, C, h, hR, hN⟩ := h
  have := has_bk h s (by rw [hR.lb]; exact hs)
  rw [hR.tk] at this
  exact this
theorem BkAt.len (h : BkAt w p S K) : Calls Tryz.prog 40 #[.pointer (some ⟨p.ip.x, 0, none⟩)] w fun e w' => e = .returned (.int .i64 (S.L.length : Int)) ∧ w' = w := by
  obtain ⟨Lb, R, M, E, T, N, B, C, h, hR, hN⟩ := h
  have := len_bk h
  rw [hR.m, mx_length] at this
  exact this
theorem BkAt.isNone (h : BkAt w p S K) : Calls Tryz.prog 39 #[.pointer (some ⟨p.b, 0, none⟩)] w fun e w' => e = .returned (.bool false) ∧ w' = w := by
  obtain ⟨Lb, R, M, E, T, N, B, C, h, hR, hN⟩ := h
  exact isNone_bk h
/-- A book beside a box, in the midst of a call that changes nothing. -/
structure Bm (w W : World) (X : Nat) (cs : List Value) (ty : TypeId) (p : Bp) (S : Sb) (K : Nat) : Prop where
  bk : BkAt W p S K
  gr : w.grownBy W none
  box : W.heap[X]? = some (.cells cs.toArray ty (0, 0))
  lo : w.heap.size ≤ X
theorem Bm.then {W W' : World} {X : Nat} {cs : List Value} {ty : TypeId} (h : Bm w W X cs ty p S K) (g : W.grownBy W' none) : Bm w W' X cs ty p S K :=
  ⟨h.bk.then g, grown_trans h.gr g, (g.block _ (row_lt h.box) (by simp)).trans h.box, h.lo⟩
theorem Bm.cells {W : World} {X : Nat} {cs : List Value} {ty : TypeId} (h : Bm w W X cs ty p S K) : ∀ j v, cs[j]? = some v → W.cell? ⟨X, j, none⟩ = some v := fun j v hv => by rw [cell_row h.box]; exact hv
theorem Bm.start (h : BkAt w p S K) (cs : List Value) (ty : TypeId) : Bm w (w.alloc (.cells cs.toArray ty)) w.heap.size cs ty p S K :=
  ⟨h.then (grown_alloc w _), grown_alloc w _, heap_alloc_new w _, Nat.le_refl _⟩
/-- What stands in the book's head and in the box. -/
structure Bf (W : World) (X : Nat) (cs : List Value) (p : Bp) (S : Sb) : Prop where
  a0 : W.cell? ⟨p.b, 0, none⟩ = some (.int .i64 (S.a : Int))
  a1 : W.cell? ⟨p.b, 1, none⟩ = some (.int .i64 (S.b : Int))
  a2 : W.cell? ⟨p.b, 2, none⟩ = some (.int .i64 (S.c : Int))
  a4 : W.cell? ⟨p.b, 4, none⟩ = some (.int .u32 (S.n : Int))
  a5 : W.cell? ⟨p.b, 5, none⟩ = some (.int .i64 S.t)
  a6 : W.cell? ⟨p.b, 6, none⟩ = some (.pointer (some ⟨p.tb, 0, none⟩))
  a8 : W.cell? ⟨p.b, 8, none⟩ = some (.pointer (some ⟨p.ip.x, 0, none⟩))
  bx : ∀ j v, cs[j]? = some v → W.cell? ⟨X, j, none⟩ = some v
theorem Bm.ff {W : World} {X : Nat} {cs : List Value} {ty : TypeId} (h : Bm w W X cs ty p S K) : Bf W X cs p S :=
  ⟨h.bk.cells 0 _ rfl, h.bk.cells 1 _ rfl, h.bk.cells 2 _ rfl, h.bk.cells 4 _ rfl, h.bk.cells 5 _ rfl, h.bk.cells 6 _ rfl, h.bk.cells 8 _ rfl, h.cells⟩
theorem hold_2 {k c u : Int} {i s : Nat} (h1 : ¬ i = S.n) : holdE S ⟨k, (i : Int), (s : Int), u, c⟩ = 2 := by
  unfold holdE; rw [if_pos (by simp only [ne_eq]; omega)]
theorem hold_140 {k c u : Int} {s : Nat} (h2 : ¬ s < S.a) : holdE S ⟨k, (S.n : Int), (s : Int), u, c⟩ = 140 := by
  unfold holdE; rw [if_neg (fun e => e rfl), if_pos (by show ¬ (s : Int) < (S.a : Int); omega)]
theorem hold_173 {k c u : Int} {s : Nat} (h2 : s < S.a) (h3 : u ≤ S.t) : holdE S ⟨k, (S.n : Int), (s : Int), u, c⟩ = 173 := by
  unfold holdE; rw [if_neg (fun e => e rfl), if_neg (by show ¬ ¬ (s : Int) < (S.a : Int); omega), if_pos h3]
theorem hold_170 {k c u : Int} {s : Nat} {y : Bg} (h2 : s < S.a) (h3 : ¬ u ≤ S.t) (hq : sat S.L s = some y) : holdE S ⟨k, (S.n : Int), (s : Int), u, c⟩ = 170 := by
  unfold holdE; rw [if_neg (fun e => e rfl), if_neg (by show ¬ ¬ (s : Int) < (S.a : Int); omega), if_neg h3, if_pos (by simp only [Int.toNat_natCast, hq]; rfl)]
theorem hold_6 {k c u : Int} {s : Nat} (h2 : s < S.a) (h3 : ¬ u ≤ S.t) (hq : sat S.L s = none) (h5 : S.b ≤ S.L.length ∨ S.n = 4294967295) : holdE S ⟨k, (S.n : Int), (s : Int), u, c⟩ = 6 := by
  unfold holdE; rw [if_neg (fun e => e rfl), if_neg (by show ¬ ¬ (s : Int) < (S.a : Int); omega), if_neg h3, if_neg (by simp only [Int.toNat_natCast, hq]; simp), if_pos h5]
theorem hold_0 {k c u : Int} {s : Nat} (h2 : s < S.a) (h3 : ¬ u ≤ S.t) (hq : sat S.L s = none) (h5 : ¬ (S.b ≤ S.L.length ∨ S.n = 4294967295)) : holdE S ⟨k, (S.n : Int), (s : Int), u, c⟩ = 0 := by
  unfold holdE; rw [if_neg (fun e => e rfl), if_neg (by show ¬ ¬ (s : Int) < (S.a : Int); omega), if_neg h3, if_neg (by simp only [Int.toNat_natCast, hq]; simp), if_neg h5]
end
end Go.Proofs.YtahjckcfcdnlmaaGreat
/- Hold, confirm, cancel. -/
namespace Go.Proofs.YtahjckcfcdnlmaaGreat
open Go.RowKit
attribute [local go_sem ↓] Go.wp_at_zero Go.wp_at_succ
theorem Rel.re {S S' : Sb} {Lb : List Bool} {R : List Bg} {M E : List (Nat × Int)} (h : Rel S Lb R M E) (ha : S'.a = S.a) (hL : S'.L = S.L) : Rel S' Lb R M E :=
  ⟨by rw [ha]; exact h.lb, by rw [hL]; exact h.tk, by rw [ha]; exact h.rl, by rw [hL]; exact h.rw, by rw [hL]; exact h.m, by rw [hL]; exact h.e1, by rw [hL]; exact h.e2, h.e3⟩
section
variable {w w' : World} {p q : Bp} {S : Sb} {Lb Lb' : List Bool} {R : List Bg} {M E : List (Nat × Int)} {T : List Nat} {N B C K : Nat} {f : Int → Option Nat}
theorem BkAt.next (h : BkAt w p S K) : BkAt (w.setCell ⟨p.b, 4, none⟩ (.int .u32 ((S.n : Int) + 1))) p { S with n := S.n + 1 } K ∧ Kept w (w.setCell ⟨p.b, 4, none⟩ (.int .u32 ((S.n : Int) + 1))) p.own := by
  obtain ⟨Lb, R, M, E, T, N, B, C, h, hR, hN⟩ := h
  obtain ⟨h1, h2⟩ := h.headed (S' := { S with n := S.n + 1 }) (grown_setCell w p.b 4 (.int .u32 ((S.n : Int) + 1))) (by rw [row_setCell h.head]; rfl) rfl rfl
  exact ⟨⟨Lb, R, M, E, T, N, B, C, h1, hR.re rfl rfl, hN⟩, h2⟩
theorem BkAt.tick (h : BkAt w p S K) (t : Int) : BkAt (w.setCell ⟨p.b, 5, none⟩ (.int .i64 t)) p { S with t := t } K ∧ Kept w (w.setCell ⟨p.b, 5, none⟩ (.int .i64 t)) p.own := by
  obtain ⟨Lb, R, M, E, T, N, B, C, h, hR, hN⟩ := h
  obtain ⟨h1, h2⟩ := h.headed (S' := { S with t := t }) (grown_setCell w p.b 5 (.int .i64 t)) (by rw [row_setCell h.head]; rfl) rfl rfl
  exact ⟨⟨Lb, R, M, E, T, N, B, C, h1, hR.re rfl rfl, hN⟩, h2⟩
theorem BkAt.free (h : BkAt w p S K) (j : Nat) : w.frozen? ⟨p.b, j, none⟩ = false := by obtain ⟨_, _, _, _, _, _, _, _, h, _⟩ := h; exact free_row h.head j
/-- An id, found or not. -/
theorem BkAt.find (h : BkAt w p S K) (_hw : S.Wk) (k : Nat) (hk : k < 4294967296) : Calls Tryz.prog 112 #[.pointer (some ⟨p.b, 0, none⟩), .int .u32 (k : Int)] w fun e w' => e = .returned (.tuple #[bgV ((fnd S.L k).getD ⟨0, 0, 0⟩), .int .i64 (if (fnd S.L k).isSome then 0 else 171)]) ∧ BkAt w' p S K ∧ Kept w w' p.own := by
  obtain ⟨Lb, R, M, E, T, N, B, C, h, hR, hN⟩ := h
  have hc := find_bk h k hk
  have hlk : Ix.lk M k = (fnd S.L k).map fun x => (x.s : Int) := by rw [hR.m, lk_mx]
  have hfx : fn M R k = (fnd S.L k).getD ⟨0, 0, 0⟩ := by
    unfold fn
    rw [hlk]
    cases hf : fnd S.L k with
    | none => rfl
    | some x => simp [rd, hR.rw x (List.mem_of_find?_eq_some hf)]
  rw [hfx, hlk, Option.isSome_map] at hc
  refine hc.mono ?_
  rintro e w' ⟨rfl, h3, h4⟩
  exact ⟨rfl, ⟨Lb, R, M, E, T, N, B, C, h3, hR, hN⟩, h4⟩
end
end Go.Proofs.YtahjckcfcdnlmaaGreat
/- Confirm, another seat. -/
namespace Go.Proofs.YtahjckcfcdnlmaaGreat
open Go.RowKit
attribute [local go_sem ↓] Go.wp_at_zero Go.wp_at_succ
theorem bgs_setU {R : List Bg} {s : Nat} {x : Bg} (h : R[s]? = some x) (u : Int) : (bgs R).set (s * 3 + 2) (.int .i64 u) = bgs (R.set s { x with u := u }) := by
  have hs : s < R.length := (List.getElem?_eq_some_iff.1 h).1
  have hr : rd R s = x := by unfold rd; rw [h]; rfl
  obtain ⟨h1, h2, h3⟩ := bgs_get hs
  rw [hr] at h1 h2
  rw [bgs_set]
  simp only
  rw [Ix.set_same h1, Ix.set_same h2]
theorem fnd_upd {L : List Bg} (hA : AscB L) {x y : Bg} (hx : x ∈ L) (hy : y.i = x.i) (k : Nat) : fnd (upd L x.i y) k = if k = x.i then some y else fnd L k := by
  have hA' := upd_asc hA hy
  split
  · rename_i e
    rw [fnd_some hA']
    exact ⟨upd_mem.2 (.inl ⟨rfl, x, hx, rfl⟩), by rw [e]; exact hy⟩
  · rename_i e
    cases hf : fnd L k with
    | none =>
      rw [fnd_none] at hf ⊢
      intro z hz
      rcases upd_mem.1 hz with ⟨rfl, -⟩ | ⟨hz, -⟩
      · rw [hy]; exact fun e2 => e e2.symm
      · exact hf z hz
    | some z =>
      obtain ⟨h1, h2⟩ := (fnd_some hA).1 hf
      rw [fnd_some hA']
      exact ⟨upd_mem.2 (.inr ⟨h1, by rw [h2]; exact e⟩), h2⟩
section
variable {w w' : World} {p q : Bp} {S : Sb} {Lb Lb' : List Bool} {R : List Bg} {M E : List (Nat × Int)} {T : List Nat} {N B C K : Nat} {f : Int → Option Nat}
/-- A seat's until is written. -/
theorem BkR.confd (h : BkR w p S Lb R M E T N B C f) {x : Bg} (hx : R[x.s]? = some x) (ht : ∀ e ∈ E, Ix.lk M e.2.toNat ≠ some (x.s : Int)) : BkR (w.setCell ⟨p.sg, x.s * 3 + 2, none⟩ (.int .i64 0)) p S Lb (R.set x.s { x with u := 0 }) M E T N B C f ∧ Kept w (w.setCell ⟨p.sg, x.s * 3 + 2, none⟩ (.int .i64 0)) p.own := by
  obtain ⟨lo, h1⟩ := h.ix
  refine h.seated (grown_setCell w _ _ _) ?_ (by simp) (fun e he => tl_set (ht e he) (fun y hy => (h.mi y hy).1) h1.asc)
  rw [← bgs_setU hx]
  exact row_setCell h.row _ _
end
end Go.Proofs.YtahjckcfcdnlmaaGreat
/- Another seat. -/
namespace Go.Proofs.YtahjckcfcdnlmaaGreat
open Go.RowKit
attribute [local go_sem ↓] Go.wp_at_zero Go.wp_at_succ
section
variable {w w' : World} {p q : Bp} {S : Sb} {Lb Lb' : List Bool} {R : List Bg} {M E : List (Nat × Int)} {T : List Nat} {N B C K : Nat} {f : Int → Option Nat}
end
end Go.Proofs.YtahjckcfcdnlmaaGreat
/- Reseat, tick. -/
namespace Go.Proofs.YtahjckcfcdnlmaaGreat
open Go.RowKit
attribute [local go_sem ↓] Go.wp_at_zero Go.wp_at_succ
section
variable {w w' : World} {p q : Bp} {S : Sb} {Lb Lb' : List Bool} {R : List Bg} {M E : List (Nat × Int)} {T : List Nat} {N B C K : Nat} {f : Int → Option Nat}
theorem hasSeat_nat (S : Sb) (s : Nat) (W : World) : Calls Tryz.prog 79 #[.agg #[.int .i64 (S.a : Int), .int .i64 (S.b : Int), .int .i64 (S.c : Int)], .int .i64 (s : Int)] W fun e w' => e = .returned (.bool (decide (s < S.a))) ∧ W.grownBy w' none := by
  have := hasSeat_any S.a S.b S.c (s : Int) W
  rw [show decide (0 ≤ (s : Int) ∧ (s : Int) < (S.a : Int)) = decide (s < S.a) by simp] at this
  exact this
end
end Go.Proofs.YtahjckcfcdnlmaaGreat
/- Tick. -/
namespace Go.Proofs.YtahjckcfcdnlmaaGreat
open Go.RowKit
attribute [local go_sem ↓] Go.wp_at_zero Go.wp_at_succ
theorem Sb.Wk.sub {S : Sb} (h : S.Wk) {c : Int} {L : List Bg} (hL : L.Sublist S.L) (h0 : 0 ≤ c) (h1 : c ≤ mxC) : Sb.Wk { S with t := c, L := L } :=
  ⟨h.a0, h.a1, h.b0, h.b1, h.c0, h.c1, h.n0, h.n1, h0, h1, List.Pairwise.sublist hL h.asc, fun x hx => h.id x (hL.subset hx), fun x hx => h.st x (hL.subset hx), List.Pairwise.sublist hL h.one, fun x hx => h.til x (hL.subset hx), Nat.le_trans hL.length_le h.few⟩
theorem tik_del {L : List Bg} {x : Bg} (hA : AscB L) (hx : x ∈ L) {c : Int} (hu : x.u ≠ 0) (hc : x.u ≤ c) : tik (del L x.i) c = tik L c := by
  unfold tik del
  rw [List.filter_filter]
  apply List.filter_congr
  intro y hy
  by_cases e : y.i = x.i
  · rw [hA.same hy hx e]
    simp [hu]; omega
  · simp [e]
theorem tik_all {L : List Bg} {c : Int} (h : ∀ y ∈ L, y.u = 0 ∨ c < y.u) : tik L c = L := by
  unfold tik
  rw [List.filter_eq_self]
  intro y hy
  simpa using h y hy
theorem del_sub (L : List Bg) (i : Nat) : (del L i).Sublist L := List.filter_sublist
theorem del_less {L : List Bg} {x : Bg} (hx : x ∈ L) : (del L x.i).length < L.length := by
  unfold del
  rw [List.length_filter_lt_length_iff_exists]
  exact ⟨x, hx, by simp⟩
/-- In the midst of a tick. -/
def TkR (w : World) (p : Bp) (S : Sb) (c : Int) (K n X : Nat) (b : Bool) (W : World) : Prop :=
  ∃ r L x, BkAt W r { S with t := c, L := L } K ∧ L.Sublist S.L ∧ Fst { S with t := c, L := L } x b ∧ Bx w W X (bgc x) 78 p r ∧ tik L c = tik S.L c ∧ L.length ≤ n
section
variable {w w' : World} {p q : Bp} {S : Sb} {Lb Lb' : List Bool} {R : List Bg} {M E : List (Nat × Int)} {T : List Nat} {N B C K : Nat} {f : Int → Option Nat}
end
end Go.Proofs.YtahjckcfcdnlmaaGreat
/- Apply. -/
namespace Go.Proofs.YtahjckcfcdnlmaaGreat
open Go.RowKit
attribute [local go_sem ↓] Go.wp_at_zero Go.wp_at_succ
section
variable {w w' : World} {p q : Bp} {S : Sb} {K : Nat}
end
end Go.Proofs.YtahjckcfcdnlmaaGreat
