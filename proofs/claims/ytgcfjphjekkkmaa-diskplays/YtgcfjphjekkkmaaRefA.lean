/- The document's disk: its rows, its sectors, what waits. -/
import Derived.Test.YtgcfjphjekkkmaaNone
import Derived.Test.YtgcfjphjekkkmaaSurv0
namespace Go.Proofs.Ytgcfjphjekkkmaa
open Go.RowKit Ap

/-- Bytes in a block of their own. -/
structure Bx where
  g : Nat
  c : Nat
  xs : List Nat
def Bx.v (b : Bx) : Value := .slice (some ⟨b.g, 0, none⟩) b.xs.length b.c
def BxAt (w : World) (lo : Nat) (b : Bx) : Prop := w.ownsRow lo 5 1 b.v b.xs.length (bv b.xs)
/-- A row of such bytes, no two in one block. -/
structure RowAt (w : World) (lo : Nat) (v : Value) (S : List Bx) : Prop where
  row : w.ownsRow lo 46 1 v S.length (S.map Bx.v)
  at_ : ∀ b ∈ S, BxAt w lo b
  nd : S.Pairwise (fun a b => a.g ≠ b.g)

theorem owns_off {w w' : World} {lo : Nat} {e : TypeId} {s n : Nat} {u : Value} {xs : List Value} {T : Nat → Prop} (ho : w.ownsRow lo e s u n xs) (hk : Kept w w' T) (hT : ∀ g, u.ownBlock = some g → ¬ T g) : w'.ownsRow lo e s u n xs := by
  refine ⟨ho.1, ?_⟩
  rcases ho.2 with e1 | ⟨g, cap, cur, rfl, h1, h2, h3⟩
  · exact Or.inl e1
  · exact Or.inr ⟨g, cap, cur, rfl, h1, hk.at h2 (hT g rfl), h3⟩
theorem owns_mono {w : World} {lo lo' : Nat} {e : TypeId} {s n : Nat} {u : Value} {xs : List Value} (h : w.ownsRow lo e s u n xs) (hl : lo' ≤ lo) : w.ownsRow lo' e s u n xs := by
  refine ⟨h.1, ?_⟩
  rcases h.2 with e1 | ⟨g, cap, cur, rfl, h1, h2⟩
  · exact Or.inl e1
  · exact Or.inr ⟨g, cap, cur, rfl, Nat.le_trans hl h1, h2⟩
theorem BxAt.off {w w' : World} {lo : Nat} {b : Bx} {T : Nat → Prop} (h : BxAt w lo b) (hk : Kept w w' T) (hT : ¬ T b.g) : BxAt w' lo b := owns_off h hk (fun g e => by cases e; exact hT)
theorem BxAt.grown {w w' : World} {lo : Nat} {b : Bx} (h : BxAt w lo b) (hg : w.grownBy w' none) : BxAt w' lo b := h.off (Kept.new hg (fun _ => False)) id
theorem BxAt.blk {w : World} {lo : Nat} {b : Bx} (h : BxAt w lo b) : lo ≤ b.g ∧ ∃ cur, w.heap[b.g]? = some (.cells cur 5 (0, 0)) := own_block h b.g rfl
theorem BxAt.lt {w : World} {lo : Nat} {b : Bx} (h : BxAt w lo b) : b.g < w.heap.size := row_lt h.blk.2.choose_spec
theorem BxAt.mono {w : World} {lo lo' : Nat} {b : Bx} (h : BxAt w lo b) (hl : lo' ≤ lo) : BxAt w lo' b := owns_mono h hl
theorem BxAt.at_ {w : World} {lo : Nat} {b : Bx} (h : BxAt w lo b) : At w (some ⟨b.g, 0, none⟩) b.xs := by
  intro j u hu
  exact ⟨_, rfl, World.ownsRow.cells h rfl j _ (bv_get b.xs j u hu)⟩
theorem RowAt.off {w w' : World} {lo : Nat} {v : Value} {S : List Bx} {T : Nat → Prop} (h : RowAt w lo v S) (hk : Kept w w' T) (hv : ∀ g, v.ownBlock = some g → ¬ T g) (hT : ∀ b ∈ S, ¬ T b.g) : RowAt w' lo v S :=
  ⟨owns_off h.row hk hv, fun b hb => (h.at_ b hb).off hk (hT b hb), h.nd⟩
theorem RowAt.grown {w w' : World} {lo : Nat} {v : Value} {S : List Bx} (h : RowAt w lo v S) (hg : w.grownBy w' none) : RowAt w' lo v S := h.off (Kept.new hg (fun _ => False)) (fun _ _ => id) (fun _ _ => id)
theorem RowAt.mono {w : World} {lo lo' : Nat} {v : Value} {S : List Bx} (h : RowAt w lo v S) (hl : lo' ≤ lo) : RowAt w lo' v S := ⟨owns_mono h.row hl, fun b hb => (h.at_ b hb).mono hl, h.nd⟩
theorem RowAt.nil (w : World) (lo : Nat) : RowAt w lo (.slice none 0 0) [] := ⟨World.ownsRow_nil _ _ _ _, by simp, List.Pairwise.nil⟩
/-- A row's own block holds no bytes. -/
theorem RowAt.ne {w : World} {lo : Nat} {v : Value} {S : List Bx} (h : RowAt w lo v S) {b : Bx} (hb : b ∈ S) : v.ownBlock ≠ some b.g := by
  intro e
  obtain ⟨_, c1, q1⟩ := own_block h.row b.g e
  obtain ⟨_, c2, q2⟩ := (h.at_ b hb).blk
  rw [q1] at q2
  simp at q2
/-- One row more. -/
theorem RowAt.snoc {w w1 w2 : World} {lo : Nat} {v v' : Value} {S : List Bx} {b : Bx} (h : RowAt w lo v S) (g1 : w.grownBy w1 none) (hb : BxAt w1 w.heap.size b) (hlo : lo ≤ w.heap.size)
    (g2 : w1.grownBy w2 v.ownBlock) (o : w2.ownsRow lo 46 1 v' (S.length + 1) (S.map Bx.v ++ [b.v])) : RowAt w2 lo v' (S ++ [b]) := by
  have hk : Kept w1 w2 (fun i => v.ownBlock = some i) := Kept.of g2 (fun j e _ => e)
  have h1 := h.grown g1
  have hbb := hb.blk
  refine ⟨by simpa using o, ?_, ?_⟩
  · intro x hx
    rcases List.mem_append.1 hx with hx | hx
    · exact (h1.at_ x hx).off hk (h1.ne hx)
    · simp at hx
      subst hx
      refine (hb.mono hlo).off hk ?_
      intro e
      have := (own_block h.row _ e).2.choose_spec
      have := row_lt this
      have := hbb.1
      omega
  · refine List.pairwise_append.2 ⟨h.nd, List.pairwise_singleton _ _, ?_⟩
    intro x hx y hy
    simp at hy
    subst hy
    have := (h.at_ x hx).lt
    have := hbb.1
    omega
theorem RowAt.rowsAt {w : World} {lo n : Nat} {v : Value} {S : List Bx} (h : RowAt w lo v S) (hn : S.length = n) (hs : ∀ b ∈ S, b.xs.length ≤ 4611686018427387904) : ∃ ao cap, v = .slice ao n cap ∧ RowsAt w ao (S.map Bx.xs) := by
  subst hn
  obtain ⟨ao, cap, rfl, hao, -, -⟩ := own_form h.row
  refine ⟨ao, cap, rfl, ?_⟩
  intro j xs hj
  rw [List.getElem?_map] at hj
  obtain ⟨b, hb, rfl⟩ := Option.map_eq_some_iff.1 hj
  obtain ⟨g, rfl⟩ := hao (Nat.lt_of_le_of_lt (Nat.zero_le _) (List.getElem?_eq_some_iff.1 hb).1)
  have hc := h.row.cells rfl j b.v (by rw [List.getElem?_map, hb]; rfl)
  rw [Addr.add_lit] at hc
  have hm := List.mem_of_getElem? hb
  exact ⟨g, 0, some ⟨b.g, 0, none⟩, b.c, rfl, hc, (h.at_ b hm).at_, hs b hm⟩

/-- The document's disk: its block, its two rows, the sectors, what waits. -/
structure Rk where
  r : Nat
  v : Value
  vw : Value
  S : List Bx
  V : List (Nat × Bx)
def vcells (V : List (Nat × Bx)) : List Value := V.flatMap fun x => [.int .i64 (x.1 : Int), x.2.v]
theorem vcells_length (V : List (Nat × Bx)) : (vcells V).length = V.length * 2 := by
  induction V with
  | nil => rfl
  | cons x V ih => simp [vcells] at ih ⊢; omega
theorem vcells_get (V : List (Nat × Bx)) (i : Nat) (x : Nat × Bx) (h : V[i]? = some x) : (vcells V)[2 * i]? = some (.int .i64 (x.1 : Int)) ∧ (vcells V)[2 * i + 1]? = some x.2.v := by
  induction V generalizing i with
  | nil => simp at h
  | cons y V ih =>
    cases i with
    | zero => simp at h; subst h; exact ⟨rfl, rfl⟩
    | succ i =>
      have e : 2 * (i + 1) = 2 * i + 1 + 1 := by omega
      rw [e]
      exact ih i (by simpa using h)
theorem vcells_snoc (V : List (Nat × Bx)) (x : Nat × Bx) : vcells (V ++ [x]) = vcells V ++ [.int .i64 (x.1 : Int), x.2.v] := by simp [vcells]
def rfoot (q : Rk) (i : Nat) : Prop := i = q.r ∨ q.v.ownBlock = some i ∨ q.vw.ownBlock = some i ∨ (∃ b ∈ q.S, b.g = i) ∨ ∃ x ∈ q.V, x.2.g = i
structure RefAt (w : World) (lo n size : Nat) (q : Rk) : Prop where
  head : w.heap[q.r]? = some (.cells #[q.v, q.vw] 54 (0, 0))
  low : lo ≤ q.r
  rows : RowAt w lo q.v q.S
  wrow : w.ownsRow lo 86 2 q.vw q.V.length (vcells q.V)
  wat : ∀ x ∈ q.V, BxAt w lo x.2
  nv : ∀ x ∈ q.V, ∀ b ∈ q.S, x.2.g ≠ b.g
  shape : Shape n size
  len : q.S.length = n
  sz : ∀ b ∈ q.S, b.xs.length = size
  wsz : ∀ x ∈ q.V, x.1 < n ∧ x.2.xs.length = size
section
variable {w w' : World} {lo n size : Nat} {q : Rk}
theorem RefAt.lt (h : RefAt w lo n size q) : ∀ i, rfoot q i → lo ≤ i ∧ i < w.heap.size := by
  rintro i (rfl | e | e | ⟨b, hb, rfl⟩ | ⟨x, hx, rfl⟩)
  · exact ⟨h.low, row_lt h.head⟩
  · obtain ⟨h1, c, h2⟩ := own_block h.rows.row i e; exact ⟨h1, row_lt h2⟩
  · obtain ⟨h1, c, h2⟩ := own_block h.wrow i e; exact ⟨h1, row_lt h2⟩
  · exact ⟨(h.rows.at_ b hb).blk.1, (h.rows.at_ b hb).lt⟩
  · exact ⟨(h.wat x hx).blk.1, (h.wat x hx).lt⟩
theorem RefAt.kept {T : Nat → Prop} (h : RefAt w lo n size q) (hk : Kept w w' T) (hT : ∀ i, rfoot q i → ¬ T i) : RefAt w' lo n size q :=
  ⟨hk.at h.head (hT _ (.inl rfl)), h.low, h.rows.off hk (fun g e => hT g (.inr (.inl e))) (fun b hb => hT _ (.inr (.inr (.inr (.inl ⟨b, hb, rfl⟩))))), owns_off h.wrow hk (fun g e => hT g (.inr (.inr (.inl e)))), fun x hx => (h.wat x hx).off hk (hT _ (.inr (.inr (.inr (.inr ⟨x, hx, rfl⟩))))), h.nv, h.shape, h.len, h.sz, h.wsz⟩
theorem RefAt.grown (h : RefAt w lo n size q) (hg : w.grownBy w' none) : RefAt w' lo n size q := h.kept (Kept.new hg (fun _ => False)) (fun _ _ => id)
theorem RefAt.c0 (h : RefAt w lo n size q) : w.cell? ⟨q.r, 0, none⟩ = some q.v := cell_row (l := [q.v, q.vw]) h.head 0
theorem RefAt.c1 (h : RefAt w lo n size q) : w.cell? ⟨q.r, 1, none⟩ = some q.vw := cell_row (l := [q.v, q.vw]) h.head 1
theorem RefAt.free (h : RefAt w lo n size q) (j : Nat) : w.frozen? ⟨q.r, j, none⟩ = false := free_row h.head j
/-- Its row of sectors, as a value. -/
theorem RefAt.vform (h : RefAt w lo n size q) : ∃ g cap, q.v = .slice (some ⟨g, 0, none⟩) n cap := by
  obtain ⟨ao, cap, hv, hao, -, -⟩ := own_form h.rows.row
  rw [h.len] at hv hao
  obtain ⟨g, rfl⟩ := hao (by have := h.shape.n0; omega)
  exact ⟨g, cap, hv⟩
theorem RefAt.sec (h : RefAt w lo n size q) {g cap s : Nat} (hv : q.v = .slice (some ⟨g, 0, none⟩) n cap) {b : Bx} (hs : q.S[s]? = some b) : w.cell? ⟨g, s, none⟩ = some (.slice (some ⟨b.g, 0, none⟩) size b.c) := by
  have hc := h.rows.row.cells (g := g) (by rw [hv]; rfl) s b.v (by rw [List.getElem?_map, hs]; rfl)
  rw [Addr.add_lit, Nat.zero_add, Bx.v, h.sz b (List.mem_of_getElem? hs)] at hc
  exact hc
theorem RefAt.get (h : RefAt w lo n size q) {s : Nat} (hs : s < n) : ∃ b, q.S[s]? = some b := ⟨q.S[s]'(by rw [h.len]; exact hs), List.getElem?_eq_getElem _⟩
theorem RefAt.wform (h : RefAt w lo n size q) : ∃ ao cap, q.vw = .slice ao q.V.length cap ∧ (0 < q.V.length → ∃ g, ao = some ⟨g, 0, none⟩) := by
  obtain ⟨ao, cap, hv, hao, -, -⟩ := own_form h.wrow
  exact ⟨ao, cap, hv, hao⟩
end
end Go.Proofs.Ytgcfjphjekkkmaa
