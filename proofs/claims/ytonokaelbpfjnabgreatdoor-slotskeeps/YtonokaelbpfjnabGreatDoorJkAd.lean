/- Texts joined: RefA, RefB, RefC, StlR, RefR, Pair, RefP, RefK, RefY, None2, OneA, OneB, ArgR, RefD, RefOf2, RefW. -/
import Derived.Test.YtonokaelbpfjnabGreatDoorJkAc
import Derived.Deep.CutRange
import Derived.Deep.DeepCutAuto
import Derived.Maps.AppendAt
import Derived.BigQuiet
import Derived.Deep.RegionLaw
/- The document's disk: its rows, its sectors, what waits. -/
namespace Go.Proofs.YtonokaelbpfjnabGreatDoor
open Go.RowKit Ap

/-- Bytes in a block of their own. -/
structure Bx where
  g : Nat
  c : Nat
  xs : List Nat
def Bx.v (b : Bx) : Value := .slice (some ⟨b.g, 0, none⟩) b.xs.length b.c
def BxAt (w : World) (lo : Nat) (b : Bx) : Prop := w.ownsRow lo 5 1 b.v b.xs.length (bv b.xs)
/-- A row of such bytes, no two in one block. -/
structure RowAt (w : World) (lo : Nat) (v : Value) (S : List Bx) : Prop where
  row : w.ownsRow lo 39 1 v S.length (S.map Bx.v)
  at_ : ∀ b ∈ S, BxAt w lo b
  nd : S.Pairwise (fun a b => a.g ≠ b.g)

theorem owns_off {w w' : World} {lo : Nat} {e : TypeId} {s n : Nat} {u : Value} {xs : List Value} {T : Nat → Prop} (ho : w.ownsRow lo e s u n xs) (hk : Kept w w' T) (hT : ∀ g, u.ownBlock = some g → ¬ T g) : w'.ownsRow lo e s u n xs := by
  refine ⟨ho.1, ?_⟩
  rcases ho.2 with e1 | ⟨g, cap, cur, rfl, h1, h2, h3⟩
  · exact Or.inl e1
  · exact Or.inr ⟨g, cap, cur, rfl, h1, hk.at h2 (hT g rfl), h3⟩
theorem owns_mono {w : World} {lo lo' : Nat} {e : TypeId} {s n : Nat} {u : Value} {xs : List Value} (h : w.ownsRow lo e s u n xs) (hl : lo' ≤ lo) : w.ownsRow lo' e s u n xs := by
  refine ⟨h.1, ?_⟩
  rcases h.2 with e1 | ⟨g, cap, cur, rfl, h1, h2⟩
  · exact Or.inl e1
  · exact Or.inr ⟨g, cap, cur, rfl, Nat.le_trans hl h1, h2⟩
theorem BxAt.off {w w' : World} {lo : Nat} {b : Bx} {T : Nat → Prop} (h : BxAt w lo b) (hk : Kept w w' T) (hT : ¬ T b.g) : BxAt w' lo b := owns_off h hk (fun g e => by cases e; exact hT)
theorem BxAt.grown {w w' : World} {lo : Nat} {b : Bx} (h : BxAt w lo b) (hg : w.grownBy w' none) : BxAt w' lo b := h.off (Kept.new hg (fun _ => False)) id
theorem BxAt.blk {w : World} {lo : Nat} {b : Bx} (h : BxAt w lo b) : lo ≤ b.g ∧ ∃ cur, w.heap[b.g]? = some (.cells cur 5 (0, 0)) := own_block h b.g rfl
theorem BxAt.lt {w : World} {lo : Nat} {b : Bx} (h : BxAt w lo b) : b.g < w.heap.size := row_lt h.blk.2.choose_spec
theorem BxAt.mono {w : World} {lo lo' : Nat} {b : Bx} (h : BxAt w lo b) (hl : lo' ≤ lo) : BxAt w lo' b := owns_mono h hl
theorem BxAt.at_ {w : World} {lo : Nat} {b : Bx} (h : BxAt w lo b) : At w (some ⟨b.g, 0, none⟩) b.xs := by
  intro j u hu
  exact ⟨_, rfl, World.ownsRow.cells h rfl j _ (bv_get b.xs j u hu)⟩
theorem RowAt.off {w w' : World} {lo : Nat} {v : Value} {S : List Bx} {T : Nat → Prop} (h : RowAt w lo v S) (hk : Kept w w' T) (hv : ∀ g, v.ownBlock = some g → ¬ T g) (hT : ∀ b ∈ S, ¬ T b.g) : RowAt w' lo v S :=
  ⟨owns_off h.row hk hv, fun b hb => (h.at_ b hb).off hk (hT b hb), h.nd⟩
theorem RowAt.grown {w w' : World} {lo : Nat} {v : Value} {S : List Bx} (h : RowAt w lo v S) (hg : w.grownBy w' none) : RowAt w' lo v S := h.off (Kept.new hg (fun _ => False)) (fun _ _ => id) (fun _ _ => id)
theorem RowAt.mono {w : World} {lo lo' : Nat} {v : Value} {S : List Bx} (h : RowAt w lo v S) (hl : lo' ≤ lo) : RowAt w lo' v S := ⟨owns_mono h.row hl, fun b hb => (h.at_ b hb).mono hl, h.nd⟩
theorem RowAt.nil (w : World) (lo : Nat) : RowAt w lo (.slice none 0 0) [] := ⟨World.ownsRow_nil _ _ _ _, by simp, List.Pairwise.nil⟩
/-- A row's own block holds no bytes. -/
theorem RowAt.ne {w : World} {lo : Nat} {v : Value} {S : List Bx} (h : RowAt w lo v S) {b : Bx} (hb : b ∈ S) : v.ownBlock ≠ some b.g := by
  intro e
  obtain ⟨_, c1, q1⟩ := own_block h.row b.g e
  obtain ⟨_, c2, q2⟩ := (h.at_ b hb).blk
  rw [q1] at q2
  simp at q2
/-- One row more. -/
theorem RowAt.snoc {w w1 w2 : World} {lo : Nat} {v v' : Value} {S : List Bx} {b : Bx} (h : RowAt w lo v S) (g1 : w.grownBy w1 none) (hb : BxAt w1 w.heap.size b) (hlo : lo ≤ w.heap.size)
    (g2 : w1.grownBy w2 v.ownBlock) (o : w2.ownsRow lo 39 1 v' (S.length + 1) (S.map Bx.v ++ [b.v])) : RowAt w2 lo v' (S ++ [b]) := by
  have hk : Kept w1 w2 (fun i => v.ownBlock = some i) := Kept.of g2 (fun j e _ => e)
  have h1 := h.grown g1
  have hbb := hb.blk
  refine ⟨by simpa using o, ?_, ?_⟩
  · intro x hx
    rcases List.mem_append.1 hx with hx | hx
    · exact (h1.at_ x hx).off hk (h1.ne hx)
    · simp at hx
      subst hx
      refine (hb.mono hlo).off hk ?_
      intro e
      have := (own_block h.row _ e).2.choose_spec
      have := row_lt this
      have := hbb.1
      omega
  · refine List.pairwise_append.2 ⟨h.nd, List.pairwise_singleton _ _, ?_⟩
    intro x hx y hy
    simp at hy
    subst hy
    have := (h.at_ x hx).lt
    have := hbb.1
    omega
theorem RowAt.rowsAt {w : World} {lo n : Nat} {v : Value} {S : List Bx} (h : RowAt w lo v S) (hn : S.length = n) (hs : ∀ b ∈ S, b.xs.length ≤ 4611686018427387904) : ∃ ao cap, v = .slice ao n cap ∧ RowsAt w ao (S.map Bx.xs) := by
  subst hn
  obtain ⟨ao, cap, rfl, hao, -, -⟩ := own_form h.row
  refine ⟨ao, cap, rfl, ?_⟩
  intro j xs hj
  rw [List.getElem?_map] at hj
  obtain ⟨b, hb, rfl⟩ := Option.map_eq_some_iff.1 hj
  obtain ⟨g, rfl⟩ := hao (Nat.lt_of_le_of_lt (Nat.zero_le _) (List.getElem?_eq_some_iff.1 hb).1)
  have hc := h.row.cells rfl j b.v (by rw [List.getElem?_map, hb]; rfl)
  rw [Addr.add_lit] at hc
  have hm := List.mem_of_getElem? hb
  exact ⟨g, 0, some ⟨b.g, 0, none⟩, b.c, rfl, hc, (h.at_ b hm).at_, hs b hm⟩

/-- The document's disk: its block, its two rows, the sectors, what waits. -/
structure Rk where
  r : Nat
  v : Value
  vw : Value
  S : List Bx
  V : List (Nat × Bx)
def vcells (V : List (Nat × Bx)) : List Value := V.flatMap fun x => [.int .i64 (x.1 : Int), x.2.v]
theorem vcells_length (V : List (Nat × Bx)) : (vcells V).length = V.length * 2 := by
  induction V with
  | nil => rfl
  | cons x V ih => simp [vcells] at ih ⊢; omega
theorem vcells_get (V : List (Nat × Bx)) (i : Nat) (x : Nat × Bx) (h : V[i]? = some x) : (vcells V)[2 * i]? = some (.int .i64 (x.1 : Int)) ∧ (vcells V)[2 * i + 1]? = some x.2.v := by
  induction V generalizing i with
  | nil => simp at h
  | cons y V ih =>
    cases i with
    | zero => simp at h; subst h; exact ⟨rfl, rfl⟩
    | succ i =>
      have e : 2 * (i + 1) = 2 * i + 1 + 1 := by omega
      rw [e]
      exact ih i (by simpa using h)
theorem vcells_snoc (V : List (Nat × Bx)) (x : Nat × Bx) : vcells (V ++ [x]) = vcells V ++ [.int .i64 (x.1 : Int), x.2.v] := by simp [vcells]
def rfoot (q : Rk) (i : Nat) : Prop := i = q.r ∨ q.v.ownBlock = some i ∨ q.vw.ownBlock = some i ∨ (∃ b ∈ q.S, b.g = i) ∨ ∃ x ∈ q.V, x.2.g = i
structure RefAt (w : World) (lo n size : Nat) (q : Rk) : Prop where
  head : w.heap[q.r]? = some (.cells #[q.v, q.vw] 127 (0, 0))
  low : lo ≤ q.r
  rows : RowAt w lo q.v q.S
  wrow : w.ownsRow lo 289 2 q.vw q.V.length (vcells q.V)
  wat : ∀ x ∈ q.V, BxAt w lo x.2
  nv : ∀ x ∈ q.V, ∀ b ∈ q.S, x.2.g ≠ b.g
  shape : Shape n size
  len : q.S.length = n
  sz : ∀ b ∈ q.S, b.xs.length = size
  wsz : ∀ x ∈ q.V, x.1 < n ∧ x.2.xs.length = size
section
variable {w w' : World} {lo n size : Nat} {q : Rk}
theorem RefAt.lt (h : RefAt w lo n size q) : ∀ i, rfoot q i → lo ≤ i ∧ i < w.heap.size := by
  rintro i (rfl | e | e | ⟨b, hb, rfl⟩ | ⟨x, hx, rfl⟩)
  · exact ⟨h.low, row_lt h.head⟩
  · obtain ⟨h1, c, h2⟩ := own_block h.rows.row i e; exact ⟨h1, row_lt h2⟩
  · obtain ⟨h1, c, h2⟩ := own_block h.wrow i e; exact ⟨h1, row_lt h2⟩
  · exact ⟨(h.rows.at_ b hb).blk.1, (h.rows.at_ b hb).lt⟩
  · exact ⟨(h.wat x hx).blk.1, (h.wat x hx).lt⟩
theorem RefAt.kept {T : Nat → Prop} (h : RefAt w lo n size q) (hk : Kept w w' T) (hT : ∀ i, rfoot q i → ¬ T i) : RefAt w' lo n size q :=
  ⟨hk.at h.head (hT _ (.inl rfl)), h.low, h.rows.off hk (fun g e => hT g (.inr (.inl e))) (fun b hb => hT _ (.inr (.inr (.inr (.inl ⟨b, hb, rfl⟩))))), owns_off h.wrow hk (fun g e => hT g (.inr (.inr (.inl e)))), fun x hx => (h.wat x hx).off hk (hT _ (.inr (.inr (.inr (.inr ⟨x, hx, rfl⟩))))), h.nv, h.shape, h.len, h.sz, h.wsz⟩
theorem RefAt.grown (h : RefAt w lo n size q) (hg : w.grownBy w' none) : RefAt w' lo n size q := h.kept (Kept.new hg (fun _ => False)) (fun _ _ => id)
theorem RefAt.c0 (h : RefAt w lo n size q) : w.cell? ⟨q.r, 0, none⟩ = some q.v := cell_row (l := [q.v, q.vw]) h.head 0
theorem RefAt.c1 (h : RefAt w lo n size q) : w.cell? ⟨q.r, 1, none⟩ = some q.vw := cell_row (l := [q.v, q.vw]) h.head 1
theorem RefAt.free (h : RefAt w lo n size q) (j : Nat) : w.frozen? ⟨q.r, j, none⟩ = false := free_row h.head j
/-- Its row of sectors, as a value. -/
theorem RefAt.vform (h : RefAt w lo n size q) : ∃ g cap, q.v = .slice (some ⟨g, 0, none⟩) n cap := by
  obtain ⟨ao, cap, hv, hao, -, -⟩ := own_form h.rows.row
  rw [h.len] at hv hao
  obtain ⟨g, rfl⟩ := hao (by have := h.shape.n0; omega)
  exact ⟨g, cap, hv⟩
theorem RefAt.sec (h : RefAt w lo n size q) {g cap s : Nat} (hv : q.v = .slice (some ⟨g, 0, none⟩) n cap) {b : Bx} (hs : q.S[s]? = some b) : w.cell? ⟨g, s, none⟩ = some (.slice (some ⟨b.g, 0, none⟩) size b.c) := by
  have hc := h.rows.row.cells (g := g) (by rw [hv]; rfl) s b.v (by rw [List.getElem?_map, hs]; rfl)
  rw [Addr.add_lit, Nat.zero_add, Bx.v, h.sz b (List.mem_of_getElem? hs)] at hc
  exact hc
theorem RefAt.get (h : RefAt w lo n size q) {s : Nat} (hs : s < n) : ∃ b, q.S[s]? = some b := ⟨q.S[s]'(by rw [h.len]; exact hs), List.getElem?_eq_getElem _⟩
theorem RefAt.wform (h : RefAt w lo n size q) : ∃ ao cap, q.vw = .slice ao q.V.length cap ∧ (0 < q.V.length → ∃ g, ao = some ⟨g, 0, none⟩) := by
  obtain ⟨ao, cap, hv, hao, -, -⟩ := own_form h.wrow
  exact ⟨ao, cap, hv, hao⟩
end
end Go.Proofs.YtonokaelbpfjnabGreatDoor
/- The document's twin, May and Image. -/
namespace Go.Proofs.YtonokaelbpfjnabGreatDoor
open Go.RowKit Ap
attribute [local go_sem ↓] Go.wp_at_zero Go.wp_at_succ

theorem cell_1 {w : World} {u : Value} {t : TypeId} : ∀ j x, [u][j]? = some x → (w.alloc (.cells #[u] t)).cell? ((⟨w.heap.size, 0, none⟩ : Addr).add j) = some x := by
  intro j x h
  rw [Addr.add_lit, Nat.zero_add, cell_of_row _ _ j #[u] t (0, 0) (heap_alloc_new w _)]
  simpa using h
/-- The document's May. -/
theorem mayR_any (n size : Int) (w : World) : Calls Tryz.prog 40 #[.int .i64 n, .int .i64 size] w fun e w' => e = .returned (.bool (mayB n size)) ∧ w' = w := by
  by_cases h : 64 ≤ size ∧ size ≤ 4096
  · obtain ⟨h3, h4⟩ := h
    by_cases hb : p2 size = true
    · have hb2 : bits .and .i64 size (size - 1) = 0 := by
        unfold p2 at hb
        have := of_decide_eq_true hb
        rwa [show IntKind.i64.wrap (size - 1) = size - 1 by rw [IntKind.wrap_i64]; omega] at this
      by_cases h1 : 1 ≤ n
      · by_cases h2 : n ≤ 65536
        · have hlo : 0 ≤ n * size := Int.mul_nonneg (by omega) (by omega)
          have hhi : n * size ≤ 65536 * 4096 := Int.mul_le_mul h2 h4 (by omega) (by omega)
          have hw : wrap64 (n * size) = n * size := by unfold wrap64; omega
          have e : mayB n size = decide (n * size ≤ 67108864) := by simp [mayB, h1, h2, h3, h4, hb]
          rw [e]
          clear e hb
          go_enter Tryz.func40, Tryz.ntmps40
          go_wp2
          go_ret
          exact ⟨by simp, rfl⟩
        · have e : mayB n size = false := by simp [mayB, h2]
          rw [e]
          clear e hb
          go_enter Tryz.func40, Tryz.ntmps40
          go_wp2
          go_ret
          exact ⟨rfl, rfl⟩
      · have e : mayB n size = false := by simp [mayB, h1]
        rw [e]
        clear e hb
        go_enter Tryz.func40, Tryz.ntmps40
        go_wp2
        go_ret
        exact ⟨rfl, rfl⟩
    · have hb0 : p2 size = false := by simpa using hb
      have hb2 : ¬ bits .and .i64 size (size - 1) = 0 := by
        intro e
        apply hb
        unfold p2
        rw [show IntKind.i64.wrap (size - 1) = size - 1 by rw [IntKind.wrap_i64]; omega]
        exact decide_eq_true e
      have e : mayB n size = false := by simp [mayB, hb0]
      rw [e]
      have g2 : (bits .and .i64 size (size - 1) == 0) = false := by simpa using hb2
      have g3 : decide (bits .and .i64 size (size - 1) = 0) = false := by simpa using hb2
      clear e hb hb0
      go_enter Tryz.func40, Tryz.ntmps40
      go_wp2
      go_ret
      exact ⟨rfl, rfl⟩
  · have e : mayB n size = false := by
      simp only [mayB]
      by_cases a3 : 64 ≤ size
      · by_cases a4 : size ≤ 4096
        · exact absurd ⟨a3, a4⟩ h
        · simp [a4]
      · simp [a3]
    rw [e]
    by_cases a3 : 64 ≤ size
    · by_cases a4 : size ≤ 4096
      · exact absurd ⟨a3, a4⟩ h
      · clear h e
        go_enter Tryz.func40, Tryz.ntmps40
        go_wp2
        go_ret
        exact ⟨rfl, rfl⟩
    · clear h e
      go_enter Tryz.func40, Tryz.ntmps40
      go_wp2
      go_ret
      exact ⟨rfl, rfl⟩

end Go.Proofs.YtonokaelbpfjnabGreatDoor
/- The document's disk: what it is asked. -/
namespace Go.Proofs.YtonokaelbpfjnabGreatDoor
open Go.RowKit Ap
attribute [local go_sem ↓] Go.wp_at_zero Go.wp_at_succ

section
variable {w : World} {lo n size : Nat} {q : Rk} {r : Nat}
theorem rsectors_any (hr : q.r = r) (h : RefAt w lo n size q) : Calls Tryz.prog 78 #[.pointer (some ⟨r, 0, none⟩)] w fun e w' => e = .returned (.int .i64 (n : Int)) ∧ w' = w := by
  obtain ⟨g, cap, hv⟩ := h.vform
  have c0 := h.c0
  rw [hv, hr] at c0
  clear h hv hr
  go_enter Tryz.func78, Tryz.ntmps78
  go_wp2
  go_ret
  exact ⟨rfl, rfl⟩
theorem rsize_any (hr : q.r = r) (h : RefAt w lo n size q) : Calls Tryz.prog 82 #[.pointer (some ⟨r, 0, none⟩)] w fun e w' => e = .returned (.int .i64 (size : Int)) ∧ w' = w := by
  obtain ⟨g, cap, hv⟩ := h.vform
  have n0 := h.shape.n0
  obtain ⟨b, hb⟩ := h.get (s := 0) (by omega)
  have c0 := h.c0
  have c1 := h.sec hv hb
  rw [hv, hr] at c0
  have m0 : (0 : Int) < (n : Int) := by omega
  clear h hv hr hb
  go_enter Tryz.func82, Tryz.ntmps82
  go_wp2
  go_ret
  exact ⟨rfl, rfl⟩
end
end Go.Proofs.YtonokaelbpfjnabGreatDoor
/- What a crash makes of the sectors, row by row. -/
namespace Go.Proofs.YtonokaelbpfjnabGreatDoor
open Go.RowKit Ap

def stlR (L : Nat → Nat) (P : List Pr) (R : List (List Nat)) : Nat → List (List Nat)
  | 0 => R
  | j + 1 => match P[j]? with
    | some x => (stlR L P R j).modify x.1 (over (x.2.take (L j)))
    | none => stlR L P R j
theorem stlR_succ (L : Nat → Nat) (P : List Pr) (R : List (List Nat)) (j : Nat) (x : Pr) (h : P[j]? = some x) : stlR L P R (j + 1) = (stlR L P R j).modify x.1 (over (x.2.take (L j))) := by
  rw [stlR, h]
theorem secs_splice {n size s : Nat} {D ys : List Nat} (hD : D.length = n * size) (hs : s < n) (hy : ys.length ≤ size) : secs n size (splice D (s * size) ys) = (secs n size D).modify s (over ys) := by
  apply List.ext_getElem?
  intro i
  rw [List.getElem?_modify]
  by_cases hi : i < n
  · rw [secs_get _ _ _ _ hi, secs_get _ _ _ _ hi]
    by_cases h : s = i
    · subst h
      rw [secOf_splice_same hD hs hy]; simp
    · rw [secOf_splice_other hD hs hy h]; simp [h]
  · rw [List.getElem?_eq_none (by rw [secs_length]; omega), List.getElem?_eq_none (by rw [secs_length]; omega)]; rfl
theorem secs_stl {n size : Nat} {L : Nat → Nat} {D : List Nat} {W : List Wt} (hD : D.length = n * size) (hW : Fits n size W) (j : Nat) : secs n size (stl size L D W j) = stlR L (abs W) (secs n size D) j := by
  induction j with
  | zero => rfl
  | succ j ih =>
    rw [stl, stlR, abs, List.getElem?_map]
    cases hx : W[j]? with
    | none => simpa [abs] using ih
    | some x =>
      obtain ⟨h1, h2⟩ := hW x (List.mem_of_getElem? hx)
      simp only [Option.map_some]
      show secs n size (splice (stl size L D W j) (x.sec * size) (x.xs.take (L j))) = _
      rw [secs_splice (stl_length hD hW j) h1 (by simp [h2]; omega), ih]
      rfl
theorem stlR_congr {L L' : Nat → Nat} {P : List Pr} {R : List (List Nat)} (j : Nat) (h : ∀ i, i < j → L i = L' i) : stlR L P R j = stlR L' P R j := by
  induction j with
  | zero => rfl
  | succ j ih =>
    rw [stlR, stlR, ih (fun i hi => h i (by omega)), h j (by omega)]
end Go.Proofs.YtonokaelbpfjnabGreatDoor
/- The document's Read. -/
namespace Go.Proofs.YtonokaelbpfjnabGreatDoor
open Go.RowKit Ap
attribute [local go_sem ↓] Go.wp_at_zero Go.wp_at_succ

def lastP (P : List Pr) (s : Nat) : Option (List Nat) := P.foldl (fun r x => if s = x.1 then some x.2 else r) none
theorem fold_skip (l : List Pr) (s : Nat) (r : Option (List Nat)) (h : ∀ x ∈ l, x.1 ≠ s) : l.foldl (fun r x => if s = x.1 then some x.2 else r) r = r := by
  induction l generalizing r with
  | nil => rfl
  | cons x l ih =>
    rw [List.foldl_cons, if_neg (fun e => h x (by simp) e.symm)]
    exact ih r (fun y hy => h y (by simp [hy]))
theorem lastP_none {P : List Pr} {s : Nat} (h : ∀ (k : Nat) (x : Pr), P[k]? = some x → x.1 ≠ s) : lastP P s = none :=
  fold_skip P s none (fun x hx => by obtain ⟨k, hk⟩ := List.getElem?_of_mem hx; exact h k x hk)
theorem lastP_some {P : List Pr} {s j : Nat} {y : List Nat} (hj : P[j]? = some (s, y)) (h : ∀ (k : Nat) (x : Pr), j < k → P[k]? = some x → x.1 ≠ s) : lastP P s = some y := by
  have e : P = P.take j ++ [(s, y)] ++ P.drop (j + 1) := by rw [← take_snoc P j _ hj, List.take_append_drop]
  rw [lastP, e, List.foldl_append, List.foldl_append]
  rw [fold_skip]
  · simp
  · intro x hx
    obtain ⟨k, hk⟩ := List.getElem?_of_mem hx
    rw [List.getElem?_drop] at hk
    exact h (j + 1 + k) x (by omega) hk
/-- What the document's disk finds in a sector. -/
def finds (P : List Pr) (R : List (List Nat)) (s : Nat) : List Nat := (lastP P s).getD (R[s]?.getD [])
def absV (V : List (Nat × Bx)) : List Pr := V.map (fun x => (x.1, x.2.xs))
theorem found_ref {n size : Nat} {D : List Nat} {W : List Wt} {P : List Pr} {R : List (List Nat)} {s : Nat} (hs : s < n) (hW : abs W = P) (hD : secs n size D = R) : found size D W s = finds P R s := by
  have key : ∀ V : List Wt, found size D V s = ((abs V).foldl (fun r x => if s = x.1 then some x.2 else r) none).getD (secOf size D s) := by
    intro V
    have e : (abs V).foldl (fun r x => if s = x.1 then some x.2 else r) none = (lastOf V s).map (fun x => x.xs) := by
      induction V using snoc_ind with
      | h0 => rfl
      | h1 l x ih =>
        rw [lastOf_snoc, abs, List.map_append, List.foldl_append]
        simp only [List.map_cons, List.map_nil, List.foldl_cons, List.foldl_nil]
        by_cases hx : s = x.sec
        · rw [if_pos hx, if_pos hx]; rfl
        · rw [if_neg hx, if_neg hx]; exact ih
    rw [e, found]
    cases lastOf V s <;> rfl
  rw [key, hW, finds, lastP, ← hD, secs_get _ _ _ _ hs]
  rfl
section
variable {w : World} {lo n size : Nat} {q : Rk} {r : Nat}
theorem RefAt.wcell (h : RefAt w lo n size q) {g cap m j : Nat} (hv : q.vw = .slice (some ⟨g, 0, none⟩) m cap) {x : Nat × Bx} (hx : q.V[j]? = some x) : w.cell? ⟨g, j * 2, none⟩ = some (.int .i64 (x.1 : Int)) ∧ w.cell? ⟨g, j * 2 + 1, none⟩ = some (.slice (some ⟨x.2.g, 0, none⟩) size x.2.c) := by
  obtain ⟨h1, h2⟩ := vcells_get q.V j x hx
  have c1 := h.wrow.cells (g := g) (by rw [hv]; rfl) _ _ h1
  have c2 := h.wrow.cells (g := g) (by rw [hv]; rfl) _ _ h2
  rw [Addr.add_lit, Nat.zero_add] at c1 c2
  rw [Nat.mul_comm j 2]
  rw [Bx.v, (h.wsz x (List.mem_of_getElem? hx)).2] at c2
  exact ⟨c1, c2⟩
end
end Go.Proofs.YtonokaelbpfjnabGreatDoor
/- A disk beside the document's; two such pairs. -/
namespace Go.Proofs.YtonokaelbpfjnabGreatDoor
open Go.RowKit Ap

structure Pr2 where
  k : Dk
  D : List Nat
  W : List Wt
  q : Rk
/-- Both lie there, and neither knows of the other. -/
structure Pair0 (w0 w : World) (n size : Nat) (p : Pr2) : Prop where
  d : DkS w0 w p.k n size p.D p.W
  r : RefAt w w0.heap.size n size p.q
  apart : ∀ i, foot p.k p.W i → ¬ rfoot p.q i
/-- And they hold the same. -/
structure Same (n size : Nat) (p : Pr2) : Prop where
  rows : secs n size p.D = p.q.S.map Bx.xs
  waits : abs p.W = absV p.q.V
structure Pair (w0 w : World) (n size : Nat) (p : Pr2) : Prop where
  z : Pair0 w0 w n size p
  same : Same n size p
structure PMoved (w w' : World) (p p' : Pr2) : Prop where
  kd : p'.k.d = p.k.d
  qr : p'.q.r = p.q.r
  own : ∀ i, p'.k.own i → p.k.own i ∨ w.heap.size ≤ i
  ft : ∀ i, foot p'.k p'.W i → foot p.k p.W i ∨ w.heap.size ≤ i
  rf : ∀ i, rfoot p'.q i → rfoot p.q i ∨ w.heap.size ≤ i
  kept : Kept w w' (fun i => p.k.own i ∨ rfoot p.q i)
/-- From w and p to w' and p'. -/
structure Went (w0 w w' : World) (n size : Nat) (p p' : Pr2) : Prop where
  z : Pair0 w0 w' n size p'
  mv : PMoved w w' p p'
  low : w0.heap.size ≤ w.heap.size
structure Two (w0 w : World) (n size : Nat) (a b : Pr2) : Prop where
  pa : Pair w0 w n size a
  pb : Pair w0 w n size b
  sep : Sep a.k a.W b.k b.W
  ab : ∀ i, foot a.k a.W i → ¬ rfoot b.q i
  ba : ∀ i, foot b.k b.W i → ¬ rfoot a.q i
  rr : ∀ i, rfoot a.q i → ¬ rfoot b.q i
section
variable {w0 w w' w'' : World} {n size : Nat} {a a' b p p' : Pr2}
theorem Pair0.grown (h : Pair0 w0 w n size p) (hg : w.grownBy w' none) : Pair0 w0 w' n size p := ⟨h.d.then hg, h.r.grown hg, h.apart⟩
theorem Pair.grown (h : Pair w0 w n size p) (hg : w.grownBy w' none) : Pair w0 w' n size p := ⟨h.z.grown hg, h.same⟩
theorem Pair.len (h : Pair w0 w n size p) : p.q.V.length = p.W.length := by
  have := congrArg List.length h.same.waits
  simpa [abs, absV] using this.symm
theorem Went.refl (h : Pair0 w0 w n size p) : Went w0 w w n size p p := ⟨h, ⟨rfl, rfl, fun _ e => .inl e, fun _ e => .inl e, fun _ e => .inl e, Kept.refl _ _⟩, h.d.grown.size⟩
theorem Went.new (h : Went w0 w w' n size p p') (hg : w'.grownBy w'' none) : Went w0 w w'' n size p p' :=
  ⟨h.z.grown hg, ⟨h.mv.kd, h.mv.qr, h.mv.own, h.mv.ft, h.mv.rf, h.mv.kept.trans (Kept.new hg _) (fun _ _ e => e)⟩, h.low⟩
/-- A block that came later is written. -/
theorem Went.row {g : Nat} (h : Went w0 w w' n size p p') (hg : w'.grownBy w'' (some g)) (hn : w.heap.size ≤ g) (h1 : ¬ foot p'.k p'.W g) (h2 : ¬ rfoot p'.q g) : Went w0 w w'' n size p p' := by
  have hk : Kept w' w'' (fun i => i = g) := Kept.of hg (fun j e _ => (Option.some.inj e).symm)
  exact ⟨⟨⟨h.z.d.disk.kept hk (fun i hi e => h1 (e ▸ hi)), h.z.d.own, kept_new h.z.d.grown hk (fun i e => by have e : i = g := e; have := h.low; omega)⟩, h.z.r.kept hk (fun i hi e => h2 (e ▸ hi)), h.z.apart⟩, ⟨h.mv.kd, h.mv.qr, h.mv.own, h.mv.ft, h.mv.rf, h.mv.kept.trans hk (fun i hi e => by have e : i = g := e; omega)⟩, h.low⟩
/-- The disk goes on. -/
theorem Went.disk {k' : Dk} {D' : List Nat} {W' : List Wt} (h : Went w0 w w' n size p p') (hd : DkS w0 w'' k' n size D' W') (hm : Moved w' w'' p'.k k' p'.W W') : Went w0 w w'' n size p ⟨k', D', W', p'.q⟩ := by
  have hz := h.mv.kept.size
  have hft : ∀ i, foot k' W' i → foot p'.k p'.W i ∨ w'.heap.size ≤ i := by
    rintro i (e | ⟨x, hx, rfl⟩)
    · exact (hm.own i e).imp .inl id
    · rcases hm.blk x hx with ⟨y, hy, e⟩ | e
      · exact Or.inl (.inr ⟨y, hy, e⟩)
      · exact Or.inr e
  refine ⟨⟨hd, h.z.r.kept hm.kept (fun i hi e => h.z.apart i (.inl e) hi), ?_⟩, ⟨hm.d.trans h.mv.kd, h.mv.qr, ?_, ?_, h.mv.rf, h.mv.kept.trans hm.kept ?_⟩, h.low⟩
  · intro i hi hr
    rcases hft i hi with e | e
    · exact h.z.apart i e hr
    · have := (h.z.r.lt i hr).2; omega
  · intro i hi
    rcases hm.own i hi with e | e
    · exact h.mv.own i e
    · exact Or.inr (by omega)
  · intro i hi
    rcases hft i hi with e | e
    · exact h.mv.ft i e
    · exact Or.inr (by omega)
  · intro i hi e
    rcases h.mv.own i e with e | e
    · exact Or.inl e
    · omega
/-- The document's disk goes on. -/
theorem Went.ref {q' : Rk} (h : Went w0 w w' n size p p') (hr : q'.r = p'.q.r) (hq : RefAt w'' w0.heap.size n size q') (hk : Kept w' w'' (rfoot p'.q)) (hf : ∀ i, rfoot q' i → rfoot p'.q i ∨ w'.heap.size ≤ i) : Went w0 w w'' n size p ⟨p'.k, p'.D, p'.W, q'⟩ := by
  have hz := h.mv.kept.size
  refine ⟨⟨⟨h.z.d.disk.kept hk (fun i hi e => h.z.apart i hi e), h.z.d.own, kept_new h.z.d.grown hk (fun i e => (h.z.r.lt i e).1)⟩, hq, ?_⟩, ⟨h.mv.kd, hr.trans h.mv.qr, h.mv.own, h.mv.ft, ?_, h.mv.kept.trans hk ?_⟩, h.low⟩
  · intro i hi e
    rcases hf i e with e | e
    · exact h.z.apart i hi e
    · have := h.z.d.disk.lt i hi; omega
  · intro i hi
    rcases hf i hi with e | e
    · exact h.mv.rf i e
    · exact Or.inr (by omega)
  · intro i hi e
    rcases h.mv.rf i e with e | e
    · exact Or.inr e
    · omega
theorem Two.symm (h : Two w0 w n size a b) : Two w0 w n size b a := ⟨h.pb, h.pa, h.sep.symm, h.ba, h.ab, fun i x y => h.rr i y x⟩
theorem Two.grown (h : Two w0 w n size a b) (hg : w.grownBy w' none) : Two w0 w' n size a b := ⟨h.pa.grown hg, h.pb.grown hg, h.sep, h.ab, h.ba, h.rr⟩
theorem Two.moved (h : Two w0 w n size a b) (ha : Pair w0 w' n size a') (hm : PMoved w w' a a') : Two w0 w' n size a' b := by
  have hf : ∀ i, foot b.k b.W i → i < w.heap.size := h.pb.z.d.disk.lt
  have hr : ∀ i, rfoot b.q i → i < w.heap.size := fun i hi => (h.pb.z.r.lt i hi).2
  refine ⟨ha, ⟨⟨⟨h.pb.z.d.disk.kept hm.kept ?_, h.pb.z.d.own, ha.z.d.grown⟩, h.pb.z.r.kept hm.kept ?_, h.pb.z.apart⟩, h.pb.same⟩, ⟨?_, ?_⟩, ?_, ?_, ?_⟩
  · rintro i hi (e | e)
    · exact h.sep.l i e hi
    · exact h.ba i hi e
  · rintro i hi (e | e)
    · exact h.ab i (.inl e) hi
    · exact h.rr i e hi
  · intro i hi hb
    rcases hm.own i hi with e | e
    · exact h.sep.l i e hb
    · have := hf i hb; omega
  · intro i hi hb
    rcases hm.ft i hb with e | e
    · exact h.sep.r i hi e
    · have := hf i (.inl hi); omega
  · intro i hi hb
    rcases hm.ft i hi with e | e
    · exact h.ab i e hb
    · have := hr i hb; omega
  · intro i hi hb
    rcases hm.rf i hb with e | e
    · exact h.ba i hi e
    · have := hf i hi; omega
  · intro i hi hb
    rcases hm.rf i hi with e | e
    · exact h.rr i e hb
    · have := hr i hb; omega
theorem Pair.copied {w1 w2 : World} {k' : Dk} {q' : Rk} (h : Pair w0 w n size p) (g1 : w.grownBy w1 none) (hk : DiskAt w1 k' n size p.D p.W) (hown : ∀ i, k'.own i → w.heap.size ≤ i)
    (g2 : w1.grownBy w2 none) (hq : RefAt w2 w1.heap.size n size q') (hS : q'.S.map Bx.xs = p.q.S.map Bx.xs) (hV : absV q'.V = absV p.q.V) :
    Two w0 w2 n size p ⟨k', p.D, p.W, q'⟩ := by
  have h2 := h.grown (grown_trans g1 g2)
  have l0 := h.z.d.grown.size
  have l1 : ∀ i, foot k' p.W i → i < w1.heap.size := hk.lt
  have l2 : ∀ i, foot p.k p.W i → i < w.heap.size := h.z.d.disk.lt
  have l3 : ∀ i, rfoot p.q i → i < w.heap.size := fun i hi => (h.z.r.lt i hi).2
  have hnew : ∀ i, rfoot q' i → w1.heap.size ≤ i := fun i hi => (hq.lt i hi).1
  have gs := g1.size
  have hq0 : RefAt w2 w0.heap.size n size q' := ⟨hq.head, Nat.le_trans (by omega) hq.low, hq.rows.mono (by omega), owns_mono hq.wrow (by omega), fun x hx => (hq.wat x hx).mono (by omega), hq.nv, hq.shape, hq.len, hq.sz, hq.wsz⟩
  refine ⟨h2, ⟨⟨⟨hk.grown g2, fun i hi => Nat.le_trans l0 (hown i hi), h2.z.d.grown⟩, hq0, ?_⟩, ⟨h.same.rows.trans hS.symm, h.same.waits.trans hV.symm⟩⟩, ⟨?_, ?_⟩, ?_, ?_, ?_⟩
  · intro i hi hr
    have := l1 i hi; have := hnew i hr; omega
  · rintro i hi (hf | ⟨x, hx, rfl⟩)
    · have := hown i hf; have := l2 i (.inl hi); omega
    · exact h.z.d.disk.blk_ne hx hi
  · intro i hi hf
    have := hown i hi; have := l2 i hf; omega
  · intro i hi hr
    have := l2 i hi; have := hnew i hr; omega
  · rintro i (hi | ⟨x, hx, rfl⟩) hr
    · have := hown i hi; have := l3 i hr; omega
    · exact h.z.apart _ (.inr ⟨x, hx, rfl⟩) hr
  · intro i hi hr
    have := l3 i hi; have := hnew i hr; omega
theorem RefAt.other_off {lo : Nat} {q : Rk} (h : RefAt w lo n size q) {A : Nat} {c : Array Value} {t : TypeId} {fr : Nat × Nat} (hA : w.heap[A]? = some (.cells c t fr)) (h1 : t ≠ 127) (h2 : t ≠ 39) (h3 : t ≠ 289) (h4 : t ≠ 5) : ¬ rfoot q A := by
  rintro (rfl | e | e | ⟨b, hb, rfl⟩ | ⟨x, hx, rfl⟩)
  · rw [h.head] at hA; simp at hA; exact h1 hA.2.1.symm
  · obtain ⟨_, c2, q2⟩ := own_block h.rows.row A e; rw [q2] at hA; simp at hA; exact h2 hA.2.1.symm
  · obtain ⟨_, c2, q2⟩ := own_block h.wrow A e; rw [q2] at hA; simp at hA; exact h3 hA.2.1.symm
  · obtain ⟨_, c2, q2⟩ := (h.rows.at_ b hb).blk; rw [q2] at hA; simp at hA; exact h4 hA.2.1.symm
  · obtain ⟨_, c2, q2⟩ := (h.wat x hx).blk; rw [q2] at hA; simp at hA; exact h4 hA.2.1.symm
/-- What stays, through a move of a pair. -/
theorem PMoved.at {A : Nat} {o : Obj} (hm : PMoved w w' p p') (hA : w.heap[A]? = some o) (h1 : ¬ p.k.own A) (h2 : ¬ rfoot p.q A) : w'.heap[A]? = some o := hm.kept.at hA (by rintro (e | e); exact h1 e; exact h2 e)
end
end Go.Proofs.YtonokaelbpfjnabGreatDoor
/- A byte of a sector of the document's disk is written. -/
namespace Go.Proofs.YtonokaelbpfjnabGreatDoor
open Go.RowKit Ap

theorem over_step (ys xs : List Nat) (k y : Nat) (hy : ys[k]? = some y) (hk : k < xs.length) : (over (ys.take k) xs).set k y = over (ys.take (k + 1)) xs := by
  have hky := (List.getElem?_eq_some_iff.1 hy).1
  have h1 : (ys.take k).length = k := by simp; omega
  have h2 : (ys.take (k + 1)).length = k + 1 := by simp; omega
  apply List.ext_getElem?
  intro i
  rw [List.getElem?_set, over_get, over_get, h1, h2, over_length _ _ (by omega)]
  by_cases hik : k = i
  · subst hik
    rw [if_pos rfl, if_pos hk, if_pos (by omega), List.getElem?_take, if_pos (by omega), hy]
  · rw [if_neg hik]
    by_cases hi : i < k
    · rw [if_pos hi, if_pos (by omega), List.getElem?_take, List.getElem?_take, if_pos hi, if_pos (by omega)]
    · rw [if_neg hi, if_neg (by omega)]
theorem set_self {α : Type} (l : List α) (s : Nat) (x : α) (h : l[s]? = some x) : l.set s x = l := by
  apply List.ext_getElem?
  intro i
  rw [List.getElem?_set]
  by_cases hi : s = i
  · subst hi
    rw [if_pos rfl, if_pos (List.getElem?_eq_some_iff.1 h).1, h]
  · rw [if_neg hi]
theorem set_map {α β : Type} (f : α → β) (l : List α) (s : Nat) (x y : α) (h : l[s]? = some x) (e : f y = f x) : (l.set s y).map f = l.map f := by
  rw [List.map_set, e, set_self]
  rw [List.getElem?_map, h]; rfl
theorem set_modify (l : List (List Nat)) (s : Nat) (x : List Nat) (f : List Nat → List Nat) (h : l[s]? = some x) : l.set s (f x) = l.modify s f := by
  apply List.ext_getElem?
  intro i
  rw [List.getElem?_set, List.getElem?_modify]
  by_cases hi : s = i
  · subst hi
    rw [if_pos rfl, if_pos (List.getElem?_eq_some_iff.1 h).1, h]; simp
  · rw [if_neg hi]; simp [hi]
def Rk.withS (q : Rk) (S : List Bx) : Rk := ⟨q.r, q.v, q.vw, S, q.V⟩
theorem rfoot_withS {q : Rk} {S : List Bx} (h : S.map Bx.g = q.S.map Bx.g) (i : Nat) : rfoot (q.withS S) i ↔ rfoot q i := by
  have e : (∃ b ∈ S, b.g = i) ↔ ∃ b ∈ q.S, b.g = i := by
    have : i ∈ S.map Bx.g ↔ i ∈ q.S.map Bx.g := by rw [h]
    simpa using this
  simp only [rfoot, Rk.withS, e]
section
variable {w : World} {lo n size : Nat} {q : Rk}
theorem RefAt.put (h : RefAt w lo n size q) {s : Nat} {b : Bx} (hb : q.S[s]? = some b) (k y : Nat) :
    RefAt (w.setCell ⟨b.g, k, none⟩ (.int .u8 ((y : Nat) : Int))) lo n size (q.withS (q.S.set s ⟨b.g, b.c, b.xs.set k y⟩)) ∧ w.grownBy (w.setCell ⟨b.g, k, none⟩ (.int .u8 ((y : Nat) : Int))) (some b.g) := by
  have hbm := List.mem_of_getElem? hb
  have hbx := h.rows.at_ b hbm
  have hst := World.ownsRow.stored hbx k (.int .u8 ((y : Nat) : Int))
  have hk : Kept w (w.setCell ⟨b.g, k, none⟩ (.int .u8 ((y : Nat) : Int))) (fun i => i = b.g) := Kept.of hst.2 (fun j e _ => (Option.some.inj e).symm)
  have hcur := hbx.blk.2
  have hl : (b.xs.set k y).length = b.xs.length := by simp
  have offt : ∀ {g : Nat} {cur : Array Value} {t : TypeId}, w.heap[g]? = some (.cells cur t (0, 0)) → t ≠ 5 → g ≠ b.g := by
    intro g cur t hg h5 e
    obtain ⟨c, hc⟩ := hcur
    rw [e, hc] at hg
    simp at hg
    exact h5 hg.2.symm
  have hset : (q.S.set s ⟨b.g, b.c, b.xs.set k y⟩).map Bx.g = q.S.map Bx.g := set_map _ _ _ b _ hb rfl
  have hsetv : (q.S.set s ⟨b.g, b.c, b.xs.set k y⟩).map Bx.v = q.S.map Bx.v := set_map _ _ _ b _ hb (by simp [Bx.v])
  have hmem : ∀ x ∈ q.S.set s ⟨b.g, b.c, b.xs.set k y⟩, x = ⟨b.g, b.c, b.xs.set k y⟩ ∨ (x ∈ q.S ∧ x.g ≠ b.g) := by
    intro x hx
    obtain ⟨i, hi⟩ := List.getElem?_of_mem hx
    rw [List.getElem?_set] at hi
    by_cases his : s = i
    · subst his
      rw [if_pos rfl, if_pos (List.getElem?_eq_some_iff.1 hb).1] at hi
      exact Or.inl (Option.some.inj hi).symm
    · rw [if_neg his] at hi
      refine Or.inr ⟨List.mem_of_getElem? hi, ?_⟩
      obtain ⟨i1, i2⟩ := List.getElem?_eq_some_iff.1 hi
      obtain ⟨s1, s2⟩ := List.getElem?_eq_some_iff.1 hb
      have key := List.pairwise_iff_getElem.1 h.rows.nd
      by_cases hlt : s < i
      · have := key s i s1 i1 hlt
        rw [i2, s2] at this
        exact fun e => this e.symm
      · have := key i s i1 s1 (by omega)
        rw [i2, s2] at this
        exact this
  refine ⟨⟨hk.at h.head (offt h.head (by decide)), h.low, ⟨?_, ?_, ?_⟩, owns_off h.wrow hk (fun g e => by obtain ⟨_, c, hc⟩ := own_block h.wrow g e; exact offt hc (by decide)), ?_, ?_, h.shape, ?_, ?_, h.wsz⟩, hst.2⟩
  · show World.ownsRow _ lo 39 1 q.v (q.S.set s _).length ((q.S.set s _).map Bx.v)
    rw [hsetv, List.length_set]
    exact owns_off h.rows.row hk (fun g e => by obtain ⟨_, c, hc⟩ := own_block h.rows.row g e; exact offt hc (by decide))
  · intro x hx
    rcases hmem x hx with rfl | ⟨h1, h2⟩
    · have := hst.1
      simp only [BxAt, Bx.v, hl]
      rw [bv, List.map_set]
      exact this
    · exact (h.rows.at_ x h1).off hk h2
  · have e1 : (q.S.map Bx.g).Pairwise (· ≠ ·) := by rw [List.pairwise_map]; exact h.rows.nd
    rw [← hset, List.pairwise_map] at e1
    exact e1
  · intro x hx
    exact (h.wat x hx).off hk (h.nv x hx b hbm)
  · intro x hx y' hy
    rcases hmem y' hy with rfl | ⟨h1, h2⟩
    · exact h.nv x hx b hbm
    · exact h.nv x hx y' h1
  · show (q.S.set s _).length = n
    rw [List.length_set]
    exact h.len
  · intro x hx
    rcases hmem x hx with rfl | ⟨h1, h2⟩
    · exact hl.trans (h.sz b hbm)
    · exact h.sz x h1
/-- Nothing waits any more. -/
theorem RefAt.calm (h : RefAt w lo n size q) : RefAt (w.setCell ⟨q.r, 1, none⟩ (.slice none 0 0)) lo n size ⟨q.r, q.v, .slice none 0 0, q.S, []⟩ ∧ w.grownBy (w.setCell ⟨q.r, 1, none⟩ (.slice none 0 0)) (some q.r) := by
  have gs := grown_setCell w q.r 1 (.slice none 0 0)
  have ks : Kept w (w.setCell ⟨q.r, 1, none⟩ (.slice none 0 0)) (fun i => i = q.r) := Kept.of gs (fun j e _ => (Option.some.inj e).symm)
  have offt : ∀ {g : Nat} {cur : Array Value} {t : TypeId}, w.heap[g]? = some (.cells cur t (0, 0)) → t ≠ 127 → g ≠ q.r := by
    intro g cur t hg h5 e
    rw [e, h.head] at hg
    simp at hg
    exact h5 hg.2.symm
  refine ⟨⟨?_, h.low, h.rows.off ks (fun g e => by obtain ⟨_, c, hc⟩ := own_block h.rows.row g e; exact offt hc (by decide)) (fun x hx => by obtain ⟨_, c, hc⟩ := (h.rows.at_ x hx).blk; exact offt hc (by decide)), World.ownsRow_nil _ _ _ _, by simp, by simp, h.shape, h.len, h.sz, by simp⟩, gs⟩
  have := heap_setCell_same w q.r 1 #[q.v, q.vw] 127 (.slice none 0 0) h.head
  simpa using this
end
end Go.Proofs.YtonokaelbpfjnabGreatDoor
/- The document's Crash. -/
namespace Go.Proofs.YtonokaelbpfjnabGreatDoor
open Go.RowKit Ap
attribute [local go_sem ↓] Go.wp_at_zero Go.wp_at_succ

theorem FatesAt.offT {w w' : World} {fo : Option Addr} {F : List (Int × Int)} {T : Nat → Prop} (h : FatesAt w fo F) (hk : Kept w w' T) (hT : ∀ a, fo = some a → 0 < F.length → ¬ T a.block) : FatesAt w' fo F := by
  intro j p hj
  obtain ⟨b, o, e, c1, c2⟩ := h j p hj
  have hl : 0 < F.length := Nat.lt_of_le_of_lt (Nat.zero_le _) (List.getElem?_eq_some_iff.1 hj).1
  have hb : w'.heap[b]? = w.heap[b]? := hk.block b (cell_lt c1) (hT ⟨b, o, none⟩ e hl)
  exact ⟨b, o, e, by rw [← c1]; simp [World.cell?, hb], by rw [← c2]; simp [World.cell?, hb]⟩
section
variable {w : World} {lo n size : Nat} {q : Rk} {r : Nat}
end
end Go.Proofs.YtonokaelbpfjnabGreatDoor
/- The document's Sync. -/
namespace Go.Proofs.YtonokaelbpfjnabGreatDoor
open Go.RowKit Ap
attribute [local go_sem ↓] Go.wp_at_zero Go.wp_at_succ

theorem fates_own {w : World} {B m cap : Nat} {vo : Option Addr} {F : List (Int × Int)} (h : w.ownsRow B 198 2 (.slice vo m cap) m (fcells F)) : FatesAt w vo F := by
  intro j p hj
  obtain ⟨a, b⟩ := fcells_get F j p hj
  have hm : 0 < m := by
    have h1 := h.1
    have h2 := (List.getElem?_eq_some_iff.1 a).1
    omega
  obtain ⟨ao, cc, e, hao, -, -⟩ := own_form h
  cases e
  obtain ⟨g, rfl⟩ := hao hm
  have c1 := h.cells rfl _ _ a
  have c2 := h.cells rfl _ _ b
  rw [Addr.add_lit] at c1 c2
  exact ⟨g, 0, rfl, c1, c2⟩
theorem fates_one {w : World} : FatesAt (w.alloc (.cells #[.int .i64 1, .int .i64 0] 198)) (some ⟨w.heap.size, 0, none⟩) [(1, 0)] :=
  fates_row (F := [(1, 0)]) (heap_alloc_new w _)
section
variable {w : World} {lo n size : Nat} {q : Rk} {r : Nat}
end
end Go.Proofs.YtonokaelbpfjnabGreatDoor
/- A call of no disk tells what it should. -/
namespace Go.Proofs.YtonokaelbpfjnabGreatDoor
open Go.RowKit Ap
attribute [local go_sem ↓] Go.wp_at_zero Go.wp_at_succ

/-- An operation's six cells. -/
def opV (o : Int × Int × Int × Int × Int) (fo : Option Addr) (m c : Nat) : Array Value := #[.int .i64 o.1, .int .i64 o.2.1, .int .i64 o.2.2.1, .int .i64 o.2.2.2.1, .int .i64 o.2.2.2.2, .slice fo m c]
theorem pick7 (x : Int) : x % 7 = 0 ∨ x % 7 = 1 ∨ x % 7 = 2 ∨ x % 7 = 3 ∨ x % 7 = 4 ∨ x % 7 = 5 ∨ x % 7 = 6 := by omega

end Go.Proofs.YtonokaelbpfjnabGreatDoor
/- A call of a disk that is there tells what it should: Read, Sync, what is asked, Image, Copy. -/
namespace Go.Proofs.YtonokaelbpfjnabGreatDoor
open Go.RowKit Ap
attribute [local go_sem ↓] Go.wp_at_zero Go.wp_at_succ

/-- What a call of one comes to. -/
def Told (w0 w w' : World) (n size : Nat) (p : Pr2) (e : Ending) : Prop := e = .returned (.bool true) ∧ ∃ p', Went w0 w w' n size p p' ∧ Same n size p' ∧ p'.W.length ≤ p.W.length + 1
theorem Told.still {w0 w w' : World} {n size : Nat} {p : Pr2} (h : Pair w0 w n size p) (hg : w.grownBy w' none) : Told w0 w w' n size p (.returned (.bool true)) := ⟨rfl, p, (Went.refl h.z).new hg, h.same, by omega⟩
section
variable {w0 w : World} {n size : Nat} {p : Pr2} {d r : Nat}
end
end Go.Proofs.YtonokaelbpfjnabGreatDoor
/- A call of a disk that is there tells what it should: Crash. -/
namespace Go.Proofs.YtonokaelbpfjnabGreatDoor
open Go.RowKit Ap
attribute [local go_sem ↓] Go.wp_at_zero Go.wp_at_succ

theorem FatesAt.front {w : World} {fo : Option Addr} {F G : List (Int × Int)} (h : FatesAt w fo (F ++ G)) : FatesAt w fo F := by
  intro j p hj
  refine h j p ?_
  rw [List.getElem?_append_left (List.getElem?_eq_some_iff.1 hj).1]
  exact hj
theorem cell_kept {w w' : World} {T : Nat → Prop} {a : Addr} {v : Value} (hk : Kept w w' T) (hc : w.cell? a = some v) (hT : ¬ T a.block) : w'.cell? a = some v := by
  have hb : w'.heap[a.block]? = w.heap[a.block]? := hk.block a.block (cell_lt hc) hT
  rw [← hc]; simp [World.cell?, hb]
section
variable {w0 w : World} {n size : Nat} {p : Pr2} {d r : Nat}
end
end Go.Proofs.YtonokaelbpfjnabGreatDoor
/- Rows of bytes that came in, opened. -/
namespace Go.Proofs.YtonokaelbpfjnabGreatDoor
open Go.ChangeShapes Go.WideShapes Go.ChangeAt Go.RowKit Go.Deep Ap

/-- Rows that came in. -/
def RowsIn (w : World) (ro : Option Addr) (R : List (List Nat)) : Prop := ∀ j xs, R[j]? = some xs → ∃ b o ao cap, ro = some ⟨b, o, none⟩ ∧ w.cell? ⟨b, o + j, none⟩ = some (.slice ao xs.length cap) ∧ At w ao xs ∧ (ao = none → xs.length = 0 ∧ cap = 0) ∧ xs.length ≤ 140737488355000
theorem RowsIn.at_ {w : World} {ro : Option Addr} {R : List (List Nat)} (h : RowsIn w ro R) : RowsAt w ro R := by
  intro j xs hj
  obtain ⟨b, o, ao, cap, h1, h2, h3, h4, h5⟩ := h j xs hj
  exact ⟨b, o, ao, cap, h1, h2, h3, by omega⟩
theorem RowsIn.grown {w w' : World} {ro : Option Addr} {R : List (List Nat)} (h : RowsIn w ro R) (hg : w.grownBy w' none) : RowsIn w' ro R := by
  intro j xs hj
  obtain ⟨b, o, ao, cap, h1, h2, h3, h4⟩ := h j xs hj
  exact ⟨b, o, ao, cap, h1, hg.cell h2 (by simp), h3.grown hg, h4⟩

theorem Tryz.cells5 : Tryz.prog.cellsOf 5 = 1 := by kernel_rfl
theorem Tryz.cells46 : Tryz.prog.cellsOf 39 = 1 := by kernel_rfl
theorem Tryz.bytes46 : Tryz.prog.bytesOf 39 = 24 := by kernel_rfl
theorem Tryz.bytes5 : Tryz.prog.bytesOf 5 = 1 := by kernel_rfl
section
variable {H : Type} {enc : TypeId × Value → H}
theorem addr_flat {w : World} {a : Addr} {ao : Option Addr} {n c : Nat} (h : w.cell? a = some (.slice ao n c)) : a = ⟨a.block, a.off, none⟩ := by
  have h2 : a.spot = none := by
    unfold World.cell? at h
    split at h
    · split at h
      · cases h
      · rename_i hs; simpa using hs
    · cases h
  cases a; simp_all
theorem open_bytes {w : World} {base fuel : Nat} {spare : Nat → Bool} {held : Bool} {cs : List Value} {x : DataW H × List MemPlace} (h : DataW.trod enc Tryz.prog w base spare held fuel 39 cs = some x) (hw : ∀ n ∈ x.1.weights Tryz.prog 39, n ≤ reachBytes) :
    ∃ bo cap b, cs = [.slice bo b.length cap] ∧ At w bo b ∧ (bo = none → b.length = 0 ∧ cap = 0) ∧ b.length ≤ 140737488355000 := by
  rcases open_ints Tryz.underlying39 Tryz.underlying5 Tryz.cells5 h with ⟨rfl, rfl⟩ | ⟨a, len, cap, zs, rfl, _, hl, hm, hz, rfl, hcell, hwf⟩
  · exact ⟨none, 0, [], rfl, At.nil _ _, fun _ => ⟨rfl, rfl⟩, by simp⟩
  · have hzl : len ≤ zs.length := by rw [hz]; split <;> omega
    have hl2 : ((zs.take len).map Int.toNat).length = len := by simp; omega
    have hsz : len ≤ reachBytes := by
      have := hw (((lits .u8 (zs.take len)).length + (lits .u8 (zs.drop len)).length) * Tryz.prog.bytesOf 5) (by simp only [DataW.weights, Tryz.underlying39]; exact List.mem_cons_self)
      rw [Tryz.bytes5] at this
      simp [lits] at this
      omega
    refine ⟨some a, cap, (zs.take len).map Int.toNat, by rw [hl2], ?_, fun e => (by cases e), by rw [hl2]; unfold reachBytes at hsz; omega⟩
    intro j u hu
    refine ⟨a, rfl, ?_⟩
    rw [List.getElem?_map, List.getElem?_take] at hu
    split at hu
    · obtain ⟨z, hz1, rfl⟩ := Option.map_eq_some_iff.1 hu
      obtain ⟨hj, he⟩ := List.getElem?_eq_some_iff.1 hz1
      rw [hcell j hj]
      have := bounds_u8 (hwf z (List.mem_of_getElem? hz1))
      simp [hj, he]
      omega
    · simp at hu
theorem open_rows {w : World} {base fuel : Nat} {spare : Nat → Bool} {held : Bool} {cs : List Value} {x : DataW H × List MemPlace} (h : DataW.trod enc Tryz.prog w base spare held fuel 50 cs = some x) (hz : ∀ n ∈ x.1.weights Tryz.prog 50, n ≤ reachBytes) :
    ∃ ao cap R, cs = [.slice ao R.length cap] ∧ RowsIn w ao R ∧ R.length ≤ 140737488355328 := by
  rcases open_slice Tryz.underlying50 h with ⟨rfl, rfl⟩ | ⟨a, len, cap, m, n, D, Pl, rfl, hb, hl, hm, hmm, rfl, hx⟩
  · exact ⟨none, 0, [], rfl, fun j p hj => by simp at hj, by simp⟩
  · have hlm : len ≤ m := by rw [hmm]; split <;> omega
    have hw : ∀ i, i < len → ∀ n ∈ (D i).weights Tryz.prog 39, n ≤ reachBytes := fun i hi n hn => hz n (by
      simp only [DataW.weights, Tryz.underlying50]
      exact List.mem_cons_of_mem _ (List.mem_append_left _ (weights_all_mem (d := D i) (List.mem_map.2 ⟨i, by simpa using hi, rfl⟩) n hn)))
    have hsz : len * 24 ≤ reachBytes := by
      have := hz ((((List.range len).map D).length + ((List.range (m - len)).map fun j => D (len + j)).length) * Tryz.prog.bytesOf 39) (by simp [DataW.weights, Tryz.underlying50])
      rw [Tryz.bytes46] at this
      simp at this
      omega
    have hex : ∀ i, i < len → ∃ xs : List Nat, ∃ b o ao cap, some a = some (⟨b, o, none⟩ : Addr) ∧ w.cell? ⟨b, o + i, none⟩ = some (.slice ao xs.length cap) ∧ At w ao xs ∧ (ao = none → xs.length = 0 ∧ cap = 0) ∧ xs.length ≤ 140737488355000 := by
      intro i hi
      rw [Tryz.cells46] at hx
      have key : ∀ i, i < len → ∃ xs : List Nat, ∃ ao cap, w.cell? (a.add (i * 1)) = some (.slice ao xs.length cap) ∧ At w ao xs ∧ (ao = none → xs.length = 0 ∧ cap = 0) ∧ xs.length ≤ 140737488355000 := by
        intro i hi
        obtain ⟨cs', hc, ht⟩ := hx i (by omega)
        obtain ⟨_, hlen, hcell⟩ := World.cells?_some hc
        obtain ⟨bo, cap, b, rfl, h1, h2, h3⟩ := open_bytes ht (hw i hi)
        exact ⟨b, bo, cap, by have := hcell 0 (by omega); simpa [Addr.add] using this, h1, h2, h3⟩
      obtain ⟨_, _, _, k0, _⟩ := key 0 (by omega)
      have ha : a = ⟨a.block, a.off, none⟩ := addr_flat (by simpa [Addr.add] using k0)
      obtain ⟨xs, ao, cap, k1, k2⟩ := key i hi
      refine ⟨xs, a.block, a.off, ao, cap, by rw [← ha], ?_, k2⟩
      rw [ha, Addr.add_lit, Nat.mul_one] at k1; exact k1
    obtain ⟨R, hF1, hF2⟩ : ∃ R : List (List Nat), R.length = len ∧ RowsIn w (some a) R := by
      clear hsz hx hz h hlm hmm hl hw
      induction len with
      | zero => exact ⟨[], rfl, fun j p hj => by simp at hj⟩
      | succ k ih =>
        obtain ⟨F, f1, f2⟩ := ih (fun i hi => hex i (by omega))
        obtain ⟨p, g1⟩ := hex k (by omega)
        refine ⟨F ++ [p], by simp [f1], ?_⟩
        intro j q hj
        by_cases hjk : j < F.length
        · rw [List.getElem?_append_left hjk] at hj; exact f2 j q hj
        · have hlt := (List.getElem?_eq_some_iff.1 hj).1
          have hjk2 : j = k := by simp at hlt; omega
          subst hjk2
          rw [List.getElem?_append_right (by omega), f1, Nat.sub_self] at hj
          simp at hj
          subst hj
          exact g1
    exact ⟨some a, cap, R, by rw [hF1], hF2, by rw [hF1]; unfold reachBytes at hsz; omega⟩
end
end Go.Proofs.YtonokaelbpfjnabGreatDoor
/- The document's disk is made. -/
namespace Go.Proofs.YtonokaelbpfjnabGreatDoor
open Go.RowKit Ap
attribute [local go_sem ↓] Go.wp_at_zero Go.wp_at_succ

/-- A row more onto a row of rows: the run, as an equation. -/
theorem run_row {w1 : World} {lo : Nat} {vo : Option Addr} {j vcap : Nat} {xs : List Value} (ho : w1.ownsRow lo 39 1 (.slice vo j vcap) j xs) (hlo : lo ≤ w1.heap.size) (u : Value) (hu : u.oneCell' = true) (hj : j ≤ 65536) :
    ∃ g cap w2, (∀ ty, (Builtin.append_ #[50, 50] ty #[.slice vo j vcap, .slice (some ⟨w1.heap.size, 0, none⟩) 1 1]).run Tryz.prog (w1.alloc (.cells #[u] 39)) = .ok (.slice (some ⟨g, 0, none⟩) (j + 1) cap) w2) ∧ w2.ownsRow lo 39 1 (.slice (some ⟨g, 0, none⟩) (j + 1) cap) (j + 1) (xs ++ [u]) ∧ (w1.alloc (.cells #[u] 39)).grownBy w2 (Value.ownBlock (.slice vo j vcap)) := by
  obtain ⟨i46, hi, hz0, hz1, hz2⟩ := info_parts Tryz.info39
  obtain ⟨v', w2, h1, h2, h3, h4, h5⟩ := run_append_own_at (P := Tryz.prog) (w1.alloc (.cells #[u] 39)) lo 50 50 39 i46 (.slice none 0 0) 1 24 Tryz.underlying50 hi hz0 hz1 hz2 rfl (by decide) (.slice vo j vcap) j xs (ho.alloc _) ⟨w1.heap.size, 0, none⟩ 1 1 [u] rfl cell_1 (fun x hx => by simp at hx; subst hx; exact hu) (by unfold maxLen; omega) (by omega) (Nat.le_trans hlo (World.grownBy_alloc w1 _ none).size)
  obtain ⟨g, cap, rfl⟩ : ∃ g cap, v' = .slice (some ⟨g, 0, none⟩) (j + 1) cap := by
    rcases h2.2 with ⟨_, h0⟩ | ⟨g', cap', _, e, _⟩
    · cases h0
    · exact ⟨g', cap', e⟩
  exact ⟨g, cap, w2, fun ty => h1, h2, h3⟩
/-- The disk's block and its row, behind one row more. -/
theorem push_row {wr w1 w2 : World} {lo rb : Nat} {v v' vw : Value} {S : List Bx} {b : Bx} (hb : wr.heap[rb]? = some (.cells #[v, vw] 127 (0, 0))) (hR : RowAt wr lo v S) (g1 : wr.grownBy w1 none) (b1 : BxAt w1 wr.heap.size b) (hlo : lo ≤ wr.heap.size)
    (o2 : w2.ownsRow lo 39 1 v' (S.length + 1) (S.map Bx.v ++ [b.v])) (g2 : w1.grownBy w2 v.ownBlock) :
    (w2.setCell ⟨rb, 0, none⟩ v').heap[rb]? = some (.cells #[v', vw] 127 (0, 0)) ∧ RowAt (w2.setCell ⟨rb, 0, none⟩ v') lo v' (S ++ [b]) ∧ Kept wr (w2.setCell ⟨rb, 0, none⟩ v') (fun i => i = rb ∨ v.ownBlock = some i) := by
  have hvn : v.ownBlock ≠ some rb := by
    intro e
    obtain ⟨_, c1, q1⟩ := own_block hR.row rb e
    rw [hb] at q1
    simp at q1
  have hb1 := (g1.block rb (row_lt hb) (by simp)).trans hb
  have hb2 := (g2.block rb (row_lt hb1) (fun e => hvn e.symm)).trans hb1
  have hR2 := hR.snoc g1 b1 hlo g2 o2
  have gs := grown_setCell w2 rb 0 v'
  have ks : Kept w2 (w2.setCell ⟨rb, 0, none⟩ v') (fun i => i = rb) := Kept.of gs (fun j e _ => (Option.some.inj e).symm)
  refine ⟨?_, hR2.off ks ?_ ?_, ?_⟩
  · have := heap_setCell_same w2 rb 0 #[v, vw] 127 v' hb2
    simpa using this
  · intro g e e2
    subst e2
    obtain ⟨_, c1, q1⟩ := own_block hR2.row g e
    rw [hb2] at q1
    simp at q1
  · intro x hx e
    obtain ⟨_, c1, q1⟩ := (hR2.at_ x hx).blk
    rw [e, hb2] at q1
    simp at q1
  · have k2 : Kept w1 w2 (fun i => i = rb ∨ v.ownBlock = some i) := Kept.of g2 (fun j e _ => Or.inr e)
    exact ((Kept.new g1 _).trans k2 (fun _ _ e => e)).trans (ks.mono (fun i _ e => Or.inl e)) (fun _ _ e => e)

section
variable {w : World} {ro : Option Addr} {cap n : Nat} {R : List (List Nat)}
end
end Go.Proofs.YtonokaelbpfjnabGreatDoor
/- The document's Of. -/
namespace Go.Proofs.YtonokaelbpfjnabGreatDoor
open Go.RowKit Ap
attribute [local go_sem ↓] Go.wp_at_zero Go.wp_at_succ

/-- What Of has made of rows whose first one has sz bytes. -/
def RofAt (w w' : World) (R : List (List Nat)) (sz rb : Nat) (c : Int) : Prop :=
  w.heap.size ≤ rb ∧ w.grownBy w' none ∧ ((c = 0 ∧ (∀ y ∈ R, y.length = sz) ∧ ∃ v S, w'.heap[rb]? = some (.cells #[v, .slice none 0 0] 127 (0, 0)) ∧ RowAt w' w.heap.size v S ∧ S.map Bx.xs = R) ∨ (c = 2 ∧ (∃ y ∈ R, y.length ≠ sz) ∧ Empty w' rb))

theorem push_pre {wr w1 w2 : World} {lo rb : Nat} {v vw u : Value} {S : List Bx} (hb : wr.heap[rb]? = some (.cells #[v, vw] 127 (0, 0))) (hR : RowAt wr lo v S) (g1 : wr.grownBy w1 none) (g2 : (w1.alloc (.cells #[u] 39)).grownBy w2 v.ownBlock) :
    w1.cell? ⟨rb, 0, none⟩ = some v ∧ (w1.alloc (.cells #[u] 39)).cell? ⟨rb, 0, none⟩ = some v ∧ w2.cell? ⟨rb, 0, none⟩ = some v ∧ w2.frozen? ⟨rb, 0, none⟩ = false := by
  have hvn : v.ownBlock ≠ some rb := by
    intro e
    obtain ⟨_, c1, q1⟩ := own_block hR.row rb e
    rw [hb] at q1
    simp at q1
  have h1 := (g1.block rb (row_lt hb) (by simp)).trans hb
  have h2 := ((World.grownBy_alloc w1 (.cells #[u] 39) none).block rb (row_lt h1) (by simp)).trans h1
  have h3 := (g2.block rb (row_lt h2) (fun e => hvn e.symm)).trans h2
  exact ⟨cell_row (l := [v, vw]) h1 0, cell_row (l := [v, vw]) h2 0, cell_row (l := [v, vw]) h3 0, free_row h3 0⟩
/-- append, as one step of a region that draws, by its run. -/
theorem step_append_run {P : Program} {ops : Array Oper} {o : Oper} {a : Act} {w : World} {K : Act → World → Prop} {Q : Exit → Act → World → Prop} {E : Prop} (hg : o.guard = none) (s x : Operand) (t : TypeId) (hop : o.op = Op.call { callee := Callee.builtin Builtin.append, args := #[s, x], argTypes := #[t, t] })
    (v u : Value) (hs : a.eval s = v) (hx : a.eval x = u) {v' : Value} {w' : World} (hrun : ∀ ty, (Builtin.append_ #[t, t] ty #[v, u]).run P w = .ok v' w') (hK : K (a.put o.dst v') w') :
    if Region.wanted o (yielded ops a.tmps) = true then Oper.wp P o a w K Q else E := by
  have hw : Region.wanted o (yielded ops a.tmps) = true := by simp [Region.wanted, hg]
  rw [if_pos hw]
  have hr := hrun o.type
  unfold Oper.wp
  simp [execOp, hop, resolve, invoke, builtin, hs, hx, hr, Result.andThen]
  exact hK
end Go.Proofs.YtonokaelbpfjnabGreatDoor
/- The document's Write. -/
namespace Go.Proofs.YtonokaelbpfjnabGreatDoor
open Go.RowKit Ap
attribute [local go_sem ↓] Go.wp_at_zero Go.wp_at_succ

theorem Tryz.info289 : (Tryz.prog.info? 289).map (fun i => (i.zero, i.size, i.bytes)) = some (some (.agg #[.int .i64 0, .slice none 0 0]), 2, 32) := by kernel_rfl
/-- One write more onto those that wait: the run, as an equation. -/
theorem run_wait {w1 : World} {lo : Nat} {vo : Option Addr} {j vcap : Nat} {xs : List Value} (ho : w1.ownsRow lo 289 2 (.slice vo j vcap) j xs) (hlo : lo ≤ w1.heap.size) (s : Int) (u : Value) (hu : u.oneCell' = true) (hj : j ≤ 1000000) :
    ∃ g cap w2, (∀ ty, (Builtin.append_ #[125, 125] ty #[.slice vo j vcap, .slice (some ⟨w1.heap.size, 0, none⟩) 1 1]).run Tryz.prog (w1.alloc (.cells #[.int .i64 s, u] 289)) = .ok (.slice (some ⟨g, 0, none⟩) (j + 1) cap) w2) ∧ w2.ownsRow lo 289 2 (.slice (some ⟨g, 0, none⟩) (j + 1) cap) (j + 1) (xs ++ [.int .i64 s, u]) ∧ (w1.alloc (.cells #[.int .i64 s, u] 289)).grownBy w2 (Value.ownBlock (.slice vo j vcap)) ∧
      (Value.ownBlock (.slice vo j vcap) = some g ∨ w1.heap.size ≤ g) := by
  obtain ⟨i86, hi, hz0, hz1, hz2⟩ := info_parts Tryz.info289
  obtain ⟨v', w2, h1, h2, h3, h4, h5⟩ := run_append_own_at (P := Tryz.prog) (w1.alloc (.cells #[.int .i64 s, u] 289)) lo 125 125 289 i86 (.agg #[.int .i64 0, .slice none 0 0]) 2 32 Tryz.underlying125 hi hz0 hz1 hz2 rfl (by decide) (.slice vo j vcap) j xs (ho.alloc _) ⟨w1.heap.size, 0, none⟩ 1 1 [.int .i64 s, u] rfl (cell_two w1 _ _ 289) (fun x hx => by simp at hx; rcases hx with rfl | rfl; rfl; exact hu) (by unfold maxLen; omega) (by omega) (Nat.le_trans hlo (World.grownBy_alloc w1 _ none).size)
  obtain ⟨g, cap, rfl⟩ : ∃ g cap, v' = .slice (some ⟨g, 0, none⟩) (j + 1) cap := by
    rcases h2.2 with ⟨_, h0⟩ | ⟨g', cap', _, e, _⟩
    · cases h0
    · exact ⟨g', cap', e⟩
  refine ⟨g, cap, w2, fun ty => h1, h2, h3, ?_⟩
  rcases h5 with e | e
  · exact Or.inl e.symm
  · have e : some g = some (w1.alloc (.cells #[.int .i64 s, u] 289)).heap.size := e
    have e := Option.some.inj e
    have := (World.grownBy_alloc w1 (.cells #[.int .i64 s, u] 289) none).size
    exact Or.inr (by omega)
section
variable {wq w1 w2 : World} {lo n size : Nat} {q : Rk}
/-- The disk behind one write more. -/
theorem RefAt.wrote {v' : Value} {b : Bx} {s : Nat} (h : RefAt wq lo n size q) (hlo : lo ≤ wq.heap.size) (g1 : wq.grownBy w1 none) (b1 : BxAt w1 wq.heap.size b) (hb : b.xs.length = size) (hs : s < n)
    (o2 : w2.ownsRow lo 289 2 v' (q.V.length + 1) (vcells q.V ++ [.int .i64 (s : Int), b.v])) (g2 : w1.grownBy w2 q.vw.ownBlock) (hv' : ∀ g, v'.ownBlock = some g → q.vw.ownBlock = some g ∨ wq.heap.size ≤ g) :
    RefAt (w2.setCell ⟨q.r, 1, none⟩ v') lo n size ⟨q.r, q.v, v', q.S, q.V ++ [(s, b)]⟩ ∧ Kept wq (w2.setCell ⟨q.r, 1, none⟩ v') (rfoot q) ∧ ∀ i, rfoot ⟨q.r, q.v, v', q.S, q.V ++ [(s, b)]⟩ i → rfoot q i ∨ wq.heap.size ≤ i := by
  have hh1 := (g1.block q.r (row_lt h.head) (by simp)).trans h.head
  have hwn : q.vw.ownBlock ≠ some q.r := by
    intro e
    obtain ⟨_, c1, q1⟩ := own_block h.wrow q.r e
    rw [h.head] at q1
    simp at q1
  have hh2 := (g2.block q.r (row_lt hh1) (fun e => hwn e.symm)).trans hh1
  have gs := grown_setCell w2 q.r 1 v'
  have ks : Kept w2 (w2.setCell ⟨q.r, 1, none⟩ v') (fun i => i = q.r) := Kept.of gs (fun j e _ => (Option.some.inj e).symm)
  have k2 : Kept w1 w2 (fun i => q.vw.ownBlock = some i) := Kept.of g2 (fun j e _ => e)
  have kT : Kept wq (w2.setCell ⟨q.r, 1, none⟩ v') (fun i => i = q.r ∨ q.vw.ownBlock = some i) :=
    ((Kept.new g1 _).trans (k2.mono (fun i _ e => Or.inr e)) (fun _ _ e => e)).trans (ks.mono (fun i _ e => Or.inl e)) (fun _ _ e => e)
  have off : ∀ {g : Nat} {cur : Array Value} {t : TypeId}, wq.heap[g]? = some (.cells cur t (0, 0)) → t ≠ 127 → t ≠ 289 → ¬ (g = q.r ∨ q.vw.ownBlock = some g) := by
    rintro g cur t hg h54 h86 (e | e)
    · rw [e, h.head] at hg; simp at hg; exact h54 hg.2.symm
    · obtain ⟨_, c2, q2⟩ := own_block h.wrow g e; rw [q2] at hg; simp at hg; exact h86 hg.2.symm
  have hrows : RowAt (w2.setCell ⟨q.r, 1, none⟩ v') lo q.v q.S := h.rows.off kT (fun g e => by obtain ⟨_, c, hc⟩ := own_block h.rows.row g e; exact off hc (by decide) (by decide)) (fun x hx => by obtain ⟨_, c, hc⟩ := (h.rows.at_ x hx).blk; exact off hc (by decide) (by decide))
  have hbk := b1.blk
  refine ⟨⟨?_, h.low, hrows, ?_, ?_, ?_, h.shape, h.len, h.sz, ?_⟩, kT.mono ?_, ?_⟩
  · have := heap_setCell_same w2 q.r 1 #[q.v, q.vw] 127 v' hh2
    simpa using this
  · rw [vcells_snoc]
    have := owns_off o2 ks (fun g e e2 => by
      obtain ⟨_, c1, q1⟩ := own_block o2 g e
      rw [e2, hh2] at q1
      simp at q1)
    simpa using this
  · intro x hx
    rcases List.mem_append.1 hx with hx | hx
    · exact (h.wat x hx).off kT (by obtain ⟨_, c, hc⟩ := (h.wat x hx).blk; exact off hc (by decide) (by decide))
    · simp at hx
      subst hx
      refine ((b1.mono hlo).off k2 ?_).off ks ?_
      · intro e
        have e : q.vw.ownBlock = some b.g := e
        obtain ⟨_, c1, q1⟩ := own_block h.wrow _ e
        have := row_lt q1; have := hbk.1; omega
      · intro e
        have e : b.g = q.r := e
        have := row_lt h.head; have := hbk.1; omega
  · intro x hx y hy
    rcases List.mem_append.1 hx with hx | hx
    · exact h.nv x hx y hy
    · simp at hx
      subst hx
      have := (h.rows.at_ y hy).lt; have := hbk.1
      show b.g ≠ y.g
      omega
  · intro x hx
    rcases List.mem_append.1 hx with hx | hx
    · exact h.wsz x hx
    · simp at hx
      subst hx
      exact ⟨hs, hb⟩
  · rintro i _ (e | e)
    · exact .inl e
    · exact .inr (.inr (.inl e))
  · rintro i (e | e | e | e | ⟨x, hx, e⟩)
    · exact Or.inl (.inl e)
    · exact Or.inl (.inr (.inl e))
    · rcases hv' i e with e | e
      · exact Or.inl (.inr (.inr (.inl e)))
      · exact Or.inr e
    · exact Or.inl (.inr (.inr (.inr (.inl e))))
    · rcases List.mem_append.1 hx with hx | hx
      · exact Or.inl (.inr (.inr (.inr (.inr ⟨x, hx, e⟩))))
      · simp at hx
        subst hx
        have := hbk.1
        have e : b.g = i := e
        exact Or.inr (by omega)
end
section
variable {w : World} {lo n size : Nat} {q : Rk} {r : Nat}
end
end Go.Proofs.YtonokaelbpfjnabGreatDoor
