/- Texts joined: Surv0, RefA, RefB, RefC, StlR, RefR. -/
import Derived.Test.YtonokaelbpfjnaaDoorJbAd
/- What a crash leaves; what was written, kept beside the disk. -/
namespace Go.Proofs.YtonokaelbpfjnaaDoor
open Go.RowKit Ap

theorem splice_nil (D : List Nat) (o : Nat) : splice D o [] = D := by simp [splice]
/-- Without fates nothing becomes durable. -/
theorem stl_lost (size : Nat) (D : List Nat) (W : List Wt) (j : Nat) : stl size (fun i => lasts (fateK [] i) (fateA [] i) size) D W j = D := by
  induction j with
  | zero => rfl
  | succ j ih =>
    rw [stl]
    split
    · have : lasts (fateK [] j) (fateA [] j) size = 0 := by simp [fateK, lasts]
      rw [this, List.take_zero, splice_nil, ih]
    · exact ih
/-- With all kept a sector is what was found. -/
theorem stlS_kept {n size : Nat} (W : List Wt) (hW : Fits n size W) (L : Nat → Nat) (hL : ∀ i, i < W.length → L i = size) (s : Nat) (old : List Nat) (ho : old.length = size) (j : Nat) (hj : j ≤ W.length) :
    stlS L W s old j = match lastOf (W.take j) s with
      | some x => x.xs
      | none => old := by
  induction j with
  | zero => rfl
  | succ j ih =>
    have hx := List.getElem?_eq_getElem (show j < W.length by omega)
    rw [take_snoc W j _ hx, lastOf_snoc, stlS, hx]
    show (if W[j].sec = s then over (W[j].xs.take (L j)) (stlS L W s old j) else stlS L W s old j) = _
    by_cases hs : W[j].sec = s
    · rw [if_pos hs, if_pos hs.symm]
      have h2 := (hW W[j] (List.getElem_mem _)).2
      rw [hL j (by omega), List.take_of_length_le (by omega), over]
      have h3 : (stlS L W s old j).length ≤ W[j].xs.length := by
        rw [ih (by omega), h2]
        cases hl : lastOf (W.take j) s with
        | none => simp [ho]
        | some x => exact Nat.le_of_eq (hW x (List.mem_of_mem_take (lastOf_mem hl).1)).2
      rw [List.drop_eq_nil_of_le h3, List.append_nil]
    · rw [if_neg hs, if_neg (fun e => hs e.symm)]
      exact ih (by omega)
theorem found_kept {n size : Nat} {D : List Nat} {W : List Wt} (hD : D.length = n * size) (hW : Fits n size W) (L : Nat → Nat) (hL : ∀ i, i < W.length → L i = size) (s : Nat) (hs : s < n) :
    secOf size (stl size L D W W.length) s = found size D W s := by
  rw [secOf_stl hD hW, stlS_kept W hW L hL s _ (secOf_length hD hs) W.length (Nat.le_refl _), List.take_length]
  rfl
/-- Each byte is as it was, or as one of the writes has it. -/
theorem stlS_byte (W : List Wt) (L : Nat → Nat) (s : Nat) (old : List Nat) (i : Nat) : ∀ j, (stlS L W s old j)[i]? = old[i]? ∨ ∃ (q : Nat) (x : Wt), W[q]? = some x ∧ x.sec = s ∧ (stlS L W s old j)[i]? = x.xs[i]?
  | 0 => Or.inl rfl
  | j + 1 => by
    have ih := stlS_byte W L s old i j
    rw [stlS]
    cases hx : W[j]? with
    | none => exact ih
    | some x =>
      show (if x.sec = s then over (x.xs.take (L j)) (stlS L W s old j) else stlS L W s old j)[i]? = _ ∨ ∃ (q : Nat) (y : Wt), _ ∧ _ ∧ (if x.sec = s then over (x.xs.take (L j)) (stlS L W s old j) else stlS L W s old j)[i]? = _
      by_cases hs : x.sec = s
      · rw [if_pos hs, over_get]
        by_cases hi : i < (x.xs.take (L j)).length
        · rw [if_pos hi]
          right
          refine ⟨j, x, hx, hs, ?_⟩
          rw [List.getElem?_take, if_pos (by simp at hi; omega)]
        · rw [if_neg hi]; exact ih
      · rw [if_neg hs]; exact ih
theorem fits_abs {n size : Nat} {W W' : List Wt} (h : abs W = abs W') (hW : Fits n size W) : Fits n size W' := by
  intro x hx
  have : (x.sec, x.xs) ∈ abs W := by rw [h]; exact List.mem_map.2 ⟨x, hx, rfl⟩
  obtain ⟨y, hy, e⟩ := List.mem_map.1 this
  simp only [Prod.mk.injEq] at e
  rw [← e.1, ← e.2]
  exact hW y hy

theorem own_block {w : World} {B : Nat} {e : TypeId} {s : Nat} {v : Value} {n : Nat} {xs : List Value} (h : w.ownsRow B e s v n xs) : ∀ g, v.ownBlock = some g → B ≤ g ∧ ∃ cur, w.heap[g]? = some (.cells cur e (0, 0)) := by
  intro g hg
  rcases h.2 with ⟨rfl, _⟩ | ⟨g', cap, cur, rfl, h1, h2, _⟩
  · cases hg
  · cases hg; exact ⟨h1, cur, h2⟩
theorem own_form {w : World} {B : Nat} {e : TypeId} {s : Nat} {v : Value} {n : Nat} {xs : List Value} (h : w.ownsRow B e s v n xs) : ∃ ao cap, v = .slice ao n cap ∧ (0 < n → ∃ g, ao = some ⟨g, 0, none⟩) ∧ n ≤ cap ∧ (ao = none → n = 0 ∧ cap = 0) := by
  rcases h.2 with ⟨rfl, rfl⟩ | ⟨g', cap, cur, rfl, h1, h2, h3, _⟩
  · exact ⟨none, 0, rfl, fun h => absurd h (Nat.lt_irrefl _), Nat.le_refl _, fun _ => ⟨rfl, rfl⟩⟩
  · exact ⟨_, cap, rfl, fun _ => ⟨g', rfl⟩, h3, fun e => by cases e⟩
section
variable {w0 w w' : World} {k : Dk} {n size : Nat} {D : List Nat} {W : List Wt}
/-- An append to a row of another type. -/
theorem DkS.after (h : DkS w0 w k n size D W) {v : Value} (hg : w.grownBy w' v.ownBlock) (hv : ∀ b, v.ownBlock = some b → w0.heap.size ≤ b ∧ ∃ c t, w.heap[b]? = some (.cells c t (0, 0)) ∧ t ≠ 86 ∧ t ≠ 5 ∧ t ≠ 160) : DkS w0 w' k n size D W := by
  refine ⟨h.disk.same fun i hi => hg.block i (h.disk.lt i hi) ?_, h.own, grown_then h.grown hg (fun j e => Or.inl (hv j e).1)⟩
  intro e
  obtain ⟨_, c, t, h1, h2, h3, h4⟩ := hv i e.symm
  rcases hi with hi | ⟨x, hx, rfl⟩
  · exact h.disk.other_off h1 h2 h3 h4 hi
  · rw [(h.disk.waits x hx).2.2.2] at h1; simp at h1; exact h3 h1.2.symm
end
/-- Two copies of one disk. -/
theorem sep_copies {w0 w : World} {k k1 k2 : Dk} {n size : Nat} {D : List Nat} {W : List Wt} (h1 : DkS w0 w k1 n size D W) (s1 : Sep k W k1 W) (h2 : ∀ i, k2.own i → w.heap.size ≤ i) : Sep k1 W k2 W := by
  refine ⟨?_, ?_⟩
  · rintro i hi (hf | ⟨x, hx, rfl⟩)
    · have := h2 i hf; have := h1.disk.lt i (.inl hi); omega
    · exact s1.r _ hi (.inr ⟨x, hx, rfl⟩)
  · intro i hi hf
    have := h2 i hi; have := h1.disk.lt i hf; omega
/-- What was written, and where. -/
structure Log (w : World) (B : Nat) (v u : Value) (W : List Wt) (gs : List Nat) : Prop where
  wro : w.ownsRow B 22 1 v W.length (slv 64 gs)
  whe : w.ownsRow B 3 1 u W.length (W.map fun x => .int .i64 (x.sec : Int))
  len : gs.length = W.length
  rows : ∀ (i g : Nat) (x : Wt), gs[i]? = some g → W[i]? = some x → w.heap[g]? = some (.cells (bv x.xs).toArray 5 (0, 0)) ∧ B ≤ g
theorem Log.same {w w' : World} {B : Nat} {v u : Value} {W : List Wt} {gs : List Nat} (h : Log w B v u W gs) (hb : ∀ i, B ≤ i → (∃ c t, (t = 22 ∨ t = 3 ∨ t = 5) ∧ w.heap[i]? = some (.cells c t (0, 0))) → w'.heap[i]? = w.heap[i]?) : Log w' B v u W gs := by
  refine ⟨?_, ?_, h.len, ?_⟩
  · refine ⟨h.wro.1, ?_⟩
    rcases h.wro.2 with e | ⟨g, cap, cur, rfl, h1, h2, h3⟩
    · exact Or.inl e
    · exact Or.inr ⟨g, cap, cur, rfl, h1, (hb g h1 ⟨cur, 22, .inl rfl, h2⟩).trans h2, h3⟩
  · refine ⟨h.whe.1, ?_⟩
    rcases h.whe.2 with e | ⟨g, cap, cur, rfl, h1, h2, h3⟩
    · exact Or.inl e
    · exact Or.inr ⟨g, cap, cur, rfl, h1, (hb g h1 ⟨cur, 3, .inr (.inl rfl), h2⟩).trans h2, h3⟩
  · intro i g x h1 h2
    obtain ⟨r1, r2⟩ := h.rows i g x h1 h2
    exact ⟨(hb g r2 ⟨_, 5, .inr (.inr rfl), r1⟩).trans r1, r2⟩
theorem Log.grown {w w' : World} {B : Nat} {v u : Value} {W : List Wt} {gs : List Nat} (h : Log w B v u W gs) (hg : w.grownBy w' none) : Log w' B v u W gs :=
  h.same fun i _ ⟨_, _, _, hi⟩ => hg.block i (row_lt hi) (by simp)
theorem Log.moved {w w' : World} {B : Nat} {v u : Value} {W : List Wt} {gs : List Nat} {k k' : Dk} {n size : Nat} {D : List Nat} {V V' : List Wt} (h : Log w B v u W gs) (hk : DiskAt w k n size D V) (hm : Moved w w' k k' V V') (hB : k.db < B) : Log w' B v u W gs :=
  h.same fun i hi ⟨c, t, ht, hc⟩ => hm.kept.block i (row_lt hc) (by
    rcases ht with rfl | rfl | rfl
    · exact hk.other_off hc (by decide) (by decide) (by decide)
    · exact hk.other_off hc (by decide) (by decide) (by decide)
    · exact hk.bytes_off hc (by omega))
/-- Its blocks. -/
def lblk (v u : Value) (gs : List Nat) (i : Nat) : Prop := v.ownBlock = some i ∨ u.ownBlock = some i ∨ i ∈ gs
theorem Log.off {w w' : World} {B : Nat} {v u : Value} {W : List Wt} {gs : List Nat} {S : Nat → Prop} (h : Log w B v u W gs) (hk : Kept w w' S) (hS : ∀ i, lblk v u gs i → ¬ S i) : Log w' B v u W gs := by
  refine ⟨?_, ?_, h.len, ?_⟩
  · refine ⟨h.wro.1, ?_⟩
    rcases h.wro.2 with e | ⟨g, cap, cur, rfl, h1, h2, h3⟩
    · exact Or.inl e
    · exact Or.inr ⟨g, cap, cur, rfl, h1, hk.at h2 (hS g (.inl rfl)), h3⟩
  · refine ⟨h.whe.1, ?_⟩
    rcases h.whe.2 with e | ⟨g, cap, cur, rfl, h1, h2, h3⟩
    · exact Or.inl e
    · exact Or.inr ⟨g, cap, cur, rfl, h1, hk.at h2 (hS g (.inr (.inl rfl))), h3⟩
  · intro i g x h1 h2
    obtain ⟨r1, r2⟩ := h.rows i g x h1 h2
    exact ⟨hk.at r1 (hS g (.inr (.inr (List.mem_of_getElem? h1)))), r2⟩
theorem Log.lt {w : World} {B : Nat} {v u : Value} {W : List Wt} {gs : List Nat} (h : Log w B v u W gs) : ∀ i, lblk v u gs i → i < w.heap.size := by
  rintro i (e | e | e)
  · obtain ⟨_, c, q⟩ := own_block h.wro i e; exact row_lt q
  · obtain ⟨_, c, q⟩ := own_block h.whe i e; exact row_lt q
  · obtain ⟨j, hj⟩ := List.getElem?_of_mem e
    have hl : j < W.length := by rw [← h.len]; exact (List.getElem?_eq_some_iff.1 hj).1
    exact row_lt (h.rows j i W[j] hj (List.getElem?_eq_getElem hl)).1
/-- Rows that were found. -/
structure FAt (w : World) (B gf cap : Nat) (fs : List Nat) (R : List (List Nat)) : Prop where
  row : w.ownsRow B 22 1 (.slice (some ⟨gf, 0, none⟩) R.length cap) R.length (slv 64 fs)
  len : fs.length = R.length
  rows : ∀ (i g : Nat) (xs : List Nat), fs[i]? = some g → R[i]? = some xs → w.heap[g]? = some (.cells (bv xs).toArray 5 (0, 0)) ∧ B ≤ g ∧ xs.length = 64
theorem FAt.off {w w' : World} {B gf cap : Nat} {fs : List Nat} {R : List (List Nat)} {S : Nat → Prop} (h : FAt w B gf cap fs R) (hk : Kept w w' S) (hS : ∀ i, B ≤ i → ¬ S i) : FAt w' B gf cap fs R := by
  refine ⟨?_, h.len, ?_⟩
  · refine ⟨h.row.1, ?_⟩
    rcases h.row.2 with e | ⟨g, cap, cur, e, h1, h2, h3⟩
    · exact Or.inl e
    · exact Or.inr ⟨g, cap, cur, e, h1, hk.at h2 (hS g h1), h3⟩
  · intro i g xs h1 h2
    obtain ⟨r1, r2, r3⟩ := h.rows i g xs h1 h2
    exact ⟨hk.at r1 (hS g r2), r2, r3⟩
theorem FAt.grown {w w' : World} {B gf cap : Nat} {fs : List Nat} {R : List (List Nat)} (h : FAt w B gf cap fs R) (hg : w.grownBy w' none) : FAt w' B gf cap fs R := h.off (Kept.new hg (fun _ => False)) (fun _ _ e => e)
/-- What is found in each sector. -/
def foundR (D : List Nat) (W : List Wt) : List (List Nat) := (List.range 4).map (found 64 D W)
theorem foundR_get (D : List Nat) (W : List Wt) (i : Nat) (h : i < 4) : (foundR D W)[i]? = some (found 64 D W i) := by simp [foundR, h]
theorem found_length {n size : Nat} {D : List Nat} {W : List Wt} (hD : D.length = n * size) (hW : Fits n size W) (s : Nat) (hs : s < n) : (found size D W s).length = size := by
  unfold found
  cases hl : lastOf W s with
  | none => exact secOf_length hD hs
  | some x => exact (hW x (lastOf_mem hl).1).2
theorem secs_kept {D : List Nat} {W : List Wt} (hD : D.length = 4 * 64) (hW : Fits 4 64 W) (L : Nat → Nat) (hL : ∀ i, i < W.length → L i = 64) : secs 4 64 (stl 64 L D W W.length) = foundR D W := by
  unfold secs foundR
  apply List.map_congr_left
  intro s hs
  exact found_kept hD hW L hL s (by simpa using hs)
theorem FAt.rowsAt {w : World} {B gf cap : Nat} {fs : List Nat} {R : List (List Nat)} (h : FAt w B gf cap fs R) : RowsAt w (some ⟨gf, 0, none⟩) R := by
  intro j xs hj
  have hlt : j < fs.length := by rw [h.len]; exact (List.getElem?_eq_some_iff.1 hj).1
  obtain ⟨r1, _, r3⟩ := h.rows j fs[j] xs (List.getElem?_eq_getElem hlt) hj
  refine ⟨gf, 0, some ⟨fs[j], 0, none⟩, 64, rfl, ?_, at_row r1, by omega⟩
  have := h.row.cells rfl j (bsl fs[j] 64) (by rw [slv, List.getElem?_map, List.getElem?_eq_getElem hlt]; rfl)
  rw [Addr.add_lit] at this
  rw [this, r3]
  rfl
theorem FatesAt.off {w w' : World} {fo : Option Addr} {F : List (Int × Int)} {S : Nat → Prop} {B : Nat} (h : FatesAt w fo F) (hk : Kept w w' S) (hB : ∀ a, fo = some a → 0 < F.length → B ≤ a.block) (hS : ∀ i, B ≤ i → ¬ S i) : FatesAt w' fo F := by
  intro j p hj
  obtain ⟨b, o, e, h1, h2⟩ := h j p hj
  have hl : 0 < F.length := Nat.lt_of_le_of_lt (Nat.zero_le _) (List.getElem?_eq_some_iff.1 hj).1
  have hb := hB ⟨b, o, none⟩ e hl
  have key : ∀ (q : Nat) (x : Value), w.cell? ⟨b, q, none⟩ = some x → w'.cell? ⟨b, q, none⟩ = some x := fun q x hx => (World.cell?_of_block (hk.block b (cell_lt hx) (hS b hb))).trans hx
  exact ⟨b, o, e, key _ _ h1, key _ _ h2⟩
theorem calm_own {k : Dk} {i : Nat} (h : k.calm.own i) : k.own i := by
  rcases h with e | e | e | e
  · exact .inl e
  · exact .inr (.inl e)
  · simp [Dk.calm, Value.ownBlock] at e
  · exact .inr (.inr (.inr e))
theorem log_abs {w : World} {B : Nat} {v u : Value} {W W' : List Wt} {gs : List Nat} (h : Log w B v u W gs) (e : abs W = abs W') : Log w B v u W' gs := by
  have hl : W'.length = W.length := by rw [← abs_length, ← e, abs_length]
  have hm : (W'.map fun x => Value.int .i64 (x.sec : Int)) = W.map fun x => Value.int .i64 (x.sec : Int) := by
    have h1 : ∀ V : List Wt, (V.map fun x => Value.int .i64 (x.sec : Int)) = (abs V).map fun p => Value.int .i64 (p.1 : Int) := fun V => by simp [abs]
    rw [h1, h1, e]
  refine ⟨by rw [hl]; exact h.wro, by rw [hl, hm]; exact h.whe, by rw [hl]; exact h.len, ?_⟩
  intro i g x h1 h2
  have hi : i < W.length := by rw [← hl]; exact (List.getElem?_eq_some_iff.1 h2).1
  have h3 : (abs W)[i]? = (abs W')[i]? := by rw [e]
  simp only [abs, List.getElem?_map, List.getElem?_eq_getElem hi, h2, Option.map_some, Option.some.injEq, Prod.mk.injEq] at h3
  rw [← h3.2]
  exact h.rows i g W[i] h1 (List.getElem?_eq_getElem hi)
end Go.Proofs.YtonokaelbpfjnaaDoor
/- The document's disk: its rows, its sectors, what waits. -/
namespace Go.Proofs.YtonokaelbpfjnaaDoor
open Go.RowKit Ap

/-- Bytes in a block of their own. -/
structure Bx where
  g : Nat
  c : Nat
  xs : List Nat
def Bx.v (b : Bx) : Value := .slice (some ⟨b.g, 0, none⟩) b.xs.length b.c
def BxAt (w : World) (lo : Nat) (b : Bx) : Prop := w.ownsRow lo 5 1 b.v b.xs.length (bv b.xs)
/-- A row of such bytes, no two in one block. -/
structure RowAt (w : World) (lo : Nat) (v : Value) (S : List Bx) : Prop where
  row : w.ownsRow lo 22 1 v S.length (S.map Bx.v)
  at_ : ∀ b ∈ S, BxAt w lo b
  nd : S.Pairwise (fun a b => a.g ≠ b.g)

theorem owns_off {w w' : World} {lo : Nat} {e : TypeId} {s n : Nat} {u : Value} {xs : List Value} {T : Nat → Prop} (ho : w.ownsRow lo e s u n xs) (hk : Kept w w' T) (hT : ∀ g, u.ownBlock = some g → ¬ T g) : w'.ownsRow lo e s u n xs := by
  refine ⟨ho.1, ?_⟩
  rcases ho.2 with e1 | ⟨g, cap, cur, rfl, h1, h2, h3⟩
  · exact Or.inl e1
  · exact Or.inr ⟨g, cap, cur, rfl, h1, hk.at h2 (hT g rfl), h3⟩
theorem owns_mono {w : World} {lo lo' : Nat} {e : TypeId} {s n : Nat} {u : Value} {xs : List Value} (h : w.ownsRow lo e s u n xs) (hl : lo' ≤ lo) : w.ownsRow lo' e s u n xs := by
  refine ⟨h.1, ?_⟩
  rcases h.2 with e1 | ⟨g, cap, cur, rfl, h1, h2⟩
  · exact Or.inl e1
  · exact Or.inr ⟨g, cap, cur, rfl, Nat.le_trans hl h1, h2⟩
theorem BxAt.off {w w' : World} {lo : Nat} {b : Bx} {T : Nat → Prop} (h : BxAt w lo b) (hk : Kept w w' T) (hT : ¬ T b.g) : BxAt w' lo b := owns_off h hk (fun g e => by cases e; exact hT)
theorem BxAt.grown {w w' : World} {lo : Nat} {b : Bx} (h : BxAt w lo b) (hg : w.grownBy w' none) : BxAt w' lo b := h.off (Kept.new hg (fun _ => False)) id
theorem BxAt.blk {w : World} {lo : Nat} {b : Bx} (h : BxAt w lo b) : lo ≤ b.g ∧ ∃ cur, w.heap[b.g]? = some (.cells cur 5 (0, 0)) := own_block h b.g rfl
theorem BxAt.lt {w : World} {lo : Nat} {b : Bx} (h : BxAt w lo b) : b.g < w.heap.size := row_lt h.blk.2.choose_spec
theorem BxAt.mono {w : World} {lo lo' : Nat} {b : Bx} (h : BxAt w lo b) (hl : lo' ≤ lo) : BxAt w lo' b := owns_mono h hl
theorem BxAt.at_ {w : World} {lo : Nat} {b : Bx} (h : BxAt w lo b) : At w (some ⟨b.g, 0, none⟩) b.xs := by
  intro j u hu
  exact ⟨_, rfl, World.ownsRow.cells h rfl j _ (bv_get b.xs j u hu)⟩
theorem RowAt.off {w w' : World} {lo : Nat} {v : Value} {S : List Bx} {T : Nat → Prop} (h : RowAt w lo v S) (hk : Kept w w' T) (hv : ∀ g, v.ownBlock = some g → ¬ T g) (hT : ∀ b ∈ S, ¬ T b.g) : RowAt w' lo v S :=
  ⟨owns_off h.row hk hv, fun b hb => (h.at_ b hb).off hk (hT b hb), h.nd⟩
theorem RowAt.grown {w w' : World} {lo : Nat} {v : Value} {S : List Bx} (h : RowAt w lo v S) (hg : w.grownBy w' none) : RowAt w' lo v S := h.off (Kept.new hg (fun _ => False)) (fun _ _ => id) (fun _ _ => id)
theorem RowAt.mono {w : World} {lo lo' : Nat} {v : Value} {S : List Bx} (h : RowAt w lo v S) (hl : lo' ≤ lo) : RowAt w lo' v S := ⟨owns_mono h.row hl, fun b hb => (h.at_ b hb).mono hl, h.nd⟩
theorem RowAt.nil (w : World) (lo : Nat) : RowAt w lo (.slice none 0 0) [] := ⟨World.ownsRow_nil _ _ _ _, by simp, List.Pairwise.nil⟩
/-- A row's own block holds no bytes. -/
theorem RowAt.ne {w : World} {lo : Nat} {v : Value} {S : List Bx} (h : RowAt w lo v S) {b : Bx} (hb : b ∈ S) : v.ownBlock ≠ some b.g := by
  intro e
  obtain ⟨_, c1, q1⟩ := own_block h.row b.g e
  obtain ⟨_, c2, q2⟩ := (h.at_ b hb).blk
  rw [q1] at q2
  simp at q2
/-- One row more. -/
theorem RowAt.snoc {w w1 w2 : World} {lo : Nat} {v v' : Value} {S : List Bx} {b : Bx} (h : RowAt w lo v S) (g1 : w.grownBy w1 none) (hb : BxAt w1 w.heap.size b) (hlo : lo ≤ w.heap.size)
    (g2 : w1.grownBy w2 v.ownBlock) (o : w2.ownsRow lo 22 1 v' (S.length + 1) (S.map Bx.v ++ [b.v])) : RowAt w2 lo v' (S ++ [b]) := by
  have hk : Kept w1 w2 (fun i => v.ownBlock = some i) := Kept.of g2 (fun j e _ => e)
  have h1 := h.grown g1
  have hbb := hb.blk
  refine ⟨by simpa using o, ?_, ?_⟩
  · intro x hx
    rcases List.mem_append.1 hx with hx | hx
    · exact (h1.at_ x hx).off hk (h1.ne hx)
    · simp at hx
      subst hx
      refine (hb.mono hlo).off hk ?_
      intro e
      have := (own_block h.row _ e).2.choose_spec
      have := row_lt this
      have := hbb.1
      omega
  · refine List.pairwise_append.2 ⟨h.nd, List.pairwise_singleton _ _, ?_⟩
    intro x hx y hy
    simp at hy
    subst hy
    have := (h.at_ x hx).lt
    have := hbb.1
    omega
theorem RowAt.rowsAt {w : World} {lo n : Nat} {v : Value} {S : List Bx} (h : RowAt w lo v S) (hn : S.length = n) (hs : ∀ b ∈ S, b.xs.length ≤ 4611686018427387904) : ∃ ao cap, v = .slice ao n cap ∧ RowsAt w ao (S.map Bx.xs) := by
  subst hn
  obtain ⟨ao, cap, rfl, hao, -, -⟩ := own_form h.row
  refine ⟨ao, cap, rfl, ?_⟩
  intro j xs hj
  rw [List.getElem?_map] at hj
  obtain ⟨b, hb, rfl⟩ := Option.map_eq_some_iff.1 hj
  obtain ⟨g, rfl⟩ := hao (Nat.lt_of_le_of_lt (Nat.zero_le _) (List.getElem?_eq_some_iff.1 hb).1)
  have hc := h.row.cells rfl j b.v (by rw [List.getElem?_map, hb]; rfl)
  rw [Addr.add_lit] at hc
  have hm := List.mem_of_getElem? hb
  exact ⟨g, 0, some ⟨b.g, 0, none⟩, b.c, rfl, hc, (h.at_ b hm).at_, hs b hm⟩

/-- The document's disk: its block, its two rows, the sectors, what waits. -/
structure Rk where
  r : Nat
  v : Value
  vw : Value
  S : List Bx
  V : List (Nat × Bx)
def vcells (V : List (Nat × Bx)) : List Value := V.flatMap fun x => [.int .i64 (x.1 : Int), x.2.v]
theorem vcells_length (V : List (Nat × Bx)) : (vcells V).length = V.length * 2 := by
  induction V with
  | nil => rfl
  | cons x V ih => simp [vcells] at ih ⊢; omega
theorem vcells_get (V : List (Nat × Bx)) (i : Nat) (x : Nat × Bx) (h : V[i]? = some x) : (vcells V)[2 * i]? = some (.int .i64 (x.1 : Int)) ∧ (vcells V)[2 * i + 1]? = some x.2.v := by
  induction V generalizing i with
  | nil => simp at h
  | cons y V ih =>
    cases i with
    | zero => simp at h; subst h; exact ⟨rfl, rfl⟩
    | succ i =>
      have e : 2 * (i + 1) = 2 * i + 1 + 1 := by omega
      rw [e]
      exact ih i (by simpa using h)
theorem vcells_snoc (V : List (Nat × Bx)) (x : Nat × Bx) : vcells (V ++ [x]) = vcells V ++ [.int .i64 (x.1 : Int), x.2.v] := by simp [vcells]
def rfoot (q : Rk) (i : Nat) : Prop := i = q.r ∨ q.v.ownBlock = some i ∨ q.vw.ownBlock = some i ∨ (∃ b ∈ q.S, b.g = i) ∨ ∃ x ∈ q.V, x.2.g = i
structure RefAt (w : World) (lo n size : Nat) (q : Rk) : Prop where
  head : w.heap[q.r]? = some (.cells #[q.v, q.vw] 133 (0, 0))
  low : lo ≤ q.r
  rows : RowAt w lo q.v q.S
  wrow : w.ownsRow lo 184 2 q.vw q.V.length (vcells q.V)
  wat : ∀ x ∈ q.V, BxAt w lo x.2
  nv : ∀ x ∈ q.V, ∀ b ∈ q.S, x.2.g ≠ b.g
  shape : Shape n size
  len : q.S.length = n
  sz : ∀ b ∈ q.S, b.xs.length = size
  wsz : ∀ x ∈ q.V, x.1 < n ∧ x.2.xs.length = size
section
variable {w w' : World} {lo n size : Nat} {q : Rk}
theorem RefAt.lt (h : RefAt w lo n size q) : ∀ i, rfoot q i → lo ≤ i ∧ i < w.heap.size := by
  rintro i (rfl | e | e | ⟨b, hb, rfl⟩ | ⟨x, hx, rfl⟩)
  · exact ⟨h.low, row_lt h.head⟩
  · obtain ⟨h1, c, h2⟩ := own_block h.rows.row i e; exact ⟨h1, row_lt h2⟩
  · obtain ⟨h1, c, h2⟩ := own_block h.wrow i e; exact ⟨h1, row_lt h2⟩
  · exact ⟨(h.rows.at_ b hb).blk.1, (h.rows.at_ b hb).lt⟩
  · exact ⟨(h.wat x hx).blk.1, (h.wat x hx).lt⟩
theorem RefAt.kept {T : Nat → Prop} (h : RefAt w lo n size q) (hk : Kept w w' T) (hT : ∀ i, rfoot q i → ¬ T i) : RefAt w' lo n size q :=
  ⟨hk.at h.head (hT _ (.inl rfl)), h.low, h.rows.off hk (fun g e => hT g (.inr (.inl e))) (fun b hb => hT _ (.inr (.inr (.inr (.inl ⟨b, hb, rfl⟩))))), owns_off h.wrow hk (fun g e => hT g (.inr (.inr (.inl e)))), fun x hx => (h.wat x hx).off hk (hT _ (.inr (.inr (.inr (.inr ⟨x, hx, rfl⟩))))), h.nv, h.shape, h.len, h.sz, h.wsz⟩
theorem RefAt.grown (h : RefAt w lo n size q) (hg : w.grownBy w' none) : RefAt w' lo n size q := h.kept (Kept.new hg (fun _ => False)) (fun _ _ => id)
theorem RefAt.c0 (h : RefAt w lo n size q) : w.cell? ⟨q.r, 0, none⟩ = some q.v := cell_row (l := [q.v, q.vw]) h.head 0
theorem RefAt.c1 (h : RefAt w lo n size q) : w.cell? ⟨q.r, 1, none⟩ = some q.vw := cell_row (l := [q.v, q.vw]) h.head 1
theorem RefAt.free (h : RefAt w lo n size q) (j : Nat) : w.frozen? ⟨q.r, j, none⟩ = false := free_row h.head j
/-- Its row of sectors, as a value. -/
theorem RefAt.vform (h : RefAt w lo n size q) : ∃ g cap, q.v = .slice (some ⟨g, 0, none⟩) n cap := by
  obtain ⟨ao, cap, hv, hao, -, -⟩ := own_form h.rows.row
  rw [h.len] at hv hao
  obtain ⟨g, rfl⟩ := hao (by have := h.shape.n0; omega)
  exact ⟨g, cap, hv⟩
theorem RefAt.sec (h : RefAt w lo n size q) {g cap s : Nat} (hv : q.v = .slice (some ⟨g, 0, none⟩) n cap) {b : Bx} (hs : q.S[s]? = some b) : w.cell? ⟨g, s, none⟩ = some (.slice (some ⟨b.g, 0, none⟩) size b.c) := by
  have hc := h.rows.row.cells (g := g) (by rw [hv]; rfl) s b.v (by rw [List.getElem?_map, hs]; rfl)
  rw [Addr.add_lit, Nat.zero_add, Bx.v, h.sz b (List.mem_of_getElem? hs)] at hc
  exact hc
theorem RefAt.get (h : RefAt w lo n size q) {s : Nat} (hs : s < n) : ∃ b, q.S[s]? = some b := ⟨q.S[s]'(by rw [h.len]; exact hs), List.getElem?_eq_getElem _⟩
theorem RefAt.wform (h : RefAt w lo n size q) : ∃ ao cap, q.vw = .slice ao q.V.length cap ∧ (0 < q.V.length → ∃ g, ao = some ⟨g, 0, none⟩) := by
  obtain ⟨ao, cap, hv, hao, -, -⟩ := own_form h.wrow
  exact ⟨ao, cap, hv, hao⟩
end
end Go.Proofs.YtonokaelbpfjnaaDoor
/- The document's twin, May and Image. -/
namespace Go.Proofs.YtonokaelbpfjnaaDoor
open Go.RowKit Ap
attribute [local go_sem ↓] Go.wp_at_zero Go.wp_at_succ

theorem cell_1 {w : World} {u : Value} {t : TypeId} : ∀ j x, [u][j]? = some x → (w.alloc (.cells #[u] t)).cell? ((⟨w.heap.size, 0, none⟩ : Addr).add j) = some x := by
  intro j x h
  rw [Addr.add_lit, Nat.zero_add, cell_of_row _ _ j #[u] t (0, 0) (heap_alloc_new w _)]
  simpa using h
/-- The document's May. -/
theorem mayR_any (n size : Int) (w : World) : Calls Tryd.prog 61 #[.int .i64 n, .int .i64 size] w fun e w' => e = .returned (.bool (mayB n size)) ∧ w' = w := by
  by_cases h : 64 ≤ size ∧ size ≤ 4096
  · obtain ⟨h3, h4⟩ := h
    by_cases hb : p2 size = true
    · have hb2 : bits .and .i64 size (size - 1) = 0 := by
        unfold p2 at hb
        have := of_decide_eq_true hb
        rwa [show IntKind.i64.wrap (size - 1) = size - 1 by rw [IntKind.wrap_i64]; omega] at this
      by_cases h1 : 1 ≤ n
      · by_cases h2 : n ≤ 65536
        · have hlo : 0 ≤ n * size := Int.mul_nonneg (by omega) (by omega)
          have hhi : n * size ≤ 65536 * 4096 := Int.mul_le_mul h2 h4 (by omega) (by omega)
          have hw : wrap64 (n * size) = n * size := by unfold wrap64; omega
          have e : mayB n size = decide (n * size ≤ 67108864) := by simp [mayB, h1, h2, h3, h4, hb]
          rw [e]
          clear e hb
          go_enter Tryd.func61, Tryd.ntmps61
          go_wp2
          go_ret
          exact ⟨by simp, rfl⟩
        · have e : mayB n size = false := by simp [mayB, h2]
          rw [e]
          clear e hb
          go_enter Tryd.func61, Tryd.ntmps61
          go_wp2
          go_ret
          exact ⟨rfl, rfl⟩
      · have e : mayB n size = false := by simp [mayB, h1]
        rw [e]
        clear e hb
        go_enter Tryd.func61, Tryd.ntmps61
        go_wp2
        go_ret
        exact ⟨rfl, rfl⟩
    · have hb0 : p2 size = false := by simpa using hb
      have hb2 : ¬ bits .and .i64 size (size - 1) = 0 := by
        intro e
        apply hb
        unfold p2
        rw [show IntKind.i64.wrap (size - 1) = size - 1 by rw [IntKind.wrap_i64]; omega]
        exact decide_eq_true e
      have e : mayB n size = false := by simp [mayB, hb0]
      rw [e]
      have g2 : (bits .and .i64 size (size - 1) == 0) = false := by simpa using hb2
      have g3 : decide (bits .and .i64 size (size - 1) = 0) = false := by simpa using hb2
      clear e hb hb0
      go_enter Tryd.func61, Tryd.ntmps61
      go_wp2
      go_ret
      exact ⟨rfl, rfl⟩
  · have e : mayB n size = false := by
      simp only [mayB]
      by_cases a3 : 64 ≤ size
      · by_cases a4 : size ≤ 4096
        · exact absurd ⟨a3, a4⟩ h
        · simp [a4]
      · simp [a3]
    rw [e]
    by_cases a3 : 64 ≤ size
    · by_cases a4 : size ≤ 4096
      · exact absurd ⟨a3, a4⟩ h
      · clear h e
        go_enter Tryd.func61, Tryd.ntmps61
        go_wp2
        go_ret
        exact ⟨rfl, rfl⟩
    · clear h e
      go_enter Tryd.func61, Tryd.ntmps61
      go_wp2
      go_ret
      exact ⟨rfl, rfl⟩

end Go.Proofs.YtonokaelbpfjnaaDoor
/- The document's disk: what it is asked. -/
namespace Go.Proofs.YtonokaelbpfjnaaDoor
open Go.RowKit Ap
attribute [local go_sem ↓] Go.wp_at_zero Go.wp_at_succ

section
variable {w : World} {lo n size : Nat} {q : Rk} {r : Nat}
theorem rsectors_any (hr : q.r = r) (h : RefAt w lo n size q) : Calls Tryd.prog 76 #[.pointer (some ⟨r, 0, none⟩)] w fun e w' => e = .returned (.int .i64 (n : Int)) ∧ w' = w := by
  obtain ⟨g, cap, hv⟩ := h.vform
  have c0 := h.c0
  rw [hv, hr] at c0
  clear h hv hr
  go_enter Tryd.func76, Tryd.ntmps76
  go_wp2
  go_ret
  exact ⟨rfl, rfl⟩
theorem rsize_any (hr : q.r = r) (h : RefAt w lo n size q) : Calls Tryd.prog 77 #[.pointer (some ⟨r, 0, none⟩)] w fun e w' => e = .returned (.int .i64 (size : Int)) ∧ w' = w := by
  obtain ⟨g, cap, hv⟩ := h.vform
  have n0 := h.shape.n0
  obtain ⟨b, hb⟩ := h.get (s := 0) (by omega)
  have c0 := h.c0
  have c1 := h.sec hv hb
  rw [hv, hr] at c0
  have m0 : (0 : Int) < (n : Int) := by omega
  clear h hv hr hb
  go_enter Tryd.func77, Tryd.ntmps77
  go_wp2
  go_ret
  exact ⟨rfl, rfl⟩
end
end Go.Proofs.YtonokaelbpfjnaaDoor
/- What a crash makes of the sectors, row by row. -/
namespace Go.Proofs.YtonokaelbpfjnaaDoor
open Go.RowKit Ap

def stlR (L : Nat → Nat) (P : List Pr) (R : List (List Nat)) : Nat → List (List Nat)
  | 0 => R
  | j + 1 => match P[j]? with
    | some x => (stlR L P R j).modify x.1 (over (x.2.take (L j)))
    | none => stlR L P R j
theorem stlR_succ (L : Nat → Nat) (P : List Pr) (R : List (List Nat)) (j : Nat) (x : Pr) (h : P[j]? = some x) : stlR L P R (j + 1) = (stlR L P R j).modify x.1 (over (x.2.take (L j))) := by
  rw [stlR, h]
theorem secs_splice {n size s : Nat} {D ys : List Nat} (hD : D.length = n * size) (hs : s < n) (hy : ys.length ≤ size) : secs n size (splice D (s * size) ys) = (secs n size D).modify s (over ys) := by
  apply List.ext_getElem?
  intro i
  rw [List.getElem?_modify]
  by_cases hi : i < n
  · rw [secs_get _ _ _ _ hi, secs_get _ _ _ _ hi]
    by_cases h : s = i
    · subst h
      rw [secOf_splice_same hD hs hy]; simp
    · rw [secOf_splice_other hD hs hy h]; simp [h]
  · rw [List.getElem?_eq_none (by rw [secs_length]; omega), List.getElem?_eq_none (by rw [secs_length]; omega)]; rfl
theorem secs_stl {n size : Nat} {L : Nat → Nat} {D : List Nat} {W : List Wt} (hD : D.length = n * size) (hW : Fits n size W) (j : Nat) : secs n size (stl size L D W j) = stlR L (abs W) (secs n size D) j := by
  induction j with
  | zero => rfl
  | succ j ih =>
    rw [stl, stlR, abs, List.getElem?_map]
    cases hx : W[j]? with
    | none => simpa [abs] using ih
    | some x =>
      obtain ⟨h1, h2⟩ := hW x (List.mem_of_getElem? hx)
      simp only [Option.map_some]
      show secs n size (splice (stl size L D W j) (x.sec * size) (x.xs.take (L j))) = _
      rw [secs_splice (stl_length hD hW j) h1 (by simp [h2]; omega), ih]
      rfl
theorem stlR_congr {L L' : Nat → Nat} {P : List Pr} {R : List (List Nat)} (j : Nat) (h : ∀ i, i < j → L i = L' i) : stlR L P R j = stlR L' P R j := by
  induction j with
  | zero => rfl
  | succ j ih =>
    rw [stlR, stlR, ih (fun i hi => h i (by omega)), h j (by omega)]
end Go.Proofs.YtonokaelbpfjnaaDoor
/- The document's Read. -/
namespace Go.Proofs.YtonokaelbpfjnaaDoor
open Go.RowKit Ap
attribute [local go_sem ↓] Go.wp_at_zero Go.wp_at_succ

def lastP (P : List Pr) (s : Nat) : Option (List Nat) := P.foldl (fun r x => if s = x.1 then some x.2 else r) none
theorem fold_skip (l : List Pr) (s : Nat) (r : Option (List Nat)) (h : ∀ x ∈ l, x.1 ≠ s) : l.foldl (fun r x => if s = x.1 then some x.2 else r) r = r := by
  induction l generalizing r with
  | nil => rfl
  | cons x l ih =>
    rw [List.foldl_cons, if_neg (fun e => h x (by simp) e.symm)]
    exact ih r (fun y hy => h y (by simp [hy]))
theorem lastP_none {P : List Pr} {s : Nat} (h : ∀ (k : Nat) (x : Pr), P[k]? = some x → x.1 ≠ s) : lastP P s = none :=
  fold_skip P s none (fun x hx => by obtain ⟨k, hk⟩ := List.getElem?_of_mem hx; exact h k x hk)
theorem lastP_some {P : List Pr} {s j : Nat} {y : List Nat} (hj : P[j]? = some (s, y)) (h : ∀ (k : Nat) (x : Pr), j < k → P[k]? = some x → x.1 ≠ s) : lastP P s = some y := by
  have e : P = P.take j ++ [(s, y)] ++ P.drop (j + 1) := by rw [← take_snoc P j _ hj, List.take_append_drop]
  rw [lastP, e, List.foldl_append, List.foldl_append]
  rw [fold_skip]
  · simp
  · intro x hx
    obtain ⟨k, hk⟩ := List.getElem?_of_mem hx
    rw [List.getElem?_drop] at hk
    exact h (j + 1 + k) x (by omega) hk
/-- What the document's disk finds in a sector. -/
def finds (P : List Pr) (R : List (List Nat)) (s : Nat) : List Nat := (lastP P s).getD (R[s]?.getD [])
def absV (V : List (Nat × Bx)) : List Pr := V.map (fun x => (x.1, x.2.xs))
theorem found_ref {n size : Nat} {D : List Nat} {W : List Wt} {P : List Pr} {R : List (List Nat)} {s : Nat} (hs : s < n) (hW : abs W = P) (hD : secs n size D = R) : found size D W s = finds P R s := by
  have key : ∀ V : List Wt, found size D V s = ((abs V).foldl (fun r x => if s = x.1 then some x.2 else r) none).getD (secOf size D s) := by
    intro V
    have e : (abs V).foldl (fun r x => if s = x.1 then some x.2 else r) none = (lastOf V s).map (fun x => x.xs) := by
      induction V using snoc_ind with
      | h0 => rfl
      | h1 l x ih =>
        rw [lastOf_snoc, abs, List.map_append, List.foldl_append]
        simp only [List.map_cons, List.map_nil, List.foldl_cons, List.foldl_nil]
        by_cases hx : s = x.sec
        · rw [if_pos hx, if_pos hx]; rfl
        · rw [if_neg hx, if_neg hx]; exact ih
    rw [e, found]
    cases lastOf V s <;> rfl
  rw [key, hW, finds, lastP, ← hD, secs_get _ _ _ _ hs]
  rfl
section
variable {w : World} {lo n size : Nat} {q : Rk} {r : Nat}
theorem RefAt.wcell (h : RefAt w lo n size q) {g cap m j : Nat} (hv : q.vw = .slice (some ⟨g, 0, none⟩) m cap) {x : Nat × Bx} (hx : q.V[j]? = some x) : w.cell? ⟨g, j * 2, none⟩ = some (.int .i64 (x.1 : Int)) ∧ w.cell? ⟨g, j * 2 + 1, none⟩ = some (.slice (some ⟨x.2.g, 0, none⟩) size x.2.c) := by
  obtain ⟨h1, h2⟩ := vcells_get q.V j x hx
  have c1 := h.wrow.cells (g := g) (by rw [hv]; rfl) _ _ h1
  have c2 := h.wrow.cells (g := g) (by rw [hv]; rfl) _ _ h2
  rw [Addr.add_lit, Nat.zero_add] at c1 c2
  rw [Nat.mul_comm j 2]
  rw [Bx.v, (h.wsz x (List.mem_of_getElem? hx)).2] at c2
  exact ⟨c1, c2⟩
end
end Go.Proofs.YtonokaelbpfjnaaDoor
