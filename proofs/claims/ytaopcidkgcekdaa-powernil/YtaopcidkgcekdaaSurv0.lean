/- What a crash leaves; what was written, kept beside the disk. -/
import Derived.Test.YtaopcidkgcekdaaSep
import Derived.Test.YtaopcidkgcekdaaLentF
namespace Go.Proofs.Ytaopcidkgcekdaa
open Go.RowKit Ap

theorem splice_nil (D : List Nat) (o : Nat) : splice D o [] = D := by simp [splice]
/-- Without fates nothing becomes durable. -/
theorem stl_lost (size : Nat) (D : List Nat) (W : List Wt) (j : Nat) : stl size (fun i => lasts (fateK [] i) (fateA [] i) size) D W j = D := by
  induction j with
  | zero => rfl
  | succ j ih =>
    rw [stl]
    split
    · have : lasts (fateK [] j) (fateA [] j) size = 0 := by simp [fateK, lasts]
      rw [this, List.take_zero, splice_nil, ih]
    · exact ih
/-- With all kept a sector is what was found. -/
theorem stlS_kept {n size : Nat} (W : List Wt) (hW : Fits n size W) (L : Nat → Nat) (hL : ∀ i, i < W.length → L i = size) (s : Nat) (old : List Nat) (ho : old.length = size) (j : Nat) (hj : j ≤ W.length) :
    stlS L W s old j = match lastOf (W.take j) s with
      | some x => x.xs
      | none => old := by
  induction j with
  | zero => rfl
  | succ j ih =>
    have hx := List.getElem?_eq_getElem (show j < W.length by omega)
    rw [take_snoc W j _ hx, lastOf_snoc, stlS, hx]
    show (if W[j].sec = s then over (W[j].xs.take (L j)) (stlS L W s old j) else stlS L W s old j) = _
    by_cases hs : W[j].sec = s
    · rw [if_pos hs, if_pos hs.symm]
      have h2 := (hW W[j] (List.getElem_mem _)).2
      rw [hL j (by omega), List.take_of_length_le (by omega), over]
      have h3 : (stlS L W s old j).length ≤ W[j].xs.length := by
        rw [ih (by omega), h2]
        cases hl : lastOf (W.take j) s with
        | none => simp [ho]
        | some x => exact Nat.le_of_eq (hW x (List.mem_of_mem_take (lastOf_mem hl).1)).2
      rw [List.drop_eq_nil_of_le h3, List.append_nil]
    · rw [if_neg hs, if_neg (fun e => hs e.symm)]
      exact ih (by omega)
theorem found_kept {n size : Nat} {D : List Nat} {W : List Wt} (hD : D.length = n * size) (hW : Fits n size W) (L : Nat → Nat) (hL : ∀ i, i < W.length → L i = size) (s : Nat) (hs : s < n) :
    secOf size (stl size L D W W.length) s = found size D W s := by
  rw [secOf_stl hD hW, stlS_kept W hW L hL s _ (secOf_length hD hs) W.length (Nat.le_refl _), List.take_length]
  rfl
/-- Each byte is as it was, or as one of the writes has it. -/
theorem stlS_byte (W : List Wt) (L : Nat → Nat) (s : Nat) (old : List Nat) (i : Nat) : ∀ j, (stlS L W s old j)[i]? = old[i]? ∨ ∃ (q : Nat) (x : Wt), W[q]? = some x ∧ x.sec = s ∧ (stlS L W s old j)[i]? = x.xs[i]?
  | 0 => Or.inl rfl
  | j + 1 => by
    have ih := stlS_byte W L s old i j
    rw [stlS]
    cases hx : W[j]? with
    | none => exact ih
    | some x =>
      show (if x.sec = s then over (x.xs.take (L j)) (stlS L W s old j) else stlS L W s old j)[i]? = _ ∨ ∃ (q : Nat) (y : Wt), _ ∧ _ ∧ (if x.sec = s then over (x.xs.take (L j)) (stlS L W s old j) else stlS L W s old j)[i]? = _
      by_cases hs : x.sec = s
      · rw [if_pos hs, over_get]
        by_cases hi : i < (x.xs.take (L j)).length
        · rw [if_pos hi]
          right
          refine ⟨j, x, hx, hs, ?_⟩
          rw [List.getElem?_take, if_pos (by simp at hi; omega)]
        · rw [if_neg hi]; exact ih
      · rw [if_neg hs]; exact ih
theorem fits_abs {n size : Nat} {W W' : List Wt} (h : abs W = abs W') (hW : Fits n size W) : Fits n size W' := by
  intro x hx
  have : (x.sec, x.xs) ∈ abs W := by rw [h]; exact List.mem_map.2 ⟨x, hx, rfl⟩
  obtain ⟨y, hy, e⟩ := List.mem_map.1 this
  simp only [Prod.mk.injEq] at e
  rw [← e.1, ← e.2]
  exact hW y hy

theorem own_block {w : World} {B : Nat} {e : TypeId} {s : Nat} {v : Value} {n : Nat} {xs : List Value} (h : w.ownsRow B e s v n xs) : ∀ g, v.ownBlock = some g → B ≤ g ∧ ∃ cur, w.heap[g]? = some (.cells cur e (0, 0)) := by
  intro g hg
  rcases h.2 with ⟨rfl, _⟩ | ⟨g', cap, cur, rfl, h1, h2, _⟩
  · cases hg
  · cases hg; exact ⟨h1, cur, h2⟩
theorem own_form {w : World} {B : Nat} {e : TypeId} {s : Nat} {v : Value} {n : Nat} {xs : List Value} (h : w.ownsRow B e s v n xs) : ∃ ao cap, v = .slice ao n cap ∧ (0 < n → ∃ g, ao = some ⟨g, 0, none⟩) ∧ n ≤ cap ∧ (ao = none → n = 0 ∧ cap = 0) := by
  rcases h.2 with ⟨rfl, rfl⟩ | ⟨g', cap, cur, rfl, h1, h2, h3, _⟩
  · exact ⟨none, 0, rfl, fun h => absurd h (Nat.lt_irrefl _), Nat.le_refl _, fun _ => ⟨rfl, rfl⟩⟩
  · exact ⟨_, cap, rfl, fun _ => ⟨g', rfl⟩, h3, fun e => by cases e⟩
section
variable {w0 w w' : World} {k : Dk} {n size : Nat} {D : List Nat} {W : List Wt}
/-- An append to a row of another type. -/
theorem DkS.after (h : DkS w0 w k n size D W) {v : Value} (hg : w.grownBy w' v.ownBlock) (hv : ∀ b, v.ownBlock = some b → w0.heap.size ≤ b ∧ ∃ c t, w.heap[b]? = some (.cells c t (0, 0)) ∧ t ≠ 32 ∧ t ≠ 5 ∧ t ≠ 71) : DkS w0 w' k n size D W := by
  refine ⟨h.disk.same fun i hi => hg.block i (h.disk.lt i hi) ?_, h.own, grown_then h.grown hg (fun j e => Or.inl (hv j e).1)⟩
  intro e
  obtain ⟨_, c, t, h1, h2, h3, h4⟩ := hv i e.symm
  rcases hi with hi | ⟨x, hx, rfl⟩
  · exact h.disk.other_off h1 h2 h3 h4 hi
  · rw [(h.disk.waits x hx).2.2.2] at h1; simp at h1; exact h3 h1.2.symm
end
/-- Copy once more: all its blocks are new. -/
theorem copyT {w0 w : World} {k : Dk} {n size : Nat} {D : List Nat} {W : List Wt} {d : Nat} (hd : k.d = d) (h : DkS w0 w k n size D W) : Calls Try.prog 46 #[.pointer (some ⟨d, 0, none⟩)] w fun e w' => ∃ k' : Dk, e = .returned (.pointer (some ⟨k'.d, 0, none⟩)) ∧ DkS w0 w' k' n size D W ∧ Sep k W k' W ∧ w.grownBy w' none ∧ ∀ i, k'.own i → w.heap.size ≤ i := by
  subst hd
  refine (copy_any h.disk).mono ?_
  rintro e w' ⟨k', rfl, h1, h2, h3⟩
  refine ⟨k', rfl, ⟨h1, fun i hi => Nat.le_trans h.grown.size (h2 i hi), grown_trans h.grown h3⟩, ⟨?_, ?_⟩, h3, h2⟩
  · rintro i hi (hf | ⟨x, hx, rfl⟩)
    · have := h2 i hf; have := h.disk.lt i (.inl hi); omega
    · exact h.disk.blk_ne hx hi
  · intro i hi hf
    have := h2 i hi; have := h.disk.lt i hf; omega
/-- Two copies of one disk. -/
theorem sep_copies {w0 w : World} {k k1 k2 : Dk} {n size : Nat} {D : List Nat} {W : List Wt} (h1 : DkS w0 w k1 n size D W) (s1 : Sep k W k1 W) (h2 : ∀ i, k2.own i → w.heap.size ≤ i) : Sep k1 W k2 W := by
  refine ⟨?_, ?_⟩
  · rintro i hi (hf | ⟨x, hx, rfl⟩)
    · have := h2 i hf; have := h1.disk.lt i (.inl hi); omega
    · exact s1.r _ hi (.inr ⟨x, hx, rfl⟩)
  · intro i hi hf
    have := h2 i hi; have := h1.disk.lt i hf; omega
/-- What was written, and where. -/
structure Log (w : World) (B : Nat) (v u : Value) (W : List Wt) (gs : List Nat) : Prop where
  wro : w.ownsRow B 22 1 v W.length (slv 64 gs)
  whe : w.ownsRow B 3 1 u W.length (W.map fun x => .int .i64 (x.sec : Int))
  len : gs.length = W.length
  rows : ∀ (i g : Nat) (x : Wt), gs[i]? = some g → W[i]? = some x → w.heap[g]? = some (.cells (bv x.xs).toArray 5 (0, 0)) ∧ B ≤ g
theorem Log.same {w w' : World} {B : Nat} {v u : Value} {W : List Wt} {gs : List Nat} (h : Log w B v u W gs) (hb : ∀ i, B ≤ i → (∃ c t, (t = 22 ∨ t = 3 ∨ t = 5) ∧ w.heap[i]? = some (.cells c t (0, 0))) → w'.heap[i]? = w.heap[i]?) : Log w' B v u W gs := by
  refine ⟨?_, ?_, h.len, ?_⟩
  · refine ⟨h.wro.1, ?_⟩
    rcases h.wro.2 with e | ⟨g, cap, cur, rfl, h1, h2, h3⟩
    · exact Or.inl e
    · exact Or.inr ⟨g, cap, cur, rfl, h1, (hb g h1 ⟨cur, 22, .inl rfl, h2⟩).trans h2, h3⟩
  · refine ⟨h.whe.1, ?_⟩
    rcases h.whe.2 with e | ⟨g, cap, cur, rfl, h1, h2, h3⟩
    · exact Or.inl e
    · exact Or.inr ⟨g, cap, cur, rfl, h1, (hb g h1 ⟨cur, 3, .inr (.inl rfl), h2⟩).trans h2, h3⟩
  · intro i g x h1 h2
    obtain ⟨r1, r2⟩ := h.rows i g x h1 h2
    exact ⟨(hb g r2 ⟨_, 5, .inr (.inr rfl), r1⟩).trans r1, r2⟩
theorem Log.grown {w w' : World} {B : Nat} {v u : Value} {W : List Wt} {gs : List Nat} (h : Log w B v u W gs) (hg : w.grownBy w' none) : Log w' B v u W gs :=
  h.same fun i _ ⟨_, _, _, hi⟩ => hg.block i (row_lt hi) (by simp)
theorem Log.moved {w w' : World} {B : Nat} {v u : Value} {W : List Wt} {gs : List Nat} {k k' : Dk} {n size : Nat} {D : List Nat} {V V' : List Wt} (h : Log w B v u W gs) (hk : DiskAt w k n size D V) (hm : Moved w w' k k' V V') (hB : k.db < B) : Log w' B v u W gs :=
  h.same fun i hi ⟨c, t, ht, hc⟩ => hm.kept.block i (row_lt hc) (by
    rcases ht with rfl | rfl | rfl
    · exact hk.other_off hc (by decide) (by decide) (by decide)
    · exact hk.other_off hc (by decide) (by decide) (by decide)
    · exact hk.bytes_off hc (by omega))
/-- Its blocks. -/
def lblk (v u : Value) (gs : List Nat) (i : Nat) : Prop := v.ownBlock = some i ∨ u.ownBlock = some i ∨ i ∈ gs
theorem Log.off {w w' : World} {B : Nat} {v u : Value} {W : List Wt} {gs : List Nat} {S : Nat → Prop} (h : Log w B v u W gs) (hk : Kept w w' S) (hS : ∀ i, lblk v u gs i → ¬ S i) : Log w' B v u W gs := by
  refine ⟨?_, ?_, h.len, ?_⟩
  · refine ⟨h.wro.1, ?_⟩
    rcases h.wro.2 with e | ⟨g, cap, cur, rfl, h1, h2, h3⟩
    · exact Or.inl e
    · exact Or.inr ⟨g, cap, cur, rfl, h1, hk.at h2 (hS g (.inl rfl)), h3⟩
  · refine ⟨h.whe.1, ?_⟩
    rcases h.whe.2 with e | ⟨g, cap, cur, rfl, h1, h2, h3⟩
    · exact Or.inl e
    · exact Or.inr ⟨g, cap, cur, rfl, h1, hk.at h2 (hS g (.inr (.inl rfl))), h3⟩
  · intro i g x h1 h2
    obtain ⟨r1, r2⟩ := h.rows i g x h1 h2
    exact ⟨hk.at r1 (hS g (.inr (.inr (List.mem_of_getElem? h1)))), r2⟩
theorem Log.lt {w : World} {B : Nat} {v u : Value} {W : List Wt} {gs : List Nat} (h : Log w B v u W gs) : ∀ i, lblk v u gs i → i < w.heap.size := by
  rintro i (e | e | e)
  · obtain ⟨_, c, q⟩ := own_block h.wro i e; exact row_lt q
  · obtain ⟨_, c, q⟩ := own_block h.whe i e; exact row_lt q
  · obtain ⟨j, hj⟩ := List.getElem?_of_mem e
    have hl : j < W.length := by rw [← h.len]; exact (List.getElem?_eq_some_iff.1 hj).1
    exact row_lt (h.rows j i W[j] hj (List.getElem?_eq_getElem hl)).1
/-- Rows that were found. -/
structure FAt (w : World) (B gf cap : Nat) (fs : List Nat) (R : List (List Nat)) : Prop where
  row : w.ownsRow B 22 1 (.slice (some ⟨gf, 0, none⟩) R.length cap) R.length (slv 64 fs)
  len : fs.length = R.length
  rows : ∀ (i g : Nat) (xs : List Nat), fs[i]? = some g → R[i]? = some xs → w.heap[g]? = some (.cells (bv xs).toArray 5 (0, 0)) ∧ B ≤ g ∧ xs.length = 64
theorem FAt.off {w w' : World} {B gf cap : Nat} {fs : List Nat} {R : List (List Nat)} {S : Nat → Prop} (h : FAt w B gf cap fs R) (hk : Kept w w' S) (hS : ∀ i, B ≤ i → ¬ S i) : FAt w' B gf cap fs R := by
  refine ⟨?_, h.len, ?_⟩
  · refine ⟨h.row.1, ?_⟩
    rcases h.row.2 with e | ⟨g, cap, cur, e, h1, h2, h3⟩
    · exact Or.inl e
    · exact Or.inr ⟨g, cap, cur, e, h1, hk.at h2 (hS g h1), h3⟩
  · intro i g xs h1 h2
    obtain ⟨r1, r2, r3⟩ := h.rows i g xs h1 h2
    exact ⟨hk.at r1 (hS g r2), r2, r3⟩
theorem FAt.grown {w w' : World} {B gf cap : Nat} {fs : List Nat} {R : List (List Nat)} (h : FAt w B gf cap fs R) (hg : w.grownBy w' none) : FAt w' B gf cap fs R := h.off (Kept.new hg (fun _ => False)) (fun _ _ e => e)
/-- What is found in each sector. -/
def foundR (D : List Nat) (W : List Wt) : List (List Nat) := (List.range 4).map (found 64 D W)
theorem foundR_get (D : List Nat) (W : List Wt) (i : Nat) (h : i < 4) : (foundR D W)[i]? = some (found 64 D W i) := by simp [foundR, h]
theorem found_length {n size : Nat} {D : List Nat} {W : List Wt} (hD : D.length = n * size) (hW : Fits n size W) (s : Nat) (hs : s < n) : (found size D W s).length = size := by
  unfold found
  cases hl : lastOf W s with
  | none => exact secOf_length hD hs
  | some x => exact (hW x (lastOf_mem hl).1).2
theorem secs_kept {D : List Nat} {W : List Wt} (hD : D.length = 4 * 64) (hW : Fits 4 64 W) (L : Nat → Nat) (hL : ∀ i, i < W.length → L i = 64) : secs 4 64 (stl 64 L D W W.length) = foundR D W := by
  unfold secs foundR
  apply List.map_congr_left
  intro s hs
  exact found_kept hD hW L hL s (by simpa using hs)
theorem FAt.rowsAt {w : World} {B gf cap : Nat} {fs : List Nat} {R : List (List Nat)} (h : FAt w B gf cap fs R) : RowsAt w (some ⟨gf, 0, none⟩) R := by
  intro j xs hj
  have hlt : j < fs.length := by rw [h.len]; exact (List.getElem?_eq_some_iff.1 hj).1
  obtain ⟨r1, _, r3⟩ := h.rows j fs[j] xs (List.getElem?_eq_getElem hlt) hj
  refine ⟨gf, 0, some ⟨fs[j], 0, none⟩, 64, rfl, ?_, at_row r1, by omega⟩
  have := h.row.cells rfl j (bsl fs[j] 64) (by rw [slv, List.getElem?_map, List.getElem?_eq_getElem hlt]; rfl)
  rw [Addr.add_lit] at this
  rw [this, r3]
  rfl
theorem FatesAt.off {w w' : World} {fo : Option Addr} {F : List (Int × Int)} {S : Nat → Prop} {B : Nat} (h : FatesAt w fo F) (hk : Kept w w' S) (hB : ∀ a, fo = some a → 0 < F.length → B ≤ a.block) (hS : ∀ i, B ≤ i → ¬ S i) : FatesAt w' fo F := by
  intro j p hj
  obtain ⟨b, o, e, h1, h2⟩ := h j p hj
  have hl : 0 < F.length := Nat.lt_of_le_of_lt (Nat.zero_le _) (List.getElem?_eq_some_iff.1 hj).1
  have hb := hB ⟨b, o, none⟩ e hl
  have key : ∀ (q : Nat) (x : Value), w.cell? ⟨b, q, none⟩ = some x → w'.cell? ⟨b, q, none⟩ = some x := fun q x hx => (World.cell?_of_block (hk.block b (cell_lt hx) (hS b hb))).trans hx
  exact ⟨b, o, e, key _ _ h1, key _ _ h2⟩
theorem calm_own {k : Dk} {i : Nat} (h : k.calm.own i) : k.own i := by
  rcases h with e | e | e | e
  · exact .inl e
  · exact .inr (.inl e)
  · simp [Dk.calm, Value.ownBlock] at e
  · exact .inr (.inr (.inr e))
theorem log_abs {w : World} {B : Nat} {v u : Value} {W W' : List Wt} {gs : List Nat} (h : Log w B v u W gs) (e : abs W = abs W') : Log w B v u W' gs := by
  have hl : W'.length = W.length := by rw [← abs_length, ← e, abs_length]
  have hm : (W'.map fun x => Value.int .i64 (x.sec : Int)) = W.map fun x => Value.int .i64 (x.sec : Int) := by
    have h1 : ∀ V : List Wt, (V.map fun x => Value.int .i64 (x.sec : Int)) = (abs V).map fun p => Value.int .i64 (p.1 : Int) := fun V => by simp [abs]
    rw [h1, h1, e]
  refine ⟨by rw [hl]; exact h.wro, by rw [hl, hm]; exact h.whe, by rw [hl]; exact h.len, ?_⟩
  intro i g x h1 h2
  have hi : i < W.length := by rw [← hl]; exact (List.getElem?_eq_some_iff.1 h2).1
  have h3 : (abs W)[i]? = (abs W')[i]? := by rw [e]
  simp only [abs, List.getElem?_map, List.getElem?_eq_getElem hi, h2, Option.map_some, Option.some.injEq, Prod.mk.injEq] at h3
  rw [← h3.2]
  exact h.rows i g W[i] h1 (List.getElem?_eq_getElem hi)
end Go.Proofs.Ytaopcidkgcekdaa
