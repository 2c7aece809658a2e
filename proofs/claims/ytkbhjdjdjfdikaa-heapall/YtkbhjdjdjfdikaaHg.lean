/- An item goes. -/
import Derived.Test.YtkbhjdjdjfdikaaHe
import Derived.Test.YtkbhjdjdjfdikaaHf
namespace Go.Proofs.Ytkbhjdjdjfdikaa
open Go.RowKit Ap
attribute [local go_sem ↓] Go.wp_at_zero Go.wp_at_succ
/-- A heap in the midst of a change: its rows' cells, what its map answers. -/
structure HpR (w : World) (L : Les) (p : Hp) (ne : Nat) (cs : List Value) (nt : Nat) (ts : List Value) (N B : Nat) (f : Int → Option Value) : Prop where
  head : w.heap[p.h]? = some (.cells (hpc L p.h (N : Int) p.ve p.vl p.mb).toArray 57 (0, 0))
  ent : w.ownsRow 0 82 2 p.ve ne cs
  lst : w.ownsRow 0 3 1 p.vl nt ts
  map : MapAt w Try.prog 3 p.mb B f
  inv : L.I w
  off : ∀ i, p.own i → ¬ L.F i
section
variable {w w' : World} {L : Les} {p : Hp} {E : List (Nat × Int)} {T : List Nat} {N B : Nat} {ne nt : Nat} {cs ts : List Value} {f : Int → Option Value}
theorem HpAt.raw (h : HpAt w L p E T N B) : HpR w L p E.length (ecells E) T.length (tcells T) N B (plf E) := ⟨h.head, h.ent, h.lst, h.map, h.inv, h.off⟩
theorem HpR.lt (h : HpR w L p ne cs nt ts N B f) : ∀ i, p.own i → i < w.heap.size := by
  rintro i (rfl | hi | hi | rfl)
  · exact row_lt h.head
  · exact (h.ent.lt i hi).2
  · exact (h.lst.lt i hi).2
  · exact h.map.lt
theorem HpR.far {X : Nat → Prop} (h : HpR w L p ne cs nt ts N B f) (k : Kept w w' X) (hX : ∀ i, p.own i → ¬ X i) (hI : L.I w') : HpR w' L p ne cs nt ts N B f :=
  ⟨k.at h.head (hX _ (.inl rfl)), row_same h.ent (fun g hg => k.block g (h.lt g (.inr (.inl hg))) (hX g (.inr (.inl hg)))), row_same h.lst (fun g hg => k.block g (h.lt g (.inr (.inr (.inl hg)))) (hX g (.inr (.inr (.inl hg))))), h.map.same (k.block _ h.map.lt (hX _ (.inr (.inr (.inr rfl))))), hI, h.off⟩
theorem HpR.then (hL : L.Ok) (h : HpR w L p ne cs nt ts N B f) (g : w.grownBy w' none) : HpR w' L p ne cs nt ts N B f :=
  h.far (X := fun _ => False) (Kept.new g _) (fun _ _ e => e) (hL.keep w w' (fun _ => False) h.inv (Kept.new g _) (fun _ e => e.elim))
theorem row_block {w : World} {e : TypeId} {size : Nat} {v : Value} {n : Nat} {xs : List Value} (h : w.ownsRow 0 e size v n xs) {g : Nat} (hg : v.ownBlock = some g) : ∃ cur, w.heap[g]? = some (.cells cur e (0, 0)) := by
  rcases h.2 with ⟨hq2, _⟩ | ⟨g2, c2, cu2, hq2, hq3, hq4, _⟩
  · rw [hq2] at hg; cases hg
  · rw [hq2] at hg; cases hg; exact ⟨cu2, hq4⟩
theorem HpR.apart (h : HpR w L p ne cs nt ts N B f) : (∀ g, p.ve.ownBlock = some g → g ≠ p.h ∧ g ≠ p.mb ∧ p.vl.ownBlock ≠ some g) ∧ (∀ g, p.vl.ownBlock = some g → g ≠ p.h ∧ g ≠ p.mb ∧ p.ve.ownBlock ≠ some g) ∧ p.h ≠ p.mb := by
  obtain ⟨es, ck, hm⟩ := h.map.block
  have hh := h.head
  refine ⟨fun g hg => ?_, fun g hg => ?_, fun e => by rw [e, hm] at hh; cases hh⟩
  · obtain ⟨cur, hc⟩ := row_block h.ent hg
    refine ⟨fun e => ?_, fun e => ?_, fun e => ?_⟩
    · rw [← e, hc] at hh; simp at hh
    · rw [← e, hc] at hm; cases hm
    · obtain ⟨c2, h2⟩ := row_block h.lst e; rw [hc] at h2; simp at h2
  · obtain ⟨cur, hc⟩ := row_block h.lst hg
    refine ⟨fun e => ?_, fun e => ?_, fun e => ?_⟩
    · rw [← e, hc] at hh; simp at hh
    · rw [← e, hc] at hm; cases hm
    · obtain ⟨c2, h2⟩ := row_block h.ent e; rw [hc] at h2; simp at h2
/-- The map alone turned. -/
theorem HpR.mapped (hL : L.Ok) (h : HpR w L p ne cs nt ts N B f) {B' : Nat} {f' : Int → Option Value} (hg : w.grownBy w' (some p.mb)) (hm : MapAt w' Try.prog 3 p.mb B' f') : HpR w' L p ne cs nt ts N B' f' ∧ Kept w w' p.own := by
  obtain ⟨a1, a2, a3⟩ := h.apart
  have k : Kept w w' (fun i => i = p.mb) := Kept.of hg (fun j e _ => (Option.some.inj e).symm)
  exact ⟨⟨k.at h.head a3, row_same h.ent (fun g hg => k.block g (h.lt g (.inr (.inl hg))) (a1 g hg).2.1), row_same h.lst (fun g hg => k.block g (h.lt g (.inr (.inr (.inl hg)))) (a2 g hg).2.1), hm, hL.keep _ _ _ h.inv k (fun i e => by rw [e]; exact h.off _ (.inr (.inr (.inr rfl)))), h.off⟩, k.mono (fun i _ e => by rw [e]; exact .inr (.inr (.inr rfl)))⟩
/-- A cell of the entries is written. -/
theorem HpR.setE (hL : L.Ok) (h : HpR w L p ne cs nt ts N B f) {g cap : Nat} (hv : p.ve = .slice (some ⟨g, 0, none⟩) ne cap) (hne : 0 < ne) (j : Nat) (u : Value) : HpR (w.setCell ⟨g, j, none⟩ u) L p ne (cs.set j u) nt ts N B f ∧ Kept w (w.setCell ⟨g, j, none⟩ u) p.own := by
  obtain ⟨a1, a2, a3⟩ := h.apart
  obtain ⟨g', cap', cur, hv', hg, hn, hm, hs, ht⟩ := own_row h.ent hne
  rw [hv] at hv'
  cases hv'
  have hown : p.ve.ownBlock = some g := by rw [hv]; rfl
  have k := kept_setCell w g j u
  refine ⟨⟨k.at h.head (fun e => (a1 g hown).1 e.symm), ?_, row_same h.lst (fun q hq => k.block q (h.lt q (.inr (.inr (.inl hq)))) (fun e => (a1 g hown).2.2 (by rw [← e]; exact hq))), h.map.same (k.block _ h.map.lt (fun e => (a1 g hown).2.1 e.symm)), hL.keep _ _ _ h.inv k (fun i e => by rw [e]; exact h.off _ (.inr (.inl hown))), h.off⟩, k.mono (fun i _ e => by rw [e]; exact .inr (.inl hown))⟩
  refine ⟨by rw [List.length_set]; exact h.ent.1, Or.inr ⟨g, cap, (cur.set j u).toArray, hv, Nat.zero_le _, row_setCell hg j _, hn, hm, by simpa using hs, ?_⟩⟩
  rw [← ht]
  simp [List.take_set]
theorem row_cut {w : World} {e : TypeId} {size : Nat} {v : Value} {n : Nat} {xs : List Value} (h : w.ownsRow 0 e size v n xs) {m : Nat} (hm : m ≤ n) {g cap : Nat} (hv : v = .slice (some ⟨g, 0, none⟩) n cap) : w.ownsRow 0 e size (.slice (some ⟨g, 0, none⟩) m cap) m (xs.take (m * size)) := by
  refine ⟨by rw [List.length_take, h.1]; exact Nat.min_eq_left (Nat.mul_le_mul_right _ hm), ?_⟩
  rcases h.2 with ⟨h1, h0⟩ | ⟨g', cap', cur, hv', hb, hg, hn, hm', hs, ht⟩
  · rw [hv] at h1; cases h1
  · rw [hv] at hv'
    cases hv'
    refine Or.inr ⟨g, cap, cur, rfl, Nat.zero_le _, hg, by omega, hm', hs, ?_⟩
    rw [← ht, List.take_take, Nat.min_eq_left (Nat.mul_le_mul_right _ hm)]
/-- Both rows are cut. -/
theorem HpR.cut (hL : L.Ok) (h : HpR w L p ne cs nt ts N B f) {ge ce gl cl m : Nat} (hve : p.ve = .slice (some ⟨ge, 0, none⟩) ne ce) (hvl : p.vl = .slice (some ⟨gl, 0, none⟩) nt cl) (he : m ≤ ne) (hl : m ≤ nt) (hs : (w.setCell ⟨p.h, 4, none⟩ (.slice (some ⟨ge, 0, none⟩) m ce)).setCell ⟨p.h, 5, none⟩ (.slice (some ⟨gl, 0, none⟩) m cl) = w') :
    HpR w' L ⟨p.h, .slice (some ⟨ge, 0, none⟩) m ce, .slice (some ⟨gl, 0, none⟩) m cl, p.mb⟩ m (cs.take (m * 2)) m (ts.take m) N B f ∧ Kept w w' p.own := by
  obtain ⟨a1, a2, a3⟩ := h.apart
  subst hs
  have hoe : p.ve.ownBlock = some ge := by rw [hve]; rfl
  have hol : p.vl.ownBlock = some gl := by rw [hvl]; rfl
  have k := (kept_setCell w p.h 4 (.slice (some ⟨ge, 0, none⟩) m ce)).trans (kept_setCell _ p.h 5 (.slice (some ⟨gl, 0, none⟩) m cl)) (fun _ _ e => e)
  refine ⟨⟨row_setCell (row_setCell h.head 4 _) 5 _, ?_, ?_, h.map.same (k.block _ h.map.lt (fun e => a3 e.symm)), hL.keep _ _ _ h.inv k (fun i e => by rw [e]; exact h.off _ (.inl rfl)), ?_⟩, k.mono (fun i _ e => .inl e)⟩
  · exact row_cut (row_same h.ent (fun g hg => k.block g (h.lt g (.inr (.inl hg))) (a1 g hg).1)) he hve
  · have := row_cut (row_same h.lst (fun g hg => k.block g (h.lt g (.inr (.inr (.inl hg)))) (a2 g hg).1)) hl hvl
    rw [Nat.mul_one] at this
    exact this
  · rintro i (e | e | e | e)
    · exact h.off i (.inl e)
    · exact h.off i (.inr (.inl (by rw [hoe]; exact e)))
    · exact h.off i (.inr (.inr (.inl (by rw [hol]; exact e))))
    · exact h.off i (.inr (.inr (.inr e)))
theorem HpR.cells (h : HpR w L p ne cs nt ts N B f) : w.cell? ⟨p.h, 4, none⟩ = some p.ve ∧ w.cell? ⟨p.h, 5, none⟩ = some p.vl ∧ w.cell? ⟨p.h, 6, none⟩ = some (.map (some p.mb)) := ⟨cell_row h.head 4, cell_row h.head 5, cell_row h.head 6⟩
theorem slice_E (ao : Option Addr) (len cap n : Nat) (h : n ≤ cap) (w : World) : (Instr.slice 53 (.slice ao len cap) none (some (.int .i64 (n : Int))) none).run Try.prog w = .ok (.slice ao n cap) w := by
  simp [Instr.slice, run_underlying Try.underlying53, Instr.sliceBounds, Instr.sliceBound, asIntOf, h]
  intro _; cases ao <;> simp [Addr.add]
theorem slice_T (ao : Option Addr) (len cap n : Nat) (h : n ≤ cap) (w : World) : (Instr.slice 54 (.slice ao len cap) none (some (.int .i64 (n : Int))) none).run Try.prog w = .ok (.slice ao n cap) w := by
  simp [Instr.slice, run_underlying Try.underlying54, Instr.sliceBounds, Instr.sliceBound, asIntOf, h]
  intro _; cases ao <;> simp [Addr.add]
/-- No two items have one handle; all handles lie below N. -/
structure Hds (E : List (Nat × Int)) (N : Nat) : Prop where
  inj : ∀ i j, i < E.length → j < E.length → (en E i).1 = (en E j).1 → i = j
  below : ∀ i, i < E.length → (en E i).1 < N
theorem plf_eq (E : List (Nat × Int)) (x : Int) : plf E x = (fi E x).map fun (i : Nat) => Value.int .i64 (i : Int) := by unfold plf fi; cases E.findIdx? _ <;> rfl
theorem fi_at {E : List (Nat × Int)} {N : Nat} (h : Hds E N) {i : Nat} (hi : i < E.length) : fi E ((en E i).1 : Int) = some i := by
  unfold fi
  rw [List.findIdx?_eq_some_iff_getElem]
  have he : en E i = E[i] := by unfold en; rw [List.getElem?_eq_getElem hi]; rfl
  refine ⟨hi, by rw [he]; simp, fun j hj => ?_⟩
  rw [he]
  intro e
  have e2 : (en E j).1 = (en E i).1 := by
    rw [he]
    unfold en
    rw [List.getElem?_eq_getElem (show j < E.length by omega)]
    have e3 : ((E[j].1 : Nat) : Int) = ((E[i].1 : Nat) : Int) := by simpa using e
    show E[j].1 = E[i].1
    omega
  have := h.inj j i (by omega) hi e2
  omega
theorem fi_none {E : List (Nat × Int)} {x : Int} (h : ∀ i, i < E.length → ((en E i).1 : Int) ≠ x) : fi E x = none := by
  unfold fi
  rw [List.findIdx?_eq_none_iff]
  intro e he
  obtain ⟨i, hi, rfl⟩ := List.getElem_of_mem he
  have := h i hi
  unfold en at this
  rw [List.getElem?_eq_getElem hi] at this
  simpa using this
theorem fi_some {E : List (Nat × Int)} {N : Nat} (h : Hds E N) {x : Int} {i : Nat} (hi : i < E.length) (hx : ((en E i).1 : Int) = x) : fi E x = some i := by rw [← hx]; exact fi_at h hi
theorem outE_get {E : List (Nat × Int)} {i j : Nat} (hi : i < E.length) (hj : j < E.length - 1) : en (outE E i) j = if j = i then en E (E.length - 1) else en E j := by
  split
  · rename_i e
    subst e
    unfold en outE
    rw [List.getElem?_take, if_pos hj, List.getElem?_set_self hi]
    rfl
  · rename_i e
    exact en_out hj e
theorem en_inj {E : List (Nat × Int)} {N : Nat} (h : Hds E N) {i j : Nat} (hi : i < E.length) (hj : j < E.length) (e : (en E i).1 = (en E j).1) : i = j := h.inj i j hi hj e
theorem Hds.at {E : List (Nat × Int)} {N : Nat} (h : Hds E N) {i : Nat} (hi : i < E.length) : (en E i).1 < N := h.below i hi
theorem Hds.out {E : List (Nat × Int)} {N : Nat} (h : Hds E N) {i : Nat} (hi : i < E.length) : Hds (outE E i) N := by
  refine Hds.mk (fun a b ha hb e => ?_) (fun a ha => ?_)
  · rw [outE_length] at ha hb
    rw [outE_get hi ha, outE_get hi hb] at e
    split at e <;> split at e
    · omega
    · have := en_inj h (by omega) (by omega) e; omega
    · have := en_inj h (by omega) (by omega) e; omega
    · exact en_inj h (by omega) (by omega) e
  · rw [outE_length] at ha
    rw [outE_get hi ha]
    split
    · exact h.at (by omega)
    · exact h.at (by omega)
/-- What the map answers behind it. -/
theorem plf_out {E : List (Nat × Int)} {N : Nat} (h : Hds E N) {i : Nat} (hi : i < E.length - 1) (x : Int) :
    (if x = ((en E (E.length - 1)).1 : Int) then some (Value.int .i64 (i : Int)) else if x = ((en E i).1 : Int) then none else plf E x) = plf (outE E i) x := by
  have ho := h.out (i := i) (by omega)
  rw [plf_eq, plf_eq]
  split
  · rename_i e
    rw [fi_some ho (i := i) (by rw [outE_length]; omega) (by rw [outE_get (by omega) hi, if_pos rfl]; exact e.symm)]
    rfl
  · rename_i e
    split
    · rename_i e2
      rw [fi_none]
      · rfl
      · intro j hj ex
        rw [outE_length] at hj
        rw [outE_get (by omega) hj] at ex
        split at ex
        · exact e ex.symm
        · have := en_inj h (i := j) (j := i) (by omega) (by omega) (by omega); omega
    · rename_i e2
      cases hf : fi E x with
      | none =>
        rw [fi_none]
        intro j hj ex
        rw [outE_length] at hj
        rw [outE_get (by omega) hj] at ex
        split at ex
        · exact e ex.symm
        · rw [fi_some h (by omega) ex] at hf; cases hf
      | some j =>
        obtain ⟨h1, h2⟩ := fi_lt hf
        have hj1 : j ≠ E.length - 1 := fun e3 => e (by rw [← h2, e3])
        have hj2 : j ≠ i := fun e3 => e2 (by rw [← h2, e3])
        rw [fi_some ho (i := j) (by rw [outE_length]; omega) (by rw [outE_get (by omega) (by omega), if_neg hj2]; exact h2)]
theorem plf_out_last {E : List (Nat × Int)} {N : Nat} (h : Hds E N) (hE : 0 < E.length) (x : Int) :
    (if x = ((en E (E.length - 1)).1 : Int) then none else plf E x) = plf (outE E (E.length - 1)) x := by
  have ho := h.out (i := E.length - 1) (by omega)
  rw [plf_eq, plf_eq]
  have hg : ∀ j, j < E.length - 1 → en (outE E (E.length - 1)) j = en E j := fun j hj => en_out hj (by omega)
  split
  · rename_i e
    rw [fi_none]
    · rfl
    · intro j hj ex
      rw [outE_length] at hj
      rw [hg j hj] at ex
      have := en_inj h (i := j) (j := E.length - 1) (by omega) (by omega) (by omega); omega
  · rename_i e
    cases hf : fi E x with
    | none =>
      rw [fi_none]
      intro j hj ex
      rw [outE_length] at hj
      rw [hg j hj] at ex
      rw [fi_some h (by omega) ex] at hf; cases hf
    | some j =>
      obtain ⟨h1, h2⟩ := fi_lt hf
      have hj1 : j ≠ E.length - 1 := fun e3 => e (by rw [← h2, e3])
      rw [fi_some ho (i := j) (by rw [outE_length]; omega) (by rw [hg j (by omega)]; exact h2)]
theorem ecells_set (E : List (Nat × Int)) (i : Nat) (x : Nat × Int) : ecells (E.set i x) = ((ecells E).set (i * 2) (.int .i64 (x.1 : Int))).set (i * 2 + 1) (.int .i64 x.2) := by
  induction E generalizing i with
  | nil => simp [ecells]
  | cons y r ih =>
    have e : ∀ (y : Nat × Int) r, ecells (y :: r) = .int .i64 (y.1 : Int) :: .int .i64 y.2 :: ecells r := fun y r => by simp [ecells]
    cases i with
    | zero => rw [List.set_cons_zero, e, e]; rfl
    | succ i => rw [List.set_cons_succ, e, e, ih i, show (i + 1) * 2 = i * 2 + 1 + 1 by omega]; rfl
theorem ecells_take (E : List (Nat × Int)) (m : Nat) : ecells (E.take m) = (ecells E).take (m * 2) := by
  induction E generalizing m with
  | nil => simp [ecells]
  | cons y r ih =>
    have e : ∀ (y : Nat × Int) r, ecells (y :: r) = .int .i64 (y.1 : Int) :: .int .i64 y.2 :: ecells r := fun y r => by simp [ecells]
    cases m with
    | zero => simp [ecells]
    | succ m => rw [List.take_succ_cons, e, e, ih m, show (m + 1) * 2 = m * 2 + 1 + 1 by omega]; rfl
/-- The entries' cells behind it. -/
theorem ecells_out {E : List (Nat × Int)} {i : Nat} (u v : Value) : (((((ecells E).set (i * 2) (.int .i64 ((en E (E.length - 1)).1 : Int))).set (i * 2 + 1) (.int .i64 (en E (E.length - 1)).2)).set ((E.length - 1) * 2) u).set ((E.length - 1) * 2 + 1) v).take ((E.length - 1) * 2) = ecells (outE E i) := by
  unfold outE
  rw [ecells_take, ecells_set, List.take_set, List.take_set, List.set_eq_of_length_le (by simp; omega), List.set_eq_of_length_le (by simp; omega)]
theorem ecells_out_last {E : List (Nat × Int)} (u v : Value) : (((ecells E).set ((E.length - 1) * 2) u).set ((E.length - 1) * 2 + 1) v).take ((E.length - 1) * 2) = ecells (outE E (E.length - 1)) := by
  unfold outE
  rw [ecells_take, ecells_set, List.take_set, List.take_set, List.take_set, List.take_set, List.set_eq_of_length_le (by simp; omega), List.set_eq_of_length_le (by simp; omega), List.set_eq_of_length_le (by simp; omega), List.set_eq_of_length_le (by simp; omega)]
end
end Go.Proofs.Ytkbhjdjdjfdikaa
