/- A byte of a sector of the document's disk is written. -/
import Derived.Test.YtgcfjphjekkkmaaRefR
namespace Go.Proofs.Ytgcfjphjekkkmaa
open Go.RowKit Ap

theorem over_step (ys xs : List Nat) (k y : Nat) (hy : ys[k]? = some y) (hk : k < xs.length) : (over (ys.take k) xs).set k y = over (ys.take (k + 1)) xs := by
  have hky := (List.getElem?_eq_some_iff.1 hy).1
  have h1 : (ys.take k).length = k := by simp; omega
  have h2 : (ys.take (k + 1)).length = k + 1 := by simp; omega
  apply List.ext_getElem?
  intro i
  rw [List.getElem?_set, over_get, over_get, h1, h2, over_length _ _ (by omega)]
  by_cases hik : k = i
  · subst hik
    rw [if_pos rfl, if_pos hk, if_pos (by omega), List.getElem?_take, if_pos (by omega), hy]
  · rw [if_neg hik]
    by_cases hi : i < k
    · rw [if_pos hi, if_pos (by omega), List.getElem?_take, List.getElem?_take, if_pos hi, if_pos (by omega)]
    · rw [if_neg hi, if_neg (by omega)]
theorem set_self {α : Type} (l : List α) (s : Nat) (x : α) (h : l[s]? = some x) : l.set s x = l := by
  apply List.ext_getElem?
  intro i
  rw [List.getElem?_set]
  by_cases hi : s = i
  · subst hi
    rw [if_pos rfl, if_pos (List.getElem?_eq_some_iff.1 h).1, h]
  · rw [if_neg hi]
theorem set_map {α β : Type} (f : α → β) (l : List α) (s : Nat) (x y : α) (h : l[s]? = some x) (e : f y = f x) : (l.set s y).map f = l.map f := by
  rw [List.map_set, e, set_self]
  rw [List.getElem?_map, h]; rfl
theorem set_modify (l : List (List Nat)) (s : Nat) (x : List Nat) (f : List Nat → List Nat) (h : l[s]? = some x) : l.set s (f x) = l.modify s f := by
  apply List.ext_getElem?
  intro i
  rw [List.getElem?_set, List.getElem?_modify]
  by_cases hi : s = i
  · subst hi
    rw [if_pos rfl, if_pos (List.getElem?_eq_some_iff.1 h).1, h]; simp
  · rw [if_neg hi]; simp [hi]
def Rk.withS (q : Rk) (S : List Bx) : Rk := ⟨q.r, q.v, q.vw, S, q.V⟩
theorem rfoot_withS {q : Rk} {S : List Bx} (h : S.map Bx.g = q.S.map Bx.g) (i : Nat) : rfoot (q.withS S) i ↔ rfoot q i := by
  have e : (∃ b ∈ S, b.g = i) ↔ ∃ b ∈ q.S, b.g = i := by
    have : i ∈ S.map Bx.g ↔ i ∈ q.S.map Bx.g := by rw [h]
    simpa using this
  simp only [rfoot, Rk.withS, e]
section
variable {w : World} {lo n size : Nat} {q : Rk}
theorem RefAt.put (h : RefAt w lo n size q) {s : Nat} {b : Bx} (hb : q.S[s]? = some b) (k y : Nat) :
    RefAt (w.setCell ⟨b.g, k, none⟩ (.int .u8 ((y : Nat) : Int))) lo n size (q.withS (q.S.set s ⟨b.g, b.c, b.xs.set k y⟩)) ∧ w.grownBy (w.setCell ⟨b.g, k, none⟩ (.int .u8 ((y : Nat) : Int))) (some b.g) := by
  have hbm := List.mem_of_getElem? hb
  have hbx := h.rows.at_ b hbm
  have hst := World.ownsRow.stored hbx k (.int .u8 ((y : Nat) : Int))
  have hk : Kept w (w.setCell ⟨b.g, k, none⟩ (.int .u8 ((y : Nat) : Int))) (fun i => i = b.g) := Kept.of hst.2 (fun j e _ => (Option.some.inj e).symm)
  have hcur := hbx.blk.2
  have hl : (b.xs.set k y).length = b.xs.length := by simp
  have offt : ∀ {g : Nat} {cur : Array Value} {t : TypeId}, w.heap[g]? = some (.cells cur t (0, 0)) → t ≠ 5 → g ≠ b.g := by
    intro g cur t hg h5 e
    obtain ⟨c, hc⟩ := hcur
    rw [e, hc] at hg
    simp at hg
    exact h5 hg.2.symm
  have hset : (q.S.set s ⟨b.g, b.c, b.xs.set k y⟩).map Bx.g = q.S.map Bx.g := set_map _ _ _ b _ hb rfl
  have hsetv : (q.S.set s ⟨b.g, b.c, b.xs.set k y⟩).map Bx.v = q.S.map Bx.v := set_map _ _ _ b _ hb (by simp [Bx.v])
  have hmem : ∀ x ∈ q.S.set s ⟨b.g, b.c, b.xs.set k y⟩, x = ⟨b.g, b.c, b.xs.set k y⟩ ∨ (x ∈ q.S ∧ x.g ≠ b.g) := by
    intro x hx
    obtain ⟨i, hi⟩ := List.getElem?_of_mem hx
    rw [List.getElem?_set] at hi
    by_cases his : s = i
    · subst his
      rw [if_pos rfl, if_pos (List.getElem?_eq_some_iff.1 hb).1] at hi
      exact Or.inl (Option.some.inj hi).symm
    · rw [if_neg his] at hi
      refine Or.inr ⟨List.mem_of_getElem? hi, ?_⟩
      obtain ⟨i1, i2⟩ := List.getElem?_eq_some_iff.1 hi
      obtain ⟨s1, s2⟩ := List.getElem?_eq_some_iff.1 hb
      have key := List.pairwise_iff_getElem.1 h.rows.nd
      by_cases hlt : s < i
      · have := key s i s1 i1 hlt
        rw [i2, s2] at this
        exact fun e => this e.symm
      · have := key i s i1 s1 (by omega)
        rw [i2, s2] at this
        exact this
  refine ⟨⟨hk.at h.head (offt h.head (by decide)), h.low, ⟨?_, ?_, ?_⟩, owns_off h.wrow hk (fun g e => by obtain ⟨_, c, hc⟩ := own_block h.wrow g e; exact offt hc (by decide)), ?_, ?_, h.shape, ?_, ?_, h.wsz⟩, hst.2⟩
  · show World.ownsRow _ lo 46 1 q.v (q.S.set s _).length ((q.S.set s _).map Bx.v)
    rw [hsetv, List.length_set]
    exact owns_off h.rows.row hk (fun g e => by obtain ⟨_, c, hc⟩ := own_block h.rows.row g e; exact offt hc (by decide))
  · intro x hx
    rcases hmem x hx with rfl | ⟨h1, h2⟩
    · have := hst.1
      simp only [BxAt, Bx.v, hl]
      rw [bv, List.map_set]
      exact this
    · exact (h.rows.at_ x h1).off hk h2
  · have e1 : (q.S.map Bx.g).Pairwise (· ≠ ·) := by rw [List.pairwise_map]; exact h.rows.nd
    rw [← hset, List.pairwise_map] at e1
    exact e1
  · intro x hx
    exact (h.wat x hx).off hk (h.nv x hx b hbm)
  · intro x hx y' hy
    rcases hmem y' hy with rfl | ⟨h1, h2⟩
    · exact h.nv x hx b hbm
    · exact h.nv x hx y' h1
  · show (q.S.set s _).length = n
    rw [List.length_set]
    exact h.len
  · intro x hx
    rcases hmem x hx with rfl | ⟨h1, h2⟩
    · exact hl.trans (h.sz b hbm)
    · exact h.sz x h1
/-- Nothing waits any more. -/
theorem RefAt.calm (h : RefAt w lo n size q) : RefAt (w.setCell ⟨q.r, 1, none⟩ (.slice none 0 0)) lo n size ⟨q.r, q.v, .slice none 0 0, q.S, []⟩ ∧ w.grownBy (w.setCell ⟨q.r, 1, none⟩ (.slice none 0 0)) (some q.r) := by
  have gs := grown_setCell w q.r 1 (.slice none 0 0)
  have ks : Kept w (w.setCell ⟨q.r, 1, none⟩ (.slice none 0 0)) (fun i => i = q.r) := Kept.of gs (fun j e _ => (Option.some.inj e).symm)
  have offt : ∀ {g : Nat} {cur : Array Value} {t : TypeId}, w.heap[g]? = some (.cells cur t (0, 0)) → t ≠ 54 → g ≠ q.r := by
    intro g cur t hg h5 e
    rw [e, h.head] at hg
    simp at hg
    exact h5 hg.2.symm
  refine ⟨⟨?_, h.low, h.rows.off ks (fun g e => by obtain ⟨_, c, hc⟩ := own_block h.rows.row g e; exact offt hc (by decide)) (fun x hx => by obtain ⟨_, c, hc⟩ := (h.rows.at_ x hx).blk; exact offt hc (by decide)), World.ownsRow_nil _ _ _ _, by simp, by simp, h.shape, h.len, h.sz, by simp⟩, gs⟩
  have := heap_setCell_same w q.r 1 #[q.v, q.vw] 54 (.slice none 0 0) h.head
  simpa using this
end
end Go.Proofs.Ytgcfjphjekkkmaa
