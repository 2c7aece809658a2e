/- Two disks that know nothing of one another. -/
import Derived.Test.YtaopcidkgcekdaaDoes
import Derived.Test.YtaopcidkgcekdaaImage
import Derived.Test.YtaopcidkgcekdaaCopy
namespace Go.Proofs.Ytaopcidkgcekdaa
open Go.RowKit Ap

/-- No block that the one may write is looked at by the other. -/
structure Sep (k : Dk) (W : List Wt) (k2 : Dk) (W2 : List Wt) : Prop where
  l : ∀ i, k.own i → ¬ foot k2 W2 i
  r : ∀ i, k2.own i → ¬ foot k W i
theorem Sep.symm {k k2 : Dk} {W W2 : List Wt} (h : Sep k W k2 W2) : Sep k2 W2 k W := ⟨h.r, h.l⟩
section
variable {w0 w w' : World} {k k2 k2' : Dk} {n size n2 size2 : Nat} {D D2 : List Nat} {W W2 W2' : List Wt}
theorem Sep.moved (h : Sep k W k2 W2) (hk : DiskAt w k n size D W) (hm : Moved w w' k2 k2' W2 W2') : Sep k W k2' W2' := by
  refine ⟨?_, ?_⟩
  · rintro i hi (hf | ⟨x, hx, rfl⟩)
    · rcases hm.own i hf with h1 | h1
      · exact h.l i hi (.inl h1)
      · have := hk.lt i (.inl hi); omega
    · rcases hm.blk x hx with ⟨y, hy, e⟩ | h1
      · exact h.l _ hi (.inr ⟨y, hy, e⟩)
      · have := hk.lt _ (.inl hi); omega
  · intro i hi hf
    rcases hm.own i hi with h1 | h1
    · exact h.r i h1 hf
    · have := hk.lt i hf; omega
theorem DkS.other (h : DkS w0 w k n size D W) (hs : Sep k W k2 W2) (hm : Moved w w' k2 k2' W2 W2') (hg : w0.grownBy w' none) : DkS w0 w' k n size D W :=
  ⟨h.disk.kept hm.kept (fun i hi ho => hs.r i ho hi), h.own, hg⟩
theorem ImgAt.moved {lo g sz : Nat} {R : List (List Nat)} {hs : List Nat} {k' : Dk} {W' : List Wt} (h : ImgAt w lo g sz R hs) (hk : DiskAt w k n size D W) (hm : Moved w w' k k' W W') (hlo : k.db < lo) : ImgAt w' lo g sz R hs := by
  refine h.off hm.kept (hk.other_off h.row (by decide) (by decide) (by decide)) ?_
  intro a ha
  obtain ⟨j, hj⟩ := List.getElem?_of_mem ha
  have hjl : j < R.length := by rw [← h.len]; exact (List.getElem?_eq_some_iff.1 hj).1
  obtain ⟨r1, _, r3⟩ := h.rows j a R[j] hj (List.getElem?_eq_getElem hjl)
  exact hk.bytes_off r1 (by omega)
theorem bytes_moved {A : Nat} {c : Array Value} {k' : Dk} {W' : List Wt} (hA : w.heap[A]? = some (.cells c 5 (0, 0))) (hk : DiskAt w k n size D W) (hm : Moved w w' k k' W W') (hne : A ≠ k.db) : w'.heap[A]? = some (.cells c 5 (0, 0)) := hm.kept.at hA (hk.bytes_off hA hne)
/-- Copy, of a disk that the call has made. -/
theorem copyS {d : Nat} (hd : k.d = d) (h : DkS w0 w k n size D W) : Calls Try.prog 46 #[.pointer (some ⟨d, 0, none⟩)] w fun e w' => ∃ k' : Dk, e = .returned (.pointer (some ⟨k'.d, 0, none⟩)) ∧ DkS w0 w' k' n size D W ∧ Sep k W k' W ∧ w.grownBy w' none := by
  subst hd
  refine (copy_any h.disk).mono ?_
  rintro e w' ⟨k', rfl, h1, h2, h3⟩
  refine ⟨k', rfl, ⟨h1, fun i hi => Nat.le_trans h.grown.size (h2 i hi), grown_trans h.grown h3⟩, ⟨?_, ?_⟩, h3⟩
  · rintro i hi (hf | ⟨x, hx, rfl⟩)
    · have := h2 i hf; have := h.disk.lt i (.inl hi); omega
    · exact h.disk.blk_ne hx hi
  · intro i hi hf
    have := h2 i hi; have := h.disk.lt i hf; omega
theorem imageS {d : Nat} (hd : k.d = d) (h : DkS w0 w k n size D W) : Calls Try.prog 24 #[.pointer (some ⟨d, 0, none⟩)] w fun e w' => ∃ hs, e = .returned (.slice (some ⟨w.heap.size, 0, none⟩) n n) ∧ ImgAt w' w.heap.size w.heap.size size (secs n size D) hs ∧ w.grownBy w' none := by
  subst hd
  exact image_any h.disk
end
/-- What is found hangs on what waits, not where. -/
theorem found_abs {size : Nat} {D : List Nat} {W W' : List Wt} {s : Nat} (h : abs W = abs W') : found size D W s = found size D W' s := by
  have key : ∀ V : List Wt, found size D V s = ((abs V).foldl (fun r x => if s = x.1 then some x.2 else r) none).getD (secOf size D s) := by
    intro V
    have e : (abs V).foldl (fun r x => if s = x.1 then some x.2 else r) none = (lastOf V s).map (fun x => x.xs) := by
      induction V using snoc_ind with
      | h0 => rfl
      | h1 l x ih =>
        rw [lastOf_snoc, abs, List.map_append, List.foldl_append]
        simp only [List.map_cons, List.map_nil, List.foldl_cons, List.foldl_nil]
        by_cases hx : s = x.sec
        · rw [if_pos hx, if_pos hx]; rfl
        · rw [if_neg hx, if_neg hx]; exact ih
    rw [e, found]
    cases lastOf V s <;> rfl
  rw [key, key, h]
end Go.Proofs.Ytaopcidkgcekdaa
