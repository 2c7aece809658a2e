/- Sectors behind writes: plain lemmas. -/
import Derived.Test.YtaopcidkgcekdaaKit
namespace Go.Proofs.Ytaopcidkgcekdaa
open Go.RowKit Ap

theorem splice_get (D ys : List Nat) (off i : Nat) (h : off + ys.length ≤ D.length) : (splice D off ys)[i]? = if off ≤ i ∧ i < off + ys.length then ys[i - off]? else D[i]? := by
  unfold splice
  by_cases h1 : i < off
  · rw [if_neg (by omega), List.getElem?_append_left (by simp; omega), List.getElem?_take, if_pos h1]
  · rw [List.getElem?_append_right (by simp; omega)]
    simp only [List.length_take]
    rw [show i - min off D.length = i - off by omega]
    by_cases h2 : i < off + ys.length
    · rw [if_pos (by omega), List.getElem?_append_left (by omega)]
    · rw [if_neg (by omega), List.getElem?_append_right (by omega), List.getElem?_drop]
      congr 1; omega
theorem secOf_get (size : Nat) (D : List Nat) (s i : Nat) : (secOf size D s)[i]? = if i < size then D[s * size + i]? else none := by
  simp [secOf, List.getElem?_take, List.getElem?_drop]
/-- Bytes over the first ones of others. -/
def over (ys old : List Nat) : List Nat := ys ++ old.drop ys.length
theorem over_get (ys old : List Nat) (i : Nat) : (over ys old)[i]? = if i < ys.length then ys[i]? else old[i]? := by
  unfold over
  by_cases h : i < ys.length
  · rw [if_pos h, List.getElem?_append_left h]
  · rw [if_neg h, List.getElem?_append_right (by omega), List.getElem?_drop]; congr 1; omega
theorem over_length (ys old : List Nat) (h : ys.length ≤ old.length) : (over ys old).length = old.length := by simp [over]; omega
theorem secOf_splice_same {n size s : Nat} {D ys : List Nat} (hD : D.length = n * size) (hs : s < n) (hy : ys.length ≤ size) : secOf size (splice D (s * size) ys) s = over ys (secOf size D s) := by
  have hle : (s + 1) * size ≤ n * size := Nat.mul_le_mul_right _ hs
  rw [Nat.succ_mul] at hle
  apply List.ext_getElem?
  intro i
  rw [secOf_get, over_get, secOf_get, splice_get _ _ _ _ (by omega)]
  by_cases h : i < ys.length
  · rw [if_pos (by omega), if_pos (by omega), if_pos h]; congr 1; omega
  · rw [if_neg h]
    by_cases h2 : i < size
    · rw [if_pos h2, if_neg (by omega), if_pos h2]
    · rw [if_neg h2, if_neg h2]
theorem mul_far {s t size : Nat} (h : s ≠ t) : (s + 1) * size ≤ t * size ∨ (t + 1) * size ≤ s * size := by
  rcases Nat.lt_or_gt_of_ne h with h | h
  · exact Or.inl (Nat.mul_le_mul_right _ h)
  · exact Or.inr (Nat.mul_le_mul_right _ h)
theorem secOf_splice_other {n size s t : Nat} {D ys : List Nat} (hD : D.length = n * size) (hs : s < n) (hy : ys.length ≤ size) (hne : s ≠ t) : secOf size (splice D (s * size) ys) t = secOf size D t := by
  have hle : (s + 1) * size ≤ n * size := Nat.mul_le_mul_right _ hs
  have hf := mul_far (size := size) hne
  rw [Nat.succ_mul] at hle
  rw [Nat.succ_mul, Nat.succ_mul] at hf
  apply List.ext_getElem?
  intro i
  rw [secOf_get, secOf_get, splice_get _ _ _ _ (by omega)]
  by_cases h2 : i < size
  · rw [if_pos h2, if_pos h2, if_neg (by omega)]
  · rw [if_neg h2, if_neg h2]
/-- One sector behind the first j writes. -/
def stlS (L : Nat → Nat) (W : List Wt) (s : Nat) (old : List Nat) : Nat → List Nat
  | 0 => old
  | j + 1 => match W[j]? with
    | some x => if x.sec = s then over (x.xs.take (L j)) (stlS L W s old j) else stlS L W s old j
    | none => stlS L W s old j
/-- The writes fit the disk. -/
def Fits (n size : Nat) (W : List Wt) : Prop := ∀ x ∈ W, x.sec < n ∧ x.xs.length = size
theorem DiskAt.fitsW {w : World} {k : Dk} {n size : Nat} {D : List Nat} {W : List Wt} (h : DiskAt w k n size D W) : Fits n size W := fun x hx => ⟨(h.waits x hx).1, (h.waits x hx).2.1⟩
theorem stl_length {n size : Nat} {L : Nat → Nat} {D : List Nat} {W : List Wt} (hD : D.length = n * size) (hW : Fits n size W) (j : Nat) : (stl size L D W j).length = n * size := by
  induction j with
  | zero => exact hD
  | succ j ih =>
    rw [stl]
    split
    · rename_i x hx
      obtain ⟨h1, h2⟩ := hW x (List.mem_of_getElem? hx)
      have hle : (x.sec + 1) * size ≤ n * size := Nat.mul_le_mul_right _ h1
      rw [Nat.succ_mul] at hle
      rw [length_splice _ _ _ (by rw [ih, List.length_take]; omega), ih]
    · exact ih
theorem secOf_stl {n size : Nat} {L : Nat → Nat} {D : List Nat} {W : List Wt} (hD : D.length = n * size) (hW : Fits n size W) (s : Nat) (j : Nat) : secOf size (stl size L D W j) s = stlS L W s (secOf size D s) j := by
  induction j with
  | zero => rfl
  | succ j ih =>
    rw [stl, stlS]
    cases hx : W[j]? with
    | none => exact ih
    | some x =>
      obtain ⟨h1, h2⟩ := hW x (List.mem_of_getElem? hx)
      show secOf size (splice (stl size L D W j) (x.sec * size) (x.xs.take (L j))) s = if x.sec = s then over (x.xs.take (L j)) (stlS L W s (secOf size D s) j) else stlS L W s (secOf size D s) j
      by_cases hs : x.sec = s
      · rw [if_pos hs, ← hs, secOf_splice_same (stl_length hD hW j) h1 (by simp [h2]; omega), hs, ih]
      · rw [if_neg hs, secOf_splice_other (stl_length hD hW j) h1 (by simp [h2]; omega) hs, ih]
theorem zs_sec (n size s : Nat) (h : s < n) : secOf size (zs (n * size)) s = zs size := by
  have hle : (s + 1) * size ≤ n * size := Nat.mul_le_mul_right _ h
  rw [Nat.succ_mul] at hle
  simp [secOf, zs, List.drop_replicate, List.take_replicate]; omega
/-- All sectors. -/
def secs (n size : Nat) (D : List Nat) : List (List Nat) := (List.range n).map (secOf size D)
theorem secs_length (n size : Nat) (D : List Nat) : (secs n size D).length = n := by simp [secs]
theorem secs_get (n size : Nat) (D : List Nat) (s : Nat) (h : s < n) : (secs n size D)[s]? = some (secOf size D s) := by simp [secs, h]
/-- A row of bytes in a block of its own: some bytes of it. -/
theorem at_drop {w : World} {A : Nat} {xs : List Nat} {t : TypeId} {fr : Nat × Nat} (h : w.heap[A]? = some (.cells (bv xs).toArray t fr)) (o : Nat) : At w (some ⟨A, o, none⟩) (xs.drop o) := by
  intro j u hu
  refine ⟨_, rfl, ?_⟩
  rw [List.getElem?_drop] at hu
  rw [Addr.add_lit, cell_row h]
  exact bv_get xs _ u hu
end Go.Proofs.Ytaopcidkgcekdaa
