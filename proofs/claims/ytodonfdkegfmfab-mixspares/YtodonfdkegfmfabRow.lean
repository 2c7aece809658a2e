/- Rows of numbers of 64 bits, as they lie; a seed's own place: plain lemmas. -/
import Derived.Test.YtodonfdkegfmfabHash
import Derived.Laws.AppendOwnNone
import Derived.Laws.BitsAllLaws
import Derived.Laws.OwnMore
import Derived.ArgAppend
namespace Go.Proofs.Ytodonfdkegfmfab
open Go.RowKit

/-- The numbers xs lie where ao leads. -/
def At (w : World) (ao : Option Addr) (xs : List Nat) : Prop := ∀ j u, xs[j]? = some u → ∃ a, ao = some a ∧ w.cell? (a.add j) = some (.int .u64 ((u : Nat) : Int))
theorem addr_add_block (a : Addr) (j : Nat) : (a.add j).block = a.block := by unfold Addr.add; split <;> rfl
theorem At.nil (w : World) (ao : Option Addr) : At w ao [] := fun j u h => by simp at h
theorem At.kept {w w' : World} {ao : Option Addr} {xs : List Nat} {row : Option Nat} (h : At w ao xs) (hg : w.grownBy w' row) (hr : ∀ a, ao = some a → some a.block ≠ row) : At w' ao xs := by
  intro j u hu
  obtain ⟨a, ha, hcell⟩ := h j u hu
  exact ⟨a, ha, hg.cell hcell (by rw [addr_add_block]; exact hr a ha)⟩
theorem At.grown {w w' : World} {ao : Option Addr} {xs : List Nat} (h : At w ao xs) (hg : w.grownBy w' none) : At w' ao xs := h.kept hg (by simp)
def bv (xs : List Nat) : List Value := xs.map fun (x : Nat) => Value.int .u64 (x : Int)
theorem bv_length (xs : List Nat) : (bv xs).length = xs.length := by simp [bv]
theorem bv_append (xs ys : List Nat) : bv (xs ++ ys) = bv xs ++ bv ys := by simp [bv]
theorem bv_get (xs : List Nat) (j u : Nat) (h : xs[j]? = some u) : (bv xs)[j]? = some (.int .u64 (u : Int)) := by simp [bv, h]
theorem bv_take (xs : List Nat) (j : Nat) : bv (xs.take j) = (bv xs).take j := by simp [bv, List.map_take]
theorem At.take {w : World} {ao : Option Addr} {xs : List Nat} (h : At w ao xs) (j : Nat) : At w ao (xs.take j) := by
  intro i u hu
  rw [List.getElem?_take] at hu
  split at hu
  · exact h i u hu
  · cases hu
theorem at_row {w : World} {A : Nat} {xs : List Nat} {t : TypeId} {fr : Nat × Nat} (h : w.heap[A]? = some (.cells (bv xs).toArray t fr)) : At w (some ⟨A, 0, none⟩) xs := by
  intro j u hu
  refine ⟨_, rfl, ?_⟩
  rw [Addr.add_lit, Nat.zero_add, cell_row h, bv_get xs j u hu]

theorem Try.info22 : (Try.prog.info? 22).map (fun i => (i.zero, i.size, i.bytes)) = some (some (.int .u64 0), 1, 8) := by kernel_rfl
theorem made_zrow (n : Nat) : madeCells #[.int .u64 0] n = (List.replicate n (Value.int .u64 0)).toArray := by
  apply Array.ext'
  rw [toList_madeCells_one]
theorem make_limbs (n : Nat) (h : n ≤ 17592186044416) (w : World) : (Instr.makeSlice 24 (.int .i64 (n : Int)) (.int .i64 (n : Int))).run Try.prog w = .ok (.slice (some ⟨w.heap.size, 0, none⟩) n n) (w.alloc (.cells (List.replicate n (Value.int .u64 0)).toArray 22)) := by
  rw [run_make_row' (P := Try.prog) 24 22 (.int .u64 0) 8 Try.underlying24 Try.info22 rfl .i64 .i64 n (by omega) (by omega) w, made_zrow]
theorem take_set_succ {α : Type} (l : List α) (j : Nat) (u : α) (h : j < l.length) : (l.set j u).take (j + 1) = l.take j ++ [u] := by
  rw [List.take_succ_eq_append_getElem (by simpa using h)]
  simp [List.take_set_of_le]

/-- An owned row, as numbers that lie somewhere. -/
theorem own_at {w : World} {base n : Nat} {v : Value} {xs : List Nat} (h : w.ownsRow base 22 1 v n (bv xs)) :
    ∃ ao cap, v = .slice ao n cap ∧ xs.length = n ∧ n ≤ cap ∧ cap ≤ maxLen ∧ At w ao xs ∧ (ao = none → n = 0 ∧ cap = 0) ∧ (∀ a, ao = some a → a = ⟨a.block, 0, none⟩ ∧ base ≤ a.block ∧ a.block < w.heap.size) := by
  obtain ⟨hl, h⟩ := h
  simp [bv_length] at hl
  rcases h with ⟨rfl, rfl⟩ | ⟨g, cap, cur, rfl, hb, hg, hn, hm, hs, ht⟩
  · have : xs = [] := List.eq_nil_of_length_eq_zero hl
    subst this
    exact ⟨none, 0, rfl, rfl, Nat.le_refl _, Nat.zero_le _, At.nil _ _, fun _ => ⟨rfl, rfl⟩, fun a e => by cases e⟩
  · refine ⟨some ⟨g, 0, none⟩, cap, rfl, hl, hn, hm, ?_, (fun e => by cases e), fun a e => by cases e; exact ⟨rfl, hb, row_lt hg⟩⟩
    intro j u hu
    refine ⟨_, rfl, ?_⟩
    rw [Addr.add_lit, Nat.zero_add, cell_of_row w g j cur 22 (0, 0) hg]
    have h1 : (cur.toList.take (n * 1))[j]? = some (Value.int .u64 u) := by rw [ht]; exact bv_get xs j u hu
    rw [List.getElem?_take] at h1
    split at h1
    · simpa using h1
    · cases h1

/-- A seed's place. -/
def SeedAt (w : World) (B s : Nat) : Prop := w.heap[B]? = some (.cells #[.int .u64 (s : Int)] 22 (0, 0))
theorem SeedAt.cell {w : World} {B s : Nat} (h : SeedAt w B s) : w.cell? ⟨B, 0, none⟩ = some (.int .u64 (s : Int)) := by rw [cell_of_row _ _ _ _ _ _ h]; rfl
theorem SeedAt.free {w : World} {B s : Nat} (h : SeedAt w B s) : w.frozen? ⟨B, 0, none⟩ = false := free_row h 0
theorem SeedAt.lt {w : World} {B s : Nat} (h : SeedAt w B s) : B < w.heap.size := row_lt h
theorem SeedAt.set {w : World} {B s : Nat} (h : SeedAt w B s) (t : Nat) : SeedAt (w.setCell ⟨B, 0, none⟩ (.int .u64 (t : Int))) B t :=
  row_setCell (l := [.int .u64 (s : Int)]) h 0 _
theorem SeedAt.kept {w w' : World} {B s : Nat} {row : Option Nat} (h : SeedAt w B s) (hg : w.grownBy w' row) (hr : row ≠ some B) : SeedAt w' B s :=
  (hg.block B h.lt (fun e => hr e.symm)).trans h
end Go.Proofs.Ytodonfdkegfmfab
