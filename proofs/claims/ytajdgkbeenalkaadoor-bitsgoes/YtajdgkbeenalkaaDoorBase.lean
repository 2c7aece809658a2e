/- A set of package bits in memory, and which steps keep it: plain lemmas, without the program. -/
import Derived.WalkKit
import Derived.WalkSpells
import Derived.WalkLawsBesides
import Derived.Laws.CopyOwn
import Derived.Laws.Bits64b
import Derived.Laws.Bits64
import Derived.Lib.TrailingZeros
import Derived.Deep.MidRow
import Derived.Test.YtajdgkbeenalkaaDoorPop
namespace Go.Proofs.YtajdgkbeenalkaaDoor
open Go.RowKit

theorem hide {p : Prop} (h : p) : Hid p := h

theorem grown_then {a b c : World} {row row' : Option Nat} (h : a.grownBy b row) (k : b.grownBy c row') (hr : ∀ j, row' = some j → a.heap.size ≤ j ∨ row = some j) : a.grownBy c row :=
  ⟨k.os.trans h.os, k.tape.trans h.tape, k.output.trans h.output, Nat.le_trans h.size k.size, fun i hi hne =>
    (k.block i (Nat.lt_of_lt_of_le hi h.size) (fun e => by
      rcases hr i e.symm with h1 | h1
      · omega
      · exact hne h1.symm)).trans (h.block i hi hne)⟩
theorem grown_trans {a b c : World} {row : Option Nat} (h : a.grownBy b row) (k : b.grownBy c row) : a.grownBy c row := grown_then h k (fun _ e => Or.inr e)
theorem grown_refl (w : World) (row : Option Nat) : w.grownBy w row := ⟨rfl, rfl, rfl, Nat.le_refl _, fun _ _ _ => rfl⟩
theorem grown_drew (w : World) (row : Option Nat) : w.grownBy w.drew row := ⟨rfl, rfl, rfl, Nat.le_refl _, fun _ _ _ => rfl⟩
theorem grown_none {a b : World} (h : a.grownBy b none) (row : Option Nat) : a.grownBy b row := grown_then (grown_refl a row) h (fun _ e => by cases e)
theorem grown_setCell (w : World) (g j : Nat) (u : Value) : w.grownBy (w.setCell ⟨g, j, none⟩ u) (some g) :=
  ⟨rfl, rfl, rfl, by simp [World.setCell], fun k _ hne => Below.heap_setCell _ _ _ _ (by intro e; exact hne (by simp [e]))⟩
theorem grown_below {a b : World} (h : a.grownBy b none) : Below a.heap.size a b := ⟨h.os, h.tape, h.output, h.size, fun k hk => h.block k hk (fun e => by cases e)⟩
theorem below_grown {a b : World} (h : Below a.heap.size a b) : a.grownBy b none := ⟨h.os, h.tape, h.output, h.size, fun k hk _ => h.block k hk⟩

theorem cell_row {w : World} {g : Nat} {l : List Value} {t : TypeId} {fr : Nat × Nat} (h : w.heap[g]? = some (.cells l.toArray t fr)) (j : Nat) : w.cell? ⟨g, j, none⟩ = l[j]? := by
  rw [cell_of_row w g j l.toArray t fr h]; simp
theorem free_row {w : World} {g : Nat} {c : Array Value} {t : TypeId} (h : w.heap[g]? = some (.cells c t (0, 0))) (j : Nat) : w.frozen? ⟨g, j, none⟩ = false := by
  simp [World.frozen?, h]
theorem row_setCell {w : World} {g : Nat} {l : List Value} {t : TypeId} {fr : Nat × Nat} (h : w.heap[g]? = some (.cells l.toArray t fr)) (j : Nat) (u : Value) : (w.setCell ⟨g, j, none⟩ u).heap[g]? = some (.cells (l.set j u).toArray t fr) := by
  simp [World.setCell, Array.getElem?_modify, h]
theorem row_lt {w : World} {g : Nat} {o : Obj} (h : w.heap[g]? = some o) : g < w.heap.size := (Array.getElem?_eq_some_iff.1 h).1

/-- The words as they lie in cells. -/
def wvals (W : List Nat) : List Value := W.map (fun (x : Nat) => Value.int .u64 (x : Int))
/-- Is the number i among those that the words tell of? -/
def mem (W : List Nat) (i : Nat) : Bool := (W.getD (i / 64) 0).testBit (i % 64)
/-- The words W tell of the set L (of each number below the bound whether it is in it). -/
structure Rep (W : List Nat) (L : List Bool) : Prop where
  len : W.length = (L.length + 63) / 64
  word : ∀ x ∈ W, x < 18446744073709551616
  is : ∀ i, mem W i = L.getD i false
  small : L.length ≤ 65536

/-- The set L lies at block b, its words in block g. -/
def SetAt (w : World) (b g : Nat) (L : List Bool) : Prop :=
  ∃ (W : List Nat) (cap : Nat) (cur : List Value), w.heap[b]? = some (.cells #[.bool true, .int .i64 (L.length : Int), .slice (some ⟨g, 0, none⟩) W.length cap] 55 (0, 0)) ∧
    w.heap[g]? = some (.cells cur.toArray 78 (0, 0)) ∧ W.length ≤ cap ∧ cap ≤ maxLen ∧ cur.length = cap ∧ cur.take W.length = wvals W ∧ Rep W L ∧ 0 < g

theorem SetAt.kept {w w' : World} {b g : Nat} {L : List Bool} {row : Option Nat} (h : SetAt w b g L) (hg : w.grownBy w' row) (hb : row ≠ some b) (hr : row ≠ some g) : SetAt w' b g L := by
  obtain ⟨W, cap, cur, h1, h2, h3⟩ := h
  exact ⟨W, cap, cur, (hg.block b (row_lt h1) (fun e => hb e.symm)).trans h1, (hg.block g (row_lt h2) (fun e => hr e.symm)).trans h2, h3⟩
theorem SetAt.ne {w : World} {b g b' g' : Nat} {L L' : List Bool} (h : SetAt w b g L) (h' : SetAt w b' g' L') : b ≠ g' := by
  rintro rfl
  obtain ⟨W, cap, cur, h1, h2, h3⟩ := h
  obtain ⟨W', cap', cur', h1', h2', h3'⟩ := h'
  rw [h1] at h2'; simp at h2'
theorem SetAt.lt {w : World} {b g : Nat} {L : List Bool} (h : SetAt w b g L) : b < w.heap.size ∧ g < w.heap.size := by
  obtain ⟨W, cap, cur, h1, h2, h3⟩ := h; exact ⟨row_lt h1, row_lt h2⟩
theorem SetAt.made {w : World} {b g : Nat} {L : List Bool} (h : SetAt w b g L) : w.cell? ⟨b, 0, none⟩ = some (.bool true) := by
  obtain ⟨W, cap, cur, h1, h2, h3⟩ := h; simp [World.cell?, h1]
theorem SetAt.bound {w : World} {b g : Nat} {L : List Bool} (h : SetAt w b g L) : w.cell? ⟨b, 1, none⟩ = some (.int .i64 (L.length : Int)) := by
  obtain ⟨W, cap, cur, h1, h2, h3⟩ := h; simp [World.cell?, h1]
theorem SetAt.small {w : World} {b g : Nat} {L : List Bool} (h : SetAt w b g L) : L.length ≤ 65536 := by
  obtain ⟨W, cap, cur, h1, h2, _, _, _, _, h3, _⟩ := h; exact h3.small
/-- The words: where they lie, and each of them. -/
theorem SetAt.words {w : World} {b g : Nat} {L : List Bool} (h : SetAt w b g L) : ∃ (W : List Nat) (cap : Nat), w.cell? ⟨b, 2, none⟩ = some (.slice (some ⟨g, 0, none⟩) W.length cap) ∧ W.length ≤ cap ∧ cap ≤ maxLen ∧ Rep W L ∧
    ∀ (j x : Nat), W[j]? = some x → w.cell? ⟨g, j, none⟩ = some (.int .u64 (x : Int)) := by
  obtain ⟨W, cap, cur, h1, h2, h3, h3', h4, h5, h6, _⟩ := h
  refine ⟨W, cap, by simp [World.cell?, h1], h3, h3', h6, ?_⟩
  intro j x hx
  have hj : j < W.length := (List.getElem?_eq_some_iff.1 hx).1
  rw [cell_row h2, ← List.getElem?_take_of_lt hj, h5, wvals, List.getElem?_map, hx]; rfl

theorem mem_set (W : List Nat) (i k x : Nat) (hi : i / 64 < W.length) (hx : ∀ b, b < 64 → x.testBit b = if b = i % 64 then (k == 1) else (W.getD (i / 64) 0).testBit b) (j : Nat) :
    mem (W.set (i / 64) x) j = if j = i then (k == 1) else mem W j := by
  unfold mem
  by_cases h : j / 64 = i / 64
  · rw [h]
    simp only [List.getD_eq_getElem?_getD, List.getElem?_set, hi, if_true, Option.getD_some]
    rw [hx _ (Nat.mod_lt _ (by decide))]
    by_cases hj : j = i
    · subst hj; simp
    · rw [if_neg hj, if_neg (by omega)]
      simp [List.getD_eq_getElem?_getD]
  · rw [if_neg (by intro e; exact h (by rw [e]))]
    simp only [List.getD_eq_getElem?_getD, List.getElem?_set]
    rw [if_neg (fun e => h e.symm)]

theorem getD_set (L : List Bool) (i : Nat) (v : Bool) (hi : i < L.length) (j : Nat) : (L.set i v).getD j false = if j = i then v else L.getD j false := by
  simp only [List.getD_eq_getElem?_getD, List.getElem?_set]
  by_cases h : i = j
  · subst h; simp [hi]
  · rw [if_neg h, if_neg (fun e => h e.symm)]

theorem Rep.word_lt {W : List Nat} {L : List Bool} (h : Rep W L) {i : Nat} (hi : i < L.length) : i / 64 < W.length := by rw [h.len]; omega

theorem Rep.getD_lt {W : List Nat} {L : List Bool} (h : Rep W L) (j : Nat) : W.getD j 0 < 18446744073709551616 := by
  by_cases hj : j < W.length
  · rw [List.getD_eq_getElem?_getD, List.getElem?_eq_getElem hj]; exact h.word _ (List.getElem_mem hj)
  · rw [List.getD_eq_getElem?_getD, List.getElem?_eq_none (by omega)]; decide

/-- A number put in, or taken out: one word is turned. -/
theorem Rep.turned {W : List Nat} {L : List Bool} (h : Rep W L) {i : Nat} (hi : i < L.length) (x : Nat) (v : Bool) (hlt : x < 18446744073709551616)
    (hx : ∀ b, b < 64 → x.testBit b = if b = i % 64 then v else (W.getD (i / 64) 0).testBit b) : Rep (W.set (i / 64) x) (L.set i v) := by
  refine ⟨by simp [h.len], ?_, ?_, by simpa using h.small⟩
  · intro y hy
    rcases List.mem_or_eq_of_mem_set hy with hy | rfl
    · exact h.word y hy
    · exact hlt
  · intro j
    rw [getD_set L i v hi, mem_set W i (if v then 1 else 0) x (h.word_lt hi) (by intro b hb; rw [hx b hb]; cases v <;> rfl), h.is]
    cases v <;> rfl

theorem testBit_or_bit (x i b : Nat) : (x ||| 2 ^ i).testBit b = if b = i then true else x.testBit b := by
  rw [Nat.testBit_or, Nat.testBit_two_pow]
  by_cases h : b = i
  · subst h; simp
  · rw [if_neg h]; simp; intro e; exact absurd e.symm h

/-- Behind a store of a word. -/
theorem SetAt.store {w : World} {b g : Nat} {L : List Bool} (h : SetAt w b g L) {i : Nat} (hi : i < L.length) (v : Bool) : ∃ (W : List Nat) (cap : Nat), w.cell? ⟨b, 2, none⟩ = some (.slice (some ⟨g, 0, none⟩) W.length cap) ∧ i / 64 < W.length ∧ W.length ≤ cap ∧ cap ≤ maxLen ∧
    w.cell? ⟨g, i / 64, none⟩ = some (.int .u64 ((W.getD (i / 64) 0 : Nat) : Int)) ∧ W.getD (i / 64) 0 < 18446744073709551616 ∧ w.frozen? ⟨g, i / 64, none⟩ = false ∧
    ∀ x : Nat, x < 18446744073709551616 → (∀ c, c < 64 → x.testBit c = if c = i % 64 then v else (W.getD (i / 64) 0).testBit c) → SetAt (w.setCell ⟨g, i / 64, none⟩ (.int .u64 (x : Int))) b g (L.set i v) := by
  obtain ⟨W, cap, cur, h1, h2, h3, h3', h4, h5, h6, h7⟩ := h
  have hw := h6.word_lt hi
  have hne : b ≠ g := by rintro rfl; rw [h1] at h2; simp at h2
  refine ⟨W, cap, by simp [World.cell?, h1], hw, h3, h3', ?_, h6.getD_lt _, free_row h2 _, ?_⟩
  · rw [cell_row h2, ← List.getElem?_take_of_lt hw, h5, wvals, List.getElem?_map, List.getElem?_eq_getElem hw]
    simp [List.getD_eq_getElem?_getD, hw]
  · intro x hx hb
    refine ⟨W.set (i / 64) x, cap, cur.set (i / 64) (.int .u64 (x : Int)), ?_, row_setCell h2 _ _, by simpa using h3, h3', by simpa using h4, ?_, h6.turned hi x v hx hb, h7⟩
    · rw [Below.heap_setCell _ _ _ _ (by simpa using hne), h1]; simp
    · rw [List.length_set, List.take_set, h5, wvals, wvals, List.map_set]

/-- A set whose cells have just been laid. -/
theorem SetAt.fresh {w : World} {b g cap : Nat} {L : List Bool} {W : List Nat} {cur : List Value} (h1 : w.heap[b]? = some (.cells #[.bool true, .int .i64 (L.length : Int), .slice (some ⟨g, 0, none⟩) W.length cap] 55 (0, 0)))
    (h2 : w.heap[g]? = some (.cells cur.toArray 78 (0, 0))) (h3 : W.length ≤ cap) (h3' : cap ≤ maxLen) (h4 : cur.length = cap) (h5 : cur.take W.length = wvals W) (h6 : Rep W L) (h7 : 0 < g) : SetAt w b g L :=
  ⟨W, cap, cur, h1, h2, h3, h3', h4, h5, h6, h7⟩

theorem rep_none (n : Nat) (hn : n ≤ 65536) : Rep (List.replicate ((n + 63) / 64) 0) (List.replicate n false) := by
  refine ⟨by simp, ?_, ?_, by simpa using hn⟩
  · intro x hx; rw [List.eq_of_mem_replicate hx]; decide
  · intro i
    unfold mem
    have e : (List.replicate ((n + 63) / 64) 0).getD (i / 64) 0 = 0 := by
      rw [List.getD_eq_getElem?_getD, List.getElem?_replicate]; split <;> rfl
    have e2 : (List.replicate n false).getD i false = false := by
      rw [List.getD_eq_getElem?_getD, List.getElem?_replicate]; split <;> rfl
    rw [e, e2, Nat.zero_testBit]

/-- The library's table lies in its variable. -/
def Tab (w : World) : Prop := ∀ j, j < 64 → w.cell? ⟨0, j, none⟩ = some (.int .u8 ((Lib.deBruijn64tab.getD j 0 : Nat) : Int))
theorem Tab.kept {w w' : World} {row : Option Nat} (h : Tab w) (hg : w.grownBy w' row) (hr : row ≠ some 0) : Tab w' := fun j hj => hg.cell (h j hj) (fun e => hr e.symm)
theorem Tab.below {w w' : World} {n : Nat} (h : Tab w) (hB : Below n w w') (hn : 0 < n) : Tab w' := fun j hj => (World.cell?_of_block (hB.block 0 hn)).trans (h j hj)
theorem Tab.lt {w : World} (h : Tab w) : 0 < w.heap.size := by
  have := h 0 (by decide)
  unfold World.cell? at this
  cases hc : w.heap[0]? with
  | none => simp [hc] at this
  | some o => exact row_lt hc

end Go.Proofs.YtajdgkbeenalkaaDoor
