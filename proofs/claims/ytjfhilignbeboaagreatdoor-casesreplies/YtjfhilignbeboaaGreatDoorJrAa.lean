/- Texts joined: Kb, BtBase, BtSet, BtHas, GeGx. -/
import Derived.WalkKit
import Derived.WalkSpells
import Derived.WalkLawsBesides
import Derived.Laws.CopyOwn
import Derived.Laws.Bits64b
import Derived.Laws.Bits64
import Derived.Deep.MidRow
import Derived.Deep.LoopGhost
import Derived.Deep.RegionHeld3
import Derived.Deep.DrawnRows
import Derived.Deep.QuietTactic
import Derived.Deep.RegionWith
import Derived.BigQuiet
import Derived.Deep.OwnRows
import Derived.Laws.AppendOwnNone
import Derived.Laws.BitsAllLaws
import Derived.Laws.OwnMore
import Derived.ArgAppend
import Derived.Laws.Rows
import Derived.Laws.ResultCell
import Derived.Test.YtjfhilignbeboaaGreatDoorChecked
/- Worlds and rows: plain lemmas, without the program. -/
namespace Go.Proofs.YtjfhilignbeboaaGreatDoor
open Go.RowKit
theorem hide {p : Prop} (h : p) : Hid p := h

theorem grown_then {a b c : World} {row row' : Option Nat} (h : a.grownBy b row) (k : b.grownBy c row') (hr : ∀ j, row' = some j → a.heap.size ≤ j ∨ row = some j) : a.grownBy c row :=
  ⟨k.os.trans h.os, k.tape.trans h.tape, k.output.trans h.output, Nat.le_trans h.size k.size, fun i hi hne =>
    (k.block i (Nat.lt_of_lt_of_le hi h.size) (fun e => by
      rcases hr i e.symm with h1 | h1
      · omega
      · exact hne h1.symm)).trans (h.block i hi hne)⟩
theorem grown_trans {a b c : World} {row : Option Nat} (h : a.grownBy b row) (k : b.grownBy c row) : a.grownBy c row := grown_then h k (fun _ e => Or.inr e)
theorem grown_refl (w : World) (row : Option Nat) : w.grownBy w row := ⟨rfl, rfl, rfl, Nat.le_refl _, fun _ _ _ => rfl⟩
theorem grown_drew (w : World) (row : Option Nat) : w.grownBy w.drew row := ⟨rfl, rfl, rfl, Nat.le_refl _, fun _ _ _ => rfl⟩
theorem grown_none {a b : World} (h : a.grownBy b none) (row : Option Nat) : a.grownBy b row := grown_then (grown_refl a row) h (fun _ e => by cases e)
theorem grown_setCell (w : World) (g j : Nat) (u : Value) : w.grownBy (w.setCell ⟨g, j, none⟩ u) (some g) :=
  ⟨rfl, rfl, rfl, by simp [World.setCell], fun k _ hne => Below.heap_setCell _ _ _ _ (by intro e; exact hne (by simp [e]))⟩
theorem grown_below {a b : World} (h : a.grownBy b none) : Below a.heap.size a b := ⟨h.os, h.tape, h.output, h.size, fun k hk => h.block k hk (fun e => by cases e)⟩
theorem below_grown {a b : World} (h : Below a.heap.size a b) : a.grownBy b none := ⟨h.os, h.tape, h.output, h.size, fun k hk _ => h.block k hk⟩
theorem grown_alloc (w : World) (o : Obj) : w.grownBy (w.alloc o) none := World.grownBy_alloc w o none

/-- What leaves the world as it was. -/
theorem still {P : Program} {f : FuncId} {args : Array Value} {w : World} {v : Value} (h : Calls P f args w fun e w' => e = .returned v ∧ w' = w) : Calls P f args w fun e w' => e = .returned v ∧ w.grownBy w' none :=
  h.mono fun _ _ ⟨he, hw⟩ => ⟨he, by rw [hw]; exact grown_refl _ _⟩

theorem cell_row {w : World} {g : Nat} {l : List Value} {t : TypeId} {fr : Nat × Nat} (h : w.heap[g]? = some (.cells l.toArray t fr)) (j : Nat) : w.cell? ⟨g, j, none⟩ = l[j]? := by
  rw [cell_of_row w g j l.toArray t fr h]; simp
theorem free_row {w : World} {g : Nat} {c : Array Value} {t : TypeId} (h : w.heap[g]? = some (.cells c t (0, 0))) (j : Nat) : w.frozen? ⟨g, j, none⟩ = false := by
  simp [World.frozen?, h]
theorem row_setCell {w : World} {g : Nat} {l : List Value} {t : TypeId} {fr : Nat × Nat} (h : w.heap[g]? = some (.cells l.toArray t fr)) (j : Nat) (u : Value) : (w.setCell ⟨g, j, none⟩ u).heap[g]? = some (.cells (l.set j u).toArray t fr) := by
  simp [World.setCell, Array.getElem?_modify, h]
theorem row_lt {w : World} {g : Nat} {o : Obj} (h : w.heap[g]? = some o) : g < w.heap.size := (Array.getElem?_eq_some_iff.1 h).1

/-- All blocks but those of S are as they were; there may be new ones. -/
structure Kept (w w' : World) (S : Nat → Prop) : Prop where
  os : w'.os = w.os
  tape : w'.tape = w.tape
  output : w'.output = w.output
  size : w.heap.size ≤ w'.heap.size
  block : ∀ i, i < w.heap.size → ¬ S i → w'.heap[i]? = w.heap[i]?
theorem Kept.of {w w' : World} {row : Option Nat} (h : w.grownBy w' row) {S : Nat → Prop} (hS : ∀ j, row = some j → j < w.heap.size → S j) : Kept w w' S :=
  ⟨h.os, h.tape, h.output, h.size, fun i hi hn => h.block i hi (fun e => hn (hS i e.symm hi))⟩
theorem Kept.new {w w' : World} (h : w.grownBy w' none) (S : Nat → Prop) : Kept w w' S := Kept.of h (fun _ e => by cases e)
theorem Kept.refl (w : World) (S : Nat → Prop) : Kept w w S := ⟨rfl, rfl, rfl, Nat.le_refl _, fun _ _ _ => rfl⟩
theorem Kept.trans {a b c : World} {S S' : Nat → Prop} (h : Kept a b S) (k : Kept b c S') (hS : ∀ i, i < a.heap.size → S' i → S i) : Kept a c S :=
  ⟨k.os.trans h.os, k.tape.trans h.tape, k.output.trans h.output, Nat.le_trans h.size k.size, fun i hi hn =>
    (k.block i (Nat.lt_of_lt_of_le hi h.size) (fun e => hn (hS i hi e))).trans (h.block i hi hn)⟩
theorem Kept.mono {a b : World} {S S' : Nat → Prop} (h : Kept a b S) (hS : ∀ i, i < a.heap.size → S i → S' i) : Kept a b S' :=
  ⟨h.os, h.tape, h.output, h.size, fun i hi hn => h.block i hi (fun e => hn (hS i hi e))⟩
theorem Kept.grown {a b : World} {S : Nat → Prop} (h : Kept a b S) (hS : ∀ i, i < a.heap.size → ¬ S i) : a.grownBy b none :=
  ⟨h.os, h.tape, h.output, h.size, fun i hi _ => h.block i hi (hS i hi)⟩
theorem Kept.at {a b : World} {S : Nat → Prop} (h : Kept a b S) {i : Nat} {o : Obj} (ho : a.heap[i]? = some o) (hS : ¬ S i) : b.heap[i]? = some o := (h.block i (row_lt ho) hS).trans ho
theorem kept_setCell (w : World) (g j : Nat) (u : Value) : Kept w (w.setCell ⟨g, j, none⟩ u) (fun i => i = g) := Kept.of (grown_setCell w g j u) (fun _ e _ => (Option.some.inj e).symm)
theorem grown_drewN (w : World) (n : Nat) (row : Option Nat) : w.grownBy (w.drewN n) row := ⟨rfl, rfl, rfl, Nat.le_refl _, fun _ _ _ => rfl⟩
theorem cell_new (w : World) (v : Value) (t : TypeId) : (w.alloc (.cells #[v] t)).cell? ⟨w.heap.size, 0, none⟩ = some v := by
  rw [cell_of_row _ _ 0 #[v] t (0, 0) (heap_alloc_new w _)]; rfl
end Go.Proofs.YtjfhilignbeboaaGreatDoor
/- A set of package bits in memory, and which steps keep it: plain lemmas, without the program. -/
namespace Go.Proofs.YtjfhilignbeboaaGreatDoor.Bt
open Go.RowKit

/-- The words as they lie in cells. -/
def wvals (W : List Nat) : List Value := W.map (fun (x : Nat) => Value.int .u64 (x : Int))
/-- Is the number i among those that the words tell of? -/
def mem (W : List Nat) (i : Nat) : Bool := (W.getD (i / 64) 0).testBit (i % 64)
/-- The words W tell of the set L (of each number below the bound whether it is in it). -/
structure Rep (W : List Nat) (L : List Bool) : Prop where
  len : W.length = (L.length + 63) / 64
  word : ∀ x ∈ W, x < 18446744073709551616
  is : ∀ i, mem W i = L.getD i false
  small : L.length ≤ 65536

/-- The set L lies at block b, its words in block g. -/
def SetAt (w : World) (b g : Nat) (L : List Bool) : Prop :=
  ∃ (W : List Nat) (cap : Nat) (cur : List Value), w.heap[b]? = some (.cells #[.bool true, .int .i64 (L.length : Int), .slice (some ⟨g, 0, none⟩) W.length cap] 184 (0, 0)) ∧
    w.heap[g]? = some (.cells cur.toArray 180 (0, 0)) ∧ W.length ≤ cap ∧ cap ≤ maxLen ∧ cur.length = cap ∧ cur.take W.length = wvals W ∧ Rep W L ∧ 0 < g

theorem SetAt.kept {w w' : World} {b g : Nat} {L : List Bool} {row : Option Nat} (h : SetAt w b g L) (hg : w.grownBy w' row) (hb : row ≠ some b) (hr : row ≠ some g) : SetAt w' b g L := by
  obtain ⟨W, cap, cur, h1, h2, h3⟩ := h
  exact ⟨W, cap, cur, (hg.block b (row_lt h1) (fun e => hb e.symm)).trans h1, (hg.block g (row_lt h2) (fun e => hr e.symm)).trans h2, h3⟩
theorem SetAt.ne {w : World} {b g b' g' : Nat} {L L' : List Bool} (h : SetAt w b g L) (h' : SetAt w b' g' L') : b ≠ g' := by
  rintro rfl
  obtain ⟨W, cap, cur, h1, h2, h3⟩ := h
  obtain ⟨W', cap', cur', h1', h2', h3'⟩ := h'
  rw [h1] at h2'; simp at h2'
theorem SetAt.lt {w : World} {b g : Nat} {L : List Bool} (h : SetAt w b g L) : b < w.heap.size ∧ g < w.heap.size := by
  obtain ⟨W, cap, cur, h1, h2, h3⟩ := h; exact ⟨row_lt h1, row_lt h2⟩
theorem SetAt.made {w : World} {b g : Nat} {L : List Bool} (h : SetAt w b g L) : w.cell? ⟨b, 0, none⟩ = some (.bool true) := by
  obtain ⟨W, cap, cur, h1, h2, h3⟩ := h; simp [World.cell?, h1]
theorem SetAt.bound {w : World} {b g : Nat} {L : List Bool} (h : SetAt w b g L) : w.cell? ⟨b, 1, none⟩ = some (.int .i64 (L.length : Int)) := by
  obtain ⟨W, cap, cur, h1, h2, h3⟩ := h; simp [World.cell?, h1]
theorem SetAt.small {w : World} {b g : Nat} {L : List Bool} (h : SetAt w b g L) : L.length ≤ 65536 := by
  obtain ⟨W, cap, cur, h1, h2, _, _, _, _, h3, _⟩ := h; exact h3.small
/-- The words: where they lie, and each of them. -/
theorem SetAt.words {w : World} {b g : Nat} {L : List Bool} (h : SetAt w b g L) : ∃ (W : List Nat) (cap : Nat), w.cell? ⟨b, 2, none⟩ = some (.slice (some ⟨g, 0, none⟩) W.length cap) ∧ W.length ≤ cap ∧ cap ≤ maxLen ∧ Rep W L ∧
    ∀ (j x : Nat), W[j]? = some x → w.cell? ⟨g, j, none⟩ = some (.int .u64 (x : Int)) := by
  obtain ⟨W, cap, cur, h1, h2, h3, h3', h4, h5, h6, _⟩ := h
  refine ⟨W, cap, by simp [World.cell?, h1], h3, h3', h6, ?_⟩
  intro j x hx
  have hj : j < W.length := (List.getElem?_eq_some_iff.1 hx).1
  rw [cell_row h2, ← List.getElem?_take_of_lt hj, h5, wvals, List.getElem?_map, hx]; rfl

theorem mem_set (W : List Nat) (i k x : Nat) (hi : i / 64 < W.length) (hx : ∀ b, b < 64 → x.testBit b = if b = i % 64 then (k == 1) else (W.getD (i / 64) 0).testBit b) (j : Nat) :
    mem (W.set (i / 64) x) j = if j = i then (k == 1) else mem W j := by
  unfold mem
  by_cases h : j / 64 = i / 64
  · rw [h]
    simp only [List.getD_eq_getElem?_getD, List.getElem?_set, hi, if_true, Option.getD_some]
    rw [hx _ (Nat.mod_lt _ (by decide))]
    by_cases hj : j = i
    · subst hj; simp
    · rw [if_neg hj, if_neg (by omega)]
      simp [List.getD_eq_getElem?_getD]
  · rw [if_neg (by intro e; exact h (by rw [e]))]
    simp only [List.getD_eq_getElem?_getD, List.getElem?_set]
    rw [if_neg (fun e => h e.symm)]

theorem getD_set (L : List Bool) (i : Nat) (v : Bool) (hi : i < L.length) (j : Nat) : (L.set i v).getD j false = if j = i then v else L.getD j false := by
  simp only [List.getD_eq_getElem?_getD, List.getElem?_set]
  by_cases h : i = j
  · subst h; simp [hi]
  · rw [if_neg h, if_neg (fun e => h e.symm)]

theorem Rep.word_lt {W : List Nat} {L : List Bool} (h : Rep W L) {i : Nat} (hi : i < L.length) : i / 64 < W.length := by rw [h.len]; omega

theorem Rep.getD_lt {W : List Nat} {L : List Bool} (h : Rep W L) (j : Nat) : W.getD j 0 < 18446744073709551616 := by
  by_cases hj : j < W.length
  · rw [List.getD_eq_getElem?_getD, List.getElem?_eq_getElem hj]; exact h.word _ (List.getElem_mem hj)
  · rw [List.getD_eq_getElem?_getD, List.getElem?_eq_none (by omega)]; decide

/-- A number put in, or taken out: one word is turned. -/
theorem Rep.turned {W : List Nat} {L : List Bool} (h : Rep W L) {i : Nat} (hi : i < L.length) (x : Nat) (v : Bool) (hlt : x < 18446744073709551616)
    (hx : ∀ b, b < 64 → x.testBit b = if b = i % 64 then v else (W.getD (i / 64) 0).testBit b) : Rep (W.set (i / 64) x) (L.set i v) := by
  refine ⟨by simp [h.len], ?_, ?_, by simpa using h.small⟩
  · intro y hy
    rcases List.mem_or_eq_of_mem_set hy with hy | rfl
    · exact h.word y hy
    · exact hlt
  · intro j
    rw [getD_set L i v hi, mem_set W i (if v then 1 else 0) x (h.word_lt hi) (by intro b hb; rw [hx b hb]; cases v <;> rfl), h.is]
    cases v <;> rfl

theorem testBit_or_bit (x i b : Nat) : (x ||| 2 ^ i).testBit b = if b = i then true else x.testBit b := by
  rw [Nat.testBit_or, Nat.testBit_two_pow]
  by_cases h : b = i
  · subst h; simp
  · rw [if_neg h]; simp; intro e; exact absurd e.symm h

/-- Behind a store of a word. -/
theorem SetAt.store {w : World} {b g : Nat} {L : List Bool} (h : SetAt w b g L) {i : Nat} (hi : i < L.length) (v : Bool) : ∃ (W : List Nat) (cap : Nat), w.cell? ⟨b, 2, none⟩ = some (.slice (some ⟨g, 0, none⟩) W.length cap) ∧ i / 64 < W.length ∧ W.length ≤ cap ∧ cap ≤ maxLen ∧
    w.cell? ⟨g, i / 64, none⟩ = some (.int .u64 ((W.getD (i / 64) 0 : Nat) : Int)) ∧ W.getD (i / 64) 0 < 18446744073709551616 ∧ w.frozen? ⟨g, i / 64, none⟩ = false ∧
    ∀ x : Nat, x < 18446744073709551616 → (∀ c, c < 64 → x.testBit c = if c = i % 64 then v else (W.getD (i / 64) 0).testBit c) → SetAt (w.setCell ⟨g, i / 64, none⟩ (.int .u64 (x : Int))) b g (L.set i v) := by
  obtain ⟨W, cap, cur, h1, h2, h3, h3', h4, h5, h6, h7⟩ := h
  have hw := h6.word_lt hi
  have hne : b ≠ g := by rintro rfl; rw [h1] at h2; simp at h2
  refine ⟨W, cap, by simp [World.cell?, h1], hw, h3, h3', ?_, h6.getD_lt _, free_row h2 _, ?_⟩
  · rw [cell_row h2, ← List.getElem?_take_of_lt hw, h5, wvals, List.getElem?_map, List.getElem?_eq_getElem hw]
    simp [List.getD_eq_getElem?_getD, hw]
  · intro x hx hb
    refine ⟨W.set (i / 64) x, cap, cur.set (i / 64) (.int .u64 (x : Int)), ?_, row_setCell h2 _ _, by simpa using h3, h3', by simpa using h4, ?_, h6.turned hi x v hx hb, h7⟩
    · rw [Below.heap_setCell _ _ _ _ (by simpa using hne), h1]; simp
    · rw [List.length_set, List.take_set, h5, wvals, wvals, List.map_set]

/-- A set whose cells have just been laid. -/
theorem SetAt.fresh {w : World} {b g cap : Nat} {L : List Bool} {W : List Nat} {cur : List Value} (h1 : w.heap[b]? = some (.cells #[.bool true, .int .i64 (L.length : Int), .slice (some ⟨g, 0, none⟩) W.length cap] 184 (0, 0)))
    (h2 : w.heap[g]? = some (.cells cur.toArray 180 (0, 0))) (h3 : W.length ≤ cap) (h3' : cap ≤ maxLen) (h4 : cur.length = cap) (h5 : cur.take W.length = wvals W) (h6 : Rep W L) (h7 : 0 < g) : SetAt w b g L :=
  ⟨W, cap, cur, h1, h2, h3, h3', h4, h5, h6, h7⟩

theorem rep_none (n : Nat) (hn : n ≤ 65536) : Rep (List.replicate ((n + 63) / 64) 0) (List.replicate n false) := by
  refine ⟨by simp, ?_, ?_, by simpa using hn⟩
  · intro x hx; rw [List.eq_of_mem_replicate hx]; decide
  · intro i
    unfold mem
    have e : (List.replicate ((n + 63) / 64) 0).getD (i / 64) 0 = 0 := by
      rw [List.getD_eq_getElem?_getD, List.getElem?_replicate]; split <;> rfl
    have e2 : (List.replicate n false).getD i false = false := by
      rw [List.getD_eq_getElem?_getD, List.getElem?_replicate]; split <;> rfl
    rw [e, e2, Nat.zero_testBit]

end Go.Proofs.YtjfhilignbeboaaGreatDoor.Bt
/- The contracts of a set's small calls: isNone, may, bit, size, New, Put, Drop, Has, Bound. -/
namespace Go.Proofs.YtjfhilignbeboaaGreatDoor.Bt
open Go.RowKit
attribute [local go_sem ↓] Go.wp_at_zero Go.wp_at_succ

set_option maxHeartbeats 400000 in
theorem isNone_nil (w : World) : Calls Tryz.prog 163 #[.pointer none] w fun e w' => e = .returned (.bool true) ∧ w' = w := by
  go_enter Tryz.func163, Tryz.ntmps163
  go_wp2
  go_ret
  exact ⟨rfl, rfl⟩
set_option maxHeartbeats 400000 in
theorem isNone_at (b : Nat) (m : Bool) (w : World) (h : w.cell? ⟨b, 0, none⟩ = some (.bool m)) : Calls Tryz.prog 163 #[.pointer (some ⟨b, 0, none⟩)] w fun e w' => e = .returned (.bool (!m)) ∧ w' = w := by
  go_enter Tryz.func163, Tryz.ntmps163
  go_wp2
  go_ret
  exact ⟨rfl, rfl⟩

/-- What may answers. -/
def mayF (n : Nat) (i : Int) : Int := if 0 ≤ i ∧ i < (n : Int) then 0 else 2

set_option maxHeartbeats 400000 in
theorem may_none (p : Option Addr) (i : Int) (w : World) (h : p = none ∨ ∃ b, p = some ⟨b, 0, none⟩ ∧ w.cell? ⟨b, 0, none⟩ = some (.bool false)) :
    Calls Tryz.prog 141 #[.pointer p, .int .i64 i] w fun e w' => e = .returned (.int .i64 1) ∧ w' = w := by
  go_enter Tryz.func141, Tryz.ntmps141
  go_wp2_with fail
  have hc : Calls Tryz.prog 163 #[.pointer p] w fun e w' => e = .returned (.bool true) ∧ w' = w := by
    rcases h with rfl | ⟨b, rfl, hb⟩
    · exact isNone_nil w
    · exact isNone_at b false w hb
  refine hc.mono ?_
  rintro e w' ⟨rfl, rfl⟩
  go_wp2
  go_ret
  exact ⟨rfl, rfl⟩

set_option maxHeartbeats 400000 in
theorem may_any (b g : Nat) (L : List Bool) (i : Int) (w : World) (h : SetAt w b g L) :
    Calls Tryz.prog 141 #[.pointer (some ⟨b, 0, none⟩), .int .i64 i] w fun e w' => e = .returned (.int .i64 (mayF L.length i)) ∧ w' = w := by
  have hb := h.bound
  have hm := h.made
  clear h
  generalize L.length = n at hb ⊢
  by_cases h1 : 0 ≤ i ∧ i < (n : Int)
  · have hF : mayF n i = 0 := by simp [mayF, h1]
    obtain ⟨h1, h2⟩ := h1
    rw [hF]; clear hF
    go_enter Tryz.func141, Tryz.ntmps141
    go_wp2_with fail
    refine (isNone_at b true w hm).mono ?_
    rintro e w' ⟨rfl, rfl⟩
    go_wp2
    go_ret
    exact ⟨rfl, rfl⟩
  · have hF : mayF n i = 2 := by simp only [mayF]; rw [if_neg h1]
    rw [hF]; clear hF
    go_enter Tryz.func141, Tryz.ntmps141
    go_wp2_with fail
    refine (isNone_at b true w hm).mono ?_
    rintro e w' ⟨rfl, rfl⟩
    by_cases h2 : i < 0
    · clear h1
      go_wp2
      go_ret
      exact ⟨rfl, rfl⟩
    · have h3 : (n : Int) ≤ i := by omega
      have h4 : 0 ≤ i := by omega
      clear h1 h2
      go_wp2
      go_ret
      exact ⟨rfl, rfl⟩

theorem shl_bit (k : Nat) (hk : k < 64) : IntKind.u64.wrap (2 ^ k) = ((2 ^ k : Nat) : Int) := by
  rw [IntKind.wrap_u64]
  have : (2 : Nat) ^ k < 18446744073709551616 := Nat.pow_lt_pow_right (a := 2) (by decide) (m := k) (n := 64) hk
  have e : ((2 : Int) ^ k) = ((2 ^ k : Nat) : Int) := by simp
  rw [e]; generalize (2 : Nat) ^ k = y at this ⊢; omega

set_option maxHeartbeats 400000 in
theorem bit_any (i : Nat) (w : World) (hi : i ≤ 65536) :
    Calls Tryz.prog 142 #[.int .i64 (i : Int)] w fun e w' => e = .returned (.int .u64 ((2 ^ (i % 64) : Nat) : Int)) ∧ w' = w := by
  go_enter Tryz.func142, Tryz.ntmps142
  go_wp2
  go_ret
  exact ⟨by rw [shl_bit _ (Nat.mod_lt _ (by decide))]; rfl, rfl⟩

theorem Tryz.info180 : (Tryz.prog.info? 180).map (fun i => (i.zero, i.size, i.bytes)) = some (some (.int .u64 0), 1, 8) := by kernel_rfl
theorem made_words (n : Nat) : madeCells #[.int .u64 0] n = (wvals (List.replicate n 0)).toArray := by
  apply Array.ext'
  rw [toList_madeCells_one]
  simp [wvals]
theorem make_words (n : Nat) (C : Int) (hC : C = (n : Int)) (h : n ≤ 35184372088832) (w : World) : (Instr.makeSlice 182 (.int .i64 C) (.int .i64 C)).run Tryz.prog w = .ok (.slice (some ⟨w.heap.size, 0, none⟩) n n) (w.alloc (.cells (wvals (List.replicate n 0)).toArray 180)) := by
  subst hC
  rw [run_make_row' (P := Tryz.prog) 182 180 (.int .u64 0) 8 Tryz.underlying182 Tryz.info180 rfl .i64 .i64 n (by omega) (by omega) w, made_words]

set_option maxHeartbeats 400000 in
theorem new_bad (n : Int) (w : World) (h : n < 0 ∨ 65536 < n) :
    Calls Tryz.prog 90 #[.int .i64 n] w fun e w' => e = .returned (.tuple #[.pointer none, .int .i64 2]) ∧ w' = w := by
  go_enter Tryz.func90, Tryz.ntmps90
  rcases h with h | h
  · go_wp2
    go_ret2
    exact ⟨rfl, rfl⟩
  · have h2 : 0 ≤ n := by omega
    go_wp2
    go_ret2
    exact ⟨rfl, rfl⟩

set_option maxHeartbeats 400000 in
theorem new_any (n : Nat) (w : World) (h : n ≤ 65536) (hw : 0 < w.heap.size) :
    Calls Tryz.prog 90 #[.int .i64 (n : Int)] w fun e w' => ∃ b g, e = .returned (.tuple #[.pointer (some ⟨b, 0, none⟩), .int .i64 0]) ∧ SetAt w' b g (List.replicate n false) ∧ w.heap.size ≤ b ∧ w.heap.size ≤ g ∧ w.grownBy w' none := by
  have hmk := make_words ((n + 63) / 64) (((n : Int) + 64 - 1) / 64) (by omega) (by omega)
  have h1 : (0 : Int) ≤ (n : Int) := by omega
  have h2 : (n : Int) ≤ 65536 := by omega
  go_enter Tryz.func90, Tryz.ntmps90
  go_wp2
  go_ret2
  refine ⟨w.heap.size + 1, w.heap.size, rfl, ?_, by omega, Nat.le_refl _, grown_trans (World.grownBy_alloc w _ _) (World.grownBy_alloc _ _ _)⟩
  have e1 := heap_alloc_new (w.alloc (.cells (wvals (List.replicate ((n + 63) / 64) 0)).toArray 180)) (Obj.cells #[.bool true, .int .i64 (n : Int), .slice (some ⟨w.heap.size, 0, none⟩) ((n + 63) / 64) ((n + 63) / 64)] 184)
  rw [World.size_alloc] at e1
  refine SetAt.fresh (W := List.replicate ((n + 63) / 64) 0) (cap := (n + 63) / 64) (cur := wvals (List.replicate ((n + 63) / 64) 0)) ?_ ?_ (by simp) (by unfold maxLen; omega) (by simp [wvals]) (by simp [wvals]) (rep_none n h) hw
  · simpa using e1
  · exact (Below.heap_alloc _ _ _ (by simp)).trans (heap_alloc_new w _)

theorem SetAt.drew {w : World} {b g : Nat} {L : List Bool} (h : SetAt w b g L) : SetAt w.drew b g L := h.kept (grown_drew w none) (by simp) (by simp)

theorem wrap_i64_small (q : Int) (h1 : -9223372036854775808 ≤ q) (h2 : q ≤ 9223372036854775807) : IntKind.i64.wrap q = q := by
  rw [IntKind.wrap_i64]; omega

set_option maxHeartbeats 1000000 in
theorem put_any (b g : Nat) (L : List Bool) (i : Nat) (w : World) (h : SetAt w b g L) (hi : i < L.length) :
    Calls Tryz.prog 97 #[.pointer (some ⟨b, 0, none⟩), .int .i64 (i : Int)] w fun e w' => e = .returned (.int .i64 0) ∧ SetAt w' b g (L.set i true) ∧ w.grownBy w' (some g) := by
  obtain ⟨W, cap, hc, hw, hcap, hcap2, hcell, hlt, hfr, hst⟩ := h.store hi true
  have hsm := h.small
  have hmay := may_any b g L (i : Int) w h
  rw [show mayF L.length (i : Int) = 0 by simp [mayF]; omega] at hmay
  have hq : IntKind.i64.wrap ((i : Int) / 64) = ((i / 64 : Nat) : Int) := by rw [wrap_i64_small _ (by omega) (by omega)]; omega
  have hbt := fun w => bit_any i w (by omega)
  generalize W.getD (i / 64) 0 = x at *
  generalize i / 64 = q at *
  have hor := bits_or_u64_nat x (2 ^ (i % 64)) hlt (Nat.pow_lt_pow_right (a := 2) (by decide) (m := i % 64) (n := 64) (by omega))
  have hx2 : x ||| 2 ^ (i % 64) < 18446744073709551616 := Nat.or_lt_two_pow (n := 64) hlt (Nat.pow_lt_pow_right (a := 2) (by decide) (m := i % 64) (n := 64) (by omega))
  have H := hide (hst (x ||| 2 ^ (i % 64)) hx2 (fun c _ => testBit_or_bit x (i % 64) c))
  have HM := hide hmay
  have HB := hide hbt
  clear hst hmay hbt
  generalize 2 ^ (i % 64) = m at *
  generalize x ||| m = y at *
  have hw1 : (0 : Int) ≤ (q : Int) := by omega
  have hw2 : (q : Int) < (W.length : Int) := by omega
  go_enter Tryz.func97, Tryz.ntmps97
  go_wp2_with fail
  refine HM.out.mono ?_
  rintro e w' ⟨rfl, rfl⟩
  go_wp2_with fail
  go_region_with (go_at_call 142; refine (HB.out _).mono ?_; rintro e w2 ⟨rfl, rfl⟩)
  all_goals
    go_wp2
    go_ret
    exact ⟨rfl, H.out.drew, grown_trans (grown_setCell _ _ _ _) (grown_drew _ _)⟩

def andNotN (x m : Nat) : Nat := (BitVec.ofNat 64 x &&& ~~~ BitVec.ofNat 64 m).toNat
theorem andNotN_lt (x m : Nat) : andNotN x m < 18446744073709551616 := BitVec.isLt _
theorem bits_andNot_u64_nat (a b : Nat) : bits .andNot .u64 (a : Int) (b : Int) = ((andNotN a b : Nat) : Int) := by
  show IntKind.u64.wrap ((BitVec.ofInt 64 (a : Int) &&& ~~~ BitVec.ofInt 64 (b : Int)).toNat : Int) = _
  rw [BitVec.ofInt_natCast, BitVec.ofInt_natCast, IntKind.wrap_u64]
  have := andNotN_lt a b
  unfold andNotN at this ⊢
  omega
theorem testBit_andNotN (x k c : Nat) (hc : c < 64) : (andNotN x (2 ^ k)).testBit c = if c = k then false else x.testBit c := by
  unfold andNotN
  rw [BitVec.testBit_toNat, BitVec.getLsbD_and, BitVec.getLsbD_not, BitVec.getLsbD_ofNat, BitVec.getLsbD_ofNat, Nat.testBit_two_pow]
  by_cases h : c = k
  · subst h; simp
  · rw [if_neg h]; simp [hc]; intro _ e; exact absurd e.symm h

set_option maxHeartbeats 1000000 in
theorem drop_any (b g : Nat) (L : List Bool) (i : Nat) (w : World) (h : SetAt w b g L) (hi : i < L.length) :
    Calls Tryz.prog 158 #[.pointer (some ⟨b, 0, none⟩), .int .i64 (i : Int)] w fun e w' => e = .returned (.int .i64 0) ∧ SetAt w' b g (L.set i false) ∧ w.grownBy w' (some g) := by
  obtain ⟨W, cap, hc, hw, hcap, hcap2, hcell, hlt, hfr, hst⟩ := h.store hi false
  have hsm := h.small
  have hmay := may_any b g L (i : Int) w h
  rw [show mayF L.length (i : Int) = 0 by simp [mayF]; omega] at hmay
  have hq : IntKind.i64.wrap ((i : Int) / 64) = ((i / 64 : Nat) : Int) := by rw [wrap_i64_small _ (by omega) (by omega)]; omega
  have hbt := fun w => bit_any i w (by omega)
  generalize W.getD (i / 64) 0 = x at *
  generalize i / 64 = q at *
  have hor := bits_andNot_u64_nat x (2 ^ (i % 64))
  have H := hide (hst (andNotN x (2 ^ (i % 64))) (andNotN_lt _ _) (fun c hc => testBit_andNotN x (i % 64) c hc))
  have HM := hide hmay
  have HB := hide hbt
  clear hst hmay hbt
  generalize andNotN x (2 ^ (i % 64)) = y at *
  generalize 2 ^ (i % 64) = m at *
  have hw1 : (0 : Int) ≤ (q : Int) := by omega
  have hw2 : (q : Int) < (W.length : Int) := by omega
  go_enter Tryz.func158, Tryz.ntmps158
  go_wp2_with fail
  refine HM.out.mono ?_
  rintro e w' ⟨rfl, rfl⟩
  go_wp2_with fail
  go_region_with (go_at_call 142; refine (HB.out _).mono ?_; rintro e w2 ⟨rfl, rfl⟩)
  all_goals
    go_wp2
    go_ret
    exact ⟨rfl, H.out.drew, grown_trans (grown_setCell _ _ _ _) (grown_drew _ _)⟩

/-- No set. -/
def NoSet (w : World) (p : Option Addr) : Prop := p = none ∨ ∃ b, p = some ⟨b, 0, none⟩ ∧ w.cell? ⟨b, 0, none⟩ = some (.bool false)
theorem NoSet.is {w : World} {p : Option Addr} (h : NoSet w p) : Calls Tryz.prog 163 #[.pointer p] w fun e w' => e = .returned (.bool true) ∧ w' = w := by
  rcases h with rfl | ⟨b, rfl, hb⟩
  · exact isNone_nil w
  · exact isNone_at b false w hb

set_option maxHeartbeats 400000 in
theorem put_bad (p : Option Addr) (i c : Int) (w : World) (hc : c ≠ 0) (hm : Calls Tryz.prog 141 #[.pointer p, .int .i64 i] w fun e w' => e = .returned (.int .i64 c) ∧ w' = w) :
    Calls Tryz.prog 97 #[.pointer p, .int .i64 i] w fun e w' => e = .returned (.int .i64 c) ∧ w' = w := by
  have HM := hide hm
  clear hm
  go_enter Tryz.func97, Tryz.ntmps97
  go_wp2_with fail
  refine HM.out.mono ?_
  rintro e w' ⟨rfl, rfl⟩
  go_wp2
  go_ret
  exact ⟨rfl, rfl⟩

set_option maxHeartbeats 400000 in
theorem drop_bad (p : Option Addr) (i c : Int) (w : World) (hc : c ≠ 0) (hm : Calls Tryz.prog 141 #[.pointer p, .int .i64 i] w fun e w' => e = .returned (.int .i64 c) ∧ w' = w) :
    Calls Tryz.prog 158 #[.pointer p, .int .i64 i] w fun e w' => e = .returned (.int .i64 c) ∧ w' = w := by
  have HM := hide hm
  clear hm
  go_enter Tryz.func158, Tryz.ntmps158
  go_wp2_with fail
  refine HM.out.mono ?_
  rintro e w' ⟨rfl, rfl⟩
  go_wp2
  go_ret
  exact ⟨rfl, rfl⟩

end Go.Proofs.YtjfhilignbeboaaGreatDoor.Bt
/- The contracts of a set's Has, Bound, TrailingZeros64, OnesCount64, Count. -/
namespace Go.Proofs.YtjfhilignbeboaaGreatDoor.Bt
open Go.RowKit
attribute [local go_sem ↓] Go.wp_at_zero Go.wp_at_succ

theorem SetAt.drewN {w : World} {b g : Nat} {L : List Bool} (h : SetAt w b g L) (n : Nat) : SetAt (w.drewN n) b g L := h.kept (grown_drewN w n none) (by simp) (by simp)
theorem NoSet.drewN {w : World} {p : Option Addr} (h : NoSet w p) (n : Nat) : NoSet (w.drewN n) p := h

set_option maxHeartbeats 400000 in
theorem has_bad (p : Option Addr) (i c : Int) (w : World) (hc : c ≠ 0) (hm : ∀ n, Calls Tryz.prog 141 #[.pointer p, .int .i64 i] (w.drewN n) fun e w' => e = .returned (.int .i64 c) ∧ w' = w.drewN n) :
    Calls Tryz.prog 88 #[.pointer p, .int .i64 i] w fun e w' => e = .returned (.bool false) ∧ w.grownBy w' none := by
  have HM := hide hm
  clear hm
  have hd : decide (c = 0) = false := by simpa using hc
  go_enter Tryz.func88, Tryz.ntmps88
  go_wp2_with fail
  go_quiet ((go_at_call 141; exact Calls.quiet_of_same (HM.out _)))
  go_wp2
  go_ret
  exact ⟨rfl, grown_drewN _ _ _⟩

theorem bit_ne (x k : Nat) : decide ((x &&& 2 ^ k : Nat) ≠ 0) = x.testBit k := by
  cases h : x.testBit k
  · have : x &&& 2 ^ k = 0 := by
      apply Nat.eq_of_testBit_eq
      intro i
      rw [Nat.testBit_and, Nat.testBit_two_pow, Nat.zero_testBit]
      by_cases e : k = i
      · subst e; simp [h]
      · simp [e]
    simp [this]
  · have : (x &&& 2 ^ k).testBit k = true := by rw [Nat.testBit_and, Nat.testBit_two_pow, h]; simp
    simp only [ne_eq, decide_eq_true_eq]
    intro e
    rw [e, Nat.zero_testBit] at this
    cases this
theorem ne_int (y : Nat) : decide (y ≠ 0) = ((y : Int) != 0) := by
  by_cases h : y = 0
  · subst h; rfl
  · have h2 : (y : Int) ≠ 0 := by omega
    simp [h]

set_option maxHeartbeats 1000000 in
theorem has_any (b g : Nat) (L : List Bool) (i : Nat) (w : World) (h : SetAt w b g L) (hi : i < L.length) :
    Calls Tryz.prog 88 #[.pointer (some ⟨b, 0, none⟩), .int .i64 (i : Int)] w fun e w' => e = .returned (.bool (L.getD i false)) ∧ w.grownBy w' none := by
  obtain ⟨W, cap, hc, hcap, hcap2, hR, hcells⟩ := h.words
  have hsm := h.small
  have hw := hR.word_lt hi
  have hmay := fun n => may_any b g L (i : Int) (w.drewN n) (h.drewN n)
  rw [show mayF L.length (i : Int) = 0 by simp [mayF]; omega] at hmay
  have hq : IntKind.i64.wrap ((i : Int) / 64) = ((i / 64 : Nat) : Int) := by rw [wrap_i64_small _ (by omega) (by omega)]; omega
  have hbt := fun n => bit_any i (w.drewN n) (by omega)
  have hcell := hcells (i / 64) (W.getD (i / 64) 0) (by rw [List.getD_eq_getElem?_getD, List.getElem?_eq_getElem hw]; rfl)
  have hlt := hR.getD_lt (i / 64)
  have hres : L.getD i false = (W.getD (i / 64) 0).testBit (i % 64) := (hR.is i).symm
  rw [hres, ← bit_ne]
  generalize W.getD (i / 64) 0 = x at *
  generalize i / 64 = q at *
  have hand := bits_and_u64_nat x (2 ^ (i % 64)) hlt (Nat.pow_lt_pow_right (a := 2) (by decide) (m := i % 64) (n := 64) (by omega))
  have HM := hide hmay
  have HB := hide hbt
  clear hmay hbt hcells hres hR h
  generalize x &&& 2 ^ (i % 64) = y at *
  generalize 2 ^ (i % 64) = m at *
  have hw1 : (0 : Int) ≤ (q : Int) := by omega
  have hw2 : (q : Int) < (W.length : Int) := by omega
  go_enter Tryz.func88, Tryz.ntmps88
  go_wp2_with fail
  go_quiet (first | (go_at_call 141; exact Calls.quiet_of_same (HM.out _)) | (go_at_call 142; exact Calls.quiet_of_same (HB.out _)))
  go_wp2
  go_ret
  exact ⟨by rw [ne_int]; rfl, grown_drewN _ _ _⟩

end Go.Proofs.YtjfhilignbeboaaGreatDoor.Bt
/- Numbers alone: which shapes and sizes may be, how many pieces hold so many bytes. -/
namespace Go.Proofs.YtjfhilignbeboaaGreatDoor.Gx

/-- A shape that may be. -/
def OkS (a b c : Int) : Prop := 1 ≤ a ∧ a ≤ 1024 ∧ 1 ≤ b ∧ b ≤ 4096 ∧ 1 ≤ c ∧ c ≤ 64
instance (a b c : Int) : Decidable (OkS a b c) := by unfold OkS; infer_instance
/-- A size that may be. -/
def OkZ (s : Int) : Prop := s = 64 ∨ s = 128 ∨ s = 256 ∨ s = 512 ∨ s = 1024 ∨ s = 2048 ∨ s = 4096
instance (s : Int) : Decidable (OkZ s) := by unfold OkZ; infer_instance
/-- A disk that may be. -/
def OkD (n s : Int) : Prop := 1 ≤ n ∧ n ≤ 65536 ∧ OkZ s ∧ n * s ≤ 67108864
instance (n s : Int) : Decidable (OkD n s) := by unfold OkD; infer_instance
/-- The lesser of two. -/
def lo (a b : Int) : Int := if a ≤ b then a else b
/-- An image's most bytes. -/
def img (a b : Int) : Int := 20 + 14 * lo a b
/-- How many pieces of s bytes hold b bytes. -/
def hold (b s : Int) : Int := (b + s - 1) / s
/-- A slot's sectors. -/
def slot (a b s : Int) : Int := 1 + hold (img a b) s
/-- What is needed. -/
def need (a b s : Int) : Int := 2 * slot a b s + hold 54 s

theorem lo_bounds {a b c : Int} (h : OkS a b c) : 1 ≤ lo a b ∧ lo a b ≤ 1024 := by
  unfold OkS at h; unfold lo; split <;> omega
theorem img_bounds {a b c : Int} (h : OkS a b c) : 34 ≤ img a b ∧ img a b ≤ 14356 := by
  have := lo_bounds h; unfold img; omega
theorem okz_bounds {s : Int} (h : OkZ s) : 64 ≤ s ∧ s ≤ 4096 := by unfold OkZ at h; omega
/-- What hold is. -/
theorem hold_spec {b s : Int} (hs : 0 < s) (hb : 0 < b) : b ≤ hold b s * s ∧ (hold b s - 1) * s < b ∧ 1 ≤ hold b s := by
  unfold hold
  have h1 := Int.emod_add_mul_ediv (b + s - 1) s
  have h2 := Int.emod_nonneg (b + s - 1) (by omega : s ≠ 0)
  have h3 := Int.emod_lt_of_pos (b + s - 1) hs
  generalize (b + s - 1) % s = r at *
  have h4 : 1 ≤ (b + s - 1) / s := by
    rw [Int.le_ediv_iff_mul_le hs]; omega
  generalize (b + s - 1) / s = q at *
  rw [Int.sub_mul, Int.mul_comm q s]
  omega
/-- And nothing else. -/
theorem hold_of {b s k : Int} (hs : 0 < s) (hb : 0 < b) (h1 : b ≤ k * s) (h2 : (k - 1) * s < b) : k = hold b s := by
  obtain ⟨g1, g2, _⟩ := hold_spec hs hb
  generalize hold b s = q at *
  have l1 : (k - 1) * s < q * s := by omega
  have l2 : (q - 1) * s < k * s := by omega
  have m1 := Int.lt_of_mul_lt_mul_right l1 (by omega)
  have m2 := Int.lt_of_mul_lt_mul_right l2 (by omega)
  omega
theorem hold_54 {s : Int} (h : OkZ s) : hold 54 s = 1 := by
  have hb := okz_bounds h
  exact (hold_of (by omega) (by omega) (by omega) (by omega)).symm
theorem hold_bounds {b s : Int} (h : OkZ s) (h1 : 0 < b) (h2 : b ≤ 14356) : 1 ≤ hold b s ∧ hold b s ≤ 225 := by
  have hb := okz_bounds h
  obtain ⟨g1, g2, g3⟩ := hold_spec (s := s) (b := b) (by omega) h1
  refine ⟨g3, ?_⟩
  generalize hold b s = q at *
  have : (q - 1) * 64 ≤ (q - 1) * s := Int.mul_le_mul_of_nonneg_left hb.1 (by omega)
  omega
theorem slot_bounds {a b c s : Int} (h : OkS a b c) (hz : OkZ s) : 2 ≤ slot a b s ∧ slot a b s ≤ 226 := by
  have := hold_bounds hz (b := img a b) (by have := img_bounds h; omega) (img_bounds h).2
  unfold slot; omega
theorem need_eq {a b s : Int} (hz : OkZ s) : need a b s = 2 * slot a b s + 1 := by
  unfold need; rw [hold_54 hz]
theorem need_bounds {a b c s : Int} (h : OkS a b c) (hz : OkZ s) : 5 ≤ need a b s ∧ need a b s ≤ 453 := by
  have := slot_bounds h hz
  rw [need_eq hz]; omega
theorem hold_mono {x y s : Int} (hs : 0 < s) (h : x ≤ y) : hold x s ≤ hold y s := by
  unfold hold; exact Int.ediv_le_ediv hs (by omega)
theorem need_mono {a b a' b' s : Int} (hs : 0 < s) (ha : a ≤ a') (hb : b ≤ b') : need a b s ≤ need a' b' s := by
  have : img a b ≤ img a' b' := by unfold img lo; split <;> split <;> omega
  have := hold_mono hs this
  unfold need slot; omega

def bitT (n : Nat) : Bool := n < 64 || 4097 ≤ n || (((n &&& (n - 1)) == 0) == (n == 64 || n == 128 || n == 256 || n == 512 || n == 1024 || n == 2048 || n == 4096))
theorem one_bit0 : ∀ a : Fin 65, ∀ b : Fin 64, bitT (64 * a.1 + b.1) = true := by decide +kernel
/-- The numbers with one bit among 64 .. 4096. -/
theorem one_bit (n : Nat) (h : n < 4097) (h6 : 64 ≤ n) : (n &&& (n - 1)) = 0 ↔ (n = 64 ∨ n = 128 ∨ n = 256 ∨ n = 512 ∨ n = 1024 ∨ n = 2048 ∨ n = 4096) := by
  have e : 64 * (n / 64) + n % 64 = n := Nat.div_add_mod n 64
  have := one_bit0 ⟨n / 64, by omega⟩ ⟨n % 64, by omega⟩
  simp only [e] at this
  unfold bitT at this
  simp only [Bool.or_eq_true, decide_eq_true_eq, Bool.beq_eq_decide_eq] at this
  rcases this with (h1 | h1) | h1
  · omega
  · omega
  · have h2 := Bool.eq_iff_iff.1 h1
    simp only [decide_eq_true_eq, Bool.or_eq_true] at h2
    rw [h2]; omega
end Go.Proofs.YtjfhilignbeboaaGreatDoor.Gx
