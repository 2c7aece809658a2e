/- Texts joined: JnAa. -/
import Derived.WalkKit
import Derived.WalkSpells
import Derived.WalkLawsBesides
import Derived.Laws.CopyOwn
import Derived.Laws.Bits64b
import Derived.Laws.Bits64
import Derived.Deep.MidRow
import Derived.Deep.LoopGhost
import Derived.Deep.RegionHeld3
import Derived.Deep.DrawnRows
import Derived.Deep.QuietTactic
import Derived.Deep.RegionWith
import Derived.BigQuiet
import Derived.Deep.OwnRows
import Derived.Laws.AppendOwnNone
import Derived.Laws.BitsAllLaws
import Derived.Laws.OwnMore
import Derived.ArgAppend
import Derived.Test.YtinkkocleognbaaGreatDoorChecked
import Derived.Laws.Rows
import Derived.Laws.ResultCell
/- Texts joined: Kb, BtBase, BtSet, BtHas, GeGx, GeBase, GePr, IxMx. -/
/- Worlds and rows: plain lemmas, without the program. -/
namespace Go.Proofs.YtinkkocleognbaaGreatDoor
open Go.RowKit
theorem hide {p : Prop} (h : p) : Hid p := h

theorem grown_then {a b c : World} {row row' : Option Nat} (h : a.grownBy b row) (k : b.grownBy c row') (hr : ∀ j, row' = some j → a.heap.size ≤ j ∨ row = some j) : a.grownBy c row :=
  ⟨k.os.trans h.os, k.tape.trans h.tape, k.output.trans h.output, Nat.le_trans h.size k.size, fun i hi hne =>
    (k.block i (Nat.lt_of_lt_of_le hi h.size) (fun e => by
      rcases hr i e.symm with h1 | h1
      · omega
      · exact hne h1.symm)).trans (h.block i hi hne)⟩
theorem grown_trans {a b c : World} {row : Option Nat} (h : a.grownBy b row) (k : b.grownBy c row) : a.grownBy c row := grown_then h k (fun _ e => Or.inr e)
theorem grown_refl (w : World) (row : Option Nat) : w.grownBy w row := ⟨rfl, rfl, rfl, Nat.le_refl _, fun _ _ _ => rfl⟩
theorem grown_drew (w : World) (row : Option Nat) : w.grownBy w.drew row := ⟨rfl, rfl, rfl, Nat.le_refl _, fun _ _ _ => rfl⟩
theorem grown_none {a b : World} (h : a.grownBy b none) (row : Option Nat) : a.grownBy b row := grown_then (grown_refl a row) h (fun _ e => by cases e)
theorem grown_setCell (w : World) (g j : Nat) (u : Value) : w.grownBy (w.setCell ⟨g, j, none⟩ u) (some g) :=
  ⟨rfl, rfl, rfl, by simp [World.setCell], fun k _ hne => Below.heap_setCell _ _ _ _ (by intro e; exact hne (by simp [e]))⟩
theorem grown_below {a b : World} (h : a.grownBy b none) : Below a.heap.size a b := ⟨h.os, h.tape, h.output, h.size, fun k hk => h.block k hk (fun e => by cases e)⟩
theorem grown_alloc (w : World) (o : Obj) : w.grownBy (w.alloc o) none := World.grownBy_alloc w o none

/-- What leaves the world as it was. -/
theorem still {P : Program} {f : FuncId} {args : Array Value} {w : World} {v : Value} (h : Calls P f args w fun e w' => e = .returned v ∧ w' = w) : Calls P f args w fun e w' => e = .returned v ∧ w.grownBy w' none :=
  h.mono fun _ _ ⟨he, hw⟩ => ⟨he, by rw [hw]; exact grown_refl _ _⟩

theorem cell_row {w : World} {g : Nat} {l : List Value} {t : TypeId} {fr : Nat × Nat} (h : w.heap[g]? = some (.cells l.toArray t fr)) (j : Nat) : w.cell? ⟨g, j, none⟩ = l[j]? := by
  rw [cell_of_row w g j l.toArray t fr h]; simp
theorem free_row {w : World} {g : Nat} {c : Array Value} {t : TypeId} (h : w.heap[g]? = some (.cells c t (0, 0))) (j : Nat) : w.frozen? ⟨g, j, none⟩ = false := by
  simp [World.frozen?, h]
theorem row_setCell {w : World} {g : Nat} {l : List Value} {t : TypeId} {fr : Nat × Nat} (h : w.heap[g]? = some (.cells l.toArray t fr)) (j : Nat) (u : Value) : (w.setCell ⟨g, j, none⟩ u).heap[g]? = some (.cells (l.set j u).toArray t fr) := by
  simp [World.setCell, Array.getElem?_modify, h]
theorem row_lt {w : World} {g : Nat} {o : Obj} (h : w.heap[g]? = some o) : g < w.heap.size := (Array.getElem?_eq_some_iff.1 h).1

/-- All blocks but those of S are as they were; there may be new ones. -/
structure Kept (w w' : World) (S : Nat → Prop) : Prop where
  os : w'.os = w.os
  tape : w'.tape = w.tape
  output : w'.output = w.output
  size : w.heap.size ≤ w'.heap.size
  block : ∀ i, i < w.heap.size → ¬ S i → w'.heap[i]? = w.heap[i]?
theorem Kept.of {w w' : World} {row : Option Nat} (h : w.grownBy w' row) {S : Nat → Prop} (hS : ∀ j, row = some j → j < w.heap.size → S j) : Kept w w' S :=
  ⟨h.os, h.tape, h.output, h.size, fun i hi hn => h.block i hi (fun e => hn (hS i e.symm hi))⟩
theorem Kept.new {w w' : World} (h : w.grownBy w' none) (S : Nat → Prop) : Kept w w' S := Kept.of h (fun _ e => by cases e)
theorem Kept.refl (w : World) (S : Nat → Prop) : Kept w w S := ⟨rfl, rfl, rfl, Nat.le_refl _, fun _ _ _ => rfl⟩
theorem Kept.trans {a b c : World} {S S' : Nat → Prop} (h : Kept a b S) (k : Kept b c S') (hS : ∀ i, i < a.heap.size → S' i → S i) : Kept a c S :=
  ⟨k.os.trans h.os, k.tape.trans h.tape, k.output.trans h.output, Nat.le_trans h.size k.size, fun i hi hn =>
    (k.block i (Nat.lt_of_lt_of_le hi h.size) (fun e => hn (hS i hi e))).trans (h.block i hi hn)⟩
theorem Kept.mono {a b : World} {S S' : Nat → Prop} (h : Kept a b S) (hS : ∀ i, i < a.heap.size → S i → S' i) : Kept a b S' :=
  ⟨h.os, h.tape, h.output, h.size, fun i hi hn => h.block i hi (fun e => hn (hS i hi e))⟩
theorem Kept.grown {a b : World} {S : Nat → Prop} (h : Kept a b S) (hS : ∀ i, i < a.heap.size → ¬ S i) : a.grownBy b none :=
  ⟨h.os, h.tape, h.output, h.size, fun i hi _ => h.block i hi (hS i hi)⟩
theorem Kept.at {a b : World} {S : Nat → Prop} (h : Kept a b S) {i : Nat} {o : Obj} (ho : a.heap[i]? = some o) (hS : ¬ S i) : b.heap[i]? = some o := (h.block i (row_lt ho) hS).trans ho
theorem kept_setCell (w : World) (g j : Nat) (u : Value) : Kept w (w.setCell ⟨g, j, none⟩ u) (fun i => i = g) := Kept.of (grown_setCell w g j u) (fun _ e _ => (Option.some.inj e).symm)
theorem grown_drewN (w : World) (n : Nat) (row : Option Nat) : w.grownBy (w.drewN n) row := ⟨rfl, rfl, rfl, Nat.le_refl _, fun _ _ _ => rfl⟩
end Go.Proofs.YtinkkocleognbaaGreatDoor
/- A set of package bits in memory, and which steps keep it: plain lemmas, without the program. -/
namespace Go.Proofs.YtinkkocleognbaaGreatDoor.Bt
open Go.RowKit

/-- The words as they lie in cells. -/
def wvals (W : List Nat) : List Value := W.map (fun (x : Nat) => Value.int .u64 (x : Int))
/-- Is the number i among those that the words tell of? -/
def mem (W : List Nat) (i : Nat) : Bool := (W.getD (i / 64) 0).testBit (i % 64)
/-- The words W tell of the set L (of each number below the bound whether it is in it). -/
structure Rep (W : List Nat) (L : List Bool) : Prop where
  len : W.length = (L.length + 63) / 64
  word : ∀ x ∈ W, x < 18446744073709551616
  is : ∀ i, mem W i = L.getD i false
  small : L.length ≤ 65536

/-- The set L lies at block b, its words in block g. -/
def SetAt (w : World) (b g : Nat) (L : List Bool) : Prop :=
  ∃ (W : List Nat) (cap : Nat) (cur : List Value), w.heap[b]? = some (.cells #[.bool true, .int .i64 (L.length : Int), .slice (some ⟨g, 0, none⟩) W.length cap] 194 (0, 0)) ∧
    w.heap[g]? = some (.cells cur.toArray 38 (0, 0)) ∧ W.length ≤ cap ∧ cap ≤ maxLen ∧ cur.length = cap ∧ cur.take W.length = wvals W ∧ Rep W L ∧ 0 < g

theorem SetAt.kept {w w' : World} {b g : Nat} {L : List Bool} {row : Option Nat} (h : SetAt w b g L) (hg : w.grownBy w' row) (hb : row ≠ some b) (hr : row ≠ some g) : SetAt w' b g L := by
  obtain ⟨W, cap, cur, h1, h2, h3⟩ := h
  exact ⟨W, cap, cur, (hg.block b (row_lt h1) (fun e => hb e.symm)).trans h1, (hg.block g (row_lt h2) (fun e => hr e.symm)).trans h2, h3⟩
theorem SetAt.ne {w : World} {b g b' g' : Nat} {L L' : List Bool} (h : SetAt w b g L) (h' : SetAt w b' g' L') : b ≠ g' := by
  rintro rfl
  obtain ⟨W, cap, cur, h1, h2, h3⟩ := h
  obtain ⟨W', cap', cur', h1', h2', h3'⟩ := h'
  rw [h1] at h2'; simp at h2'
theorem SetAt.lt {w : World} {b g : Nat} {L : List Bool} (h : SetAt w b g L) : b < w.heap.size ∧ g < w.heap.size := by
  obtain ⟨W, cap, cur, h1, h2, h3⟩ := h; exact ⟨row_lt h1, row_lt h2⟩
theorem SetAt.made {w : World} {b g : Nat} {L : List Bool} (h : SetAt w b g L) : w.cell? ⟨b, 0, none⟩ = some (.bool true) := by
  obtain ⟨W, cap, cur, h1, h2, h3⟩ := h; simp [World.cell?, h1]
theorem SetAt.bound {w : World} {b g : Nat} {L : List Bool} (h : SetAt w b g L) : w.cell? ⟨b, 1, none⟩ = some (.int .i64 (L.length : Int)) := by
  obtain ⟨W, cap, cur, h1, h2, h3⟩ := h; simp [World.cell?, h1]
theorem SetAt.small {w : World} {b g : Nat} {L : List Bool} (h : SetAt w b g L) : L.length ≤ 65536 := by
  obtain ⟨W, cap, cur, h1, h2, _, _, _, _, h3, _⟩ := h; exact h3.small
/-- The words: where they lie, and each of them. -/
theorem SetAt.words {w : World} {b g : Nat} {L : List Bool} (h : SetAt w b g L) : ∃ (W : List Nat) (cap : Nat), w.cell? ⟨b, 2, none⟩ = some (.slice (some ⟨g, 0, none⟩) W.length cap) ∧ W.length ≤ cap ∧ cap ≤ maxLen ∧ Rep W L ∧
    ∀ (j x : Nat), W[j]? = some x → w.cell? ⟨g, j, none⟩ = some (.int .u64 (x : Int)) := by
  obtain ⟨W, cap, cur, h1, h2, h3, h3', h4, h5, h6, _⟩ := h
  refine ⟨W, cap, by simp [World.cell?, h1], h3, h3', h6, ?_⟩
  intro j x hx
  have hj : j < W.length := (List.getElem?_eq_some_iff.1 hx).1
  rw [cell_row h2, ← List.getElem?_take_of_lt hj, h5, wvals, List.getElem?_map, hx]; rfl

theorem mem_set (W : List Nat) (i k x : Nat) (hi : i / 64 < W.length) (hx : ∀ b, b < 64 → x.testBit b = if b = i % 64 then (k == 1) else (W.getD (i / 64) 0).testBit b) (j : Nat) :
    mem (W.set (i / 64) x) j = if j = i then (k == 1) else mem W j := by
  unfold mem
  by_cases h : j / 64 = i / 64
  · rw [h]
    simp only [List.getD_eq_getElem?_getD, List.getElem?_set, hi, if_true, Option.getD_some]
    rw [hx _ (Nat.mod_lt _ (by decide))]
    by_cases hj : j = i
    · subst hj; simp
    · rw [if_neg hj, if_neg (by omega)]
      simp [List.getD_eq_getElem?_getD]
  · rw [if_neg (by intro e; exact h (by rw [e]))]
    simp only [List.getD_eq_getElem?_getD, List.getElem?_set]
    rw [if_neg (fun e => h e.symm)]

theorem getD_set (L : List Bool) (i : Nat) (v : Bool) (hi : i < L.length) (j : Nat) : (L.set i v).getD j false = if j = i then v else L.getD j false := by
  simp only [List.getD_eq_getElem?_getD, List.getElem?_set]
  by_cases h : i = j
  · subst h; simp [hi]
  · rw [if_neg h, if_neg (fun e => h e.symm)]

theorem Rep.word_lt {W : List Nat} {L : List Bool} (h : Rep W L) {i : Nat} (hi : i < L.length) : i / 64 < W.length := by rw [h.len]; omega

theorem Rep.getD_lt {W : List Nat} {L : List Bool} (h : Rep W L) (j : Nat) : W.getD j 0 < 18446744073709551616 := by
  by_cases hj : j < W.length
  · rw [List.getD_eq_getElem?_getD, List.getElem?_eq_getElem hj]; exact h.word _ (List.getElem_mem hj)
  · rw [List.getD_eq_getElem?_getD, List.getElem?_eq_none (by omega)]; decide

/-- A number put in, or taken out: one word is turned. -/
theorem Rep.turned {W : List Nat} {L : List Bool} (h : Rep W L) {i : Nat} (hi : i < L.length) (x : Nat) (v : Bool) (hlt : x < 18446744073709551616)
    (hx : ∀ b, b < 64 → x.testBit b = if b = i % 64 then v else (W.getD (i / 64) 0).testBit b) : Rep (W.set (i / 64) x) (L.set i v) := by
  refine ⟨by simp [h.len], ?_, ?_, by simpa using h.small⟩
  · intro y hy
    rcases List.mem_or_eq_of_mem_set hy with hy | rfl
    · exact h.word y hy
    · exact hlt
  · intro j
    rw [getD_set L i v hi, mem_set W i (if v then 1 else 0) x (h.word_lt hi) (by intro b hb; rw [hx b hb]; cases v <;> rfl), h.is]
    cases v <;> rfl

theorem testBit_or_bit (x i b : Nat) : (x ||| 2 ^ i).testBit b = if b = i then true else x.testBit b := by
  rw [Nat.testBit_or, Nat.testBit_two_pow]
  by_cases h : b = i
  · subst h; simp
  · rw [if_neg h]; simp; intro e; exact absurd e.symm h

/-- Behind a store of a word. -/
theorem SetAt.store {w : World} {b g : Nat} {L : List Bool} (h : SetAt w b g L) {i : Nat} (hi : i < L.length) (v : Bool) : ∃ (W : List Nat) (cap : Nat), w.cell? ⟨b, 2, none⟩ = some (.slice (some ⟨g, 0, none⟩) W.length cap) ∧ i / 64 < W.length ∧ W.length ≤ cap ∧ cap ≤ maxLen ∧
    w.cell? ⟨g, i / 64, none⟩ = some (.int .u64 ((W.getD (i / 64) 0 : Nat) : Int)) ∧ W.getD (i / 64) 0 < 18446744073709551616 ∧ w.frozen? ⟨g, i / 64, none⟩ = false ∧
    ∀ x : Nat, x < 18446744073709551616 → (∀ c, c < 64 → x.testBit c = if c = i % 64 then v else (W.getD (i / 64) 0).testBit c) → SetAt (w.setCell ⟨g, i / 64, none⟩ (.int .u64 (x : Int))) b g (L.set i v) := by
  obtain ⟨W, cap, cur, h1, h2, h3, h3', h4, h5, h6, h7⟩ := h
  have hw := h6.word_lt hi
  have hne : b ≠ g := by rintro rfl; rw [h1] at h2; simp at h2
  refine ⟨W, cap, by simp [World.cell?, h1], hw, h3, h3', ?_, h6.getD_lt _, free_row h2 _, ?_⟩
  · rw [cell_row h2, ← List.getElem?_take_of_lt hw, h5, wvals, List.getElem?_map, List.getElem?_eq_getElem hw]
    simp [List.getD_eq_getElem?_getD, hw]
  · intro x hx hb
    refine ⟨W.set (i / 64) x, cap, cur.set (i / 64) (.int .u64 (x : Int)), ?_, row_setCell h2 _ _, by simpa using h3, h3', by simpa using h4, ?_, h6.turned hi x v hx hb, h7⟩
    · rw [Below.heap_setCell _ _ _ _ (by simpa using hne), h1]; simp
    · rw [List.length_set, List.take_set, h5, wvals, wvals, List.map_set]

/-- A set whose cells have just been laid. -/
theorem SetAt.fresh {w : World} {b g cap : Nat} {L : List Bool} {W : List Nat} {cur : List Value} (h1 : w.heap[b]? = some (.cells #[.bool true, .int .i64 (L.length : Int), .slice (some ⟨g, 0, none⟩) W.length cap] 194 (0, 0)))
    (h2 : w.heap[g]? = some (.cells cur.toArray 38 (0, 0))) (h3 : W.length ≤ cap) (h3' : cap ≤ maxLen) (h4 : cur.length = cap) (h5 : cur.take W.length = wvals W) (h6 : Rep W L) (h7 : 0 < g) : SetAt w b g L :=
  ⟨W, cap, cur, h1, h2, h3, h3', h4, h5, h6, h7⟩

theorem rep_none (n : Nat) (hn : n ≤ 65536) : Rep (List.replicate ((n + 63) / 64) 0) (List.replicate n false) := by
  refine ⟨by simp, ?_, ?_, by simpa using hn⟩
  · intro x hx; rw [List.eq_of_mem_replicate hx]; decide
  · intro i
    unfold mem
    have e : (List.replicate ((n + 63) / 64) 0).getD (i / 64) 0 = 0 := by
      rw [List.getD_eq_getElem?_getD, List.getElem?_replicate]; split <;> rfl
    have e2 : (List.replicate n false).getD i false = false := by
      rw [List.getD_eq_getElem?_getD, List.getElem?_replicate]; split <;> rfl
    rw [e, e2, Nat.zero_testBit]

end Go.Proofs.YtinkkocleognbaaGreatDoor.Bt
/- The contracts of a set's small calls: isNone, may, bit, size, New, Put, Drop, Has, Bound. -/
namespace Go.Proofs.YtinkkocleognbaaGreatDoor.Bt
open Go.RowKit
attribute [local go_sem ↓] Go.wp_at_zero Go.wp_at_succ

set_option maxHeartbeats 400000 in
theorem isNone_nil (w : World) : Calls Tryz.prog 157 #[.pointer none] w fun e w' => e = .returned (.bool true) ∧ w' = w := by
  go_enter Tryz.func157, Tryz.ntmps157
  go_wp2
  go_ret
  exact ⟨rfl, rfl⟩
set_option maxHeartbeats 400000 in
theorem isNone_at (b : Nat) (m : Bool) (w : World) (h : w.cell? ⟨b, 0, none⟩ = some (.bool m)) : Calls Tryz.prog 157 #[.pointer (some ⟨b, 0, none⟩)] w fun e w' => e = .returned (.bool (!m)) ∧ w' = w := by
  go_enter Tryz.func157, Tryz.ntmps157
  go_wp2
  go_ret
  exact ⟨rfl, rfl⟩

/-- What may answers. -/
def mayF (n : Nat) (i : Int) : Int := if 0 ≤ i ∧ i < (n : Int) then 0 else 2

set_option maxHeartbeats 400000 in
theorem may_any (b g : Nat) (L : List Bool) (i : Int) (w : World) (h : SetAt w b g L) :
    Calls Tryz.prog 141 #[.pointer (some ⟨b, 0, none⟩), .int .i64 i] w fun e w' => e = .returned (.int .i64 (mayF L.length i)) ∧ w' = w := by
  have hb := h.bound
  have hm := h.made
  clear h
  generalize L.length = n at hb ⊢
  by_cases h1 : 0 ≤ i ∧ i < (n : Int)
  · have hF : mayF n i = 0 := by simp [mayF, h1]
    obtain ⟨h1, h2⟩ := h1
    rw [hF]; clear hF
    go_enter Tryz.func141, Tryz.ntmps141
    go_wp2_with fail
    refine (isNone_at b true w hm).mono ?_
    rintro e w' ⟨rfl, rfl⟩
    go_wp2
    go_ret
    exact ⟨rfl, rfl⟩
  · have hF : mayF n i = 2 := by simp only [mayF]; rw [if_neg h1]
    rw [hF]; clear hF
    go_enter Tryz.func141, Tryz.ntmps141
    go_wp2_with fail
    refine (isNone_at b true w hm).mono ?_
    rintro e w' ⟨rfl, rfl⟩
    by_cases h2 : i < 0
    · clear h1
      go_wp2
      go_ret
      exact ⟨rfl, rfl⟩
    · have h3 : (n : Int) ≤ i := by omega
      have h4 : 0 ≤ i := by omega
      clear h1 h2
      go_wp2
      go_ret
      exact ⟨rfl, rfl⟩

theorem shl_bit (k : Nat) (hk : k < 64) : IntKind.u64.wrap (2 ^ k) = ((2 ^ k : Nat) : Int) := by
  rw [IntKind.wrap_u64]
  have : (2 : Nat) ^ k < 18446744073709551616 := Nat.pow_lt_pow_right (a := 2) (by decide) (m := k) (n := 64) hk
  have e : ((2 : Int) ^ k) = ((2 ^ k : Nat) : Int) := by simp
  rw [e]; generalize (2 : Nat) ^ k = y at this ⊢; omega

set_option maxHeartbeats 400000 in
theorem bit_any (i : Nat) (w : World) (hi : i ≤ 65536) :
    Calls Tryz.prog 142 #[.int .i64 (i : Int)] w fun e w' => e = .returned (.int .u64 ((2 ^ (i % 64) : Nat) : Int)) ∧ w' = w := by
  go_enter Tryz.func142, Tryz.ntmps142
  go_wp2
  go_ret
  exact ⟨by rw [shl_bit _ (Nat.mod_lt _ (by decide))]; rfl, rfl⟩

theorem Tryz.info38 : (Tryz.prog.info? 38).map (fun i => (i.zero, i.size, i.bytes)) = some (some (.int .u64 0), 1, 8) := by kernel_rfl
theorem made_words (n : Nat) : madeCells #[.int .u64 0] n = (wvals (List.replicate n 0)).toArray := by
  apply Array.ext'
  rw [toList_madeCells_one]
  simp [wvals]
theorem make_words (n : Nat) (C : Int) (hC : C = (n : Int)) (h : n ≤ 35184372088832) (w : World) : (Instr.makeSlice 192 (.int .i64 C) (.int .i64 C)).run Tryz.prog w = .ok (.slice (some ⟨w.heap.size, 0, none⟩) n n) (w.alloc (.cells (wvals (List.replicate n 0)).toArray 38)) := by
  subst hC
  rw [run_make_row' (P := Tryz.prog) 192 38 (.int .u64 0) 8 Tryz.underlying192 Tryz.info38 rfl .i64 .i64 n (by omega) (by omega) w, made_words]

set_option maxHeartbeats 400000 in
theorem new_any (n : Nat) (w : World) (h : n ≤ 65536) (hw : 0 < w.heap.size) :
    Calls Tryz.prog 101 #[.int .i64 (n : Int)] w fun e w' => ∃ b g, e = .returned (.tuple #[.pointer (some ⟨b, 0, none⟩), .int .i64 0]) ∧ SetAt w' b g (List.replicate n false) ∧ w.heap.size ≤ b ∧ w.heap.size ≤ g ∧ w.grownBy w' none := by
  have hmk := make_words ((n + 63) / 64) (((n : Int) + 64 - 1) / 64) (by omega) (by omega)
  have h1 : (0 : Int) ≤ (n : Int) := by omega
  have h2 : (n : Int) ≤ 65536 := by omega
  go_enter Tryz.func101, Tryz.ntmps101
  go_wp2
  go_ret2
  refine ⟨w.heap.size + 1, w.heap.size, rfl, ?_, by omega, Nat.le_refl _, grown_trans (World.grownBy_alloc w _ _) (World.grownBy_alloc _ _ _)⟩
  have e1 := heap_alloc_new (w.alloc (.cells (wvals (List.replicate ((n + 63) / 64) 0)).toArray 38)) (Obj.cells #[.bool true, .int .i64 (n : Int), .slice (some ⟨w.heap.size, 0, none⟩) ((n + 63) / 64) ((n + 63) / 64)] 194)
  rw [World.size_alloc] at e1
  refine SetAt.fresh (W := List.replicate ((n + 63) / 64) 0) (cap := (n + 63) / 64) (cur := wvals (List.replicate ((n + 63) / 64) 0)) ?_ ?_ (by simp) (by unfold maxLen; omega) (by simp [wvals]) (by simp [wvals]) (rep_none n h) hw
  · simpa using e1
  · exact (Below.heap_alloc _ _ _ (by simp)).trans (heap_alloc_new w _)

theorem SetAt.drew {w : World} {b g : Nat} {L : List Bool} (h : SetAt w b g L) : SetAt w.drew b g L := h.kept (grown_drew w none) (by simp) (by simp)

theorem wrap_i64_small (q : Int) (h1 : -9223372036854775808 ≤ q) (h2 : q ≤ 9223372036854775807) : IntKind.i64.wrap q = q := by
  rw [IntKind.wrap_i64]; omega

set_option maxHeartbeats 1000000 in
theorem put_any (b g : Nat) (L : List Bool) (i : Nat) (w : World) (h : SetAt w b g L) (hi : i < L.length) :
    Calls Tryz.prog 115 #[.pointer (some ⟨b, 0, none⟩), .int .i64 (i : Int)] w fun e w' => e = .returned (.int .i64 0) ∧ SetAt w' b g (L.set i true) ∧ w.grownBy w' (some g) := by
  obtain ⟨W, cap, hc, hw, hcap, hcap2, hcell, hlt, hfr, hst⟩ := h.store hi true
  have hsm := h.small
  have hmay := may_any b g L (i : Int) w h
  rw [show mayF L.length (i : Int) = 0 by simp [mayF]; omega] at hmay
  have hq : IntKind.i64.wrap ((i : Int) / 64) = ((i / 64 : Nat) : Int) := by rw [wrap_i64_small _ (by omega) (by omega)]; omega
  have hbt := fun w => bit_any i w (by omega)
  generalize W.getD (i / 64) 0 = x at *
  generalize i / 64 = q at *
  have hor := bits_or_u64_nat x (2 ^ (i % 64)) hlt (Nat.pow_lt_pow_right (a := 2) (by decide) (m := i % 64) (n := 64) (by omega))
  have hx2 : x ||| 2 ^ (i % 64) < 18446744073709551616 := Nat.or_lt_two_pow (n := 64) hlt (Nat.pow_lt_pow_right (a := 2) (by decide) (m := i % 64) (n := 64) (by omega))
  have H := hide (hst (x ||| 2 ^ (i % 64)) hx2 (fun c _ => testBit_or_bit x (i % 64) c))
  have HM := hide hmay
  have HB := hide hbt
  clear hst hmay hbt
  generalize 2 ^ (i % 64) = m at *
  generalize x ||| m = y at *
  have hw1 : (0 : Int) ≤ (q : Int) := by omega
  have hw2 : (q : Int) < (W.length : Int) := by omega
  go_enter Tryz.func115, Tryz.ntmps115
  go_wp2_with fail
  refine HM.out.mono ?_
  rintro e w' ⟨rfl, rfl⟩
  go_wp2_with fail
  go_region_with (go_at_call 142; refine (HB.out _).mono ?_; rintro e w2 ⟨rfl, rfl⟩)
  all_goals
    go_wp2
    go_ret
    exact ⟨rfl, H.out.drew, grown_trans (grown_setCell _ _ _ _) (grown_drew _ _)⟩

def andNotN (x m : Nat) : Nat := (BitVec.ofNat 64 x &&& ~~~ BitVec.ofNat 64 m).toNat
theorem andNotN_lt (x m : Nat) : andNotN x m < 18446744073709551616 := BitVec.isLt _
theorem bits_andNot_u64_nat (a b : Nat) : bits .andNot .u64 (a : Int) (b : Int) = ((andNotN a b : Nat) : Int) := by
  show IntKind.u64.wrap ((BitVec.ofInt 64 (a : Int) &&& ~~~ BitVec.ofInt 64 (b : Int)).toNat : Int) = _
  rw [BitVec.ofInt_natCast, BitVec.ofInt_natCast, IntKind.wrap_u64]
  have := andNotN_lt a b
  unfold andNotN at this ⊢
  omega
theorem testBit_andNotN (x k c : Nat) (hc : c < 64) : (andNotN x (2 ^ k)).testBit c = if c = k then false else x.testBit c := by
  unfold andNotN
  rw [BitVec.testBit_toNat, BitVec.getLsbD_and, BitVec.getLsbD_not, BitVec.getLsbD_ofNat, BitVec.getLsbD_ofNat, Nat.testBit_two_pow]
  by_cases h : c = k
  · subst h; simp
  · rw [if_neg h]; simp [hc]; intro _ e; exact absurd e.symm h

set_option maxHeartbeats 1000000 in
theorem drop_any (b g : Nat) (L : List Bool) (i : Nat) (w : World) (h : SetAt w b g L) (hi : i < L.length) :
    Calls Tryz.prog 140 #[.pointer (some ⟨b, 0, none⟩), .int .i64 (i : Int)] w fun e w' => e = .returned (.int .i64 0) ∧ SetAt w' b g (L.set i false) ∧ w.grownBy w' (some g) := by
  obtain ⟨W, cap, hc, hw, hcap, hcap2, hcell, hlt, hfr, hst⟩ := h.store hi false
  have hsm := h.small
  have hmay := may_any b g L (i : Int) w h
  rw [show mayF L.length (i : Int) = 0 by simp [mayF]; omega] at hmay
  have hq : IntKind.i64.wrap ((i : Int) / 64) = ((i / 64 : Nat) : Int) := by rw [wrap_i64_small _ (by omega) (by omega)]; omega
  have hbt := fun w => bit_any i w (by omega)
  generalize W.getD (i / 64) 0 = x at *
  generalize i / 64 = q at *
  have hor := bits_andNot_u64_nat x (2 ^ (i % 64))
  have H := hide (hst (andNotN x (2 ^ (i % 64))) (andNotN_lt _ _) (fun c hc => testBit_andNotN x (i % 64) c hc))
  have HM := hide hmay
  have HB := hide hbt
  clear hst hmay hbt
  generalize andNotN x (2 ^ (i % 64)) = y at *
  generalize 2 ^ (i % 64) = m at *
  have hw1 : (0 : Int) ≤ (q : Int) := by omega
  have hw2 : (q : Int) < (W.length : Int) := by omega
  go_enter Tryz.func140, Tryz.ntmps140
  go_wp2_with fail
  refine HM.out.mono ?_
  rintro e w' ⟨rfl, rfl⟩
  go_wp2_with fail
  go_region_with (go_at_call 142; refine (HB.out _).mono ?_; rintro e w2 ⟨rfl, rfl⟩)
  all_goals
    go_wp2
    go_ret
    exact ⟨rfl, H.out.drew, grown_trans (grown_setCell _ _ _ _) (grown_drew _ _)⟩

/-- No set. -/
def NoSet (w : World) (p : Option Addr) : Prop := p = none ∨ ∃ b, p = some ⟨b, 0, none⟩ ∧ w.cell? ⟨b, 0, none⟩ = some (.bool false)
theorem NoSet.is {w : World} {p : Option Addr} (h : NoSet w p) : Calls Tryz.prog 157 #[.pointer p] w fun e w' => e = .returned (.bool true) ∧ w' = w := by
  rcases h with rfl | ⟨b, rfl, hb⟩
  · exact isNone_nil w
  · exact isNone_at b false w hb

end Go.Proofs.YtinkkocleognbaaGreatDoor.Bt
/- The contracts of a set's Has, Bound, TrailingZeros64, OnesCount64, Count. -/
namespace Go.Proofs.YtinkkocleognbaaGreatDoor.Bt
open Go.RowKit
attribute [local go_sem ↓] Go.wp_at_zero Go.wp_at_succ

theorem SetAt.drewN {w : World} {b g : Nat} {L : List Bool} (h : SetAt w b g L) (n : Nat) : SetAt (w.drewN n) b g L := h.kept (grown_drewN w n none) (by simp) (by simp)
theorem NoSet.drewN {w : World} {p : Option Addr} (h : NoSet w p) (n : Nat) : NoSet (w.drewN n) p := h

theorem bit_ne (x k : Nat) : decide ((x &&& 2 ^ k : Nat) ≠ 0) = x.testBit k := by
  cases h : x.testBit k
  · have : x &&& 2 ^ k = 0 := by
      apply Nat.eq_of_testBit_eq
      intro i
      rw [Nat.testBit_and, Nat.testBit_two_pow, Nat.zero_testBit]
      by_cases e : k = i
      · subst e; simp [h]
      · simp [e]
    simp [this]
  · have : (x &&& 2 ^ k).testBit k = true := by rw [Nat.testBit_and, Nat.testBit_two_pow, h]; simp
    simp only [ne_eq, decide_eq_true_eq]
    intro e
    rw [e, Nat.zero_testBit] at this
    cases this
theorem ne_int (y : Nat) : decide (y ≠ 0) = ((y : Int) != 0) := by
  by_cases h : y = 0
  · subst h; rfl
  · have h2 : (y : Int) ≠ 0 := by omega
    simp [h]

set_option maxHeartbeats 1000000 in
theorem has_any (b g : Nat) (L : List Bool) (i : Nat) (w : World) (h : SetAt w b g L) (hi : i < L.length) :
    Calls Tryz.prog 111 #[.pointer (some ⟨b, 0, none⟩), .int .i64 (i : Int)] w fun e w' => e = .returned (.bool (L.getD i false)) ∧ w.grownBy w' none := by
  obtain ⟨W, cap, hc, hcap, hcap2, hR, hcells⟩ := h.words
  have hsm := h.small
  have hw := hR.word_lt hi
  have hmay := fun n => may_any b g L (i : Int) (w.drewN n) (h.drewN n)
  rw [show mayF L.length (i : Int) = 0 by simp [mayF]; omega] at hmay
  have hq : IntKind.i64.wrap ((i : Int) / 64) = ((i / 64 : Nat) : Int) := by rw [wrap_i64_small _ (by omega) (by omega)]; omega
  have hbt := fun n => bit_any i (w.drewN n) (by omega)
  have hcell := hcells (i / 64) (W.getD (i / 64) 0) (by rw [List.getD_eq_getElem?_getD, List.getElem?_eq_getElem hw]; rfl)
  have hlt := hR.getD_lt (i / 64)
  have hres : L.getD i false = (W.getD (i / 64) 0).testBit (i % 64) := (hR.is i).symm
  rw [hres, ← bit_ne]
  generalize W.getD (i / 64) 0 = x at *
  generalize i / 64 = q at *
  have hand := bits_and_u64_nat x (2 ^ (i % 64)) hlt (Nat.pow_lt_pow_right (a := 2) (by decide) (m := i % 64) (n := 64) (by omega))
  have HM := hide hmay
  have HB := hide hbt
  clear hmay hbt hcells hres hR h
  generalize x &&& 2 ^ (i % 64) = y at *
  generalize 2 ^ (i % 64) = m at *
  have hw1 : (0 : Int) ≤ (q : Int) := by omega
  have hw2 : (q : Int) < (W.length : Int) := by omega
  go_enter Tryz.func111, Tryz.ntmps111
  go_wp2_with fail
  go_quiet (first | (go_at_call 141; exact Calls.quiet_of_same (HM.out _)) | (go_at_call 142; exact Calls.quiet_of_same (HB.out _)))
  go_wp2
  go_ret
  exact ⟨by rw [ne_int]; rfl, grown_drewN _ _ _⟩

end Go.Proofs.YtinkkocleognbaaGreatDoor.Bt
/- Numbers alone: which shapes and sizes may be, how many pieces hold so many bytes. -/
namespace Go.Proofs.YtinkkocleognbaaGreatDoor.Gx

/-- A shape that may be. -/
def OkS (a b c : Int) : Prop := 1 ≤ a ∧ a ≤ 1024 ∧ 1 ≤ b ∧ b ≤ 4096 ∧ 1 ≤ c ∧ c ≤ 64
instance (a b c : Int) : Decidable (OkS a b c) := by unfold OkS; infer_instance
/-- A size that may be. -/
def OkZ (s : Int) : Prop := s = 64 ∨ s = 128 ∨ s = 256 ∨ s = 512 ∨ s = 1024 ∨ s = 2048 ∨ s = 4096
instance (s : Int) : Decidable (OkZ s) := by unfold OkZ; infer_instance
/-- A disk that may be. -/
def OkD (n s : Int) : Prop := 1 ≤ n ∧ n ≤ 65536 ∧ OkZ s ∧ n * s ≤ 67108864
instance (n s : Int) : Decidable (OkD n s) := by unfold OkD; infer_instance
/-- The lesser of two. -/
def lo (a b : Int) : Int := if a ≤ b then a else b
/-- An image's most bytes. -/
def img (a b : Int) : Int := 20 + 14 * lo a b
/-- How many pieces of s bytes hold b bytes. -/
def hold (b s : Int) : Int := (b + s - 1) / s
/-- A slot's sectors. -/
def slot (a b s : Int) : Int := 1 + hold (img a b) s
end Go.Proofs.YtinkkocleognbaaGreatDoor.Gx
/- Worlds, rows and bits: plain lemmas, without the program. -/
namespace Go.Proofs.YtinkkocleognbaaGreatDoor.Ge
open Go.RowKit

end Go.Proofs.YtinkkocleognbaaGreatDoor.Ge
/- The contracts of the program's functions: shapes, sizes. -/
namespace Go.Proofs.YtinkkocleognbaaGreatDoor.Ge
open Go.RowKit
attribute [local go_sem ↓] Go.wp_at_zero Go.wp_at_succ

/-- A shape as a value. -/
def shV (a b c : Int) : Value := .agg #[.int .i64 a, .int .i64 b, .int .i64 c]
/-- The number of 1 .. m next to n. -/
def near (n m : Int) : Int := if n < 1 then 1 else if n ≤ m then n else m

theorem near_eq (n m : Int) (_hm : 1 ≤ m) : near n m = n ↔ 1 ≤ n ∧ n ≤ m := by unfold near; split <;> (try split) <;> omega

set_option maxHeartbeats 400000 in
theorem nearestTo_any (n m : Int) (hm : 1 ≤ m) (w : World) : Calls Tryz.prog 134 #[.int .i64 n, .int .i64 m] w fun e w' => e = .returned (.int .i64 (near n m)) ∧ w' = w := by
  unfold near
  by_cases h1 : n < 1
  · rw [if_pos h1]
    have h2 : n ≤ m := by omega
    have h3 : ¬ m < n := by omega
    go_enter Tryz.func134, Tryz.ntmps134
    go_wp2
    all_goals first | (go_ret; exact ⟨rfl, rfl⟩) | (exfalso; rw [if_neg h3] at *; omega)
  · rw [if_neg h1]
    by_cases h2 : n ≤ m
    · rw [if_pos h2]
      have h3 : ¬ m < n := by omega
      by_cases h4 : n = 1
      · subst h4
        go_enter Tryz.func134, Tryz.ntmps134
        go_wp2
        all_goals first | (go_ret; exact ⟨rfl, rfl⟩) | (exfalso; omega)
      · have h5 : 1 < n := by omega
        go_enter Tryz.func134, Tryz.ntmps134
        go_wp2
        all_goals first | (go_ret; exact ⟨rfl, rfl⟩) | (exfalso; rw [if_neg h3] at *; omega)
    · rw [if_neg h2]
      have h3 : m < n := by omega
      by_cases h4 : m = 1
      · subst h4
        go_enter Tryz.func134, Tryz.ntmps134
        go_wp2
        all_goals first | (go_ret; exact ⟨rfl, rfl⟩) | (exfalso; omega)
      · have h5 : 1 < m := by omega
        go_enter Tryz.func134, Tryz.ntmps134
        go_wp2
        all_goals first | (go_ret; exact ⟨rfl, rfl⟩) | (exfalso; rw [if_pos h3] at *; omega)

theorem alloc_size (w : World) (o : Obj) : (w.alloc o).heap.size = w.heap.size + 1 := Array.size_push _
theorem alloc2_new (w : World) (o o' : Obj) : ((w.alloc o).alloc o').heap[w.heap.size + 1]? = some o' := by
  have h := heap_alloc_new (w.alloc o) o'
  rwa [alloc_size] at h
set_option maxHeartbeats 1000000 in
theorem nearest_any (a b c : Int) (w : World) : Calls Tryz.prog 100 #[shV a b c] w fun e w' => e = .returned (shV (near a 1024) (near b 4096) (near c 64)) ∧ w.grownBy w' none := by
  have C := hide nearestTo_any
  have G : ∀ o o', w.grownBy ((w.alloc o).alloc o').drew none := fun o o' => grown_trans (grown_trans (grown_alloc _ _) (grown_alloc _ _)) (grown_drew _ _)
  unfold shV
  go_enter Tryz.func100, Tryz.ntmps100
  go_wp2_with fail
  go_region_with (go_at_call 134; refine (C.out _ _ (by decide) _).mono ?_; rintro e w2 ⟨rfl, rfl⟩)
  all_goals go_wp2
  all_goals refine bodyPost_ret (results_cell_row rfl _ _ (w.heap.size + 1) 23 #[.int .i64 (near a 1024), .int .i64 (near b 4096), .int .i64 (near c 64)] (0, 0) _ rfl ?_ Tryz.underlying23 rfl (by kernel_rfl)) rfl ⟨rfl, G _ _⟩
  all_goals exact alloc2_new w _ _

theorem near_all (a b c : Int) : (near a 1024 = a ∧ near b 4096 = b ∧ near c 64 = c) ↔ Gx.OkS a b c := by
  rw [near_eq a 1024 (by decide), near_eq b 4096 (by decide), near_eq c 64 (by decide)]; unfold Gx.OkS
  constructor <;> intro h <;> omega

/-- A box of the call's own is there behind what only makes memory. -/
theorem box_kept {w w2 : World} {o : Obj} (h : (w.alloc o).grownBy w2 none) : w2.heap[w.heap.size]? = some o :=
  (h.block _ (by rw [alloc_size]; omega) (fun e => by cases e)).trans (heap_alloc_new w o)
theorem box_keptd {w w2 : World} {o : Obj} (h : (w.alloc o).drew.grownBy w2 none) : w2.heap[w.heap.size]? = some o :=
  box_kept (grown_trans (grown_drew _ _) h)
theorem grown_box {w w2 : World} {o : Obj} (h : (w.alloc o).grownBy w2 none) : w.grownBy w2 none := grown_trans (grown_alloc _ _) h
theorem grown_boxd {w w2 : World} {o : Obj} (h : (w.alloc o).drew.grownBy w2 none) : w.grownBy w2 none := grown_box (grown_trans (grown_drew _ _) h)

theorem cell3 {w : World} {g : Nat} {u v x : Value} {t : TypeId} (h : w.heap[g]? = some (.cells #[u, v, x] t)) (j : Nat) : w.cell? ⟨g, j, none⟩ = [u, v, x][j]? := cell_row (l := [u, v, x]) h j
theorem getElem?_v0 (u v x : Value) : [u, v, x][0]? = some u := rfl
theorem getElem?_v1 (u v x : Value) : [u, v, x][1]? = some v := rfl
theorem getElem?_v2 (u v x : Value) : [u, v, x][2]? = some x := rfl
set_option maxHeartbeats 1000000 in
theorem check_ok (a b c : Int) (h : Gx.OkS a b c) (w : World) : Calls Tryz.prog 71 #[shV a b c] w fun e w' => e = .returned (.int .i64 0) ∧ w.grownBy w' none := by
  obtain ⟨e1, e2, e3⟩ := (near_all a b c).2 h
  have C := hide (nearest_any a b c)
  rw [e1, e2, e3] at C
  clear e1 e2 e3
  unfold shV at *
  go_enter Tryz.func71, Tryz.ntmps71
  go_wp2_with fail
  go_region_with (go_at_call 100; refine (C.out _).mono ?_; rintro e w2 ⟨rfl, hg⟩; have hb := box_keptd hg; have G := hide (grown_boxd hg); clear hg; have c0 := cell3 hb 0; have c1 := cell3 hb 1; have c2 := cell3 hb 2; simp only [getElem?_v0, getElem?_v1, getElem?_v2] at c0 c1 c2)
  all_goals go_wp2
  all_goals go_ret
  all_goals exact ⟨rfl, G.out⟩

end Go.Proofs.YtinkkocleognbaaGreatDoor.Ge
/- Numbers of 64 bits mixed, and back: plain lemmas, without the program. -/
namespace Go.Proofs.YtinkkocleognbaaGreatDoor.Mx

def fold (k x : Nat) : Nat := x ^^^ x / 2 ^ k
theorem lt64 {n : Nat} : n < 18446744073709551616 ↔ n < 2 ^ 64 := by rw [show (2 : Nat) ^ 64 = 18446744073709551616 by decide]
theorem xor_lt {a b : Nat} (ha : a < 18446744073709551616) (hb : b < 18446744073709551616) : a ^^^ b < 18446744073709551616 := lt64.2 (Nat.xor_lt_two_pow (lt64.1 ha) (lt64.1 hb))
theorem div_lt {x : Nat} (k : Nat) (h : x < 18446744073709551616) : x / 2 ^ k < 18446744073709551616 := Nat.lt_of_le_of_lt (Nat.div_le_self _ _) h
theorem fold_lt (k : Nat) {x : Nat} (h : x < 18446744073709551616) : fold k x < 18446744073709551616 := xor_lt h (div_lt k h)
/-- A product of numbers of 64 bits. -/
def mul (a b : Nat) : Nat := a * b % 18446744073709551616
def M1 : Nat := 13787848793156543929
def M2 : Nat := 10723151780598845931
def G : Nat := 11400714819323198485
def hash (x : Nat) : Nat := fold 31 (fold 27 (fold 30 x * M1 % 18446744073709551616) * M2 % 18446744073709551616)
theorem m64 (n : Nat) : n % 18446744073709551616 < 18446744073709551616 := Nat.mod_lt _ (by decide)
theorem mul_lt (a b : Nat) : mul a b < 18446744073709551616 := m64 _
theorem hash_eq (x : Nat) : hash x = fold 31 (mul (fold 27 (mul (fold 30 x) 13787848793156543929)) 10723151780598845931) := rfl
theorem hash_lt (x : Nat) : hash x < 18446744073709551616 := fold_lt 31 (m64 _)
/-- Words: the i-th from 1 on. -/
def seedAt (s i : Nat) : Nat := (s + i * G) % 18446744073709551616
def word (s i : Nat) : Nat := hash (seedAt s i)
def words (s n : Nat) : List Nat := (List.range n).map fun i => word s (i + 1)
theorem word_lt (s i : Nat) : word s i < 18446744073709551616 := hash_lt _
end Go.Proofs.YtinkkocleognbaaGreatDoor.Mx
