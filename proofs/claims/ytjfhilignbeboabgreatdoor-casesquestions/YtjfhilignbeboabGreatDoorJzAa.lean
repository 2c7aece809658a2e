/- Texts joined: Kb, BtBase, BtSet, BtHas, GeGx, IxIx0, IxMx, IxBase, IxIm. -/
import Derived.WalkKit
import Derived.WalkSpells
import Derived.WalkLawsBesides
import Derived.Laws.CopyOwn
import Derived.Laws.Bits64b
import Derived.Laws.Bits64
import Derived.Deep.MidRow
import Derived.Deep.LoopGhost
import Derived.Deep.RegionHeld3
import Derived.Deep.DrawnRows
import Derived.Deep.QuietTactic
import Derived.Deep.RegionWith
import Derived.BigQuiet
import Derived.Deep.OwnRows
import Derived.Laws.AppendOwnNone
import Derived.Laws.BitsAllLaws
import Derived.Laws.OwnMore
import Derived.ArgAppend
import Derived.Laws.Rows
import Derived.Laws.ResultCell
import Derived.Test.YtjfhilignbeboabGreatDoorChecked
import Derived.Maps.AppendAt
import Derived.Lib.SliceRun
import Derived.Lib.Builder
import Derived.Defers
/- Worlds and rows: plain lemmas, without the program. -/
namespace Go.Proofs.YtjfhilignbeboabGreatDoor
open Go.RowKit
theorem hide {p : Prop} (h : p) : Hid p := h

theorem grown_then {a b c : World} {row row' : Option Nat} (h : a.grownBy b row) (k : b.grownBy c row') (hr : ∀ j, row' = some j → a.heap.size ≤ j ∨ row = some j) : a.grownBy c row :=
  ⟨k.os.trans h.os, k.tape.trans h.tape, k.output.trans h.output, Nat.le_trans h.size k.size, fun i hi hne =>
    (k.block i (Nat.lt_of_lt_of_le hi h.size) (fun e => by
      rcases hr i e.symm with h1 | h1
      · omega
      · exact hne h1.symm)).trans (h.block i hi hne)⟩
theorem grown_trans {a b c : World} {row : Option Nat} (h : a.grownBy b row) (k : b.grownBy c row) : a.grownBy c row := grown_then h k (fun _ e => Or.inr e)
theorem grown_refl (w : World) (row : Option Nat) : w.grownBy w row := ⟨rfl, rfl, rfl, Nat.le_refl _, fun _ _ _ => rfl⟩
theorem grown_drew (w : World) (row : Option Nat) : w.grownBy w.drew row := ⟨rfl, rfl, rfl, Nat.le_refl _, fun _ _ _ => rfl⟩
theorem grown_setCell (w : World) (g j : Nat) (u : Value) : w.grownBy (w.setCell ⟨g, j, none⟩ u) (some g) :=
  ⟨rfl, rfl, rfl, by simp [World.setCell], fun k _ hne => Below.heap_setCell _ _ _ _ (by intro e; exact hne (by simp [e]))⟩
theorem grown_below {a b : World} (h : a.grownBy b none) : Below a.heap.size a b := ⟨h.os, h.tape, h.output, h.size, fun k hk => h.block k hk (fun e => by cases e)⟩
theorem grown_alloc (w : World) (o : Obj) : w.grownBy (w.alloc o) none := World.grownBy_alloc w o none

theorem cell_row {w : World} {g : Nat} {l : List Value} {t : TypeId} {fr : Nat × Nat} (h : w.heap[g]? = some (.cells l.toArray t fr)) (j : Nat) : w.cell? ⟨g, j, none⟩ = l[j]? := by
  rw [cell_of_row w g j l.toArray t fr h]; simp
theorem free_row {w : World} {g : Nat} {c : Array Value} {t : TypeId} (h : w.heap[g]? = some (.cells c t (0, 0))) (j : Nat) : w.frozen? ⟨g, j, none⟩ = false := by
  simp [World.frozen?, h]
theorem row_setCell {w : World} {g : Nat} {l : List Value} {t : TypeId} {fr : Nat × Nat} (h : w.heap[g]? = some (.cells l.toArray t fr)) (j : Nat) (u : Value) : (w.setCell ⟨g, j, none⟩ u).heap[g]? = some (.cells (l.set j u).toArray t fr) := by
  simp [World.setCell, Array.getElem?_modify, h]
theorem row_lt {w : World} {g : Nat} {o : Obj} (h : w.heap[g]? = some o) : g < w.heap.size := (Array.getElem?_eq_some_iff.1 h).1

/-- All blocks but those of S are as they were; there may be new ones. -/
structure Kept (w w' : World) (S : Nat → Prop) : Prop where
  os : w'.os = w.os
  tape : w'.tape = w.tape
  output : w'.output = w.output
  size : w.heap.size ≤ w'.heap.size
  block : ∀ i, i < w.heap.size → ¬ S i → w'.heap[i]? = w.heap[i]?
theorem Kept.of {w w' : World} {row : Option Nat} (h : w.grownBy w' row) {S : Nat → Prop} (hS : ∀ j, row = some j → j < w.heap.size → S j) : Kept w w' S :=
  ⟨h.os, h.tape, h.output, h.size, fun i hi hn => h.block i hi (fun e => hn (hS i e.symm hi))⟩
theorem Kept.new {w w' : World} (h : w.grownBy w' none) (S : Nat → Prop) : Kept w w' S := Kept.of h (fun _ e => by cases e)
theorem Kept.refl (w : World) (S : Nat → Prop) : Kept w w S := ⟨rfl, rfl, rfl, Nat.le_refl _, fun _ _ _ => rfl⟩
theorem Kept.trans {a b c : World} {S S' : Nat → Prop} (h : Kept a b S) (k : Kept b c S') (hS : ∀ i, i < a.heap.size → S' i → S i) : Kept a c S :=
  ⟨k.os.trans h.os, k.tape.trans h.tape, k.output.trans h.output, Nat.le_trans h.size k.size, fun i hi hn =>
    (k.block i (Nat.lt_of_lt_of_le hi h.size) (fun e => hn (hS i hi e))).trans (h.block i hi hn)⟩
theorem Kept.mono {a b : World} {S S' : Nat → Prop} (h : Kept a b S) (hS : ∀ i, i < a.heap.size → S i → S' i) : Kept a b S' :=
  ⟨h.os, h.tape, h.output, h.size, fun i hi hn => h.block i hi (fun e => hn (hS i hi e))⟩
theorem Kept.grown {a b : World} {S : Nat → Prop} (h : Kept a b S) (hS : ∀ i, i < a.heap.size → ¬ S i) : a.grownBy b none :=
  ⟨h.os, h.tape, h.output, h.size, fun i hi _ => h.block i hi (hS i hi)⟩
theorem Kept.at {a b : World} {S : Nat → Prop} (h : Kept a b S) {i : Nat} {o : Obj} (ho : a.heap[i]? = some o) (hS : ¬ S i) : b.heap[i]? = some o := (h.block i (row_lt ho) hS).trans ho
theorem kept_setCell (w : World) (g j : Nat) (u : Value) : Kept w (w.setCell ⟨g, j, none⟩ u) (fun i => i = g) := Kept.of (grown_setCell w g j u) (fun _ e _ => (Option.some.inj e).symm)
theorem grown_drewN (w : World) (n : Nat) (row : Option Nat) : w.grownBy (w.drewN n) row := ⟨rfl, rfl, rfl, Nat.le_refl _, fun _ _ _ => rfl⟩
/-- A move that is ready is taken; what it asks is asked by itself. -/
theorem tkH {P : Program} {ops : Array Oper} {Q : Exit → Act → World → Prop} {md : Region.Mode} {S : World → Prop} {i : Nat} {oi : Oper} {v : Value} {fuel : Nat} {listed : Array Bool} {a : Act} {w : World} (hi : ops[i]? = some oi) (hy : ∀ w, S w → (execOp a.eval oi).run P w = .ok (.value v) w) (h : wpAnyH P md ops Q S fuel (listed.setIfInBounds i true) (a.put oi.dst v) w) (hw : Region.wanted oi (yielded ops a.tmps) = true := by rfl) (hs : Region.noSelect ops = true := by kernel_rfl) (hf : Region.free md ops listed i = true := by kernel_rfl) (hr : (Region.ready md ops listed).contains i = true := by kernel_rfl) (hQ : ∀ c a w, Q (.panic c) (a.put oi.dst v) w → Q (.panic c) a w := by exact fun _ _ _ h => h) (hS : S w := by assumption) : wpAnyH P md ops Q S (fuel + 1) listed a w :=
  wpAnyH_take hi hs hf hr hQ (Or.inl ⟨hw, hy⟩) hS h
/-- The one move that may come up next comes up. -/
theorem rdH {P : Program} {ops : Array Oper} {Q : Exit → Act → World → Prop} {md : Region.Mode} {S : World → Prop} {i : Nat} {o : Oper} {fuel : Nat} {listed : Array Bool} {a : Act} {w : World} (ho : ops[i]? = some o) (h : ∀ K' : Act → World → Prop, Shut (∀ a w, S w → (S w → wpAnyH P md ops Q S fuel (listed.setIfInBounds i true) a w) → K' a w) → if Region.wanted o (yielded ops a.tmps) = true then Oper.wp P o a w K' Q else K' (a.put o.dst undef) w) (hr : Region.ready md ops listed = [i] := by kernel_rfl) : wpAnyH P md ops Q S (fuel + 1) listed a w :=
  wpAnyH_ready hr (by simp) (AllReadyH.cons ho h AllReadyH.nil)
end Go.Proofs.YtjfhilignbeboabGreatDoor
/- A set of package bits in memory, and which steps keep it: plain lemmas, without the program. -/
namespace Go.Proofs.YtjfhilignbeboabGreatDoor.Bt
open Go.RowKit

/-- The words as they lie in cells. -/
def wvals (W : List Nat) : List Value := W.map (fun (x : Nat) => Value.int .u64 (x : Int))
/-- Is the number i among those that the words tell of? -/
def mem (W : List Nat) (i : Nat) : Bool := (W.getD (i / 64) 0).testBit (i % 64)
/-- The words W tell of the set L (of each number below the bound whether it is in it). -/
structure Rep (W : List Nat) (L : List Bool) : Prop where
  len : W.length = (L.length + 63) / 64
  word : ∀ x ∈ W, x < 18446744073709551616
  is : ∀ i, mem W i = L.getD i false
  small : L.length ≤ 65536

/-- The set L lies at block b, its words in block g. -/
def SetAt (w : World) (b g : Nat) (L : List Bool) : Prop :=
  ∃ (W : List Nat) (cap : Nat) (cur : List Value), w.heap[b]? = some (.cells #[.bool true, .int .i64 (L.length : Int), .slice (some ⟨g, 0, none⟩) W.length cap] 156 (0, 0)) ∧
    w.heap[g]? = some (.cells cur.toArray 150 (0, 0)) ∧ W.length ≤ cap ∧ cap ≤ maxLen ∧ cur.length = cap ∧ cur.take W.length = wvals W ∧ Rep W L ∧ 0 < g

theorem SetAt.kept {w w' : World} {b g : Nat} {L : List Bool} {row : Option Nat} (h : SetAt w b g L) (hg : w.grownBy w' row) (hb : row ≠ some b) (hr : row ≠ some g) : SetAt w' b g L := by
  obtain ⟨W, cap, cur, h1, h2, h3⟩ := h
  exact ⟨W, cap, cur, (hg.block b (row_lt h1) (fun e => hb e.symm)).trans h1, (hg.block g (row_lt h2) (fun e => hr e.symm)).trans h2, h3⟩
theorem SetAt.ne {w : World} {b g b' g' : Nat} {L L' : List Bool} (h : SetAt w b g L) (h' : SetAt w b' g' L') : b ≠ g' := by
  rintro rfl
  obtain ⟨W, cap, cur, h1, h2, h3⟩ := h
  obtain ⟨W', cap', cur', h1', h2', h3'⟩ := h'
  rw [h1] at h2'; simp at h2'
theorem SetAt.lt {w : World} {b g : Nat} {L : List Bool} (h : SetAt w b g L) : b < w.heap.size ∧ g < w.heap.size := by
  obtain ⟨W, cap, cur, h1, h2, h3⟩ := h; exact ⟨row_lt h1, row_lt h2⟩
theorem SetAt.made {w : World} {b g : Nat} {L : List Bool} (h : SetAt w b g L) : w.cell? ⟨b, 0, none⟩ = some (.bool true) := by
  obtain ⟨W, cap, cur, h1, h2, h3⟩ := h; simp [World.cell?, h1]
theorem SetAt.bound {w : World} {b g : Nat} {L : List Bool} (h : SetAt w b g L) : w.cell? ⟨b, 1, none⟩ = some (.int .i64 (L.length : Int)) := by
  obtain ⟨W, cap, cur, h1, h2, h3⟩ := h; simp [World.cell?, h1]
theorem SetAt.small {w : World} {b g : Nat} {L : List Bool} (h : SetAt w b g L) : L.length ≤ 65536 := by
  obtain ⟨W, cap, cur, h1, h2, _, _, _, _, h3, _⟩ := h; exact h3.small
/-- The words: where they lie, and each of them. -/
theorem SetAt.words {w : World} {b g : Nat} {L : List Bool} (h : SetAt w b g L) : ∃ (W : List Nat) (cap : Nat), w.cell? ⟨b, 2, none⟩ = some (.slice (some ⟨g, 0, none⟩) W.length cap) ∧ W.length ≤ cap ∧ cap ≤ maxLen ∧ Rep W L ∧
    ∀ (j x : Nat), W[j]? = some x → w.cell? ⟨g, j, none⟩ = some (.int .u64 (x : Int)) := by
  obtain ⟨W, cap, cur, h1, h2, h3, h3', h4, h5, h6, _⟩ := h
  refine ⟨W, cap, by simp [World.cell?, h1], h3, h3', h6, ?_⟩
  intro j x hx
  have hj : j < W.length := (List.getElem?_eq_some_iff.1 hx).1
  rw [cell_row h2, ← List.getElem?_take_of_lt hj, h5, wvals, List.getElem?_map, hx]; rfl

theorem mem_set (W : List Nat) (i k x : Nat) (hi : i / 64 < W.length) (hx : ∀ b, b < 64 → x.testBit b = if b = i % 64 then (k == 1) else (W.getD (i / 64) 0).testBit b) (j : Nat) :
    mem (W.set (i / 64) x) j = if j = i then (k == 1) else mem W j := by
  unfold mem
  by_cases h : j / 64 = i / 64
  · rw [h]
    simp only [List.getD_eq_getElem?_getD, List.getElem?_set, hi, if_true, Option.getD_some]
    rw [hx _ (Nat.mod_lt _ (by decide))]
    by_cases hj : j = i
    · subst hj; simp
    · rw [if_neg hj, if_neg (by omega)]
      simp [List.getD_eq_getElem?_getD]
  · rw [if_neg (by intro e; exact h (by rw [e]))]
    simp only [List.getD_eq_getElem?_getD, List.getElem?_set]
    rw [if_neg (fun e => h e.symm)]

theorem getD_set (L : List Bool) (i : Nat) (v : Bool) (hi : i < L.length) (j : Nat) : (L.set i v).getD j false = if j = i then v else L.getD j false := by
  simp only [List.getD_eq_getElem?_getD, List.getElem?_set]
  by_cases h : i = j
  · subst h; simp [hi]
  · rw [if_neg h, if_neg (fun e => h e.symm)]

theorem Rep.word_lt {W : List Nat} {L : List Bool} (h : Rep W L) {i : Nat} (hi : i < L.length) : i / 64 < W.length := by rw [h.len]; omega

theorem Rep.getD_lt {W : List Nat} {L : List Bool} (h : Rep W L) (j : Nat) : W.getD j 0 < 18446744073709551616 := by
  by_cases hj : j < W.length
  · rw [List.getD_eq_getElem?_getD, List.getElem?_eq_getElem hj]; exact h.word _ (List.getElem_mem hj)
  · rw [List.getD_eq_getElem?_getD, List.getElem?_eq_none (by omega)]; decide

/-- A number put in, or taken out: one word is turned. -/
theorem Rep.turned {W : List Nat} {L : List Bool} (h : Rep W L) {i : Nat} (hi : i < L.length) (x : Nat) (v : Bool) (hlt : x < 18446744073709551616)
    (hx : ∀ b, b < 64 → x.testBit b = if b = i % 64 then v else (W.getD (i / 64) 0).testBit b) : Rep (W.set (i / 64) x) (L.set i v) := by
  refine ⟨by simp [h.len], ?_, ?_, by simpa using h.small⟩
  · intro y hy
    rcases List.mem_or_eq_of_mem_set hy with hy | rfl
    · exact h.word y hy
    · exact hlt
  · intro j
    rw [getD_set L i v hi, mem_set W i (if v then 1 else 0) x (h.word_lt hi) (by intro b hb; rw [hx b hb]; cases v <;> rfl), h.is]
    cases v <;> rfl

theorem testBit_or_bit (x i b : Nat) : (x ||| 2 ^ i).testBit b = if b = i then true else x.testBit b := by
  rw [Nat.testBit_or, Nat.testBit_two_pow]
  by_cases h : b = i
  · subst h; simp
  · rw [if_neg h]; simp; intro e; exact absurd e.symm h

/-- Behind a store of a word. -/
theorem SetAt.store {w : World} {b g : Nat} {L : List Bool} (h : SetAt w b g L) {i : Nat} (hi : i < L.length) (v : Bool) : ∃ (W : List Nat) (cap : Nat), w.cell? ⟨b, 2, none⟩ = some (.slice (some ⟨g, 0, none⟩) W.length cap) ∧ i / 64 < W.length ∧ W.length ≤ cap ∧ cap ≤ maxLen ∧
    w.cell? ⟨g, i / 64, none⟩ = some (.int .u64 ((W.getD (i / 64) 0 : Nat) : Int)) ∧ W.getD (i / 64) 0 < 18446744073709551616 ∧ w.frozen? ⟨g, i / 64, none⟩ = false ∧
    ∀ x : Nat, x < 18446744073709551616 → (∀ c, c < 64 → x.testBit c = if c = i % 64 then v else (W.getD (i / 64) 0).testBit c) → SetAt (w.setCell ⟨g, i / 64, none⟩ (.int .u64 (x : Int))) b g (L.set i v) := by
  obtain ⟨W, cap, cur, h1, h2, h3, h3', h4, h5, h6, h7⟩ := h
  have hw := h6.word_lt hi
  have hne : b ≠ g := by rintro rfl; rw [h1] at h2; simp at h2
  refine ⟨W, cap, by simp [World.cell?, h1], hw, h3, h3', ?_, h6.getD_lt _, free_row h2 _, ?_⟩
  · rw [cell_row h2, ← List.getElem?_take_of_lt hw, h5, wvals, List.getElem?_map, List.getElem?_eq_getElem hw]
    simp [List.getD_eq_getElem?_getD, hw]
  · intro x hx hb
    refine ⟨W.set (i / 64) x, cap, cur.set (i / 64) (.int .u64 (x : Int)), ?_, row_setCell h2 _ _, by simpa using h3, h3', by simpa using h4, ?_, h6.turned hi x v hx hb, h7⟩
    · rw [Below.heap_setCell _ _ _ _ (by simpa using hne), h1]; simp
    · rw [List.length_set, List.take_set, h5, wvals, wvals, List.map_set]

/-- A set whose cells have just been laid. -/
theorem SetAt.fresh {w : World} {b g cap : Nat} {L : List Bool} {W : List Nat} {cur : List Value} (h1 : w.heap[b]? = some (.cells #[.bool true, .int .i64 (L.length : Int), .slice (some ⟨g, 0, none⟩) W.length cap] 156 (0, 0)))
    (h2 : w.heap[g]? = some (.cells cur.toArray 150 (0, 0))) (h3 : W.length ≤ cap) (h3' : cap ≤ maxLen) (h4 : cur.length = cap) (h5 : cur.take W.length = wvals W) (h6 : Rep W L) (h7 : 0 < g) : SetAt w b g L :=
  ⟨W, cap, cur, h1, h2, h3, h3', h4, h5, h6, h7⟩

theorem rep_none (n : Nat) (hn : n ≤ 65536) : Rep (List.replicate ((n + 63) / 64) 0) (List.replicate n false) := by
  refine ⟨by simp, ?_, ?_, by simpa using hn⟩
  · intro x hx; rw [List.eq_of_mem_replicate hx]; decide
  · intro i
    unfold mem
    have e : (List.replicate ((n + 63) / 64) 0).getD (i / 64) 0 = 0 := by
      rw [List.getD_eq_getElem?_getD, List.getElem?_replicate]; split <;> rfl
    have e2 : (List.replicate n false).getD i false = false := by
      rw [List.getD_eq_getElem?_getD, List.getElem?_replicate]; split <;> rfl
    rw [e, e2, Nat.zero_testBit]

end Go.Proofs.YtjfhilignbeboabGreatDoor.Bt
/- The contracts of a set's small calls: isNone, may, bit, size, New, Put, Drop, Has, Bound. -/
namespace Go.Proofs.YtjfhilignbeboabGreatDoor.Bt
open Go.RowKit
attribute [local go_sem ↓] Go.wp_at_zero Go.wp_at_succ

set_option maxHeartbeats 400000 in
theorem isNone_nil (w : World) : Calls Tryz.prog 111 #[.pointer none] w fun e w' => e = .returned (.bool true) ∧ w' = w := by
  go_enter Tryz.func111, Tryz.ntmps111
  go_wp2
  go_ret
  exact ⟨rfl, rfl⟩
set_option maxHeartbeats 400000 in
theorem isNone_at (b : Nat) (m : Bool) (w : World) (h : w.cell? ⟨b, 0, none⟩ = some (.bool m)) : Calls Tryz.prog 111 #[.pointer (some ⟨b, 0, none⟩)] w fun e w' => e = .returned (.bool (!m)) ∧ w' = w := by
  go_enter Tryz.func111, Tryz.ntmps111
  go_wp2
  go_ret
  exact ⟨rfl, rfl⟩

/-- What may answers. -/
def mayF (n : Nat) (i : Int) : Int := if 0 ≤ i ∧ i < (n : Int) then 0 else 2

set_option maxHeartbeats 400000 in
theorem may_any (b g : Nat) (L : List Bool) (i : Int) (w : World) (h : SetAt w b g L) :
    Calls Tryz.prog 86 #[.pointer (some ⟨b, 0, none⟩), .int .i64 i] w fun e w' => e = .returned (.int .i64 (mayF L.length i)) ∧ w' = w := by
  have hb := h.bound
  have hm := h.made
  clear h
  generalize L.length = n at hb ⊢
  by_cases h1 : 0 ≤ i ∧ i < (n : Int)
  · have hF : mayF n i = 0 := by simp [mayF, h1]
    obtain ⟨h1, h2⟩ := h1
    rw [hF]; clear hF
    go_enter Tryz.func86, Tryz.ntmps86
    go_wp2_with fail
    refine (isNone_at b true w hm).mono ?_
    rintro e w' ⟨rfl, rfl⟩
    go_wp2
    go_ret
    exact ⟨rfl, rfl⟩
  · have hF : mayF n i = 2 := by simp only [mayF]; rw [if_neg h1]
    rw [hF]; clear hF
    go_enter Tryz.func86, Tryz.ntmps86
    go_wp2_with fail
    refine (isNone_at b true w hm).mono ?_
    rintro e w' ⟨rfl, rfl⟩
    by_cases h2 : i < 0
    · clear h1
      go_wp2
      go_ret
      exact ⟨rfl, rfl⟩
    · have h3 : (n : Int) ≤ i := by omega
      have h4 : 0 ≤ i := by omega
      clear h1 h2
      go_wp2
      go_ret
      exact ⟨rfl, rfl⟩

theorem shl_bit (k : Nat) (hk : k < 64) : IntKind.u64.wrap (2 ^ k) = ((2 ^ k : Nat) : Int) := by
  rw [IntKind.wrap_u64]
  have : (2 : Nat) ^ k < 18446744073709551616 := Nat.pow_lt_pow_right (a := 2) (by decide) (m := k) (n := 64) hk
  have e : ((2 : Int) ^ k) = ((2 ^ k : Nat) : Int) := by simp
  rw [e]; generalize (2 : Nat) ^ k = y at this ⊢; omega

set_option maxHeartbeats 400000 in
theorem bit_any (i : Nat) (w : World) (hi : i ≤ 65536) :
    Calls Tryz.prog 87 #[.int .i64 (i : Int)] w fun e w' => e = .returned (.int .u64 ((2 ^ (i % 64) : Nat) : Int)) ∧ w' = w := by
  go_enter Tryz.func87, Tryz.ntmps87
  go_wp2
  go_ret
  exact ⟨by rw [shl_bit _ (Nat.mod_lt _ (by decide))]; rfl, rfl⟩

theorem Tryz.info150 : (Tryz.prog.info? 150).map (fun i => (i.zero, i.size, i.bytes)) = some (some (.int .u64 0), 1, 8) := by kernel_rfl
theorem made_words (n : Nat) : madeCells #[.int .u64 0] n = (wvals (List.replicate n 0)).toArray := by
  apply Array.ext'
  rw [toList_madeCells_one]
  simp [wvals]
theorem make_words (n : Nat) (C : Int) (hC : C = (n : Int)) (h : n ≤ 35184372088832) (w : World) : (Instr.makeSlice 154 (.int .i64 C) (.int .i64 C)).run Tryz.prog w = .ok (.slice (some ⟨w.heap.size, 0, none⟩) n n) (w.alloc (.cells (wvals (List.replicate n 0)).toArray 150)) := by
  subst hC
  rw [run_make_row' (P := Tryz.prog) 154 150 (.int .u64 0) 8 Tryz.underlying154 Tryz.info150 rfl .i64 .i64 n (by omega) (by omega) w, made_words]

set_option maxHeartbeats 400000 in
theorem new_any (n : Nat) (w : World) (h : n ≤ 65536) (hw : 0 < w.heap.size) :
    Calls Tryz.prog 51 #[.int .i64 (n : Int)] w fun e w' => ∃ b g, e = .returned (.tuple #[.pointer (some ⟨b, 0, none⟩), .int .i64 0]) ∧ SetAt w' b g (List.replicate n false) ∧ w.heap.size ≤ b ∧ w.heap.size ≤ g ∧ w.grownBy w' none := by
  have hmk := make_words ((n + 63) / 64) (((n : Int) + 64 - 1) / 64) (by omega) (by omega)
  have h1 : (0 : Int) ≤ (n : Int) := by omega
  have h2 : (n : Int) ≤ 65536 := by omega
  go_enter Tryz.func51, Tryz.ntmps51
  go_wp2
  go_ret2
  refine ⟨w.heap.size + 1, w.heap.size, rfl, ?_, by omega, Nat.le_refl _, grown_trans (World.grownBy_alloc w _ _) (World.grownBy_alloc _ _ _)⟩
  have e1 := heap_alloc_new (w.alloc (.cells (wvals (List.replicate ((n + 63) / 64) 0)).toArray 150)) (Obj.cells #[.bool true, .int .i64 (n : Int), .slice (some ⟨w.heap.size, 0, none⟩) ((n + 63) / 64) ((n + 63) / 64)] 156)
  rw [World.size_alloc] at e1
  refine SetAt.fresh (W := List.replicate ((n + 63) / 64) 0) (cap := (n + 63) / 64) (cur := wvals (List.replicate ((n + 63) / 64) 0)) ?_ ?_ (by simp) (by unfold maxLen; omega) (by simp [wvals]) (by simp [wvals]) (rep_none n h) hw
  · simpa using e1
  · exact (Below.heap_alloc _ _ _ (by simp)).trans (heap_alloc_new w _)

theorem SetAt.drew {w : World} {b g : Nat} {L : List Bool} (h : SetAt w b g L) : SetAt w.drew b g L := h.kept (grown_drew w none) (by simp) (by simp)

theorem wrap_i64_small (q : Int) (h1 : -9223372036854775808 ≤ q) (h2 : q ≤ 9223372036854775807) : IntKind.i64.wrap q = q := by
  rw [IntKind.wrap_i64]; omega

set_option maxHeartbeats 1000000 in
theorem put_any (b g : Nat) (L : List Bool) (i : Nat) (w : World) (h : SetAt w b g L) (hi : i < L.length) :
    Calls Tryz.prog 58 #[.pointer (some ⟨b, 0, none⟩), .int .i64 (i : Int)] w fun e w' => e = .returned (.int .i64 0) ∧ SetAt w' b g (L.set i true) ∧ w.grownBy w' (some g) := by
  obtain ⟨W, cap, hc, hw, hcap, hcap2, hcell, hlt, hfr, hst⟩ := h.store hi true
  have hsm := h.small
  have hmay := may_any b g L (i : Int) w h
  rw [show mayF L.length (i : Int) = 0 by simp [mayF]; omega] at hmay
  have hq : IntKind.i64.wrap ((i : Int) / 64) = ((i / 64 : Nat) : Int) := by rw [wrap_i64_small _ (by omega) (by omega)]; omega
  have hbt := fun w => bit_any i w (by omega)
  generalize W.getD (i / 64) 0 = x at *
  generalize i / 64 = q at *
  have hor := bits_or_u64_nat x (2 ^ (i % 64)) hlt (Nat.pow_lt_pow_right (a := 2) (by decide) (m := i % 64) (n := 64) (by omega))
  have hx2 : x ||| 2 ^ (i % 64) < 18446744073709551616 := Nat.or_lt_two_pow (n := 64) hlt (Nat.pow_lt_pow_right (a := 2) (by decide) (m := i % 64) (n := 64) (by omega))
  have H := hide (hst (x ||| 2 ^ (i % 64)) hx2 (fun c _ => testBit_or_bit x (i % 64) c))
  have HM := hide hmay
  have HB := hide hbt
  clear hst hmay hbt
  generalize 2 ^ (i % 64) = m at *
  generalize x ||| m = y at *
  have hw1 : (0 : Int) ≤ (q : Int) := by omega
  have hw2 : (q : Int) < (W.length : Int) := by omega
  go_enter Tryz.func58, Tryz.ntmps58
  go_wp2_with fail
  refine HM.out.mono ?_
  rintro e w' ⟨rfl, rfl⟩
  go_wp2_with fail
  go_region_with (go_at_call 87; refine (HB.out _).mono ?_; rintro e w2 ⟨rfl, rfl⟩)
  all_goals
    go_wp2
    go_ret
    exact ⟨rfl, H.out.drew, grown_trans (grown_setCell _ _ _ _) (grown_drew _ _)⟩

/-- No set. -/
def NoSet (w : World) (p : Option Addr) : Prop := p = none ∨ ∃ b, p = some ⟨b, 0, none⟩ ∧ w.cell? ⟨b, 0, none⟩ = some (.bool false)
theorem NoSet.is {w : World} {p : Option Addr} (h : NoSet w p) : Calls Tryz.prog 111 #[.pointer p] w fun e w' => e = .returned (.bool true) ∧ w' = w := by
  rcases h with rfl | ⟨b, rfl, hb⟩
  · exact isNone_nil w
  · exact isNone_at b false w hb

end Go.Proofs.YtjfhilignbeboabGreatDoor.Bt
/- The contracts of a set's Has, Bound, TrailingZeros64, OnesCount64, Count. -/
namespace Go.Proofs.YtjfhilignbeboabGreatDoor.Bt
open Go.RowKit
attribute [local go_sem ↓] Go.wp_at_zero Go.wp_at_succ

theorem SetAt.drewN {w : World} {b g : Nat} {L : List Bool} (h : SetAt w b g L) (n : Nat) : SetAt (w.drewN n) b g L := h.kept (grown_drewN w n none) (by simp) (by simp)
theorem NoSet.drewN {w : World} {p : Option Addr} (h : NoSet w p) (n : Nat) : NoSet (w.drewN n) p := h

theorem bit_ne (x k : Nat) : decide ((x &&& 2 ^ k : Nat) ≠ 0) = x.testBit k := by
  cases h : x.testBit k
  · have : x &&& 2 ^ k = 0 := by
      apply Nat.eq_of_testBit_eq
      intro i
      rw [Nat.testBit_and, Nat.testBit_two_pow, Nat.zero_testBit]
      by_cases e : k = i
      · subst e; simp [h]
      · simp [e]
    simp [this]
  · have : (x &&& 2 ^ k).testBit k = true := by rw [Nat.testBit_and, Nat.testBit_two_pow, h]; simp
    simp only [ne_eq, decide_eq_true_eq]
    intro e
    rw [e, Nat.zero_testBit] at this
    cases this
theorem ne_int (y : Nat) : decide (y ≠ 0) = ((y : Int) != 0) := by
  by_cases h : y = 0
  · subst h; rfl
  · have h2 : (y : Int) ≠ 0 := by omega
    simp [h]

set_option maxHeartbeats 1000000 in
theorem has_any (b g : Nat) (L : List Bool) (i : Nat) (w : World) (h : SetAt w b g L) (hi : i < L.length) :
    Calls Tryz.prog 44 #[.pointer (some ⟨b, 0, none⟩), .int .i64 (i : Int)] w fun e w' => e = .returned (.bool (L.getD i false)) ∧ w.grownBy w' none := by
  obtain ⟨W, cap, hc, hcap, hcap2, hR, hcells⟩ := h.words
  have hsm := h.small
  have hw := hR.word_lt hi
  have hmay := fun n => may_any b g L (i : Int) (w.drewN n) (h.drewN n)
  rw [show mayF L.length (i : Int) = 0 by simp [mayF]; omega] at hmay
  have hq : IntKind.i64.wrap ((i : Int) / 64) = ((i / 64 : Nat) : Int) := by rw [wrap_i64_small _ (by omega) (by omega)]; omega
  have hbt := fun n => bit_any i (w.drewN n) (by omega)
  have hcell := hcells (i / 64) (W.getD (i / 64) 0) (by rw [List.getD_eq_getElem?_getD, List.getElem?_eq_getElem hw]; rfl)
  have hlt := hR.getD_lt (i / 64)
  have hres : L.getD i false = (W.getD (i / 64) 0).testBit (i % 64) := (hR.is i).symm
  rw [hres, ← bit_ne]
  generalize W.getD (i / 64) 0 = x at *
  generalize i / 64 = q at *
  have hand := bits_and_u64_nat x (2 ^ (i % 64)) hlt (Nat.pow_lt_pow_right (a := 2) (by decide) (m := i % 64) (n := 64) (by omega))
  have HM := hide hmay
  have HB := hide hbt
  clear hmay hbt hcells hres hR h
  generalize x &&& 2 ^ (i % 64) = y at *
  generalize 2 ^ (i % 64) = m at *
  have hw1 : (0 : Int) ≤ (q : Int) := by omega
  have hw2 : (q : Int) < (W.length : Int) := by omega
  go_enter Tryz.func44, Tryz.ntmps44
  go_wp2_with fail
  go_quiet (first | (go_at_call 86; exact Calls.quiet_of_same (HM.out _)) | (go_at_call 87; exact Calls.quiet_of_same (HB.out _)))
  go_wp2
  go_ret
  exact ⟨by rw [ne_int]; rfl, grown_drewN _ _ _⟩

end Go.Proofs.YtjfhilignbeboabGreatDoor.Bt
/- Numbers alone: which shapes and sizes may be, how many pieces hold so many bytes. -/
namespace Go.Proofs.YtjfhilignbeboabGreatDoor.Gx

/-- A shape that may be. -/
def OkS (a b c : Int) : Prop := 1 ≤ a ∧ a ≤ 1024 ∧ 1 ≤ b ∧ b ≤ 4096 ∧ 1 ≤ c ∧ c ≤ 64
instance (a b c : Int) : Decidable (OkS a b c) := by unfold OkS; infer_instance
/-- A size that may be. -/
def OkZ (s : Int) : Prop := s = 64 ∨ s = 128 ∨ s = 256 ∨ s = 512 ∨ s = 1024 ∨ s = 2048 ∨ s = 4096
instance (s : Int) : Decidable (OkZ s) := by unfold OkZ; infer_instance
/-- A disk that may be. -/
def OkD (n s : Int) : Prop := 1 ≤ n ∧ n ≤ 65536 ∧ OkZ s ∧ n * s ≤ 67108864
instance (n s : Int) : Decidable (OkD n s) := by unfold OkD; infer_instance
/-- The lesser of two. -/
def lo (a b : Int) : Int := if a ≤ b then a else b
/-- An image's most bytes. -/
def img (a b : Int) : Int := 20 + 14 * lo a b
/-- How many pieces of s bytes hold b bytes. -/
def hold (b s : Int) : Int := (b + s - 1) / s
/-- A slot's sectors. -/
def slot (a b s : Int) : Int := 1 + hold (img a b) s
end Go.Proofs.YtjfhilignbeboabGreatDoor.Gx
/- An index's slots: the search, what is laid, set and taken out; numbers alone. -/
namespace Go.Proofs.YtjfhilignbeboabGreatDoor.Ix

/-- How far it is from a to b, round and round. -/
def wy (n a b : Nat) : Nat := if a ≤ b then b - a else b + n - a
def bh (n a : Nat) : Nat := if a + 1 = n then 0 else a + 1
theorem bh_lt {n a : Nat} (h : a < n) : bh n a < n := by unfold bh; split <;> omega
/-- What lies in slot i. -/
def sl (S : List (Option (Nat × Int))) (i : Nat) : Option (Nat × Int) := (S[i]?).getD none
theorem sl_lt {S : List (Option (Nat × Int))} {i : Nat} {x : Nat × Int} (h : sl S i = some x) : i < S.length := by
  unfold sl at h
  by_cases hi : i < S.length
  · exact hi
  · rw [List.getElem?_eq_none (by omega)] at h; simp at h
theorem sl_set {S : List (Option (Nat × Int))} {i : Nat} (y : Option (Nat × Int)) (j : Nat) (h : i < S.length) : sl (S.set i y) j = if j = i then y else sl S j := by
  unfold sl
  rw [List.getElem?_set]
  by_cases e : i = j
  · subst e; simp [h]
  · simp [e, Ne.symm e]
theorem sl_mem {S : List (Option (Nat × Int))} {x : Nat × Int} : some x ∈ S ↔ ∃ j, sl S j = some x := by
  rw [List.mem_iff_getElem?]
  constructor
  · rintro ⟨i, h⟩; exact ⟨i, by unfold sl; rw [h]; rfl⟩
  · rintro ⟨i, h⟩
    have := sl_lt h
    unfold sl at h
    rw [List.getElem?_eq_getElem this] at h
    exact ⟨i, by rw [List.getElem?_eq_getElem this]; simpa using h⟩

/-- By rising ids. -/
def Asc (X : List (Nat × Int)) : Prop := X.Pairwise (fun a b => a.1 < b.1)
/-- What lies under an id. -/
def lk (M : List (Nat × Int)) (k : Nat) : Option Int := (M.find? (fun x => x.1 == k)).map (·.2)
def ins (M : List (Nat × Int)) (x : Nat × Int) : List (Nat × Int) := match M with
  | [] => [x]
  | y :: r => if x.1 < y.1 then x :: y :: r else y :: ins r x
def up (M : List (Nat × Int)) (k : Nat) (v : Int) : List (Nat × Int) := M.map fun x => if x.1 = k then (k, v) else x
def dr (M : List (Nat × Int)) (k : Nat) : List (Nat × Int) := M.filter fun x => x.1 != k

theorem asc_unique : ∀ {X Y : List (Nat × Int)}, Asc X → Asc Y → X.Perm Y → X = Y
  | [], Y, _, _, h => (List.nil_perm.1 h).symm
  | x :: X, [], _, _, h => by simp at h
  | x :: X, y :: Y, hx, hy, h => by
    have hx' := List.pairwise_cons.1 hx
    have hy' := List.pairwise_cons.1 hy
    have e : x = y := by
      have m1 : x ∈ y :: Y := h.subset (by simp)
      have m2 : y ∈ x :: X := h.symm.subset (by simp)
      rcases List.mem_cons.1 m1 with e | m1
      · exact e
      · rcases List.mem_cons.1 m2 with e | m2
        · exact e.symm
        · have h1 := hy'.1 x m1
          have h2 := hx'.1 y m2
          omega
    subst e
    rw [asc_unique hx'.2 hy'.2 ((List.perm_cons x).1 h)]
theorem Asc.nodup {X : List (Nat × Int)} (h : Asc X) : X.Nodup := h.imp (fun h e => by rw [e] at h; omega)
theorem Asc.ids {X : List (Nat × Int)} (h : Asc X) : (X.map (·.1)).Nodup := List.pairwise_map.2 (h.imp (fun h => by omega))
theorem Asc.same {X : List (Nat × Int)} (h : Asc X) {x y : Nat × Int} (hx : x ∈ X) (hy : y ∈ X) (e : x.1 = y.1) : x = y := by
  induction X with
  | nil => simp at hx
  | cons z r ih =>
    have h' := List.pairwise_cons.1 h
    rcases List.mem_cons.1 hx with hx1 | hx <;> rcases List.mem_cons.1 hy with hy1 | hy
    · rw [hx1, hy1]
    · have := h'.1 y hy; rw [hx1] at e; omega
    · have := h'.1 x hx; rw [hy1] at e; omega
    · exact ih h'.2 hx hy
theorem lk_some {M : List (Nat × Int)} (h : Asc M) {k : Nat} {v : Int} : lk M k = some v ↔ (k, v) ∈ M := by
  unfold lk
  constructor
  · intro e
    cases hf : M.find? (fun x => x.1 == k) with
    | none => rw [hf] at e; simp at e
    | some x =>
      rw [hf] at e
      have h1 := List.find?_some hf
      have h2 := List.mem_of_find?_eq_some hf
      simp at e h1
      rw [← h1, ← e]
      exact h2
  · intro e
    cases hf : M.find? (fun x => x.1 == k) with
    | none =>
      rw [List.find?_eq_none] at hf
      have := hf _ e
      simp at this
    | some x =>
      have h1 := List.find?_some hf
      have h2 := List.mem_of_find?_eq_some hf
      simp at h1
      rw [h.same h2 e h1]
      rfl
theorem lk_none {M : List (Nat × Int)} {k : Nat} : lk M k = none ↔ ∀ v, (k, v) ∉ M := by
  unfold lk
  rw [Option.map_eq_none_iff, List.find?_eq_none]
  constructor
  · intro h v hv; have := h _ hv; simp at this
  · rintro h ⟨a, b⟩ hx e
    simp at e
    subst e
    exact h b hx
theorem ins_mem {M : List (Nat × Int)} {x y : Nat × Int} : y ∈ ins M x ↔ y = x ∨ y ∈ M := by
  induction M with
  | nil => simp [ins]
  | cons z r ih =>
    unfold ins
    split
    · simp
    · rw [List.mem_cons, ih, List.mem_cons]
      constructor
      · rintro (h | h | h)
        · exact .inr (.inl h)
        · exact .inl h
        · exact .inr (.inr h)
      · rintro (h | h | h)
        · exact .inr (.inl h)
        · exact .inl h
        · exact .inr (.inr h)
theorem ins_length (M : List (Nat × Int)) (x : Nat × Int) : (ins M x).length = M.length + 1 := by
  induction M with
  | nil => rfl
  | cons z r ih => unfold ins; split <;> simp [ih]
theorem ins_asc {M : List (Nat × Int)} (h : Asc M) {x : Nat × Int} (hx : ∀ v, (x.1, v) ∉ M) : Asc (ins M x) := by
  induction M with
  | nil => exact List.pairwise_singleton _ _
  | cons z r ih =>
    have h' := List.pairwise_cons.1 h
    unfold ins
    split
    · rename_i hlt
      refine List.pairwise_cons.2 ⟨fun a ha => ?_, h⟩
      rcases List.mem_cons.1 ha with rfl | ha
      · exact hlt
      · have := h'.1 a ha; omega
    · rename_i hlt
      refine List.pairwise_cons.2 ⟨fun a ha => ?_, ih h'.2 (fun v hv => hx v (List.mem_cons_of_mem _ hv))⟩
      rcases ins_mem.1 ha with rfl | ha
      · have : z.1 ≠ a.1 := fun e => hx z.2 (by rw [← e]; exact List.mem_cons_self ..)
        omega
      · exact h'.1 a ha
theorem dr_mem {M : List (Nat × Int)} {k : Nat} {y : Nat × Int} : y ∈ dr M k ↔ y ∈ M ∧ y.1 ≠ k := by simp [dr]
theorem lk_ins {M : List (Nat × Int)} (h : Asc M) {k : Nat} {v : Int} (hk : lk M k = none) (j : Nat) : lk (ins M (k, v)) j = if j = k then some v else lk M j := by
  have hA := ins_asc h (x := (k, v)) (lk_none.1 hk)
  by_cases e : j = k
  · subst e; rw [if_pos rfl, lk_some hA]; exact ins_mem.2 (.inl rfl)
  · rw [if_neg e]
    cases hj : lk M j with
    | none => rw [lk_none] at hj ⊢; intro u hu; rcases ins_mem.1 hu with h1 | h1; (cases h1; exact e rfl); exact hj u h1
    | some u => rw [lk_some h] at hj; rw [lk_some hA]; exact ins_mem.2 (.inr hj)
/-- The slots of an index: n of them, its items M. -/
structure Inv (hs : Nat → Nat) (n : Nat) (S : List (Option (Nat × Int))) (M : List (Nat × Int)) : Prop where
  len : S.length = n
  asc : Asc M
  path : ∀ j x, sl S j = some x → ∀ i, i < n → wy n (hs x.1) i < wy n (hs x.1) j → (sl S i).isSome = true
  one : ∀ i j x y, sl S i = some x → sl S j = some y → x.1 = y.1 → i = j
  mem : ∀ x, x ∈ M ↔ ∃ j, sl S j = some x
  few : 2 * M.length ≤ n
  home : ∀ k, hs k < n
/-- What a search finds. -/
structure Fnd (hs : Nat → Nat) (n : Nat) (S : List (Option (Nat × Int))) (k p : Nat) (there : Bool) : Prop where
  lt : p < n
  pre : ∀ i, i < n → wy n (hs k) i < wy n (hs k) p → ∃ x, sl S i = some x ∧ x.1 ≠ k
  yes : there = true → ∃ v, sl S p = some (k, v)
  no : there = false → sl S p = none
section
variable {hs : Nat → Nat} {n : Nat} {S : List (Option (Nat × Int))} {M : List (Nat × Int)}
theorem wy_inj {a i j : Nat} (ha : a < n) (hi : i < n) (hj : j < n) (h : wy n a i = wy n a j) : i = j := by
  unfold wy at h; split at h <;> split at h <;> omega
theorem Inv.fnd (h : Inv hs n S M) {k p : Nat} {there : Bool} (f : Fnd hs n S k p there) : there = (lk M k).isSome ∧ (∀ v, lk M k = some v → sl S p = some (k, v)) := by
  have hno : there = false → lk M k = none := fun e => by
    rw [lk_none]
    intro v hv
    obtain ⟨j, hj⟩ := (h.mem _).1 hv
    have hjn : j < n := by have := sl_lt hj; rw [h.len] at this; exact this
    have hp := f.no e
    have h1 : ¬ wy n (hs k) p < wy n (hs k) j := fun hlt => by have := h.path j _ hj p f.lt hlt; rw [hp] at this; simp at this
    have hne : j ≠ p := fun e => by rw [e, hp] at hj; cases hj
    have h2 : wy n (hs k) j < wy n (hs k) p := by
      have : wy n (hs k) j ≠ wy n (hs k) p := fun e => hne (wy_inj (h.home k) hjn f.lt e)
      omega
    obtain ⟨x, hx, hxk⟩ := f.pre j hjn h2
    rw [hj] at hx
    cases hx
    exact hxk rfl
  cases there with
  | true =>
    obtain ⟨v, hv⟩ := f.yes rfl
    have hm : lk M k = some v := (lk_some h.asc).2 ((h.mem _).2 ⟨p, hv⟩)
    rw [hm]
    exact ⟨rfl, fun u hu => by cases hu; exact hv⟩
  | false =>
    rw [hno rfl]
    exact ⟨rfl, fun u hu => by cases hu⟩
theorem Inv.put (h : Inv hs n S M) {k p : Nat} (v : Int) (f : Fnd hs n S k p false) (hf : 2 * (M.length + 1) ≤ n) : Inv hs n (S.set p (some (k, v))) (ins M (k, v)) := by
  have hk : lk M k = none := by have := (h.fnd f).1; cases hq : lk M k with | none => rfl | some u => rw [hq] at this; cases this
  have hpn : p < S.length := by rw [h.len]; exact f.lt
  have hp := f.no rfl
  have hset := fun (j : Nat) => sl_set (S := S) (i := p) (some (k, v)) j hpn
  refine ⟨by rw [List.length_set]; exact h.len, ins_asc h.asc (lk_none.1 hk), ?_, ?_, ?_, by rw [ins_length]; exact hf, h.home⟩
  · intro j x hj i hi hlt
    rw [hset] at hj ⊢
    by_cases e : i = p
    · rw [if_pos e]; rfl
    · rw [if_neg e]
      by_cases e2 : j = p
      · subst e2
        rw [if_pos rfl] at hj
        cases hj
        obtain ⟨y, hy, _⟩ := f.pre i hi hlt
        rw [hy]; rfl
      · rw [if_neg e2] at hj
        exact h.path j x hj i hi hlt
  · intro i j x y hi hj hxy
    rw [hset] at hi hj
    have hnew : ∀ j y, sl S j = some y → y.1 ≠ k := fun j y hy e => lk_none.1 hk y.2 (by rw [← e]; exact (h.mem _).2 ⟨j, hy⟩)
    by_cases e : i = p <;> by_cases e2 : j = p
    · rw [e, e2]
    · rw [if_pos e] at hi; rw [if_neg e2] at hj; cases hi; exact absurd hxy.symm (hnew j y hj)
    · rw [if_neg e] at hi; rw [if_pos e2] at hj; cases hj; exact absurd hxy (hnew i x hi)
    · rw [if_neg e] at hi; rw [if_neg e2] at hj; exact h.one i j x y hi hj hxy
  · intro x
    rw [ins_mem]
    constructor
    · rintro (rfl | hx)
      · exact ⟨p, by rw [hset, if_pos rfl]⟩
      · obtain ⟨j, hj⟩ := (h.mem x).1 hx
        exact ⟨j, by rw [hset, if_neg (fun e => by rw [e, hp] at hj; cases hj)]; exact hj⟩
    · rintro ⟨j, hj⟩
      rw [hset] at hj
      by_cases e : j = p
      · rw [if_pos e] at hj; cases hj; exact .inl rfl
      · rw [if_neg e] at hj; exact .inr ((h.mem x).2 ⟨j, hj⟩)
/-- What is so while the items behind a gap move up: g the gap, a the slot looked at, g0 the first gap, F the next free slot. -/
structure TO (hs : Nat → Nat) (n : Nat) (S : List (Option (Nat × Int))) (M : List (Nat × Int)) (g0 F g a : Nat) : Prop where
  len : S.length = n
  g0n : g0 < n
  Fn : F < n
  gn : g < n
  an : a < n
  free : sl S F = none
  full : ∀ i, i < n → wy n g0 i < wy n g0 F → (sl S i).isSome = true
  ga : wy n g0 g < wy n g0 a
  aF : wy n g0 a ≤ wy n g0 F
  path : ∀ j x, j ≠ g → sl S j = some x → ∀ i, i < n → wy n (hs x.1) i < wy n (hs x.1) j → (sl S i).isSome = true
  seen : ∀ j x, j ≠ g → sl S j = some x → wy n g0 g < wy n g0 j → wy n g0 j < wy n g0 a → ¬ wy n (hs x.1) g < wy n (hs x.1) j
  one : ∀ i j x y, i ≠ g → j ≠ g → sl S i = some x → sl S j = some y → x.1 = y.1 → i = j
  mem : ∀ x, x ∈ M ↔ ∃ j, j ≠ g ∧ sl S j = some x
  home : ∀ k, hs k < n
theorem wy_bh {g0 a F : Nat} (hg : g0 < n) (_ha : a < n) (hF : F < n) (h : wy n g0 a < wy n g0 F) : wy n g0 (bh n a) = wy n g0 a + 1 := by
  unfold wy bh at *
  repeat' split
  all_goals (repeat' split at h)
  all_goals omega
theorem wy_self (a : Nat) : wy n a a = 0 := by simp [wy]
theorem wy_zero {a b : Nat} (ha : a < n) (_hb : b < n) (h : wy n a b = 0) : a = b := by unfold wy at h; split at h <;> omega
theorem wy_lt {a b : Nat} (_ha : a < n) (_hb : b < n) : wy n a b < n := by unfold wy; split <;> omega
/-- The next free slot. -/
theorem next_free {g0 : Nat} (hF : ∃ i, i < n ∧ sl S i = none) : ∃ F, F < n ∧ sl S F = none ∧ ∀ i, i < n → wy n g0 i < wy n g0 F → (sl S i).isSome = true := by
  obtain ⟨i, hi, hfree⟩ := hF
  have key : ∀ d, ∀ i, i < n → sl S i = none → wy n g0 i ≤ d → ∃ F, F < n ∧ sl S F = none ∧ ∀ i, i < n → wy n g0 i < wy n g0 F → (sl S i).isSome = true := by
    intro d
    induction d with
    | zero => intro i hi hfree hd; exact ⟨i, hi, hfree, fun j _ hlt => by omega⟩
    | succ d ih =>
      intro i hi hfree hd
      by_cases hex : ∃ j, j < n ∧ sl S j = none ∧ wy n g0 j < wy n g0 i
      · obtain ⟨j, hj, hf, hlt⟩ := hex
        exact ih j hj hf (by omega)
      · refine ⟨i, hi, hfree, fun j hj hlt => ?_⟩
        cases hq : sl S j with
        | none => exact absurd ⟨j, hj, hq, hlt⟩ hex
        | some x => rfl
  exact key _ i hi hfree (Nat.le_refl _)
theorem Inv.free (h : Inv hs n S M) (hn : 0 < n) : ∃ i, i < n ∧ sl S i = none := by
  apply Classical.byContradiction
  intro hno
  have hall : ∀ x ∈ S, x.isSome = true := by
    intro x hx
    obtain ⟨i, hi, rfl⟩ := List.mem_iff_getElem.1 hx
    cases hq : S[i] with
    | some y => rfl
    | none => exact absurd ⟨i, by rw [← h.len]; exact hi, by unfold sl; rw [List.getElem?_eq_getElem hi, hq]; rfl⟩ hno
  have hinj : (S.filterMap id).Nodup := by
    rw [List.nodup_iff_pairwise_ne, List.pairwise_filterMap, List.pairwise_iff_getElem]
    intro i j hi hj hij x hx y hy e
    simp at hx hy
    have := h.one i j x y (by unfold sl; rw [List.getElem?_eq_getElem hi, hx]; rfl) (by unfold sl; rw [List.getElem?_eq_getElem hj, hy]; rfl) (by rw [e])
    omega
  have hlen : (S.filterMap id).length = n := by
    rw [← h.len]
    clear h hinj hno
    induction S with
    | nil => rfl
    | cons a r ih =>
      have h1 := hall a (by simp)
      cases a with
      | none => cases h1
      | some y => simp [ih (fun x hx => hall x (List.mem_cons_of_mem _ hx))]
  have hsub : (S.filterMap id).Perm M := by
    rw [List.perm_ext_iff_of_nodup hinj h.asc.nodup]
    intro x
    rw [h.mem, ← sl_mem]
    simp
  have := hsub.length_eq
  have := h.few
  omega
theorem Inv.perm (h : Inv hs n S M) : (S.filterMap id).Perm M := by
  have hinj : (S.filterMap id).Nodup := by
    rw [List.nodup_iff_pairwise_ne, List.pairwise_filterMap, List.pairwise_iff_getElem]
    intro i j hi hj hij x hx y hy e
    simp at hx hy
    have := h.one i j x y (by unfold sl; rw [List.getElem?_eq_getElem hi, hx]; rfl) (by unfold sl; rw [List.getElem?_eq_getElem hj, hy]; rfl) (by rw [e])
    omega
  rw [List.perm_ext_iff_of_nodup hinj h.asc.nodup]
  intro x
  rw [h.mem, ← sl_mem]
  simp
theorem TO.start (h : Inv hs n S M) {k p : Nat} (f : Fnd hs n S k p true) : ∃ F, TO hs n S (dr M k) p F p (bh n p) ∧ wy n (hs k) p + wy n p F < n := by
  obtain ⟨u, hp⟩ := f.yes rfl
  have hn := f.lt
  obtain ⟨F, hF, hfree, hfull⟩ := next_free (S := S) (g0 := p) (h.free (by omega))
  have hpF : p ≠ F := fun e => by rw [e, hfree] at hp; cases hp
  have hpos : 0 < wy n p F := by
    rcases Nat.eq_zero_or_pos (wy n p F) with h0 | h0
    · exact absurd (wy_zero hn hF h0) hpF
    · exact h0
  have hb : wy n p (bh n p) = 1 := by
    have := wy_bh hn hn hF (g0 := p) (a := p) (by rw [wy_self]; exact hpos)
    rw [this, wy_self]
  refine ⟨F, ⟨h.len, hn, hF, hn, bh_lt hn, hfree, hfull, by rw [wy_self, hb]; omega, by rw [hb]; omega, fun j x _ hj => h.path j x hj, fun j x _ _ h1 h2 => ?_, fun i j x y _ _ hi hj => h.one i j x y hi hj, ?_, h.home⟩, ?_⟩
  · rw [wy_self] at h1
    rw [hb] at h2
    omega
  · intro x
    rw [dr_mem, h.mem]
    constructor
    · rintro ⟨⟨j, hj⟩, hne⟩
      exact ⟨j, fun e => by rw [e, hp] at hj; cases hj; exact hne rfl, hj⟩
    · rintro ⟨j, hj, hx⟩
      exact ⟨⟨j, hx⟩, fun e => hj (h.one j p x _ hx hp e)⟩
  · have h1 : ¬ wy n (hs k) F ≤ wy n (hs k) p := fun hle => by
      rcases Nat.lt_or_ge (wy n (hs k) F) (wy n (hs k) p) with hlt | hge
      · obtain ⟨x, hx, _⟩ := f.pre F hF hlt
        rw [hfree] at hx; cases hx
      · exact hpF (wy_inj (h.home k) hn hF (by omega))
    have hh := h.home k
    clear hfull hfree hp hpos hb h f
    unfold wy at *
    repeat' split
    all_goals (repeat' split at h1)
    all_goals omega
theorem TO.move {g0 F g a : Nat} (h : TO hs n S M g0 F g a) {x : Nat × Int} (hx : sl S a = some x) (hw : wy n g a ≤ wy n (hs x.1) a) : TO hs n (S.set g (some x)) M g0 F a (bh n a) := by
  have hgn : g < S.length := by rw [h.len]; exact h.gn
  have hset := fun (j : Nat) => sl_set (S := S) (i := g) (some x) j hgn
  have hag : a ≠ g := fun e => by have := h.ga; rw [e] at this; omega
  have haF : a ≠ F := fun e => by have := h.free; rw [← e, hx] at this; cases this
  have hlt : wy n g0 a < wy n g0 F := by
    have h1 := h.aF
    have : wy n g0 a ≠ wy n g0 F := fun e => haF (wy_inj h.g0n h.an h.Fn e)
    omega
  have hgF : F ≠ g := fun e => by have := h.ga; rw [← e] at this; omega
  have hb := wy_bh h.g0n h.an h.Fn hlt
  have hsome : ∀ i, (sl S i).isSome = true → (sl (S.set g (some x)) i).isSome = true := fun i hi => by
    rw [hset]; split
    · rfl
    · exact hi
  refine ⟨by rw [List.length_set]; exact h.len, h.g0n, h.Fn, h.an, bh_lt h.an, by rw [hset, if_neg hgF]; exact h.free, fun i hi hlt => hsome i (h.full i hi hlt), by omega, by omega, ?_, fun j y _ _ h1 h2 => by omega, ?_, ?_, h.home⟩
  · intro j y hja hj i hi hlti
    rw [hset] at hj
    by_cases e : j = g
    · rw [if_pos e] at hj
      cases hj
      apply hsome
      refine h.path a x hag hx i hi ?_
      have h1 := h.home x.1
      have h2 := h.gn
      have h3 := h.an
      subst e
      clear hset hsome h hx hlt hb hgn hag haF hgF hja
      unfold wy at *
      repeat' split
      all_goals (repeat' split at hlti)
      all_goals (repeat' split at hw)
      all_goals omega
    · rw [if_neg e] at hj
      exact hsome i (h.path j y e hj i hi hlti)
  · intro i j y z hi hj hy hz hyz
    rw [hset] at hy hz
    by_cases e : i = g <;> by_cases e2 : j = g
    · rw [e, e2]
    · rw [if_pos e] at hy; rw [if_neg e2] at hz; cases hy
      exact absurd (h.one a j x z hag e2 hx hz hyz) (fun e => hj e.symm)
    · rw [if_neg e] at hy; rw [if_pos e2] at hz; cases hz
      exact absurd (h.one i a y x e hag hy hx hyz) hi
    · rw [if_neg e] at hy; rw [if_neg e2] at hz; exact h.one i j y z e e2 hy hz hyz
  · intro y
    rw [h.mem]
    constructor
    · rintro ⟨j, hj, hy⟩
      by_cases e : j = a
      · rw [e, hx] at hy; cases hy
        exact ⟨g, hag.symm, by rw [hset, if_pos rfl]⟩
      · exact ⟨j, e, by rw [hset, if_neg hj]; exact hy⟩
    · rintro ⟨j, hj, hy⟩
      rw [hset] at hy
      by_cases e : j = g
      · rw [if_pos e] at hy; cases hy; exact ⟨a, hag, hx⟩
      · rw [if_neg e] at hy; exact ⟨j, e, hy⟩
theorem TO.lt {g0 F g a : Nat} (h : TO hs n S M g0 F g a) {x : Nat × Int} (hx : sl S a = some x) : wy n g0 a < wy n g0 F := by
  have haF : a ≠ F := fun e => by have := h.free; rw [← e, hx] at this; cases this
  have h1 := h.aF
  have : wy n g0 a ≠ wy n g0 F := fun e => haF (wy_inj h.g0n h.an h.Fn e)
  omega
end
/-- How many slots there are: the least power of two that is not below twice that. -/
structure Sz (m n : Nat) : Prop where
  le : 2 * m ≤ n
  pow : ∃ j, n = 2 ^ j ∧ ∀ i, 2 * m ≤ 2 ^ i → j ≤ i
theorem Sz.most {m n : Nat} (h : Sz m n) (hm : m ≤ 4096) : n ≤ 8192 := by
  obtain ⟨i, hi, hi2⟩ := h.pow
  have := hi2 13 (by omega)
  rw [hi]
  exact Nat.pow_le_pow_right (by decide) this
end Go.Proofs.YtjfhilignbeboabGreatDoor.Ix
/- Numbers of 64 bits mixed, and back: plain lemmas, without the program. -/
namespace Go.Proofs.YtjfhilignbeboabGreatDoor.Mx

def fold (k x : Nat) : Nat := x ^^^ x / 2 ^ k
theorem lt64 {n : Nat} : n < 18446744073709551616 ↔ n < 2 ^ 64 := by rw [show (2 : Nat) ^ 64 = 18446744073709551616 by decide]
theorem xor_lt {a b : Nat} (ha : a < 18446744073709551616) (hb : b < 18446744073709551616) : a ^^^ b < 18446744073709551616 := lt64.2 (Nat.xor_lt_two_pow (lt64.1 ha) (lt64.1 hb))
theorem div_lt {x : Nat} (k : Nat) (h : x < 18446744073709551616) : x / 2 ^ k < 18446744073709551616 := Nat.lt_of_le_of_lt (Nat.div_le_self _ _) h
theorem fold_lt (k : Nat) {x : Nat} (h : x < 18446744073709551616) : fold k x < 18446744073709551616 := xor_lt h (div_lt k h)
/-- A product of numbers of 64 bits. -/
def mul (a b : Nat) : Nat := a * b % 18446744073709551616
def M1 : Nat := 13787848793156543929
def M2 : Nat := 10723151780598845931
def G : Nat := 11400714819323198485
def hash (x : Nat) : Nat := fold 31 (fold 27 (fold 30 x * M1 % 18446744073709551616) * M2 % 18446744073709551616)
theorem m64 (n : Nat) : n % 18446744073709551616 < 18446744073709551616 := Nat.mod_lt _ (by decide)
theorem mul_lt (a b : Nat) : mul a b < 18446744073709551616 := m64 _
theorem hash_eq (x : Nat) : hash x = fold 31 (mul (fold 27 (mul (fold 30 x) 13787848793156543929)) 10723151780598845931) := rfl
theorem hash_lt (x : Nat) : hash x < 18446744073709551616 := fold_lt 31 (m64 _)
/-- Words: the i-th from 1 on. -/
def seedAt (s i : Nat) : Nat := (s + i * G) % 18446744073709551616
def word (s i : Nat) : Nat := hash (seedAt s i)
def words (s n : Nat) : List Nat := (List.range n).map fun i => word s (i + 1)
theorem word_lt (s i : Nat) : word s i < 18446744073709551616 := hash_lt _
end Go.Proofs.YtjfhilignbeboabGreatDoor.Mx
/- Worlds, rows and bits: plain lemmas, without the program. -/
namespace Go.Proofs.YtjfhilignbeboabGreatDoor.Ix
open Go.RowKit

theorem wrap_u64 (n : Int) : IntKind.u64.wrap n = n % 18446744073709551616 := by simp [IntKind.wrap, IntKind.bits, IntKind.signed]
theorem wrap_nat (n : Nat) : IntKind.u64.wrap (n : Int) = ((n % 18446744073709551616 : Nat) : Int) := by rw [wrap_u64]; omega
theorem ofInt_nat (a : Nat) (ha : a < 18446744073709551616) : (BitVec.ofInt 64 (a : Int)).toNat = a := by
  rw [BitVec.ofInt_natCast, BitVec.toNat_ofNat]; exact Nat.mod_eq_of_lt (by omega)
theorem bits_xor_u64 (a b : Nat) (ha : a < 18446744073709551616) (hb : b < 18446744073709551616) : bits .xor .u64 (a : Int) (b : Int) = ((a ^^^ b : Nat) : Int) := by
  have hx := Mx.xor_lt ha hb
  show IntKind.u64.wrap ((BitVec.ofInt 64 (a : Int) ^^^ BitVec.ofInt 64 (b : Int)).toNat : Int) = _
  rw [BitVec.toNat_xor, ofInt_nat a ha, ofInt_nat b hb, wrap_u64]
  omega
theorem shr_nat (x k : Nat) : (x : Int) / 2 ^ k = ((x / 2 ^ k : Nat) : Int) := by simp
end Go.Proofs.YtjfhilignbeboabGreatDoor.Ix
/- The contracts of mix's Hash; worlds that keep blocks. -/
namespace Go.Proofs.YtjfhilignbeboabGreatDoor.Ix
open Go.RowKit
attribute [local go_sem ↓] Go.wp_at_zero Go.wp_at_succ

set_option maxHeartbeats 400000 in
theorem fold_any (x k : Nat) (hx : x < 18446744073709551616) (hk : k < 64) (w : World) : Calls Tryz.prog 144 #[.int .u64 (x : Int), .int .u64 (k : Int)] w fun e w' => e = .returned (.int .u64 ((Mx.fold k x : Nat) : Int)) ∧ w' = w := by
  have h1 := bits_xor_u64 x (x / 2 ^ k) hx (Mx.div_lt k hx)
  rw [← shr_nat] at h1
  have h2 : Mx.fold k x = x ^^^ x / 2 ^ k := rfl
  rw [← h2] at h1
  clear h2
  generalize Mx.fold k x = y at *
  go_enter Tryz.func144, Tryz.ntmps144
  go_wp2
  go_ret
  exact ⟨rfl, rfl⟩
theorem mul_wrap (a b : Nat) : IntKind.u64.wrap ((a : Int) * (b : Int)) = ((Mx.mul a b : Nat) : Int) := by
  rw [← Int.natCast_mul, wrap_nat]; rfl
theorem hash_any (x : Nat) (hx : x < 18446744073709551616) (w : World) : Calls Tryz.prog 135 #[.int .u64 (x : Int)] w fun e w' => e = .returned (.int .u64 ((Mx.hash x : Nat) : Int)) ∧ w' = w := by
  rw [Mx.hash_eq]
  have C1 := hide (fold_any x 30 hx (by decide) w)
  generalize Mx.fold 30 x = a at *
  have m1 : IntKind.u64.wrap ((a : Int) * 13787848793156543929) = ((Mx.mul a 13787848793156543929 : Nat) : Int) := mul_wrap a 13787848793156543929
  have l1 := Mx.mul_lt a 13787848793156543929
  generalize Mx.mul a 13787848793156543929 = b at *
  have C2 := hide (fold_any b 27 l1 (by decide) w)
  generalize Mx.fold 27 b = c at *
  have m2 : IntKind.u64.wrap ((c : Int) * 10723151780598845931) = ((Mx.mul c 10723151780598845931 : Nat) : Int) := mul_wrap c 10723151780598845931
  have l2 := Mx.mul_lt c 10723151780598845931
  generalize Mx.mul c 10723151780598845931 = d at *
  have C3 := hide (fold_any d 31 l2 (by decide) w)
  generalize Mx.fold 31 d = f at *
  go_enter Tryz.func135, Tryz.ntmps135
  go_wp2_with fail
  refine C1.out.mono ?_
  rintro e w' ⟨rfl, rfl⟩
  go_wp2_with fail
  refine C2.out.mono ?_
  rintro e w' ⟨rfl, rfl⟩
  go_wp2_with fail
  refine C3.out.mono ?_
  rintro e w' ⟨rfl, rfl⟩
  go_wp2
  go_ret
  exact ⟨rfl, rfl⟩
theorem own_row {w : World} {B0 : Nat} {e : TypeId} {size : Nat} {v : Value} {n : Nat} {xs : List Value} (h : w.ownsRow B0 e size v n xs) (hn : 0 < n) : ∃ g cap, ∃ cur : List Value, v = .slice (some ⟨g, 0, none⟩) n cap ∧ B0 ≤ g ∧ w.heap[g]? = some (.cells cur.toArray e (0, 0)) ∧ n ≤ cap ∧ cap ≤ maxLen ∧ cur.length = cap * size ∧ cur.take (n * size) = xs := by
  rcases h.2 with ⟨_, h0⟩ | ⟨g, cap, cur, hv, hb, hg, hn, hm, hs, ht⟩
  · omega
  · exact ⟨g, cap, cur.toList, hv, hb, by simpa using hg, hn, hm, by simpa using hs, ht⟩
theorem own_cell {w : World} {g : Nat} {cur xs : List Value} {e : TypeId} {n : Nat} (hg : w.heap[g]? = some (.cells cur.toArray e (0, 0))) (ht : cur.take n = xs) {j : Nat} {u : Value} (h : xs[j]? = some u) : w.cell? ⟨g, j, none⟩ = some u := by
  rw [cell_row hg]
  rw [← ht, List.getElem?_take] at h
  split at h
  · exact h
  · cases h
theorem own_form {w : World} {B0 : Nat} {e : TypeId} {sz n : Nat} {v : Value} {xs : List Value} (h : w.ownsRow B0 e sz v n xs) : ∃ vo cap, v = .slice vo n cap ∧ n ≤ cap := by
  rcases h.2 with ⟨rfl, rfl⟩ | ⟨g, cap, cur, hv, hb, hg, hn, _⟩
  · exact ⟨none, 0, rfl, Nat.le_refl _⟩
  · exact ⟨_, cap, hv, hn⟩
theorem own_block {w : World} {B0 : Nat} {e : TypeId} {size : Nat} {v : Value} {n : Nat} {xs : List Value} (h : w.ownsRow B0 e size v n xs) {g : Nat} (hg : v.ownBlock = some g) : B0 ≤ g ∧ ∃ cur : Array Value, w.heap[g]? = some (.cells cur e (0, 0)) := by
  rcases h.2 with ⟨h1, h0⟩ | ⟨q, cap, cur, hv, hb, hq, _⟩
  · rw [h1] at hg; cases hg
  · rw [hv] at hg; cases hg; exact ⟨hb, cur, hq⟩
theorem row_keep {w w' : World} {B0 : Nat} {e : TypeId} {size : Nat} {v : Value} {n : Nat} {xs : List Value} (h : w.ownsRow B0 e size v n xs) (hb : ∀ g, v.ownBlock = some g → w'.heap[g]? = w.heap[g]?) : w'.ownsRow B0 e size v n xs := by
  obtain ⟨h1, h⟩ := h
  refine ⟨h1, ?_⟩
  rcases h with h | ⟨g, cap, cur, rfl, h2, h3, h4⟩
  · exact Or.inl h
  · exact Or.inr ⟨g, cap, cur, rfl, h2, (hb g rfl).trans h3, h4⟩
end Go.Proofs.YtjfhilignbeboabGreatDoor.Ix
