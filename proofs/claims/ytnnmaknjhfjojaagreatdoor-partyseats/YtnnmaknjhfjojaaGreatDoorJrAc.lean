/- Texts joined: BtBase, BtSet, BtHas, BtCount, BtSeek. -/
import Derived.WalkKit
import Derived.WalkSpells
import Derived.WalkLawsBesides
import Derived.Laws.CopyOwn
import Derived.Laws.Bits64b
import Derived.Laws.Bits64
import Derived.Lib.TrailingZeros
import Derived.Deep.MidRow
import Derived.Test.YtnnmaknjhfjojaaGreatDoorJrAb
import Derived.Test.YtnnmaknjhfjojaaGreatDoorChecked
import Derived.Deep.LoopGhost
import Derived.Deep.RegionHeld3
import Derived.Deep.DrawnRows
import Derived.Deep.QuietTactic
import Derived.Deep.RegionWith
import Derived.BigQuiet
import Derived.Deep.OwnRows
/- A set of package bits in memory, and which steps keep it: plain lemmas, without the program. -/
namespace Go.Proofs.YtnnmaknjhfjojaaGreatDoor.Bt
open Go.RowKit

theorem hide {p : Prop} (h : p) : Hid p := h

theorem grown_then {a b c : World} {row row' : Option Nat} (h : a.grownBy b row) (k : b.grownBy c row') (hr : ∀ j, row' = some j → a.heap.size ≤ j ∨ row = some j) : a.grownBy c row :=
  ⟨k.os.trans h.os, k.tape.trans h.tape, k.output.trans h.output, Nat.le_trans h.size k.size, fun i hi hne =>
    (k.block i (Nat.lt_of_lt_of_le hi h.size) (fun e => by
      rcases hr i e.symm with h1 | h1
      · omega
      · exact hne h1.symm)).trans (h.block i hi hne)⟩
theorem grown_trans {a b c : World} {row : Option Nat} (h : a.grownBy b row) (k : b.grownBy c row) : a.grownBy c row := grown_then h k (fun _ e => Or.inr e)
theorem grown_refl (w : World) (row : Option Nat) : w.grownBy w row := ⟨rfl, rfl, rfl, Nat.le_refl _, fun _ _ _ => rfl⟩
theorem grown_drew (w : World) (row : Option Nat) : w.grownBy w.drew row := ⟨rfl, rfl, rfl, Nat.le_refl _, fun _ _ _ => rfl⟩
theorem grown_none {a b : World} (h : a.grownBy b none) (row : Option Nat) : a.grownBy b row := grown_then (grown_refl a row) h (fun _ e => by cases e)
theorem grown_setCell (w : World) (g j : Nat) (u : Value) : w.grownBy (w.setCell ⟨g, j, none⟩ u) (some g) :=
  ⟨rfl, rfl, rfl, by simp [World.setCell], fun k _ hne => Below.heap_setCell _ _ _ _ (by intro e; exact hne (by simp [e]))⟩
theorem grown_below {a b : World} (h : a.grownBy b none) : Below a.heap.size a b := ⟨h.os, h.tape, h.output, h.size, fun k hk => h.block k hk (fun e => by cases e)⟩
theorem below_grown {a b : World} (h : Below a.heap.size a b) : a.grownBy b none := ⟨h.os, h.tape, h.output, h.size, fun k hk _ => h.block k hk⟩

theorem cell_row {w : World} {g : Nat} {l : List Value} {t : TypeId} {fr : Nat × Nat} (h : w.heap[g]? = some (.cells l.toArray t fr)) (j : Nat) : w.cell? ⟨g, j, none⟩ = l[j]? := by
  rw [cell_of_row w g j l.toArray t fr h]; simp
theorem free_row {w : World} {g : Nat} {c : Array Value} {t : TypeId} (h : w.heap[g]? = some (.cells c t (0, 0))) (j : Nat) : w.frozen? ⟨g, j, none⟩ = false := by
  simp [World.frozen?, h]
theorem row_setCell {w : World} {g : Nat} {l : List Value} {t : TypeId} {fr : Nat × Nat} (h : w.heap[g]? = some (.cells l.toArray t fr)) (j : Nat) (u : Value) : (w.setCell ⟨g, j, none⟩ u).heap[g]? = some (.cells (l.set j u).toArray t fr) := by
  simp [World.setCell, Array.getElem?_modify, h]
theorem row_lt {w : World} {g : Nat} {o : Obj} (h : w.heap[g]? = some o) : g < w.heap.size := (Array.getElem?_eq_some_iff.1 h).1

/-- The words as they lie in cells. -/
def wvals (W : List Nat) : List Value := W.map (fun (x : Nat) => Value.int .u64 (x : Int))
/-- Is the number i among those that the words tell of? -/
def mem (W : List Nat) (i : Nat) : Bool := (W.getD (i / 64) 0).testBit (i % 64)
/-- The words W tell of the set L (of each number below the bound whether it is in it). -/
structure Rep (W : List Nat) (L : List Bool) : Prop where
  len : W.length = (L.length + 63) / 64
  word : ∀ x ∈ W, x < 18446744073709551616
  is : ∀ i, mem W i = L.getD i false
  small : L.length ≤ 65536

/-- The set L lies at block b, its words in block g. -/
def SetAt (w : World) (b g : Nat) (L : List Bool) : Prop :=
  ∃ (W : List Nat) (cap : Nat) (cur : List Value), w.heap[b]? = some (.cells #[.bool true, .int .i64 (L.length : Int), .slice (some ⟨g, 0, none⟩) W.length cap] 62 (0, 0)) ∧
    w.heap[g]? = some (.cells cur.toArray 59 (0, 0)) ∧ W.length ≤ cap ∧ cap ≤ maxLen ∧ cur.length = cap ∧ cur.take W.length = wvals W ∧ Rep W L ∧ 0 < g

theorem SetAt.kept {w w' : World} {b g : Nat} {L : List Bool} {row : Option Nat} (h : SetAt w b g L) (hg : w.grownBy w' row) (hb : row ≠ some b) (hr : row ≠ some g) : SetAt w' b g L := by
  obtain ⟨W, cap, cur, h1, h2, h3⟩ := h
  exact ⟨W, cap, cur, (hg.block b (row_lt h1) (fun e => hb e.symm)).trans h1, (hg.block g (row_lt h2) (fun e => hr e.symm)).trans h2, h3⟩
theorem SetAt.ne {w : World} {b g b' g' : Nat} {L L' : List Bool} (h : SetAt w b g L) (h' : SetAt w b' g' L') : b ≠ g' := by
  rintro rfl
  obtain ⟨W, cap, cur, h1, h2, h3⟩ := h
  obtain ⟨W', cap', cur', h1', h2', h3'⟩ := h'
  rw [h1] at h2'; simp at h2'
theorem SetAt.lt {w : World} {b g : Nat} {L : List Bool} (h : SetAt w b g L) : b < w.heap.size ∧ g < w.heap.size := by
  obtain ⟨W, cap, cur, h1, h2, h3⟩ := h; exact ⟨row_lt h1, row_lt h2⟩
theorem SetAt.made {w : World} {b g : Nat} {L : List Bool} (h : SetAt w b g L) : w.cell? ⟨b, 0, none⟩ = some (.bool true) := by
  obtain ⟨W, cap, cur, h1, h2, h3⟩ := h; simp [World.cell?, h1]
theorem SetAt.bound {w : World} {b g : Nat} {L : List Bool} (h : SetAt w b g L) : w.cell? ⟨b, 1, none⟩ = some (.int .i64 (L.length : Int)) := by
  obtain ⟨W, cap, cur, h1, h2, h3⟩ := h; simp [World.cell?, h1]
theorem SetAt.small {w : World} {b g : Nat} {L : List Bool} (h : SetAt w b g L) : L.length ≤ 65536 := by
  obtain ⟨W, cap, cur, h1, h2, _, _, _, _, h3, _⟩ := h; exact h3.small
/-- The words: where they lie, and each of them. -/
theorem SetAt.words {w : World} {b g : Nat} {L : List Bool} (h : SetAt w b g L) : ∃ (W : List Nat) (cap : Nat), w.cell? ⟨b, 2, none⟩ = some (.slice (some ⟨g, 0, none⟩) W.length cap) ∧ W.length ≤ cap ∧ cap ≤ maxLen ∧ Rep W L ∧
    ∀ (j x : Nat), W[j]? = some x → w.cell? ⟨g, j, none⟩ = some (.int .u64 (x : Int)) := by
  obtain ⟨W, cap, cur, h1, h2, h3, h3', h4, h5, h6, _⟩ := h
  refine ⟨W, cap, by simp [World.cell?, h1], h3, h3', h6, ?_⟩
  intro j x hx
  have hj : j < W.length := (List.getElem?_eq_some_iff.1 hx).1
  rw [cell_row h2, ← List.getElem?_take_of_lt hj, h5, wvals, List.getElem?_map, hx]; rfl

theorem mem_set (W : List Nat) (i k x : Nat) (hi : i / 64 < W.length) (hx : ∀ b, b < 64 → x.testBit b = if b = i % 64 then (k == 1) else (W.getD (i / 64) 0).testBit b) (j : Nat) :
    mem (W.set (i / 64) x) j = if j = i then (k == 1) else mem W j := by
  unfold mem
  by_cases h : j / 64 = i / 64
  · rw [h]
    simp only [List.getD_eq_getElem?_getD, List.getElem?_set, hi, if_true, Option.getD_some]
    rw [hx _ (Nat.mod_lt _ (by decide))]
    by_cases hj : j = i
    · subst hj; simp
    · rw [if_neg hj, if_neg (by omega)]
      simp [List.getD_eq_getElem?_getD]
  · rw [if_neg (by intro e; exact h (by rw [e]))]
    simp only [List.getD_eq_getElem?_getD, List.getElem?_set]
    rw [if_neg (fun e => h e.symm)]

theorem getD_set (L : List Bool) (i : Nat) (v : Bool) (hi : i < L.length) (j : Nat) : (L.set i v).getD j false = if j = i then v else L.getD j false := by
  simp only [List.getD_eq_getElem?_getD, List.getElem?_set]
  by_cases h : i = j
  · subst h; simp [hi]
  · rw [if_neg h, if_neg (fun e => h e.symm)]

theorem Rep.word_lt {W : List Nat} {L : List Bool} (h : Rep W L) {i : Nat} (hi : i < L.length) : i / 64 < W.length := by rw [h.len]; omega

theorem Rep.getD_lt {W : List Nat} {L : List Bool} (h : Rep W L) (j : Nat) : W.getD j 0 < 18446744073709551616 := by
  by_cases hj : j < W.length
  · rw [List.getD_eq_getElem?_getD, List.getElem?_eq_getElem hj]; exact h.word _ (List.getElem_mem hj)
  · rw [List.getD_eq_getElem?_getD, List.getElem?_eq_none (by omega)]; decide

/-- A number put in, or taken out: one word is turned. -/
theorem Rep.turned {W : List Nat} {L : List Bool} (h : Rep W L) {i : Nat} (hi : i < L.length) (x : Nat) (v : Bool) (hlt : x < 18446744073709551616)
    (hx : ∀ b, b < 64 → x.testBit b = if b = i % 64 then v else (W.getD (i / 64) 0).testBit b) : Rep (W.set (i / 64) x) (L.set i v) := by
  refine ⟨by simp [h.len], ?_, ?_, by simpa using h.small⟩
  · intro y hy
    rcases List.mem_or_eq_of_mem_set hy with hy | rfl
    · exact h.word y hy
    · exact hlt
  · intro j
    rw [getD_set L i v hi, mem_set W i (if v then 1 else 0) x (h.word_lt hi) (by intro b hb; rw [hx b hb]; cases v <;> rfl), h.is]
    cases v <;> rfl

theorem testBit_or_bit (x i b : Nat) : (x ||| 2 ^ i).testBit b = if b = i then true else x.testBit b := by
  rw [Nat.testBit_or, Nat.testBit_two_pow]
  by_cases h : b = i
  · subst h; simp
  · rw [if_neg h]; simp; intro e; exact absurd e.symm h

/-- Behind a store of a word. -/
theorem SetAt.store {w : World} {b g : Nat} {L : List Bool} (h : SetAt w b g L) {i : Nat} (hi : i < L.length) (v : Bool) : ∃ (W : List Nat) (cap : Nat), w.cell? ⟨b, 2, none⟩ = some (.slice (some ⟨g, 0, none⟩) W.length cap) ∧ i / 64 < W.length ∧ W.length ≤ cap ∧ cap ≤ maxLen ∧
    w.cell? ⟨g, i / 64, none⟩ = some (.int .u64 ((W.getD (i / 64) 0 : Nat) : Int)) ∧ W.getD (i / 64) 0 < 18446744073709551616 ∧ w.frozen? ⟨g, i / 64, none⟩ = false ∧
    ∀ x : Nat, x < 18446744073709551616 → (∀ c, c < 64 → x.testBit c = if c = i % 64 then v else (W.getD (i / 64) 0).testBit c) → SetAt (w.setCell ⟨g, i / 64, none⟩ (.int .u64 (x : Int))) b g (L.set i v) := by
  obtain ⟨W, cap, cur, h1, h2, h3, h3', h4, h5, h6, h7⟩ := h
  have hw := h6.word_lt hi
  have hne : b ≠ g := by rintro rfl; rw [h1] at h2; simp at h2
  refine ⟨W, cap, by simp [World.cell?, h1], hw, h3, h3', ?_, h6.getD_lt _, free_row h2 _, ?_⟩
  · rw [cell_row h2, ← List.getElem?_take_of_lt hw, h5, wvals, List.getElem?_map, List.getElem?_eq_getElem hw]
    simp [List.getD_eq_getElem?_getD, hw]
  · intro x hx hb
    refine ⟨W.set (i / 64) x, cap, cur.set (i / 64) (.int .u64 (x : Int)), ?_, row_setCell h2 _ _, by simpa using h3, h3', by simpa using h4, ?_, h6.turned hi x v hx hb, h7⟩
    · rw [Below.heap_setCell _ _ _ _ (by simpa using hne), h1]; simp
    · rw [List.length_set, List.take_set, h5, wvals, wvals, List.map_set]

/-- A set whose cells have just been laid. -/
theorem SetAt.fresh {w : World} {b g cap : Nat} {L : List Bool} {W : List Nat} {cur : List Value} (h1 : w.heap[b]? = some (.cells #[.bool true, .int .i64 (L.length : Int), .slice (some ⟨g, 0, none⟩) W.length cap] 62 (0, 0)))
    (h2 : w.heap[g]? = some (.cells cur.toArray 59 (0, 0))) (h3 : W.length ≤ cap) (h3' : cap ≤ maxLen) (h4 : cur.length = cap) (h5 : cur.take W.length = wvals W) (h6 : Rep W L) (h7 : 0 < g) : SetAt w b g L :=
  ⟨W, cap, cur, h1, h2, h3, h3', h4, h5, h6, h7⟩

theorem rep_none (n : Nat) (hn : n ≤ 65536) : Rep (List.replicate ((n + 63) / 64) 0) (List.replicate n false) := by
  refine ⟨by simp, ?_, ?_, by simpa using hn⟩
  · intro x hx; rw [List.eq_of_mem_replicate hx]; decide
  · intro i
    unfold mem
    have e : (List.replicate ((n + 63) / 64) 0).getD (i / 64) 0 = 0 := by
      rw [List.getD_eq_getElem?_getD, List.getElem?_replicate]; split <;> rfl
    have e2 : (List.replicate n false).getD i false = false := by
      rw [List.getD_eq_getElem?_getD, List.getElem?_replicate]; split <;> rfl
    rw [e, e2, Nat.zero_testBit]

/-- The library's table lies in its variable. -/
def Tab (w : World) : Prop := ∀ j, j < 64 → w.cell? ⟨0, j, none⟩ = some (.int .u8 ((Lib.deBruijn64tab.getD j 0 : Nat) : Int))
theorem Tab.kept {w w' : World} {row : Option Nat} (h : Tab w) (hg : w.grownBy w' row) (hr : row ≠ some 0) : Tab w' := fun j hj => hg.cell (h j hj) (fun e => hr e.symm)
theorem Tab.below {w w' : World} {n : Nat} (h : Tab w) (hB : Below n w w') (hn : 0 < n) : Tab w' := fun j hj => (World.cell?_of_block (hB.block 0 hn)).trans (h j hj)
theorem Tab.lt {w : World} (h : Tab w) : 0 < w.heap.size := by
  have := h 0 (by decide)
  unfold World.cell? at this
  cases hc : w.heap[0]? with
  | none => simp [hc] at this
  | some o => exact row_lt hc

end Go.Proofs.YtnnmaknjhfjojaaGreatDoor.Bt
/- The contracts of a set's small calls: isNone, may, bit, size, New, Put, Drop, Has, Bound. -/
namespace Go.Proofs.YtnnmaknjhfjojaaGreatDoor.Bt
open Go.RowKit
attribute [local go_sem ↓] Go.wp_at_zero Go.wp_at_succ

set_option maxHeartbeats 400000 in
theorem isNone_nil (w : World) : Calls Tryz.prog 24 #[.pointer none] w fun e w' => e = .returned (.bool true) ∧ w' = w := by
  go_enter Tryz.func24, Tryz.ntmps24
  go_wp2
  go_ret
  exact ⟨rfl, rfl⟩
set_option maxHeartbeats 400000 in
theorem isNone_at (b : Nat) (m : Bool) (w : World) (h : w.cell? ⟨b, 0, none⟩ = some (.bool m)) : Calls Tryz.prog 24 #[.pointer (some ⟨b, 0, none⟩)] w fun e w' => e = .returned (.bool (!m)) ∧ w' = w := by
  go_enter Tryz.func24, Tryz.ntmps24
  go_wp2
  go_ret
  exact ⟨rfl, rfl⟩

/-- What may answers. -/
def mayF (n : Nat) (i : Int) : Int := if 0 ≤ i ∧ i < (n : Int) then 0 else 2

set_option maxHeartbeats 400000 in
theorem may_none (p : Option Addr) (i : Int) (w : World) (h : p = none ∨ ∃ b, p = some ⟨b, 0, none⟩ ∧ w.cell? ⟨b, 0, none⟩ = some (.bool false)) :
    Calls Tryz.prog 42 #[.pointer p, .int .i64 i] w fun e w' => e = .returned (.int .i64 1) ∧ w' = w := by
  go_enter Tryz.func42, Tryz.ntmps42
  go_wp2_with fail
  have hc : Calls Tryz.prog 24 #[.pointer p] w fun e w' => e = .returned (.bool true) ∧ w' = w := by
    rcases h with rfl | ⟨b, rfl, hb⟩
    · exact isNone_nil w
    · exact isNone_at b false w hb
  refine hc.mono ?_
  rintro e w' ⟨rfl, rfl⟩
  go_wp2
  go_ret
  exact ⟨rfl, rfl⟩

set_option maxHeartbeats 400000 in
theorem may_any (b g : Nat) (L : List Bool) (i : Int) (w : World) (h : SetAt w b g L) :
    Calls Tryz.prog 42 #[.pointer (some ⟨b, 0, none⟩), .int .i64 i] w fun e w' => e = .returned (.int .i64 (mayF L.length i)) ∧ w' = w := by
  have hb := h.bound
  have hm := h.made
  clear h
  generalize L.length = n at hb ⊢
  by_cases h1 : 0 ≤ i ∧ i < (n : Int)
  · have hF : mayF n i = 0 := by simp [mayF, h1]
    obtain ⟨h1, h2⟩ := h1
    rw [hF]; clear hF
    go_enter Tryz.func42, Tryz.ntmps42
    go_wp2_with fail
    refine (isNone_at b true w hm).mono ?_
    rintro e w' ⟨rfl, rfl⟩
    go_wp2
    go_ret
    exact ⟨rfl, rfl⟩
  · have hF : mayF n i = 2 := by simp only [mayF]; rw [if_neg h1]
    rw [hF]; clear hF
    go_enter Tryz.func42, Tryz.ntmps42
    go_wp2_with fail
    refine (isNone_at b true w hm).mono ?_
    rintro e w' ⟨rfl, rfl⟩
    by_cases h2 : i < 0
    · clear h1
      go_wp2
      go_ret
      exact ⟨rfl, rfl⟩
    · have h3 : (n : Int) ≤ i := by omega
      have h4 : 0 ≤ i := by omega
      clear h1 h2
      go_wp2
      go_ret
      exact ⟨rfl, rfl⟩

theorem shl_bit (k : Nat) (hk : k < 64) : IntKind.u64.wrap (2 ^ k) = ((2 ^ k : Nat) : Int) := by
  rw [IntKind.wrap_u64]
  have : (2 : Nat) ^ k < 18446744073709551616 := Nat.pow_lt_pow_right (a := 2) (by decide) (m := k) (n := 64) hk
  have e : ((2 : Int) ^ k) = ((2 ^ k : Nat) : Int) := by simp
  rw [e]; generalize (2 : Nat) ^ k = y at this ⊢; omega

set_option maxHeartbeats 400000 in
theorem bit_any (i : Nat) (w : World) (hi : i ≤ 65536) :
    Calls Tryz.prog 43 #[.int .i64 (i : Int)] w fun e w' => e = .returned (.int .u64 ((2 ^ (i % 64) : Nat) : Int)) ∧ w' = w := by
  go_enter Tryz.func43, Tryz.ntmps43
  go_wp2
  go_ret
  exact ⟨by rw [shl_bit _ (Nat.mod_lt _ (by decide))]; rfl, rfl⟩

set_option maxHeartbeats 400000 in
theorem size_any (b g : Nat) (L : List Bool) (w : World) (h : SetAt w b g L) :
    Calls Tryz.prog 25 #[.pointer (some ⟨b, 0, none⟩)] w fun e w' => e = .returned (.int .i64 (((L.length + 7) / 8 : Nat) : Int)) ∧ w' = w := by
  have hb := h.bound
  have hs := h.small
  clear h
  generalize L.length = n at hb hs ⊢
  go_enter Tryz.func25, Tryz.ntmps25
  go_wp2
  go_ret
  exact ⟨by rw [show (((n + 7) / 8 : Nat) : Int) = ((n : Int) + 7) / 8 by omega]; rfl, rfl⟩

theorem Tryz.info59 : (Tryz.prog.info? 59).map (fun i => (i.zero, i.size, i.bytes)) = some (some (.int .u64 0), 1, 8) := by kernel_rfl
theorem made_words (n : Nat) : madeCells #[.int .u64 0] n = (wvals (List.replicate n 0)).toArray := by
  apply Array.ext'
  rw [toList_madeCells_one]
  simp [wvals]
theorem make_words (n : Nat) (C : Int) (hC : C = (n : Int)) (h : n ≤ 35184372088832) (w : World) : (Instr.makeSlice 60 (.int .i64 C) (.int .i64 C)).run Tryz.prog w = .ok (.slice (some ⟨w.heap.size, 0, none⟩) n n) (w.alloc (.cells (wvals (List.replicate n 0)).toArray 59)) := by
  subst hC
  rw [run_make_row' (P := Tryz.prog) 60 59 (.int .u64 0) 8 Tryz.underlying60 Tryz.info59 rfl .i64 .i64 n (by omega) (by omega) w, made_words]

set_option maxHeartbeats 400000 in
theorem new_bad (n : Int) (w : World) (h : n < 0 ∨ 65536 < n) :
    Calls Tryz.prog 21 #[.int .i64 n] w fun e w' => e = .returned (.tuple #[.pointer none, .int .i64 2]) ∧ w' = w := by
  go_enter Tryz.func21, Tryz.ntmps21
  rcases h with h | h
  · go_wp2
    go_ret2
    exact ⟨rfl, rfl⟩
  · have h2 : 0 ≤ n := by omega
    go_wp2
    go_ret2
    exact ⟨rfl, rfl⟩

set_option maxHeartbeats 400000 in
theorem new_any (n : Nat) (w : World) (h : n ≤ 65536) (hw : 0 < w.heap.size) :
    Calls Tryz.prog 21 #[.int .i64 (n : Int)] w fun e w' => ∃ b g, e = .returned (.tuple #[.pointer (some ⟨b, 0, none⟩), .int .i64 0]) ∧ SetAt w' b g (List.replicate n false) ∧ w.heap.size ≤ b ∧ w.heap.size ≤ g ∧ w.grownBy w' none := by
  have hmk := make_words ((n + 63) / 64) (((n : Int) + 64 - 1) / 64) (by omega) (by omega)
  have h1 : (0 : Int) ≤ (n : Int) := by omega
  have h2 : (n : Int) ≤ 65536 := by omega
  go_enter Tryz.func21, Tryz.ntmps21
  go_wp2
  go_ret2
  refine ⟨w.heap.size + 1, w.heap.size, rfl, ?_, by omega, Nat.le_refl _, grown_trans (World.grownBy_alloc w _ _) (World.grownBy_alloc _ _ _)⟩
  have e1 := heap_alloc_new (w.alloc (.cells (wvals (List.replicate ((n + 63) / 64) 0)).toArray 59)) (Obj.cells #[.bool true, .int .i64 (n : Int), .slice (some ⟨w.heap.size, 0, none⟩) ((n + 63) / 64) ((n + 63) / 64)] 62)
  rw [World.size_alloc] at e1
  refine SetAt.fresh (W := List.replicate ((n + 63) / 64) 0) (cap := (n + 63) / 64) (cur := wvals (List.replicate ((n + 63) / 64) 0)) ?_ ?_ (by simp) (by unfold maxLen; omega) (by simp [wvals]) (by simp [wvals]) (rep_none n h) hw
  · simpa using e1
  · exact (Below.heap_alloc _ _ _ (by simp)).trans (heap_alloc_new w _)

theorem SetAt.drew {w : World} {b g : Nat} {L : List Bool} (h : SetAt w b g L) : SetAt w.drew b g L := h.kept (grown_drew w none) (by simp) (by simp)

theorem wrap_i64_small (q : Int) (h1 : -9223372036854775808 ≤ q) (h2 : q ≤ 9223372036854775807) : IntKind.i64.wrap q = q := by
  rw [IntKind.wrap_i64]; omega

set_option maxHeartbeats 1000000 in
theorem put_any (b g : Nat) (L : List Bool) (i : Nat) (w : World) (h : SetAt w b g L) (hi : i < L.length) :
    Calls Tryz.prog 22 #[.pointer (some ⟨b, 0, none⟩), .int .i64 (i : Int)] w fun e w' => e = .returned (.int .i64 0) ∧ SetAt w' b g (L.set i true) ∧ w.grownBy w' (some g) := by
  obtain ⟨W, cap, hc, hw, hcap, hcap2, hcell, hlt, hfr, hst⟩ := h.store hi true
  have hsm := h.small
  have hmay := may_any b g L (i : Int) w h
  rw [show mayF L.length (i : Int) = 0 by simp [mayF]; omega] at hmay
  have hq : IntKind.i64.wrap ((i : Int) / 64) = ((i / 64 : Nat) : Int) := by rw [wrap_i64_small _ (by omega) (by omega)]; omega
  have hbt := fun w => bit_any i w (by omega)
  generalize W.getD (i / 64) 0 = x at *
  generalize i / 64 = q at *
  have hor := bits_or_u64_nat x (2 ^ (i % 64)) hlt (Nat.pow_lt_pow_right (a := 2) (by decide) (m := i % 64) (n := 64) (by omega))
  have hx2 : x ||| 2 ^ (i % 64) < 18446744073709551616 := Nat.or_lt_two_pow (n := 64) hlt (Nat.pow_lt_pow_right (a := 2) (by decide) (m := i % 64) (n := 64) (by omega))
  have H := hide (hst (x ||| 2 ^ (i % 64)) hx2 (fun c _ => testBit_or_bit x (i % 64) c))
  have HM := hide hmay
  have HB := hide hbt
  clear hst hmay hbt
  generalize 2 ^ (i % 64) = m at *
  generalize x ||| m = y at *
  have hw1 : (0 : Int) ≤ (q : Int) := by omega
  have hw2 : (q : Int) < (W.length : Int) := by omega
  go_enter Tryz.func22, Tryz.ntmps22
  go_wp2_with fail
  refine HM.out.mono ?_
  rintro e w' ⟨rfl, rfl⟩
  go_wp2_with fail
  go_region_with (go_at_call 43; refine (HB.out _).mono ?_; rintro e w2 ⟨rfl, rfl⟩)
  all_goals
    go_wp2
    go_ret
    exact ⟨rfl, H.out.drew, grown_trans (grown_setCell _ _ _ _) (grown_drew _ _)⟩

def andNotN (x m : Nat) : Nat := (BitVec.ofNat 64 x &&& ~~~ BitVec.ofNat 64 m).toNat
theorem andNotN_lt (x m : Nat) : andNotN x m < 18446744073709551616 := BitVec.isLt _
theorem bits_andNot_u64_nat (a b : Nat) : bits .andNot .u64 (a : Int) (b : Int) = ((andNotN a b : Nat) : Int) := by
  show IntKind.u64.wrap ((BitVec.ofInt 64 (a : Int) &&& ~~~ BitVec.ofInt 64 (b : Int)).toNat : Int) = _
  rw [BitVec.ofInt_natCast, BitVec.ofInt_natCast, IntKind.wrap_u64]
  have := andNotN_lt a b
  unfold andNotN at this ⊢
  omega
theorem testBit_andNotN (x k c : Nat) (hc : c < 64) : (andNotN x (2 ^ k)).testBit c = if c = k then false else x.testBit c := by
  unfold andNotN
  rw [BitVec.testBit_toNat, BitVec.getLsbD_and, BitVec.getLsbD_not, BitVec.getLsbD_ofNat, BitVec.getLsbD_ofNat, Nat.testBit_two_pow]
  by_cases h : c = k
  · subst h; simp
  · rw [if_neg h]; simp [hc]; intro _ e; exact absurd e.symm h

/-- No set. -/
def NoSet (w : World) (p : Option Addr) : Prop := p = none ∨ ∃ b, p = some ⟨b, 0, none⟩ ∧ w.cell? ⟨b, 0, none⟩ = some (.bool false)
theorem NoSet.is {w : World} {p : Option Addr} (h : NoSet w p) : Calls Tryz.prog 24 #[.pointer p] w fun e w' => e = .returned (.bool true) ∧ w' = w := by
  rcases h with rfl | ⟨b, rfl, hb⟩
  · exact isNone_nil w
  · exact isNone_at b false w hb

set_option maxHeartbeats 400000 in
theorem put_bad (p : Option Addr) (i c : Int) (w : World) (hc : c ≠ 0) (hm : Calls Tryz.prog 42 #[.pointer p, .int .i64 i] w fun e w' => e = .returned (.int .i64 c) ∧ w' = w) :
    Calls Tryz.prog 22 #[.pointer p, .int .i64 i] w fun e w' => e = .returned (.int .i64 c) ∧ w' = w := by
  have HM := hide hm
  clear hm
  go_enter Tryz.func22, Tryz.ntmps22
  go_wp2_with fail
  refine HM.out.mono ?_
  rintro e w' ⟨rfl, rfl⟩
  go_wp2
  go_ret
  exact ⟨rfl, rfl⟩

end Go.Proofs.YtnnmaknjhfjojaaGreatDoor.Bt
/- The contracts of a set's Has, Bound, TrailingZeros64, OnesCount64, Count. -/
namespace Go.Proofs.YtnnmaknjhfjojaaGreatDoor.Bt
open Go.RowKit
attribute [local go_sem ↓] Go.wp_at_zero Go.wp_at_succ

theorem grown_drewN (w : World) (n : Nat) (row : Option Nat) : w.grownBy (w.drewN n) row := ⟨rfl, rfl, rfl, Nat.le_refl _, fun _ _ _ => rfl⟩
theorem SetAt.drewN {w : World} {b g : Nat} {L : List Bool} (h : SetAt w b g L) (n : Nat) : SetAt (w.drewN n) b g L := h.kept (grown_drewN w n none) (by simp) (by simp)
theorem NoSet.drewN {w : World} {p : Option Addr} (h : NoSet w p) (n : Nat) : NoSet (w.drewN n) p := h

theorem bit_ne (x k : Nat) : decide ((x &&& 2 ^ k : Nat) ≠ 0) = x.testBit k := by
  cases h : x.testBit k
  · have : x &&& 2 ^ k = 0 := by
      apply Nat.eq_of_testBit_eq
      intro i
      rw [Nat.testBit_and, Nat.testBit_two_pow, Nat.zero_testBit]
      by_cases e : k = i
      · subst e; simp [h]
      · simp [e]
    simp [this]
  · have : (x &&& 2 ^ k).testBit k = true := by rw [Nat.testBit_and, Nat.testBit_two_pow, h]; simp
    simp only [ne_eq, decide_eq_true_eq]
    intro e
    rw [e, Nat.zero_testBit] at this
    cases this
theorem ne_int (y : Nat) : decide (y ≠ 0) = ((y : Int) != 0) := by
  by_cases h : y = 0
  · subst h; rfl
  · have h2 : (y : Int) ≠ 0 := by omega
    simp [h]

set_option maxHeartbeats 400000 in
theorem bound_none (p : Option Addr) (w : World) (h : NoSet w p) : Calls Tryz.prog 36 #[.pointer p] w fun e w' => e = .returned (.int .i64 0) ∧ w' = w := by
  have H := hide h.is
  clear h
  go_enter Tryz.func36, Tryz.ntmps36
  go_wp2_with fail
  refine H.out.mono ?_
  rintro e w' ⟨rfl, rfl⟩
  go_wp2
  go_ret
  exact ⟨rfl, rfl⟩
set_option maxHeartbeats 400000 in
theorem bound_any (b g : Nat) (L : List Bool) (w : World) (h : SetAt w b g L) : Calls Tryz.prog 36 #[.pointer (some ⟨b, 0, none⟩)] w fun e w' => e = .returned (.int .i64 (L.length : Int)) ∧ w' = w := by
  have hb := h.bound
  have H := hide (isNone_at b true w h.made)
  clear h
  go_enter Tryz.func36, Tryz.ntmps36
  go_wp2_with fail
  refine H.out.mono ?_
  rintro e w' ⟨rfl, rfl⟩
  go_wp2
  go_ret
  exact ⟨rfl, rfl⟩

/-- math/bits.TrailingZeros64, of a word that is not nought. -/
theorem tz_key (x a : Nat) (hx : x < 18446744073709551616) (hx0 : x ≠ 0) (hlow : x &&& (18446744073709551616 - x) = a) :
    IntKind.u64.wrap (bits BinOp.and IntKind.u64 (x : Int) (IntKind.u64.wrap (-(x : Int))) * 285870213051353865) / 288230376151711744 = ((a * 285870213051353865 % 18446744073709551616 / 288230376151711744 : Nat) : Int) := by
  have e1 : IntKind.u64.wrap (-(x : Int)) = ((18446744073709551616 - x : Nat) : Int) := by rw [IntKind.wrap_u64]; omega
  rw [e1, bits_and_u64_nat x _ hx (by omega), hlow, IntKind.wrap_u64]
  omega

set_option maxHeartbeats 1000000 in
theorem tz_core (x k idx : Nat) (w : World) (hx0 : ((x : Int) == 0) = false)
    (key : IntKind.u64.wrap (bits BinOp.and IntKind.u64 (x : Int) (IntKind.u64.wrap (-(x : Int))) * 285870213051353865) / 288230376151711744 = (idx : Int))
    (hi : idx < 64) (hk : k < 64) (hcell : w.cell? ⟨0, idx, none⟩ = some (.int .u8 k)) :
    Calls Tryz.prog 100 #[.int .u64 x] w fun e w' => e = .returned (.int .i64 k) ∧ w' = w := by
  go_enter Tryz.func100, Tryz.ntmps100
  go_wp2_with (simp only [key])
  go_ret
  exact ⟨rfl, rfl⟩

theorem tz_any (x : Nat) (hx : x < 18446744073709551616) (hx0 : x ≠ 0) (w : World) (hT : Tab w) :
    Calls Tryz.prog 100 #[.int .u64 (x : Int)] w fun e w' => e = .returned (.int .i64 ((Lib.ctz 64 x : Nat) : Int)) ∧ w' = w := by
  obtain ⟨hlow, hk⟩ := Lib.lowest_bit 64 x hx0 hx
  obtain ⟨hi, htab⟩ := Lib.deBruijn64_at _ hk
  have hcell := hT _ hi
  rw [htab] at hcell
  exact tz_core x _ _ w (by simp; omega) (tz_key x _ hx hx0 hlow) hi hk hcell

theorem half_and (x m k : Nat) (hx : x < 18446744073709551616) (hm : m < 18446744073709551616) : bits .and .u64 ((x : Int) / (k : Int)) (m : Int) = ((x / k &&& m : Nat) : Int) := by
  have h : x / k < 18446744073709551616 := Nat.lt_of_le_of_lt (Nat.div_le_self _ _) hx
  rw [← bits_and_u64_nat (x / k) m h hm]
  simp
theorem wrap_nat (x : Nat) : IntKind.u64.wrap (x : Int) = ((x % 18446744073709551616 : Nat) : Int) := by rw [IntKind.wrap_u64]; omega
theorem wrap_fold (a k : Nat) : IntKind.u64.wrap ((a : Int) + (a : Int) / (k : Int)) = (((a + a / k) % 18446744073709551616 : Nat) : Int) := by
  rw [← wrap_nat]; simp
theorem two_ands (x m k : Nat) (hm : m < 9223372036854775808) : (x / k &&& m) + (x &&& m) < 18446744073709551616 := by
  have h1 : x / k &&& m ≤ m := Nat.and_le_right
  have h2 : x &&& m ≤ m := Nat.and_le_right
  omega
theorem and_127 (f : Nat) (hf : f < 9223372036854775808) : bits .and .i64 (f : Int) 127 = ((f % 128 : Nat) : Int) := by
  show IntKind.i64.wrap ((BitVec.ofInt 64 (f : Int) &&& BitVec.ofInt 64 (127 : Int)).toNat : Int) = _
  have e : (BitVec.ofInt 64 (f : Int) &&& BitVec.ofInt 64 (127 : Int)).toNat = f % 128 := by
    rw [BitVec.toNat_and, BitVec.ofInt_natCast, BitVec.toNat_ofNat, Nat.mod_eq_of_lt (by omega)]
    have := Nat.and_two_pow_sub_one_eq_mod f 7
    exact this
  rw [e, wrap_i64_small _ (by omega) (by omega)]

set_option maxHeartbeats 1000000 in
theorem ones_core (x a b c d e f r : Nat) (w : World) (h1 : IntKind.u64.wrap (bits BinOp.and IntKind.u64 ((x : Int) / 2) 6148914691236517205 + bits BinOp.and IntKind.u64 (x : Int) 6148914691236517205) = (a : Int))
    (h2 : IntKind.u64.wrap (bits BinOp.and IntKind.u64 ((a : Int) / 4) 3689348814741910323 + bits BinOp.and IntKind.u64 (a : Int) 3689348814741910323) = (b : Int))
    (h3 : bits BinOp.and IntKind.u64 (IntKind.u64.wrap ((b : Int) / 16 + (b : Int))) 1085102592571150095 = (c : Int))
    (h4 : IntKind.u64.wrap ((c : Int) + (c : Int) / 256) = (d : Int)) (h5 : IntKind.u64.wrap ((d : Int) + (d : Int) / 65536) = (e : Int)) (h6 : IntKind.u64.wrap ((e : Int) + (e : Int) / 4294967296) = (f : Int))
    (h7 : bits .and .i64 (f : Int) 127 = (r : Int)) (h8 : f < 9223372036854775808) :
    Calls Tryz.prog 69 #[.int .u64 (x : Int)] w fun e w' => e = .returned (.int .i64 (r : Int)) ∧ w' = w := by
  go_enter Tryz.func69, Tryz.ntmps69
  go_wp2
  go_ret
  exact ⟨rfl, rfl⟩

theorem ones_any (x : Nat) (hx : x < 18446744073709551616) (w : World) :
    Calls Tryz.prog 69 #[.int .u64 (x : Int)] w fun e w' => e = .returned (.int .i64 ((Pop.pop x 64 : Nat) : Int)) ∧ w' = w := by
  have ha : Pop.y1 x < 18446744073709551616 := two_ands x _ 2 (by decide)
  have hb : Pop.y2 (Pop.y1 x) < 18446744073709551616 := two_ands (Pop.y1 x) _ 4 (by decide)
  have h3 := Pop.y3_eq (Pop.y2 (Pop.y1 x)) (Pop.f2 x) (Pop.f2_le x) (Pop.y2_eq x)
  have hcnt := Pop.count x _ _ _ _ rfl rfl rfl rfl
  have hcl : Pop.y3 (Pop.y2 (Pop.y1 x)) < 18446744073709551616 := Nat.lt_of_le_of_lt Nat.and_le_right (by decide)
  refine ones_core x (Pop.y1 x) (Pop.y2 (Pop.y1 x)) (Pop.y3 (Pop.y2 (Pop.y1 x))) _ _ _ _ w ?_ ?_ ?_ (wrap_fold _ 256) (wrap_fold _ 65536) (wrap_fold _ 4294967296) ?_ hcnt.2
  · have e1 : bits .and .u64 ((x : Int) / 2) 6148914691236517205 = _ := half_and x 6148914691236517205 2 hx (by decide)
    have e2 : bits .and .u64 (x : Int) 6148914691236517205 = _ := bits_and_u64_nat x 6148914691236517205 hx (by decide)
    have e3 := two_ands x 6148914691236517205 2 (by decide)
    rw [e1, e2, IntKind.wrap_u64]
    unfold Pop.y1
    omega
  · have e1 : bits .and .u64 ((Pop.y1 x : Int) / 4) 3689348814741910323 = _ := half_and (Pop.y1 x) 3689348814741910323 4 ha (by decide)
    have e2 : bits .and .u64 (Pop.y1 x : Int) 3689348814741910323 = _ := bits_and_u64_nat (Pop.y1 x) 3689348814741910323 ha (by decide)
    have e3 := two_ands (Pop.y1 x) 3689348814741910323 4 (by decide)
    rw [e1, e2, IntKind.wrap_u64]
    unfold Pop.y2
    omega
  · have e0 : IntKind.u64.wrap (((Pop.y2 (Pop.y1 x) : Nat) : Int) / 16 + (Pop.y2 (Pop.y1 x) : Nat)) = ((Pop.y2 (Pop.y1 x) / 16 + Pop.y2 (Pop.y1 x) : Nat) : Int) := by rw [IntKind.wrap_u64]; omega
    have e2 : bits .and .u64 ((Pop.y2 (Pop.y1 x) / 16 + Pop.y2 (Pop.y1 x) : Nat) : Int) 1085102592571150095 = _ := bits_and_u64_nat (Pop.y2 (Pop.y1 x) / 16 + Pop.y2 (Pop.y1 x)) 1085102592571150095 (by omega) (by decide)
    rw [e0, e2]
    rfl
  · rw [and_127 _ hcnt.2, hcnt.1]

end Go.Proofs.YtnnmaknjhfjojaaGreatDoor.Bt
/- The contract of a set's Count. -/
namespace Go.Proofs.YtnnmaknjhfjojaaGreatDoor.Bt
open Go.RowKit
attribute [local go_sem ↓] Go.wp_at_zero Go.wp_at_succ

/-- Of how many numbers below n does f tell? -/
def cnt (f : Nat → Bool) : Nat → Nat
  | 0 => 0
  | n + 1 => cnt f n + (f n).toNat
theorem cnt_congr (f g : Nat → Bool) (n : Nat) (h : ∀ i, i < n → f i = g i) : cnt f n = cnt g n := by
  induction n with
  | zero => rfl
  | succ n ih => rw [cnt, cnt, ih (fun i hi => h i (by omega)), h n (by omega)]
theorem cnt_add (f : Nat → Bool) (a b : Nat) : cnt f (a + b) = cnt f a + cnt (fun i => f (a + i)) b := by
  induction b with
  | zero => rfl
  | succ b ih => rw [← Nat.add_assoc, cnt, ih, cnt]; omega
theorem cnt_stop (f : Nat → Bool) (n m : Nat) (h : ∀ i, n ≤ i → f i = false) (hm : n ≤ m) : cnt f m = cnt f n := by
  obtain ⟨d, rfl⟩ := Nat.le.dest hm
  induction d with
  | zero => rfl
  | succ d ih => rw [← Nat.add_assoc, cnt, ih (by omega), h _ (by omega)]; rfl
theorem cnt_le (f : Nat → Bool) (n : Nat) : cnt f n ≤ n := by
  induction n with
  | zero => exact Nat.le_refl _
  | succ n ih => rw [cnt]; have := Bool.toNat_le (f n); omega
theorem pop_cnt (x n : Nat) : Pop.pop x n = cnt x.testBit n := by
  induction n with
  | zero => rfl
  | succ n ih =>
    rw [Pop.pop, cnt, ih, Pop.bit, Nat.testBit_eq_decide_div_mod_eq]
    have : x / 2 ^ n % 2 < 2 := Nat.mod_lt _ (by decide)
    generalize x / 2 ^ n % 2 = y at this
    have : y = 0 ∨ y = 1 := by omega
    rcases this with rfl | rfl <;> rfl
/-- How many numbers are in the set. -/
def cntL (L : List Bool) : Nat := cnt (fun i => L.getD i false) L.length
theorem cntL_le (L : List Bool) : cntL L ≤ L.length := cnt_le _ _
theorem getD_out (L : List Bool) (i : Nat) (h : L.length ≤ i) : L.getD i false = false := by
  rw [List.getD_eq_getElem?_getD, List.getElem?_eq_none h]; rfl
theorem cnt_mem {W : List Nat} {L : List Bool} (h : Rep W L) : cnt (mem W) (64 * W.length) = cntL L := by
  rw [cnt_congr (mem W) (fun i => L.getD i false) _ (fun i _ => h.is i)]
  exact cnt_stop _ _ _ (fun i hi => getD_out L i hi) (by rw [h.len]; omega)
theorem cnt_word (W : List Nat) (j x : Nat) (h : W[j]? = some x) : cnt (mem W) (64 * (j + 1)) = cnt (mem W) (64 * j) + Pop.pop x 64 := by
  rw [Nat.mul_add, cnt_add, pop_cnt]
  congr 1
  apply cnt_congr
  intro i hi
  have e1 : (64 * j + i) / 64 = j := by omega
  have e2 : (64 * j + i) % 64 = i := by omega
  simp [mem, e1, e2, List.getD_eq_getElem?_getD, h]

set_option maxHeartbeats 400000 in
theorem count_none (p : Option Addr) (w : World) (h : NoSet w p) : Calls Tryz.prog 37 #[.pointer p] w fun e w' => e = .returned (.int .i64 0) ∧ w' = w := by
  have H := hide h.is
  clear h
  go_enter Tryz.func37, Tryz.ntmps37
  go_wp2_with fail
  refine H.out.mono ?_
  rintro e w' ⟨rfl, rfl⟩
  go_wp2
  go_ret
  exact ⟨rfl, rfl⟩

set_option maxHeartbeats 1000000 in
theorem count_any (b g : Nat) (L : List Bool) (w : World) (h : SetAt w b g L) :
    Calls Tryz.prog 37 #[.pointer (some ⟨b, 0, none⟩)] w fun e w' => e = .returned (.int .i64 (cntL L : Int)) ∧ w' = w := by
  obtain ⟨W, cap, hc, hcap, hcap2, hR, hcells⟩ := h.words
  have hn := isNone_at b true w h.made
  have hsm := h.small
  have hlen := hR.len
  have hW : W.length ≤ 1024 := by omega
  have H := hide (And.intro hcells hR)
  have HN := hide hn
  clear hcells hn hlen hR h hsm
  go_enter Tryz.func37, Tryz.ntmps37
  go_wp2_with fail
  refine HN.out.mono ?_
  rintro e w' ⟨rfl, rfl⟩
  clear HN
  go_wp2
  go_loopg [3, 13] W.length (fun k c i wr => ∃ j : Nat, k + j = W.length ∧ i = .int .i64 j ∧ c = .int .i64 (cnt (mem W) (64 * j) : Int) ∧ wr = w')
  case atStart => exact ⟨0, by simp, rfl, rfl, rfl⟩
  case round =>
    obtain ⟨j, hkj, rfl, rfl, rfl⟩ := hrel
    by_cases hk : 0 < gk
    · have hj : j < W.length := by omega
      obtain ⟨hcells, hR⟩ := H.out
      have hx := List.getElem?_eq_getElem hj
      have hcell := hcells j _ hx
      have hlt := hR.word _ (List.getElem_mem hj)
      have hstep := hide (cnt_word W j _ hx)
      have hle := cnt_le (mem W) (64 * j)
      have hone := fun w => ones_any W[j] hlt w
      generalize W[j] = x at *
      have hple : Pop.pop x 64 ≤ 64 := by rw [pop_cnt]; exact cnt_le _ _
      generalize Pop.pop x 64 = y at *
      generalize cnt (mem W) (64 * j) = c at *
      have h1 : (0 : Int) ≤ (j : Int) := by omega
      have h2 : (j : Int) < (W.length : Int) := by omega
      have HO := hide hone
      clear hcells hR hx hone
      go_wp2_with fail
      refine (HO.out _).mono ?_
      rintro e w2 ⟨rfl, rfl⟩
      go_wp2
      go_roundg (gk - 1)
      case measure => omega
      case rel => exact ⟨j + 1, by omega, by go_num, by rw [hstep.out]; go_num, rfl⟩
    · have hj : j = W.length := by omega
      subst hj
      have hcm := cnt_mem H.out.2
      rw [hcm]
      go_wp2
      go_ret
      exact ⟨rfl, rfl⟩

end Go.Proofs.YtnnmaknjhfjojaaGreatDoor.Bt
/- The contract of a set's seek (Next and Free). -/
namespace Go.Proofs.YtnnmaknjhfjojaaGreatDoor.Bt
open Go.RowKit
attribute [local go_sem ↓] Go.wp_at_zero Go.wp_at_succ

/-- r is the least number from i on, below the bound, of which L says v; -1, if there is none. -/
def Seek (L : List Bool) (v : Bool) (i : Nat) (r : Int) : Prop :=
  (r = -1 ∧ ∀ k, i ≤ k → k < L.length → L.getD k false ≠ v) ∨ ∃ k : Nat, r = (k : Int) ∧ i ≤ k ∧ k < L.length ∧ L.getD k false = v ∧ ∀ j, i ≤ j → j < k → L.getD j false ≠ v

def turnN (v : Bool) : Nat := if v then 0 else 18446744073709551615
theorem turnN_lt (v : Bool) : turnN v < 18446744073709551616 := by cases v <;> decide
theorem turned_bit (x c : Nat) (v : Bool) (hx : x < 18446744073709551616) : (x ^^^ turnN v).testBit c = (decide (c < 64) && (x.testBit c == v)) := by
  rw [Nat.testBit_xor]
  by_cases hc : c < 64
  · cases v
    · have : turnN false = 2 ^ 64 - 1 := by decide
      rw [this, Nat.testBit_two_pow_sub_one]
      cases x.testBit c <;> simp [hc]
    · have : turnN true = 0 := rfl
      rw [this, Nat.zero_testBit]
      cases x.testBit c <;> simp [hc]
  · have h1 : x.testBit c = false := Nat.testBit_lt_two_pow (Nat.lt_of_lt_of_le hx (Nat.pow_le_pow_right (n := 2) (by decide) (show 64 ≤ c by omega)))
    have h2 : (turnN v).testBit c = false := Nat.testBit_lt_two_pow (Nat.lt_of_lt_of_le (turnN_lt v) (Nat.pow_le_pow_right (n := 2) (by decide) (show 64 ≤ c by omega)))
    rw [h1, h2]; simp [hc]

/-- The word y tells of the numbers from i on in i's own word whether they are sought. -/
def Tells (W : List Nat) (v : Bool) (i y : Nat) : Prop := ∀ c, y.testBit c = (decide (c < 64 - i % 64) && (mem W (i + c) == v))

theorem tells_first (W : List Nat) (v : Bool) (i : Nat) (hx : W.getD (i / 64) 0 < 18446744073709551616) : Tells W v i ((W.getD (i / 64) 0 ^^^ turnN v) / 2 ^ (i % 64)) := by
  intro c
  rw [← Nat.shiftRight_eq_div_pow, Nat.testBit_shiftRight, turned_bit _ _ _ hx]
  by_cases hc : c < 64 - i % 64
  · have e1 : (i + c) / 64 = i / 64 := by omega
    have e2 : (i + c) % 64 = i % 64 + c := by omega
    simp only [mem, e1, e2]
    simp [hc, show i % 64 + c < 64 by omega]
  · simp [hc, show ¬ (i % 64 + c < 64) by omega]

theorem tells_next (W : List Nat) (v : Bool) (i : Nat) (hi : i % 64 = 0) (hx : W.getD (i / 64) 0 < 18446744073709551616) : Tells W v i (W.getD (i / 64) 0 ^^^ turnN v) := by
  have := tells_first W v i hx
  rw [hi] at this
  simpa using this

theorem tells_zero {W : List Nat} {v : Bool} {i : Nat} (h : Tells W v i 0) (c : Nat) (hc : c < 64 - i % 64) : mem W (i + c) ≠ v := by
  have := h c
  rw [Nat.zero_testBit] at this
  intro e
  simp [hc, e] at this

theorem ctz_low (y : Nat) (h0 : y ≠ 0) (hy : y < 18446744073709551616) : y.testBit (Lib.ctz 64 y) = true ∧ (∀ j, j < Lib.ctz 64 y → y.testBit j = false) ∧ Lib.ctz 64 y < 64 := by
  have e : Lib.ctz 64 y = Lib.ctzFrom 64 y := by simp [Lib.ctz, h0]
  rw [e]
  obtain ⟨m, hm, hlt⟩ := Lib.ctzFrom_spec 64 y (by omega) hy
  generalize Lib.ctzFrom 64 y = c at *
  refine ⟨?_, ?_, hlt⟩
  · rw [hm, Nat.testBit_two_pow_mul]
    simp
  · intro j hj
    rw [hm, Nat.testBit_two_pow_mul]
    simp [show ¬ c ≤ j by omega]

theorem tells_some {W : List Nat} {v : Bool} {i y : Nat} (h : Tells W v i y) (h0 : y ≠ 0) (hy : y < 18446744073709551616) : mem W (i + Lib.ctz 64 y) = v ∧ (∀ j, j < Lib.ctz 64 y → mem W (i + j) ≠ v) ∧ Lib.ctz 64 y < 64 := by
  obtain ⟨h1, h2, h3⟩ := ctz_low y h0 hy
  have a := h (Lib.ctz 64 y)
  rw [h1] at a
  simp at a
  refine ⟨a.2, ?_, h3⟩
  intro j hj e
  have b := h j
  rw [h2 j hj] at b
  simp [e] at b
  omega

set_option maxHeartbeats 1000000 in
theorem seek_in (b g : Nat) (L : List Bool) (v : Bool) (i : Nat) (w : World) (h : SetAt w b g L) (hT : Tab w) (hi : i < L.length) :
    Calls Tryz.prog 79 #[.pointer (some ⟨b, 0, none⟩), .int .i64 (i : Int), .int .u64 (turnN v : Int)] w fun e w' => ∃ r, e = .returned (.int .i64 r) ∧ Seek L v i r ∧ w' = w := by
  obtain ⟨W, cap, hc, hcap, hcap2, hR, hcells⟩ := h.words
  have hsm := h.small
  have hbd := h.bound
  have hlen := hR.len
  have hW : W.length ≤ 1024 := by omega
  have hmay := may_any b g L (i : Int) w h
  rw [show mayF L.length (i : Int) = 0 by simp [mayF]; omega] at hmay
  have htl := turnN_lt v
  have hw := hR.word_lt hi
  have hcell := hcells (i / 64) (W.getD (i / 64) 0) (by rw [List.getD_eq_getElem?_getD, List.getElem?_eq_getElem hw]; rfl)
  have hlt := hR.getD_lt (i / 64)
  have hxor := bits_xor_u64_nat (W.getD (i / 64) 0) (turnN v) hlt htl
  have H := hide (And.intro hcells (And.intro hR hT))
  have HT := hide (tells_first W v i hlt)
  have HM := hide hmay
  have hw1 : (0 : Int) ≤ (i : Int) := by omega
  have hw2 : (i : Int) / 64 < (W.length : Int) := by omega
  clear hcells hlen hR h hmay hT
  generalize W.getD (i / 64) 0 = x at *
  generalize htn : turnN v = tn at *
  have Htn := hide htn
  clear htn
  go_enter Tryz.func79, Tryz.ntmps79
  go_wp2_with fail
  refine HM.out.mono ?_
  rintro e w' ⟨rfl, rfl⟩
  go_wp2
  clear HM hcell hxor hw hw1 hw2
  go_loopg [1, 7] (L.length - i) (fun k I Y wr => ∃ i1 y : Nat, k + i1 = L.length ∧ 0 < k ∧ I = .int .i64 (i1 : Int) ∧ Y = .int .u64 (y : Int) ∧ i ≤ i1 ∧ y < 18446744073709551616 ∧ Hid (Tells W v i1 y ∧ ∀ j, i ≤ j → j < i1 → mem W j ≠ v) ∧ wr = w')
  case atStart =>
    refine ⟨i, (x ^^^ tn) / 2 ^ (i % 64), by omega, by omega, rfl, by simp, Nat.le_refl _, Nat.lt_of_le_of_lt (Nat.div_le_self _ _) (Nat.xor_lt_two_pow (n := 64) hlt htl), hide ⟨HT.out, fun j _ _ => by omega⟩, rfl⟩
  case round =>
    obtain ⟨i1, y, hk, hk0, rfl, rfl, hle, hy, hI, rfl⟩ := hrel
    obtain ⟨hcells, hR, hT⟩ := H.out
    clear HT
    have hb1 : i1 ≤ 65536 := by omega
    by_cases hy0 : y = 0
    · subst hy0
      by_cases hn : i1 + (64 - i1 % 64) < L.length
      · have hw := hR.word_lt hn
        obtain ⟨i2, hi2⟩ : ∃ i2, i2 = i1 + (64 - i1 % 64) := ⟨_, rfl⟩
        rw [← hi2] at hn hw
        have hcell := hcells (i2 / 64) (W.getD (i2 / 64) 0) (by rw [List.getD_eq_getElem?_getD, List.getElem?_eq_getElem hw]; rfl)
        have hlt := hR.getD_lt (i2 / 64)
        have hxor := bits_xor_u64_nat (W.getD (i2 / 64) 0) tn hlt htl
        have hT2 := tells_next W v i2 (by omega) hlt
        rw [Htn.out] at hT2
        have hall : ∀ j, i ≤ j → j < i2 → mem W j ≠ v := by
          intro j h1 h2
          by_cases h3 : j < i1
          · exact hI.out.2 j h1 h3
          · have := tells_zero hI.out.1 (j - i1) (by omega)
            rwa [show i1 + (j - i1) = j by omega] at this
        have hx2 : W.getD (i2 / 64) 0 ^^^ tn < 18446744073709551616 := Nat.xor_lt_two_pow (n := 64) hlt htl
        have HI := hide (And.intro hT2 hall)
        generalize W.getD (i2 / 64) 0 = x2 at *
        generalize x2 ^^^ tn = y2 at *
        have e2 : (i1 : Int) + (64 - (i1 : Int) % 64) = (i2 : Int) := by omega
        have hw1 : (0 : Int) ≤ (i2 : Int) := by omega
        have hw2 : (i2 : Int) / 64 < (W.length : Int) := by omega
        have hw3 : (i2 : Int) < (L.length : Int) := by omega
        have Hi2 := hide hi2
        clear hi2 hT2 hall hcells hR hT hI
        go_wp2
        go_roundg (gk - (i2 - i1))
        case measure => have := Hi2.out; omega
        case rel =>
          have := Hi2.out
          exact ⟨i2, y2, by omega, by omega, rfl, rfl, by omega, hx2, HI, rfl⟩
      · have e2 : (L.length : Int) ≤ (i1 : Int) + (64 - (i1 : Int) % 64) := by omega
        have hnone : Seek L v i (-1) := by
          refine Or.inl ⟨rfl, fun j h1 h2 => ?_⟩
          rw [← hR.is j]
          by_cases h3 : j < i1
          · exact hI.out.2 j h1 h3
          · have := tells_zero hI.out.1 (j - i1) (by omega)
            rwa [show i1 + (j - i1) = j by omega] at this
        have HS := hide hnone
        clear hcells hT hR hI hnone hn
        go_wp2
        go_ret
        exact ⟨_, rfl, HS.out, rfl⟩
    · have hy1 : ((y : Int) == 0) = false := by simpa using hy0
      have hz := tz_any y hy hy0 _ hT
      obtain ⟨h1, h2, h3⟩ := tells_some hI.out.1 hy0 hy
      generalize Lib.ctz 64 y = c at *
      have hbefore : ∀ j, i ≤ j → j < i1 + c → L.getD j false ≠ v := by
        intro j a1 a2
        rw [← hR.is j]
        by_cases a3 : j < i1
        · exact hI.out.2 j a1 a3
        · have := h2 (j - i1) (by omega)
          rwa [show i1 + (j - i1) = j by omega] at this
      have hat : L.getD (i1 + c) false = v := by rw [← hR.is]; exact h1
      have HZ := hide hz
      have HB := hide (And.intro hbefore hat)
      clear hcells hR hT hI hz h1 h2 hbefore hat hy0
      by_cases hn : i1 + c < L.length
      · have hn1 : (i1 : Int) + (c : Int) < (L.length : Int) := by omega
        go_wp2_with fail
        refine HZ.out.mono ?_
        rintro e w2 ⟨rfl, rfl⟩
        go_wp2
        go_ret
        exact ⟨_, rfl, Or.inr ⟨i1 + c, by simp, by omega, hn, HB.out.2, HB.out.1⟩, rfl⟩
      · have hn1 : (L.length : Int) ≤ (i1 : Int) + (c : Int) := by omega
        go_wp2_with fail
        refine HZ.out.mono ?_
        rintro e w2 ⟨rfl, rfl⟩
        go_wp2
        go_ret
        exact ⟨_, rfl, Or.inl ⟨rfl, fun j a1 a2 => HB.out.1 j a1 (by omega)⟩, rfl⟩

theorem Seek.out {L : List Bool} {v : Bool} {i : Nat} (h : L.length ≤ i) : Seek L v i (-1) := Or.inl ⟨rfl, fun k h1 h2 => by omega⟩

set_option maxHeartbeats 400000 in
theorem seek_out (b g : Nat) (L : List Bool) (v : Bool) (i : Nat) (w : World) (h : SetAt w b g L) (hi : L.length ≤ i) :
    Calls Tryz.prog 79 #[.pointer (some ⟨b, 0, none⟩), .int .i64 (i : Int), .int .u64 (turnN v : Int)] w fun e w' => ∃ r, e = .returned (.int .i64 r) ∧ Seek L v i r ∧ w' = w := by
  have hmay := may_any b g L (i : Int) w h
  rw [show mayF L.length (i : Int) = 2 by simp [mayF]; omega] at hmay
  have HM := hide hmay
  have hi0 : (0 : Int) ≤ (i : Int) := by omega
  clear hmay
  generalize turnN v = tn
  go_enter Tryz.func79, Tryz.ntmps79
  go_wp2_with fail
  refine HM.out.mono ?_
  rintro e w' ⟨rfl, rfl⟩
  go_wp2
  go_ret
  exact ⟨_, rfl, Seek.out hi, rfl⟩

set_option maxHeartbeats 400000 in
theorem seek_none (p : Option Addr) (tn : Nat) (i : Int) (w : World) (h : NoSet w p) :
    Calls Tryz.prog 79 #[.pointer p, .int .i64 i, .int .u64 (tn : Int)] w fun e w' => e = .returned (.int .i64 (-1)) ∧ w' = w := by
  have HM := hide (fun i => may_none p i w h)
  clear h
  by_cases hi : 0 ≤ i
  · go_enter Tryz.func79, Tryz.ntmps79
    go_wp2_with fail
    refine (HM.out _).mono ?_
    rintro e w' ⟨rfl, rfl⟩
    go_wp2
    go_ret
    exact ⟨rfl, rfl⟩
  · have hi2 : i < 0 := by omega
    go_enter Tryz.func79, Tryz.ntmps79
    go_wp2_with fail
    refine (HM.out _).mono ?_
    rintro e w' ⟨rfl, rfl⟩
    go_wp2
    go_ret
    exact ⟨rfl, rfl⟩

set_option maxHeartbeats 1000000 in
theorem seek_neg_in (b g : Nat) (L : List Bool) (v : Bool) (I0 : Int) (hI0 : I0 < 0) (w : World) (h : SetAt w b g L) (hT : Tab w) (hi : 0 < L.length) :
    Calls Tryz.prog 79 #[.pointer (some ⟨b, 0, none⟩), .int .i64 I0, .int .u64 (turnN v : Int)] w fun e w' => ∃ r, e = .returned (.int .i64 r) ∧ Seek L v 0 r ∧ w' = w := by
  obtain ⟨W, cap, hc, hcap, hcap2, hR, hcells⟩ := h.words
  have hsm := h.small
  have hbd := h.bound
  have hlen := hR.len
  have hW : W.length ≤ 1024 := by omega
  have hmay := may_any b g L 0 w h
  rw [show mayF L.length 0 = 0 by simp only [mayF]; rw [if_pos (by omega)]] at hmay
  have htl := turnN_lt v
  have hw := hR.word_lt hi
  have hcell := hcells 0 (W.getD 0 0) (by rw [List.getD_eq_getElem?_getD, List.getElem?_eq_getElem hw]; rfl)
  have hlt := hR.getD_lt 0
  have hxor := bits_xor_u64_nat (W.getD 0 0) (turnN v) hlt htl
  have H := hide (And.intro hcells (And.intro hR hT))
  have HT := hide (tells_next W v 0 rfl hlt)
  have HM := hide hmay
  have hw1 : (0 : Int) ≤ (0 : Int) := by omega
  have hw2 : (0 : Int) < (W.length : Int) := by omega
  clear hcells hlen hR h hmay hT
  rw [show 0 / 64 = 0 from rfl] at HT
  generalize W.getD 0 0 = x at *
  generalize htn : turnN v = tn at *
  have Htn := hide htn
  clear htn
  go_enter Tryz.func79, Tryz.ntmps79
  go_wp2_with fail
  refine HM.out.mono ?_
  rintro e w' ⟨rfl, rfl⟩
  go_wp2
  clear HM hcell hxor hw hw1 hw2
  go_loopg [1, 7] (L.length - 0) (fun k I Y wr => ∃ i1 y : Nat, k + i1 = L.length ∧ 0 < k ∧ I = .int .i64 (i1 : Int) ∧ Y = .int .u64 (y : Int) ∧ 0 ≤ i1 ∧ y < 18446744073709551616 ∧ Hid (Tells W v i1 y ∧ ∀ j, 0 ≤ j → j < i1 → mem W j ≠ v) ∧ wr = w')
  case atStart =>
    refine ⟨0, x ^^^ tn, by omega, by omega, rfl, by simp, Nat.le_refl _, Nat.xor_lt_two_pow (n := 64) hlt htl, hide ⟨HT.out, fun j _ _ => by omega⟩, rfl⟩
  case round =>
    obtain ⟨i1, y, hk, hk0, rfl, rfl, hle, hy, hI, rfl⟩ := hrel
    obtain ⟨hcells, hR, hT⟩ := H.out
    clear HT
    have hb1 : i1 ≤ 65536 := by omega
    by_cases hy0 : y = 0
    · subst hy0
      by_cases hn : i1 + (64 - i1 % 64) < L.length
      · have hw := hR.word_lt hn
        obtain ⟨i2, hi2⟩ : ∃ i2, i2 = i1 + (64 - i1 % 64) := ⟨_, rfl⟩
        rw [← hi2] at hn hw
        have hcell := hcells (i2 / 64) (W.getD (i2 / 64) 0) (by rw [List.getD_eq_getElem?_getD, List.getElem?_eq_getElem hw]; rfl)
        have hlt := hR.getD_lt (i2 / 64)
        have hxor := bits_xor_u64_nat (W.getD (i2 / 64) 0) tn hlt htl
        have hT2 := tells_next W v i2 (by omega) hlt
        rw [Htn.out] at hT2
        have hall : ∀ j, 0 ≤ j → j < i2 → mem W j ≠ v := by
          intro j h1 h2
          by_cases h3 : j < i1
          · exact hI.out.2 j h1 h3
          · have := tells_zero hI.out.1 (j - i1) (by omega)
            rwa [show i1 + (j - i1) = j by omega] at this
        have hx2 : W.getD (i2 / 64) 0 ^^^ tn < 18446744073709551616 := Nat.xor_lt_two_pow (n := 64) hlt htl
        have HI := hide (And.intro hT2 hall)
        generalize W.getD (i2 / 64) 0 = x2 at *
        generalize x2 ^^^ tn = y2 at *
        have e2 : (i1 : Int) + (64 - (i1 : Int) % 64) = (i2 : Int) := by omega
        have hw1 : (0 : Int) ≤ (i2 : Int) := by omega
        have hw2 : (i2 : Int) / 64 < (W.length : Int) := by omega
        have hw3 : (i2 : Int) < (L.length : Int) := by omega
        have Hi2 := hide hi2
        clear hi2 hT2 hall hcells hR hT hI
        go_wp2
        go_roundg (gk - (i2 - i1))
        case measure => have := Hi2.out; omega
        case rel =>
          have := Hi2.out
          exact ⟨i2, y2, by omega, by omega, rfl, rfl, by omega, hx2, HI, rfl⟩
      · have e2 : (L.length : Int) ≤ (i1 : Int) + (64 - (i1 : Int) % 64) := by omega
        have hnone : Seek L v 0 (-1) := by
          refine Or.inl ⟨rfl, fun j h1 h2 => ?_⟩
          rw [← hR.is j]
          by_cases h3 : j < i1
          · exact hI.out.2 j h1 h3
          · have := tells_zero hI.out.1 (j - i1) (by omega)
            rwa [show i1 + (j - i1) = j by omega] at this
        have HS := hide hnone
        clear hcells hT hR hI hnone hn
        go_wp2
        go_ret
        exact ⟨_, rfl, HS.out, rfl⟩
    · have hy1 : ((y : Int) == 0) = false := by simpa using hy0
      have hz := tz_any y hy hy0 _ hT
      obtain ⟨h1, h2, h3⟩ := tells_some hI.out.1 hy0 hy
      generalize Lib.ctz 64 y = c at *
      have hbefore : ∀ j, 0 ≤ j → j < i1 + c → L.getD j false ≠ v := by
        intro j a1 a2
        rw [← hR.is j]
        by_cases a3 : j < i1
        · exact hI.out.2 j a1 a3
        · have := h2 (j - i1) (by omega)
          rwa [show i1 + (j - i1) = j by omega] at this
      have hat : L.getD (i1 + c) false = v := by rw [← hR.is]; exact h1
      have HZ := hide hz
      have HB := hide (And.intro hbefore hat)
      clear hcells hR hT hI hz h1 h2 hbefore hat hy0
      by_cases hn : i1 + c < L.length
      · have hn1 : (i1 : Int) + (c : Int) < (L.length : Int) := by omega
        go_wp2_with fail
        refine HZ.out.mono ?_
        rintro e w2 ⟨rfl, rfl⟩
        go_wp2
        go_ret
        exact ⟨_, rfl, Or.inr ⟨i1 + c, by simp, by omega, hn, HB.out.2, HB.out.1⟩, rfl⟩
      · have hn1 : (L.length : Int) ≤ (i1 : Int) + (c : Int) := by omega
        go_wp2_with fail
        refine HZ.out.mono ?_
        rintro e w2 ⟨rfl, rfl⟩
        go_wp2
        go_ret
        exact ⟨_, rfl, Or.inl ⟨rfl, fun j a1 a2 => HB.out.1 j a1 (by omega)⟩, rfl⟩


set_option maxHeartbeats 400000 in
theorem seek_neg_out (b g : Nat) (L : List Bool) (v : Bool) (I0 : Int) (hI0 : I0 < 0) (w : World) (h : SetAt w b g L) (hi : L.length ≤ 0) :
    Calls Tryz.prog 79 #[.pointer (some ⟨b, 0, none⟩), .int .i64 I0, .int .u64 (turnN v : Int)] w fun e w' => ∃ r, e = .returned (.int .i64 r) ∧ Seek L v 0 r ∧ w' = w := by
  have hmay := may_any b g L 0 w h
  rw [show mayF L.length 0 = 2 by simp only [mayF]; rw [if_neg (by omega)]] at hmay
  have HM := hide hmay
  clear hmay
  generalize turnN v = tn
  go_enter Tryz.func79, Tryz.ntmps79
  go_wp2_with fail
  refine HM.out.mono ?_
  rintro e w' ⟨rfl, rfl⟩
  go_wp2
  go_ret
  exact ⟨_, rfl, Seek.out hi, rfl⟩


/-- seek, from whatever number on. -/
theorem seek_any (b g : Nat) (L : List Bool) (v : Bool) (i : Int) (w : World) (h : SetAt w b g L) (hT : Tab w) :
    Calls Tryz.prog 79 #[.pointer (some ⟨b, 0, none⟩), .int .i64 i, .int .u64 (turnN v : Int)] w fun e w' => ∃ r, e = .returned (.int .i64 r) ∧ Seek L v i.toNat r ∧ w' = w := by
  by_cases hi : 0 ≤ i
  · obtain ⟨k, rfl⟩ := Int.eq_ofNat_of_zero_le hi
    rw [Int.toNat_natCast]
    by_cases hk : k < L.length
    · exact seek_in b g L v k w h hT hk
    · exact seek_out b g L v k w h (by omega)
  · rw [show i.toNat = 0 by omega]
    by_cases hk : 0 < L.length
    · exact seek_neg_in b g L v i (by omega) w h hT hk
    · exact seek_neg_out b g L v i (by omega) w h (by omega)

set_option maxHeartbeats 400000 in
theorem next_any (b g : Nat) (L : List Bool) (i : Int) (w : World) (h : SetAt w b g L) (hT : Tab w) :
    Calls Tryz.prog 49 #[.pointer (some ⟨b, 0, none⟩), .int .i64 i] w fun e w' => ∃ r, e = .returned (.int .i64 r) ∧ Seek L true i.toNat r ∧ w' = w := by
  have H := hide (seek_any b g L true i w h hT)
  clear h hT
  go_enter Tryz.func49, Tryz.ntmps49
  go_wp2_with fail
  refine H.out.mono ?_
  rintro e w' ⟨r, rfl, hS, rfl⟩
  have HS := hide hS
  clear hS
  go_wp2
  go_ret
  exact ⟨_, rfl, HS.out, rfl⟩
set_option maxHeartbeats 400000 in
theorem free_any (b g : Nat) (L : List Bool) (i : Int) (w : World) (h : SetAt w b g L) (hT : Tab w) :
    Calls Tryz.prog 48 #[.pointer (some ⟨b, 0, none⟩), .int .i64 i] w fun e w' => ∃ r, e = .returned (.int .i64 r) ∧ Seek L false i.toNat r ∧ w' = w := by
  have H := hide (seek_any b g L false i w h hT)
  clear h hT
  go_enter Tryz.func48, Tryz.ntmps48
  go_wp2_with fail
  refine H.out.mono ?_
  rintro e w' ⟨r, rfl, hS, rfl⟩
  have HS := hide hS
  clear hS
  go_wp2
  go_ret
  exact ⟨_, rfl, HS.out, rfl⟩
set_option maxHeartbeats 400000 in
theorem next_none (p : Option Addr) (i : Int) (w : World) (h : NoSet w p) :
    Calls Tryz.prog 49 #[.pointer p, .int .i64 i] w fun e w' => e = .returned (.int .i64 (-1)) ∧ w' = w := by
  have H := hide (fun t => seek_none p t i w h)
  clear h
  go_enter Tryz.func49, Tryz.ntmps49
  go_wp2_with fail
  refine (H.out 0).mono ?_
  rintro e w' ⟨rfl, rfl⟩
  go_wp2
  go_ret
  exact ⟨rfl, rfl⟩
set_option maxHeartbeats 400000 in
theorem free_none (p : Option Addr) (i : Int) (w : World) (h : NoSet w p) :
    Calls Tryz.prog 48 #[.pointer p, .int .i64 i] w fun e w' => e = .returned (.int .i64 (-1)) ∧ w' = w := by
  have H := hide (fun t => seek_none p t i w h)
  clear h
  go_enter Tryz.func48, Tryz.ntmps48
  go_wp2_with fail
  refine (H.out 18446744073709551615).mono ?_
  rintro e w' ⟨rfl, rfl⟩
  go_wp2
  go_ret
  exact ⟨rfl, rfl⟩

end Go.Proofs.YtnnmaknjhfjojaaGreatDoor.Bt
