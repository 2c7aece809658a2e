/- replies: which fields a reply has, what may stand in one. -/
import Derived.Test.YtoflohjlmagjpaaDoorKit
import Derived.Test.YtoflohjlmagjpaaDoorYx
import Derived.Laws.ResultCell
import Derived.Laws.EntriesVeiled
namespace Go.Proofs.YtoflohjlmagjpaaDoor
open Go.RowKit
attribute [local go_sem ↓] Go.wp_at_zero Go.wp_at_succ
def ryV (q : Ry) : Value := .agg #[.int .u32 q.t, .int .i64 q.k, .int .i64 q.e, .int .u32 q.i, .int .i64 q.s, .int .i64 q.u, .int .i64 q.c]
def ryC (q : Ry) : List Value := [Value.int .u32 q.t, .int .i64 q.k, .int .i64 q.e, .int .u32 q.i, .int .i64 q.s, .int .i64 q.u, .int .i64 q.c]
theorem box7 {w : World} {g : Nat} {t : TypeId} {a b c d e f h : Value} (hh : w.heap[g]? = some (.cells [a, b, c, d, e, f, h].toArray t (0, 0))) : w.cell? ⟨g, 0, none⟩ = some a ∧ w.cell? ⟨g, 1, none⟩ = some b ∧ w.cell? ⟨g, 2, none⟩ = some c ∧ w.cell? ⟨g, 3, none⟩ = some d ∧ w.cell? ⟨g, 4, none⟩ = some e ∧ w.cell? ⟨g, 5, none⟩ = some f ∧ w.cell? ⟨g, 6, none⟩ = some h :=
  ⟨cell_row hh 0, cell_row hh 1, cell_row hh 2, cell_row hh 3, cell_row hh 4, cell_row hh 5, cell_row hh 6⟩
theorem box_new {w w' : World} {g : Nat} {o : Obj} (h : w.heap[g]? = some o) (hg : w.grownBy w' none) : w'.heap[g]? = some o := (hg.block _ (row_lt h) (by simp)).trans h
/-- The table of fields. -/
def tabN : List Int := [0, 5, 0, 0, 2, 6, 5, 4, 8, 8, 8]
def Tab (w : World) : Prop := ∀ j, j < 11 → w.cell? ⟨0, j, none⟩ = some (.int .u8 (tabN.getD j 0))
theorem Tab.lt {w : World} (h : Tab w) : 0 < w.heap.size := by
  have := h 0 (by decide)
  cases hb : w.heap[0]? with
  | none => simp [World.cell?, hb] at this
  | some o => exact row_lt hb
theorem Tab.grown {w w' : World} {row : Option Nat} (h : Tab w) (hg : w.grownBy w' row) (hr : row ≠ some 0) : Tab w' := fun j hj => hg.cell (h j hj) (fun e => hr e.symm)
theorem Tab.new {w w' : World} (h : Tab w) (hg : w.grownBy w' none) : Tab w' := h.grown hg (by simp)
/-- Which fields there are, as bits. -/
def fv (k e : Int) : Int := if e = 0 then (if k = 1 ∨ k = 6 then 5 else if k = 4 then 2 else if k = 5 then 6 else if k = 7 then 4 else if k = 8 ∨ k = 9 ∨ k = 10 then 8 else 0) else 0
def hasT : List (Int × Int × Bool) := [(0, 1, false), (0, 2, false), (0, 4, false), (0, 8, false), (5, 1, true), (5, 2, false), (5, 4, true), (5, 8, false), (2, 1, false), (2, 2, true), (2, 4, false), (2, 8, false), (6, 1, false), (6, 2, true), (6, 4, true), (6, 8, false), (4, 1, false), (4, 2, false), (4, 4, true), (4, 8, false), (8, 1, false), (8, 2, false), (8, 4, false), (8, 8, true)]
theorem fv_cases (k e : Int) : (fv k e = 0 ∧ hI k e = false ∧ hS k e = false ∧ hU k e = false ∧ hC k e = false) ∨ (fv k e = 5 ∧ hI k e = true ∧ hS k e = false ∧ hU k e = true ∧ hC k e = false) ∨ (fv k e = 2 ∧ hI k e = false ∧ hS k e = true ∧ hU k e = false ∧ hC k e = false) ∨ (fv k e = 6 ∧ hI k e = false ∧ hS k e = true ∧ hU k e = true ∧ hC k e = false) ∨ (fv k e = 4 ∧ hI k e = false ∧ hS k e = false ∧ hU k e = true ∧ hC k e = false) ∨ (fv k e = 8 ∧ hI k e = false ∧ hS k e = false ∧ hU k e = false ∧ hC k e = true) := by
  by_cases he : e = 0
  · subst he
    unfold fv
    rw [if_pos rfl]
    by_cases h1 : k = 1 ∨ k = 6
    · rw [if_pos h1]; exact Or.inr (Or.inl ⟨rfl, decide_eq_true (by omega), decide_eq_false (by omega), decide_eq_true (by omega), decide_eq_false (by omega)⟩)
    rw [if_neg h1]
    by_cases h2 : k = 4
    · rw [if_pos h2]; exact Or.inr (Or.inr (Or.inl ⟨rfl, decide_eq_false (by omega), decide_eq_true (by omega), decide_eq_false (by omega), decide_eq_false (by omega)⟩))
    rw [if_neg h2]
    by_cases h3 : k = 5
    · rw [if_pos h3]; exact Or.inr (Or.inr (Or.inr (Or.inl ⟨rfl, decide_eq_false (by omega), decide_eq_true (by omega), decide_eq_true (by omega), decide_eq_false (by omega)⟩)))
    rw [if_neg h3]
    by_cases h4 : k = 7
    · rw [if_pos h4]; exact Or.inr (Or.inr (Or.inr (Or.inr (Or.inl ⟨rfl, decide_eq_false (by omega), decide_eq_false (by omega), decide_eq_true (by omega), decide_eq_false (by omega)⟩))))
    rw [if_neg h4]
    by_cases h5 : k = 8 ∨ k = 9 ∨ k = 10
    · rw [if_pos h5]; exact Or.inr (Or.inr (Or.inr (Or.inr (Or.inr ⟨rfl, decide_eq_false (by omega), decide_eq_false (by omega), decide_eq_false (by omega), decide_eq_true (by omega)⟩))))
    rw [if_neg h5]
    exact Or.inl ⟨rfl, decide_eq_false (by omega), decide_eq_false (by omega), decide_eq_false (by omega), decide_eq_false (by omega)⟩
  · obtain ⟨a, b, c, d⟩ := has_e (k := k) he
    exact Or.inl ⟨if_neg he, a, b, c, d⟩
theorem fv_has (k e : Int) : (fv k e, 1, hI k e) ∈ hasT ∧ (fv k e, 2, hS k e) ∈ hasT ∧ (fv k e, 4, hU k e) ∈ hasT ∧ (fv k e, 8, hC k e) ∈ hasT := by
  rcases fv_cases k e with ⟨a, b, c, d, f⟩ | ⟨a, b, c, d, f⟩ | ⟨a, b, c, d, f⟩ | ⟨a, b, c, d, f⟩ | ⟨a, b, c, d, f⟩ | ⟨a, b, c, d, f⟩ <;> (rw [a, b, c, d, f]; exact ⟨by decide, by decide, by decide, by decide⟩)
theorem isKind_any (k : Int) (w : World) : Calls Tryd.prog 42 #[.int .i64 k] w fun e w' => e = .returned (.bool (decide (1 ≤ k ∧ k ≤ 10))) ∧ w' = w := by
  by_cases h1 : 1 ≤ k
  · by_cases h2 : k ≤ 10
    · rw [decide_eq_true (show 1 ≤ k ∧ k ≤ 10 from ⟨h1, h2⟩)]
      go_enter Tryd.func42, Tryd.ntmps42
      go_wp2
      go_ret
      exact ⟨rfl, rfl⟩
    · rw [decide_eq_false (show ¬ (1 ≤ k ∧ k ≤ 10) from fun h => h2 h.2)]
      go_enter Tryd.func42, Tryd.ntmps42
      go_wp2
      go_ret
      exact ⟨rfl, rfl⟩
  · rw [decide_eq_false (show ¬ (1 ≤ k ∧ k ≤ 10) from fun h => h1 h.1)]
    go_enter Tryd.func42, Tryd.ntmps42
    go_wp2
    go_ret
    exact ⟨rfl, rfl⟩
theorem has_any (f one : Int) (r : Bool) (h : (f, one, r) ∈ hasT) (w : World) : Calls Tryd.prog 40 #[.int .u8 f, .int .u8 one] w fun e w' => e = .returned (.bool r) ∧ w' = w := by
  simp only [hasT, List.mem_cons, List.not_mem_nil, or_false, Prod.mk.injEq] at h
  rcases h with ⟨rfl, rfl, rfl⟩ | ⟨rfl, rfl, rfl⟩ | ⟨rfl, rfl, rfl⟩ | ⟨rfl, rfl, rfl⟩ | ⟨rfl, rfl, rfl⟩ | ⟨rfl, rfl, rfl⟩ | ⟨rfl, rfl, rfl⟩ | ⟨rfl, rfl, rfl⟩ | ⟨rfl, rfl, rfl⟩ | ⟨rfl, rfl, rfl⟩ | ⟨rfl, rfl, rfl⟩ | ⟨rfl, rfl, rfl⟩ | ⟨rfl, rfl, rfl⟩ | ⟨rfl, rfl, rfl⟩ | ⟨rfl, rfl, rfl⟩ | ⟨rfl, rfl, rfl⟩ | ⟨rfl, rfl, rfl⟩ | ⟨rfl, rfl, rfl⟩ | ⟨rfl, rfl, rfl⟩ | ⟨rfl, rfl, rfl⟩ | ⟨rfl, rfl, rfl⟩ | ⟨rfl, rfl, rfl⟩ | ⟨rfl, rfl, rfl⟩ | ⟨rfl, rfl, rfl⟩
  all_goals
    go_enter Tryd.func40, Tryd.ntmps40
    go_wp2
    go_ret
    exact ⟨rfl, rfl⟩
theorem allow_any (f one n m : Int) (r : Bool) (h : (f, one, r) ∈ hasT) (w : World) : Calls Tryd.prog 43 #[.int .u8 f, .int .u8 one, .int .i64 n, .int .i64 m] w fun e w' => e = .returned (.bool (inP r n m)) ∧ w' = w := by
  have qh := has_any f one r h w
  clear h
  cases r with
  | false =>
    rw [show inP false n m = decide (n = 0) from rfl]
    by_cases h0 : n = 0
    · subst h0
      go_enter Tryd.func43, Tryd.ntmps43
      go_wp2_with fail
      refine qh.mono ?_
      clear qh
      rintro e w2 ⟨rfl, rfl⟩
      go_wp2
      go_ret
      exact ⟨rfl, rfl⟩
    · rw [decide_eq_false h0]
      have h1 : (n == 0) = false := by simpa using h0
      have h2 : decide (n = 0) = false := by simpa using h0
      go_enter Tryd.func43, Tryd.ntmps43
      go_wp2_with fail
      refine qh.mono ?_
      clear qh
      rintro e w2 ⟨rfl, rfl⟩
      go_wp2
      go_ret
      exact ⟨rfl, rfl⟩
  | true =>
    rw [show inP true n m = decide (0 ≤ n ∧ n ≤ m) from rfl]
    by_cases h1 : 0 ≤ n
    · by_cases h2 : n ≤ m
      · rw [decide_eq_true (show 0 ≤ n ∧ n ≤ m from ⟨h1, h2⟩)]
        go_enter Tryd.func43, Tryd.ntmps43
        go_wp2_with fail
        refine qh.mono ?_
        clear qh
        rintro e w2 ⟨rfl, rfl⟩
        go_wp2
        go_ret
        exact ⟨rfl, rfl⟩
      · rw [decide_eq_false (show ¬ (0 ≤ n ∧ n ≤ m) from fun h => h2 h.2)]
        have h3 : decide (n ≤ m) = false := decide_eq_false h2
        go_enter Tryd.func43, Tryd.ntmps43
        go_wp2_with fail
        refine qh.mono ?_
        clear qh
        rintro e w2 ⟨rfl, rfl⟩
        go_wp2
        go_ret
        exact ⟨rfl, rfl⟩
    · rw [decide_eq_false (show ¬ (0 ≤ n ∧ n ≤ m) from fun h => h1 h.1)]
      go_enter Tryd.func43, Tryd.ntmps43
      go_wp2_with fail
      refine qh.mono ?_
      clear qh
      rintro e w2 ⟨rfl, rfl⟩
      go_wp2
      go_ret
      exact ⟨rfl, rfl⟩
/-- A reply in a box of the call's own. -/
structure CkS (w wr : World) (q : Ry) : Prop where
  box : wr.heap[w.heap.size]? = some (.cells [Value.int .u32 q.t, .int .i64 q.k, .int .i64 q.e, .int .u32 q.i, .int .i64 q.s, .int .i64 q.u, .int .i64 q.c].toArray 26 (0, 0))
  gr : w.grownBy wr none
theorem CkS.then {w wr wr' : World} {q : Ry} (h : CkS w wr q) (hg : wr.grownBy wr' none) : CkS w wr' q := ⟨(hg.block _ (row_lt h.box) (by simp)).trans h.box, grown_trans h.gr hg⟩
theorem CkS.begin (w : World) (q : Ry) : CkS w (w.alloc (.cells #[.int .u32 q.t, .int .i64 q.k, .int .i64 q.e, .int .u32 q.i, .int .i64 q.s, .int .i64 q.u, .int .i64 q.c] 26)) q := ⟨heap_alloc_new w _, World.grownBy_alloc w _ none⟩
theorem fi1 (t i s u c : Int) (w : World) (hT : Tab w) : Calls Tryd.prog 39 #[.agg #[.int .u32 t, .int .i64 1, .int .i64 0, .int .u32 i, .int .i64 s, .int .i64 u, .int .i64 c]] w fun r w' => r = .returned (.int .u8 5) ∧ w.grownBy w' none := by
  have S0 := hide (CkS.begin w ⟨t, 1, 0, i, s, u, c⟩)
  obtain ⟨c0, c1, c2, c3, c4, c5, c6⟩ := box7 S0.out.box
  have qk := isKind_any 1 (w.alloc (.cells #[.int .u32 t, .int .i64 1, .int .i64 0, .int .u32 i, .int .i64 s, .int .i64 u, .int .i64 c] 26))
  rw [show decide ((1 : Int) ≤ 1 ∧ (1 : Int) ≤ 10) = true from rfl] at qk
  have d0 : _ = some (Value.int .u8 5) := hT.new S0.out.gr 1 (by decide)
  clear hT
  go_enter Tryd.func39, Tryd.ntmps39
  go_wp2_with fail
  generalize w.alloc (.cells #[.int .u32 t, .int .i64 1, .int .i64 0, .int .u32 i, .int .i64 s, .int .i64 u, .int .i64 c] 26) = w1 at *
  refine qk.mono ?_
  clear qk
  rintro r wx ⟨rfl, hw⟩
  obtain rfl := hw.symm
  clear hw
  go_wp2
  go_ret
  exact ⟨rfl, S0.out.gr⟩
theorem fi2 (t i s u c : Int) (w : World) (hT : Tab w) : Calls Tryd.prog 39 #[.agg #[.int .u32 t, .int .i64 2, .int .i64 0, .int .u32 i, .int .i64 s, .int .i64 u, .int .i64 c]] w fun r w' => r = .returned (.int .u8 0) ∧ w.grownBy w' none := by
  have S0 := hide (CkS.begin w ⟨t, 2, 0, i, s, u, c⟩)
  obtain ⟨c0, c1, c2, c3, c4, c5, c6⟩ := box7 S0.out.box
  have qk := isKind_any 2 (w.alloc (.cells #[.int .u32 t, .int .i64 2, .int .i64 0, .int .u32 i, .int .i64 s, .int .i64 u, .int .i64 c] 26))
  rw [show decide ((1 : Int) ≤ 2 ∧ (2 : Int) ≤ 10) = true from rfl] at qk
  have d0 : _ = some (Value.int .u8 0) := hT.new S0.out.gr 2 (by decide)
  clear hT
  go_enter Tryd.func39, Tryd.ntmps39
  go_wp2_with fail
  generalize w.alloc (.cells #[.int .u32 t, .int .i64 2, .int .i64 0, .int .u32 i, .int .i64 s, .int .i64 u, .int .i64 c] 26) = w1 at *
  refine qk.mono ?_
  clear qk
  rintro r wx ⟨rfl, hw⟩
  obtain rfl := hw.symm
  clear hw
  go_wp2
  go_ret
  exact ⟨rfl, S0.out.gr⟩
theorem fi3 (t i s u c : Int) (w : World) (hT : Tab w) : Calls Tryd.prog 39 #[.agg #[.int .u32 t, .int .i64 3, .int .i64 0, .int .u32 i, .int .i64 s, .int .i64 u, .int .i64 c]] w fun r w' => r = .returned (.int .u8 0) ∧ w.grownBy w' none := by
  have S0 := hide (CkS.begin w ⟨t, 3, 0, i, s, u, c⟩)
  obtain ⟨c0, c1, c2, c3, c4, c5, c6⟩ := box7 S0.out.box
  have qk := isKind_any 3 (w.alloc (.cells #[.int .u32 t, .int .i64 3, .int .i64 0, .int .u32 i, .int .i64 s, .int .i64 u, .int .i64 c] 26))
  rw [show decide ((1 : Int) ≤ 3 ∧ (3 : Int) ≤ 10) = true from rfl] at qk
  have d0 : _ = some (Value.int .u8 0) := hT.new S0.out.gr 3 (by decide)
  clear hT
  go_enter Tryd.func39, Tryd.ntmps39
  go_wp2_with fail
  generalize w.alloc (.cells #[.int .u32 t, .int .i64 3, .int .i64 0, .int .u32 i, .int .i64 s, .int .i64 u, .int .i64 c] 26) = w1 at *
  refine qk.mono ?_
  clear qk
  rintro r wx ⟨rfl, hw⟩
  obtain rfl := hw.symm
  clear hw
  go_wp2
  go_ret
  exact ⟨rfl, S0.out.gr⟩
theorem fi4 (t i s u c : Int) (w : World) (hT : Tab w) : Calls Tryd.prog 39 #[.agg #[.int .u32 t, .int .i64 4, .int .i64 0, .int .u32 i, .int .i64 s, .int .i64 u, .int .i64 c]] w fun r w' => r = .returned (.int .u8 2) ∧ w.grownBy w' none := by
  have S0 := hide (CkS.begin w ⟨t, 4, 0, i, s, u, c⟩)
  obtain ⟨c0, c1, c2, c3, c4, c5, c6⟩ := box7 S0.out.box
  have qk := isKind_any 4 (w.alloc (.cells #[.int .u32 t, .int .i64 4, .int .i64 0, .int .u32 i, .int .i64 s, .int .i64 u, .int .i64 c] 26))
  rw [show decide ((1 : Int) ≤ 4 ∧ (4 : Int) ≤ 10) = true from rfl] at qk
  have d0 : _ = some (Value.int .u8 2) := hT.new S0.out.gr 4 (by decide)
  clear hT
  go_enter Tryd.func39, Tryd.ntmps39
  go_wp2_with fail
  generalize w.alloc (.cells #[.int .u32 t, .int .i64 4, .int .i64 0, .int .u32 i, .int .i64 s, .int .i64 u, .int .i64 c] 26) = w1 at *
  refine qk.mono ?_
  clear qk
  rintro r wx ⟨rfl, hw⟩
  obtain rfl := hw.symm
  clear hw
  go_wp2
  go_ret
  exact ⟨rfl, S0.out.gr⟩
theorem fi5 (t i s u c : Int) (w : World) (hT : Tab w) : Calls Tryd.prog 39 #[.agg #[.int .u32 t, .int .i64 5, .int .i64 0, .int .u32 i, .int .i64 s, .int .i64 u, .int .i64 c]] w fun r w' => r = .returned (.int .u8 6) ∧ w.grownBy w' none := by
  have S0 := hide (CkS.begin w ⟨t, 5, 0, i, s, u, c⟩)
  obtain ⟨c0, c1, c2, c3, c4, c5, c6⟩ := box7 S0.out.box
  have qk := isKind_any 5 (w.alloc (.cells #[.int .u32 t, .int .i64 5, .int .i64 0, .int .u32 i, .int .i64 s, .int .i64 u, .int .i64 c] 26))
  rw [show decide ((1 : Int) ≤ 5 ∧ (5 : Int) ≤ 10) = true from rfl] at qk
  have d0 : _ = some (Value.int .u8 6) := hT.new S0.out.gr 5 (by decide)
  clear hT
  go_enter Tryd.func39, Tryd.ntmps39
  go_wp2_with fail
  generalize w.alloc (.cells #[.int .u32 t, .int .i64 5, .int .i64 0, .int .u32 i, .int .i64 s, .int .i64 u, .int .i64 c] 26) = w1 at *
  refine qk.mono ?_
  clear qk
  rintro r wx ⟨rfl, hw⟩
  obtain rfl := hw.symm
  clear hw
  go_wp2
  go_ret
  exact ⟨rfl, S0.out.gr⟩
theorem fi6 (t i s u c : Int) (w : World) (hT : Tab w) : Calls Tryd.prog 39 #[.agg #[.int .u32 t, .int .i64 6, .int .i64 0, .int .u32 i, .int .i64 s, .int .i64 u, .int .i64 c]] w fun r w' => r = .returned (.int .u8 5) ∧ w.grownBy w' none := by
  have S0 := hide (CkS.begin w ⟨t, 6, 0, i, s, u, c⟩)
  obtain ⟨c0, c1, c2, c3, c4, c5, c6⟩ := box7 S0.out.box
  have qk := isKind_any 6 (w.alloc (.cells #[.int .u32 t, .int .i64 6, .int .i64 0, .int .u32 i, .int .i64 s, .int .i64 u, .int .i64 c] 26))
  rw [show decide ((1 : Int) ≤ 6 ∧ (6 : Int) ≤ 10) = true from rfl] at qk
  have d0 : _ = some (Value.int .u8 5) := hT.new S0.out.gr 6 (by decide)
  clear hT
  go_enter Tryd.func39, Tryd.ntmps39
  go_wp2_with fail
  generalize w.alloc (.cells #[.int .u32 t, .int .i64 6, .int .i64 0, .int .u32 i, .int .i64 s, .int .i64 u, .int .i64 c] 26) = w1 at *
  refine qk.mono ?_
  clear qk
  rintro r wx ⟨rfl, hw⟩
  obtain rfl := hw.symm
  clear hw
  go_wp2
  go_ret
  exact ⟨rfl, S0.out.gr⟩
theorem fi7 (t i s u c : Int) (w : World) (hT : Tab w) : Calls Tryd.prog 39 #[.agg #[.int .u32 t, .int .i64 7, .int .i64 0, .int .u32 i, .int .i64 s, .int .i64 u, .int .i64 c]] w fun r w' => r = .returned (.int .u8 4) ∧ w.grownBy w' none := by
  have S0 := hide (CkS.begin w ⟨t, 7, 0, i, s, u, c⟩)
  obtain ⟨c0, c1, c2, c3, c4, c5, c6⟩ := box7 S0.out.box
  have qk := isKind_any 7 (w.alloc (.cells #[.int .u32 t, .int .i64 7, .int .i64 0, .int .u32 i, .int .i64 s, .int .i64 u, .int .i64 c] 26))
  rw [show decide ((1 : Int) ≤ 7 ∧ (7 : Int) ≤ 10) = true from rfl] at qk
  have d0 : _ = some (Value.int .u8 4) := hT.new S0.out.gr 7 (by decide)
  clear hT
  go_enter Tryd.func39, Tryd.ntmps39
  go_wp2_with fail
  generalize w.alloc (.cells #[.int .u32 t, .int .i64 7, .int .i64 0, .int .u32 i, .int .i64 s, .int .i64 u, .int .i64 c] 26) = w1 at *
  refine qk.mono ?_
  clear qk
  rintro r wx ⟨rfl, hw⟩
  obtain rfl := hw.symm
  clear hw
  go_wp2
  go_ret
  exact ⟨rfl, S0.out.gr⟩
theorem fi8 (t i s u c : Int) (w : World) (hT : Tab w) : Calls Tryd.prog 39 #[.agg #[.int .u32 t, .int .i64 8, .int .i64 0, .int .u32 i, .int .i64 s, .int .i64 u, .int .i64 c]] w fun r w' => r = .returned (.int .u8 8) ∧ w.grownBy w' none := by
  have S0 := hide (CkS.begin w ⟨t, 8, 0, i, s, u, c⟩)
  obtain ⟨c0, c1, c2, c3, c4, c5, c6⟩ := box7 S0.out.box
  have qk := isKind_any 8 (w.alloc (.cells #[.int .u32 t, .int .i64 8, .int .i64 0, .int .u32 i, .int .i64 s, .int .i64 u, .int .i64 c] 26))
  rw [show decide ((1 : Int) ≤ 8 ∧ (8 : Int) ≤ 10) = true from rfl] at qk
  have d0 : _ = some (Value.int .u8 8) := hT.new S0.out.gr 8 (by decide)
  clear hT
  go_enter Tryd.func39, Tryd.ntmps39
  go_wp2_with fail
  generalize w.alloc (.cells #[.int .u32 t, .int .i64 8, .int .i64 0, .int .u32 i, .int .i64 s, .int .i64 u, .int .i64 c] 26) = w1 at *
  refine qk.mono ?_
  clear qk
  rintro r wx ⟨rfl, hw⟩
  obtain rfl := hw.symm
  clear hw
  go_wp2
  go_ret
  exact ⟨rfl, S0.out.gr⟩
theorem fi9 (t i s u c : Int) (w : World) (hT : Tab w) : Calls Tryd.prog 39 #[.agg #[.int .u32 t, .int .i64 9, .int .i64 0, .int .u32 i, .int .i64 s, .int .i64 u, .int .i64 c]] w fun r w' => r = .returned (.int .u8 8) ∧ w.grownBy w' none := by
  have S0 := hide (CkS.begin w ⟨t, 9, 0, i, s, u, c⟩)
  obtain ⟨c0, c1, c2, c3, c4, c5, c6⟩ := box7 S0.out.box
  have qk := isKind_any 9 (w.alloc (.cells #[.int .u32 t, .int .i64 9, .int .i64 0, .int .u32 i, .int .i64 s, .int .i64 u, .int .i64 c] 26))
  rw [show decide ((1 : Int) ≤ 9 ∧ (9 : Int) ≤ 10) = true from rfl] at qk
  have d0 : _ = some (Value.int .u8 8) := hT.new S0.out.gr 9 (by decide)
  clear hT
  go_enter Tryd.func39, Tryd.ntmps39
  go_wp2_with fail
  generalize w.alloc (.cells #[.int .u32 t, .int .i64 9, .int .i64 0, .int .u32 i, .int .i64 s, .int .i64 u, .int .i64 c] 26) = w1 at *
  refine qk.mono ?_
  clear qk
  rintro r wx ⟨rfl, hw⟩
  obtain rfl := hw.symm
  clear hw
  go_wp2
  go_ret
  exact ⟨rfl, S0.out.gr⟩
theorem fi10 (t i s u c : Int) (w : World) (hT : Tab w) : Calls Tryd.prog 39 #[.agg #[.int .u32 t, .int .i64 10, .int .i64 0, .int .u32 i, .int .i64 s, .int .i64 u, .int .i64 c]] w fun r w' => r = .returned (.int .u8 8) ∧ w.grownBy w' none := by
  have S0 := hide (CkS.begin w ⟨t, 10, 0, i, s, u, c⟩)
  obtain ⟨c0, c1, c2, c3, c4, c5, c6⟩ := box7 S0.out.box
  have qk := isKind_any 10 (w.alloc (.cells #[.int .u32 t, .int .i64 10, .int .i64 0, .int .u32 i, .int .i64 s, .int .i64 u, .int .i64 c] 26))
  rw [show decide ((1 : Int) ≤ 10 ∧ (10 : Int) ≤ 10) = true from rfl] at qk
  have d0 : _ = some (Value.int .u8 8) := hT.new S0.out.gr 10 (by decide)
  clear hT
  go_enter Tryd.func39, Tryd.ntmps39
  go_wp2_with fail
  generalize w.alloc (.cells #[.int .u32 t, .int .i64 10, .int .i64 0, .int .u32 i, .int .i64 s, .int .i64 u, .int .i64 c] 26) = w1 at *
  refine qk.mono ?_
  clear qk
  rintro r wx ⟨rfl, hw⟩
  obtain rfl := hw.symm
  clear hw
  go_wp2
  go_ret
  exact ⟨rfl, S0.out.gr⟩
theorem fiE (t k e i s u c : Int) (w : World) (hk : 1 ≤ k ∧ k ≤ 10) (he : e ≠ 0) : Calls Tryd.prog 39 #[.agg #[.int .u32 t, .int .i64 k, .int .i64 e, .int .u32 i, .int .i64 s, .int .i64 u, .int .i64 c]] w fun r w' => r = .returned (.int .u8 0) ∧ w.grownBy w' none := by
  have S0 := hide (CkS.begin w ⟨t, k, e, i, s, u, c⟩)
  obtain ⟨c0, c1, c2, c3, c4, c5, c6⟩ := box7 S0.out.box
  have qk := isKind_any k (w.alloc (.cells #[.int .u32 t, .int .i64 k, .int .i64 e, .int .u32 i, .int .i64 s, .int .i64 u, .int .i64 c] 26))
  rw [decide_eq_true hk] at qk
  have e1 : (e == 0) = false := by simpa using he
  have e2 : (e != 0) = true := by simpa using he
  have e3 : decide (e = 0) = false := by simpa using he
  clear he hk
  go_enter Tryd.func39, Tryd.ntmps39
  go_wp2_with fail
  generalize w.alloc (.cells #[.int .u32 t, .int .i64 k, .int .i64 e, .int .u32 i, .int .i64 s, .int .i64 u, .int .i64 c] 26) = w1 at *
  refine qk.mono ?_
  clear qk
  rintro r wx ⟨rfl, hw⟩
  obtain rfl := hw.symm
  clear hw
  go_wp2
  go_ret
  exact ⟨rfl, S0.out.gr⟩
theorem fiN (t k e i s u c : Int) (w : World) (hk : ¬ (1 ≤ k ∧ k ≤ 10)) : Calls Tryd.prog 39 #[.agg #[.int .u32 t, .int .i64 k, .int .i64 e, .int .u32 i, .int .i64 s, .int .i64 u, .int .i64 c]] w fun r w' => r = .returned (.int .u8 0) ∧ w.grownBy w' none := by
  have S0 := hide (CkS.begin w ⟨t, k, e, i, s, u, c⟩)
  obtain ⟨c0, c1, c2, c3, c4, c5, c6⟩ := box7 S0.out.box
  have qk := isKind_any k (w.alloc (.cells #[.int .u32 t, .int .i64 k, .int .i64 e, .int .u32 i, .int .i64 s, .int .i64 u, .int .i64 c] 26))
  rw [decide_eq_false hk] at qk
  clear hk
  go_enter Tryd.func39, Tryd.ntmps39
  go_wp2_with fail
  generalize w.alloc (.cells #[.int .u32 t, .int .i64 k, .int .i64 e, .int .u32 i, .int .i64 s, .int .i64 u, .int .i64 c] 26) = w1 at *
  refine qk.mono ?_
  clear qk
  rintro r wx ⟨rfl, hw⟩
  obtain rfl := hw.symm
  clear hw
  go_wp2
  go_ret
  exact ⟨rfl, S0.out.gr⟩
theorem fieldsIn_any (q : Ry) (w : World) (hT : Tab w) : Calls Tryd.prog 39 #[ryV q] w fun r w' => r = .returned (.int .u8 (fv q.k q.e)) ∧ w.grownBy w' none := by
  obtain ⟨t, k, e, i, s, u, c⟩ := q
  unfold ryV
  dsimp only
  by_cases hk : 1 ≤ k ∧ k ≤ 10
  · by_cases he : e = 0
    · subst he
      have hkk : k = 1 ∨ k = 2 ∨ k = 3 ∨ k = 4 ∨ k = 5 ∨ k = 6 ∨ k = 7 ∨ k = 8 ∨ k = 9 ∨ k = 10 := by omega
      rcases hkk with rfl | rfl | rfl | rfl | rfl | rfl | rfl | rfl | rfl | rfl
      · exact fi1 t i s u c w hT
      · exact fi2 t i s u c w hT
      · exact fi3 t i s u c w hT
      · exact fi4 t i s u c w hT
      · exact fi5 t i s u c w hT
      · exact fi6 t i s u c w hT
      · exact fi7 t i s u c w hT
      · exact fi8 t i s u c w hT
      · exact fi9 t i s u c w hT
      · exact fi10 t i s u c w hT
    · rw [show fv k e = 0 from if_neg he]
      exact fiE t k e i s u c w hk he
  · have hf : fv k e = 0 := by
      unfold fv
      by_cases he : e = 0
      · rw [if_pos he, if_neg (by omega), if_neg (by omega), if_neg (by omega), if_neg (by omega), if_neg (by omega)]
      · rw [if_neg he]
    rw [hf]
    exact fiN t k e i s u c w hk
end Go.Proofs.YtoflohjlmagjpaaDoor
