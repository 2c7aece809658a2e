/- records: which fields a kind has, what may be, Check, Size. -/
import Derived.Test.YtghojalpdkiooaaDoorKit
import Derived.Test.YtghojalpdkiooaaDoorLent
import Derived.Test.YtghojalpdkiooaaDoorRx
namespace Go.Proofs.YtghojalpdkiooaaDoor
open Go.RowKit
attribute [local go_sem ↓] Go.wp_at_zero Go.wp_at_succ
/-- The table of fields, cell by cell. -/
def tabB : List Bool := [false, false, false, false, true, true, true, false, true, false, false, false, true, false, false, false, true, true, false, false, false, false, false, true]
def Tab (w : World) : Prop := ∀ j, j < 24 → w.cell? ⟨0, j, none⟩ = some (.bool (tabB.getD j false))
theorem Tab.lt {w : World} (h : Tab w) : 0 < w.heap.size := by
  have := h 0 (by decide)
  cases hb : w.heap[0]? with
  | none => simp [World.cell?, hb] at this
  | some o => exact row_lt hb
theorem Tab.grown {w w' : World} {row : Option Nat} (h : Tab w) (hg : w.grownBy w' row) (hr : row ≠ some 0) : Tab w' := fun j hj => hg.cell (h j hj) (fun e => hr e.symm)
theorem Tab.new {w w' : World} (h : Tab w) (hg : w.grownBy w' none) : Tab w' := h.grown hg (by simp)
/-- A kind's row. -/
structure TabK (w : World) (k : Nat) (a b c d : Bool) : Prop where
  c0 : w.cell? ⟨0, 4 * k, none⟩ = some (.bool a)
  c1 : w.cell? ⟨0, 4 * k + 1, none⟩ = some (.bool b)
  c2 : w.cell? ⟨0, 4 * k + 2, none⟩ = some (.bool c)
  c3 : w.cell? ⟨0, 4 * k + 3, none⟩ = some (.bool d)
/-- Which fields a kind has. -/
def fI (k : Int) : Bool := decide (k = 1 ∨ k = 2 ∨ k = 3 ∨ k = 4)
def fS (k : Int) : Bool := decide (k = 1 ∨ k = 4)
def fU (k : Int) : Bool := decide (k = 1)
def fC (k : Int) : Bool := decide (k = 5)
def rcV (r : Rc) : Value := .agg #[.int .i64 r.k, .int .u32 r.i, .int .i64 r.s, .int .i64 r.u, .int .i64 r.c]
def rcC (r : Rc) : List Value := [.int .i64 r.k, .int .u32 r.i, .int .i64 r.s, .int .i64 r.u, .int .i64 r.c]
def isR (has : Bool) (n lo hi : Int) : Bool := if has then decide (lo ≤ n ∧ n ≤ hi) else decide (n = 0)

theorem isKind_any (k : Int) (w : World) : Calls Tryd.prog 24 #[.int .i64 k] w fun e w' => e = .returned (.bool (decide (1 ≤ k ∧ k ≤ 5))) ∧ w' = w := by
  by_cases h1 : 1 ≤ k
  · by_cases h2 : k ≤ 5
    · rw [decide_eq_true (show 1 ≤ k ∧ k ≤ 5 from ⟨h1, h2⟩)]
      go_enter Tryd.func24, Tryd.ntmps24
      go_wp2
      go_ret
      exact ⟨rfl, rfl⟩
    · rw [decide_eq_false (show ¬ (1 ≤ k ∧ k ≤ 5) from fun h => h2 h.2)]
      go_enter Tryd.func24, Tryd.ntmps24
      go_wp2
      go_ret
      exact ⟨rfl, rfl⟩
  · rw [decide_eq_false (show ¬ (1 ≤ k ∧ k ≤ 5) from fun h => h1 h.1)]
    go_enter Tryd.func24, Tryd.ntmps24
    go_wp2
    go_ret
    exact ⟨rfl, rfl⟩
theorem isRight_any (has : Bool) (n lo hi : Int) (w : World) : Calls Tryd.prog 39 #[.bool has, .int .i64 n, .int .i64 lo, .int .i64 hi] w fun e w' => e = .returned (.bool (isR has n lo hi)) ∧ w' = w := by
  cases has with
  | false =>
    rw [show isR false n lo hi = decide (n = 0) from rfl]
    by_cases h0 : n = 0
    · rw [decide_eq_true h0]
      subst h0
      go_enter Tryd.func39, Tryd.ntmps39
      go_wp2
      go_ret
      exact ⟨rfl, rfl⟩
    · rw [decide_eq_false h0]
      have h1 : (n == 0) = false := by simpa using h0
      have h2 : decide (n = 0) = false := by simpa using h0
      go_enter Tryd.func39, Tryd.ntmps39
      go_wp2
      go_ret
      exact ⟨rfl, rfl⟩
  | true =>
    rw [show isR true n lo hi = decide (lo ≤ n ∧ n ≤ hi) from rfl]
    by_cases h1 : lo ≤ n
    · by_cases h2 : n ≤ hi
      · rw [decide_eq_true (show lo ≤ n ∧ n ≤ hi from ⟨h1, h2⟩)]
        go_enter Tryd.func39, Tryd.ntmps39
        go_wp2
        go_ret
        exact ⟨rfl, rfl⟩
      · rw [decide_eq_false (show ¬ (lo ≤ n ∧ n ≤ hi) from fun h => h2 h.2)]
        go_enter Tryd.func39, Tryd.ntmps39
        go_wp2
        go_ret
        exact ⟨rfl, rfl⟩
    · rw [decide_eq_false (show ¬ (lo ≤ n ∧ n ≤ hi) from fun h => h1 h.1)]
      go_enter Tryd.func39, Tryd.ntmps39
      go_wp2
      go_ret
      exact ⟨rfl, rfl⟩
theorem sizeIf_any (has : Bool) (n : Int) (w : World) : Calls Tryd.prog 29 #[.bool has, .int .i64 n] w fun e w' => e = .returned (.int .i64 (if has = true then n else 0)) ∧ w' = w := by
  cases has with
  | false =>
    rw [if_neg (by decide)]
    go_enter Tryd.func29, Tryd.ntmps29
    go_wp2
    go_ret
    exact ⟨rfl, rfl⟩
  | true =>
    rw [if_pos rfl]
    go_enter Tryd.func29, Tryd.ntmps29
    go_wp2
    go_ret
    exact ⟨rfl, rfl⟩
end Go.Proofs.YtghojalpdkiooaaDoor
