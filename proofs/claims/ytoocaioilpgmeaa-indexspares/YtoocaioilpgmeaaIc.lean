/- How many slots; New. -/
import Derived.Test.YtoocaioilpgmeaaIa
namespace Go.Proofs.Ytoocaioilpgmeaa
open Go.RowKit Ix
attribute [local go_sem ↓] Go.wp_at_zero Go.wp_at_succ
theorem pow_lt14 : ∀ j, j < 14 → 2 ^ j ≤ 8192 := fun j hj => Nat.pow_le_pow_right (n := 2) (by decide) (show j ≤ 13 by omega)
theorem slotsFor_any (m : Nat) (h1 : 1 ≤ m) (h2 : m ≤ 4096) (w : World) : Calls Try.prog 32 #[.int .i64 (m : Int)] w fun e w' => ∃ n : Nat, e = .returned (.int .i64 (n : Int)) ∧ Sz m n ∧ w' = w := by
  go_enter Try.func32, Try.ntmps32
  go_wp2
  go_loopg [3] 13 (fun q v wr => ∃ n : Nat, v = .int .i64 (n : Int) ∧ n ≤ 8192 ∧ Hid (wr = w ∧ n = 2 ^ (13 - q) ∧ q ≤ 13 ∧ ∀ i, i < 13 - q → 2 ^ i < 2 * m))
  case atStart => exact ⟨1, rfl, by decide, rfl, rfl, by decide, fun i hi => by omega⟩
  case round =>
    obtain ⟨n, rfl, hn, HR⟩ := hrel
    have HN := hide hn
    by_cases hlt : n < 2 * m
    · have hq : 1 ≤ gk := by
        rcases Nat.eq_zero_or_pos gk with h0 | h0
        · obtain ⟨_, e, _, _⟩ := HR.out; rw [h0] at e; omega
        · exact h0
      have hlt' : ((n : Int)) < 2 * (m : Int) := by omega
      go_wp2
      go_roundg (gk - 1)
      case rel =>
        obtain ⟨e1, e2, e3, e4⟩ := HR.out
        have e5 : 13 - (gk - 1) = (13 - gk) + 1 := by omega
        refine ⟨n * 2, by simp, by rw [e2, ← Nat.pow_succ]; exact pow_lt14 _ (by omega), e1, by rw [e5, Nat.pow_succ, ← e2], by omega, fun i hi => ?_⟩
        rcases Nat.lt_or_ge i (13 - gk) with h | h
        · exact e4 i h
        · rw [show i = 13 - gk by omega, ← e2]; exact hlt
      case measure => omega
    · have hlt' : decide ((n : Int) < 2 * (m : Int)) = false := by simp; omega
      have hlt2 : ¬ ((n : Int) < 2 * (m : Int)) := by omega
      go_wp2
      go_ret
      obtain ⟨e1, e2, e3, e4⟩ := HR.out
      refine ⟨n, rfl, ⟨by omega, 13 - gk, e2, fun i hi => ?_⟩, e1⟩
      rcases Nat.lt_or_ge i (13 - gk) with h | h
      · have := e4 i h; omega
      · exact h
theorem Try.info71 : (Try.prog.info? 71).map (fun i => (i.zero, i.size, i.bytes)) = some (some (.agg #[.bool false, .int .u32 0, .int .i64 0]), 3, 24) := by kernel_rfl
theorem sl_free (n i : Nat) : sl (List.replicate n none) i = none := by
  unfold sl
  rw [List.getElem?_replicate]
  split <;> rfl
theorem made_slots (n : Nat) : madeCells #[.bool false, .int .u32 0, .int .i64 0] (n * 3) = (scells (List.replicate n none)).toArray := by
  apply Array.ext'
  apply List.ext_getElem?
  intro j
  by_cases hj : j < n * 3
  · obtain ⟨h1, h2, h3⟩ := scells_get (S := List.replicate n none) (i := j / 3) (by simp; omega)
    rw [sl_free] at h1 h2 h3
    have hm : j = j / 3 * 3 + j % 3 := by omega
    have e : (madeCells #[.bool false, .int .u32 0, .int .i64 0] (n * 3)).toList[j]? = some (#[Value.bool false, .int .u32 0, .int .i64 0][j % 3]!) := by
      simp [madeCells, hj]
    rw [e]
    have h3' : j % 3 = 0 ∨ j % 3 = 1 ∨ j % 3 = 2 := by omega
    rcases h3' with hr | hr | hr
    · rw [hr] at hm ⊢; rw [show j = j / 3 * 3 by omega]; rw [h1]; rfl
    · rw [hr] at hm ⊢; rw [hm]; rw [show (j / 3 * 3 + 1) = j / 3 * 3 + 1 from rfl, h2]; rfl
    · rw [hr] at hm ⊢; rw [hm, h3]; rfl
  · rw [List.getElem?_eq_none (by simp [size_madeCells]; omega), List.getElem?_eq_none (by simp [scells_length]; omega)]
theorem make_slots (n : Nat) (h : n ≤ 8192) (w : World) : (Instr.makeSlice 23 (.int .i64 (n : Int)) (.int .i64 (n : Int))).run Try.prog w = .ok (.slice (some ⟨w.heap.size, 0, none⟩) n n) (w.alloc (.cells (scells (List.replicate n none)).toArray 71)) := by
  obtain ⟨i0, hi, hz0, hz1, hz2⟩ := info_parts Try.info71
  rw [run_make (P := Try.prog) (w := w) 23 71 i0 (.agg #[.bool false, .int .u32 0, .int .i64 0]) Try.underlying23 hi hz0 .i64 .i64 (n : Int) (n : Int) (by omega) (by omega) (by rw [hz2]; omega) (by omega), hz1]
  simp [made_slots, Value.cells]
/-- An index, its items M. -/
structure IxAt (w : World) (x g n m st : Nat) (S : List (Option (Nat × Int))) (M : List (Nat × Int)) : Prop where
  at_ : IxR w x g n m M.length st S
  inv : Inv (hs n) n S M
  sz : Sz m n
  m1 : 1 ≤ m
  m2 : m ≤ 4096
  full : M.length ≤ m
  st : st ≤ n
  ids : ∀ y ∈ M, y.1 < 4294967296 ∧ -9223372036854775808 ≤ y.2 ∧ y.2 ≤ 9223372036854775807
theorem inv_nil (n : Nat) (hn : 0 < n) : Inv (hs n) n (List.replicate n none) [] :=
  ⟨by simp, List.Pairwise.nil, (fun j y hj => by rw [sl_free] at hj; cases hj), (fun i j y z hi => by rw [sl_free] at hi; cases hi), (fun y => by simp [sl_free]), by simp, fun k => hs_lt hn k⟩
theorem new_any (m : Nat) (h1 : 1 ≤ m) (h2 : m ≤ 4096) (w : World) : Calls Try.prog 17 #[.int .i64 (m : Int)] w fun e w' => ∃ x g n S, e = .returned (.tuple #[.pointer (some ⟨x, 0, none⟩), .int .i64 0]) ∧ IxAt w' x g n m 0 S [] ∧ w.grownBy w' none ∧ w.heap.size ≤ x ∧ w.heap.size ≤ g := by
  have hsl := slotsFor_any m h1 h2 w
  have hmk := make_slots
  have b1 : ¬ ((m : Int) < 1) := by omega
  have b2 : ¬ ((4096 : Int) < m) := by omega
  go_enter Try.func17, Try.ntmps17
  go_wp2_with fail
  refine hsl.mono ?_
  rintro e w1 ⟨n, rfl, hsz, hw1⟩
  obtain rfl := hw1.symm
  have HZ := hide hsz
  have hn8 := hsz.most h2
  have hmk2 := hmk n hn8 w
  have HM := hide (And.intro h1 h2)
  have HN8 := hide hn8
  clear hsz hmk hsl b1 b2 h1 h2 hn8
  generalize hc : (scells (List.replicate n none)).toArray = C at *
  have HC := hide hc
  clear hc
  go_wp2
  go_ret2
  have hb : (w.alloc (.cells C 71)).heap[w.heap.size]? = some (.cells (scells (List.replicate n none)).toArray 71 (0, 0)) := by rw [HC.out]; exact heap_alloc_new w _
  have g2 := World.grownBy_alloc (w.alloc (.cells C 71)) (.cells #[.pointer (some ⟨w.heap.size + 1, 0, none⟩), .int .i64 (m : Int), .int .i64 0, .int .i64 0, .slice (some ⟨w.heap.size, 0, none⟩) n n] 25) none
  have hh := heap_alloc_new (w.alloc (.cells C 71)) (.cells #[.pointer (some ⟨w.heap.size + 1, 0, none⟩), .int .i64 (m : Int), .int .i64 0, .int .i64 0, .slice (some ⟨w.heap.size, 0, none⟩) n n] 25)
  rw [World.size_alloc] at hh
  have hn0 : 0 < n := by have := HZ.out.le; have := HM.out.1; omega
  exact ⟨w.heap.size + 1, w.heap.size, n, List.replicate n none, rfl, ⟨⟨hh, (g2.block _ (row_lt hb) (by simp)).trans hb, by simp, hn0, HN8.out⟩, inv_nil n hn0, HZ.out, HM.out.1, HM.out.2, Nat.zero_le _, Nat.zero_le _, fun y hy => by simp at hy⟩, grown_trans (World.grownBy_alloc w _ none) g2, by omega, Nat.le_refl _⟩
theorem new_bad (m : Int) (h : m < 1 ∨ 4096 < m) (w : World) : Calls Try.prog 17 #[.int .i64 m] w fun e w' => e = .returned (.tuple #[.pointer none, .int .i64 2]) ∧ w' = w := by
  rcases h with h | h
  · go_enter Try.func17, Try.ntmps17
    go_wp2
    go_ret2
    exact ⟨rfl, rfl⟩
  · have b1 : ¬ (m < 1) := by omega
    go_enter Try.func17, Try.ntmps17
    go_wp2
    go_ret2
    exact ⟨rfl, rfl⟩
end Go.Proofs.Ytoocaioilpgmeaa
