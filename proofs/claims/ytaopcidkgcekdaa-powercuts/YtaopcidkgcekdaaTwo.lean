/- The contracts of may, sector, copied, mayBe, New, lasting. -/
import Derived.Test.YtaopcidkgcekdaaOne
namespace Go.Proofs.Ytaopcidkgcekdaa
open Go.RowKit Ap
attribute [local go_sem ↓] Go.wp_at_zero Go.wp_at_succ

set_option maxHeartbeats 400000 in
theorem may_none (p : Option Addr) (at_ : Int) (w : World) (h : NoDisk w p) : Calls Try.prog 48 #[.pointer p, .int .i64 at_] w fun e w' => e = .returned (.int .i64 1) ∧ w' = w := by
  have H := hide h.is
  clear h
  go_enter Try.func48, Try.ntmps48
  go_wp2_with fail
  refine H.out.mono ?_
  rintro e w' ⟨rfl, rfl⟩
  go_wp2
  go_ret
  exact ⟨rfl, rfl⟩
/-- What is wrong with a sector's number. -/
def mayC (n : Nat) (a : Int) : Int := if 0 ≤ a ∧ a < (n : Int) then 0 else 50
section
variable {w : World} {k : Dk} {n size : Nat} {D : List Nat} {W : List Wt}
set_option maxHeartbeats 1000000 in
theorem may_any (h : DiskAt w k n size D W) (a : Int) : Calls Try.prog 48 #[.pointer (some ⟨k.d, 0, none⟩), .int .i64 a] w fun e w' => e = .returned (.int .i64 (mayC n a)) ∧ ∃ q, w' = w.drewN q := by
  have H := hide h.is
  have HS := hide (sectors_any h)
  clear h
  by_cases h0 : a < 0
  · have e : mayC n a = 50 := by unfold mayC; rw [if_neg (by omega)]
    rw [e]
    go_enter Try.func48, Try.ntmps48
    go_wp2_with fail
    refine H.out.mono ?_
    rintro e w' ⟨rfl, rfl⟩
    go_wp2
    go_ret
    exact ⟨rfl, 0, rfl⟩
  · by_cases h1 : a < (n : Int)
    · have e : mayC n a = 0 := by unfold mayC; rw [if_pos (by omega)]
      rw [e]
      go_enter Try.func48, Try.ntmps48
      go_wp2_with fail
      refine H.out.mono ?_
      rintro e w' ⟨rfl, rfl⟩
      go_wp2_with fail
      refine HS.out.mono ?_
      rintro e w' ⟨rfl, q, rfl⟩
      go_wp2
      go_ret
      exact ⟨rfl, q, rfl⟩
    · have e : mayC n a = 50 := by unfold mayC; rw [if_neg (by omega)]
      rw [e]
      go_enter Try.func48, Try.ntmps48
      go_wp2_with fail
      refine H.out.mono ?_
      rintro e w' ⟨rfl, rfl⟩
      go_wp2_with fail
      refine HS.out.mono ?_
      rintro e w' ⟨rfl, q, rfl⟩
      go_wp2
      go_ret
      exact ⟨rfl, q, rfl⟩

theorem slice_lh (g len cap lo hi : Nat) (h : lo < hi) (h2 : hi ≤ cap) (w : World) : (Instr.slice 22 (.slice (some ⟨g, 0, none⟩) len cap) (some (.int .i64 (lo : Int))) (some (.int .i64 (hi : Int))) none).run Try.prog w = .ok (.slice (some ⟨g, lo, none⟩) (hi - lo) (cap - lo)) w := by
  simp [Instr.slice, run_underlying Try.underlying22, Instr.sliceBounds, Instr.sliceBound, asIntOf, Addr.add, Nat.le_of_lt h, h2]
  rw [if_neg (by omega)]
  split
  · rename_i e; rw [e]
  · rfl
set_option maxHeartbeats 1000000 in
theorem sector_any (h : DiskAt w k n size D W) (s : Nat) (hs : s < n) : Calls Try.prog 44 #[.pointer (some ⟨k.d, 0, none⟩), .int .i64 (s : Int)] w fun e w' => e = .returned (.slice (some ⟨k.db, s * size, none⟩) size (n * size - s * size)) ∧ ∃ q, w' = w.drewN q := by
  have c1 := h.c1
  have c2 := h.c2
  have hb := h.shape.all
  have hn := h.shape.n1
  have hle : (s + 1) * size ≤ n * size := Nat.mul_le_mul_right _ hs
  have e1 : IntKind.i64.wrap ((s : Int) * (size : Int)) = ((s * size : Nat) : Int) := by
    rw [← Int.natCast_mul]; rw [show (s + 1) * size = s * size + size from Nat.succ_mul _ _] at hle; generalize s * size = y at *; generalize n * size = z at *; simp [IntKind.wrap, IntKind.bits, IntKind.signed]; omega
  have e2 : IntKind.i64.wrap (((s : Int) + 1) * (size : Int)) = (((s + 1) * size : Nat) : Int) := by
    rw [show ((s : Int) + 1) * (size : Int) = (((s + 1) * size : Nat) : Int) by push_cast; rfl]; generalize (s + 1) * size = y at *; generalize n * size = z at *; simp [IntKind.wrap, IntKind.bits, IntKind.signed]; omega
  have hsl := slice_lh k.db (n * size) (n * size) (s * size) ((s + 1) * size) (by rw [Nat.succ_mul]; have := h.shape.s0; omega) hle
  rw [show (s + 1) * size - s * size = size by rw [Nat.succ_mul]; omega] at hsl
  generalize (s + 1) * size = y at *
  generalize s * size = x at *
  generalize n * size = z at *
  clear h hle
  go_enter Try.func44, Try.ntmps44
  go_wp2_with fail
  go_quiet (fail)
  go_wp2
  go_ret
  exact ⟨rfl, _, rfl⟩
end

/-- A row of noughts. -/
def zs (n : Nat) : List Nat := List.replicate n 0
theorem bv_zs (n : Nat) : bv (zs n) = zrow n := by simp [bv, zs, zrow]
theorem make_bytes (n : Nat) (h : n ≤ 140737488355328) (w : World) : (Instr.makeSlice 22 (.int .i64 (n : Int)) (.int .i64 (n : Int))).run Try.prog w = .ok (.slice (some ⟨w.heap.size, 0, none⟩) n n) (w.alloc (.cells (bv (zs n)).toArray 5)) := by
  obtain ⟨i0, hi, hz0, hz1, hz2⟩ := info_parts Try.info5
  rw [run_make (P := Try.prog) (w := w) 22 5 i0 (.int .u8 0) Try.underlying22 hi hz0 .i64 .i64 (n : Int) (n : Int) (by omega) (by omega) (by rw [hz2]; omega) (by omega), hz1]
  rw [Int.toNat_natCast, Nat.mul_one, bv_zs]
  show Result.ok _ (w.alloc (.cells (madeCells #[.int .u8 0] n) 5)) = _
  rw [made_zrow]
  rfl
theorem splice_whole (xs ys : List Nat) (h : ys.length = xs.length) : splice xs 0 ys = ys := by
  simp [splice, h]
set_option maxHeartbeats 1000000 in
theorem copied_any (ao : Option Addr) (m cap : Nat) (xs : List Nat) (w : World) (hat : At w ao xs) (hl : xs.length = m) (hm : m ≤ 140737488355328) :
    Calls Try.prog 43 #[.slice ao m cap] w fun e w' => e = .returned (.slice (some ⟨w.heap.size, 0, none⟩) m m) ∧ w'.heap[w.heap.size]? = some (.cells (bv xs).toArray 5 (0, 0)) ∧ w.grownBy w' none := by
  have hmk := make_bytes m hm w
  obtain ⟨W, hrun, hW, hg⟩ := run_copy_any (w.alloc (.cells (bv (zs m)).toArray 5)) w.heap.size 0 m m ao m cap (zs m) xs (heap_alloc_new w _) (by simp [hl]) (by simp [zs, hl]) (hat.grown (World.grownBy_alloc w _ none))
  rw [splice_whole _ _ (by simp [zs, hl])] at hW
  have H : Hid (W.heap[w.heap.size]? = some (.cells (bv xs).toArray 5 (0, 0)) ∧ w.grownBy W none) := ⟨hW, grown_then (World.grownBy_alloc w _ none) hg (fun k e => by cases e; exact Or.inl (Nat.le_refl _))⟩
  rw [hl] at hrun
  clear hW hg hat hl
  go_enter Try.func43, Try.ntmps43
  go_wp2
  go_ret
  exact ⟨rfl, H.out⟩

/-- May there be such a disk? -/
def p2 (size : Int) : Bool := decide (bits .and .i64 size (IntKind.i64.wrap (size - 1)) = 0)
def mayB (n size : Int) : Bool := decide (1 ≤ n) && decide (n ≤ 65536) && decide (64 ≤ size) && decide (size ≤ 4096) && p2 size && decide (n * size ≤ 67108864)
theorem mayB_iff (n size : Int) : mayB n size = true ↔ 1 ≤ n ∧ n ≤ 65536 ∧ 64 ≤ size ∧ size ≤ 4096 ∧ p2 size = true ∧ n * size ≤ 67108864 := by
  simp [mayB, and_assoc]
set_option maxHeartbeats 1000000 in
theorem mayBe_any (n size : Int) (w : World) : Calls Try.prog 32 #[.int .i64 n, .int .i64 size] w fun e w' => e = .returned (.bool (mayB n size)) ∧ w' = w := by
  by_cases h : 1 ≤ n ∧ n ≤ 65536 ∧ 64 ≤ size ∧ size ≤ 4096
  · obtain ⟨h1, h2, h3, h4⟩ := h
    have e : mayB n size = (p2 size && decide (n * size ≤ 67108864)) := by simp [mayB, h1, h2, h3, h4]
    have hlo : 0 ≤ n * size := Int.mul_nonneg (by omega) (by omega)
    have hhi : n * size ≤ 65536 * 4096 := Int.mul_le_mul h2 h4 (by omega) (by omega)
    have hw : wrap64 (n * size) = n * size := by unfold wrap64; omega
    rw [e]
    unfold p2
    generalize hb : bits .and .i64 size (IntKind.i64.wrap (size - 1)) = b at *
    have hb2 : bits .and .i64 size (size - 1) = b := by rw [← hb]; simp [IntKind.wrap, IntKind.bits, IntKind.signed]; congr 1; omega
    have HB := hide hb
    clear hb
    by_cases hb0 : b = 0
    · subst hb0
      go_enter Try.func32, Try.ntmps32
      go_wp2
      go_ret
      exact ⟨by simp, rfl⟩
    · go_enter Try.func32, Try.ntmps32
      go_wp2
      go_ret
      exact ⟨by simp [hb0], rfl⟩
  · have e : mayB n size = false := by
      simp only [mayB]
      by_cases a1 : 1 ≤ n
      · by_cases a2 : n ≤ 65536
        · by_cases a3 : 64 ≤ size
          · by_cases a4 : size ≤ 4096
            · exact absurd ⟨a1, a2, a3, a4⟩ h
            · simp [a4]
          · simp [a3]
        · simp [a2]
      · simp [a1]
    rw [e]
    by_cases a1 : 1 ≤ n
    · by_cases a2 : n ≤ 65536
      · by_cases a3 : 64 ≤ size
        · by_cases a4 : size ≤ 4096
          · exact absurd ⟨a1, a2, a3, a4⟩ h
          · clear h e
            go_enter Try.func32, Try.ntmps32
            go_wp2
            go_ret
            exact ⟨rfl, rfl⟩
        · clear h e
          go_enter Try.func32, Try.ntmps32
          go_wp2
          go_ret
          exact ⟨rfl, rfl⟩
      · clear h e
        go_enter Try.func32, Try.ntmps32
        go_wp2
        go_ret
        exact ⟨rfl, rfl⟩
    · clear h e
      go_enter Try.func32, Try.ntmps32
      go_wp2
      go_ret
      exact ⟨rfl, rfl⟩

/-- How many bytes of a write last. -/
def lasts (kind at_ : Int) (size : Nat) : Nat := if kind = 1 then size else if kind = 2 then min (max at_ 0) (size : Int) |>.toNat else 0
theorem lasts_le (kind at_ : Int) (size : Nat) : lasts kind at_ size ≤ size := by
  unfold lasts; split
  · exact Nat.le_refl _
  · split
    · omega
    · omega
set_option maxHeartbeats 1000000 in
theorem lasting_any (kind at_ : Int) (size : Nat) (w : World) : Calls Try.prog 50 #[.agg #[.int .i64 kind, .int .i64 at_], .int .i64 (size : Int)] w fun e w' => e = .returned (.int .i64 ((lasts kind at_ size : Nat) : Int)) ∧ w.grownBy w' none := by
  unfold lasts
  by_cases h1 : kind = 1
  · subst h1
    go_enter Try.func50, Try.ntmps50
    go_wp2
    go_ret
    exact ⟨rfl, World.grownBy_alloc w _ none⟩
  · by_cases h2 : kind = 2
    · subst h2
      go_enter Try.func50, Try.ntmps50
      go_wp2
      all_goals go_ret
      all_goals exact ⟨by simp; omega, World.grownBy_alloc w _ none⟩
    · rw [if_neg h1, if_neg h2]
      go_enter Try.func50, Try.ntmps50
      go_wp2
      go_ret
      exact ⟨rfl, World.grownBy_alloc w _ none⟩
end Go.Proofs.Ytaopcidkgcekdaa
