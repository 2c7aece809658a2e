/- Texts joined: Two, Ops. -/
import Derived.Test.YtonokaelbpfjnaaGreatDoorJhAa
import Derived.Carry
/- The contracts of may, sector, copied, mayBe, New, lasting. -/
namespace Go.Proofs.YtonokaelbpfjnaaGreatDoor
open Go.RowKit Ap
attribute [local go_sem ↓] Go.wp_at_zero Go.wp_at_succ

set_option maxHeartbeats 400000 in
theorem may_none (p : Option Addr) (at_ : Int) (w : World) (h : NoDisk w p) : Calls Tryz.prog 130 #[.pointer p, .int .i64 at_] w fun e w' => e = .returned (.int .i64 1) ∧ w' = w := by
  have H := hide h.is
  clear h
  go_enter Tryz.func130, Tryz.ntmps130
  go_wp2_with fail
  refine H.out.mono ?_
  rintro e w' ⟨rfl, rfl⟩
  go_wp2
  go_ret
  exact ⟨rfl, rfl⟩
/-- What is wrong with a sector's number. -/
def mayC (n : Nat) (a : Int) : Int := if 0 ≤ a ∧ a < (n : Int) then 0 else 50
section
variable {w : World} {k : Dk} {n size : Nat} {D : List Nat} {W : List Wt}
set_option maxHeartbeats 1000000 in
theorem may_any (h : DiskAt w k n size D W) (a : Int) : Calls Tryz.prog 130 #[.pointer (some ⟨k.d, 0, none⟩), .int .i64 a] w fun e w' => e = .returned (.int .i64 (mayC n a)) ∧ ∃ q, w' = w.drewN q := by
  have H := hide h.is
  have HS := hide (sectors_any h)
  clear h
  by_cases h0 : a < 0
  · have e : mayC n a = 50 := by unfold mayC; rw [if_neg (by omega)]
    rw [e]
    go_enter Tryz.func130, Tryz.ntmps130
    go_wp2_with fail
    refine H.out.mono ?_
    rintro e w' ⟨rfl, rfl⟩
    go_wp2
    go_ret
    exact ⟨rfl, 0, rfl⟩
  · by_cases h1 : a < (n : Int)
    · have e : mayC n a = 0 := by unfold mayC; rw [if_pos (by omega)]
      rw [e]
      go_enter Tryz.func130, Tryz.ntmps130
      go_wp2_with fail
      refine H.out.mono ?_
      rintro e w' ⟨rfl, rfl⟩
      go_wp2_with fail
      refine HS.out.mono ?_
      rintro e w' ⟨rfl, q, rfl⟩
      go_wp2
      go_ret
      exact ⟨rfl, q, rfl⟩
    · have e : mayC n a = 50 := by unfold mayC; rw [if_neg (by omega)]
      rw [e]
      go_enter Tryz.func130, Tryz.ntmps130
      go_wp2_with fail
      refine H.out.mono ?_
      rintro e w' ⟨rfl, rfl⟩
      go_wp2_with fail
      refine HS.out.mono ?_
      rintro e w' ⟨rfl, q, rfl⟩
      go_wp2
      go_ret
      exact ⟨rfl, q, rfl⟩

theorem slice_lh (g len cap lo hi : Nat) (h : lo < hi) (h2 : hi ≤ cap) (w : World) : (Instr.slice 36 (.slice (some ⟨g, 0, none⟩) len cap) (some (.int .i64 (lo : Int))) (some (.int .i64 (hi : Int))) none).run Tryz.prog w = .ok (.slice (some ⟨g, lo, none⟩) (hi - lo) (cap - lo)) w := by
  simp [Instr.slice, run_underlying Tryz.underlying36, Instr.sliceBounds, Instr.sliceBound, asIntOf, Addr.add, Nat.le_of_lt h, h2]
  rw [if_neg (by omega)]
  split
  · rename_i e; rw [e]
  · rfl
set_option maxHeartbeats 1000000 in
theorem sector_any (h : DiskAt w k n size D W) (s : Nat) (hs : s < n) : Calls Tryz.prog 134 #[.pointer (some ⟨k.d, 0, none⟩), .int .i64 (s : Int)] w fun e w' => e = .returned (.slice (some ⟨k.db, s * size, none⟩) size (n * size - s * size)) ∧ ∃ q, w' = w.drewN q := by
  have c1 := h.c1
  have c2 := h.c2
  have hb := h.shape.all
  have hn := h.shape.n1
  have hle : (s + 1) * size ≤ n * size := Nat.mul_le_mul_right _ hs
  have e1 : IntKind.i64.wrap ((s : Int) * (size : Int)) = ((s * size : Nat) : Int) := by
    rw [← Int.natCast_mul]; rw [show (s + 1) * size = s * size + size from Nat.succ_mul _ _] at hle; generalize s * size = y at *; generalize n * size = z at *; simp [IntKind.wrap, IntKind.bits, IntKind.signed]; omega
  have e2 : IntKind.i64.wrap (((s : Int) + 1) * (size : Int)) = (((s + 1) * size : Nat) : Int) := by
    rw [show ((s : Int) + 1) * (size : Int) = (((s + 1) * size : Nat) : Int) by push_cast; rfl]; generalize (s + 1) * size = y at *; generalize n * size = z at *; simp [IntKind.wrap, IntKind.bits, IntKind.signed]; omega
  have hsl := slice_lh k.db (n * size) (n * size) (s * size) ((s + 1) * size) (by rw [Nat.succ_mul]; have := h.shape.s0; omega) hle
  rw [show (s + 1) * size - s * size = size by rw [Nat.succ_mul]; omega] at hsl
  generalize (s + 1) * size = y at *
  generalize s * size = x at *
  generalize n * size = z at *
  clear h hle
  go_enter Tryz.func134, Tryz.ntmps134
  go_wp2_with fail
  go_quiet (fail)
  go_wp2
  go_ret
  exact ⟨rfl, _, rfl⟩
end

/-- A row of noughts. -/
def zs (n : Nat) : List Nat := List.replicate n 0
theorem bv_zs (n : Nat) : bv (zs n) = zrow n := by simp [bv, zs, zrow]
theorem make_bytes (n : Nat) (h : n ≤ 140737488355328) (w : World) : (Instr.makeSlice 36 (.int .i64 (n : Int)) (.int .i64 (n : Int))).run Tryz.prog w = .ok (.slice (some ⟨w.heap.size, 0, none⟩) n n) (w.alloc (.cells (bv (zs n)).toArray 5)) := by
  obtain ⟨i0, hi, hz0, hz1, hz2⟩ := info_parts Tryz.info5
  rw [run_make (P := Tryz.prog) (w := w) 36 5 i0 (.int .u8 0) Tryz.underlying36 hi hz0 .i64 .i64 (n : Int) (n : Int) (by omega) (by omega) (by rw [hz2]; omega) (by omega), hz1]
  rw [Int.toNat_natCast, Nat.mul_one, bv_zs]
  show Result.ok _ (w.alloc (.cells (madeCells #[.int .u8 0] n) 5)) = _
  rw [made_zrow]
  rfl
theorem splice_whole (xs ys : List Nat) (h : ys.length = xs.length) : splice xs 0 ys = ys := by
  simp [splice, h]
set_option maxHeartbeats 1000000 in
theorem copied_any (ao : Option Addr) (m cap : Nat) (xs : List Nat) (w : World) (hat : At w ao xs) (hl : xs.length = m) (hm : m ≤ 140737488355328) :
    Calls Tryz.prog 131 #[.slice ao m cap] w fun e w' => e = .returned (.slice (some ⟨w.heap.size, 0, none⟩) m m) ∧ w'.heap[w.heap.size]? = some (.cells (bv xs).toArray 5 (0, 0)) ∧ w.grownBy w' none := by
  have hmk := make_bytes m hm w
  obtain ⟨W, hrun, hW, hg⟩ := run_copy_any (w.alloc (.cells (bv (zs m)).toArray 5)) w.heap.size 0 m m ao m cap (zs m) xs (heap_alloc_new w _) (by simp [hl]) (by simp [zs, hl]) (hat.grown (World.grownBy_alloc w _ none))
  rw [splice_whole _ _ (by simp [zs, hl])] at hW
  have H : Hid (W.heap[w.heap.size]? = some (.cells (bv xs).toArray 5 (0, 0)) ∧ w.grownBy W none) := ⟨hW, grown_then (World.grownBy_alloc w _ none) hg (fun k e => by cases e; exact Or.inl (Nat.le_refl _))⟩
  rw [hl] at hrun
  clear hW hg hat hl
  go_enter Tryz.func131, Tryz.ntmps131
  go_wp2
  go_ret
  exact ⟨rfl, H.out⟩

/-- May there be such a disk? -/
def p2 (size : Int) : Bool := decide (bits .and .i64 size (IntKind.i64.wrap (size - 1)) = 0)
def mayB (n size : Int) : Bool := decide (1 ≤ n) && decide (n ≤ 65536) && decide (64 ≤ size) && decide (size ≤ 4096) && p2 size && decide (n * size ≤ 67108864)
theorem mayB_iff (n size : Int) : mayB n size = true ↔ 1 ≤ n ∧ n ≤ 65536 ∧ 64 ≤ size ∧ size ≤ 4096 ∧ p2 size = true ∧ n * size ≤ 67108864 := by
  simp [mayB, and_assoc]
set_option maxHeartbeats 1000000 in
theorem mayBe_any (n size : Int) (w : World) : Calls Tryz.prog 88 #[.int .i64 n, .int .i64 size] w fun e w' => e = .returned (.bool (mayB n size)) ∧ w' = w := by
  by_cases h : 1 ≤ n ∧ n ≤ 65536 ∧ 64 ≤ size ∧ size ≤ 4096
  · obtain ⟨h1, h2, h3, h4⟩ := h
    have e : mayB n size = (p2 size && decide (n * size ≤ 67108864)) := by simp [mayB, h1, h2, h3, h4]
    have hlo : 0 ≤ n * size := Int.mul_nonneg (by omega) (by omega)
    have hhi : n * size ≤ 65536 * 4096 := Int.mul_le_mul h2 h4 (by omega) (by omega)
    have hw : wrap64 (n * size) = n * size := by unfold wrap64; omega
    rw [e]
    unfold p2
    generalize hb : bits .and .i64 size (IntKind.i64.wrap (size - 1)) = b at *
    have hb2 : bits .and .i64 size (size - 1) = b := by rw [← hb]; simp [IntKind.wrap, IntKind.bits, IntKind.signed]; congr 1; omega
    have HB := hide hb
    clear hb
    by_cases hb0 : b = 0
    · subst hb0
      go_enter Tryz.func88, Tryz.ntmps88
      go_wp2
      go_ret
      exact ⟨by simp, rfl⟩
    · go_enter Tryz.func88, Tryz.ntmps88
      go_wp2
      go_ret
      exact ⟨by simp [hb0], rfl⟩
  · have e : mayB n size = false := by
      simp only [mayB]
      by_cases a1 : 1 ≤ n
      · by_cases a2 : n ≤ 65536
        · by_cases a3 : 64 ≤ size
          · by_cases a4 : size ≤ 4096
            · exact absurd ⟨a1, a2, a3, a4⟩ h
            · simp [a4]
          · simp [a3]
        · simp [a2]
      · simp [a1]
    rw [e]
    by_cases a1 : 1 ≤ n
    · by_cases a2 : n ≤ 65536
      · by_cases a3 : 64 ≤ size
        · by_cases a4 : size ≤ 4096
          · exact absurd ⟨a1, a2, a3, a4⟩ h
          · clear h e
            go_enter Tryz.func88, Tryz.ntmps88
            go_wp2
            go_ret
            exact ⟨rfl, rfl⟩
        · clear h e
          go_enter Tryz.func88, Tryz.ntmps88
          go_wp2
          go_ret
          exact ⟨rfl, rfl⟩
      · clear h e
        go_enter Tryz.func88, Tryz.ntmps88
        go_wp2
        go_ret
        exact ⟨rfl, rfl⟩
    · clear h e
      go_enter Tryz.func88, Tryz.ntmps88
      go_wp2
      go_ret
      exact ⟨rfl, rfl⟩

/-- How many bytes of a write last. -/
def lasts (kind at_ : Int) (size : Nat) : Nat := if kind = 1 then size else if kind = 2 then min (max at_ 0) (size : Int) |>.toNat else 0
theorem lasts_le (kind at_ : Int) (size : Nat) : lasts kind at_ size ≤ size := by
  unfold lasts; split
  · exact Nat.le_refl _
  · split
    · omega
    · omega
set_option maxHeartbeats 1000000 in
theorem lasting_any (kind at_ : Int) (size : Nat) (w : World) : Calls Tryz.prog 137 #[.agg #[.int .i64 kind, .int .i64 at_], .int .i64 (size : Int)] w fun e w' => e = .returned (.int .i64 ((lasts kind at_ size : Nat) : Int)) ∧ w.grownBy w' none := by
  unfold lasts
  by_cases h1 : kind = 1
  · subst h1
    go_enter Tryz.func137, Tryz.ntmps137
    go_wp2
    go_ret
    exact ⟨rfl, World.grownBy_alloc w _ none⟩
  · by_cases h2 : kind = 2
    · subst h2
      go_enter Tryz.func137, Tryz.ntmps137
      go_wp2
      all_goals go_ret
      all_goals exact ⟨by simp; omega, World.grownBy_alloc w _ none⟩
    · rw [if_neg h1, if_neg h2]
      go_enter Tryz.func137, Tryz.ntmps137
      go_wp2
      go_ret
      exact ⟨rfl, World.grownBy_alloc w _ none⟩
end Go.Proofs.YtonokaelbpfjnaaGreatDoor
/- The contracts of New, Write, Read. -/
namespace Go.Proofs.YtonokaelbpfjnaaGreatDoor
open Go.RowKit Ap
attribute [local go_sem ↓] Go.wp_at_zero Go.wp_at_succ

set_option maxHeartbeats 400000 in
theorem new_bad (n size : Int) (w : World) (h : mayB n size = false) : Calls Tryz.prog 34 #[.int .i64 n, .int .i64 size] w fun e w' => e = .returned (.tuple #[.pointer none, .int .i64 2]) ∧ w' = w := by
  have H := hide (mayBe_any n size w)
  rw [h] at H
  clear h
  go_enter Tryz.func34, Tryz.ntmps34
  go_wp2_with fail
  refine H.out.mono ?_
  rintro e w' ⟨rfl, rfl⟩
  go_wp2
  go_ret2
  exact ⟨rfl, rfl⟩
theorem shape_of {n size : Nat} (h : mayB (n : Int) (size : Int) = true) : Shape n size := by
  obtain ⟨h1, h2, h3, h4, _, h6⟩ := (mayB_iff _ _).1 h
  have h7 : ((n * size : Nat) : Int) ≤ 67108864 := by rw [Int.natCast_mul]; exact h6
  exact ⟨by omega, by omega, by omega, by omega, by omega⟩
theorem zs_length (n : Nat) : (zs n).length = n := by simp [zs]
set_option maxHeartbeats 1000000 in
theorem new_any (n size : Nat) (w : World) (h : mayB (n : Int) (size : Int) = true) : Calls Tryz.prog 34 #[.int .i64 (n : Int), .int .i64 (size : Int)] w fun e w' =>
    e = .returned (.tuple #[.pointer (some ⟨w.heap.size + 2, 0, none⟩), .int .i64 0]) ∧ DiskAt w' ⟨w.heap.size + 2, w.heap.size, .slice none 0 0, w.heap.size + 1⟩ n size (zs (n * size)) [] ∧ w.grownBy w' none := by
  have H := hide (mayBe_any n size w)
  have hs := shape_of h
  have hmk := make_bytes (n * size) (by have := hs.all; omega) w
  rw [h] at H
  have hw : wrap64 ((n : Int) * (size : Int)) = ((n * size : Nat) : Int) := by rw [← Int.natCast_mul]; have := hs.all; unfold wrap64; omega
  have hmm := @run_makeMap Tryz.prog
  have HP : Hid (∀ w', w' = ((w.alloc (.cells (bv (zs (n * size))).toArray 5)).alloc (.map #[] 0)).alloc (.cells #[.bool true, .int .i64 (size : Int), .slice (some ⟨w.heap.size, 0, none⟩) (n * size) (n * size), .slice none 0 0, .map (some (w.heap.size + 1))] 141) →
      DiskAt w' ⟨w.heap.size + 2, w.heap.size, .slice none 0 0, w.heap.size + 1⟩ n size (zs (n * size)) [] ∧ w.grownBy w' none) := by
    rintro w' rfl
    have g1 := World.grownBy_alloc w (.cells (bv (zs (n * size))).toArray 5) none
    have g2 := World.grownBy_alloc (w.alloc (.cells (bv (zs (n * size))).toArray 5)) (.map #[] 0) none
    have g3 := World.grownBy_alloc ((w.alloc (.cells (bv (zs (n * size))).toArray 5)).alloc (.map #[] 0)) (.cells #[.bool true, .int .i64 (size : Int), .slice (some ⟨w.heap.size, 0, none⟩) (n * size) (n * size), .slice none 0 0, .map (some (w.heap.size + 1))] 141) none
    have s1 : (w.alloc (.cells (bv (zs (n * size))).toArray 5)).heap.size = w.heap.size + 1 := Array.size_push ..
    have s2 : ((w.alloc (.cells (bv (zs (n * size))).toArray 5)).alloc (.map #[] 0)).heap.size = w.heap.size + 2 := (Array.size_push ..).trans (congrArg (· + 1) s1)
    refine ⟨⟨hs, ?_, ?_, zs_length _, World.ownsRow_nil _ _ _ _, ?_, by simp, by simp⟩, grown_trans (grown_trans g1 g2) g3⟩
    · have := heap_alloc_new ((w.alloc (.cells (bv (zs (n * size))).toArray 5)).alloc (.map #[] 0)) (.cells #[.bool true, .int .i64 (size : Int), .slice (some ⟨w.heap.size, 0, none⟩) (n * size) (n * size), .slice none 0 0, .map (some (w.heap.size + 1))] 141)
      rw [s2] at this
      exact this
    · exact ((grown_trans g2 g3).block w.heap.size (by omega) (by simp)).trans (heap_alloc_new w _)
    · refine mapAt_made (clock := 0) ?_
      have := heap_alloc_new (w.alloc (.cells (bv (zs (n * size))).toArray 5)) (.map #[] 0)
      rw [s1] at this
      exact (g3.block (w.heap.size + 1) (by omega) (by simp)).trans this
  generalize n * size = m at *
  clear h hs
  go_enter Tryz.func34, Tryz.ntmps34
  go_wp2_with fail
  refine H.out.mono ?_
  rintro e w' ⟨rfl, rfl⟩
  go_wp2
  go_ret2
  exact ⟨rfl, HP.out _ rfl⟩

/-- m[x] = v at the operation. -/
theorem wpList_mapUpdate_at {w : World} {ops : Array Oper} {rest : List Oper} {o : Oper} {a : Act} {Q : Exit → Act → World → Prop} (hg : o.guard = none) (m x v : Operand) (hop : o.op = Op.mapUpdate 138 m x v)
    (b n : Nat) (f : Int → Option Value) (hm : a.eval m = .map (some b)) (hown : MapAt w Tryz.prog 3 b n f) (hn : n < maxLen) (s : Int) (val : Value) (hx : a.eval x = .int .i64 s) (hv : a.eval v = val) (hs : (Lit.int .i64 s).wf = true)
    (hK : ∀ w', MapAt w' Tryz.prog 3 b (n + 1) (fun y => if y = s then some val else f y) → w.grownBy w' (some b) → wpList Tryz.prog ops Q rest (a.put o.dst undef) w') :
    wpList Tryz.prog ops Q (o :: rest) a w := by
  refine wpList_plain hg fun K' hK' => ?_
  obtain ⟨w', hrun, r1, r2⟩ := hown.store (t := 138) (e := 36) Tryz.underlying3 Tryz.underlying138 hn hs val
  unfold Oper.wp
  simp [execOp, hop, hm, hx, hv, hrun, Result.andThen]
  exact hK' _ _ (hK w' r1 r2)
theorem Tryz.info176 : (Tryz.prog.info? 176).map (fun i => (i.zero, i.size, i.bytes)) = some (some (.agg #[.int .i64 0, .slice none 0 0]), 2, 32) := by kernel_rfl
theorem wf_i64 {s : Int} (h0 : -9223372036854775808 ≤ s) (h1 : s ≤ 9223372036854775807) : (Lit.int .i64 s).wf = true := by
  simp [Lit.wf, IntKind.min, IntKind.max, IntKind.signed, IntKind.bits]; omega

section
variable {w : World} {k : Dk} {n size : Nat} {D : List Nat} {W : List Wt}
set_option maxHeartbeats 400000 in
theorem write_none (p : Option Addr) (a : Int) (v : Value) (w : World) (h : NoDisk w p) : Calls Tryz.prog 97 #[.pointer p, .int .i64 a, v] w fun e w' => e = .returned (.int .i64 1) ∧ w' = w := by
  have H := hide (may_none p a w h)
  clear h
  go_enter Tryz.func97, Tryz.ntmps97
  go_wp2_with fail
  refine H.out.mono ?_
  rintro e w' ⟨rfl, rfl⟩
  go_wp2
  go_ret
  exact ⟨rfl, rfl⟩
set_option maxHeartbeats 400000 in
theorem write_far (h : DiskAt w k n size D W) (a : Int) (v : Value) (ha : ¬ (0 ≤ a ∧ a < (n : Int))) : Calls Tryz.prog 97 #[.pointer (some ⟨k.d, 0, none⟩), .int .i64 a, v] w fun e w' => e = .returned (.int .i64 50) ∧ w.grownBy w' none := by
  have H := hide (may_any h a)
  rw [show mayC n a = 50 from if_neg ha] at H
  clear h ha
  go_enter Tryz.func97, Tryz.ntmps97
  go_wp2_with fail
  refine H.out.mono ?_
  rintro e w' ⟨rfl, q, rfl⟩
  go_wp2
  go_ret
  exact ⟨rfl, grown_drewN _ _ _⟩
set_option maxHeartbeats 400000 in
theorem write_long (h : DiskAt w k n size D W) (a : Int) (ao : Option Addr) (m cap : Nat) (ha : 0 ≤ a ∧ a < (n : Int)) (hm : m ≠ size) : Calls Tryz.prog 97 #[.pointer (some ⟨k.d, 0, none⟩), .int .i64 a, .slice ao m cap] w fun e w' => e = .returned (.int .i64 3) ∧ w.grownBy w' none := by
  have H := hide (may_any h a)
  have c1 : ∀ q, (w.drewN q).cell? ⟨k.d, 1, none⟩ = some (.int .i64 (size : Int)) := fun q => h.c1
  rw [show mayC n a = 0 from if_pos ha] at H
  have hm1 : ¬ (m : Int) = (size : Int) := by omega
  have hm2 : decide ((m : Int) = (size : Int)) = false := decide_eq_false hm1
  have hm3 : ((m : Int) == (size : Int)) = false := by simpa using hm1
  clear h ha hm
  go_enter Tryz.func97, Tryz.ntmps97
  go_wp2_with fail
  refine H.out.mono ?_
  rintro e w' ⟨rfl, q, rfl⟩
  have c1' := c1 q
  clear c1
  generalize hwq : w.drewN q = wq at *
  have HW := hide hwq
  clear hwq
  go_wp2
  go_ret
  exact ⟨rfl, by rw [← HW.out]; exact grown_drewN _ _ _⟩

theorem cell_two (w : World) (u v : Value) (t : TypeId) : ∀ j x, [u, v][j]? = some x → (w.alloc (.cells #[u, v] t)).cell? ((⟨w.heap.size, 0, none⟩ : Addr).add j) = some x := by
  intro j x h
  rw [Addr.add_lit, Nat.zero_add, cell_of_row _ _ j #[u, v] t (0, 0) (heap_alloc_new w _)]
  simpa using h
/-- What a write does to a disk. -/
structure Wrote (w w' : World) (k k' : Dk) (n size : Nat) (D : List Nat) (W : List Wt) (s : Nat) (xs : List Nat) : Prop where
  d : k'.d = k.d
  db : k'.db = k.db
  mb : k'.mb = k.mb
  vw : ∀ i, k'.vw.ownBlock = some i → k.vw.ownBlock = some i ∨ w.heap.size ≤ i
  disk : DiskAt w' k' n size D (W ++ [⟨s, w.heap.size, xs⟩])
  kept : Kept w w' (fun i => i = k.d ∨ k.vw.ownBlock = some i ∨ i = k.mb)
theorem wrote_of (h : DiskAt w k n size D W) (hW : W.length < 1000000) (s : Nat) (hs : s < n) (xs : List Nat) (hx' : xs.length = size) (w1 w2 w3 w5 : World) (v' : Value) (o1 : Obj) (hnew : w1.heap[w.heap.size]? = some (.cells (bv xs).toArray 5 (0, 0))) (g1 : w.grownBy w1 none)
    (h2 : w2 = w1.alloc o1) (hrow : w3.ownsRow 0 176 2 v' (W.length + 1) (wcells size W ++ [.int .i64 (s : Int), bsl w.heap.size size])) (g3 : w2.grownBy w3 k.vw.ownBlock) (hv : v'.ownBlock = k.vw.ownBlock ∨ v'.ownBlock = some w2.heap.size)
    (hm : MapAt w5 Tryz.prog 3 k.mb (W.length + 1) (fun y => if y = (s : Int) then some (bsl w.heap.size size) else newest size W y)) (g5 : (w3.setCell ⟨k.d, 3, none⟩ v').grownBy w5 (some k.mb)) : Wrote w w5 k ⟨k.d, k.db, v', k.mb⟩ n size D W s xs := by
  obtain ⟨e1, e2, e3, e4, e5, e6⟩ := h.vw_ne
  have g2 : w1.grownBy w2 none := by rw [h2]; exact World.grownBy_alloc w1 o1 none
  have g12 := grown_trans g1 g2
  have g4 := grown_setCell w3 k.d 3 v'
  have K : Kept w w5 (fun i => i = k.d ∨ k.vw.ownBlock = some i ∨ i = k.mb) :=
    (((Kept.new g12 _).trans (Kept.of g3 (S := fun i => i = k.d ∨ k.vw.ownBlock = some i ∨ i = k.mb) (fun j e _ => Or.inr (Or.inl e))) (fun _ _ e => e)).trans
      (Kept.of g4 (S := fun i => i = k.d ∨ k.vw.ownBlock = some i ∨ i = k.mb) (fun j e _ => by cases e; exact Or.inl rfl)) (fun _ _ e => e)).trans
      (Kept.of g5 (S := fun i => i = k.d ∨ k.vw.ownBlock = some i ∨ i = k.mb) (fun j e _ => by cases e; exact Or.inr (Or.inr rfl))) (fun _ _ e => e)
  have hld := h.lt k.d (.inl (.inl rfl))
  have hlb := h.lt k.db (.inl (.inr (.inl rfl)))
  have hlm := h.lt k.mb (.inl (.inr (.inr (.inr rfl))))
  have hsz : w.heap.size ≤ w2.heap.size := g12.size
  have hvd : v'.ownBlock ≠ some k.d ∧ v'.ownBlock ≠ some k.db ∧ v'.ownBlock ≠ some k.mb := by
    rcases hv with hv | hv <;> rw [hv]
    · exact ⟨e1, e2, e3⟩
    · exact ⟨fun e => by have := Option.some.inj e; omega, fun e => by have := Option.some.inj e; omega, fun e => by have := Option.some.inj e; omega⟩
  have hd3 : w3.heap[k.d]? = some (.cells #[.bool true, .int .i64 (size : Int), .slice (some ⟨k.db, 0, none⟩) (n * size) (n * size), k.vw, .map (some k.mb)] 141 (0, 0)) :=
    (g3.block k.d (by omega) (fun e => e1 e.symm)).trans ((g12.block k.d hld (by simp)).trans h.head)
  have hne : ∀ x ∈ W, x.blk ≠ w.heap.size := fun x hx => Nat.ne_of_lt (h.lt x.blk (.inr ⟨x, hx, rfl⟩))
  refine ⟨rfl, rfl, rfl, ?_, ⟨h.shape, ?_, ?_, h.len, ?_, ?_, ?_, by simp; omega⟩, K⟩
  · intro i hi
    rcases hv with hv | hv
    · exact Or.inl (hv ▸ hi)
    · have hi' : v'.ownBlock = some i := hi
      rw [hv] at hi'; cases hi'; exact Or.inr hsz
  · refine (g5.block k.d (by have := g3.size; simp [World.setCell]; omega) (fun e => e5 (Option.some.inj e))).trans ?_
    rw [World.setCell]
    simp [Array.getElem?_modify, hd3]
  · exact K.at h.dur (by rintro (e | e | e); exact e4 e.symm; exact e2 e; exact e6 e)
  · rw [wcells_snoc, List.length_append]
    refine row_same (row_same hrow (w' := w3.setCell ⟨k.d, 3, none⟩ v') (fun g hg => ?_)) (fun g hg => ?_)
    · exact Below.heap_setCell _ _ _ _ (fun e => hvd.1 (by rw [hg]; exact congrArg some e))
    · refine g5.block g ?_ (fun e => hvd.2.2 (by rw [hg, e]))
      have := (hrow.lt g hg).2
      simpa [World.setCell] using this
  · rw [newest_snoc, List.length_append]; exact hm
  · intro x hx
    rcases List.mem_append.1 hx with hx | hx
    · obtain ⟨a1, a2, a3, a4⟩ := h.waits x hx
      refine ⟨a1, a2, a3, K.at a4 ?_⟩
      have := h.blk_ne hx
      rintro (e | e | e)
      · exact this (.inl e)
      · exact this (.inr (.inr (.inl e)))
      · exact this (.inr (.inr (.inr e)))
    · simp at hx; subst hx
      refine ⟨hs, hx', by show w.heap.size ≠ k.db; omega, ?_⟩
      have a : w2.heap[w.heap.size]? = some (.cells (bv xs).toArray 5 (0, 0)) := (g2.block _ (row_lt hnew) (by simp)).trans hnew
      have b : w3.heap[w.heap.size]? = some (.cells (bv xs).toArray 5 (0, 0)) := (g3.block _ (row_lt a) (fun e => by have := h.lt _ (.inl (.inr (.inr (.inl e.symm)))); omega)).trans a
      have c : (w3.setCell ⟨k.d, 3, none⟩ v').heap[w.heap.size]? = some (.cells (bv xs).toArray 5 (0, 0)) := (Below.heap_setCell _ _ _ _ (show w.heap.size ≠ k.d by omega)).trans b
      exact (g5.block _ (row_lt c) (fun e => by have := Option.some.inj e; omega)).trans c
theorem wrote_drew {w' : World} {k' : Dk} {s : Nat} {xs : List Nat} (q : Nat) (h : Wrote (w.drewN q) w' k k' n size D W s xs) : Wrote w w' k k' n size D W s xs :=
  ⟨h.d, h.db, h.mb, h.vw, h.disk, ⟨h.kept.os, h.kept.tape, h.kept.output, h.kept.size, h.kept.block⟩⟩
set_option maxHeartbeats 1000000 in
theorem write_any (h : DiskAt w k n size D W) (hW : W.length < 1000000) (s : Nat) (hs : s < n) (ao : Option Addr) (cap : Nat) (xs : List Nat) (hat : At w ao xs) (hx : xs.length = size) :
    Calls Tryz.prog 97 #[.pointer (some ⟨k.d, 0, none⟩), .int .i64 (s : Int), .slice ao size cap] w fun e w' => e = .returned (.int .i64 0) ∧ ∃ k', Wrote w w' k k' n size D W s xs := by
  have H := hide (may_any h (s : Int))
  rw [show mayC n (s : Int) = 0 from if_pos (by omega)] at H
  have c1 : ∀ q, (w.drewN q).cell? ⟨k.d, 1, none⟩ = some (.int .i64 (size : Int)) := fun q => h.c1
  have HC := hide (fun q => copied_any ao size cap xs (w.drewN q) hat hx (by have := h.shape.s1; omega))
  have HD := hide (And.intro h (And.intro hW (And.intro hs hx)))
  have hsw : Hid ((Lit.int .i64 (s : Int)).wf = true) := wf_i64 (by omega) (by have := h.shape.n1; omega)
  obtain ⟨i0, hi, hz0, hz1, hz2⟩ := info_parts Tryz.info176
  have HI := hide (And.intro hi (And.intro hz0 (And.intro hz1 hz2)))
  clear h hat hx hW hs hi hz0 hz1 hz2
  go_enter Tryz.func97, Tryz.ntmps97
  go_wp2_with fail
  refine H.out.mono ?_
  rintro e w' ⟨rfl, q, rfl⟩
  have c1' := c1 q
  have HC' := hide (HC.out q)
  clear c1 HC H
  have HD' : Hid (DiskAt (w.drewN q) k n size D W ∧ W.length < 1000000 ∧ s < n ∧ xs.length = size) := ⟨HD.out.1.grown (grown_drewN _ _ _), HD.out.2⟩
  have HW := hide (fun (w' : World) (k' : Dk) => wrote_drew (w := w) (w' := w') (k := k) (k' := k') (n := n) (size := size) (D := D) (W := W) (s := s) (xs := xs) q)
  generalize w.drewN q = wq at *
  go_wp2_with fail
  refine HC'.out.mono ?_
  rintro e w1 ⟨rfl, hnew, g1⟩
  have hD1 := HD'.out.1.grown g1
  have c3 := hD1.c3
  have c4 := hD1.c4
  have hfr := hD1.free 3
  have H1 := hide (And.intro hnew (And.intro g1 hD1))
  clear hnew g1 hD1 HC' c1'
  go_wp2_with (at_builtin; refine wpList_append_own_at _ rfl (.tmp 28) (.tmp 32) 139 rfl 0 176 i0 (.agg #[.int .i64 0, .slice none 0 0]) 2 32 Tryz.underlying139 HI.out.1 HI.out.2.1 HI.out.2.2.1 HI.out.2.2.2 rfl (by decide) k.vw W.length (wcells size W) rfl (H1.out.2.2.row.alloc _) ⟨w1.heap.size, 0, none⟩ 1 1 [.int .i64 (s : Int), bsl wq.heap.size size] rfl rfl (cell_two w1 _ _ 176) (fun u hu => ?_) ?_ ?_ (Nat.zero_le _) ?_)
  · simp at hu; rcases hu with rfl | rfl <;> rfl
  · have := HD.out.2.1; unfold maxLen; omega
  · have := HD.out.2.1; omega
  intro v' w3 hrow g3 hnil hv
  obtain ⟨g', cap', rfl⟩ : ∃ g' cap', v' = .slice (some ⟨g', 0, none⟩) (W.length + 1) cap' := by
    rcases hrow.2 with ⟨_, h0⟩ | ⟨g', cap', _, e, _⟩
    · cases h0
    · exact ⟨g', cap', e⟩
  obtain ⟨e1, e2, e3, e4, e5, e6⟩ := H1.out.2.2.vw_ne
  have g13 : (w1.alloc (.cells #[.int .i64 (s : Int), bsl wq.heap.size size] 176)).grownBy w3 k.vw.ownBlock := g3
  have c4' : w3.cell? ⟨k.d, 4, none⟩ = some (.map (some k.mb)) := g13.cell ((World.grownBy_alloc w1 _ none).cell c4 (by simp)) (fun e => e1 e.symm)
  have c3' : w3.cell? ⟨k.d, 3, none⟩ = some k.vw := g13.cell ((World.grownBy_alloc w1 _ none).cell c3 (by simp)) (fun e => e1 e.symm)
  have hf' : w3.frozen? ⟨k.d, 3, none⟩ = false := by
    refine (World.frozen?_of_block (g13.block k.d ?_ (fun e => e1 e.symm))).trans ((World.frozen?_of_block ((World.grownBy_alloc w1 _ none).block k.d ?_ (by simp))).trans hfr)
    · exact Nat.lt_of_lt_of_le (H1.out.2.2.lt k.d (.inl (.inl rfl))) (World.grownBy_alloc w1 _ none).size
    · exact H1.out.2.2.lt k.d (.inl (.inl rfl))
  have c4'' : (w3.setCell ⟨k.d, 3, none⟩ (.slice (some ⟨g', 0, none⟩) (W.length + 1) cap')).cell? ⟨k.d, 4, none⟩ = some (.map (some k.mb)) := (World.cell?_setCell_other _ _ _ _ (by simp)).trans c4'
  have HM : Hid (MapAt (w3.setCell ⟨k.d, 3, none⟩ (.slice (some ⟨g', 0, none⟩) (W.length + 1) cap')) Tryz.prog 3 k.mb W.length (newest size W)) := by
    refine (H1.out.2.2.map.same (w' := w1.alloc (.cells #[.int .i64 (s : Int), bsl wq.heap.size size] 176)) ?_).same ?_
    · exact (World.grownBy_alloc w1 _ none).block k.mb H1.out.2.2.map.lt (by simp)
    · refine (Below.heap_setCell _ _ _ _ (show k.mb ≠ k.d from fun e => e5 e.symm)).trans (g13.block k.mb ?_ (fun e => e3 e.symm))
      exact Nat.lt_of_lt_of_le H1.out.2.2.map.lt (World.grownBy_alloc w1 _ none).size
  have HH := hide (And.intro hrow (And.intro g13 hv))
  clear hrow g3 g13 hv hnil c3 c4 hfr e1 e2 e3 e4 e5 e6 c4'
  go_wp2_with (at_mapUpdate; refine wpList_mapUpdate_at rfl _ _ _ rfl k.mb W.length (newest size W) rfl HM.out ?_ (s : Int) (bsl wq.heap.size size) rfl rfl hsw.out ?_)
  · have := HD.out.2.1; unfold maxLen; omega
  intro w5 hm g5
  have H5 := hide (And.intro hm g5)
  clear hm g5
  go_wp2
  go_ret
  refine ⟨rfl, _, HW.out _ _ (wrote_of HD'.out.1 HD'.out.2.1 s HD'.out.2.2.1 xs HD'.out.2.2.2 w1 _ w3 w5 _ _ H1.out.1 H1.out.2.1 rfl HH.out.1 HH.out.2.1 ?_ H5.out.1 H5.out.2)⟩
  exact HH.out.2.2.imp id (fun h => h.trans (congrArg some (Array.size_push ..).symm))

set_option maxHeartbeats 400000 in
theorem read_none (p : Option Addr) (a : Int) (w : World) (h : NoDisk w p) : Calls Tryz.prog 100 #[.pointer p, .int .i64 a] w fun e w' => e = .returned (.tuple #[.slice none 0 0, .int .i64 1]) ∧ w' = w := by
  have H := hide (may_none p a w h)
  clear h
  go_enter Tryz.func100, Tryz.ntmps100
  go_wp2_with fail
  refine H.out.mono ?_
  rintro e w' ⟨rfl, rfl⟩
  go_wp2
  go_ret2
  exact ⟨rfl, rfl⟩
set_option maxHeartbeats 400000 in
theorem read_far (h : DiskAt w k n size D W) (a : Int) (ha : ¬ (0 ≤ a ∧ a < (n : Int))) : Calls Tryz.prog 100 #[.pointer (some ⟨k.d, 0, none⟩), .int .i64 a] w fun e w' => e = .returned (.tuple #[.slice none 0 0, .int .i64 50]) ∧ w.grownBy w' none := by
  have H := hide (may_any h a)
  rw [show mayC n a = 50 from if_neg ha] at H
  clear h ha
  go_enter Tryz.func100, Tryz.ntmps100
  go_wp2_with fail
  refine H.out.mono ?_
  rintro e w' ⟨rfl, q, rfl⟩
  go_wp2
  go_ret2
  exact ⟨rfl, grown_drewN _ _ _⟩
/-- The bytes of a sector. -/
def secOf (size : Nat) (D : List Nat) (s : Nat) : List Nat := (D.drop (s * size)).take size
/-- What is found in a sector. -/
def found (size : Nat) (D : List Nat) (W : List Wt) (s : Nat) : List Nat := match lastOf W s with
  | some x => x.xs
  | none => secOf size D s
theorem secOf_length {n size : Nat} {D : List Nat} {s : Nat} (hl : D.length = n * size) (hs : s < n) : (secOf size D s).length = size := by
  have : (s + 1) * size ≤ n * size := Nat.mul_le_mul_right _ hs
  rw [Nat.succ_mul] at this
  simp [secOf, hl]; omega
theorem at_sector {w : World} {k : Dk} {n size : Nat} {D : List Nat} {W : List Wt} (h : DiskAt w k n size D W) (s : Nat) : At w (some ⟨k.db, s * size, none⟩) (secOf size D s) := by
  intro j u hu
  refine ⟨_, rfl, ?_⟩
  rw [secOf, List.getElem?_take] at hu
  split at hu
  · rw [List.getElem?_drop] at hu
    rw [Addr.add_lit, cell_row h.dur]
    exact bv_get D _ u hu
  · cases hu
theorem zero46 (w : World) : (zeroValue 36).run Tryz.prog w = .ok (.slice none 0 0) w := by kernel_rfl
set_option maxHeartbeats 1000000 in
theorem read_any (h : DiskAt w k n size D W) (s : Nat) (hs : s < n) : Calls Tryz.prog 100 #[.pointer (some ⟨k.d, 0, none⟩), .int .i64 (s : Int)] w fun e w' =>
    e = .returned (.tuple #[bsl w.heap.size size, .int .i64 0]) ∧ w'.heap[w.heap.size]? = some (.cells (bv (found size D W s)).toArray 5 (0, 0)) ∧ w.grownBy w' none := by
  have H := hide (may_any h (s : Int))
  rw [show mayC n (s : Int) = 0 from if_pos (by omega)] at H
  have c4 : ∀ q, (w.drewN q).cell? ⟨k.d, 4, none⟩ = some (.map (some k.mb)) := fun q => h.c4
  have hsw : (Lit.int .i64 (s : Int)).wf = true := wf_i64 (by omega) (by have := h.shape.n1; omega)
  have hlook : ∀ q, (Instr.lookup 138 (.map (some k.mb)) (.int .i64 (s : Int)) true).run Tryz.prog (w.drewN q) = .ok (.tuple #[((lastOf W s).map (fun x => bsl x.blk size)).getD (.slice none 0 0), .bool ((lastOf W s).map (fun x => bsl x.blk size)).isSome]) (w.drewN q) := by
    intro q
    have hm : MapAt (w.drewN q) Tryz.prog 3 k.mb W.length (newest size W) := h.map.same rfl
    have := hm.look Tryz.underlying3 Tryz.underlying138 (zero46 _) hsw
    rw [newest_last] at this
    exact this
  have hm := h.shape.s1
  cases hl : lastOf W s with
  | some x =>
    obtain ⟨hx, hxs⟩ := lastOf_mem hl
    obtain ⟨_, hxl, _, hxb⟩ := h.waits x hx
    have HC := hide (fun q => copied_any (some ⟨x.blk, 0, none⟩) size size x.xs (w.drewN q) (at_row (w := w.drewN q) hxb) hxl (by omega))
    have hf : found size D W s = x.xs := by simp [found, hl]
    rw [hf]
    simp only [hl, Option.map_some, Option.getD_some, Option.isSome_some, bsl] at hlook
    clear h hs hsw hl hxl hxb hf hm
    go_enter Tryz.func100, Tryz.ntmps100
    go_wp2_with fail
    refine H.out.mono ?_
    rintro e w' ⟨rfl, q, rfl⟩
    have c4' := c4 q
    have hlook' := hlook q
    have HC' := hide (HC.out q)
    have HW : Hid (∀ w1 : World, (w.drewN q).grownBy w1 none → w.grownBy w1 none) := fun w1 hg => grown_trans (grown_drewN _ _ _) hg
    have HS : Hid ((w.drewN q).heap.size = w.heap.size) := rfl
    clear c4 hlook HC H
    generalize w.drewN q = wq at *
    go_wp2_with fail
    refine HC'.out.mono ?_
    rintro e w1 ⟨rfl, h1, g1⟩
    have H1 := hide (And.intro h1 g1)
    clear h1 g1
    go_wp2
    go_ret2
    rw [← HS.out]
    exact ⟨rfl, H1.out.1, HW.out _ H1.out.2⟩
  | none =>
    have HC := hide (fun q => copied_any (some ⟨k.db, s * size, none⟩) size (n * size - s * size) (secOf size D s) (w.drewN q) (at_sector (w := w.drewN q) (h.grown (grown_drewN _ _ _)) s) (secOf_length h.len hs) (by omega))
    have HS := hide (fun q => sector_any (w := w.drewN q) (h.grown (grown_drewN _ _ _)) s hs)
    have hf : found size D W s = secOf size D s := by simp [found, hl]
    rw [hf]
    simp only [hl, Option.map_none, Option.getD_none, Option.isSome_none] at hlook
    clear h hs hsw hl hf hm
    go_enter Tryz.func100, Tryz.ntmps100
    go_wp2_with fail
    refine H.out.mono ?_
    rintro e w' ⟨rfl, q, rfl⟩
    have c4' := c4 q
    have hlook' := hlook q
    clear c4 hlook H
    go_wp2_with fail
    refine (HS.out q).mono ?_
    rintro e w' ⟨rfl, q', rfl⟩
    go_wp2_with fail
    refine (HC.out (q + q')).mono ?_
    rintro e w1 ⟨rfl, h1, g1⟩
    have H1 := hide (And.intro h1 g1)
    clear h1 g1
    go_wp2
    go_ret2
    exact ⟨rfl, H1.out.1, grown_trans (grown_drewN _ _ _) H1.out.2⟩
end
end Go.Proofs.YtonokaelbpfjnaaGreatDoor
