/- What calls of a Writer that is nil, and of a Reader that is none, come to. -/
import Derived.Test.YtckmghagfaecmaaKit
namespace Go.Proofs.Ytckmghagfaecmaa
open Go.RowKit

set_option maxHeartbeats 400000 in
theorem behind_nil (v : Value) (w : World) : Calls Try.prog 40 #[.pointer none, v] w fun e w' => e = .returned (.tuple #[]) ∧ w' = w := by
  go_enter Try.func40, Try.ntmps40
  go_wp2
  refine bodyPost_ret (results_none rfl _ _ _) rfl ?_
  exact ⟨rfl, rfl⟩

set_option maxHeartbeats 1000000 in
theorem number_nil (N S : Int) (size : Nat) (w : World) (hS : S = (size : Int)) (hs : size ≤ 8) (_h0 : 0 ≤ N) (_h1 : N < 18446744073709551616) :
    Calls Try.prog 41 #[.pointer none, .int .u64 N, .int .i64 S] w fun e w' => e = .returned (.tuple #[]) ∧ w.grownBy w' none := by
  subst hS
  go_enter Try.func41, Try.ntmps41
  go_wp2
  go_loopg [9] size (fun k i wr => ∃ j : Nat, k + j = size ∧ i = .int .i64 j ∧ wr.heap[w.heap.size]? = some (.cells (rowK N j).toArray 99 (0, 0)) ∧ w.grownBy wr none)
  case atStart => exact ⟨0, rfl, rfl, heap_alloc_new w _, World.grownBy_alloc w _ _⟩
  case round =>
    obtain ⟨j, hkj, rfl, hb, hgr⟩ := hrel
    have Hb := hide hb
    by_cases hk : 0 < gk
    · have hj : j < size := by omega
      have hc : wr.cell? ⟨w.heap.size, j, none⟩ = some (.int .u8 0) := by rw [cell_row hb, rowK_get N j (by omega)]
      have hf : wr.frozen? ⟨w.heap.size, j, none⟩ = false := free_row hb _
      clear hb
      go_wp2
      go_roundg (gk - 1)
      case measure => omega
      case rel =>
        refine ⟨j + 1, by omega, by go_num, ?_, grown_then hgr (grown_setCell wr w.heap.size j _) (fun k e => by cases e; exact Or.inl (Nat.le_refl _))⟩
        rw [row_setCell Hb.out, rowK_set N j (by omega)]
    · have hjs : j = size := by omega
      subst hjs
      clear hb
      have hsl : ∀ w', (Instr.sliceAt 99 (.pointer (some ⟨w.heap.size, 0, none⟩)) none (some (.int .i64 (j : Int))) none).run Try.prog w' = .ok (.slice (some ⟨w.heap.size, 0, none⟩) j 8) w' := sliceAt_row w.heap.size j hs
      go_wp2_with fail
      refine (behind_nil _ _).mono ?_
      rintro e w' ⟨rfl, rfl⟩
      go_wp2
      go_end0
      exact ⟨rfl, hgr⟩
set_option maxHeartbeats 400000 in
theorem two_nil (N : Int) (w : World) (h0 : 0 ≤ N) (h1 : N < 65536) : Calls Try.prog 10 #[.pointer none, .int .u16 N] w fun e w' => e = .returned (.tuple #[]) ∧ w.grownBy w' none := by
  go_enter Try.func10, Try.ntmps10
  go_wp2_with fail
  refine (number_nil N _ 2 _ rfl (by omega) h0 (by omega)).mono ?_
  rintro e w' ⟨rfl, hg⟩
  go_wp2
  go_end0
  exact ⟨rfl, hg⟩
set_option maxHeartbeats 400000 in
theorem four_nil (N : Int) (w : World) (h0 : 0 ≤ N) (h1 : N < 4294967296) : Calls Try.prog 11 #[.pointer none, .int .u32 N] w fun e w' => e = .returned (.tuple #[]) ∧ w.grownBy w' none := by
  go_enter Try.func11, Try.ntmps11
  go_wp2_with fail
  refine (number_nil N _ 4 _ rfl (by omega) h0 (by omega)).mono ?_
  rintro e w' ⟨rfl, hg⟩
  go_wp2
  go_end0
  exact ⟨rfl, hg⟩
set_option maxHeartbeats 400000 in
theorem eight_nil (N : Int) (w : World) (h0 : 0 ≤ N) (h1 : N < 18446744073709551616) : Calls Try.prog 12 #[.pointer none, .int .u64 N] w fun e w' => e = .returned (.tuple #[]) ∧ w.grownBy w' none := by
  go_enter Try.func12, Try.ntmps12
  go_wp2_with fail
  refine (number_nil N _ 8 _ rfl (by omega) h0 (by omega)).mono ?_
  rintro e w' ⟨rfl, hg⟩
  go_wp2
  go_end0
  exact ⟨rfl, hg⟩
set_option maxHeartbeats 400000 in
theorem byte_nil (N : Int) (w : World) : Calls Try.prog 9 #[.pointer none, .int .u8 N] w fun e w' => e = .returned (.tuple #[]) ∧ w.grownBy w' none := by
  go_enter Try.func9, Try.ntmps9
  go_wp2_with fail
  refine (behind_nil _ _).mono ?_
  rintro e w' ⟨rfl, rfl⟩
  go_wp2
  go_end0
  exact ⟨rfl, World.grownBy_alloc w _ _⟩
set_option maxHeartbeats 400000 in
theorem put_nil (v : Value) (w : World) : Calls Try.prog 13 #[.pointer none, v] w fun e w' => e = .returned (.tuple #[]) ∧ w' = w := by
  go_enter Try.func13, Try.ntmps13
  go_wp2_with fail
  refine (behind_nil _ _).mono ?_
  rintro e w' ⟨rfl, rfl⟩
  go_wp2
  go_end0
  exact ⟨rfl, rfl⟩
set_option maxHeartbeats 400000 in
theorem len_nil (w : World) : Calls Try.prog 23 #[.pointer none] w fun e w' => e = .returned (.int .i64 0) ∧ w' = w := by
  go_enter Try.func23, Try.ntmps23
  go_wp2
  go_ret
  exact ⟨rfl, rfl⟩
set_option maxHeartbeats 400000 in
theorem out_nil (w : World) : Calls Try.prog 24 #[.pointer none] w fun e w' => e = .returned (.slice none 0 0) ∧ w' = w := by
  go_enter Try.func24, Try.ntmps24
  go_wp2
  go_ret
  exact ⟨rfl, rfl⟩

/-- A Reader that is none: nil, or one that Of did not make. -/
def NoRd (w : World) (v : Value) : Prop := v = .pointer none ∨ ∃ b, v = .pointer (some ⟨b, 0, none⟩) ∧ w.cell? ⟨b, 2, none⟩ = some (.bool false)
theorem isNone_none (v : Value) (w : World) (h : NoRd w v) : Calls Try.prog 45 #[v] w fun e w' => e = .returned (.bool true) ∧ w' = w := by
  rcases h with rfl | ⟨b, rfl, h⟩
  · exact isNone_nil w
  · exact isNone_at b false w h
set_option maxHeartbeats 400000 in
theorem next_none (v : Value) (n : Int) (w : World) (h : NoRd w v) : Calls Try.prog 44 #[v, .int .i64 n] w fun e w' => e = .returned (.slice none 0 0) ∧ w' = w := by
  go_enter Try.func44, Try.ntmps44
  go_wp2_with fail
  refine (isNone_none v _ h).mono ?_
  rintro e w' ⟨rfl, rfl⟩
  go_wp2
  go_ret
  exact ⟨rfl, rfl⟩
set_option maxHeartbeats 400000 in
theorem rnum_none (v : Value) (n : Int) (w : World) (h : NoRd w v) : Calls Try.prog 42 #[v, .int .i64 n] w fun e w' => e = .returned (.int .u64 0) ∧ w' = w := by
  go_enter Try.func42, Try.ntmps42
  go_wp2_with fail
  refine (next_none v n _ h).mono ?_
  rintro e w' ⟨rfl, rfl⟩
  go_wp2
  refine wp_loop_rounds 1 ?_; rw [rounds_succ]
  go_wp2
  go_ret
  exact ⟨rfl, rfl⟩
set_option maxHeartbeats 400000 in
theorem rbyte_none (v : Value) (w : World) (h : NoRd w v) : Calls Try.prog 14 #[v] w fun e w' => e = .returned (.int .u8 0) ∧ w' = w := by
  go_enter Try.func14, Try.ntmps14
  go_wp2_with fail
  refine (rnum_none v _ _ h).mono ?_
  rintro e w' ⟨rfl, rfl⟩
  go_wp2
  go_ret
  exact ⟨rfl, rfl⟩
set_option maxHeartbeats 400000 in
theorem rtwo_none (v : Value) (w : World) (h : NoRd w v) : Calls Try.prog 15 #[v] w fun e w' => e = .returned (.int .u16 0) ∧ w' = w := by
  go_enter Try.func15, Try.ntmps15
  go_wp2_with fail
  refine (rnum_none v _ _ h).mono ?_
  rintro e w' ⟨rfl, rfl⟩
  go_wp2
  go_ret
  exact ⟨rfl, rfl⟩
set_option maxHeartbeats 400000 in
theorem rfour_none (v : Value) (w : World) (h : NoRd w v) : Calls Try.prog 16 #[v] w fun e w' => e = .returned (.int .u32 0) ∧ w' = w := by
  go_enter Try.func16, Try.ntmps16
  go_wp2_with fail
  refine (rnum_none v _ _ h).mono ?_
  rintro e w' ⟨rfl, rfl⟩
  go_wp2
  go_ret
  exact ⟨rfl, rfl⟩
set_option maxHeartbeats 400000 in
theorem reight_none (v : Value) (w : World) (h : NoRd w v) : Calls Try.prog 17 #[v] w fun e w' => e = .returned (.int .u64 0) ∧ w' = w := by
  go_enter Try.func17, Try.ntmps17
  go_wp2_with fail
  refine (rnum_none v _ _ h).mono ?_
  rintro e w' ⟨rfl, rfl⟩
  go_wp2
  go_ret
  exact ⟨rfl, rfl⟩
set_option maxHeartbeats 400000 in
theorem take_none (v : Value) (n : Int) (w : World) (h : NoRd w v) : Calls Try.prog 18 #[v, .int .i64 n] w fun e w' => e = .returned (.slice none 0 0) ∧ w' = w := by
  have hq := fun w' => Lib.run_eql_slice_nil (P := Try.prog) w' 32 5 none 0 0 0 0 Try.underlying32
  go_enter Try.func18, Try.ntmps18
  go_wp2_with (first | (go_at_call 44; refine (next_none v n _ h).mono ?_; rintro e w' ⟨rfl, rfl⟩) | go_in)
  go_ret
  exact ⟨rfl, rfl⟩
set_option maxHeartbeats 400000 in
theorem left_none (v : Value) (w : World) (h : NoRd w v) : Calls Try.prog 19 #[v] w fun e w' => e = .returned (.int .i64 0) ∧ w' = w := by
  go_enter Try.func19, Try.ntmps19
  go_wp2_with (first | (go_at_call 45; refine (isNone_none v _ h).mono ?_; rintro e w' ⟨rfl, rfl⟩) | go_in)
  go_ret
  exact ⟨rfl, rfl⟩
set_option maxHeartbeats 400000 in
theorem err_none (v : Value) (w : World) (h : NoRd w v) : Calls Try.prog 20 #[v] w fun e w' => e = .returned (.int .i64 1) ∧ w' = w := by
  go_enter Try.func20, Try.ntmps20
  go_wp2_with (first | (go_at_call 45; refine (isNone_none v _ h).mono ?_; rintro e w' ⟨rfl, rfl⟩) | go_in)
  go_ret
  exact ⟨rfl, rfl⟩
set_option maxHeartbeats 400000 in
theorem end_none (v : Value) (w : World) (h : NoRd w v) : Calls Try.prog 21 #[v] w fun e w' => e = .returned (.int .i64 1) ∧ w' = w := by
  go_enter Try.func21, Try.ntmps21
  go_wp2_with (first | (go_at_call 20; refine (err_none v _ h).mono ?_; rintro e w' ⟨rfl, rfl⟩) | go_in)
  go_ret
  exact ⟨rfl, rfl⟩
end Go.Proofs.Ytckmghagfaecmaa
