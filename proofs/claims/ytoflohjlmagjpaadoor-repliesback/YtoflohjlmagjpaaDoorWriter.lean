/- The contracts of a Writer's calls that put, and of Len. -/
import Derived.Test.YtoflohjlmagjpaaDoorBehind
import Derived.Test.YtoflohjlmagjpaaDoorNum
namespace Go.Proofs.YtoflohjlmagjpaaDoor
open Go.RowKit

/-- The row behind k rounds. -/
def rowK (N : Int) (k : Nat) : List Value := (leB N k ++ List.replicate (8 - k) 0).map (Value.int .u8)
theorem rowK_set (N : Int) (k : Nat) (h : k < 8) : (rowK N k).set k (.int .u8 (N / 2 ^ (8 * k) % 256)) = rowK N (k + 1) := by
  have e : 8 - k = (8 - (k + 1)) + 1 := by omega
  have hl := leB_length N k
  rw [rowK, rowK, e, List.replicate_succ, List.map_append, List.set_append]
  simp only [List.length_map, hl, Nat.lt_irrefl, if_false, Nat.sub_self, List.map_cons, List.set_cons_zero]
  simp [leB, List.range_succ]
theorem rowK_get (N : Int) (k : Nat) (h : k < 8) : (rowK N k)[k]? = some (.int .u8 0) := by
  have hl := leB_length N k
  have e : 8 - k = (8 - (k + 1)) + 1 := by omega
  rw [rowK, e, List.replicate_succ, List.map_append, List.getElem?_append_right (by simp [hl])]
  simp [hl]
theorem rowK_at {w : World} {A k : Nat} {N : Int} (h : w.heap[A]? = some (.cells (rowK N k).toArray 125 (0, 0))) : At w (some ⟨A, 0, none⟩) (leB N k) := by
  intro j u hu
  refine ⟨_, rfl, ?_⟩
  rw [Addr.add_lit, cell_row h, rowK, List.getElem?_map, List.getElem?_append_left (by have := (List.getElem?_eq_some_iff.1 hu).1; omega)]
  simp [hu]

theorem sliceAt_row (g j : Nat) (h : j ≤ 8) (w : World) : (Instr.sliceAt 125 (.pointer (some ⟨g, 0, none⟩)) none (some (.int .i64 (j : Int))) none).run Tryd.prog w = .ok (.slice (some ⟨g, 0, none⟩) j 8) w := by
  simp [Instr.sliceAt, Instr.sureAddr, run_underlying Tryd.underlying125, Instr.sliceBounds, Instr.sliceBound, asIntOf, h, Addr.add_mid]
set_option maxHeartbeats 1000000 in
theorem number_any (g : Nat) (bs : List Int) (N S : Int) (size : Nat) (w : World) (hS : S = (size : Int)) (hW : WrAt w g bs) (hs : size ≤ 8) (_h0 : 0 ≤ N) (_h1 : N < 18446744073709551616) (hL : bs.length ≤ 4611686018427387000) :
    Calls Tryd.prog 37 #[.pointer (some ⟨g, 0, none⟩), .int .u64 N, .int .i64 S] w fun e w' => e = .returned (.tuple #[]) ∧ WrAt w' g (bs ++ leB N size) ∧ w.grownBy w' (some g) := by
  subst hS
  have HW := hide hW
  have hgl := hW.lt
  have HL := hide hL
  clear hW hL
  go_enter Tryd.func37, Tryd.ntmps37
  go_wp2
  go_loopg [9] size (fun k i wr => ∃ j : Nat, k + j = size ∧ i = .int .i64 j ∧ wr.heap[w.heap.size]? = some (.cells (rowK N j).toArray 125 (0, 0)) ∧ w.grownBy wr none)
  case atStart => exact ⟨0, rfl, rfl, heap_alloc_new w _, World.grownBy_alloc w _ _⟩
  case round =>
    obtain ⟨j, hkj, rfl, hb, hgr⟩ := hrel
    have Hb := hide hb
    by_cases hk : 0 < gk
    · have hj : j < size := by omega
      have hc : wr.cell? ⟨w.heap.size, j, none⟩ = some (.int .u8 0) := by rw [cell_row hb, rowK_get N j (by omega)]
      have hf : wr.frozen? ⟨w.heap.size, j, none⟩ = false := free_row hb _
      clear hb
      go_wp2
      go_roundg (gk - 1)
      case measure => omega
      case rel =>
        refine ⟨j + 1, by omega, by go_num, ?_, grown_then hgr (grown_setCell wr w.heap.size j _) (fun k e => by cases e; exact Or.inl (Nat.le_refl _))⟩
        rw [row_setCell Hb.out, rowK_set N j (by omega)]
    · have hjs : j = size := by omega
      subst hjs
      clear hb
      have hsl : ∀ w', (Instr.sliceAt 125 (.pointer (some ⟨w.heap.size, 0, none⟩)) none (some (.int .i64 (j : Int))) none).run Tryd.prog w' = .ok (.slice (some ⟨w.heap.size, 0, none⟩) j 8) w' := sliceAt_row w.heap.size j hs
      go_wp2_with fail
      refine (behind_any g j bs (leB N j) _ 8 _ (HW.out.kept hgr (by simp) (NoBlock.none _)) (leB_length N j) (rowK_at Hb.out) ?_ (by omega) (by unfold maxLen; omega) (by have := HL.out; omega)).mono ?_
      · intro a ha; cases ha; exact Nat.ne_of_gt hgl
      · rintro e w' ⟨rfl, hwr, hg⟩
        go_wp2
        go_end0
        exact ⟨rfl, hwr, grown_trans (grown_none hgr _) hg⟩
set_option maxHeartbeats 400000 in
theorem two_any (g : Nat) (bs : List Int) (N : Int) (w : World) (hW : WrAt w g bs) (h0 : 0 ≤ N) (h1 : N < 65536) (hL : bs.length ≤ 4611686018427387000) :
    Calls Tryd.prog 23 #[.pointer (some ⟨g, 0, none⟩), .int .u16 N] w fun e w' => e = .returned (.tuple #[]) ∧ WrAt w' g (bs ++ leB N 2) ∧ w.grownBy w' (some g) := by
  go_enter Tryd.func23, Tryd.ntmps23
  go_wp2_with fail
  refine (number_any g bs N _ 2 _ rfl hW (by omega) h0 (by omega) hL).mono ?_
  rintro e w' ⟨rfl, hwr, hg⟩
  go_wp2
  go_end0
  exact ⟨rfl, hwr, hg⟩
set_option maxHeartbeats 400000 in
theorem four_any (g : Nat) (bs : List Int) (N : Int) (w : World) (hW : WrAt w g bs) (h0 : 0 ≤ N) (h1 : N < 4294967296) (hL : bs.length ≤ 4611686018427387000) :
    Calls Tryd.prog 21 #[.pointer (some ⟨g, 0, none⟩), .int .u32 N] w fun e w' => e = .returned (.tuple #[]) ∧ WrAt w' g (bs ++ leB N 4) ∧ w.grownBy w' (some g) := by
  go_enter Tryd.func21, Tryd.ntmps21
  go_wp2_with fail
  refine (number_any g bs N _ 4 _ rfl hW (by omega) h0 (by omega) hL).mono ?_
  rintro e w' ⟨rfl, hwr, hg⟩
  go_wp2
  go_end0
  exact ⟨rfl, hwr, hg⟩
set_option maxHeartbeats 400000 in
theorem eight_any (g : Nat) (bs : List Int) (N : Int) (w : World) (hW : WrAt w g bs) (h0 : 0 ≤ N) (h1 : N < 18446744073709551616) (hL : bs.length ≤ 4611686018427387000) :
    Calls Tryd.prog 41 #[.pointer (some ⟨g, 0, none⟩), .int .u64 N] w fun e w' => e = .returned (.tuple #[]) ∧ WrAt w' g (bs ++ leB N 8) ∧ w.grownBy w' (some g) := by
  go_enter Tryd.func41, Tryd.ntmps41
  go_wp2_with fail
  refine (number_any g bs N _ 8 _ rfl hW (by omega) h0 (by omega) hL).mono ?_
  rintro e w' ⟨rfl, hwr, hg⟩
  go_wp2
  go_end0
  exact ⟨rfl, hwr, hg⟩
set_option maxHeartbeats 400000 in
theorem byte_any (g : Nat) (bs : List Int) (N : Int) (w : World) (hW : WrAt w g bs) (hL : bs.length ≤ 4611686018427387000) :
    Calls Tryd.prog 22 #[.pointer (some ⟨g, 0, none⟩), .int .u8 N] w fun e w' => e = .returned (.tuple #[]) ∧ WrAt w' g (bs ++ [N]) ∧ w.grownBy w' (some g) := by
  have hgl := hW.lt
  go_enter Tryd.func22, Tryd.ntmps22
  go_wp2_with fail
  refine (behind_any g 1 bs [N] _ 1 _ (hW.kept (World.grownBy_alloc w _ none) (by simp) (NoBlock.none _)) rfl ?_ ?_ (by omega) (by unfold maxLen; omega) (by omega)).mono ?_
  · intro j u hu
    refine ⟨_, rfl, ?_⟩
    match j, hu with
    | 0, hu => simp at hu; subst hu; rw [Addr.add_lit]; exact cell_row (l := [.int .u8 N]) (heap_alloc_new w _) 0
  · intro a ha; cases ha; exact Nat.ne_of_gt hgl
  · rintro e w' ⟨rfl, hwr, hg⟩
    go_wp2
    go_end0
    exact ⟨rfl, hwr, grown_trans (World.grownBy_alloc w _ _) hg⟩
end Go.Proofs.YtoflohjlmagjpaaDoor
