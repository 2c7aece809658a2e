/- Texts joined: GePr. -/
import Derived.WalkKit
import Derived.WalkSpells
import Derived.WalkLawsBesides
import Derived.Laws.CopyOwn
import Derived.Laws.Bits64b
import Derived.Laws.Bits64
import Derived.Deep.MidRow
import Derived.Deep.LoopGhost
import Derived.Deep.RegionHeld3
import Derived.Deep.DrawnRows
import Derived.Deep.QuietTactic
import Derived.Deep.RegionWith
import Derived.BigQuiet
import Derived.Deep.OwnRows
import Derived.Laws.AppendOwnNone
import Derived.Laws.BitsAllLaws
import Derived.Laws.OwnMore
import Derived.ArgAppend
import Derived.Laws.Rows
import Derived.Laws.ResultCell
import Derived.Test.YtcbiloomnkbalaaGreatDoorJyAa
/- The contracts of the program's functions: shapes, sizes. -/
namespace Go.Proofs.YtcbiloomnkbalaaGreatDoor.Ge
open Go.RowKit
attribute [local go_sem ↓] Go.wp_at_zero Go.wp_at_succ

/-- A shape as a value. -/
def shV (a b c : Int) : Value := .agg #[.int .i64 a, .int .i64 b, .int .i64 c]
/-- The number of 1 .. m next to n. -/
def near (n m : Int) : Int := if n < 1 then 1 else if n ≤ m then n else m

theorem near_eq (n m : Int) (_hm : 1 ≤ m) : near n m = n ↔ 1 ≤ n ∧ n ≤ m := by unfold near; split <;> (try split) <;> omega

set_option maxHeartbeats 400000 in
theorem nearestTo_any (n m : Int) (hm : 1 ≤ m) (w : World) : Calls Tryz.prog 94 #[.int .i64 n, .int .i64 m] w fun e w' => e = .returned (.int .i64 (near n m)) ∧ w' = w := by
  unfold near
  by_cases h1 : n < 1
  · rw [if_pos h1]
    have h2 : n ≤ m := by omega
    have h3 : ¬ m < n := by omega
    go_enter Tryz.func94, Tryz.ntmps94
    go_wp2
    all_goals first | (go_ret; exact ⟨rfl, rfl⟩) | (exfalso; rw [if_neg h3] at *; omega)
  · rw [if_neg h1]
    by_cases h2 : n ≤ m
    · rw [if_pos h2]
      have h3 : ¬ m < n := by omega
      by_cases h4 : n = 1
      · subst h4
        go_enter Tryz.func94, Tryz.ntmps94
        go_wp2
        all_goals first | (go_ret; exact ⟨rfl, rfl⟩) | (exfalso; omega)
      · have h5 : 1 < n := by omega
        go_enter Tryz.func94, Tryz.ntmps94
        go_wp2
        all_goals first | (go_ret; exact ⟨rfl, rfl⟩) | (exfalso; rw [if_neg h3] at *; omega)
    · rw [if_neg h2]
      have h3 : m < n := by omega
      by_cases h4 : m = 1
      · subst h4
        go_enter Tryz.func94, Tryz.ntmps94
        go_wp2
        all_goals first | (go_ret; exact ⟨rfl, rfl⟩) | (exfalso; omega)
      · have h5 : 1 < m := by omega
        go_enter Tryz.func94, Tryz.ntmps94
        go_wp2
        all_goals first | (go_ret; exact ⟨rfl, rfl⟩) | (exfalso; rw [if_pos h3] at *; omega)

theorem alloc_size (w : World) (o : Obj) : (w.alloc o).heap.size = w.heap.size + 1 := Array.size_push _
theorem alloc2_new (w : World) (o o' : Obj) : ((w.alloc o).alloc o').heap[w.heap.size + 1]? = some o' := by
  have h := heap_alloc_new (w.alloc o) o'
  rwa [alloc_size] at h
set_option maxHeartbeats 1000000 in
theorem nearest_any (a b c : Int) (w : World) : Calls Tryz.prog 65 #[shV a b c] w fun e w' => e = .returned (shV (near a 1024) (near b 4096) (near c 64)) ∧ w.grownBy w' none := by
  have C := hide nearestTo_any
  have G : ∀ o o', w.grownBy ((w.alloc o).alloc o').drew none := fun o o' => grown_trans (grown_trans (grown_alloc _ _) (grown_alloc _ _)) (grown_drew _ _)
  unfold shV
  go_enter Tryz.func65, Tryz.ntmps65
  go_wp2_with fail
  go_region_with (go_at_call 94; refine (C.out _ _ (by decide) _).mono ?_; rintro e w2 ⟨rfl, rfl⟩)
  all_goals go_wp2
  all_goals refine bodyPost_ret (results_cell_row rfl _ _ (w.heap.size + 1) 23 #[.int .i64 (near a 1024), .int .i64 (near b 4096), .int .i64 (near c 64)] (0, 0) _ rfl ?_ Tryz.underlying23 rfl (by kernel_rfl)) rfl ⟨rfl, G _ _⟩
  all_goals exact alloc2_new w _ _

theorem near_all (a b c : Int) : (near a 1024 = a ∧ near b 4096 = b ∧ near c 64 = c) ↔ Gx.OkS a b c := by
  rw [near_eq a 1024 (by decide), near_eq b 4096 (by decide), near_eq c 64 (by decide)]; unfold Gx.OkS
  constructor <;> intro h <;> omega

/-- A box of the call's own is there behind what only makes memory. -/
theorem box_kept {w w2 : World} {o : Obj} (h : (w.alloc o).grownBy w2 none) : w2.heap[w.heap.size]? = some o :=
  (h.block _ (by rw [alloc_size]; omega) (fun e => by cases e)).trans (heap_alloc_new w o)
theorem box_keptd {w w2 : World} {o : Obj} (h : (w.alloc o).drew.grownBy w2 none) : w2.heap[w.heap.size]? = some o :=
  box_kept (grown_trans (grown_drew _ _) h)
theorem grown_box {w w2 : World} {o : Obj} (h : (w.alloc o).grownBy w2 none) : w.grownBy w2 none := grown_trans (grown_alloc _ _) h
theorem grown_boxd {w w2 : World} {o : Obj} (h : (w.alloc o).drew.grownBy w2 none) : w.grownBy w2 none := grown_box (grown_trans (grown_drew _ _) h)

theorem cell3 {w : World} {g : Nat} {u v x : Value} {t : TypeId} (h : w.heap[g]? = some (.cells #[u, v, x] t)) (j : Nat) : w.cell? ⟨g, j, none⟩ = [u, v, x][j]? := cell_row (l := [u, v, x]) h j
theorem getElem?_v0 (u v x : Value) : [u, v, x][0]? = some u := rfl
theorem getElem?_v1 (u v x : Value) : [u, v, x][1]? = some v := rfl
theorem getElem?_v2 (u v x : Value) : [u, v, x][2]? = some x := rfl
set_option maxHeartbeats 1000000 in
theorem check_ok (a b c : Int) (h : Gx.OkS a b c) (w : World) : Calls Tryz.prog 39 #[shV a b c] w fun e w' => e = .returned (.int .i64 0) ∧ w.grownBy w' none := by
  obtain ⟨e1, e2, e3⟩ := (near_all a b c).2 h
  have C := hide (nearest_any a b c)
  rw [e1, e2, e3] at C
  clear e1 e2 e3
  unfold shV at *
  go_enter Tryz.func39, Tryz.ntmps39
  go_wp2_with fail
  go_region_with (go_at_call 65; refine (C.out _).mono ?_; rintro e w2 ⟨rfl, hg⟩; have hb := box_keptd hg; have G := hide (grown_boxd hg); clear hg; have c0 := cell3 hb 0; have c1 := cell3 hb 1; have c2 := cell3 hb 2; simp only [getElem?_v0, getElem?_v1, getElem?_v2] at c0 c1 c2)
  all_goals go_wp2
  all_goals go_ret
  all_goals exact ⟨rfl, G.out⟩

set_option maxHeartbeats 1000000 in
theorem check_no (a b c : Int) (h : ¬ Gx.OkS a b c) (w : World) : Calls Tryz.prog 39 #[shV a b c] w fun e w' => e = .returned (.int .i64 90) ∧ w.grownBy w' none := by
  have hn := mt (near_all a b c).1 h
  have C := hide (nearest_any a b c)
  generalize near a 1024 = x at *
  generalize near b 4096 = y at *
  generalize near c 64 = z at *
  clear h
  unfold shV at *
  by_cases h1 : x = a
  · subst h1
    by_cases h2 : y = b
    · subst h2
      have h3 : ¬ z = c := fun e => hn ⟨rfl, rfl, e⟩
      clear hn
      go_enter Tryz.func39, Tryz.ntmps39
      go_wp2_with fail
      go_region_with (go_at_call 65; refine (C.out _).mono ?_; rintro e w2 ⟨rfl, hg⟩; have hb := box_keptd hg; have G := hide (grown_boxd hg); clear hg; have c0 := cell3 hb 0; have c1 := cell3 hb 1; have c2 := cell3 hb 2; simp only [getElem?_v0, getElem?_v1, getElem?_v2] at c0 c1 c2)
      all_goals go_wp2
      all_goals go_ret
      all_goals exact ⟨rfl, G.out⟩
    · clear hn
      go_enter Tryz.func39, Tryz.ntmps39
      go_wp2_with fail
      go_region_with (go_at_call 65; refine (C.out _).mono ?_; rintro e w2 ⟨rfl, hg⟩; have hb := box_keptd hg; have G := hide (grown_boxd hg); clear hg; have c0 := cell3 hb 0; have c1 := cell3 hb 1; have c2 := cell3 hb 2; simp only [getElem?_v0, getElem?_v1, getElem?_v2] at c0 c1 c2)
      all_goals go_wp2
      all_goals go_ret
      all_goals exact ⟨rfl, G.out⟩
  · clear hn
    go_enter Tryz.func39, Tryz.ntmps39
    go_wp2_with fail
    go_region_with (go_at_call 65; refine (C.out _).mono ?_; rintro e w2 ⟨rfl, hg⟩; have hb := box_keptd hg; have G := hide (grown_boxd hg); clear hg; have c0 := cell3 hb 0; have c1 := cell3 hb 1; have c2 := cell3 hb 2; simp only [getElem?_v0, getElem?_v1, getElem?_v2] at c0 c1 c2)
    all_goals go_wp2
    all_goals go_ret
    all_goals exact ⟨rfl, G.out⟩
end Go.Proofs.YtcbiloomnkbalaaGreatDoor.Ge
