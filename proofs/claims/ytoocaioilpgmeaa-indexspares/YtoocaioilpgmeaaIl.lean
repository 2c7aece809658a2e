/- What the statements ask of indexes: Pick, rows that are the same, told, awake, does, made. -/
import Derived.Test.YtoocaioilpgmeaaIk
namespace Go.Proofs.Ytoocaioilpgmeaa
open Go.RowKit Ix Go.Shelf
attribute [local go_sem ↓] Go.wp_at_zero Go.wp_at_succ
theorem tmod_neg (x : Int) (n : Nat) (hn : 1 ≤ n) (h : x.tmod (n : Int) < 0) : x.tmod (n : Int) + (n : Int) = x % (n : Int) := by
  have h1 := Int.tmod_eq_emod (a := x) (b := (n : Int))
  have h2 := Int.emod_nonneg x (show (n : Int) ≠ 0 by omega)
  have h3 := Int.emod_lt_of_pos x (show (0 : Int) < (n : Int) by omega)
  rw [h1] at h ⊢
  split at h
  · omega
  · rename_i h4
    rw [if_neg h4]
    simp
theorem tmod_nonneg (x : Int) (n : Nat) (hn : 1 ≤ n) (h : 0 ≤ x.tmod (n : Int)) : x.tmod (n : Int) = x % (n : Int) := by
  have h1 := Int.tmod_eq_emod (a := x) (b := (n : Int))
  have h2 := Int.emod_nonneg x (show (n : Int) ≠ 0 by omega)
  have h3 := Int.emod_lt_of_pos x (show (0 : Int) < (n : Int) by omega)
  rw [h1] at h ⊢
  split
  · omega
  · rename_i h4
    rw [if_neg h4] at h
    simp at h
    omega

set_option maxHeartbeats 400000 in
theorem pick_any (x N : Int) (n : Nat) (w : World) (hN : N = (n : Int)) (hn : 1 ≤ n) (hn2 : n ≤ 65536) :
    Calls Try.prog 24 #[.int .i64 x, .int .i64 N] w fun e w' => e = .returned (.int .i64 (x % (n : Int))) ∧ w' = w := by
  subst hN
  have h1 : (1 : Int) ≤ (n : Int) := by omega
  have h2 : ((n : Int) == 0) = false := by simp; omega
  have hb := Int.tmod_lt_of_pos x (show (0 : Int) < (n : Int) by omega)
  have hb2 := Int.lt_tmod_of_pos x (show (0 : Int) < (n : Int) by omega)
  have hr1 := tmod_neg x n hn
  have hr2 := tmod_nonneg x n hn
  by_cases hs : x.tmod (n : Int) < 0
  · have hr := hr1 hs
    have HR := hide hr
    clear hr hr1 hr2
    go_enter Try.func24, Try.ntmps24
    go_wp2
    go_ret
    exact ⟨by rw [← HR.out]; rfl, rfl⟩
  · have hs2 : 0 ≤ x.tmod (n : Int) := by omega
    have hr := hr2 hs2
    have HR := hide hr
    clear hr hr1 hr2
    go_enter Try.func24, Try.ntmps24
    go_wp2
    go_ret
    exact ⟨by rw [← HR.out]; rfl, rfl⟩
set_option maxHeartbeats 1000000 in
theorem sameLimbs_any {w : World} {v u : Value} {b1 b2 : Nat} {M : List (Nat × Int)} (hv : w.ownsRow b1 56 1 v M.length (idV M)) (hu : w.ownsRow b2 56 1 u M.length (idV M)) (hM : M.length ≤ 65536) :
    Calls Try.prog 25 #[v, u] w fun e w' => e = .returned (.bool true) ∧ w.grownBy w' none := by
  obtain ⟨ao, c, rfl, -⟩ := own_form hv
  obtain ⟨bo, d, rfl, -⟩ := own_form hu
  have HA := hide (And.intro hv hu)
  clear hv hu
  generalize hn : M.length = n at *
  have HN := hide hn
  clear hn
  go_enter Try.func25, Try.ntmps25
  go_wp2
  go_loopg [5] n (fun k i wr => ∃ j : Nat, k + j = n ∧ i = .int .i64 j ∧ w.grownBy wr none)
  case atStart => exact ⟨0, by omega, rfl, grown_refl _ _⟩
  case round =>
    obtain ⟨j, hkj, rfl, hg⟩ := hrel
    by_cases hk : 0 < gk
    · obtain ⟨hv, hu⟩ := HA.out
      have hj : j < M.length := by rw [HN.out]; omega
      obtain ⟨g1, c1, cur1, e1, -, hg1, -, -, -, ht1⟩ := own_row hv (by omega)
      obtain ⟨g2, c2, cur2, e2, -, hg2, -, -, -, ht2⟩ := own_row hu (by omega)
      cases e1
      cases e2
      have hx : (idV M)[j]? = some (.int .u64 (((M[j].1 : Nat) : Int))) := by simp [idV, hj]
      have hca' := hg.cell (own_cell hg1 ht1 hx) (by simp)
      have hcb' := hg.cell (own_cell hg2 ht2 hx) (by simp)
      have h1 : (0 : Int) ≤ (j : Int) := by omega
      have h2 : (j : Int) < (n : Int) := by omega
      generalize ((M[j].1 : Nat) : Int) = x at *
      clear hv hu hg1 hg2 ht1 ht2 hx hj
      go_wp2
      go_quiet (fail)
      go_wp2
      go_roundg (gk - 1)
      case measure => omega
      case rel => exact ⟨j + 1, by omega, by simp, grown_trans hg (grown_drewN _ _ _)⟩
    · have hj : j = n := by omega
      subst hj
      go_wp2
      go_ret
      exact ⟨rfl, hg⟩
set_option maxHeartbeats 1000000 in
theorem sameInts_any {w : World} {v u : Value} {b1 b2 : Nat} {M : List (Nat × Int)} (hv : w.ownsRow b1 3 1 v M.length (vlV M)) (hu : w.ownsRow b2 3 1 u M.length (vlV M)) (hM : M.length ≤ 65536) :
    Calls Try.prog 26 #[v, u] w fun e w' => e = .returned (.bool true) ∧ w.grownBy w' none := by
  obtain ⟨ao, c, rfl, -⟩ := own_form hv
  obtain ⟨bo, d, rfl, -⟩ := own_form hu
  have HA := hide (And.intro hv hu)
  clear hv hu
  generalize hn : M.length = n at *
  have HN := hide hn
  clear hn
  go_enter Try.func26, Try.ntmps26
  go_wp2
  go_loopg [5] n (fun k i wr => ∃ j : Nat, k + j = n ∧ i = .int .i64 j ∧ w.grownBy wr none)
  case atStart => exact ⟨0, by omega, rfl, grown_refl _ _⟩
  case round =>
    obtain ⟨j, hkj, rfl, hg⟩ := hrel
    by_cases hk : 0 < gk
    · obtain ⟨hv, hu⟩ := HA.out
      have hj : j < M.length := by rw [HN.out]; omega
      obtain ⟨g1, c1, cur1, e1, -, hg1, -, -, -, ht1⟩ := own_row hv (by omega)
      obtain ⟨g2, c2, cur2, e2, -, hg2, -, -, -, ht2⟩ := own_row hu (by omega)
      cases e1
      cases e2
      have hx : (vlV M)[j]? = some (.int .i64 (M[j].2)) := by simp [vlV, hj]
      have hca' := hg.cell (own_cell hg1 ht1 hx) (by simp)
      have hcb' := hg.cell (own_cell hg2 ht2 hx) (by simp)
      have h1 : (0 : Int) ≤ (j : Int) := by omega
      have h2 : (j : Int) < (n : Int) := by omega
      generalize M[j].2 = x at *
      clear hv hu hg1 hg2 ht1 ht2 hx hj
      go_wp2
      go_quiet (fail)
      go_wp2
      go_roundg (gk - 1)
      case measure => omega
      case rel => exact ⟨j + 1, by omega, by simp, grown_trans hg (grown_drewN _ _ _)⟩
    · have hj : j = n := by omega
      subst hj
      go_wp2
      go_ret
      exact ⟨rfl, hg⟩
section
variable {w w' : World} {p : Ip} {M : List (Nat × Int)} {lo : Bool}
theorem Io.short (h : Io w p M lo) : M.length ≤ 65536 := by have := h.few; omega
theorem told_io (h : Io w p M lo) : Calls Try.prog 9 #[.pointer (some ⟨p.x, 0, none⟩)] w fun e w' => ∃ v u, e = .returned (.tuple #[v, u, .bool true]) ∧ w'.ownsRow w.heap.size 56 1 v M.length (idV M) ∧ w'.ownsRow w.heap.size 3 1 u M.length (vlV M) ∧ w.grownBy w' none :=
  told_of h.short (fun y hy => by have := (h.ids y hy).1; omega) (fun W g => all_io (h.then g))
theorem told_no {v : Value} (h : NoIx w v) : Calls Try.prog 9 #[v] w fun e w' => ∃ v u, e = .returned (.tuple #[v, u, .bool true]) ∧ w'.ownsRow w.heap.size 56 1 v ([] : List (Nat × Int)).length (idV []) ∧ w'.ownsRow w.heap.size 3 1 u ([] : List (Nat × Int)).length (vlV []) ∧ w.grownBy w' none :=
  told_of (by simp) (fun y hy => by simp at hy) (fun W g => all_no (h.then g))
theorem new_io (m : Nat) (h1 : 1 ≤ m) (h2 : m ≤ 4096) (w : World) : Calls Try.prog 17 #[.int .i64 (m : Int)] w fun e w' => ∃ p : Ip, e = .returned (.tuple #[.pointer (some ⟨p.x, 0, none⟩), .int .i64 0]) ∧ p.m = m ∧ Io w' p [] false ∧ w.grownBy w' none ∧ ∀ i, p.own i → w.heap.size ≤ i := by
  refine (new_any m h1 h2 w).mono ?_
  rintro e w' ⟨x, g, n, S, rfl, h, hg, hx, hgg⟩
  refine ⟨⟨x, g, n, m⟩, rfl, rfl, ⟨0, S, h, by simp⟩, hg, ?_⟩
  rintro i (rfl | rfl)
  · exact hx
  · exact hgg
end
end Go.Proofs.Ytoocaioilpgmeaa
