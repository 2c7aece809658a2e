/- The contracts of SameLimbs, Pick, and the document's own Words. -/
import Derived.Test.YtodonfdkegfmfaaWords
namespace Go.Proofs.Ytodonfdkegfmfaa
open Go.RowKit
attribute [local go_sem ↓] Go.wp_at_zero Go.wp_at_succ

set_option maxHeartbeats 1000000 in
theorem same_eq (ao bo : Option Addr) (n c d : Nat) (xs : List Nat) (w : World) (hn : xs.length = n) (ha : At w ao xs) (hb : At w bo xs) (hm : n ≤ 4611686018427387904) :
    Calls Try.prog 11 #[.slice ao n c, .slice bo n d] w fun e w' => e = .returned (.bool true) ∧ w.grownBy w' none := by
  have HA := hide (And.intro hn (And.intro ha hb))
  clear hn ha hb
  go_enter Try.func11, Try.ntmps11
  go_wp2
  go_loopg [5] n (fun k i wr => ∃ j : Nat, k + j = n ∧ i = .int .i64 j ∧ w.grownBy wr none)
  case atStart => exact ⟨0, by omega, rfl, grown_refl _ _⟩
  case round =>
    obtain ⟨j, hkj, rfl, hg⟩ := hrel
    by_cases hk : 0 < gk
    · obtain ⟨hn, ha, hb⟩ := HA.out
      have hj : j < xs.length := by omega
      obtain ⟨a, rfl, hca⟩ := ha j xs[j] (by simp [hj])
      obtain ⟨b, rfl, hcb⟩ := hb j xs[j] (by simp [hj])
      have hca' := hg.cell hca (by simp)
      have hcb' := hg.cell hcb (by simp)
      have h1 : (0 : Int) ≤ (j : Int) := by omega
      have h2 : (j : Int) < (n : Int) := by omega
      generalize xs[j] = x at *
      clear hn ha hb hca hcb hj
      go_wp2
      go_region_held3 (fun w' => w'.cell? (a.add j) = some (.int .u64 (x : Int)) ∧ w'.cell? (b.add j) = some (.int .u64 (x : Int))) (go_keep) (fail)
      go_wp2
      go_roundg (gk - 1)
      case measure => omega
      case rel => exact ⟨j + 1, by omega, by go_num, grown_trans hg (grown_drew _ _)⟩
    · have hj : j = n := by omega
      subst hj
      go_wp2
      go_ret
      exact ⟨rfl, hg⟩

theorem tmod_neg (x : Int) (n : Nat) (hn : 1 ≤ n) (h : x.tmod (n : Int) < 0) : x.tmod (n : Int) + (n : Int) = x % (n : Int) := by
  have h1 := Int.tmod_eq_emod (a := x) (b := (n : Int))
  have h2 := Int.emod_nonneg x (show (n : Int) ≠ 0 by omega)
  have h3 := Int.emod_lt_of_pos x (show (0 : Int) < (n : Int) by omega)
  rw [h1] at h ⊢
  split at h
  · omega
  · rename_i h4
    rw [if_neg h4]
    simp
theorem tmod_nonneg (x : Int) (n : Nat) (hn : 1 ≤ n) (h : 0 ≤ x.tmod (n : Int)) : x.tmod (n : Int) = x % (n : Int) := by
  have h1 := Int.tmod_eq_emod (a := x) (b := (n : Int))
  have h2 := Int.emod_nonneg x (show (n : Int) ≠ 0 by omega)
  have h3 := Int.emod_lt_of_pos x (show (0 : Int) < (n : Int) by omega)
  rw [h1] at h ⊢
  split
  · omega
  · rename_i h4
    rw [if_neg h4] at h
    simp at h
    omega

set_option maxHeartbeats 400000 in
theorem pick_any (x N : Int) (n : Nat) (w : World) (hN : N = (n : Int)) (hn : 1 ≤ n) (hn2 : n ≤ 65536) :
    Calls Try.prog 19 #[.int .i64 x, .int .i64 N] w fun e w' => e = .returned (.int .i64 (x % (n : Int))) ∧ w' = w := by
  subst hN
  have h1 : (1 : Int) ≤ (n : Int) := by omega
  have h2 : ((n : Int) == 0) = false := by simp; omega
  have hb := Int.tmod_lt_of_pos x (show (0 : Int) < (n : Int) by omega)
  have hb2 := Int.lt_tmod_of_pos x (show (0 : Int) < (n : Int) by omega)
  have hr1 := tmod_neg x n hn
  have hr2 := tmod_nonneg x n hn
  by_cases hs : x.tmod (n : Int) < 0
  · have hr := hr1 hs
    have HR := hide hr
    clear hr hr1 hr2
    go_enter Try.func19, Try.ntmps19
    go_wp2
    go_ret
    exact ⟨by rw [← HR.out]; rfl, rfl⟩
  · have hs2 : 0 ≤ x.tmod (n : Int) := by omega
    have hr := hr2 hs2
    have HR := hide hr
    clear hr hr1 hr2
    go_enter Try.func19, Try.ntmps19
    go_wp2
    go_ret
    exact ⟨by rw [← HR.out]; rfl, rfl⟩

set_option maxHeartbeats 400000 in
theorem refWords_bad (s : Nat) (n : Int) (w : World) (hn : n < 0 ∨ 65536 < n) :
    Calls Try.prog 10 #[.int .u64 (s : Int), .int .i64 n] w fun e w' => e = .returned (.tuple #[.slice none 0 0, .int .i64 2]) ∧ w' = w := by
  rcases hn with h | h
  · go_enter Try.func10, Try.ntmps10
    go_wp2
    go_ret2
    exact ⟨rfl, rfl⟩
  · have h0 : ¬ n < 0 := by omega
    go_enter Try.func10, Try.ntmps10
    go_wp2
    go_ret2
    exact ⟨rfl, rfl⟩

theorem cell_one_new (w : World) (v : Value) (t : TypeId) : ∀ j u, [v][j]? = some u → (w.alloc (.cells #[v] t)).cell? ((⟨w.heap.size, 0, none⟩ : Addr).add j) = some u := by
  intro j u hu
  rw [Addr.add_lit, Nat.zero_add, cell_of_row _ _ j #[v] t (0, 0) (heap_alloc_new w _)]
  simpa using hu
theorem mul_G (j : Nat) : IntKind.u64.wrap (((j : Int) + 1) * 11400714819323198485) = ((Mx.mul (j + 1) Mx.G : Nat) : Int) := mul_wrap (j + 1) 11400714819323198485
theorem add_G (s j : Nat) : IntKind.u64.wrap ((s : Int) + ((Mx.mul (j + 1) Mx.G : Nat) : Int)) = ((Mx.seedAt s (j + 1) : Nat) : Int) := by
  rw [← Int.natCast_add, wrap_nat]
  unfold Mx.seedAt Mx.mul
  congr 1
  exact Nat.add_mod_mod ..

/-- The document's words, told. -/
def Told (s n : Nat) (w : World) (e : Ending) (w' : World) : Prop := ∃ ao cap, e = .returned (.tuple #[.slice ao n cap, .int .i64 0]) ∧ At w' ao (Mx.words s n) ∧ w.grownBy w' none
set_option maxHeartbeats 1000000 in
theorem refWords_any (s n : Nat) (w : World) (_hs : s < 18446744073709551616) (hn : n ≤ 65536) :
    Calls Try.prog 10 #[.int .u64 (s : Int), .int .i64 (n : Int)] w (Told s n w) := by
  have h1 : ¬ (n : Int) < 0 := by omega
  have h2 : ¬ 65536 < (n : Int) := by omega
  obtain ⟨i0, hi, hz0, hz1, hz2⟩ := info_parts Try.info26
  have HI := hide (And.intro hi (And.intro hz0 (And.intro hz1 hz2)))
  clear hi hz0 hz1 hz2
  go_enter Try.func10, Try.ntmps10
  go_wp2
  go_loopg [6, 7] n (fun k o i wr => ∃ j : Nat, k + j = n ∧ i = .int .i64 ((j : Int) + 1) ∧ Hid (wr.ownsRow w.heap.size 26 1 o j (bv (Mx.words s j)) ∧ w.grownBy wr none))
  case atStart => exact ⟨0, by omega, rfl, World.ownsRow_nil _ _ _ _, grown_refl _ _⟩
  case round =>
    obtain ⟨j, hkj, rfl, hO⟩ := hrel
    obtain ⟨ao, cap, rfl, -⟩ := own_at hO.out.1
    by_cases hk : 0 < gk
    · have hj : (j : Int) + 1 ≤ (n : Int) := by omega
      have hm := mul_G j
      have ha := add_G s j
      have HW := hide (Mx.words_succ s j)
      have C := hide (fun w => refHash_any (Mx.seedAt s (j + 1)) (Mx.seedAt_lt _ _) w)
      rw [show Mx.word s (j + 1) = Mx.hash (Mx.seedAt s (j + 1)) from rfl] at HW
      generalize Mx.hash (Mx.seedAt s (j + 1)) = y at *
      generalize Mx.seedAt s (j + 1) = t at *
      generalize Mx.mul (j + 1) Mx.G = m at *
      go_wp2_with fail
      refine (C.out _).mono ?_
      rintro e w2 ⟨rfl, rfl⟩
      obtain ⟨hi, hz0, hz1, hz2⟩ := HI.out
      go_wp2_with (at_builtin; refine wpList_append_own _ rfl (.tmp 19) (.tmp 26) 22 rfl w.heap.size 26 i0 (.int .u64 0) 1 8 Try.underlying22 hi hz0 hz1 hz2 rfl (by decide) _ _ _ rfl (hO.out.1.alloc _) ⟨w2.heap.size, 0, none⟩ 1 1 [.int .u64 (y : Int)] rfl rfl (cell_one_new _ _ _) (by simp [Value.oneCell']) (by unfold maxLen; omega) (by omega) (by have := hO.out.2.size; simp; omega) ?_)
      intro v' w1 hown' hgrow _
      have HN : Hid (w1.ownsRow w.heap.size 26 1 v' (j + 1) (bv (Mx.words s (j + 1))) ∧ w.grownBy w1 none) := by
        obtain ⟨ao', cap', e', _, _, _, _, _, hb⟩ := own_at hO.out.1
        cases e'
        refine ⟨by rw [HW.out, bv_append]; exact hown', grown_then (grown_trans hO.out.2 (World.grownBy_alloc w2 _ none)) hgrow (fun k e => ?_)⟩
        cases ao with
        | none => cases e
        | some a' => cases e; exact Or.inl (hb a' rfl).2.1
      clear hown' hgrow hi hz0 hz1 hz2
      obtain ⟨ao2, cap2, rfl, -⟩ := own_at HN.out.1
      go_wp2
      go_roundg (gk - 1)
      case measure => omega
      case rel => exact ⟨j + 1, by omega, by go_num, HN⟩
    · obtain rfl : j = n := by omega
      have hj : ¬ (j : Int) + 1 ≤ (j : Int) := by omega
      go_wp2
      go_ret2
      obtain ⟨ao2, cap2, e2, -, -, -, hat, -⟩ := own_at hO.out.1
      cases e2
      exact ⟨_, _, rfl, hat, hO.out.2⟩
end Go.Proofs.Ytodonfdkegfmfaa
