/- The ways in which items are held against one another; awake. -/
import Derived.Test.YtkbhjdjdjfdikaaHj
namespace Go.Proofs.Ytkbhjdjdjfdikaa
open Go.RowKit Ap
attribute [local go_sem ↓] Go.wp_at_zero Go.wp_at_succ
/-- The number is one of int's. -/
def I64 (x : Int) : Prop := -9223372036854775808 ≤ x ∧ x ≤ 9223372036854775807
def lessK (k a b : Int) : Bool := if k = 0 then decide (a < b) else if k = 1 then decide (b < a) else if k = 2 then decide (a.tdiv 4 < b.tdiv 4) else if k = 3 then false else if k = 4 then true else if k = 5 then decide (a ≤ b) else decide ((bits .xor .i64 a b).tmod 3 = 1)
theorem tmod_neg (x : Int) (n : Nat) (hn : 1 ≤ n) (h : x.tmod (n : Int) < 0) : x.tmod (n : Int) + (n : Int) = x % (n : Int) := by
  have h1 := Int.tmod_eq_emod (a := x) (b := (n : Int))
  have h2 := Int.emod_nonneg x (show (n : Int) ≠ 0 by omega)
  have h3 := Int.emod_lt_of_pos x (show (0 : Int) < (n : Int) by omega)
  rw [h1] at h ⊢
  split at h
  · omega
  · rename_i h4
    rw [if_neg h4]
    simp
theorem tmod_nonneg (x : Int) (n : Nat) (hn : 1 ≤ n) (h : 0 ≤ x.tmod (n : Int)) : x.tmod (n : Int) = x % (n : Int) := by
  have h1 := Int.tmod_eq_emod (a := x) (b := (n : Int))
  have h2 := Int.emod_nonneg x (show (n : Int) ≠ 0 by omega)
  have h3 := Int.emod_lt_of_pos x (show (0 : Int) < (n : Int) by omega)
  rw [h1] at h ⊢
  split
  · omega
  · rename_i h4
    rw [if_neg h4] at h
    simp at h
    omega

set_option maxHeartbeats 400000 in
theorem pick_any (x N : Int) (n : Nat) (w : World) (hN : N = (n : Int)) (hn : 1 ≤ n) (hn2 : n ≤ 65536) :
    Calls Try.prog 13 #[.int .i64 x, .int .i64 N] w fun e w' => e = .returned (.int .i64 (x % (n : Int))) ∧ w' = w := by
  subst hN
  have h1 : (1 : Int) ≤ (n : Int) := by omega
  have h2 : ((n : Int) == 0) = false := by simp; omega
  have hb := Int.tmod_lt_of_pos x (show (0 : Int) < (n : Int) by omega)
  have hb2 := Int.lt_tmod_of_pos x (show (0 : Int) < (n : Int) by omega)
  have hr1 := tmod_neg x n hn
  have hr2 := tmod_nonneg x n hn
  by_cases hs : x.tmod (n : Int) < 0
  · have hr := hr1 hs
    have HR := hide hr
    clear hr hr1 hr2
    go_enter Try.func13, Try.ntmps13
    go_wp2
    go_ret
    exact ⟨by rw [← HR.out]; rfl, rfl⟩
  · have hs2 : 0 ≤ x.tmod (n : Int) := by omega
    have hr := hr2 hs2
    have HR := hide hr
    clear hr hr1 hr2
    go_enter Try.func13, Try.ntmps13
    go_wp2
    go_ret
    exact ⟨by rw [← HR.out]; rfl, rfl⟩
set_option maxRecDepth 20000 in
set_option maxHeartbeats 2000000 in
theorem less_any (k a b : Int) (w : World) (ha : I64 a) (hb : I64 b) : Calls Try.prog 56 #[.int .i64 k, .int .i64 a, .int .i64 b] w fun e w' => e = .returned (.bool (lessK k a b)) ∧ w' = w := by
  obtain ⟨ha1, ha2⟩ := ha
  obtain ⟨hb1, hb2⟩ := hb
  obtain ⟨r, hr⟩ : ∃ r, r = lessK k a b := ⟨_, rfl⟩
  rw [← hr]
  have HR := hide hr
  clear hr
  go_enter Try.func56, Try.ntmps56
  go_wp2
  all_goals
    go_ret
    refine ⟨?_, rfl⟩
    rw [HR.out]
    simp_all [lessK]
    try rfl
/-- The less of a kind, whose number lies in the block b. -/
def lsK (k : Int) (b : Nat) : Les := ⟨55, #[.pointer (some ⟨b, 0, none⟩)], lessK k, I64, fun w => w.heap[b]? = some (.cells #[.int .i64 k] 3 (0, 0)), fun i => i = b, fun _ => False⟩
theorem lsK_ok (k : Int) (b : Nat) : (lsK k b).Ok := by
  refine ⟨.inl ⟨rfl, _, rfl⟩, fun x y w hI hx hy => ?_, fun w w' X hI hk hX => ?_, fun w i hI hi => ?_, fun _ e => e.elim⟩
  · have hI2 : w.heap[b]? = some (.cells [Value.int .i64 k].toArray 3 (0, 0)) := hI
    have c0 := cell_row hI2 0
    simp at c0
    have hl := less_any k x y w hx hy
    show Calls Try.prog 55 #[.int .i64 x, .int .i64 y, .pointer (some ⟨b, 0, none⟩)] w fun e w' => e = .returned (.bool (lessK k x y)) ∧ (lsK k b).I w' ∧ Kept w w' (fun _ => False)
    have HI := hide hI
    clear hI hI2
    generalize lessK k x y = r at *
    go_enter Try.func55, Try.ntmps55
    go_wp2_with fail
    refine hl.mono ?_
    rintro e w1 ⟨rfl, hw1⟩
    obtain rfl := hw1.symm
    go_wp2
    go_ret
    exact ⟨rfl, HI.out, Kept.refl _ _⟩
  · exact hk.at hI (fun e => hX b e rfl)
  · have : i = b := hi
    subst this
    exact row_lt hI
theorem orders_any (k : Int) (w : World) : Calls Try.prog 32 #[.int .i64 k] w fun e w' => e = .returned (.tuple #[(lsK (k % 7) w.heap.size).fv, .bool (decide (k % 7 < 4))]) ∧ (lsK (k % 7) w.heap.size).I w' ∧ w.grownBy w' none := by
  have hp := pick_any k 7 7 (w.alloc (.cells #[.int .i64 k] 3)) rfl (by omega) (by omega)
  have hmf : ∀ (fn : Fn) (first cap : Array Value) (w : World), (Instr.makeFunc fn first cap).run Try.prog w = .ok (.func fn first cap) w := fun _ _ _ _ => rfl
  have h0 : 0 ≤ k % 7 := Int.emod_nonneg _ (by decide)
  have h7 : k % 7 < 7 := Int.emod_lt_of_pos _ (by decide)
  rw [show (((7 : Nat) : Int)) = 7 from rfl] at hp
  generalize k % 7 = q at *
  have HW : Hid (∀ w', w' = (w.alloc (.cells #[.int .i64 q] 3)).drew → (lsK q w.heap.size).I w' ∧ w.grownBy w' none) := by
    rintro w' rfl
    exact ⟨heap_alloc_new w _, grown_trans (World.grownBy_alloc w (.cells #[.int .i64 q] 3) none) (grown_drew _ none)⟩
  unfold Les.fv lsK
  go_enter Try.func32, Try.ntmps32
  go_wp2_with fail
  refine hp.mono ?_
  rintro e w1 ⟨rfl, hw1⟩
  obtain rfl := hw1.symm
  go_wp2
  go_region
  go_wp2
  go_ret2
  exact ⟨rfl, HW.out _ rfl⟩
end Go.Proofs.Ytkbhjdjdjfdikaa
