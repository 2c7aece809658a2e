/- less, asked. -/
import Derived.Test.YtkbhjdjdjfdikaaHb
namespace Go.Proofs.Ytkbhjdjdjfdikaa
open Go.RowKit Ap
attribute [local go_sem ↓] Go.wp_at_zero Go.wp_at_succ
set_option maxHeartbeats 2000000 in
theorem ask_any (L : Les) (hL : L.Ok) (h : Nat) (N : Int) (ve vl : Value) (mb : Nat) (a b : Int) (w : World) (hh : w.heap[h]? = some (.cells (hpc L h N ve vl mb).toArray 57 (0, 0))) (hI : L.I w) (ha : L.ok a) (hb : L.ok b) (hF : ¬ L.F h) :
    Calls Try.prog 75 #[.pointer (some ⟨h, 0, none⟩), .int .i64 a, .int .i64 b] w fun e w' => e = .returned (.bool (L.lt a b)) ∧ L.I w' ∧ Kept w w' L.S := by
  have hmf : ∀ (fn : Fn) (first cap : Array Value) (w : World), (Instr.makeFunc fn first cap).run Try.prog w = .ok (.func fn first cap) w := fun _ _ _ _ => rfl
  have ga := World.grownBy_alloc w (.cells #[.pointer (some ⟨h, 0, none⟩)] 23) none
  have hne : ¬ h = w.heap.size := by have := row_lt hh; omega
  have hh1 := (ga.block _ (row_lt hh) (by simp)).trans hh
  have c1 : (w.alloc (.cells #[.pointer (some ⟨h, 0, none⟩)] 23)).cell? ⟨h, 1, none⟩ = some (.func (.func L.k) #[] L.cap) := by rw [cell_row hh1]; rfl
  have c2 : (w.alloc (.cells #[.pointer (some ⟨h, 0, none⟩)] 23)).cell? ⟨h, 2, none⟩ = some (.bool false) := by rw [cell_row hh1]; rfl
  have f2 : (w.alloc (.cells #[.pointer (some ⟨h, 0, none⟩)] 23)).frozen? ⟨h, 2, none⟩ = false := free_row hh1 2
  have HC : Hid (∀ w1, L.I w1 → Calls Try.prog L.k (#[.int .i64 a, .int .i64 b] ++ L.cap) w1 fun e w' => e = .returned (.bool (L.lt a b)) ∧ L.I w' ∧ Kept w1 w' L.S) := fun w1 h1 => hL.call a b w1 h1 ha hb
  have HI := hide (And.intro hh (And.intro hI (And.intro hh1 ga)))
  clear hh hI hh1 ga
  have HEnd : Hid (∀ w2 : World, L.I w2 → Kept ((w.alloc (.cells #[.pointer (some ⟨h, 0, none⟩)] 23)).setCell ⟨h, 2, none⟩ (.bool true)) w2 L.S → w2.cell? ⟨w.heap.size, 0, none⟩ = some (.pointer (some ⟨h, 0, none⟩)) ∧ w2.cell? ⟨h, 2, none⟩ = some (.bool true) ∧ w2.frozen? ⟨h, 2, none⟩ = false ∧ L.I (w2.setCell ⟨h, 2, none⟩ (.bool false)) ∧ Kept w (w2.setCell ⟨h, 2, none⟩ (.bool false)) L.S) := by
    intro w2 hI2 hk2
    have hnS : ¬ L.S h := fun e => hF (hL.sub _ e)
    have hnw : ¬ L.S w.heap.size := fun e => by have := hL.below w _ HI.out.2.1 (hL.sub _ e); omega
    have b1 := row_setCell HI.out.2.2.1 2 (.bool true)
    have b2 := hk2.at b1 hnS
    have n1 : ((w.alloc (.cells #[.pointer (some ⟨h, 0, none⟩)] 23)).setCell ⟨h, 2, none⟩ (.bool true)).heap[w.heap.size]? = some (.cells [Value.pointer (some ⟨h, 0, none⟩)].toArray 23 (0, 0)) := (Below.heap_setCell _ _ _ _ (fun e => hne e.symm)).trans (heap_alloc_new w _)
    have n2 := hk2.at n1 hnw
    have b3 := row_setCell b2 2 (.bool false)
    refine ⟨cell_row n2 0, cell_row b2 2, free_row b2 2, hL.keep _ _ _ hI2 (kept_setCell w2 h 2 _) (fun i e => by rw [e]; exact hF), ?_⟩
    have k1 : Kept w (w2.setCell ⟨h, 2, none⟩ (.bool false)) (fun i => L.S i ∨ i = h) := (((Kept.new HI.out.2.2.2 _).trans (kept_setCell _ h 2 (.bool true)) (fun i _ e => .inr e)).trans hk2 (fun i _ e => .inl e)).trans (kept_setCell _ h 2 _) (fun i _ e => .inr e)
    refine ⟨k1.os, k1.tape, k1.output, k1.size, fun i hi hn => ?_⟩
    by_cases e : i = h
    · subst e
      rw [b3, HI.out.1]
      rfl
    · exact k1.block i hi (fun h1 => h1.elim hn e)
  have HIa : Hid (L.I ((w.alloc (.cells #[.pointer (some ⟨h, 0, none⟩)] 23)).setCell ⟨h, 2, none⟩ (.bool true))) := hL.keep _ _ _ HI.out.2.1 ((Kept.new HI.out.2.2.2 (fun i => i = h)).trans (kept_setCell _ h 2 _) (fun _ _ e => e)) (fun i e => by rw [e]; exact hF)
  rcases hL.kind with ⟨e1, p1, e2⟩ | ⟨e1, p1, p2, e2⟩
  case' inl =>
    rw [e1, e2] at c1 HC
    have HC1 : Hid (∀ w1, L.I w1 → Calls Try.prog 55 #[.int .i64 a, .int .i64 b, .pointer (some p1)] w1 fun e w' => e = .returned (.bool (L.lt a b)) ∧ L.I w' ∧ Kept w1 w' L.S) := HC
  case' inr =>
    rw [e1, e2] at c1 HC
    have HC1 : Hid (∀ w1, L.I w1 → Calls Try.prog 30 #[.int .i64 a, .int .i64 b, .pointer (some p1), .pointer (some p2)] w1 fun e w' => e = .returned (.bool (L.lt a b)) ∧ L.I w' ∧ Kept w1 w' L.S) := HC
  all_goals
    clear HC e1 e2
    have hc1 := HC1.out _ HIa.out
    go_enter_defers Try.func75, Try.ntmps75
    go_wp2_with fail
    refine hc1.mono ?_
    clear hc1
    rintro e w2 ⟨rfl, hI2, hk2⟩
    obtain ⟨q1, q2, q3, q4, q5⟩ := HEnd.out w2 hI2 hk2
    have HQ := hide (And.intro q4 q5)
    clear HEnd HIa HI HC1 q4 q5 hk2 hI2
    go_wp2
    refine leaves_cons (f := 82) (args := #[.pointer (some ⟨w.heap.size, 0, none⟩)]) (by simp) (by simp [go_sem]) ?_
    refine (idle_any ⟨w.heap.size, 0, none⟩ h w2 q1 ⟨_, q2⟩ q3).mono ?_
    rintro e u' w3 ⟨rfl, rfl, rfl⟩
    exact ⟨_, results_tmp rfl _ _ _, rfl, HQ.out⟩
end Go.Proofs.Ytkbhjdjdjfdikaa
