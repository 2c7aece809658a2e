/- less, asked. -/
import Derived.Test.YtkbhjdjdjfdikaaTb
import Derived.Deep.CutRange
import Derived.Deep.DeepCutAuto
namespace Go.Proofs.Ytkbhjdjdjfdikaa.Th
open Go.RowKit Ap Go.Proofs.Ytkbhjdjdjfdikaa
attribute [local go_sem ↓] Go.wp_at_zero Go.wp_at_succ
set_option maxRecDepth 20000 in
set_option maxHeartbeats 2000000 in
theorem ask_any (L : Les) (hL : L.Ok) (h : Nat) (N : Int) (ve vl : Value) (mb : Nat) (a b : It) (w : World) (hh : w.heap[h]? = some (.cells (hpc L h N ve vl mb).toArray 88 (0, 0))) (hI : L.I w) (ha : L.ok a) (hb : L.ok b) (hF : ¬ L.F h) :
    Calls Try.prog 76 #[.pointer (some ⟨h, 0, none⟩), .agg #[.string a.s, .float .f64 a.f], .agg #[.string b.s, .float .f64 b.f]] w fun e w' => e = .returned (.bool (L.lt a b)) ∧ L.I w' ∧ Kept w w' L.S := by
  have hmf : ∀ (fn : Fn) (first cap : Array Value) (w : World), (Instr.makeFunc fn first cap).run Try.prog w = .ok (.func fn first cap) w := fun _ _ _ _ => rfl
  obtain ⟨e1, e2⟩ := hL.kind
  have HC1 : Hid (∀ w1, L.I w1 → Calls Try.prog 24 #[.agg #[.string a.s, .float .f64 a.f], .agg #[.string b.s, .float .f64 b.f]] w1 fun e w' => e = .returned (.bool (L.lt a b)) ∧ L.I w' ∧ Kept w1 w' L.S) := by
    intro w1 h1
    have := hL.call a b w1 h1 ha hb
    rw [e1, e2] at this
    exact this
  have hne : h < w.heap.size := row_lt hh
  obtain ⟨w1, hw1⟩ : ∃ w1, w1 = ((w.alloc (.cells #[.pointer (some ⟨h, 0, none⟩)] 59)).alloc (.cells #[.string a.s, .float .f64 a.f] 63)).alloc (.cells #[.string b.s, .float .f64 b.f] 63) := ⟨_, rfl⟩
  have g1 := World.grownBy_alloc w (.cells #[.pointer (some ⟨h, 0, none⟩)] 59) none
  have g2 := World.grownBy_alloc (w.alloc (.cells #[.pointer (some ⟨h, 0, none⟩)] 59)) (.cells #[.string a.s, .float .f64 a.f] 63) none
  have g3 := World.grownBy_alloc ((w.alloc (.cells #[.pointer (some ⟨h, 0, none⟩)] 59)).alloc (.cells #[.string a.s, .float .f64 a.f] 63)) (.cells #[.string b.s, .float .f64 b.f] 63) none
  have s1 : (w.alloc (.cells #[.pointer (some ⟨h, 0, none⟩)] 59)).heap.size = w.heap.size + 1 := World.size_alloc ..
  have s2 : ((w.alloc (.cells #[.pointer (some ⟨h, 0, none⟩)] 59)).alloc (.cells #[.string a.s, .float .f64 a.f] 63)).heap.size = w.heap.size + 1 + 1 := by rw [World.size_alloc, s1]
  have b1 : (w.alloc (.cells #[.pointer (some ⟨h, 0, none⟩)] 59)).heap[w.heap.size]? = some (.cells [Value.pointer (some ⟨h, 0, none⟩)].toArray 59 (0, 0)) := heap_alloc_new w _
  have b2 : ((w.alloc (.cells #[.pointer (some ⟨h, 0, none⟩)] 59)).alloc (.cells #[.string a.s, .float .f64 a.f] 63)).heap[(w.alloc (.cells #[.pointer (some ⟨h, 0, none⟩)] 59)).heap.size]? = some (.cells [Value.string a.s, .float .f64 a.f].toArray 63 (0, 0)) := heap_alloc_new _ _
  have b3 : (((w.alloc (.cells #[.pointer (some ⟨h, 0, none⟩)] 59)).alloc (.cells #[.string a.s, .float .f64 a.f] 63)).alloc (.cells #[.string b.s, .float .f64 b.f] 63)).heap[((w.alloc (.cells #[.pointer (some ⟨h, 0, none⟩)] 59)).alloc (.cells #[.string a.s, .float .f64 a.f] 63)).heap.size]? = some (.cells [Value.string b.s, .float .f64 b.f].toArray 63 (0, 0)) := heap_alloc_new _ _
  have b1' := ((grown_trans g2 g3).block _ (row_lt b1) (by simp)).trans b1
  have b2' := (g3.block _ (row_lt b2) (by simp)).trans b2
  rw [s1] at b2'
  rw [s2] at b3
  rw [← hw1] at b1' b2' b3 g3
  have ga : w.grownBy w1 none := grown_trans (grown_trans g1 g2) g3
  have hh1 := (ga.block _ hne (by simp)).trans hh
  clear g1 g2 g3 s1 s2 b1 b2
  obtain ⟨w2, hw2⟩ : ∃ w2, w2 = w1.setCell ⟨h, 2, none⟩ (.bool true) := ⟨_, rfl⟩
  have k12 : Kept w1 w2 (fun i => i = h) := by rw [hw2]; exact kept_setCell _ h 2 _
  have hh2 : w2.heap[h]? = some (.cells ((hpc L h N ve vl mb).set 2 (.bool true)).toArray 88 (0, 0)) := by rw [hw2]; exact row_setCell hh1 2 _
  have d1 := k12.at b1' (by omega)
  have d2 := k12.at b2' (by omega)
  have d3 := k12.at b3 (by omega)
  have hI2 : L.I w2 := hL.keep _ _ _ hI ((Kept.new ga (fun i => i = h)).trans k12 (fun _ _ e => e)) (fun i e => by rw [e]; exact hF)
  have HEnd : Hid (∀ w3 : World, L.I w3 → Kept w2 w3 L.S → w3.cell? ⟨w.heap.size, 0, none⟩ = some (.pointer (some ⟨h, 0, none⟩)) ∧ w3.cell? ⟨h, 2, none⟩ = some (.bool true) ∧ w3.frozen? ⟨h, 2, none⟩ = false ∧ L.I (w3.setCell ⟨h, 2, none⟩ (.bool false)) ∧ Kept w (w3.setCell ⟨h, 2, none⟩ (.bool false)) L.S) := by
    intro w3 hI3 hk3
    have hnS : ¬ L.S h := fun e => hF (hL.sub _ e)
    have hnw : ¬ L.S w.heap.size := fun e => by have := hL.below w _ hI (hL.sub _ e); omega
    have e2 := hk3.at hh2 hnS
    have n2 := hk3.at d1 hnw
    have e3 := row_setCell e2 2 (.bool false)
    refine ⟨cell_row n2 0, cell_row e2 2, free_row e2 2, hL.keep _ _ _ hI3 (kept_setCell w3 h 2 _) (fun i e => by rw [e]; exact hF), ?_⟩
    have k1 : Kept w (w3.setCell ⟨h, 2, none⟩ (.bool false)) (fun i => L.S i ∨ i = h) := (((Kept.new ga _).trans k12 (fun i _ e => .inr e)).trans hk3 (fun i _ e => .inl e)).trans (kept_setCell _ h 2 _) (fun i _ e => .inr e)
    refine ⟨k1.os, k1.tape, k1.output, k1.size, fun i hi hn => ?_⟩
    by_cases e : i = h
    · subst e
      rw [e3, hh]
      rfl
    · exact k1.block i hi (fun h1 => h1.elim hn e)
  have c0 := cell_row d1 0
  have c1 := cell_row d2 0
  have c2 := cell_row d2 1
  have c3 := cell_row d3 0
  have c4 := cell_row d3 1
  have c5 : w2.cell? ⟨h, 1, none⟩ = some (.func (.func 24) #[] #[]) := by rw [cell_row hh2]; show some L.fv = _; unfold Les.fv; rw [e1, e2]
  have q0 := cell_row b1' 0
  have q2 : w1.cell? ⟨h, 2, none⟩ = some (.bool false) := by rw [cell_row hh1]; rfl
  have q3 : w1.frozen? ⟨h, 2, none⟩ = false := free_row hh1 2
  simp at c0 c1 c2 c3 c4 q0
  have HCall := hide (fun n => HC1.out (w2.drewN n) (hL.keep _ _ (fun _ => False) hI2 (Kept.new (grown_drewN w2 n none) _) (fun _ e => e.elim)))
  have HCall1 := hide (HC1.out w2.drew (hL.keep _ _ (fun _ => False) hI2 (Kept.new (grown_drew w2 none) _) (fun _ e => e.elim)))
  have HK : Hid (Kept w2 w2.drew L.S) := Kept.new (grown_drew w2 none) _
  have hbl : ∀ i, w.heap.size ≤ i → ¬ L.S i := fun i hi e => by have := hL.below w _ hI (hL.sub _ e); omega
  have HS4 : Hid (∀ w3 : World, Kept w2 w3 L.S → w3.cell? ⟨w.heap.size, 0, none⟩ = some (.pointer (some ⟨h, 0, none⟩)) ∧ w3.cell? ⟨h, 1, none⟩ = some (.func (.func 24) #[] #[]) ∧ w3.cell? ⟨w.heap.size + 1, 0, none⟩ = some (.string a.s) ∧ w3.cell? ⟨w.heap.size + 1, 1, none⟩ = some (.float .f64 a.f) ∧ w3.cell? ⟨w.heap.size + 1 + 1, 0, none⟩ = some (.string b.s) ∧ w3.cell? ⟨w.heap.size + 1 + 1, 1, none⟩ = some (.float .f64 b.f)) := by
    intro w3 hk
    have x1 := hk.at d1 (hbl _ (Nat.le_refl _))
    have x2 := hk.at d2 (hbl _ (by omega))
    have x3 := hk.at d3 (hbl _ (by omega))
    have x4 := hk.at hh2 (fun e => hF (hL.sub _ e))
    exact ⟨cell_row x1 0, by rw [cell_row x4]; show some L.fv = _; unfold Les.fv; rw [e1, e2], cell_row x2 0, cell_row x2 1, cell_row x3 0, cell_row x3 1⟩
  have HW := hide (And.intro hw1 hw2)
  clear hbl hh hI ha hb hh1 hh2 hI2 d1 d2 d3 b1' b2' b3 ga k12 HC1 hw1 hw2 e1 e2
  go_enter_defers Try.func76, Try.ntmps76
  go_upto_region 1 with fail
  rw [← HW.out.1]
  go_upto_region 3 with fail
  rw [← HW.out.2]
  have HS : Hid (∀ w3 : World, w2.grownBy w3 none → w3.cell? ⟨w.heap.size, 0, none⟩ = some (.pointer (some ⟨h, 0, none⟩)) ∧ w3.cell? ⟨h, 1, none⟩ = some (.func (.func 24) #[] #[]) ∧ w3.cell? ⟨w.heap.size + 1, 0, none⟩ = some (.string a.s) ∧ w3.cell? ⟨w.heap.size + 1, 1, none⟩ = some (.float .f64 a.f) ∧ w3.cell? ⟨w.heap.size + 1 + 1, 0, none⟩ = some (.string b.s) ∧ w3.cell? ⟨w.heap.size + 1 + 1, 1, none⟩ = some (.float .f64 b.f)) := fun w3 g => ⟨g.cell c0 (by simp), g.cell c5 (by simp), g.cell c1 (by simp), g.cell c2 (by simp), g.cell c3 (by simp), g.cell c4 (by simp)⟩
  go_region_held3 (fun w3 => w3.cell? ⟨w.heap.size, 0, none⟩ = some (.pointer (some ⟨h, 0, none⟩)) ∧ w3.cell? ⟨h, 1, none⟩ = some (.func (.func 24) #[] #[]) ∧ w3.cell? ⟨w.heap.size + 1, 0, none⟩ = some (.string a.s) ∧ w3.cell? ⟨w.heap.size + 1, 1, none⟩ = some (.float .f64 a.f) ∧ w3.cell? ⟨w.heap.size + 1 + 1, 0, none⟩ = some (.string b.s) ∧ w3.cell? ⟨w.heap.size + 1 + 1, 1, none⟩ = some (.float .f64 b.f)) (first | assumption | exact HS.out _ (grown_drew w2 none) | exact HS.out _ (grown_refl w2 none)) ((go_at_call 24; refine HCall1.out.mono ?_; rintro e4 w4 ⟨rfl, hI4, hk4⟩; have H4 := hide (And.intro hI4 (HK.out.trans hk4 (fun _ _ e => e))); have hk4S := HS4.out w4 H4.out.2; clear hI4 hk4))
  obtain ⟨q1, q4, q5, q6, q7⟩ := HEnd.out w4 H4.out.1 H4.out.2
  have HQ := hide (And.intro q6 q7)
  clear HEnd HCall HCall1 HK HS HS4 q6 q7 hk4S c0 c1 c2 c3 c4 c5 q0 q2 q3
  go_wp2
  refine leaves_cons (f := 83) (args := #[.pointer (some ⟨w.heap.size, 0, none⟩)]) (by simp) (by simp [go_sem]) ?_
  refine (idle_any ⟨w.heap.size, 0, none⟩ h w4 q1 ⟨_, q4⟩ q5).mono ?_
  rintro e u' w5 ⟨rfl, rfl, rfl⟩
  exact ⟨_, results_tmp rfl _ _ _, rfl, HQ.out⟩
end Go.Proofs.Ytkbhjdjdjfdikaa.Th
