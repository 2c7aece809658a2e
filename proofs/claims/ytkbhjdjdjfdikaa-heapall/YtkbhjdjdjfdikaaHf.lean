/- What is asked of a heap. -/
import Derived.Test.YtkbhjdjdjfdikaaHd
import Derived.Lib.Builder
namespace Go.Proofs.Ytkbhjdjdjfdikaa
open Go.RowKit Ap
attribute [local go_sem ↓] Go.wp_at_zero Go.wp_at_succ
/-- Where the item of a handle lies. -/
def fi (E : List (Nat × Int)) (x : Int) : Option Nat := E.findIdx? (fun e => (e.1 : Int) == x)
theorem fi_lt {E : List (Nat × Int)} {x : Int} {i : Nat} (h : fi E x = some i) : i < E.length ∧ ((en E i).1 : Int) = x := by
  unfold fi at h
  rw [List.findIdx?_eq_some_iff_getElem] at h
  obtain ⟨h1, h2, _⟩ := h
  refine ⟨h1, ?_⟩
  unfold en
  rw [List.getElem?_eq_getElem h1]
  simpa using h2
theorem wf_i64 {s : Int} (h0 : -9223372036854775808 ≤ s) (h1 : s ≤ 9223372036854775807) : (Lit.int .i64 s).wf = true := by
  simp [Lit.wf, IntKind.min, IntKind.max, IntKind.signed, IntKind.bits]; omega
theorem zero3 (w : World) : (zeroValue 3).run Try.prog w = .ok (.int .i64 0) w := by kernel_rfl
section
variable {w w' : World} {L : Les} {p : Hp} {E : List (Nat × Int)} {T : List Nat} {N B : Nat}
theorem own_form {w : World} {e : TypeId} {sz n : Nat} {v : Value} {xs : List Value} (h : w.ownsRow 0 e sz v n xs) : ∃ vo cap, v = .slice vo n cap ∧ n ≤ cap := by
  rcases h.2 with ⟨rfl, rfl⟩ | ⟨g, cap, cur, hv, hb, hg, hn, _⟩
  · exact ⟨none, 0, rfl, Nat.le_refl _⟩
  · exact ⟨_, cap, hv, hn⟩
set_option maxRecDepth 20000 in
theorem none_at (h : HpAt w L p E T N B) : Calls Try.prog 41 #[.pointer (some ⟨p.h, 0, none⟩)] w fun e w' => e = .returned (.bool false) ∧ w' = w := by
  obtain ⟨c0, -, c2, -, -, -, -⟩ := h.cells
  have hsome : (Try.prog.info? 57).isSome = true := by kernel_rfl
  obtain ⟨j, hj⟩ := Option.isSome_iff_exists.1 hsome
  have hs := Go.Lib.run_neq_ptr_same (P := Try.prog) (tp := 23) (te := 57) w ⟨p.h, 0, none⟩ Try.underlying23 hj
  clear h hsome hj
  go_enter Try.func41, Try.ntmps41
  go_wp2
  go_ret
  exact ⟨rfl, rfl⟩
theorem len_at (h : HpAt w L p E T N B) : Calls Try.prog 39 #[.pointer (some ⟨p.h, 0, none⟩)] w fun e w' => e = .returned (.int .i64 (E.length : Int)) ∧ w' = w := by
  obtain ⟨-, -, -, -, c4, -, -⟩ := h.cells
  obtain ⟨vo, cap, hv, -⟩ := own_form h.ent
  rw [hv] at c4
  have hn := none_at h
  clear h hv
  generalize E.length = n at *
  go_enter Try.func39, Try.ntmps39
  go_wp2_with (go_at_call 41; refine hn.mono ?_; rintro e w1 ⟨rfl, rfl⟩)
  go_wp2
  go_ret
  exact ⟨rfl, rfl⟩
theorem find_at (h : HpAt w L p E T N B) (x : Int) (hx : (Lit.int .i64 x).wf = true) : Calls Try.prog 49 #[.pointer (some ⟨p.h, 0, none⟩), .int .i64 x] w fun e w' => e = .returned (.tuple #[.int .i64 (((fi E x).getD 0 : Nat) : Int), .bool (fi E x).isSome]) ∧ w' = w := by
  obtain ⟨-, -, -, -, -, -, c6⟩ := h.cells
  have hn := none_at h
  have hl := h.map.look (by first | exact Try.underlying3 | kernel_rfl) Try.underlying55 (zero3 w) hx
  have e1 : ((plf E x).getD (.int .i64 0)) = .int .i64 (((fi E x).getD 0 : Nat) : Int) := by unfold plf fi; cases E.findIdx? _ <;> rfl
  have e2 : (plf E x).isSome = (fi E x).isSome := by unfold plf fi; cases E.findIdx? _ <;> rfl
  rw [e1, e2] at hl
  clear h e1 e2
  generalize (fi E x).getD 0 = i at *
  generalize (fi E x).isSome = b at *
  go_enter Try.func49, Try.ntmps49
  go_wp2_with (go_at_call 41; refine hn.mono ?_; rintro e w1 ⟨rfl, rfl⟩)
  go_wp2
  go_ret2
  exact ⟨rfl, rfl⟩
theorem get_at (h : HpAt w L p E T N B) (x : Int) (hx : (Lit.int .i64 x).wf = true) : Calls Try.prog 31 #[.pointer (some ⟨p.h, 0, none⟩), .int .i64 x] w fun e w' => e = .returned (.tuple #[.int .i64 ((fi E x).elim 0 fun i => (en E i).2), .bool (fi E x).isSome]) ∧ w' = w := by
  obtain ⟨-, -, -, -, c4, -, -⟩ := h.cells
  have hf := find_at h x hx
  cases hx2 : fi E x with
  | none =>
    rw [hx2] at hf
    simp only [Option.getD, Option.isSome] at hf
    go_enter Try.func31, Try.ntmps31
    go_wp2_with (go_at_call 49; refine hf.mono ?_; rintro e w1 ⟨rfl, rfl⟩)
    go_wp2
    go_ret2
    exact ⟨rfl, rfl⟩
  | some i =>
    rw [hx2] at hf
    simp only [Option.getD, Option.isSome] at hf
    have hi := (fi_lt hx2).1
    obtain ⟨g, cap, cur, hv, hg, hn, -, -, ht⟩ := own_row h.ent (by omega)
    rw [hv] at c4
    have b1 := own_cell hg ht (ecells_get hi).2
    have HE := hide (And.intro h hx2)
    clear h hv hg ht hx2
    simp only [Option.elim, Option.isSome]
    generalize (en E i).2 = y at *
    generalize E.length = n at *
    go_enter Try.func31, Try.ntmps31
    go_wp2_with (go_at_call 49; refine hf.mono ?_; rintro e w1 ⟨rfl, rfl⟩)
    go_wp2
    go_ret2
    exact ⟨rfl, rfl⟩
set_option maxHeartbeats 2000000 in
theorem least_at (h : HpAt w L p E T N B) (hT : T.length = E.length) (h0 : 0 < E.length → tn T 0 < E.length) : Calls Try.prog 38 #[.pointer (some ⟨p.h, 0, none⟩)] w fun e w' => e = .returned (.tuple #[.int .i64 (if 0 < E.length then (en E (tn T 0)).2 else 0), .int .i64 (if 0 < E.length then ((en E (tn T 0)).1 : Int) else 0), .bool (decide (0 < E.length))]) ∧ w.grownBy w' none := by
  obtain ⟨-, -, -, -, c4, c5, -⟩ := h.cells
  have hl := len_at h
  by_cases hz : 0 < E.length
  · simp only [hz, decide_true]
    obtain ⟨g, cap, cur, hv, hg, hn, -, -, ht⟩ := own_row h.ent hz
    obtain ⟨g2, cap2, cur2, hv2, hg2, hn2, -, -, ht2⟩ := own_row h.lst (by omega)
    rw [hv] at c4
    rw [hv2, hT] at c5
    have b0 := own_cell hg ht (ecells_get (h0 hz)).1
    have b1 := own_cell hg ht (ecells_get (h0 hz)).2
    have t0 := own_cell hg2 ht2 (tcells_get (T := T) (i := 0) (by omega))
    have hi := h0 hz
    have gz1 : ¬ g = w.heap.size := by have := row_lt hg; omega
    have gz2 : ¬ g2 = w.heap.size := by have := row_lt hg2; omega
    have pz1 : ¬ p.h = w.heap.size := by have := row_lt h.head; omega
    have x0 : ∀ u v, (w.alloc (.cells #[u, v] 82)).cell? ⟨p.h, 4, none⟩ = some (.slice (some ⟨g, 0, none⟩) E.length cap) := fun u v => (World.grownBy_alloc w (.cells #[u, v] 82) none).cell c4 (by simp)
    have x1 : ∀ u v, (w.alloc (.cells #[u, v] 82)).cell? ⟨p.h, 5, none⟩ = some (.slice (some ⟨g2, 0, none⟩) E.length cap2) := fun u v => (World.grownBy_alloc w (.cells #[u, v] 82) none).cell c5 (by simp)
    have x2 : ∀ u v, (w.alloc (.cells #[u, v] 82)).cell? ⟨g, tn T 0 * 2, none⟩ = some (.int .i64 ((en E (tn T 0)).1 : Int)) := fun u v => (World.grownBy_alloc w (.cells #[u, v] 82) none).cell b0 (by simp)
    have x3 : ∀ u v, (w.alloc (.cells #[u, v] 82)).cell? ⟨g, tn T 0 * 2 + 1, none⟩ = some (.int .i64 (en E (tn T 0)).2) := fun u v => (World.grownBy_alloc w (.cells #[u, v] 82) none).cell b1 (by simp)
    have x4 : ∀ u v, (w.alloc (.cells #[u, v] 82)).cell? ⟨g2, 0, none⟩ = some (.int .i64 (tn T 0 : Int)) := fun u v => (World.grownBy_alloc w (.cells #[u, v] 82) none).cell t0 (by simp)
    have hne : ((E.length : Int) == 0) = false := by simp; intro e; rw [e] at hz; simp at hz
    have hne2 : decide ((E.length : Int) = 0) = false := by simpa using hne
    clear h h0 hv hg ht hv2 hg2 ht2 hT
    generalize (en E (tn T 0)).2 = y at *
    generalize (en E (tn T 0)).1 = x at *
    generalize tn T 0 = i at *
    generalize E.length = n at *
    go_enter Try.func38, Try.ntmps38
    go_wp2_with (go_at_call 39; refine hl.mono ?_; rintro e w1 ⟨rfl, rfl⟩)
    go_region
    have g1 := World.grownBy_alloc w1 (.cells #[.int .i64 (x : Int), .int .i64 y] 82) none
    have nb : (w1.alloc (.cells #[.int .i64 (x : Int), .int .i64 y] 82)).drew.heap[w1.heap.size]? = some (.cells [Value.int .i64 (x : Int), .int .i64 y].toArray 82 (0, 0)) := heap_alloc_new w1 _
    have d0 := cell_row nb 0
    have d1 := cell_row nb 1
    have HG := hide (grown_trans g1 (grown_drew _ none))
    clear g1 nb c4 c5 x0 x1 x2 x3 x4 b0 b1 t0
    generalize (w1.alloc (.cells #[.int .i64 (x : Int), .int .i64 y] 82)).drew = w2 at *
    simp at d0 d1
    go_wp2
    go_quiet (fail)
    go_wp2
    go_ret3
    exact ⟨rfl, grown_trans HG.out (grown_drewN _ _ none)⟩
  · have hz0 : E.length = 0 := by omega
    rw [hz0] at hl ⊢
    clear h h0 hz c4 c5 hT
    go_enter Try.func38, Try.ntmps38
    go_wp2_with (go_at_call 39; refine hl.mono ?_; rintro e w1 ⟨rfl, rfl⟩)
    go_wp2
    go_ret3
    exact ⟨rfl, grown_refl _ _⟩
end
end Go.Proofs.Ytkbhjdjdjfdikaa
