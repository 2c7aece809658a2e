/- What is asked of a heap. -/
import Derived.Test.YtkbhjdjdjfdikaaTd
import Derived.Test.YtkbhjdjdjfdikaaHf
import Derived.Deep.CutRange
import Derived.Deep.DeepCutAuto
import Derived.Laws.ResultCell
namespace Go.Proofs.Ytkbhjdjdjfdikaa.Th
open Go.RowKit Ap Go.Proofs.Ytkbhjdjdjfdikaa
attribute [local go_sem ↓] Go.wp_at_zero Go.wp_at_succ
attribute [local go_sem] run_store_float
/-- Where the item of a handle lies. -/
def fi (E : List (Nat × It)) (x : Int) : Option Nat := E.findIdx? (fun e => (e.1 : Int) == x)
theorem fi_lt {E : List (Nat × It)} {x : Int} {i : Nat} (h : fi E x = some i) : i < E.length ∧ ((en E i).1 : Int) = x := by
  unfold fi at h
  rw [List.findIdx?_eq_some_iff_getElem] at h
  obtain ⟨h1, h2, _⟩ := h
  refine ⟨h1, ?_⟩
  unfold en
  rw [List.getElem?_eq_getElem h1]
  simpa using h2
section
variable {w w' : World} {L : Les} {p : Hp} {E : List (Nat × It)} {T : List Nat} {N B : Nat}
set_option maxRecDepth 20000 in
theorem none_at (h : HpAt w L p E T N B) : Calls Try.prog 50 #[.pointer (some ⟨p.h, 0, none⟩)] w fun e w' => e = .returned (.bool false) ∧ w' = w := by
  obtain ⟨c0, -, c2, -, -, -, -⟩ := h.cells
  have hsome : (Try.prog.info? 88).isSome = true := by kernel_rfl
  obtain ⟨j, hj⟩ := Option.isSome_iff_exists.1 hsome
  have hs := Go.Lib.run_neq_ptr_same (P := Try.prog) (tp := 59) (te := 88) w ⟨p.h, 0, none⟩ Try.underlying59 hj
  clear h hsome hj
  go_enter Try.func50, Try.ntmps50
  go_wp2
  go_ret
  exact ⟨rfl, rfl⟩
theorem len_at (h : HpAt w L p E T N B) : Calls Try.prog 28 #[.pointer (some ⟨p.h, 0, none⟩)] w fun e w' => e = .returned (.int .i64 (E.length : Int)) ∧ w' = w := by
  obtain ⟨-, -, -, -, c4, -, -⟩ := h.cells
  obtain ⟨vo, cap, hv, -⟩ := own_form h.ent
  rw [hv] at c4
  have hn := none_at h
  clear h hv
  generalize E.length = n at *
  go_enter Try.func28, Try.ntmps28
  go_wp2_with (go_at_call 50; refine hn.mono ?_; rintro e w1 ⟨rfl, rfl⟩)
  go_wp2
  go_ret
  exact ⟨rfl, rfl⟩
theorem find_at (h : HpAt w L p E T N B) (x : Int) (hx : (Lit.int .i64 x).wf = true) : Calls Try.prog 52 #[.pointer (some ⟨p.h, 0, none⟩), .int .i64 x] w fun e w' => e = .returned (.tuple #[.int .i64 (((fi E x).getD 0 : Nat) : Int), .bool (fi E x).isSome]) ∧ w' = w := by
  obtain ⟨-, -, -, -, -, -, c6⟩ := h.cells
  have hn := none_at h
  have hl := h.map.look (by first | exact Try.underlying3 | kernel_rfl) Try.underlying55 (zero3 w) hx
  have e1 : ((plf E x).getD (.int .i64 0)) = .int .i64 (((fi E x).getD 0 : Nat) : Int) := by unfold plf fi; cases E.findIdx? _ <;> rfl
  have e2 : (plf E x).isSome = (fi E x).isSome := by unfold plf fi; cases E.findIdx? _ <;> rfl
  rw [e1, e2] at hl
  clear h e1 e2
  generalize (fi E x).getD 0 = i at *
  generalize (fi E x).isSome = b at *
  go_enter Try.func52, Try.ntmps52
  go_wp2_with (go_at_call 50; refine hn.mono ?_; rintro e w1 ⟨rfl, rfl⟩)
  go_wp2
  go_ret2
  exact ⟨rfl, rfl⟩
theorem results_cell_tmp2 {fn : Func} {p u v : Tmp} {ty : TypeId} (h : fn.results = #[.cell p ty, .tmp u, .tmp v]) (tmps : Array Value) (P : Program) (w : World) :
    (results fn tmps).run P w =
      ((asAddr (tmps.getD p undef)).run P w).andThen fun a w₁ => ((loadVar ty a).run P w₁).andThen fun x w₂ => .ok (.tuple #[x, tmps.getD u undef, tmps.getD v undef]) w₂ := by
  simp only [results, h]
  simp [Sem.run_bind, Result.andThen]
set_option maxRecDepth 20000 in
set_option maxHeartbeats 2000000 in
theorem least_at (hL : L.Ok) (h1 : HpAt w L p E T N B) (hT : T.length = E.length) (hz : 0 < E.length) (h0 : tn T 0 < E.length) : Calls Try.prog 54 #[.pointer (some ⟨p.h, 0, none⟩)] w fun e w' => e = .returned (.tuple #[.agg #[.string (en E (tn T 0)).2.s, .float .f64 (en E (tn T 0)).2.f], .int .i64 ((en E (tn T 0)).1 : Int), .bool true]) ∧ w.grownBy w' none := by
  have ga := World.grownBy_alloc w (.cells #[.string ⟨#[]⟩, .float .f64 0] 63) none
  have nb : (w.alloc (.cells #[.string ⟨#[]⟩, .float .f64 0] 63)).heap[w.heap.size]? = some (.cells [Value.string ⟨#[]⟩, .float .f64 0].toArray 63 (0, 0)) := heap_alloc_new w _
  obtain ⟨w2, hw2⟩ : ∃ w2, w2 = w.alloc (.cells #[.string ⟨#[]⟩, .float .f64 0] 63) := ⟨_, rfl⟩
  rw [← hw2] at ga nb
  have h := h1.then hL ga
  clear h1
  obtain ⟨-, -, -, -, c4, c5, -⟩ := h.cells
  have hl := len_at h
  obtain ⟨g, cap, cur, hv, hg, hn, -, -, ht⟩ := own_row h.ent hz
  obtain ⟨g2, cap2, cur2, hv2, hg2, hn2, -, -, ht2⟩ := own_row h.lst (by omega)
  rw [hv] at c4
  rw [hv2, hT] at c5
  have b0 := own_cell hg ht (ecells_get h0).1
  have b1 := own_cell hg ht (ecells_get h0).2.1
  have b2 := own_cell hg ht (ecells_get h0).2.2
  have t0 := own_cell hg2 ht2 (tcells_get (T := T) (i := 0) (by omega))
  have hi := h0
  have gz1 : ¬ g = w2.heap.size := by have := row_lt hg; omega
  have gz2 : ¬ g2 = w2.heap.size := by have := row_lt hg2; omega
  have pz1 : ¬ p.h = w2.heap.size := by have := row_lt h.head; omega
  have x0 : ∀ u v t, (w2.alloc (.cells #[u, v, t] 90)).cell? ⟨p.h, 4, none⟩ = some (.slice (some ⟨g, 0, none⟩) E.length cap) := fun u v t => (World.grownBy_alloc w2 (.cells #[u, v, t] 90) none).cell c4 (by simp)
  have x1 : ∀ u v t, (w2.alloc (.cells #[u, v, t] 90)).cell? ⟨p.h, 5, none⟩ = some (.slice (some ⟨g2, 0, none⟩) E.length cap2) := fun u v t => (World.grownBy_alloc w2 (.cells #[u, v, t] 90) none).cell c5 (by simp)
  have x2 : ∀ u v t, (w2.alloc (.cells #[u, v, t] 90)).cell? ⟨g, tn T 0 * 3, none⟩ = some (.int .i64 ((en E (tn T 0)).1 : Int)) := fun u v t => (World.grownBy_alloc w2 (.cells #[u, v, t] 90) none).cell b0 (by simp)
  have x3 : ∀ u v t, (w2.alloc (.cells #[u, v, t] 90)).cell? ⟨g, tn T 0 * 3 + 1, none⟩ = some (.string (en E (tn T 0)).2.s) := fun u v t => (World.grownBy_alloc w2 (.cells #[u, v, t] 90) none).cell b1 (by simp)
  have x4 : ∀ u v t, (w2.alloc (.cells #[u, v, t] 90)).cell? ⟨g, tn T 0 * 3 + 2, none⟩ = some (.float .f64 (en E (tn T 0)).2.f) := fun u v t => (World.grownBy_alloc w2 (.cells #[u, v, t] 90) none).cell b2 (by simp)
  have x5 : ∀ u v t, (w2.alloc (.cells #[u, v, t] 90)).cell? ⟨g2, 0, none⟩ = some (.int .i64 (tn T 0 : Int)) := fun u v t => (World.grownBy_alloc w2 (.cells #[u, v, t] 90) none).cell t0 (by simp)
  have hne : ((E.length : Int) == 0) = false := by simp; intro e; rw [e] at hz; simp at hz
  have hne2 : decide ((E.length : Int) = 0) = false := by simpa using hne
  have HN := hide (And.intro nb (And.intro ga hw2))
  clear h hv hg ht hv2 hg2 ht2 hT nb ga hw2
  generalize (en E (tn T 0)).2.s = ys at *
  generalize (en E (tn T 0)).2.f = yf at *
  generalize (en E (tn T 0)).1 = x at *
  generalize tn T 0 = i at *
  generalize E.length = n at *
  go_enter Try.func54, Try.ntmps54
  go_upto_region 1 with fail
  rw [← HN.out.2.2]
  go_wp2_with fail
  refine hl.mono ?_
  rintro e w1 ⟨rfl, hw1⟩
  obtain rfl := hw1.symm
  go_wp2
  go_region
  have g1 := World.grownBy_alloc w2 (.cells #[.int .i64 (x : Int), .string ys, .float .f64 yf] 90) none
  have nb3 : (w2.alloc (.cells #[.int .i64 (x : Int), .string ys, .float .f64 yf] 90)).drew.heap[w2.heap.size]? = some (.cells [Value.int .i64 (x : Int), .string ys, .float .f64 yf].toArray 90 (0, 0)) := heap_alloc_new w2 _
  have d0 := cell_row nb3 0
  have d1 := cell_row nb3 1
  have d2 := cell_row nb3 2
  have g1' := grown_trans g1 (grown_drew _ none)
  have nb4 := (g1'.block _ (row_lt HN.out.1) (by simp)).trans HN.out.1
  have r0 := cell_row nb4 0
  have r1 := cell_row nb4 1
  have f0 : (w2.alloc (.cells #[.int .i64 (x : Int), .string ys, .float .f64 yf] 90)).drew.frozen? ⟨w.heap.size, 0, none⟩ = false := free_row nb4 0
  have f1 : (w2.alloc (.cells #[.int .i64 (x : Int), .string ys, .float .f64 yf] 90)).drew.frozen? ⟨w.heap.size, 1, none⟩ = false := free_row nb4 1
  have hzz : ¬ w2.heap.size = w.heap.size := by have := row_lt HN.out.1; omega
  have hzz2 : ¬ w.heap.size = w2.heap.size := by omega
  have HG := hide (And.intro (grown_trans HN.out.2.1 g1') nb4)
  clear g1 nb3 nb4 g1' c4 c5 x0 x1 x2 x3 x4 x5 b0 b1 b2 t0 hl
  generalize (w2.alloc (.cells #[.int .i64 (x : Int), .string ys, .float .f64 yf] 90)).drew = w3 at *
  simp at d0 d1 d2 r0 r1
  go_wp2
  go_region
  go_wp2
  have gs : w3.grownBy ((w3.setCell ⟨w.heap.size, 0, none⟩ (.string ys)).setCell ⟨w.heap.size, 1, none⟩ (.float .f64 yf)).drew (some w.heap.size) := grown_trans (grown_trans (grown_setCell w3 w.heap.size 0 _) (grown_setCell _ w.heap.size 1 _)) (grown_drew _ _)
  have nb5 := row_setCell (row_setCell HG.out.2 0 (.string ys)) 1 (.float .f64 yf)
  have z0 := cell_row nb5 0
  have z1 := cell_row nb5 1
  simp at z0 z1
  have HE := hide (grown_then HG.out.1 gs (fun j e => by cases e; exact .inl (Nat.le_refl _)))
  clear gs nb5 d0 d1 d2 r0 r1 f0 f1
  generalize (w3.setCell ⟨w.heap.size, 0, none⟩ (.string ys)).setCell ⟨w.heap.size, 1, none⟩ (.float .f64 yf) = w4 at *
  refine bodyPost_ret (v := .tuple #[.agg #[.string ys, .float .f64 yf], .int .i64 (x : Int), .bool true]) ?_ rfl ?_
  · rw [results_cell_tmp2 rfl]; go_simp
  · exact ⟨rfl, HE.out⟩
end
end Go.Proofs.Ytkbhjdjdjfdikaa.Th
