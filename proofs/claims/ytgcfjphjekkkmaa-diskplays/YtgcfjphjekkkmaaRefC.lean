/- The document's disk: what it is asked. -/
import Derived.Test.YtgcfjphjekkkmaaRefB
namespace Go.Proofs.Ytgcfjphjekkkmaa
open Go.RowKit Ap
attribute [local go_sem ↓] Go.wp_at_zero Go.wp_at_succ

section
variable {w : World} {lo n size : Nat} {q : Rk} {r : Nat}
theorem rsectors_any (hr : q.r = r) (h : RefAt w lo n size q) : Calls Try.prog 45 #[.pointer (some ⟨r, 0, none⟩)] w fun e w' => e = .returned (.int .i64 (n : Int)) ∧ w' = w := by
  obtain ⟨g, cap, hv⟩ := h.vform
  have c0 := h.c0
  rw [hv, hr] at c0
  clear h hv hr
  go_enter Try.func45, Try.ntmps45
  go_wp2
  go_ret
  exact ⟨rfl, rfl⟩
theorem rsize_any (hr : q.r = r) (h : RefAt w lo n size q) : Calls Try.prog 39 #[.pointer (some ⟨r, 0, none⟩)] w fun e w' => e = .returned (.int .i64 (size : Int)) ∧ w' = w := by
  obtain ⟨g, cap, hv⟩ := h.vform
  have n0 := h.shape.n0
  obtain ⟨b, hb⟩ := h.get (s := 0) (by omega)
  have c0 := h.c0
  have c1 := h.sec hv hb
  rw [hv, hr] at c0
  have m0 : (0 : Int) < (n : Int) := by omega
  clear h hv hr hb
  go_enter Try.func39, Try.ntmps39
  go_wp2
  go_ret
  exact ⟨rfl, rfl⟩
theorem rwaiting_any (hr : q.r = r) (h : RefAt w lo n size q) : Calls Try.prog 44 #[.pointer (some ⟨r, 0, none⟩)] w fun e w' => e = .returned (.int .i64 (q.V.length : Int)) ∧ w' = w := by
  obtain ⟨ao, cap, hv, -⟩ := h.wform
  have c0 := h.c1
  rw [hv, hr] at c0
  clear h hv hr
  go_enter Try.func44, Try.ntmps44
  go_wp2
  go_ret
  exact ⟨rfl, rfl⟩
theorem rwrong_ok (hr : q.r = r) (h : RefAt w lo n size q) (s : Nat) (hs : s < n) : Calls Try.prog 62 #[.pointer (some ⟨r, 0, none⟩), .int .i64 (s : Int)] w fun e w' => e = .returned (.int .i64 0) ∧ w' = w := by
  obtain ⟨g, cap, hv⟩ := h.vform
  have n0 := h.shape.n0
  have c0 := h.c0
  rw [hv, hr] at c0
  clear h hv hr
  have m0 : (0 : Int) ≤ (s : Int) := by omega
  have m1 : (s : Int) < (n : Int) := by omega
  have m2 : (0 : Int) < (n : Int) := by omega
  go_enter Try.func62, Try.ntmps62
  go_wp2
  go_ret
  exact ⟨rfl, rfl⟩
theorem rwrong_bad (hr : q.r = r) (h : RefAt w lo n size q) (a : Int) (ha : a < 0 ∨ (n : Int) ≤ a) : Calls Try.prog 62 #[.pointer (some ⟨r, 0, none⟩), .int .i64 a] w fun e w' => e = .returned (.int .i64 50) ∧ w' = w := by
  obtain ⟨g, cap, hv⟩ := h.vform
  have n0 := h.shape.n0
  have c0 := h.c0
  rw [hv, hr] at c0
  clear h hv hr
  have m2 : (0 : Int) < (n : Int) := by omega
  rcases ha with ha | ha
  · go_enter Try.func62, Try.ntmps62
    go_wp2
    go_ret
    exact ⟨rfl, rfl⟩
  · have m0 : (0 : Int) ≤ a := by omega
    go_enter Try.func62, Try.ntmps62
    go_wp2
    go_ret
    exact ⟨rfl, rfl⟩
set_option maxHeartbeats 1000000 in
theorem rkept_any (hr : q.r = r) (h : RefAt w lo n size q) (kind at_ : Int) : Calls Try.prog 64 #[.pointer (some ⟨r, 0, none⟩), .agg #[.int .i64 kind, .int .i64 at_]] w fun e w' => e = .returned (.int .i64 ((lasts kind at_ size : Nat) : Int)) ∧ w.grownBy w' none := by
  have HS : Hid (∀ w', w.grownBy w' none → Calls Try.prog 39 #[.pointer (some ⟨r, 0, none⟩)] w' fun e w'' => e = .returned (.int .i64 (size : Int)) ∧ w'' = w') := fun w' hg => rsize_any hr (h.grown hg)
  have HG := hide (World.grownBy_alloc w (.cells #[.int .i64 kind, .int .i64 at_] 69) none)
  have hsz := h.shape.s1
  clear h hr
  unfold lasts
  by_cases h1 : kind = 1
  · subst h1
    go_enter Try.func64, Try.ntmps64
    go_wp2_with fail
    refine (HS.out _ HG.out).mono ?_
    rintro e w' ⟨rfl, rfl⟩
    go_wp2
    go_ret
    exact ⟨rfl, HG.out⟩
  · by_cases h2 : kind = 2
    · subst h2
      have hb := (World.grownBy_alloc w (.cells #[.int .i64 2, .int .i64 at_] 69) none)
      have c1 : (w.alloc (.cells #[.int .i64 2, .int .i64 at_] 69)).cell? ⟨w.heap.size, 1, none⟩ = some (.int .i64 at_) := cell_row (l := [Value.int .i64 2, .int .i64 at_]) (heap_alloc_new w _) 1
      rw [if_neg h1, if_pos rfl]
      go_enter Try.func64, Try.ntmps64
      go_wp2_with fail
      generalize w.alloc (.cells #[.int .i64 2, .int .i64 at_] 69) = wa at *
      generalize w.heap.size = B at *
      have hz : (0 : Int) ≤ (size : Int) := by omega
      by_cases a0 : at_ < 0
      · go_region_with (go_at_call 39; refine (HS.out _ (grown_trans HG.out (grown_drew _ _))).mono ?_; rintro e w2 ⟨rfl, rfl⟩)
        all_goals go_wp2
        all_goals go_ret
        all_goals exact ⟨by simp; omega, grown_trans HG.out (grown_drew _ _)⟩
      · by_cases a1 : at_ ≤ (size : Int)
        · go_region_with (go_at_call 39; refine (HS.out _ (grown_trans HG.out (grown_drew _ _))).mono ?_; rintro e w2 ⟨rfl, rfl⟩)
          all_goals go_wp2
          all_goals go_ret
          all_goals exact ⟨by simp; omega, grown_trans HG.out (grown_drew _ _)⟩
        · go_region_with (go_at_call 39; refine (HS.out _ (grown_trans HG.out (grown_drew _ _))).mono ?_; rintro e w2 ⟨rfl, rfl⟩)
          all_goals go_wp2
          all_goals go_ret
          all_goals exact ⟨by first | (simp; omega) | (simp [Act.put]; omega), grown_trans HG.out (grown_drew _ _)⟩
    · rw [if_neg h1, if_neg h2]
      go_enter Try.func64, Try.ntmps64
      go_wp2
      go_ret
      exact ⟨rfl, HG.out⟩
end
end Go.Proofs.Ytgcfjphjekkkmaa
