/- The document's disk that is none; a call of no disk. -/
import Derived.Test.YtgcfjphjekkkmaaLentF2
import Derived.Test.YtgcfjphjekkkmaaImage
import Derived.Test.YtgcfjphjekkkmaaCopy
import Derived.Deep.CutRange
import Derived.Deep.DeepCutAuto
namespace Go.Proofs.Ytgcfjphjekkkmaa
open Go.RowKit Ap
attribute [local go_sem ↓] Go.wp_at_zero Go.wp_at_succ

/-- The document's disk without sectors. -/
def Empty (w : World) (rb : Nat) : Prop := w.heap[rb]? = some (.cells #[.slice none 0 0, .slice none 0 0] 54 (0, 0))
theorem Empty.grown {w w' : World} {rb : Nat} (h : Empty w rb) (hg : w.grownBy w' none) : Empty w' rb := (hg.block _ (row_lt h) (by simp)).trans h
theorem Empty.c0 {w : World} {rb : Nat} (h : Empty w rb) : w.cell? ⟨rb, 0, none⟩ = some (.slice none 0 0) := by unfold Empty at h; simp [World.cell?, h]
theorem Empty.c1 {w : World} {rb : Nat} (h : Empty w rb) : w.cell? ⟨rb, 1, none⟩ = some (.slice none 0 0) := by unfold Empty at h; simp [World.cell?, h]

section
variable {w : World} {rb : Nat}
theorem rsize0 (h : Empty w rb) : Calls Try.prog 39 #[.pointer (some ⟨rb, 0, none⟩)] w fun e w' => e = .returned (.int .i64 0) ∧ w' = w := by
  have c0 := h.c0
  clear h
  go_enter Try.func39, Try.ntmps39
  go_wp2
  go_ret
  exact ⟨rfl, rfl⟩
theorem rwaiting0 (h : Empty w rb) : Calls Try.prog 44 #[.pointer (some ⟨rb, 0, none⟩)] w fun e w' => e = .returned (.int .i64 0) ∧ w' = w := by
  have c1 := h.c1
  clear h
  go_enter Try.func44, Try.ntmps44
  go_wp2
  go_ret
  exact ⟨rfl, rfl⟩
theorem rsectors0 (h : Empty w rb) : Calls Try.prog 45 #[.pointer (some ⟨rb, 0, none⟩)] w fun e w' => e = .returned (.int .i64 0) ∧ w' = w := by
  have c0 := h.c0
  clear h
  go_enter Try.func45, Try.ntmps45
  go_wp2
  go_ret
  exact ⟨rfl, rfl⟩
theorem rwrong0 (h : Empty w rb) (a : Int) : Calls Try.prog 62 #[.pointer (some ⟨rb, 0, none⟩), .int .i64 a] w fun e w' => e = .returned (.int .i64 1) ∧ w' = w := by
  have c0 := h.c0
  clear h
  go_enter Try.func62, Try.ntmps62
  go_wp2
  go_ret
  exact ⟨rfl, rfl⟩
set_option maxHeartbeats 400000 in
theorem rwrite0 (h : Empty w rb) (a : Int) (v : Value) : Calls Try.prog 41 #[.pointer (some ⟨rb, 0, none⟩), .int .i64 a, v] w fun e w' => e = .returned (.int .i64 1) ∧ w' = w := by
  have H := hide (rwrong0 h a)
  clear h
  go_enter Try.func41, Try.ntmps41
  go_wp2_with fail
  refine H.out.mono ?_
  rintro e w' ⟨rfl, rfl⟩
  go_wp2
  go_ret
  exact ⟨rfl, rfl⟩
set_option maxHeartbeats 400000 in
theorem rread0 (h : Empty w rb) (a : Int) : Calls Try.prog 42 #[.pointer (some ⟨rb, 0, none⟩), .int .i64 a] w fun e w' => e = .returned (.tuple #[.slice none 0 0, .int .i64 1]) ∧ w' = w := by
  have H := hide (rwrong0 h a)
  clear h
  go_enter Try.func42, Try.ntmps42
  go_wp2_with fail
  refine H.out.mono ?_
  rintro e w' ⟨rfl, rfl⟩
  go_wp2
  go_ret2
  exact ⟨rfl, rfl⟩
set_option maxHeartbeats 400000 in
theorem rcrash0 (h : Empty w rb) (v : Value) : Calls Try.prog 47 #[.pointer (some ⟨rb, 0, none⟩), v] w fun e w' => e = .returned (.int .i64 1) ∧ w' = w := by
  have c0 := h.c0
  clear h
  go_enter Try.func47, Try.ntmps47
  go_wp2
  go_ret
  exact ⟨rfl, rfl⟩
set_option maxHeartbeats 400000 in
theorem rsync0 (h : Empty w rb) : Calls Try.prog 43 #[.pointer (some ⟨rb, 0, none⟩)] w fun e w' => e = .returned (.int .i64 1) ∧ w' = w := by
  have c1 := h.c1
  have H := hide (fun v => rcrash0 h v)
  clear h
  go_enter Try.func43, Try.ntmps43
  go_wp2
  go_loopg [4] 0 (fun q i wr => i = .int .i64 0 ∧ wr = w)
  case atStart => exact ⟨rfl, rfl⟩
  case round =>
    obtain ⟨rfl, rfl⟩ := hrel
    go_wp2_with fail
    refine (H.out _).mono ?_
    rintro e w' ⟨rfl, rfl⟩
    go_wp2
    go_ret
    exact ⟨rfl, rfl⟩
set_option maxHeartbeats 400000 in
theorem rimage0 (h : Empty w rb) : Calls Try.prog 20 #[.pointer (some ⟨rb, 0, none⟩)] w fun e w' => e = .returned (.slice none 0 0) ∧ w' = w := by
  have c0 := h.c0
  clear h
  go_enter Try.func20, Try.ntmps20
  go_wp2
  go_loopg [3, 4] 0 (fun q s i wr => s = .slice none 0 0 ∧ i = .int .i64 0 ∧ wr = w)
  case atStart => exact ⟨rfl, rfl, rfl⟩
  case round =>
    obtain ⟨rfl, rfl, rfl⟩ := hrel
    go_wp2
    go_ret
    exact ⟨rfl, rfl⟩
end

/-- How many bytes an operation writes. -/
def opLen (less : Int) (size : Nat) : Nat := if less % 16 = 15 then (less % 200).toNat else size
theorem opLen_le (less : Int) (size : Nat) : opLen less size ≤ size + 200 := by unfold opLen; split <;> omega
set_option maxHeartbeats 1000000 in
theorem opBytes_any (d0 d1 d2 d3 d4 : Int) (v : Value) (_hv : v.oneCell' = true) (size : Nat) (hs : size ≤ 4096) (w : World) :
    Calls Try.prog 38 #[.agg #[.int .i64 d0, .int .i64 d1, .int .i64 d2, .int .i64 d3, .int .i64 d4, v], .int .i64 (size : Int)] w fun e w' => ∃ g, e = .returned (.slice (some ⟨g, 0, none⟩) (opLen d4 size) (opLen d4 size)) ∧ w'.heap[g]? = some (.cells (bv (fills d3 (opLen d4 size))).toArray 5 (0, 0)) ∧ w.heap.size ≤ g ∧ w.grownBy w' none := by
  have g0 := World.grownBy_alloc w (.cells #[.int .i64 d0, .int .i64 d1, .int .i64 d2, .int .i64 d3, .int .i64 d4, v] 37) none
  have P1 : Hid (∀ w, Calls Try.prog 14 #[.int .i64 d4, .int .i64 16] w fun e w' => e = .returned (.int .i64 (d4 % 16)) ∧ w' = w) := fun w => pick_any d4 16 16 w rfl (by omega) (by omega)
  have P2 : Hid (∀ w, Calls Try.prog 14 #[.int .i64 d4, .int .i64 200] w fun e w' => e = .returned (.int .i64 (d4 % 200)) ∧ w' = w) := fun w => pick_any d4 200 200 w rfl (by omega) (by omega)
  obtain ⟨m, hm⟩ : ∃ m, m = opLen d4 size := ⟨_, rfl⟩
  have hml : m ≤ 4296 := by rw [hm]; have := opLen_le d4 size; omega
  have HF := hide (fill_any d3 m (by omega) (w.alloc (.cells #[.int .i64 d0, .int .i64 d1, .int .i64 d2, .int .i64 d3, .int .i64 d4, v] 37)))
  have HG := hide g0
  have hsz : (w.alloc (.cells #[.int .i64 d0, .int .i64 d1, .int .i64 d2, .int .i64 d3, .int .i64 d4, v] 37)).heap.size = w.heap.size + 1 := Array.size_push ..
  rw [hsz] at HF
  clear hsz
  rw [← hm]
  unfold opLen at hm
  clear g0
  by_cases h : d4 % 16 = 15
  · rw [if_pos h] at hm
    have HM : Hid (d4 % 200 = (m : Int)) := by show _ = _; omega
    clear hm
    rw [HM.out] at P2
    rw [h] at P1
    clear h
    go_enter Try.func38, Try.ntmps38
    go_wp2_with fail
    refine (P1.out _).mono ?_
    rintro e w' ⟨rfl, rfl⟩
    go_wp2_with fail
    refine (P2.out _).mono ?_
    rintro e w' ⟨rfl, rfl⟩
    go_wp2_with fail
    refine HF.out.mono ?_
    rintro e w1 ⟨rfl, a1, g1⟩
    have H1 := hide (And.intro a1 (grown_trans HG.out g1))
    clear a1 g1
    go_wp2
    go_ret
    exact ⟨_, rfl, H1.out.1, Nat.le_succ _, H1.out.2⟩
  · rw [if_neg h] at hm
    subst hm
    have hb : (d4 % 16 == 15) = false := by simpa using h
    go_enter Try.func38, Try.ntmps38
    go_wp2_with fail
    refine (P1.out _).mono ?_
    rintro e w' ⟨rfl, rfl⟩
    generalize d4 % 16 = c at *
    go_wp2_with fail
    refine HF.out.mono ?_
    rintro e w1 ⟨rfl, a1, g1⟩
    have H1 := hide (And.intro a1 (grown_trans HG.out g1))
    clear a1 g1
    go_wp2
    go_ret
    exact ⟨_, rfl, H1.out.1, Nat.le_succ _, H1.out.2⟩
end Go.Proofs.Ytgcfjphjekkkmaa
