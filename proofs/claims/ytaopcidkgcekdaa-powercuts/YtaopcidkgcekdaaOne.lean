/- The contracts of a disk's small calls. -/
import Derived.Test.YtaopcidkgcekdaaBase
namespace Go.Proofs.Ytaopcidkgcekdaa
open Go.RowKit Ap
attribute [local go_sem ↓] Go.wp_at_zero Go.wp_at_succ

set_option maxHeartbeats 400000 in
theorem isNone_at (b : Nat) (x : Bool) (w : World) (h : w.cell? ⟨b, 0, none⟩ = some (.bool x)) :
    Calls Try.prog 40 #[.pointer (some ⟨b, 0, none⟩)] w fun e w' => e = .returned (.bool (!x)) ∧ w' = w := by
  go_enter Try.func40, Try.ntmps40
  go_wp2
  go_ret
  exact ⟨rfl, rfl⟩
set_option maxHeartbeats 400000 in
theorem isNone_nil (w : World) :
    Calls Try.prog 40 #[.pointer none] w fun e w' => e = .returned (.bool true) ∧ w' = w := by
  go_enter Try.func40, Try.ntmps40
  go_wp2
  go_ret
  exact ⟨rfl, rfl⟩
/-- There is no disk. -/
def NoDisk (w : World) (p : Option Addr) : Prop := p = none ∨ ∃ b, p = some ⟨b, 0, none⟩ ∧ w.cell? ⟨b, 0, none⟩ = some (.bool false)
theorem NoDisk.is {w : World} {p : Option Addr} (h : NoDisk w p) : Calls Try.prog 40 #[.pointer p] w fun e w' => e = .returned (.bool true) ∧ w' = w := by
  rcases h with rfl | ⟨b, rfl, h⟩
  · exact isNone_nil w
  · exact isNone_at b false w h
theorem NoDisk.grown {w w' : World} {p : Option Addr} (h : NoDisk w p) (hg : w.grownBy w' none) : NoDisk w' p := by
  rcases h with rfl | ⟨b, rfl, h⟩
  · exact Or.inl rfl
  · exact Or.inr ⟨b, rfl, hg.cell h (by simp)⟩

set_option maxHeartbeats 400000 in
theorem sectors_none (p : Option Addr) (w : World) (h : NoDisk w p) : Calls Try.prog 25 #[.pointer p] w fun e w' => e = .returned (.int .i64 0) ∧ w' = w := by
  have H := hide h.is
  clear h
  go_enter Try.func25, Try.ntmps25
  go_wp2_with fail
  refine H.out.mono ?_
  rintro e w' ⟨rfl, rfl⟩
  go_wp2
  go_ret
  exact ⟨rfl, rfl⟩
set_option maxHeartbeats 400000 in
theorem size_none (p : Option Addr) (w : World) (h : NoDisk w p) : Calls Try.prog 36 #[.pointer p] w fun e w' => e = .returned (.int .i64 0) ∧ w' = w := by
  have H := hide h.is
  clear h
  go_enter Try.func36, Try.ntmps36
  go_wp2_with fail
  refine H.out.mono ?_
  rintro e w' ⟨rfl, rfl⟩
  go_wp2
  go_ret
  exact ⟨rfl, rfl⟩
set_option maxHeartbeats 400000 in
theorem waiting_none (p : Option Addr) (w : World) (h : NoDisk w p) : Calls Try.prog 18 #[.pointer p] w fun e w' => e = .returned (.int .i64 0) ∧ w' = w := by
  have H := hide h.is
  clear h
  go_enter Try.func18, Try.ntmps18
  go_wp2_with fail
  refine H.out.mono ?_
  rintro e w' ⟨rfl, rfl⟩
  go_wp2
  go_ret
  exact ⟨rfl, rfl⟩

section
variable {w : World} {k : Dk} {n size : Nat} {D : List Nat} {W : List Wt}
theorem DiskAt.is (h : DiskAt w k n size D W) : Calls Try.prog 40 #[.pointer (some ⟨k.d, 0, none⟩)] w fun e w' => e = .returned (.bool false) ∧ w' = w := isNone_at _ true w h.c0
set_option maxHeartbeats 400000 in
theorem size_any (h : DiskAt w k n size D W) : Calls Try.prog 36 #[.pointer (some ⟨k.d, 0, none⟩)] w fun e w' => e = .returned (.int .i64 (size : Int)) ∧ w' = w := by
  have H := hide h.is
  have c1 := h.c1
  clear h
  go_enter Try.func36, Try.ntmps36
  go_wp2_with fail
  refine H.out.mono ?_
  rintro e w' ⟨rfl, rfl⟩
  go_wp2
  go_ret
  exact ⟨rfl, rfl⟩
set_option maxHeartbeats 400000 in
theorem waiting_any (h : DiskAt w k n size D W) : Calls Try.prog 18 #[.pointer (some ⟨k.d, 0, none⟩)] w fun e w' => e = .returned (.int .i64 (W.length : Int)) ∧ w' = w := by
  have H := hide h.is
  have c3 := h.c3
  obtain ⟨ao, cap, hv, _⟩ := h.vw_form
  rw [hv] at c3
  generalize W.length = m at *
  clear h hv
  go_enter Try.func18, Try.ntmps18
  go_wp2_with fail
  refine H.out.mono ?_
  rintro e w' ⟨rfl, rfl⟩
  go_wp2
  go_ret
  exact ⟨rfl, rfl⟩
set_option maxHeartbeats 1000000 in
theorem sectors_any (h : DiskAt w k n size D W) : Calls Try.prog 25 #[.pointer (some ⟨k.d, 0, none⟩)] w fun e w' => e = .returned (.int .i64 (n : Int)) ∧ ∃ q, w' = w.drewN q := by
  have H := hide h.is
  have c1 := h.c1
  have c2 := h.c2
  have hs := h.shape
  have hq : ((n * size : Nat) : Int).tdiv (size : Int) = (n : Int) := by
    rw [show ((n * size : Nat) : Int) = (n : Int) * (size : Int) by simp, Int.mul_tdiv_cancel _ (by have := hs.s0; omega)]
  have hb := hs.all
  have hn1 := hs.n1
  have hz : (size : Int) ≠ 0 := by have := hs.s0; omega
  generalize n * size = m at *
  clear h hs
  go_enter Try.func25, Try.ntmps25
  go_wp2_with fail
  refine H.out.mono ?_
  rintro e w' ⟨rfl, rfl⟩
  go_wp2_with fail
  go_quiet (fail)
  go_wp2
  go_ret
  exact ⟨by simp, _, rfl⟩
end
end Go.Proofs.Ytaopcidkgcekdaa
