/- A device of package power in memory; its small calls. -/
import Derived.Test.YtaopcidkgcekdaaSep
import Derived.Test.YtaopcidkgcekdaaWrd
namespace Go.Proofs.Ytaopcidkgcekdaa
open Go.RowKit Ap
attribute [local go_sem ↓] Go.wp_at_zero Go.wp_at_succ

/-- What a device knows beside its disk. -/
structure Dv where
  off : Bool
  arm : Int
  cnt : Nat
/-- Is an operation done? -/
def Dv.goes (s : Dv) : Bool := !s.off && decide (s.arm ≠ 0)
/-- What an operation answers, if the disk's answer is c. -/
def Dv.code (s : Dv) (c : Int) : Int := if s.goes then c else 60
def Dv.upc (s : Dv) : Int := if s.off then 60 else 0
/-- Behind an operation. -/
def Dv.next (s : Dv) : Dv := if s.off then s else if s.arm = 0 then ⟨true, -1, s.cnt⟩ else ⟨false, if 0 < s.arm then s.arm - 1 else s.arm, s.cnt + 1⟩
def dcells (d : Nat) (s : Dv) : List Value := [.pointer (some ⟨d, 0, none⟩), .bool true, .bool s.off, .int .i64 s.arm, .int .i64 (s.cnt : Int)]
structure Dv.Ok (s : Dv) : Prop where
  lo : -1 ≤ s.arm
  hi : s.arm ≤ 9223372036854775807
  few : s.cnt ≤ 100000
structure DvAt (w : World) (b d : Nat) (s : Dv) : Prop where
  head : w.heap[b]? = some (.cells (dcells d s).toArray 35 (0, 0))
  ok : s.Ok
theorem Dv.Ok.next {s : Dv} (h : s.Ok) (hc : s.cnt < 100000) : s.next.Ok := by
  unfold Dv.next
  split
  · exact h
  · split
    · exact ⟨by simp, by simp, h.few⟩
    · refine ⟨?_, ?_, ?_⟩
      · have := h.lo; simp only; split <;> omega
      · have := h.hi; simp only; split <;> omega
      · simp only; omega
theorem Dv.next_cnt (s : Dv) : s.next.cnt ≤ s.cnt + 1 := by
  unfold Dv.next
  split
  · omega
  · split
    · simp
    · simp
theorem Dv.goes_off {s : Dv} (h : s.off = true) : s.goes = false ∧ s.next = s := by simp [Dv.goes, Dv.next, h]
theorem Dv.goes_cut {s : Dv} (h : s.off = false) (h0 : s.arm = 0) : s.goes = false ∧ s.next = ⟨true, -1, s.cnt⟩ := by simp [Dv.goes, Dv.next, h, h0]
theorem Dv.goes_on {s : Dv} (h : s.off = false) (h0 : s.arm ≠ 0) : s.goes = true ∧ s.next = ⟨false, if 0 < s.arm then s.arm - 1 else s.arm, s.cnt + 1⟩ := by simp [Dv.goes, Dv.next, h, h0]
section
variable {w w' : World} {b d : Nat} {s : Dv}
theorem DvAt.same (h : DvAt w b d s) (hb : w'.heap[b]? = w.heap[b]?) : DvAt w' b d s := ⟨hb.trans h.head, h.ok⟩
theorem DvAt.lt (h : DvAt w b d s) : b < w.heap.size := row_lt h.head
theorem DvAt.grown (h : DvAt w b d s) (hg : w.grownBy w' none) : DvAt w' b d s := h.same (hg.block b h.lt (by simp))
theorem DvAt.kept {S : Nat → Prop} (h : DvAt w b d s) (hk : Kept w w' S) (hS : ¬ S b) : DvAt w' b d s := h.same (hk.block b h.lt hS)
theorem DvAt.c0 (h : DvAt w b d s) : w.cell? ⟨b, 0, none⟩ = some (.pointer (some ⟨d, 0, none⟩)) := cell_row h.head 0
theorem DvAt.c1 (h : DvAt w b d s) : w.cell? ⟨b, 1, none⟩ = some (.bool true) := cell_row h.head 1
theorem DvAt.c2 (h : DvAt w b d s) : w.cell? ⟨b, 2, none⟩ = some (.bool s.off) := cell_row h.head 2
theorem DvAt.c3 (h : DvAt w b d s) : w.cell? ⟨b, 3, none⟩ = some (.int .i64 s.arm) := cell_row h.head 3
theorem DvAt.c4 (h : DvAt w b d s) : w.cell? ⟨b, 4, none⟩ = some (.int .i64 (s.cnt : Int)) := cell_row h.head 4
theorem DvAt.free (h : DvAt w b d s) (j : Nat) : w.frozen? ⟨b, j, none⟩ = false := free_row h.head j
/-- Bytes lie elsewhere. -/
theorem at_dev {ao : Option Addr} {xs : List Nat} (hat : At w ao xs) (h : DvAt w b d s) (hg : w.grownBy w' (some b)) : At w' ao xs := by
  intro j u hu
  obtain ⟨a, e, hc⟩ := hat j u hu
  refine ⟨a, e, hg.cell hc ?_⟩
  rintro e2
  have e2 : (a.add j).block = b := Option.some.inj e2
  have hsp : (a.add j).spot = none := by
    unfold World.cell? at hc
    split at hc
    · split at hc
      · cases hc
      · rename_i hs; simpa using hs
    · cases hc
  have he : a.add j = ⟨b, (a.add j).off, none⟩ := by
    cases hh : a.add j
    rw [hh] at e2 hsp
    simp at e2 hsp
    subst e2 hsp
    rfl
  rw [he, cell_row h.head] at hc
  generalize (a.add j).off = i at hc
  match i, hc with
  | 0, hc => simp [dcells] at hc
  | 1, hc => simp [dcells] at hc
  | 2, hc => simp [dcells] at hc
  | 3, hc => simp [dcells] at hc
  | 4, hc => simp [dcells] at hc
  | i + 5, hc => simp [dcells] at hc

set_option maxHeartbeats 400000 in
theorem dnone_at (b : Nat) (x : Bool) (w : World) (h : w.cell? ⟨b, 1, none⟩ = some (.bool x)) :
    Calls Try.prog 39 #[.pointer (some ⟨b, 0, none⟩)] w fun e w' => e = .returned (.bool (!x)) ∧ w' = w := by
  go_enter Try.func39, Try.ntmps39
  go_wp2
  go_ret
  exact ⟨rfl, rfl⟩
set_option maxHeartbeats 400000 in
theorem dnone_nil (w : World) :
    Calls Try.prog 39 #[.pointer none] w fun e w' => e = .returned (.bool true) ∧ w' = w := by
  go_enter Try.func39, Try.ntmps39
  go_wp2
  go_ret
  exact ⟨rfl, rfl⟩
theorem DvAt.is (h : DvAt w b d s) : Calls Try.prog 39 #[.pointer (some ⟨b, 0, none⟩)] w fun e w' => e = .returned (.bool false) ∧ w' = w := dnone_at b true w h.c1
set_option maxHeartbeats 400000 in
theorem isUp_any (h : DvAt w b d s) : Calls Try.prog 33 #[.pointer (some ⟨b, 0, none⟩)] w fun e w' => e = .returned (.int .i64 s.upc) ∧ w' = w := by
  have H := hide h.is
  have c2 := h.c2
  clear h
  unfold Dv.upc
  generalize s.off = x at *
  cases x
  all_goals
    go_enter Try.func33, Try.ntmps33
    go_wp2_with fail
    refine H.out.mono ?_
    rintro e w' ⟨rfl, rfl⟩
    go_wp2
    go_ret
    exact ⟨rfl, rfl⟩
set_option maxHeartbeats 400000 in
theorem down_any (h : DvAt w b d s) : Calls Try.prog 13 #[.pointer (some ⟨b, 0, none⟩)] w fun e w' => e = .returned (.bool s.off) ∧ w' = w := by
  have H := hide (isUp_any h)
  clear h
  unfold Dv.upc at H
  generalize s.off = x at *
  cases x
  all_goals
    go_enter Try.func13, Try.ntmps13
    go_wp2_with fail
    refine H.out.mono ?_
    rintro e w' ⟨rfl, rfl⟩
    go_wp2
    go_ret
    exact ⟨rfl, rfl⟩
set_option maxHeartbeats 400000 in
theorem count_any (h : DvAt w b d s) : Calls Try.prog 16 #[.pointer (some ⟨b, 0, none⟩)] w fun e w' => e = .returned (.int .i64 (s.cnt : Int)) ∧ w' = w := by
  have H := hide h.is
  have c4 := h.c4
  clear h
  go_enter Try.func16, Try.ntmps16
  go_wp2_with fail
  refine H.out.mono ?_
  rintro e w' ⟨rfl, rfl⟩
  go_wp2
  go_ret
  exact ⟨rfl, rfl⟩
set_option maxRecDepth 20000 in
set_option maxHeartbeats 1000000 in
theorem begin_any (h : DvAt w b d s) (hc : s.cnt < 100000) : Calls Try.prog 45 #[.pointer (some ⟨b, 0, none⟩)] w fun e w' => e = .returned (.int .i64 (s.code 0)) ∧ DvAt w' b d s.next ∧ w.grownBy w' (some b) := by
  have H := hide (isUp_any h)
  have c2 := h.c2
  have c3 := h.c3
  have c4 := h.c4
  have f2 := h.free 2
  have f3 := h.free 3
  have f4 := h.free 4
  have hlo := h.ok.lo
  have hhi := h.ok.hi
  have HH := hide h
  obtain ⟨x, a, c⟩ := s
  simp only at c2 c3 c4 hc hlo hhi
  cases x with
  | true =>
    clear h
    go_enter Try.func45, Try.ntmps45
    go_wp2_with fail
    refine H.out.mono ?_
    rintro e w' ⟨rfl, rfl⟩
    go_wp2
    go_ret
    exact ⟨rfl, HH.out, grown_refl _ _⟩
  | false =>
    by_cases h0 : a = 0
    · subst h0
      clear h
      go_enter Try.func45, Try.ntmps45
      go_wp2_with fail
      refine H.out.mono ?_
      rintro e w' ⟨rfl, rfl⟩
      go_wp2
      go_ret
      refine ⟨rfl, ⟨?_, HH.out.ok.next hc⟩, grown_then (grown_setCell _ b 2 _) (grown_setCell _ b 3 _) (fun j e => Or.inr e)⟩
      have h1 := row_setCell HH.out.head 2 (.bool true)
      exact row_setCell h1 3 (.int .i64 (-1))
    · by_cases h1 : 0 < a
      · have e1 : Dv.next ⟨false, a, c⟩ = ⟨false, a - 1, c + 1⟩ := by simp [Dv.next, h0, h1]
        have e2 : Dv.goes ⟨false, a, c⟩ = true := by simp [Dv.goes, h0]
        rw [e1, Dv.code, e2]
        clear h e1 e2
        go_enter Try.func45, Try.ntmps45
        go_wp2_with fail
        refine H.out.mono ?_
        rintro e w' ⟨rfl, rfl⟩
        go_wp2
        go_ret
        refine ⟨rfl, ⟨?_, ⟨by show -1 ≤ a - 1; omega, by show a - 1 ≤ _; omega, by show c + 1 ≤ _; omega⟩⟩, grown_then (grown_setCell _ b 3 _) (grown_setCell _ b 4 _) (fun j e => Or.inr e)⟩
        have h1 := row_setCell HH.out.head 3 (.int .i64 (a - 1))
        exact row_setCell h1 4 (.int .i64 ((c + 1 : Nat) : Int))
      · have e1 : Dv.next ⟨false, a, c⟩ = ⟨false, a, c + 1⟩ := by simp [Dv.next, h0, h1]
        have e2 : Dv.goes ⟨false, a, c⟩ = true := by simp [Dv.goes, h0]
        rw [e1, Dv.code, e2]
        clear h e1 e2
        go_enter Try.func45, Try.ntmps45
        go_wp2_with fail
        refine H.out.mono ?_
        rintro e w' ⟨rfl, rfl⟩
        go_wp2
        go_ret
        refine ⟨rfl, ⟨?_, ⟨hlo, hhi, by show c + 1 ≤ _; omega⟩⟩, grown_setCell _ b 4 _⟩
        exact row_setCell HH.out.head 4 (.int .i64 ((c + 1 : Nat) : Int))
/-- Armed anew. -/
def Dv.armed (s : Dv) (n : Int) : Dv := if s.off then s else ⟨false, max n (-1), s.cnt⟩
set_option maxRecDepth 20000 in
set_option maxHeartbeats 1000000 in
theorem arm_any (h : DvAt w b d s) (n : Int) (hn : n ≤ 9223372036854775807) : Calls Try.prog 10 #[.pointer (some ⟨b, 0, none⟩), .int .i64 n] w fun e w' => e = .returned (.int .i64 s.upc) ∧ DvAt w' b d (s.armed n) ∧ w.grownBy w' (some b) := by
  have H := hide (isUp_any h)
  have c3 := h.c3
  have f3 := h.free 3
  have HH := hide h
  obtain ⟨x, a, c⟩ := s
  simp only at c3
  cases x with
  | true =>
    clear h
    go_enter Try.func10, Try.ntmps10
    go_wp2_with fail
    refine H.out.mono ?_
    rintro e w' ⟨rfl, rfl⟩
    go_wp2
    go_ret
    exact ⟨rfl, HH.out, grown_refl _ _⟩
  | false =>
    clear h
    by_cases hm : n < -1
    · have e : Dv.armed ⟨false, a, c⟩ n = ⟨false, -1, c⟩ := by simp [Dv.armed]; omega
      rw [e]
      clear e
      go_enter Try.func10, Try.ntmps10
      go_wp2_with fail
      refine H.out.mono ?_
      rintro e w' ⟨rfl, rfl⟩
      go_wp2
      go_ret
      exact ⟨rfl, ⟨row_setCell HH.out.head 3 (.int .i64 (-1)), ⟨by show (-1 : Int) ≤ -1; omega, by show (-1 : Int) ≤ _; omega, HH.out.ok.few⟩⟩, grown_setCell _ b 3 _⟩
    · have e : Dv.armed ⟨false, a, c⟩ n = ⟨false, n, c⟩ := by simp [Dv.armed]; omega
      rw [e]
      clear e
      have hm2 : -1 ≤ n := by omega
      go_enter Try.func10, Try.ntmps10
      go_wp2_with fail
      refine H.out.mono ?_
      rintro e w' ⟨rfl, rfl⟩
      go_wp2
      go_ret
      exact ⟨rfl, ⟨row_setCell HH.out.head 3 (.int .i64 n), ⟨hm2, hn, HH.out.ok.few⟩⟩, grown_setCell _ b 3 _⟩
end
end Go.Proofs.Ytaopcidkgcekdaa
