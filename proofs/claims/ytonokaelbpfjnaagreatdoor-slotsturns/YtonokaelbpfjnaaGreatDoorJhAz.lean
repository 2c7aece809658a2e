/- Texts joined: Qg1, SlO, SlQ, SlB. -/
import Derived.Test.YtonokaelbpfjnaaGreatDoorJhAm
import Derived.Test.YtonokaelbpfjnaaGreatDoorJhAy
import Derived.Test.YtonokaelbpfjnaaGreatDoorJhAx
import Derived.Test.YtonokaelbpfjnaaGreatDoorJhAj
import Derived.Test.YtonokaelbpfjnaaGreatDoorJhAw
/- The document's region in memory; its small calls. -/
namespace Go.Proofs.YtonokaelbpfjnaaGreatDoor
open Go.RowKit Ap
attribute [local go_sem ↓] Go.wp_at_zero Go.wp_at_succ

/-- The document's region lies at r: sectors of its device c. -/
structure QgAt (w : World) (r c F C : Nat) : Prop where
  head : w.heap[r]? = some (.cells (rgcells c F C).toArray 135 (0, 0))
section
variable {w w' : World} {r c F C lo n size : Nat} {s : Dv} {q : Rk}
theorem QgAt.lt (h : QgAt w r c F C) : r < w.heap.size := row_lt h.head
theorem QgAt.same (h : QgAt w r c F C) (hb : w'.heap[r]? = w.heap[r]?) : QgAt w' r c F C := ⟨hb.trans h.head⟩
theorem QgAt.grown (h : QgAt w r c F C) (hg : w.grownBy w' none) : QgAt w' r c F C := h.same (hg.block r h.lt (by simp))
theorem QgAt.kept {S : Nat → Prop} (h : QgAt w r c F C) (hk : Kept w w' S) (hS : ¬ S r) : QgAt w' r c F C := h.same (hk.block r h.lt hS)
theorem QgAt.c0 (h : QgAt w r c F C) : w.cell? ⟨r, 0, none⟩ = some (.pointer (some ⟨c, 0, none⟩)) := cell_row h.head 0
theorem QgAt.c1 (h : QgAt w r c F C) : w.cell? ⟨r, 1, none⟩ = some (.int .i64 (F : Int)) := cell_row h.head 1
theorem QgAt.c2 (h : QgAt w r c F C) : w.cell? ⟨r, 2, none⟩ = some (.int .i64 (C : Int)) := cell_row h.head 2
theorem RDev.drew (h : RDev w lo n size c s q) (p : Nat) : RDev (w.drewN p) lo n size c s q := h.then (grown_drewN w p none)
set_option maxRecDepth 20000 in
set_option maxHeartbeats 1000000 in
theorem qbytes_at (h : RDev w lo n size c s q) (hr : QgAt w r c F C) (hC : C ≤ 65536) : Calls Tryz.prog 95 #[.pointer (some ⟨r, 0, none⟩)] w fun e w' => e = .returned (.int .i64 ((C * size : Nat) : Int)) ∧ ∃ p, w' = w.drewN p := by
  have c0 := hr.c0
  have c2 := hr.c2
  have s1 := h.ref.shape.s1
  have hm : C * size ≤ 65536 * 4096 := Nat.mul_le_mul hC s1
  have hm2 : (C : Int) * (size : Int) = ((C * size : Nat) : Int) := by simp
  have hm3 : (0 : Int) ≤ (C : Int) * (size : Int) ∧ (C : Int) * (size : Int) ≤ 268435456 := by rw [hm2]; omega
  have hm4 := hm3.1
  have hm5 := hm3.2
  have H := hide (fun p => rdsize_any (h.drew p))
  clear h hr hm2 hm hm3
  go_enter Tryz.func95, Tryz.ntmps95
  go_wp2_with fail
  go_quiet ((go_at_call 84; exact Calls.quiet_of_same (H.out _)))
  go_wp2
  go_ret
  exact ⟨rfl, _, rfl⟩
set_option maxRecDepth 20000 in
set_option maxHeartbeats 2000000 in
theorem qwrong_at (h : RDev w lo n size c s q) (hr : QgAt w r c F C) (hC : C ≤ 65536) (at_ m : Int) (hat : at_ ≤ 9223372036854775807) : Calls Tryz.prog 121 #[.pointer (some ⟨r, 0, none⟩), .int .i64 at_, .int .i64 m] w fun e w' => e = .returned (.bool (decide (mcode (C * size) at_ m ≠ 0))) ∧ ∃ p, w' = w.drewN p := by
  have hm : C * size ≤ 65536 * 4096 := Nat.mul_le_mul hC h.ref.shape.s1
  have H := hide (fun p => qbytes_at (h.drew p) (hr.grown (grown_drewN w p none)) hC)
  clear h hr
  unfold mcode
  generalize C * size = B at *
  by_cases h1 : 0 ≤ at_
  · by_cases h2 : 0 ≤ m
    · by_cases h3 : at_ ≤ (B : Int)
      · by_cases h4 : m ≤ (B : Int) - at_
        · rw [if_pos ⟨h1, h2, h4⟩]
          go_enter Tryz.func121, Tryz.ntmps121
          go_wp2_with fail
          refine (H.out 0).mono ?_
          rintro e w' ⟨rfl, p, rfl⟩
          go_wp2_with fail
          refine (show Calls Tryz.prog 95 #[.pointer (some ⟨r, 0, none⟩)] ((w.drewN 0).drewN p) _ from by rw [World.drewN_drewN]; exact H.out _).mono ?_
          rintro e w' ⟨rfl, p2, rfl⟩
          go_wp2
          go_ret
          refine ⟨?_, _, rfl⟩
          show Ending.returned (.bool (decide (at_ < 0) || decide (m < 0) || decide ((B : Int) < at_) || decide ((B : Int) - at_ < m))) = _
          rw [decide_eq_false (show ¬ at_ < 0 by omega), decide_eq_false (show ¬ m < 0 by omega), decide_eq_false (show ¬ (B : Int) < at_ by omega), decide_eq_false (show ¬ (B : Int) - at_ < m by omega)]
          rfl
        · rw [if_neg (by omega)]
          go_enter Tryz.func121, Tryz.ntmps121
          go_wp2_with fail
          refine (H.out 0).mono ?_
          rintro e w' ⟨rfl, p, rfl⟩
          go_wp2_with fail
          refine (show Calls Tryz.prog 95 #[.pointer (some ⟨r, 0, none⟩)] ((w.drewN 0).drewN p) _ from by rw [World.drewN_drewN]; exact H.out _).mono ?_
          rintro e w' ⟨rfl, p2, rfl⟩
          go_wp2
          go_ret
          exact ⟨rfl, _, rfl⟩
      · rw [if_neg (by omega)]
        go_enter Tryz.func121, Tryz.ntmps121
        go_wp2_with fail
        refine (H.out 0).mono ?_
        rintro e w' ⟨rfl, p, rfl⟩
        go_wp2
        go_ret
        exact ⟨rfl, p, rfl⟩
    · rw [if_neg (by omega)]
      go_enter Tryz.func121, Tryz.ntmps121
      go_wp2
      go_ret
      exact ⟨rfl, 0, rfl⟩
  · rw [if_neg (by omega)]
    go_enter Tryz.func121, Tryz.ntmps121
    go_wp2
    go_ret
    exact ⟨rfl, 0, rfl⟩
set_option maxHeartbeats 400000 in
theorem qsync_at (h : RDev w lo n size c s q) (hr : QgAt w r c F C) (hV : q.V.length ≤ 900000) (hc : s.cnt < 100000) :
    Calls Tryz.prog 85 #[.pointer (some ⟨r, 0, none⟩)] w fun e w' => e = .returned (.int .i64 (s.code 0)) ∧ ∃ q', RDev w' lo n size c s.next q' ∧ RM w w' c q q' ∧ rst q' = (if s.goes then rsyncA size (rst q) else rst q) := by
  have H : Hid (Calls Tryz.prog 123 #[.pointer (some ⟨c, 0, none⟩)] w fun e w' => e = .returned (.int .i64 (s.code 0)) ∧ (fun w' => ∃ q', RDev w' lo n size c s.next q' ∧ RM w w' c q q' ∧ rst q' = (if s.goes then rsyncA size (rst q) else rst q)) w') := rdsync_any h hV hc
  have c0 := hr.c0
  clear h hr
  show Calls Tryz.prog 85 #[.pointer (some ⟨r, 0, none⟩)] w fun e w' => e = .returned (.int .i64 (s.code 0)) ∧ (fun w' => ∃ q', RDev w' lo n size c s.next q' ∧ RM w w' c q q' ∧ rst q' = (if s.goes then rsyncA size (rst q) else rst q)) w'
  generalize (fun w' => ∃ q', RDev w' lo n size c s.next q' ∧ RM w w' c q q' ∧ rst q' = (if s.goes then rsyncA size (rst q) else rst q)) = Z at *
  generalize s.code 0 = x at *
  go_enter Tryz.func85, Tryz.ntmps85
  go_wp2_with fail
  refine H.out.mono ?_
  rintro e w' ⟨rfl, h2⟩
  have H3 := hide h2
  clear h2
  go_wp2
  go_ret
  exact ⟨rfl, H3.out⟩
set_option maxRecDepth 20000 in
set_option maxHeartbeats 2000000 in
theorem qnew_at (h : RDev w lo n size c s q) (F C : Nat) (hok : spanOk n F C) : Calls Tryz.prog 39 #[.pointer (some ⟨c, 0, none⟩), .agg #[.int .i64 (F : Int), .int .i64 (C : Int)]] w fun e w' => ∃ r, e = .returned (.tuple #[.pointer (some ⟨r, 0, none⟩), .int .i64 0]) ∧ QgAt w' r c F C ∧ w.heap.size ≤ r ∧ w.grownBy w' none := by
  obtain ⟨h1, h2, h3⟩ := hok
  have n1 := h.ref.shape.n1
  have H : Hid (∀ w1 : World, w.grownBy w1 none → Calls Tryz.prog 92 #[.pointer (some ⟨c, 0, none⟩)] w1 fun e w' => e = .returned (.int .i64 (n : Int)) ∧ w' = w1) := fun w1 g1 => rdsectors_any (h.then g1)
  have G1 := hide (World.grownBy_alloc w (.cells #[.int .i64 (F : Int), .int .i64 (C : Int)] 65) none)
  have E := hide (span_new w F C)
  have hz := hide G1.out.size
  have h4 : (F : Int) ≤ (n : Int) := by omega
  clear h
  go_enter Tryz.func39, Tryz.ntmps39
  go_wp2_with fail
  generalize w.alloc (.cells #[.int .i64 (F : Int), .int .i64 (C : Int)] 65) = w1 at *
  have e0 := E.out.1
  have e1 := E.out.2
  generalize w.heap.size = z at *
  have HD : Hid (∀ p, Calls Tryz.prog 92 #[.pointer (some ⟨c, 0, none⟩)] (w1.drewN p) fun e w' => e = .returned (.int .i64 (n : Int)) ∧ w' = w1.drewN p) := fun p => H.out _ (grown_trans G1.out (grown_drewN w1 p none))
  have d1 : decide ((F : Int) < 0) = false := decide_eq_false (by omega)
  have d2 : decide ((C : Int) < 1) = false := decide_eq_false (by omega)
  have d3 : decide (n < F) = false := decide_eq_false (by omega)
  have d4 : decide ((n : Int) - (F : Int) < (C : Int)) = false := decide_eq_false (by omega)
  go_quiet ((go_at_call 92; exact Calls.quiet_of_same (HD.out _)))
  have e2 : (w1.drewN nq).cell? ⟨z, 0, none⟩ = some (.int .i64 (F : Int)) := e0
  have e3 : (w1.drewN nq).cell? ⟨z, 1, none⟩ = some (.int .i64 (C : Int)) := e1
  have G2 := hide (grown_trans G1.out (grown_drewN w1 nq none))
  generalize w1.drewN nq = w2 at *
  clear d1 d2 d3 d4
  go_wp2
  go_ret2
  have g3 := World.grownBy_alloc w2 (.cells (rgcells c F C).toArray 135) none
  exact ⟨w2.heap.size, rfl, ⟨heap_alloc_new w2 _⟩, by have := G2.out.size; have := hz.out; omega, grown_trans G2.out g3⟩
set_option maxRecDepth 20000 in
set_option maxHeartbeats 4000000 in
theorem qnew_bad (h : RDev w lo n size c s q) (F C : Int) (hF : F ≤ 9223372036854775807) (hok : ¬ spanOk n F C) : Calls Tryz.prog 39 #[.pointer (some ⟨c, 0, none⟩), .agg #[.int .i64 F, .int .i64 C]] w fun e w' => e = .returned (.tuple #[.pointer none, .int .i64 2]) ∧ w.grownBy w' none := by
  unfold spanOk at hok
  have n1 := h.ref.shape.n1
  have H : Hid (∀ w1 : World, w.grownBy w1 none → Calls Tryz.prog 92 #[.pointer (some ⟨c, 0, none⟩)] w1 fun e w' => e = .returned (.int .i64 (n : Int)) ∧ w' = w1) := fun w1 g1 => rdsectors_any (h.then g1)
  have G1 := hide (World.grownBy_alloc w (.cells #[.int .i64 F, .int .i64 C] 65) none)
  have E := hide (span_new w F C)
  clear h
  have hcase : F < 0 ∨ (0 ≤ F ∧ C < 1) ∨ (0 ≤ F ∧ 1 ≤ C ∧ (n : Int) < F) ∨ (0 ≤ F ∧ 1 ≤ C ∧ F ≤ (n : Int) ∧ (n : Int) - F < C) := by omega
  go_enter Tryz.func39, Tryz.ntmps39
  go_wp2_with fail
  generalize w.alloc (.cells #[.int .i64 F, .int .i64 C] 65) = w1 at *
  have e0 := E.out.1
  have e1 := E.out.2
  generalize w.heap.size = z at *
  have HD : Hid (∀ p, Calls Tryz.prog 92 #[.pointer (some ⟨c, 0, none⟩)] (w1.drewN p) fun e w' => e = .returned (.int .i64 (n : Int)) ∧ w' = w1.drewN p) := fun p => H.out _ (grown_trans G1.out (grown_drewN w1 p none))
  rcases hcase with k1 | ⟨k1, k2⟩ | ⟨k1, k2, k3⟩ | ⟨k1, k2, k3, k4⟩
  all_goals
    try (have d1 : decide (F < 0) = true := decide_eq_true (by omega))
    try (have d1 : decide (F < 0) = false := decide_eq_false (by omega))
    try (have d2 : decide (C < 1) = true := decide_eq_true (by omega))
    try (have d2 : decide (C < 1) = false := decide_eq_false (by omega))
    try (have d3 : decide ((n : Int) < F) = true := decide_eq_true (by omega))
    try (have d3 : decide ((n : Int) < F) = false := decide_eq_false (by omega))
    try (have d4 : decide ((n : Int) - F < C) = true := decide_eq_true (by omega))
    go_quiet ((go_at_call 92; exact Calls.quiet_of_same (HD.out _)))
    have G2 := hide (grown_trans G1.out (grown_drewN w1 nq none))
    generalize w1.drewN nq = w2 at *
    go_wp2
    go_ret2
    exact ⟨rfl, G2.out⟩
end
end Go.Proofs.YtonokaelbpfjnaaGreatDoor
/- The document's slots: New, Bytes; made. -/
namespace Go.Proofs.YtonokaelbpfjnaaGreatDoor
open Go.RowKit Ap
attribute [local go_sem ↓] Go.wp_at_zero Go.wp_at_succ
/-- The document's slots lie there. -/
structure RsAt (w : World) (s r1 r2 : Nat) : Prop where
  head : w.heap[s]? = some (.cells [rp r1, rp r2].toArray 150 (0, 0))
theorem RsAt.grown {w w' : World} {s r1 r2 : Nat} (h : RsAt w s r1 r2) (hg : w.grownBy w' none) : RsAt w' s r1 r2 := ⟨(hg.block _ (row_lt h.head) (by simp)).trans h.head⟩
section
variable {w w' : World} {lo n size c r1 r2 F1 F2 C : Nat} {s : Dv} {q : Rk}
set_option maxRecDepth 20000 in
set_option maxHeartbeats 4000000 in
theorem rsNew_at (h : RDev w lo n size c s q) (h1 : QgAt w r1 c F1 C) (h2 : QgAt w r2 c F2 C) (hC : 2 ≤ C) (hC2 : C ≤ 65536) : Calls Tryz.prog 41 #[rp r1, rp r2] w fun e w' => ∃ sw, e = .returned (.tuple #[.pointer (some ⟨sw, 0, none⟩), .int .i64 0]) ∧ w.heap.size ≤ sw ∧ RsAt w' sw r1 r2 ∧ w.grownBy w' none := by
  unfold rp
  have g1 := World.grownBy_alloc w (.cells #[.pointer (some ⟨r1, 0, none⟩), .pointer (some ⟨r2, 0, none⟩)] 150) none
  have b1 : (w.alloc (.cells #[.pointer (some ⟨r1, 0, none⟩), .pointer (some ⟨r2, 0, none⟩)] 150)).heap[w.heap.size]? = some (.cells [rp r1, rp r2].toArray 150 (0, 0)) := heap_alloc_new w _
  generalize hw1 : w.alloc (.cells #[.pointer (some ⟨r1, 0, none⟩), .pointer (some ⟨r2, 0, none⟩)] 150) = w1 at *
  have HA := hide (fun p => qbytes_at ((h.then g1).drew p) ((h1.grown g1).grown (grown_drewN w1 p none)) hC2)
  have HB := hide (fun p => qbytes_at ((h.then g1).drew p) ((h2.grown g1).grown (grown_drewN w1 p none)) hC2)
  have HS := hide (fun p => rdsize_any ((h.then g1).drew p))
  have c0 := (h1.grown g1).c0
  have c2 := (h1.grown g1).c2
  have d0 := (h2.grown g1).c0
  have HG := hide (And.intro g1 b1)
  have hlt : ¬ (C : Int) < 2 := by omega
  have hltd : decide ((C : Int) < 2) = false := decide_eq_false hlt
  generalize C * size = B at *
  clear h h1 h2 g1 b1
  go_enter Tryz.func41, Tryz.ntmps41
  go_wp2_with fail
  clear hw1
  go_quiet (first | (go_at_call_of 95 (Value.pointer (some ⟨r1, 0, none⟩)); exact Calls.quiet_of (HA.out _)) | (go_at_call_of 95 (Value.pointer (some ⟨r2, 0, none⟩)); exact Calls.quiet_of (HB.out _)) | (go_at_call 84; exact Calls.quiet_of_same (HS.out _)))
  go_wp2
  go_ret2
  exact ⟨_, rfl, Nat.le_refl _, ⟨HG.out.2⟩, grown_trans HG.out.1 (grown_drewN _ _ none)⟩
set_option maxRecDepth 20000 in
set_option maxHeartbeats 4000000 in
theorem rsBytes_at {sw : Nat} (hs : RsAt w sw r1 r2) (h : RDev w lo n size c s q) (h1 : QgAt w r1 c F1 C) (hC : 1 ≤ C) (hC2 : C ≤ 65536) (hz : size ≤ 4096) : Calls Tryz.prog 42 #[.pointer (some ⟨sw, 0, none⟩)] w fun e w' => e = .returned (.int .i64 (((C - 1) * size : Nat) : Int)) ∧ w.grownBy w' none := by
  have HA := hide (fun p => qbytes_at (h.drew p) (h1.grown (grown_drewN w p none)) hC2)
  have HS := hide (fun p => rdsize_any (h.drew p))
  have a0 : w.cell? ⟨sw, 0, none⟩ = some (.pointer (some ⟨r1, 0, none⟩)) := cell_row hs.head 0
  have c0 := h1.c0
  have e1 : (((C - 1) * size : Nat) : Int) = ((C * size : Nat) : Int) - (size : Int) := by
    obtain ⟨c, rfl⟩ : ∃ c, C = c + 1 := ⟨C - 1, by omega⟩
    rw [Nat.add_mul]
    simp
  rw [e1]
  have hB : C * size ≤ 65536 * 4096 := Nat.mul_le_mul hC2 hz
  have hB0 : size ≤ C * size := Nat.le_mul_of_pos_left _ hC
  clear h h1 hs e1
  generalize C * size = B at *
  have hw : IntKind.i64.wrap ((B : Int) - (size : Int)) = (B : Int) - (size : Int) := by rw [IntKind.wrap_i64]; omega
  go_enter Tryz.func42, Tryz.ntmps42
  go_wp2_with fail
  go_quiet (first | (go_at_call 95; exact Calls.quiet_of (HA.out _)) | (go_at_call 84; exact Calls.quiet_of_same (HS.out _)))
  go_wp2
  go_ret
  exact ⟨rfl, grown_drewN _ _ none⟩
end
end Go.Proofs.YtonokaelbpfjnaaGreatDoor
/- made. -/
namespace Go.Proofs.YtonokaelbpfjnaaGreatDoor
open Go.RowKit Ap
attribute [local go_sem ↓] Go.wp_at_zero Go.wp_at_succ
/-- Slots over a device, as the statements make them. -/
structure BoP (w0 w : World) (X b sl ra rb Fa Fb C : Nat) (s : Dv) (k : Dk) (D : List Nat) (W : List Wt) : Prop where
  box : ∃ c r : Value, w.heap[X]? = some (.cells [rp b, rp sl, c, r].toArray 51 (0, 0))
  dev : Dev w0 w 10 64 b s k D W
  hra : RgAt w ra b Fa C
  hrb : RgAt w rb b Fb C
  hsl : SlAt w sl ra rb
section
variable {w w' : World} {lo n size c X : Nat} {s : Dv} {q : Rk} {cc : Array Value} {fr : Nat × Nat}
theorem RDev.rowX (h : RDev w lo n size c s q) (hX : w.heap[X]? = some (.cells cc 51 fr)) (g : w.grownBy w' (some X)) : RDev w' lo n size c s q := by
  refine ⟨h.ref.kept (Kept.of (S := fun j => j = X) g (fun j e _ => (Option.some.inj e).symm)) (fun i hi e => ?_), ⟨(g.block c (row_lt h.dev.head) (fun e => ?_)).trans h.dev.head, h.dev.ok⟩, h.low⟩
  · have := h.ref.other_off hX (by decide) (by decide) (by decide) (by decide)
    exact this (e ▸ hi)
  · cases e
    have := h.dev.head
    rw [hX] at this
    simp at this
theorem Dev.rowX {w0 : World} {b : Nat} {k : Dk} {D : List Nat} {W : List Wt} (hd : Dev w0 w n size b s k D W) (hX : w.heap[X]? = some (.cells cc 51 fr)) (hl : w0.heap.size ≤ X) (g : w.grownBy w' (some X)) : Dev w0 w' n size b s k D W := by
  have hf := hd.far hX (by decide) (by decide) (by decide) (by decide)
  refine hd.row g ?_ hf.2 hl
  rintro (e | ⟨x, hx, e⟩)
  · exact hf.1 e
  · have h3 := (hd.disk.disk.waits x hx).2.2.2
    rw [e, hX] at h3
    simp at h3
theorem off71 {i t : Nat} {c2 : Array Value} {fr2 : Nat × Nat} (hi : w.heap[i]? = some (.cells c2 t fr2)) (ht : t ≠ 51) (hX : w.heap[X]? = some (.cells cc 51 fr)) (g : w.grownBy w' (some X)) : w'.heap[i]? = some (.cells c2 t fr2) := by
  refine (g.block i (row_lt hi) (fun e => ?_)).trans hi
  cases e
  rw [hX] at hi
  simp at hi
  exact ht hi.2.1.symm
theorem span_at {F C : Nat} (h : w.heap[X]? = some (.cells [Value.int .i64 (F : Int), .int .i64 (C : Int)].toArray 65 (0, 0))) : w.cell? ⟨X, 0, none⟩ = some (.int .i64 (F : Int)) ∧ w.cell? ⟨X, 1, none⟩ = some (.int .i64 (C : Int)) := ⟨cell_row h 0, cell_row h 1⟩
end
/-- Inside made. -/
structure MdS (w0 wr : World) (X P b c : Nat) (k : Dk) (q : Rk) (Fa Fb C : Nat) (v0 v1 v2 v3 : Value) : Prop where
  g : w0.grownBy wr none
  box : wr.heap[X]? = some (.cells [v0, v1, v2, v3].toArray 51 (0, 0))
  p0 : wr.heap[P]? = some (.cells [Value.int .i64 (Fa : Int), .int .i64 (C : Int)].toArray 65 (0, 0))
  p1 : wr.heap[P + 1]? = some (.cells [Value.int .i64 (Fb : Int), .int .i64 (C : Int)].toArray 65 (0, 0))
  dev : Dev w0 wr 10 64 b Dv.anew k (zs 640) []
  rdev : RDev wr w0.heap.size 10 64 c Dv.anew q
  low : w0.heap.size ≤ X
section
variable {w0 wr w' : World} {X P b c Fa Fb C : Nat} {k : Dk} {q : Rk} {v0 v1 v2 v3 : Value}
theorem MdS.grown (h : MdS w0 wr X P b c k q Fa Fb C v0 v1 v2 v3) (hg : wr.grownBy w' none) : MdS w0 w' X P b c k q Fa Fb C v0 v1 v2 v3 :=
  ⟨grown_trans h.g hg, (hg.block _ (row_lt h.box) (by simp)).trans h.box, (hg.block _ (row_lt h.p0) (by simp)).trans h.p0, (hg.block _ (row_lt h.p1) (by simp)).trans h.p1, h.dev.then hg, h.rdev.then hg, h.low⟩
theorem MdS.set (h : MdS w0 wr X P b c k q Fa Fb C v0 v1 v2 v3) (j : Nat) (u : Value) (y0 y1 y2 y3 : Value) (he : [v0, v1, v2, v3].set j u = [y0, y1, y2, y3]) : MdS w0 (wr.setCell ⟨X, j, none⟩ u) X P b c k q Fa Fb C y0 y1 y2 y3 := by
  have hg := grown_setCell wr X j u
  refine ⟨grown_then h.g hg (fun i e => by cases e; exact Or.inl h.low), ?_, off71 h.p0 (by decide) h.box hg, off71 h.p1 (by decide) h.box hg, h.dev.rowX h.box h.low hg, h.rdev.rowX h.box hg, h.low⟩
  rw [← he]; exact row_setCell h.box j u
theorem MdS.cells (h : MdS w0 wr X P b c k q Fa Fb C v0 v1 v2 v3) : wr.cell? ⟨X, 0, none⟩ = some v0 ∧ wr.cell? ⟨X, 1, none⟩ = some v1 ∧ wr.cell? ⟨X, 2, none⟩ = some v2 ∧ wr.cell? ⟨X, 3, none⟩ = some v3 ∧ wr.cell? ⟨P, 0, none⟩ = some (.int .i64 (Fa : Int)) ∧ wr.cell? ⟨P, 1, none⟩ = some (.int .i64 (C : Int)) ∧ wr.cell? ⟨P + 1, 0, none⟩ = some (.int .i64 (Fb : Int)) ∧ wr.cell? ⟨P + 1, 1, none⟩ = some (.int .i64 (C : Int)) :=
  ⟨cell_row h.box 0, cell_row h.box 1, cell_row h.box 2, cell_row h.box 3, cell_row h.p0 0, cell_row h.p0 1, cell_row h.p1 0, cell_row h.p1 1⟩
end
theorem may1064 : mayB (10 : Int) (64 : Int) = true := by decide
theorem two52 (w : World) (a b c d : Value) :
    ((w.alloc (.cells #[a, b] 65)).alloc (.cells #[c, d] 65)).heap[w.heap.size]? = some (.cells [a, b].toArray 65 (0, 0)) ∧ ((w.alloc (.cells #[a, b] 65)).alloc (.cells #[c, d] 65)).heap[w.heap.size + 1]? = some (.cells [c, d].toArray 65 (0, 0)) ∧ w.grownBy ((w.alloc (.cells #[a, b] 65)).alloc (.cells #[c, d] 65)) none := by
  have h1 := heap_alloc_new w (.cells #[a, b] 65)
  have h2 := heap_alloc_new (w.alloc (.cells #[a, b] 65)) (.cells #[c, d] 65)
  rw [World.size_alloc] at h2
  exact ⟨((World.grownBy_alloc (w.alloc (.cells #[a, b] 65)) (.cells #[c, d] 65) none).block _ (row_lt h1) (by simp)).trans h1, h2, grown_trans (World.grownBy_alloc w _ none) (World.grownBy_alloc _ _ none)⟩
set_option maxRecDepth 20000 in
set_option maxHeartbeats 8000000 in
theorem made_of (x : Int) (Fa Fb C : Nat) (w : World) (hsp : ∀ w, Calls Tryz.prog 33 #[.int .i64 x] w fun e w' => e = .returned (.tuple #[spV Fa C, spV Fb C]) ∧ w.grownBy w' none) (hC : 2 ≤ C) (hFa : Fa + C ≤ 10) (hFb : Fb + C ≤ 10) :
    Calls Tryz.prog 8 #[.int .i64 x] w fun e w' => ∃ X b sl ra rb k, e = .returned (.tuple #[.pointer (some ⟨X, 0, none⟩), .bool true]) ∧ BoP w w' X b sl ra rb Fa Fb C Dv.anew k (zs 640) [] ∧ w.grownBy w' none := by
  have HSp := hide hsp
  have hokA : spanOk 10 (Fa : Int) (C : Int) := ⟨by omega, by omega, by omega⟩
  have hokB : spanOk 10 (Fb : Int) (C : Int) := ⟨by omega, by omega, by omega⟩
  have HO := hide (And.intro hokA hokB)
  clear hsp hokA hokB
  unfold spV at HSp
  go_enter Tryz.func8, Tryz.ntmps8
  go_wp2_with fail
  refine (HSp.out _).mono ?_
  rintro e w1 ⟨rfl, g1⟩
  obtain ⟨p0, p1, g2⟩ := two52 w1 (.int .i64 (Fa : Int)) (.int .i64 (C : Int)) (.int .i64 (Fb : Int)) (.int .i64 (C : Int))
  have G2 := hide (And.intro (grown_trans g1 g2) (And.intro p0 p1))
  clear g1 g2 p0 p1
  obtain ⟨P, hP⟩ : ∃ P, w1.heap.size = P := ⟨_, rfl⟩
  rw [hP] at G2
  go_wp2_with fail
  clear hP
  generalize ((w1.alloc (.cells #[.int .i64 (Fa : Int), .int .i64 (C : Int)] 65)).alloc (.cells #[.int .i64 (Fb : Int), .int .i64 (C : Int)] 65)) = w2 at *
  refine (newS 10 64 w w2 G2.out.1 may1064).mono ?_
  rintro e w3 ⟨k, rfl, hdk, g3, hown⟩
  have G3 := hide (And.intro (grown_trans G2.out.1 g3) (And.intro ((g3.block _ (row_lt G2.out.2.1) (by simp)).trans G2.out.2.1) (And.intro ((g3.block _ (row_lt G2.out.2.2) (by simp)).trans G2.out.2.2) hdk)))
  clear g3 hdk hown G2
  go_wp2_with fail
  refine (rnew_any 10 64 w3 may1064).mono ?_
  rintro e w4 ⟨q, rfl, hrf, hq1, hq2, g4⟩
  have G4 := hide (And.intro (grown_trans G3.out.1 g4) (And.intro ((g4.block _ (row_lt G3.out.2.1) (by simp)).trans G3.out.2.1) (And.intro ((g4.block _ (row_lt G3.out.2.2.1) (by simp)).trans G3.out.2.2.1) (And.intro (G3.out.2.2.2.then g4) (hrf.mono G3.out.1.size)))))
  clear g4 hrf hq1 hq2 G3
  go_wp2_with fail
  refine (rdnew_any G4.out.2.2.2.2 G4.out.1.size).mono ?_
  rintro e w5 ⟨c, rfl, hrd, hc, g5⟩
  have G5 := hide (And.intro (grown_trans G4.out.1 g5) (And.intro ((g5.block _ (row_lt G4.out.2.1) (by simp)).trans G4.out.2.1) (And.intro ((g5.block _ (row_lt G4.out.2.2.1) (by simp)).trans G4.out.2.2.1) (And.intro (G4.out.2.2.2.1.then g5) hrd))))
  clear g5 hrd hc G4
  go_wp2_with fail
  have b6 : (w5.alloc (.cells #[.pointer none, .pointer none, .pointer (some ⟨c, 0, none⟩), .pointer none] 51)).heap[w5.heap.size]? = some (.cells [Value.pointer none, .pointer none, .pointer (some ⟨c, 0, none⟩), .pointer none].toArray 51 (0, 0)) := heap_alloc_new w5 _
  have g6 := World.grownBy_alloc w5 (.cells #[.pointer none, .pointer none, .pointer (some ⟨c, 0, none⟩), .pointer none] 51) none
  obtain ⟨X, hX⟩ : ∃ X, w5.heap.size = X := ⟨_, rfl⟩
  rw [hX] at b6 ⊢
  have hXl : w.heap.size ≤ X := by rw [← hX]; exact G5.out.1.size
  generalize (w5.alloc (.cells #[.pointer none, .pointer none, .pointer (some ⟨c, 0, none⟩), .pointer none] 51)) = w6 at *
  refine (dnew_any rfl (G5.out.2.2.2.1.then g6)).mono ?_
  rintro e w7 ⟨b, rfl, hdv, hb, g7⟩
  have M7 : Hid (MdS w w7 X P b c k q Fa Fb C (.pointer none) (.pointer none) (.pointer (some ⟨c, 0, none⟩)) (.pointer none)) :=
    ⟨grown_trans G5.out.1 (grown_trans g6 g7), (g7.block _ (row_lt b6) (by simp)).trans b6, ((grown_trans g6 g7).block _ (row_lt G5.out.2.1) (by simp)).trans G5.out.2.1, ((grown_trans g6 g7).block _ (row_lt G5.out.2.2.1) (by simp)).trans G5.out.2.2.1, hdv, G5.out.2.2.2.2.then (grown_trans g6 g7), hXl⟩
  have M8 := hide (M7.out.set 0 (.pointer (some ⟨b, 0, none⟩)) _ _ _ _ rfl)
  have f0 := free_row M7.out.box 0
  obtain ⟨c0, c1, c2, c3, _⟩ := M7.out.cells
  clear hX hXl hdv hb g7 g6 b6 G5
  go_wp2_with fail
  generalize w7.setCell ⟨X, 0, none⟩ (.pointer (some ⟨b, 0, none⟩)) = w8 at *
  clear c0 c1 c2 c3 f0 M7
  obtain ⟨c0, c1, c2, c3, u0, u1, u2, u3⟩ := M8.out.cells
  clear c0 c1 c2 c3 u0 u1 u2 u3
  have HS8 : Hid (∀ w9 : World, w8.grownBy w9 none → w9.cell? ⟨X, 0, none⟩ = some (.pointer (some ⟨b, 0, none⟩)) ∧ w9.cell? ⟨X, 2, none⟩ = some (.pointer (some ⟨c, 0, none⟩)) ∧ w9.cell? ⟨P, 0, none⟩ = some (.int .i64 (Fa : Int)) ∧ w9.cell? ⟨P, 1, none⟩ = some (.int .i64 (C : Int)) ∧ w9.cell? ⟨P + 1, 0, none⟩ = some (.int .i64 (Fb : Int)) ∧ w9.cell? ⟨P + 1, 1, none⟩ = some (.int .i64 (C : Int))) := fun w9 hg9 => by
    obtain ⟨a0, a1, a2, a3, a4, a5, a6, a7⟩ := (M8.out.grown hg9).cells
    exact ⟨a0, a2, a4, a5, a6, a7⟩
  obtain ⟨c0, c2, u0, u1, u2, u3⟩ := HS8.out w8 (grown_refl _ none)
  go_region_held3 (fun w9 => w9.cell? ⟨X, 0, none⟩ = some (.pointer (some ⟨b, 0, none⟩)) ∧ w9.cell? ⟨X, 2, none⟩ = some (.pointer (some ⟨c, 0, none⟩)) ∧ w9.cell? ⟨P, 0, none⟩ = some (.int .i64 (Fa : Int)) ∧ w9.cell? ⟨P, 1, none⟩ = some (.int .i64 (C : Int)) ∧ w9.cell? ⟨P + 1, 0, none⟩ = some (.int .i64 (Fb : Int)) ∧ w9.cell? ⟨P + 1, 1, none⟩ = some (.int .i64 (C : Int))) (first | exact ⟨c0, c2, u0, u1, u2, u3⟩ | assumption | exact HS8.out _ (grown_drew _ none)) ((go_at_call 38; refine (gnew_at (M8.out.grown (grown_drew _ none)).dev Fa C HO.out.1).mono ?_; rintro e10 w10 ⟨ra, rfl, hr10, hl10, g10⟩; have hk10 := HS8.out _ (grown_trans (grown_drew _ none) g10); have M10 := hide (M8.out.grown (grown_trans (grown_drew _ none) g10)); have E10 := hide (And.intro hr10 (grown_trans (grown_drew w8 none) g10)); clear hr10 g10))
  clear c0 c2 u0 u1 u2 u3 hk10 HS8 hl10
  go_wp2_with fail
  have HS10 : Hid (∀ w9 : World, w10.grownBy w9 none → w9.cell? ⟨X, 0, none⟩ = some (.pointer (some ⟨b, 0, none⟩)) ∧ w9.cell? ⟨X, 2, none⟩ = some (.pointer (some ⟨c, 0, none⟩)) ∧ w9.cell? ⟨P, 0, none⟩ = some (.int .i64 (Fa : Int)) ∧ w9.cell? ⟨P, 1, none⟩ = some (.int .i64 (C : Int)) ∧ w9.cell? ⟨P + 1, 0, none⟩ = some (.int .i64 (Fb : Int)) ∧ w9.cell? ⟨P + 1, 1, none⟩ = some (.int .i64 (C : Int))) := fun w9 hg9 => by
    obtain ⟨a0, a1, a2, a3, a4, a5, a6, a7⟩ := (M10.out.grown hg9).cells
    exact ⟨a0, a2, a4, a5, a6, a7⟩
  obtain ⟨c0, c2, u0, u1, u2, u3⟩ := HS10.out w10 (grown_refl _ none)
  go_region_held3 (fun w9 => w9.cell? ⟨X, 0, none⟩ = some (.pointer (some ⟨b, 0, none⟩)) ∧ w9.cell? ⟨X, 2, none⟩ = some (.pointer (some ⟨c, 0, none⟩)) ∧ w9.cell? ⟨P, 0, none⟩ = some (.int .i64 (Fa : Int)) ∧ w9.cell? ⟨P, 1, none⟩ = some (.int .i64 (C : Int)) ∧ w9.cell? ⟨P + 1, 0, none⟩ = some (.int .i64 (Fb : Int)) ∧ w9.cell? ⟨P + 1, 1, none⟩ = some (.int .i64 (C : Int))) (first | exact ⟨c0, c2, u0, u1, u2, u3⟩ | assumption | exact HS10.out _ (grown_drew _ none)) ((go_at_call 38; refine (gnew_at (M10.out.grown (grown_drew _ none)).dev Fb C HO.out.2).mono ?_; rintro e11 w11 ⟨rb, rfl, hr11, hl11, g11⟩; have hk11 := HS10.out _ (grown_trans (grown_drew _ none) g11); have M11 := hide (M10.out.grown (grown_trans (grown_drew _ none) g11)); have E11 := hide (And.intro hr11 (grown_trans (grown_drew w10 none) g11)); clear hr11 g11))
  clear c0 c2 u0 u1 u2 u3 hk11 HS10 hl11
  go_wp2_with fail
  have HS11 : Hid (∀ w9 : World, w11.grownBy w9 none → w9.cell? ⟨X, 0, none⟩ = some (.pointer (some ⟨b, 0, none⟩)) ∧ w9.cell? ⟨X, 2, none⟩ = some (.pointer (some ⟨c, 0, none⟩)) ∧ w9.cell? ⟨P, 0, none⟩ = some (.int .i64 (Fa : Int)) ∧ w9.cell? ⟨P, 1, none⟩ = some (.int .i64 (C : Int)) ∧ w9.cell? ⟨P + 1, 0, none⟩ = some (.int .i64 (Fb : Int)) ∧ w9.cell? ⟨P + 1, 1, none⟩ = some (.int .i64 (C : Int))) := fun w9 hg9 => by
    obtain ⟨a0, a1, a2, a3, a4, a5, a6, a7⟩ := (M11.out.grown hg9).cells
    exact ⟨a0, a2, a4, a5, a6, a7⟩
  obtain ⟨c0, c2, u0, u1, u2, u3⟩ := HS11.out w11 (grown_refl _ none)
  go_region_held3 (fun w9 => w9.cell? ⟨X, 0, none⟩ = some (.pointer (some ⟨b, 0, none⟩)) ∧ w9.cell? ⟨X, 2, none⟩ = some (.pointer (some ⟨c, 0, none⟩)) ∧ w9.cell? ⟨P, 0, none⟩ = some (.int .i64 (Fa : Int)) ∧ w9.cell? ⟨P, 1, none⟩ = some (.int .i64 (C : Int)) ∧ w9.cell? ⟨P + 1, 0, none⟩ = some (.int .i64 (Fb : Int)) ∧ w9.cell? ⟨P + 1, 1, none⟩ = some (.int .i64 (C : Int))) (first | exact ⟨c0, c2, u0, u1, u2, u3⟩ | assumption | exact HS11.out _ (grown_drew _ none)) ((go_at_call 39; refine (qnew_at (M11.out.grown (grown_drew _ none)).rdev Fa C HO.out.1).mono ?_; rintro e12 w12 ⟨r1, rfl, hr12, hl12, g12⟩; have hk12 := HS11.out _ (grown_trans (grown_drew _ none) g12); have M12 := hide (M11.out.grown (grown_trans (grown_drew _ none) g12)); have E12 := hide (And.intro hr12 (grown_trans (grown_drew w11 none) g12)); clear hr12 g12))
  clear c0 c2 u0 u1 u2 u3 hk12 HS11 hl12
  go_wp2_with fail
  have HS12 : Hid (∀ w9 : World, w12.grownBy w9 none → w9.cell? ⟨X, 0, none⟩ = some (.pointer (some ⟨b, 0, none⟩)) ∧ w9.cell? ⟨X, 2, none⟩ = some (.pointer (some ⟨c, 0, none⟩)) ∧ w9.cell? ⟨P, 0, none⟩ = some (.int .i64 (Fa : Int)) ∧ w9.cell? ⟨P, 1, none⟩ = some (.int .i64 (C : Int)) ∧ w9.cell? ⟨P + 1, 0, none⟩ = some (.int .i64 (Fb : Int)) ∧ w9.cell? ⟨P + 1, 1, none⟩ = some (.int .i64 (C : Int))) := fun w9 hg9 => by
    obtain ⟨a0, a1, a2, a3, a4, a5, a6, a7⟩ := (M12.out.grown hg9).cells
    exact ⟨a0, a2, a4, a5, a6, a7⟩
  obtain ⟨c0, c2, u0, u1, u2, u3⟩ := HS12.out w12 (grown_refl _ none)
  go_region_held3 (fun w9 => w9.cell? ⟨X, 0, none⟩ = some (.pointer (some ⟨b, 0, none⟩)) ∧ w9.cell? ⟨X, 2, none⟩ = some (.pointer (some ⟨c, 0, none⟩)) ∧ w9.cell? ⟨P, 0, none⟩ = some (.int .i64 (Fa : Int)) ∧ w9.cell? ⟨P, 1, none⟩ = some (.int .i64 (C : Int)) ∧ w9.cell? ⟨P + 1, 0, none⟩ = some (.int .i64 (Fb : Int)) ∧ w9.cell? ⟨P + 1, 1, none⟩ = some (.int .i64 (C : Int))) (first | exact ⟨c0, c2, u0, u1, u2, u3⟩ | assumption | exact HS12.out _ (grown_drew _ none)) ((go_at_call 39; refine (qnew_at (M12.out.grown (grown_drew _ none)).rdev Fb C HO.out.2).mono ?_; rintro e13 w13 ⟨r2, rfl, hr13, hl13, g13⟩; have hk13 := HS12.out _ (grown_trans (grown_drew _ none) g13); have M13 := hide (M12.out.grown (grown_trans (grown_drew _ none) g13)); have E13 := hide (And.intro hr13 (grown_trans (grown_drew w12 none) g13)); clear hr13 g13))
  clear c0 c2 u0 u1 u2 u3 hk13 HS12 hl13
  have hra := (((E10.out.1.grown E11.out.2).grown E12.out.2).grown E13.out.2)
  have hrb := ((E11.out.1.grown E12.out.2).grown E13.out.2)
  have hr1 := E12.out.1.grown E13.out.2
  have hr2 := E13.out.1
  have HR := hide (And.intro hra (And.intro hrb (And.intro hr1 hr2)))
  clear hra hrb hr1 hr2 E10 E11 E12 E13 M8 M10 M11 M12
  go_wp2_with fail
  refine (sNew_at M13.out.dev HR.out.1 HR.out.2.1 hC (by omega) (by decide) (by decide)).mono ?_
  rintro e w14 ⟨sl, rfl, hsl, hsA, g14⟩
  have M14 := hide (M13.out.grown g14)
  have M15 := hide (M14.out.set 1 (.pointer (some ⟨sl, 0, none⟩)) _ _ _ _ rfl)
  have f1 := free_row M14.out.box 1
  obtain ⟨c0, c1, c2, c3, u0, u1, u2, u3⟩ := M14.out.cells
  have gX := grown_setCell w14 X 1 (.pointer (some ⟨sl, 0, none⟩))
  have HR15 : Hid (RgAt (w14.setCell ⟨X, 1, none⟩ (.pointer (some ⟨sl, 0, none⟩))) ra b Fa C ∧ RgAt (w14.setCell ⟨X, 1, none⟩ (.pointer (some ⟨sl, 0, none⟩))) rb b Fb C ∧ QgAt (w14.setCell ⟨X, 1, none⟩ (.pointer (some ⟨sl, 0, none⟩))) r1 c Fa C ∧ QgAt (w14.setCell ⟨X, 1, none⟩ (.pointer (some ⟨sl, 0, none⟩))) r2 c Fb C ∧ SlAt (w14.setCell ⟨X, 1, none⟩ (.pointer (some ⟨sl, 0, none⟩))) sl ra rb) :=
    ⟨⟨off71 (HR.out.1.grown g14).head (by decide) M14.out.box gX⟩, ⟨off71 (HR.out.2.1.grown g14).head (by decide) M14.out.box gX⟩, ⟨off71 (HR.out.2.2.1.grown g14).head (by decide) M14.out.box gX⟩, ⟨off71 (HR.out.2.2.2.grown g14).head (by decide) M14.out.box gX⟩, ⟨off71 hsA.head (by decide) M14.out.box gX⟩⟩
  clear gX g14 hsl hsA HR M13
  go_wp2_with fail
  generalize w14.setCell ⟨X, 1, none⟩ (.pointer (some ⟨sl, 0, none⟩)) = w15 at *
  clear c0 c1 c2 c3 u0 u1 u2 u3 f1 M14
  refine (rsNew_at M15.out.rdev HR15.out.2.2.1 HR15.out.2.2.2.1 hC (by omega)).mono ?_
  rintro e w16 ⟨sw, rfl, hsw, hsB, g16⟩
  have M16 := hide (M15.out.grown g16)
  have M17 := hide (M16.out.set 3 (.pointer (some ⟨sw, 0, none⟩)) _ _ _ _ rfl)
  have f3 := free_row M16.out.box 3
  obtain ⟨c0, c1, c2, c3, u0, u1, u2, u3⟩ := M16.out.cells
  have gX := grown_setCell w16 X 3 (.pointer (some ⟨sw, 0, none⟩))
  have HR17 : Hid (RgAt (w16.setCell ⟨X, 3, none⟩ (.pointer (some ⟨sw, 0, none⟩))) ra b Fa C ∧ RgAt (w16.setCell ⟨X, 3, none⟩ (.pointer (some ⟨sw, 0, none⟩))) rb b Fb C ∧ QgAt (w16.setCell ⟨X, 3, none⟩ (.pointer (some ⟨sw, 0, none⟩))) r1 c Fa C ∧ SlAt (w16.setCell ⟨X, 3, none⟩ (.pointer (some ⟨sw, 0, none⟩))) sl ra rb ∧ RsAt (w16.setCell ⟨X, 3, none⟩ (.pointer (some ⟨sw, 0, none⟩))) sw r1 r2) :=
    ⟨⟨off71 (HR15.out.1.grown g16).head (by decide) M16.out.box gX⟩, ⟨off71 (HR15.out.2.1.grown g16).head (by decide) M16.out.box gX⟩, ⟨off71 (HR15.out.2.2.1.grown g16).head (by decide) M16.out.box gX⟩, ⟨off71 (HR15.out.2.2.2.2.grown g16).head (by decide) M16.out.box gX⟩, ⟨off71 hsB.head (by decide) M16.out.box gX⟩⟩
  have c1' := M17.out.cells.2.1
  clear gX g16 hsw hsB HR15 M15
  go_wp2_with fail
  generalize w16.setCell ⟨X, 3, none⟩ (.pointer (some ⟨sw, 0, none⟩)) = w17 at *
  clear c0 c1 c2 c3 u0 u1 u2 u3 f3 M16
  refine (sBytes_at HR17.out.2.2.2.1 M17.out.dev HR17.out.1 (by omega) (by omega) (by decide)).mono ?_
  rintro e w18 ⟨rfl, g18⟩
  have M18 := hide (And.intro (M17.out.grown g18) (And.intro (HR17.out.1.grown g18) (And.intro (HR17.out.2.1.grown g18) (And.intro (HR17.out.2.2.1.grown g18) (And.intro (HR17.out.2.2.2.1.grown g18) (HR17.out.2.2.2.2.grown g18))))))
  clear g18 HR17 M17 c1'
  have HB := hide (rsBytes_at M18.out.2.2.2.2.2 M18.out.1.rdev M18.out.2.2.2.1 (by omega) (by omega) (by decide))
  generalize (C - 1) * 64 = B at *
  go_wp2_with fail
  refine HB.out.mono ?_
  rintro e w19 ⟨rfl, g19⟩
  have M19 := hide (And.intro (M18.out.1.grown g19) (And.intro (M18.out.2.1.grown g19) (And.intro (M18.out.2.2.1.grown g19) (M18.out.2.2.2.2.1.grown g19))))
  clear g19 M18 HB
  go_wp2
  go_ret2
  exact ⟨X, b, sl, ra, rb, k, rfl, ⟨⟨_, _, M19.out.1.box⟩, M19.out.1.dev, M19.out.2.1, M19.out.2.2.1, M19.out.2.2.2⟩, M19.out.1.g⟩
theorem made_zero (w : World) : Calls Tryz.prog 8 #[.int .i64 0] w fun e w' => ∃ X b sl ra rb k, e = .returned (.tuple #[.pointer (some ⟨X, 0, none⟩), .bool true]) ∧ BoP w w' X b sl ra rb 0 5 4 Dv.anew k (zs 640) [] ∧ w.grownBy w' none :=
  made_of 0 0 5 4 w (fun w => spans_zero 0 0 rfl (.inl rfl) w) (by decide) (by decide) (by decide)
end Go.Proofs.YtonokaelbpfjnaaGreatDoor
/- Saves and loads over a device that is not armed. -/
namespace Go.Proofs.YtonokaelbpfjnaaGreatDoor
open Go.RowKit Ap
section
variable {w0 w w' : World} {X b sl ra rb Fa Fb C c : Nat} {s s' : Dv} {k k' : Dk} {D D' T : List Nat} {W W' : List Wt} {R : Fm.Hd × Option (List Nat) × Int}
/-- What lies apart from the device stays. -/
theorem BoP.moved (h : BoP w0 w X b sl ra rb Fa Fb C s k D W) (hd : Dev w0 w' 10 64 b s' k' D' W') (hk : Kept w w' (fun i => k.own i ∨ i = b)) : BoP w0 w' X b sl ra rb Fa Fb C s' k' D' W' := by
  obtain ⟨c, r, hb⟩ := h.box
  have hf := h.dev.far hb (by decide) (by decide) (by decide) (by decide)
  exact ⟨⟨c, r, hk.at hb (fun e => e.elim hf.1 hf.2)⟩, hd, h.hra.keptD h.dev hk, h.hrb.keptD h.dev hk, h.hsl.keptD h.dev hk⟩
theorem BoP.grown (h : BoP w0 w X b sl ra rb Fa Fb C s k D W) (hg : w.grownBy w' none) : BoP w0 w' X b sl ra rb Fa Fb C s k D W := h.moved (h.dev.then hg) (Kept.new hg _)
theorem BoP.cell (h : BoP w0 w X b sl ra rb Fa Fb C s k D W) : w.cell? ⟨X, 0, none⟩ = some (.pointer (some ⟨b, 0, none⟩)) ∧ w.cell? ⟨X, 1, none⟩ = some (.pointer (some ⟨sl, 0, none⟩)) := by
  obtain ⟨c, r, hb⟩ := h.box
  exact ⟨cell_row hb 0, cell_row hb 1⟩
theorem abs_nil {W : List Wt} (h : abs W = []) : W = [] := by
  unfold abs at h
  simpa using h
theorem loadF (h : BoP w0 w X b sl ra rb Fa Fb C (frD c) k T []) (hf : Found T 64 Fa Fb C R) (hFa : Fa + C ≤ 10) (hFb : Fb + C ≤ 10) (hC : 1 ≤ C) (hc : c ≤ 70000) (hT : Fm.Cr.Tab w0) (hB : Bytes T) :
    Calls Tryz.prog 21 #[.pointer (some ⟨sl, 0, none⟩)] w fun e w' => ∃ v c', e = .returned (.tuple #[Fm.hdV R.1, v, .int .i64 R.2.2, .int .i64 0]) ∧ c' ≤ c + 2 + C ∧ BoP w0 w' X b sl ra rb Fa Fb C (frD c') k T [] ∧ Kept w w' (fun i => k.own i ∨ i = b) ∧ ∀ xs, R.2.1 = some xs → ∃ g, v = .slice (some ⟨g, 0, none⟩) xs.length xs.length ∧ w.heap.size ≤ g ∧ w'.heap[g]? = some (.cells (bv xs).toArray 5 (0, 0)) := by
  obtain ⟨c', h1, e1⟩ := hf.ld c T [] (now_nil _ _)
  have q := load_at h.hsl h.dev h.hra h.hrb hFa hFb hC (by omega) (by decide) (by decide) (show (frD c).cnt ≤ 80000 from by show c ≤ 80000; omega) hT (by show Bytes (now 64 T []); rw [now_nil]; exact hB)
  rw [show abs ([] : List Wt) = [] from rfl, e1] at q
  refine q.mono ?_
  rintro e w' ⟨v, rfl, p⟩
  exact ⟨v, c', rfl, h1, h.moved p.dev p.kept, p.kept, p.yes⟩
theorem saveF (h : BoP w0 w X b sl ra rb Fa Fb C (frD c) k T []) (hf : Found T 64 Fa Fb C R) (hlen : T.length = 640) (hFa : Fa + C ≤ 10) (hFb : Fb + C ≤ 10) (hC : 1 ≤ C) (hc : c ≤ 6000) (hT : Fm.Cr.Tab w0) (hB : Bytes T)
    (ao : Option Addr) (m cap : Nat) (xs : List Nat) (hm : xs.length = m) (hat : At w ao xs) (hcap : m ≤ cap) (hfit : m ≤ (C - 1) * 64) (hx : Bytes xs) (hoff : ∀ a, ao = some a → a.block < w.heap.size ∧ (0 < m → ¬ k.own a.block ∧ a.block ≠ b)) (cov : Int) (hc0 : 0 ≤ cov) (hc1 : cov < 18446744073709551616) (hg : R.1.g ≠ 18446744073709551615) :
    Calls Tryz.prog 27 #[.pointer (some ⟨sl, 0, none⟩), .slice ao m cap, .int .u64 cov] w fun e w' => ∃ k' c', e = .returned (.tuple #[Fm.hdV (nxH R.1 cov xs), .int .i64 0]) ∧ c' ≤ c + 3 * C + 6 ∧ BoP w0 w' X b sl ra rb Fa Fb C (frD c') k' (svT T 64 (if R.2.2 = 0 then Fb else Fa) (nxH R.1 cov xs) xs) [] ∧ DvM w w' b k k' [] [] := by
  obtain ⟨c', h1, e1⟩ := svA_free (n := 10) (cov := cov) (xs := xs) hf (by decide) (by rw [hlen]) hFa hFb hC (by rw [hm]; exact hfit) hg c T [] (now_nil _ _)
  have q := save_at h.hsl h.dev h.hra h.hrb hFa hFb hC (by omega) (by decide) (by decide) (show (frD c).cnt ≤ 7000 from by show c ≤ 7000; omega) (by simp) hT (by show Bytes (now 64 T []); rw [now_nil]; exact hB) ao m cap xs hm hat hcap (by have : (C - 1) * 64 ≤ 9 * 64 := Nat.mul_le_mul_right _ (by omega); omega) hx hoff cov hc0 hc1
  rw [show abs ([] : List Wt) = [] from rfl, e1] at q
  refine q.mono ?_
  rintro e w' ⟨rfl, k', W', p⟩
  have hW := abs_nil p.abs
  subst hW
  exact ⟨k', c', rfl, h1, h.moved p.dev p.mov.kept, p.mov⟩
end
end Go.Proofs.YtonokaelbpfjnaaGreatDoor
