/- A device made, asked, copied; no device. -/
import Derived.Test.YtaopcidkgcekdaaDev2
namespace Go.Proofs.Ytaopcidkgcekdaa
open Go.RowKit Ap
attribute [local go_sem ↓] Go.wp_at_zero Go.wp_at_succ

section
variable {w0 w : World} {n size b : Nat} {s : Dv} {k : Dk} {D : List Nat} {W : List Wt}
set_option maxHeartbeats 1000000 in
theorem dnew_none (p : Option Addr) (w : World) (h : NoDisk w p) : Calls Try.prog 5 #[.pointer p] w fun e w' => e = .returned (.tuple #[.pointer none, .int .i64 1]) ∧ w' = w := by
  have H := hide (sectors_none p w h)
  clear h
  go_enter Try.func5, Try.ntmps5
  go_wp2_with fail
  refine H.out.mono ?_
  rintro e w' ⟨rfl, rfl⟩
  go_wp2
  go_ret2
  exact ⟨rfl, rfl⟩
set_option maxHeartbeats 1000000 in
theorem dnew_any {d : Nat} (hd : k.d = d) (h : DkS w0 w k n size D W) : Calls Try.prog 5 #[.pointer (some ⟨d, 0, none⟩)] w fun e w' => ∃ b, e = .returned (.tuple #[.pointer (some ⟨b, 0, none⟩), .int .i64 0]) ∧ Dev w0 w' n size b Dv.anew k D W ∧ w.heap.size ≤ b ∧ w.grownBy w' none := by
  subst hd
  have H := hide (sectors_any h.disk)
  have n0 : (n : Int) ≠ 0 := by have := h.disk.shape.n0; omega
  have HH := hide h
  clear h
  go_enter Try.func5, Try.ntmps5
  go_wp2_with fail
  refine H.out.mono ?_
  rintro e w' ⟨rfl, q, rfl⟩
  have HQ := hide (HH.out.then (grown_drewN w q none))
  have gq := hide (grown_drewN w q none)
  generalize w.drewN q = w1 at *
  go_wp2
  go_ret2
  have g1 := World.grownBy_alloc w1 (.cells (dcells k.d Dv.anew).toArray 35) none
  refine ⟨w1.heap.size, rfl, ⟨HQ.out.then g1, ⟨heap_alloc_new w1 _, ⟨by show (-1 : Int) ≤ -1; omega, by show (-1 : Int) ≤ _; omega, by show 0 ≤ _; omega⟩⟩, ?_⟩, gq.out.size, grown_trans gq.out g1⟩
  exact HQ.out.grown.size
set_option maxHeartbeats 400000 in
theorem dsectors_any (h : Dev w0 w n size b s k D W) : Calls Try.prog 29 #[.pointer (some ⟨b, 0, none⟩)] w fun e w' => e = .returned (.int .i64 (n : Int)) ∧ ∃ q, w' = w.drewN q := by
  have H := hide h.dev.is
  have c0 := h.dev.c0
  have HH := hide h.disk.disk
  clear h
  go_enter Try.func29, Try.ntmps29
  go_wp2_with fail
  refine H.out.mono ?_
  rintro e w' ⟨rfl, rfl⟩
  go_wp2_with fail
  refine (sectors_any HH.out).mono ?_
  rintro e w' ⟨rfl, q, rfl⟩
  go_wp2
  go_ret
  exact ⟨rfl, q, rfl⟩
set_option maxHeartbeats 400000 in
theorem dsize_any (h : Dev w0 w n size b s k D W) : Calls Try.prog 30 #[.pointer (some ⟨b, 0, none⟩)] w fun e w' => e = .returned (.int .i64 (size : Int)) ∧ w' = w := by
  have H := hide h.dev.is
  have c0 := h.dev.c0
  have HH := hide h.disk.disk
  clear h
  go_enter Try.func30, Try.ntmps30
  go_wp2_with fail
  refine H.out.mono ?_
  rintro e w' ⟨rfl, rfl⟩
  go_wp2_with fail
  refine (size_any HH.out).mono ?_
  rintro e w' ⟨rfl, rfl⟩
  go_wp2
  go_ret
  exact ⟨rfl, rfl⟩
set_option maxHeartbeats 400000 in
theorem dwaiting_any (h : Dev w0 w n size b s k D W) : Calls Try.prog 17 #[.pointer (some ⟨b, 0, none⟩)] w fun e w' => e = .returned (.int .i64 (W.length : Int)) ∧ w' = w := by
  have H := hide h.dev.is
  have c0 := h.dev.c0
  have HH := hide h.disk.disk
  clear h
  go_enter Try.func17, Try.ntmps17
  go_wp2_with fail
  refine H.out.mono ?_
  rintro e w' ⟨rfl, rfl⟩
  go_wp2_with fail
  refine (waiting_any HH.out).mono ?_
  rintro e w' ⟨rfl, rfl⟩
  go_wp2
  go_ret
  exact ⟨rfl, rfl⟩
set_option maxHeartbeats 400000 in
theorem dimage_any (h : Dev w0 w n size b s k D W) : Calls Try.prog 23 #[.pointer (some ⟨b, 0, none⟩)] w fun e w' => e = .returned (.slice (some ⟨w.heap.size, 0, none⟩) n n) ∧ ∃ hs, ImgAt w' w.heap.size w.heap.size size (secs n size D) hs ∧ w.grownBy w' none := by
  have H := hide h.dev.is
  have c0 := h.dev.c0
  have HH := hide h.disk.disk
  clear h
  go_enter Try.func23, Try.ntmps23
  go_wp2_with fail
  refine H.out.mono ?_
  rintro e w' ⟨rfl, rfl⟩
  go_wp2_with fail
  refine (image_any HH.out).mono ?_
  rintro e w1 ⟨hs, rfl, h1, h2⟩
  have H2 := hide (And.intro h1 h2)
  clear h1 h2
  go_wp2
  go_ret
  exact ⟨rfl, hs, H2.out.1, H2.out.2⟩
set_option maxRecDepth 20000 in
set_option maxHeartbeats 1000000 in
theorem dcopy_any (h : Dev w0 w n size b s k D W) : Calls Try.prog 31 #[.pointer (some ⟨b, 0, none⟩)] w fun e w' => ∃ (b' : Nat), e = .returned (.pointer (some ⟨b', 0, none⟩)) ∧ ∃ k', Dev w0 w' n size b' s k' D W ∧ w.heap.size ≤ b' ∧ (∀ i, k'.own i → w.heap.size ≤ i) ∧ w.grownBy w' none := by
  have H := hide h.dev.is
  have c0 := h.dev.c0
  have c1 := h.dev.c1
  have c2 := h.dev.c2
  have c3 := h.dev.c3
  have c4 := h.dev.c4
  have HH := hide h
  have g1 : Hid (w.grownBy (w.alloc (.cells #[.pointer (some ⟨k.d, 0, none⟩), .bool true, .bool s.off, .int .i64 s.arm, .int .i64 (s.cnt : Int)] 35)) none) := World.grownBy_alloc w _ none
  have hn : Hid ((w.alloc (.cells #[.pointer (some ⟨k.d, 0, none⟩), .bool true, .bool s.off, .int .i64 s.arm, .int .i64 (s.cnt : Int)] 35)).heap[w.heap.size]? = some (.cells (dcells k.d s).toArray 35 (0, 0))) := heap_alloc_new w _
  have a0 : (w.alloc (.cells #[.pointer (some ⟨k.d, 0, none⟩), .bool true, .bool s.off, .int .i64 s.arm, .int .i64 (s.cnt : Int)] 35)).cell? ⟨b, 0, none⟩ = some (.pointer (some ⟨k.d, 0, none⟩)) := g1.out.cell c0 (by simp)
  have hok := hide h.dev.ok
  have hlw : Hid (w0.heap.size ≤ w.heap.size) := h.disk.grown.size
  clear h
  go_enter Try.func31, Try.ntmps31
  go_wp2_with fail
  refine H.out.mono ?_
  rintro e w' ⟨rfl, rfl⟩
  go_wp2_with fail
  generalize w'.alloc (.cells #[.pointer (some ⟨k.d, 0, none⟩), .bool true, .bool s.off, .int .i64 s.arm, .int .i64 (s.cnt : Int)] 35) = wa at *
  obtain ⟨B, hB⟩ : ∃ B, B = w'.heap.size := ⟨_, rfl⟩
  have HB := hide hB
  rw [← hB] at hn ⊢
  clear hB
  refine (copy_any (HH.out.disk.disk.grown g1.out)).mono ?_
  rintro e w2 ⟨k', rfl, h1, h2, h3⟩
  have hn2 := (h3.block B (row_lt hn.out) (by simp)).trans hn.out
  have f0 : w2.frozen? ⟨B, 0, none⟩ = false := free_row hn2 0
  have b0 : w2.cell? ⟨B, 0, none⟩ = some (.pointer (some ⟨k.d, 0, none⟩)) := cell_row hn2 0
  have H2 := hide (And.intro h1 (And.intro h2 (And.intro h3 hn2)))
  clear h1 h2 h3 hn2
  go_wp2
  go_ret
  have hz := g1.out.size
  have hlt := row_lt hn.out
  refine ⟨B, rfl, k', ⟨⟨?_, ?_, ?_⟩, ⟨row_setCell H2.out.2.2.2 0 _, hok.out⟩, ?_⟩, ?_, ?_, ?_⟩
  · refine H2.out.1.same fun i hi => (grown_setCell w2 B 0 _).block i (H2.out.1.lt i hi) (fun e => ?_)
    have e : i = B := Option.some.inj e
    rcases hi with hi | ⟨x, hx, rfl⟩
    · have := H2.out.2.1 i hi; omega
    · have hh := (H2.out.1.waits x hx).2.2.2
      rw [e, H2.out.2.2.2] at hh
      simp at hh
  · intro i hi
    have := H2.out.2.1 i hi; have := hlw.out; omega
  · exact grown_then (grown_trans (grown_trans HH.out.disk.grown g1.out) H2.out.2.2.1) (grown_setCell w2 B 0 _) (fun j e => Or.inl (by have := Option.some.inj e; have := HB.out; have := hlw.out; omega))
  · have := HB.out; have := hlw.out; omega
  · exact Nat.le_of_eq HB.out.symm
  · intro i hi
    have := H2.out.2.1 i hi; omega
  · exact grown_then (grown_trans g1.out H2.out.2.2.1) (grown_setCell w2 B 0 _) (fun j e => Or.inl (by have := Option.some.inj e; have := HB.out; omega))
end
end Go.Proofs.Ytaopcidkgcekdaa
