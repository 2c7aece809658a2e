/- Texts joined: Dev3, RefN. -/
import Derived.Test.YtaopcidkgcekdaaGreatJsAk
import Derived.Test.YtaopcidkgcekdaaGreatJsAj
import Derived.Test.YtaopcidkgcekdaaGreatJsAh
/- A device made, asked, copied; no device. -/
namespace Go.Proofs.YtaopcidkgcekdaaGreat
open Go.RowKit Ap
attribute [local go_sem ↓] Go.wp_at_zero Go.wp_at_succ

section
variable {w0 w : World} {n size b : Nat} {s : Dv} {k : Dk} {D : List Nat} {W : List Wt}
set_option maxHeartbeats 1000000 in
theorem dnew_none (p : Option Addr) (w : World) (h : NoDisk w p) : Calls Tryz.prog 22 #[.pointer p] w fun e w' => e = .returned (.tuple #[.pointer none, .int .i64 1]) ∧ w' = w := by
  have H := hide (sectors_none p w h)
  clear h
  go_enter Tryz.func22, Tryz.ntmps22
  go_wp2_with fail
  refine H.out.mono ?_
  rintro e w' ⟨rfl, rfl⟩
  go_wp2
  go_ret2
  exact ⟨rfl, rfl⟩
set_option maxHeartbeats 1000000 in
theorem dnew_any {d : Nat} (hd : k.d = d) (h : DkS w0 w k n size D W) : Calls Tryz.prog 22 #[.pointer (some ⟨d, 0, none⟩)] w fun e w' => ∃ b, e = .returned (.tuple #[.pointer (some ⟨b, 0, none⟩), .int .i64 0]) ∧ Dev w0 w' n size b Dv.anew k D W ∧ w.heap.size ≤ b ∧ w.grownBy w' none := by
  subst hd
  have H := hide (sectors_any h.disk)
  have n0 : (n : Int) ≠ 0 := by have := h.disk.shape.n0; omega
  have HH := hide h
  clear h
  go_enter Tryz.func22, Tryz.ntmps22
  go_wp2_with fail
  refine H.out.mono ?_
  rintro e w' ⟨rfl, q, rfl⟩
  have HQ := hide (HH.out.then (grown_drewN w q none))
  have gq := hide (grown_drewN w q none)
  generalize w.drewN q = w1 at *
  go_wp2
  go_ret2
  have g1 := World.grownBy_alloc w1 (.cells (dcells k.d Dv.anew).toArray 61) none
  refine ⟨w1.heap.size, rfl, ⟨HQ.out.then g1, ⟨heap_alloc_new w1 _, ⟨by show (-1 : Int) ≤ -1; omega, by show (-1 : Int) ≤ _; omega, by show 0 ≤ _; omega⟩⟩, ?_⟩, gq.out.size, grown_trans gq.out g1⟩
  exact HQ.out.grown.size
set_option maxHeartbeats 400000 in
theorem dsectors_any (h : Dev w0 w n size b s k D W) : Calls Tryz.prog 51 #[.pointer (some ⟨b, 0, none⟩)] w fun e w' => e = .returned (.int .i64 (n : Int)) ∧ ∃ q, w' = w.drewN q := by
  have H := hide h.dev.is
  have c0 := h.dev.c0
  have HH := hide h.disk.disk
  clear h
  go_enter Tryz.func51, Tryz.ntmps51
  go_wp2_with fail
  refine H.out.mono ?_
  rintro e w' ⟨rfl, rfl⟩
  go_wp2_with fail
  refine (sectors_any HH.out).mono ?_
  rintro e w' ⟨rfl, q, rfl⟩
  go_wp2
  go_ret
  exact ⟨rfl, q, rfl⟩
set_option maxHeartbeats 400000 in
theorem dsize_any (h : Dev w0 w n size b s k D W) : Calls Tryz.prog 53 #[.pointer (some ⟨b, 0, none⟩)] w fun e w' => e = .returned (.int .i64 (size : Int)) ∧ w' = w := by
  have H := hide h.dev.is
  have c0 := h.dev.c0
  have HH := hide h.disk.disk
  clear h
  go_enter Tryz.func53, Tryz.ntmps53
  go_wp2_with fail
  refine H.out.mono ?_
  rintro e w' ⟨rfl, rfl⟩
  go_wp2_with fail
  refine (size_any HH.out).mono ?_
  rintro e w' ⟨rfl, rfl⟩
  go_wp2
  go_ret
  exact ⟨rfl, rfl⟩
set_option maxHeartbeats 400000 in
theorem dwaiting_any (h : Dev w0 w n size b s k D W) : Calls Tryz.prog 13 #[.pointer (some ⟨b, 0, none⟩)] w fun e w' => e = .returned (.int .i64 (W.length : Int)) ∧ w' = w := by
  have H := hide h.dev.is
  have c0 := h.dev.c0
  have HH := hide h.disk.disk
  clear h
  go_enter Tryz.func13, Tryz.ntmps13
  go_wp2_with fail
  refine H.out.mono ?_
  rintro e w' ⟨rfl, rfl⟩
  go_wp2_with fail
  refine (waiting_any HH.out).mono ?_
  rintro e w' ⟨rfl, rfl⟩
  go_wp2
  go_ret
  exact ⟨rfl, rfl⟩
set_option maxHeartbeats 400000 in
theorem dimage_any (h : Dev w0 w n size b s k D W) : Calls Tryz.prog 12 #[.pointer (some ⟨b, 0, none⟩)] w fun e w' => e = .returned (.slice (some ⟨w.heap.size, 0, none⟩) n n) ∧ ∃ hs, ImgAt w' w.heap.size w.heap.size size (secs n size D) hs ∧ w.grownBy w' none := by
  have H := hide h.dev.is
  have c0 := h.dev.c0
  have HH := hide h.disk.disk
  clear h
  go_enter Tryz.func12, Tryz.ntmps12
  go_wp2_with fail
  refine H.out.mono ?_
  rintro e w' ⟨rfl, rfl⟩
  go_wp2_with fail
  refine (image_any HH.out).mono ?_
  rintro e w1 ⟨hs, rfl, h1, h2⟩
  have H2 := hide (And.intro h1 h2)
  clear h1 h2
  go_wp2
  go_ret
  exact ⟨rfl, hs, H2.out.1, H2.out.2⟩
set_option maxRecDepth 20000 in
set_option maxHeartbeats 1000000 in
theorem dcopy_any (h : Dev w0 w n size b s k D W) : Calls Tryz.prog 7 #[.pointer (some ⟨b, 0, none⟩)] w fun e w' => ∃ (b' : Nat), e = .returned (.pointer (some ⟨b', 0, none⟩)) ∧ ∃ k', Dev w0 w' n size b' s k' D W ∧ w.heap.size ≤ b' ∧ (∀ i, k'.own i → w.heap.size ≤ i) ∧ w.grownBy w' none := by
  have H := hide h.dev.is
  have c0 := h.dev.c0
  have c1 := h.dev.c1
  have c2 := h.dev.c2
  have c3 := h.dev.c3
  have c4 := h.dev.c4
  have HH := hide h
  have g1 : Hid (w.grownBy (w.alloc (.cells #[.pointer (some ⟨k.d, 0, none⟩), .bool true, .bool s.off, .int .i64 s.arm, .int .i64 (s.cnt : Int)] 61)) none) := World.grownBy_alloc w _ none
  have hn : Hid ((w.alloc (.cells #[.pointer (some ⟨k.d, 0, none⟩), .bool true, .bool s.off, .int .i64 s.arm, .int .i64 (s.cnt : Int)] 61)).heap[w.heap.size]? = some (.cells (dcells k.d s).toArray 61 (0, 0))) := heap_alloc_new w _
  have a0 : (w.alloc (.cells #[.pointer (some ⟨k.d, 0, none⟩), .bool true, .bool s.off, .int .i64 s.arm, .int .i64 (s.cnt : Int)] 61)).cell? ⟨b, 0, none⟩ = some (.pointer (some ⟨k.d, 0, none⟩)) := g1.out.cell c0 (by simp)
  have hok := hide h.dev.ok
  have hlw : Hid (w0.heap.size ≤ w.heap.size) := h.disk.grown.size
  clear h
  go_enter Tryz.func7, Tryz.ntmps7
  go_wp2_with fail
  refine H.out.mono ?_
  rintro e w' ⟨rfl, rfl⟩
  go_wp2_with fail
  generalize w'.alloc (.cells #[.pointer (some ⟨k.d, 0, none⟩), .bool true, .bool s.off, .int .i64 s.arm, .int .i64 (s.cnt : Int)] 61) = wa at *
  obtain ⟨B, hB⟩ : ∃ B, B = w'.heap.size := ⟨_, rfl⟩
  have HB := hide hB
  rw [← hB] at hn ⊢
  clear hB
  refine (copy_any (HH.out.disk.disk.grown g1.out)).mono ?_
  rintro e w2 ⟨k', rfl, h1, h2, h3⟩
  have hn2 := (h3.block B (row_lt hn.out) (by simp)).trans hn.out
  have f0 : w2.frozen? ⟨B, 0, none⟩ = false := free_row hn2 0
  have b0 : w2.cell? ⟨B, 0, none⟩ = some (.pointer (some ⟨k.d, 0, none⟩)) := cell_row hn2 0
  have H2 := hide (And.intro h1 (And.intro h2 (And.intro h3 hn2)))
  clear h1 h2 h3 hn2
  go_wp2
  go_ret
  have hz := g1.out.size
  have hlt := row_lt hn.out
  refine ⟨B, rfl, k', ⟨⟨?_, ?_, ?_⟩, ⟨row_setCell H2.out.2.2.2 0 _, hok.out⟩, ?_⟩, ?_, ?_, ?_⟩
  · refine H2.out.1.same fun i hi => (grown_setCell w2 B 0 _).block i (H2.out.1.lt i hi) (fun e => ?_)
    have e : i = B := Option.some.inj e
    rcases hi with hi | ⟨x, hx, rfl⟩
    · have := H2.out.2.1 i hi; omega
    · have hh := (H2.out.1.waits x hx).2.2.2
      rw [e, H2.out.2.2.2] at hh
      simp at hh
  · intro i hi
    have := H2.out.2.1 i hi; have := hlw.out; omega
  · exact grown_then (grown_trans (grown_trans HH.out.disk.grown g1.out) H2.out.2.2.1) (grown_setCell w2 B 0 _) (fun j e => Or.inl (by have := Option.some.inj e; have := HB.out; have := hlw.out; omega))
  · have := HB.out; have := hlw.out; omega
  · exact Nat.le_of_eq HB.out.symm
  · intro i hi
    have := H2.out.2.1 i hi; omega
  · exact grown_then (grown_trans g1.out H2.out.2.2.1) (grown_setCell w2 B 0 _) (fun j e => Or.inl (by have := Option.some.inj e; have := HB.out; omega))
end
end Go.Proofs.YtaopcidkgcekdaaGreat
/- The document's New. -/
namespace Go.Proofs.YtaopcidkgcekdaaGreat
open Go.RowKit Ap
attribute [local go_sem ↓] Go.wp_at_zero Go.wp_at_succ

/-- New bytes, and what an append of them comes to. -/
theorem make_push {wq : World} {lo rb j vcap sz : Nat} {vo : Option Addr} {vw : Value} {S : List Bx} (hb : wq.heap[rb]? = some (.cells #[.slice vo j vcap, vw] 85 (0, 0))) (hR : RowAt wq lo (.slice vo j vcap) S) (hS : S.length = j) (hs1 : sz ≤ 4096) (hlo : lo ≤ wq.heap.size) (hj : j ≤ 65536) :
    ∃ g cap2 w2, (∀ ty, (Builtin.append_ #[41, 41] ty #[.slice vo j vcap, .slice (some ⟨wq.heap.size + 1, 0, none⟩) 1 1]).run Tryz.prog ((wq.drew.alloc (.cells (bv (zs sz)).toArray 5)).alloc (.cells #[.slice (some ⟨wq.heap.size, 0, none⟩) sz sz] 32)) = .ok (.slice (some ⟨g, 0, none⟩) (j + 1) cap2) w2) ∧
      (wq.drew.alloc (.cells (bv (zs sz)).toArray 5)).cell? ⟨rb, 0, none⟩ = some (.slice vo j vcap) ∧ ((wq.drew.alloc (.cells (bv (zs sz)).toArray 5)).alloc (.cells #[.slice (some ⟨wq.heap.size, 0, none⟩) sz sz] 32)).cell? ⟨rb, 0, none⟩ = some (.slice vo j vcap) ∧ w2.cell? ⟨rb, 0, none⟩ = some (.slice vo j vcap) ∧ w2.frozen? ⟨rb, 0, none⟩ = false ∧
      Hid ((w2.setCell ⟨rb, 0, none⟩ (.slice (some ⟨g, 0, none⟩) (j + 1) cap2)).heap[rb]? = some (.cells #[.slice (some ⟨g, 0, none⟩) (j + 1) cap2, vw] 85 (0, 0)) ∧ RowAt (w2.setCell ⟨rb, 0, none⟩ (.slice (some ⟨g, 0, none⟩) (j + 1) cap2)) lo (.slice (some ⟨g, 0, none⟩) (j + 1) cap2) (S ++ [⟨wq.heap.size, sz, zs sz⟩]) ∧ Kept wq (w2.setCell ⟨rb, 0, none⟩ (.slice (some ⟨g, 0, none⟩) (j + 1) cap2)) (fun i => i = rb ∨ (Value.slice vo j vcap).ownBlock = some i)) := by
  have g1' : wq.grownBy (wq.drew.alloc (.cells (bv (zs sz)).toArray 5)) none := grown_trans (grown_drew wq none) (World.grownBy_alloc _ _ none)
  have hsz : (wq.drew.alloc (.cells (bv (zs sz)).toArray 5)).heap.size = wq.heap.size + 1 := Array.size_push ..
  have hzl : (zs sz).length = sz := by simp [zs]
  have o1 : BxAt (wq.drew.alloc (.cells (bv (zs sz)).toArray 5)) wq.heap.size ⟨wq.heap.size, sz, zs sz⟩ := by
    have := World.ownsRow_lit (base := wq.heap.size) (e := 5) (size := 1) wq.drew (bv (zs sz)).toArray sz (Nat.le_refl _) (by unfold maxLen; omega) (by simp [bv_length, zs])
    simp only [BxAt, Bx.v, hzl]
    exact this
  have hro := (hR.grown g1').row
  rw [hS] at hro
  obtain ⟨g, cap2, w2, hrun, o2, g2⟩ := run_row hro (Nat.le_trans hlo g1'.size) (.slice (some ⟨wq.heap.size, 0, none⟩) sz sz) rfl hj
  obtain ⟨c1, c2, c3, c4⟩ := push_pre hb hR g1' g2
  have gz := World.grownBy_alloc (wq.drew.alloc (.cells (bv (zs sz)).toArray 5)) (.cells #[.slice (some ⟨wq.heap.size, 0, none⟩) sz sz] 32) none
  rw [hsz] at hrun
  exact ⟨g, cap2, w2, hrun, c1, c2, c3, c4, hide (push_row hb hR (grown_trans g1' gz) (BxAt.grown o1 gz) hlo (by rw [hS, Bx.v]; simp only [hzl]; exact o2) g2)⟩

set_option maxHeartbeats 1000000 in
theorem rnew_bad (s z : Int) (w : World) (h : mayB s z = false) : Calls Tryz.prog 23 #[.int .i64 s, .int .i64 z] w fun e w' => ∃ rb, e = .returned (.tuple #[.pointer (some ⟨rb, 0, none⟩), .int .i64 2]) ∧ Empty w' rb ∧ w.heap.size ≤ rb ∧ w.grownBy w' none := by
  have HM := hide (mayR_any s z)
  rw [h] at HM
  clear h
  go_enter Tryz.func23, Tryz.ntmps23
  go_wp2_with fail
  refine (HM.out _).mono ?_
  rintro e w1 ⟨rfl, rfl⟩
  go_wp2
  go_ret2
  exact ⟨_, rfl, heap_alloc_new w _, Nat.le_refl _, World.grownBy_alloc w _ none⟩
set_option maxRecDepth 20000 in
set_option maxHeartbeats 4000000 in
theorem rnew_any (n size : Nat) (w : World) (h : mayB (n : Int) (size : Int) = true) : Calls Tryz.prog 23 #[.int .i64 (n : Int), .int .i64 (size : Int)] w fun e w' => ∃ q : Rk, e = .returned (.tuple #[.pointer (some ⟨q.r, 0, none⟩), .int .i64 0]) ∧ RefAt w' w.heap.size n size q ∧ q.S.map Bx.xs = List.replicate n (zs size) ∧ q.V = [] ∧ w.grownBy w' none := by
  have HM := hide (mayR_any n size)
  rw [h] at HM
  have hs := shape_of h
  have s1 := hs.s1
  have n1 := hs.n1
  have hmk := make_bytes size (by omega)
  have HSH := hide hs
  have H0 := hide (And.intro (heap_alloc_new w (.cells #[.slice none 0 0, .slice none 0 0] 85)) (World.grownBy_alloc w (.cells #[.slice none 0 0, .slice none 0 0] 85) none))
  clear h hs
  go_enter Tryz.func23, Tryz.ntmps23
  go_wp2_with fail
  refine (HM.out _).mono ?_
  rintro e w1 ⟨rfl, rfl⟩
  obtain ⟨rb, hrb⟩ : ∃ rb, rb = w.heap.size := ⟨_, rfl⟩
  have HB := hide hrb
  rw [← hrb] at H0 ⊢
  clear hrb
  go_wp2
  go_loopg [7] n (fun q i wr => ∃ j : Nat, q + j = n ∧ i = .int .i64 j ∧ Hid (∃ v S, S.length = j ∧ wr.heap[rb]? = some (.cells #[v, .slice none 0 0] 85 (0, 0)) ∧ RowAt wr rb v S ∧ S.map Bx.xs = List.replicate j (zs size) ∧ w.grownBy wr none))
  case atStart => exact ⟨0, by omega, rfl, hide ⟨.slice none 0 0, [], rfl, by rw [HB.out] at H0 ⊢; exact H0.out.1, RowAt.nil _ _, by simp, H0.out.2⟩⟩
  case round =>
    obtain ⟨j, hkj, rfl, HR⟩ := hrel
    obtain ⟨v, S, u0, u1, u2, u3, u5⟩ := HR.out
    by_cases hk : 0 < gk
    · obtain ⟨vo, vcap, hv, -, -, -⟩ := own_form u2.row
      rw [u0] at hv
      subst hv
      have hcv : wr.cell? ⟨rb, 0, none⟩ = some (.slice vo j vcap) := cell_row (l := [.slice vo j vcap, .slice none 0 0]) u1 0
      obtain ⟨g, cap2, w2, hrun, c1, c2, c3, c4, P2⟩ := make_push (sz := size) u1 u2 u0 (by omega) (Nat.le_of_lt (row_lt u1)) (by omega)
      have c1' : (wr.alloc (.cells (bv (zs size)).toArray 5)).cell? ⟨rb, 0, none⟩ = some (.slice vo j vcap) := c1
      have c2' : ((wr.alloc (.cells (bv (zs size)).toArray 5)).alloc (.cells #[.slice (some ⟨wr.heap.size, 0, none⟩) size size] 32)).cell? ⟨rb, 0, none⟩ = some (.slice vo j vcap) := c2
      have HX := hide (And.intro u0 (And.intro u1 (And.intro u2 (And.intro u3 u5))))
      have h2 : (j : Int) < (n : Int) := by omega
      clear u0 u1 u2 u3 u5 HR
      go_wp2
      go_region_law (refine step_append_run (by rfl) _ _ _ (by rfl) _ _ (by rfl) (by rfl) hrun ?_)
      all_goals
        go_wp2
        go_roundg (gk - 1)
        case measure => omega
        case rel =>
          obtain ⟨p1, p2, p3⟩ := P2.out
          obtain ⟨f0, f1, f2, f3, f5⟩ := HX.out
          refine ⟨j + 1, by omega, by go_num, hide ⟨_, S ++ [⟨wr.heap.size, size, zs size⟩], by simp [f0], p1, p2, ?_, ?_⟩⟩
          · rw [List.map_append, f3, List.replicate_succ']; rfl
          · refine ((Kept.new f5 _).trans p3 (fun _ _ e => e)).grown ?_
            rintro i hi (e | e)
            · have := HB.out; omega
            · have := (own_block f2.row i e).1; have := HB.out; omega
    · have hj : j = n := by omega
      subst hj
      have HX := hide (And.intro u0 (And.intro u1 (And.intro u2 (And.intro u3 u5))))
      clear u0 u1 u2 u3 u5 HR hkj hk
      go_wp2
      go_ret2
      obtain ⟨f0, f1, f2, f3, f5⟩ := HX.out
      refine ⟨⟨rb, v, .slice none 0 0, S, []⟩, rfl, ⟨f1, by rw [HB.out]; exact Nat.le_refl _, by rw [← HB.out]; exact f2, World.ownsRow_nil _ _ _ _, by simp, by simp, HSH.out, f0, ?_, by simp⟩, f3, rfl, f5⟩
      intro b hb
      have : b.xs ∈ List.replicate j (zs size) := by rw [← f3]; exact List.mem_map_of_mem hb
      rw [List.eq_of_mem_replicate this]
      simp [zs]
end Go.Proofs.YtaopcidkgcekdaaGreat
