/- The document's New. -/
import Derived.Test.YtgcfjphjekkkmaaRefOf2
import Derived.Test.YtgcfjphjekkkmaaRefC
namespace Go.Proofs.Ytgcfjphjekkkmaa
open Go.RowKit Ap
attribute [local go_sem ↓] Go.wp_at_zero Go.wp_at_succ

/-- New bytes, and what an append of them comes to. -/
theorem make_push {wq : World} {lo rb j vcap sz : Nat} {vo : Option Addr} {vw : Value} {S : List Bx} (hb : wq.heap[rb]? = some (.cells #[.slice vo j vcap, vw] 54 (0, 0))) (hR : RowAt wq lo (.slice vo j vcap) S) (hS : S.length = j) (hs1 : sz ≤ 4096) (hlo : lo ≤ wq.heap.size) (hj : j ≤ 65536) :
    ∃ g cap2 w2, (∀ ty, (Builtin.append_ #[42, 42] ty #[.slice vo j vcap, .slice (some ⟨wq.heap.size + 1, 0, none⟩) 1 1]).run Try.prog ((wq.drew.alloc (.cells (bv (zs sz)).toArray 5)).alloc (.cells #[.slice (some ⟨wq.heap.size, 0, none⟩) sz sz] 46)) = .ok (.slice (some ⟨g, 0, none⟩) (j + 1) cap2) w2) ∧
      (wq.drew.alloc (.cells (bv (zs sz)).toArray 5)).cell? ⟨rb, 0, none⟩ = some (.slice vo j vcap) ∧ ((wq.drew.alloc (.cells (bv (zs sz)).toArray 5)).alloc (.cells #[.slice (some ⟨wq.heap.size, 0, none⟩) sz sz] 46)).cell? ⟨rb, 0, none⟩ = some (.slice vo j vcap) ∧ w2.cell? ⟨rb, 0, none⟩ = some (.slice vo j vcap) ∧ w2.frozen? ⟨rb, 0, none⟩ = false ∧
      Hid ((w2.setCell ⟨rb, 0, none⟩ (.slice (some ⟨g, 0, none⟩) (j + 1) cap2)).heap[rb]? = some (.cells #[.slice (some ⟨g, 0, none⟩) (j + 1) cap2, vw] 54 (0, 0)) ∧ RowAt (w2.setCell ⟨rb, 0, none⟩ (.slice (some ⟨g, 0, none⟩) (j + 1) cap2)) lo (.slice (some ⟨g, 0, none⟩) (j + 1) cap2) (S ++ [⟨wq.heap.size, sz, zs sz⟩]) ∧ Kept wq (w2.setCell ⟨rb, 0, none⟩ (.slice (some ⟨g, 0, none⟩) (j + 1) cap2)) (fun i => i = rb ∨ (Value.slice vo j vcap).ownBlock = some i)) := by
  have g1' : wq.grownBy (wq.drew.alloc (.cells (bv (zs sz)).toArray 5)) none := grown_trans (grown_drew wq none) (World.grownBy_alloc _ _ none)
  have hsz : (wq.drew.alloc (.cells (bv (zs sz)).toArray 5)).heap.size = wq.heap.size + 1 := Array.size_push ..
  have hzl : (zs sz).length = sz := by simp [zs]
  have o1 : BxAt (wq.drew.alloc (.cells (bv (zs sz)).toArray 5)) wq.heap.size ⟨wq.heap.size, sz, zs sz⟩ := by
    have := World.ownsRow_lit (base := wq.heap.size) (e := 5) (size := 1) wq.drew (bv (zs sz)).toArray sz (Nat.le_refl _) (by unfold maxLen; omega) (by simp [bv_length, zs])
    simp only [BxAt, Bx.v, hzl]
    exact this
  have hro := (hR.grown g1').row
  rw [hS] at hro
  obtain ⟨g, cap2, w2, hrun, o2, g2⟩ := run_row hro (Nat.le_trans hlo g1'.size) (.slice (some ⟨wq.heap.size, 0, none⟩) sz sz) rfl hj
  obtain ⟨c1, c2, c3, c4⟩ := push_pre hb hR g1' g2
  have gz := World.grownBy_alloc (wq.drew.alloc (.cells (bv (zs sz)).toArray 5)) (.cells #[.slice (some ⟨wq.heap.size, 0, none⟩) sz sz] 46) none
  rw [hsz] at hrun
  exact ⟨g, cap2, w2, hrun, c1, c2, c3, c4, hide (push_row hb hR (grown_trans g1' gz) (BxAt.grown o1 gz) hlo (by rw [hS, Bx.v]; simp only [hzl]; exact o2) g2)⟩

set_option maxHeartbeats 1000000 in
theorem rnew_bad (s z : Int) (w : World) (h : mayB s z = false) : Calls Try.prog 13 #[.int .i64 s, .int .i64 z] w fun e w' => ∃ rb, e = .returned (.tuple #[.pointer (some ⟨rb, 0, none⟩), .int .i64 2]) ∧ Empty w' rb ∧ w.heap.size ≤ rb ∧ w.grownBy w' none := by
  have HM := hide (mayR_any s z)
  rw [h] at HM
  clear h
  go_enter Try.func13, Try.ntmps13
  go_wp2_with fail
  refine (HM.out _).mono ?_
  rintro e w1 ⟨rfl, rfl⟩
  go_wp2
  go_ret2
  exact ⟨_, rfl, heap_alloc_new w _, Nat.le_refl _, World.grownBy_alloc w _ none⟩
set_option maxRecDepth 20000 in
set_option maxHeartbeats 4000000 in
theorem rnew_any (n size : Nat) (w : World) (h : mayB (n : Int) (size : Int) = true) : Calls Try.prog 13 #[.int .i64 (n : Int), .int .i64 (size : Int)] w fun e w' => ∃ q : Rk, e = .returned (.tuple #[.pointer (some ⟨q.r, 0, none⟩), .int .i64 0]) ∧ RefAt w' w.heap.size n size q ∧ q.S.map Bx.xs = List.replicate n (zs size) ∧ q.V = [] ∧ w.grownBy w' none := by
  have HM := hide (mayR_any n size)
  rw [h] at HM
  have hs := shape_of h
  have s1 := hs.s1
  have n1 := hs.n1
  have hmk := make_bytes size (by omega)
  have HSH := hide hs
  have H0 := hide (And.intro (heap_alloc_new w (.cells #[.slice none 0 0, .slice none 0 0] 54)) (World.grownBy_alloc w (.cells #[.slice none 0 0, .slice none 0 0] 54) none))
  clear h hs
  go_enter Try.func13, Try.ntmps13
  go_wp2_with fail
  refine (HM.out _).mono ?_
  rintro e w1 ⟨rfl, rfl⟩
  obtain ⟨rb, hrb⟩ : ∃ rb, rb = w.heap.size := ⟨_, rfl⟩
  have HB := hide hrb
  rw [← hrb] at H0 ⊢
  clear hrb
  go_wp2
  go_loopg [7] n (fun q i wr => ∃ j : Nat, q + j = n ∧ i = .int .i64 j ∧ Hid (∃ v S, S.length = j ∧ wr.heap[rb]? = some (.cells #[v, .slice none 0 0] 54 (0, 0)) ∧ RowAt wr rb v S ∧ S.map Bx.xs = List.replicate j (zs size) ∧ w.grownBy wr none))
  case atStart => exact ⟨0, by omega, rfl, hide ⟨.slice none 0 0, [], rfl, by rw [HB.out] at H0 ⊢; exact H0.out.1, RowAt.nil _ _, by simp, H0.out.2⟩⟩
  case round =>
    obtain ⟨j, hkj, rfl, HR⟩ := hrel
    obtain ⟨v, S, u0, u1, u2, u3, u5⟩ := HR.out
    by_cases hk : 0 < gk
    · obtain ⟨vo, vcap, hv, -, -, -⟩ := own_form u2.row
      rw [u0] at hv
      subst hv
      have hcv : wr.cell? ⟨rb, 0, none⟩ = some (.slice vo j vcap) := cell_row (l := [.slice vo j vcap, .slice none 0 0]) u1 0
      obtain ⟨g, cap2, w2, hrun, c1, c2, c3, c4, P2⟩ := make_push (sz := size) u1 u2 u0 (by omega) (Nat.le_of_lt (row_lt u1)) (by omega)
      have c1' : (wr.alloc (.cells (bv (zs size)).toArray 5)).cell? ⟨rb, 0, none⟩ = some (.slice vo j vcap) := c1
      have c2' : ((wr.alloc (.cells (bv (zs size)).toArray 5)).alloc (.cells #[.slice (some ⟨wr.heap.size, 0, none⟩) size size] 46)).cell? ⟨rb, 0, none⟩ = some (.slice vo j vcap) := c2
      have HX := hide (And.intro u0 (And.intro u1 (And.intro u2 (And.intro u3 u5))))
      have h2 : (j : Int) < (n : Int) := by omega
      clear u0 u1 u2 u3 u5 HR
      go_wp2
      go_region_law (refine step_append_run (by rfl) _ _ _ (by rfl) _ _ (by rfl) (by rfl) hrun ?_)
      all_goals
        go_wp2
        go_roundg (gk - 1)
        case measure => omega
        case rel =>
          obtain ⟨p1, p2, p3⟩ := P2.out
          obtain ⟨f0, f1, f2, f3, f5⟩ := HX.out
          refine ⟨j + 1, by omega, by go_num, hide ⟨_, S ++ [⟨wr.heap.size, size, zs size⟩], by simp [f0], p1, p2, ?_, ?_⟩⟩
          · rw [List.map_append, f3, List.replicate_succ']; rfl
          · refine ((Kept.new f5 _).trans p3 (fun _ _ e => e)).grown ?_
            rintro i hi (e | e)
            · have := HB.out; omega
            · have := (own_block f2.row i e).1; have := HB.out; omega
    · have hj : j = n := by omega
      subst hj
      have HX := hide (And.intro u0 (And.intro u1 (And.intro u2 (And.intro u3 u5))))
      clear u0 u1 u2 u3 u5 HR hkj hk
      go_wp2
      go_ret2
      obtain ⟨f0, f1, f2, f3, f5⟩ := HX.out
      refine ⟨⟨rb, v, .slice none 0 0, S, []⟩, rfl, ⟨f1, by rw [HB.out]; exact Nat.le_refl _, by rw [← HB.out]; exact f2, World.ownsRow_nil _ _ _ _, by simp, by simp, HSH.out, f0, ?_, by simp⟩, f3, rfl, f5⟩
      intro b hb
      have : b.xs ∈ List.replicate j (zs size) := by rw [← f3]; exact List.mem_map_of_mem hb
      rw [List.eq_of_mem_replicate this]
      simp [zs]
end Go.Proofs.Ytgcfjphjekkkmaa
