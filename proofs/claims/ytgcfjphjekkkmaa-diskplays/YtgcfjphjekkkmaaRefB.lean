/- The document's twin, May and Image. -/
import Derived.Test.YtgcfjphjekkkmaaRefA
namespace Go.Proofs.Ytgcfjphjekkkmaa
open Go.RowKit Ap
attribute [local go_sem ↓] Go.wp_at_zero Go.wp_at_succ

theorem cell_1 {w : World} {u : Value} {t : TypeId} : ∀ j x, [u][j]? = some x → (w.alloc (.cells #[u] t)).cell? ((⟨w.heap.size, 0, none⟩ : Addr).add j) = some x := by
  intro j x h
  rw [Addr.add_lit, Nat.zero_add, cell_of_row _ _ j #[u] t (0, 0) (heap_alloc_new w _)]
  simpa using h
set_option maxHeartbeats 1000000 in
theorem twin_any (ao : Option Addr) (m cap : Nat) (xs : List Nat) (w : World) (hat : At w ao xs) (hl : xs.length = m) (hm0 : 0 < m) (hnil : ao = none → m = 0 ∧ cap = 0) (hm : m ≤ 140737488355328) :
    Calls Try.prog 53 #[.slice ao m cap] w fun e w' => ∃ g c, e = .returned (.slice (some ⟨g, 0, none⟩) m c) ∧ BxAt w' w.heap.size ⟨g, c, xs⟩ ∧ w.grownBy w' none := by
  have HH := hide (And.intro hat (And.intro hl hnil))
  clear hat hl hnil
  go_enter Try.func53, Try.ntmps53
  go_wp2_with (at_builtin; refine wpList_append_at rfl (.tmp 3) (.tmp 4) rfl w.heap.size (.slice (some ⟨w.heap.size, 0, none⟩) 0 0) 0 [] rfl (World.ownsRow_made w #[] 0 (Nat.le_refl _) (Nat.zero_le _) rfl) ao m cap xs rfl HH.out.2.1 (HH.out.1.grown (World.grownBy_alloc w _ none)) HH.out.2.2 (by omega) (World.grownBy_alloc w _ none).size ?_)
  intro v' w' hown hg
  have hgr : w.grownBy w' none := grown_then (World.grownBy_alloc w _ none) hg (fun k e => by cases e; exact Or.inl (Nat.le_refl _))
  rcases hown.2 with ⟨rfl, h0⟩ | ⟨g, cap', cur, rfl, h1, h2, h3, h4, h5, h6⟩
  · omega
  · have HX := hide (And.intro hown hgr)
    clear hown hgr h1 h2 h3 h4 h5 h6 hg
    go_wp2
    go_ret
    refine ⟨g, cap', rfl, ?_, HX.out.2⟩
    have := HX.out.1
    rw [BxAt, Bx.v]
    simp only []
    rw [HH.out.2.1]
    simpa using this

/-- The document's May. -/
theorem mayR_any (n size : Int) (w : World) : Calls Try.prog 10 #[.int .i64 n, .int .i64 size] w fun e w' => e = .returned (.bool (mayB n size)) ∧ w' = w := by
  by_cases h : 64 ≤ size ∧ size ≤ 4096
  · obtain ⟨h3, h4⟩ := h
    by_cases hb : p2 size = true
    · have hb2 : bits .and .i64 size (size - 1) = 0 := by
        unfold p2 at hb
        have := of_decide_eq_true hb
        rwa [show IntKind.i64.wrap (size - 1) = size - 1 by rw [IntKind.wrap_i64]; omega] at this
      by_cases h1 : 1 ≤ n
      · by_cases h2 : n ≤ 65536
        · have hlo : 0 ≤ n * size := Int.mul_nonneg (by omega) (by omega)
          have hhi : n * size ≤ 65536 * 4096 := Int.mul_le_mul h2 h4 (by omega) (by omega)
          have hw : wrap64 (n * size) = n * size := by unfold wrap64; omega
          have e : mayB n size = decide (n * size ≤ 67108864) := by simp [mayB, h1, h2, h3, h4, hb]
          rw [e]
          clear e hb
          go_enter Try.func10, Try.ntmps10
          go_wp2
          go_ret
          exact ⟨by simp, rfl⟩
        · have e : mayB n size = false := by simp [mayB, h2]
          rw [e]
          clear e hb
          go_enter Try.func10, Try.ntmps10
          go_wp2
          go_ret
          exact ⟨rfl, rfl⟩
      · have e : mayB n size = false := by simp [mayB, h1]
        rw [e]
        clear e hb
        go_enter Try.func10, Try.ntmps10
        go_wp2
        go_ret
        exact ⟨rfl, rfl⟩
    · have hb0 : p2 size = false := by simpa using hb
      have hb2 : ¬ bits .and .i64 size (size - 1) = 0 := by
        intro e
        apply hb
        unfold p2
        rw [show IntKind.i64.wrap (size - 1) = size - 1 by rw [IntKind.wrap_i64]; omega]
        exact decide_eq_true e
      have e : mayB n size = false := by simp [mayB, hb0]
      rw [e]
      have g2 : (bits .and .i64 size (size - 1) == 0) = false := by simpa using hb2
      have g3 : decide (bits .and .i64 size (size - 1) = 0) = false := by simpa using hb2
      clear e hb hb0
      go_enter Try.func10, Try.ntmps10
      go_wp2
      go_ret
      exact ⟨rfl, rfl⟩
  · have e : mayB n size = false := by
      simp only [mayB]
      by_cases a3 : 64 ≤ size
      · by_cases a4 : size ≤ 4096
        · exact absurd ⟨a3, a4⟩ h
        · simp [a4]
      · simp [a3]
    rw [e]
    by_cases a3 : 64 ≤ size
    · by_cases a4 : size ≤ 4096
      · exact absurd ⟨a3, a4⟩ h
      · clear h e
        go_enter Try.func10, Try.ntmps10
        go_wp2
        go_ret
        exact ⟨rfl, rfl⟩
    · clear h e
      go_enter Try.func10, Try.ntmps10
      go_wp2
      go_ret
      exact ⟨rfl, rfl⟩

set_option maxRecDepth 20000 in
set_option maxHeartbeats 4000000 in
theorem rimage_row {w : World} {lo rb n : Nat} {v : Value} {S : List Bx} (h : RowAt w lo v S) (hn : n = S.length) (hc0 : w.cell? ⟨rb, 0, none⟩ = some v) (hR : n ≤ 65536) (hl : ∀ b ∈ S, 0 < b.xs.length ∧ b.xs.length ≤ 4096) : Calls Try.prog 20 #[.pointer (some ⟨rb, 0, none⟩)] w fun e w' => ∃ ao cap S', e = .returned (.slice ao n cap) ∧ RowAt w' w.heap.size (.slice ao n cap) S' ∧ S'.map Bx.xs = S.map Bx.xs ∧ w.grownBy w' none := by
  obtain ⟨vo, vcap, rfl, hvo, -, -⟩ := own_form h.row
  have hc : w.cell? ⟨rb, 0, none⟩ = some (.slice vo n vcap) := by rw [hn]; exact hc0
  have HH := hide (And.intro h (And.intro hl (And.intro hn hvo)))
  obtain ⟨i46, hi, hz0, hz1, hz2⟩ := info_parts Try.info46
  have HI := hide (And.intro hi (And.intro hz0 (And.intro hz1 hz2)))
  clear hi hz0 hz1 hz2 h hl hn hvo hc0
  go_enter Try.func20, Try.ntmps20
  go_wp2
  go_loopg [3, 4] n (fun q s i wr => ∃ j : Nat, q + j = n ∧ i = .int .i64 j ∧ Hid (∃ S', S'.length = j ∧ RowAt wr w.heap.size s S' ∧ S'.map Bx.xs = (S.map Bx.xs).take j ∧ w.grownBy wr none))
  case atStart => exact ⟨0, by omega, rfl, hide ⟨[], rfl, RowAt.nil _ _, by simp, grown_refl _ _⟩⟩
  case round =>
    obtain ⟨j, hkj, rfl, HR⟩ := hrel
    obtain ⟨S', u1, u2, u3, u4⟩ := HR.out
    have hcr := u4.cell hc (by simp)
    by_cases hk : 0 < gk
    · have hj : j < n := by omega
      have hjS : j < S.length := by have := HH.out.2.2.1; omega
      obtain ⟨g0, rfl⟩ := HH.out.2.2.2 (by omega)
      have hx := List.getElem?_eq_getElem hjS
      generalize S[j] = b at *
      have hbm := List.mem_of_getElem? hx
      have hcj : wr.cell? ⟨g0, j, none⟩ = some (.slice (some ⟨b.g, 0, none⟩) b.xs.length b.c) := by
        have := (HH.out.1.grown u4).row.cells rfl j b.v (by rw [List.getElem?_map, hx]; rfl)
        rwa [Addr.add_lit, Nat.zero_add] at this
      have hyl := HH.out.2.1 b hbm
      have HT := hide (twin_any (some ⟨b.g, 0, none⟩) b.xs.length b.c b.xs wr ((HH.out.1.grown u4).at_ b hbm).at_ rfl hyl.1 (fun e => by cases e) (by omega))
      have HX := hide (And.intro u1 (And.intro u2 (And.intro u3 (And.intro u4 hx))))
      obtain ⟨ln, hln⟩ : ∃ ln, ln = b.xs.length := ⟨_, rfl⟩
      rw [← hln] at hcj HT
      have HLN := hide hln
      have h1 : (0 : Int) ≤ (j : Int) := by omega
      have h2 : (j : Int) < (n : Int) := by omega
      clear u1 u2 u3 u4 hx hbm hyl hln HR
      go_wp2_with fail
      refine HT.out.mono ?_
      rintro e w1 ⟨gt, ct, rfl, o1, g1⟩
      have A1 := hide (And.intro o1 g1)
      clear o1 g1
      have HO : Hid (w1.ownsRow w.heap.size 46 1 u3 j (S'.map Bx.v)) := by have := HX.out.2.1.row.kept A1.out.2 (Classical.em _); rw [HX.out.1] at this; exact this
      go_wp2_with (at_builtin; refine wpList_append_own _ rfl (.tmp 14) (.tmp 23) 42 rfl w.heap.size 46 i46 (.slice none 0 0) 1 24 Try.underlying42 HI.out.1 HI.out.2.1 HI.out.2.2.1 HI.out.2.2.2 rfl (by decide) u3 j (S'.map Bx.v) rfl (HO.out.alloc _) ⟨w1.heap.size, 0, none⟩ 1 1 [.slice (some ⟨gt, 0, none⟩) ln ct] rfl rfl cell_1 (fun u hu => by simp at hu; subst hu; rfl) (by unfold maxLen; omega) (by omega) ?_ ?_)
      · exact Nat.le_trans HX.out.2.2.2.1.size (Nat.le_trans A1.out.2.size (World.grownBy_alloc w1 _ none).size)
      intro v' w2 o2 g2 _
      have A2 := hide (And.intro o2 g2)
      clear o2 g2
      go_wp2
      go_roundg (gk - 1)
      case measure => omega
      case rel =>
        obtain ⟨f1, f2, f3, f4, fx⟩ := HX.out
        have gz : w1.grownBy (w1.alloc (.cells #[.slice (some ⟨gt, 0, none⟩) ln ct] 46)) none := World.grownBy_alloc w1 _ none
        have hb1 : BxAt w1 wr.heap.size ⟨gt, ct, b.xs⟩ := A1.out.1
        refine ⟨j + 1, by omega, by go_num, hide ⟨S' ++ [⟨gt, ct, b.xs⟩], by simp [f1], ?_, ?_, ?_⟩⟩
        · refine f2.snoc (grown_trans A1.out.2 gz) (hb1.grown gz) f4.size A2.out.2 ?_
          rw [f1]
          have := A2.out.1
          rw [HLN.out] at this
          exact this
        · rw [List.map_append, f3, take_snoc _ j b.xs (by rw [List.getElem?_map, fx]; rfl)]
          rfl
        · exact grown_then (grown_trans (grown_trans f4 A1.out.2) gz) A2.out.2 (fun b e => Or.inl (own_block HO.out b e).1)
    · have hj : j = n := by omega
      subst hj
      obtain ⟨ro, rcap, rfl, -, -, -⟩ := own_form u2.row
      have HX := hide (And.intro u1 (And.intro u2 (And.intro u3 u4)))
      clear u1 u2 u3 u4 HR hkj hk
      go_wp2
      go_ret
      obtain ⟨f1, f2, f3, f4⟩ := HX.out
      rw [f1] at f2 ⊢
      refine ⟨ro, rcap, S', rfl, f2, ?_, f4⟩
      rw [f3, List.take_of_length_le (by rw [List.length_map]; have := HH.out.2.2.1; omega)]
end Go.Proofs.Ytgcfjphjekkkmaa
