/- The document's books: Same. -/
import Derived.Test.YtinkkocleognbaaGreatDoorO8
namespace Go.Proofs.YtinkkocleognbaaGreatDoor
open Go.RowKit Go.Shelf
attribute [local go_sem ↓] Go.wp_at_zero Go.wp_at_succ
attribute [local go_sem] Oper.semAt_some
set_option maxRecDepth 100000 in
set_option maxHeartbeats 40000000 in
theorem dsame_any {w : World} {lo d lo' d' : Nat} {v v' : Value} {S S' : Sb} (h : Db w lo d v S) (h' : Db w lo' d' v' S') (ha : S'.a = S.a) (hb : S'.b = S.b) (hX : S.L.length ≤ 65536) : Calls Tryz.prog 51 #[.pointer (some ⟨d, 0, none⟩), .pointer (some ⟨d', 0, none⟩)] w fun e w' => e = .returned (.bool (sameS S S')) ∧ w.grownBy w' none := by
  obtain ⟨res, hres⟩ : ∃ res, res = sameS S S' := ⟨_, rfl⟩
  rw [← hres]
  have HRS : Hid (res = decide (S.n = S'.n ∧ S.t = S'.t ∧ S.L = S'.L)) := hres
  obtain ⟨ao, c, rfl, hx⟩ := h.bga.ex
  obtain ⟨bo, c', rfl, hy⟩ := h'.bga.ex
  have HC : Hid (∀ W, w.grownBy W none → (W.cell? ⟨d, 0, none⟩ = some (.bool true) ∧ W.cell? ⟨d, 1, none⟩ = some (.int .i64 (S.a : Int)) ∧ W.cell? ⟨d, 2, none⟩ = some (.int .i64 (S.b : Int)) ∧ W.cell? ⟨d, 4, none⟩ = some (.slice ao S.L.length c) ∧ W.cell? ⟨d, 5, none⟩ = some (.int .u32 (S.n : Int)) ∧ W.cell? ⟨d, 6, none⟩ = some (.int .i64 S.t)) ∧ (W.cell? ⟨d', 0, none⟩ = some (.bool true) ∧ W.cell? ⟨d', 1, none⟩ = some (.int .i64 (S.a : Int)) ∧ W.cell? ⟨d', 2, none⟩ = some (.int .i64 (S.b : Int)) ∧ W.cell? ⟨d', 4, none⟩ = some (.slice bo S'.L.length c') ∧ W.cell? ⟨d', 5, none⟩ = some (.int .u32 (S'.n : Int)) ∧ W.cell? ⟨d', 6, none⟩ = some (.int .i64 S'.t))) := fun W gW => ⟨⟨(h.then gW).cell rfl, (h.then gW).cell rfl, (h.then gW).cell rfl, (h.then gW).cell rfl, (h.then gW).cell rfl, (h.then gW).cell rfl⟩, (h'.then gW).cell rfl, by rw [← ha]; exact (h'.then gW).cell rfl, by rw [← hb]; exact (h'.then gW).cell rfl, (h'.then gW).cell rfl, (h'.then gW).cell rfl, (h'.then gW).cell rfl⟩
  obtain ⟨⟨a0, a1, a2, a4, a5, a6⟩, b0, b1, b2, b4, b5, b6⟩ := HC.out w (grown_refl _ _)
  have HA := hide (And.intro hx hy)
  have HXX := hide hX
  clear h h' ha hb hres hx hy hX
  generalize (S.a : Int) = A at *
  generalize (S.b : Int) = Bb at *
  by_cases hn : S.n = S'.n
  case neg =>
    have HZ : Hid (res = false) := HRS.out.trans (decide_eq_false (fun e => hn e.1))
    have hni : ¬ (S.n : Int) = (S'.n : Int) := by omega
    have hni1 : ((S.n : Int) == (S'.n : Int)) = false := by simpa using hni
    have hni2 : ((S.n : Int) != (S'.n : Int)) = true := by simpa using hni
    have hni3 : decide ((S.n : Int) = (S'.n : Int)) = false := by simpa using hni
    clear hn hni HC
    generalize (S.n : Int) = N1 at *
    generalize (S'.n : Int) = N2 at *
    go_enter Tryz.func51, Tryz.ntmps51
    go_wp2_with fail
    refine wp_region_quiet_lit (by kernel_rfl) (by kernel_rfl) ?_
    simp only [List.append]
    repeat (go_big_quiet_step (fail))
    refine wpQuiet_nil ?_
    intro _ hw'
    obtain ⟨nq, hw''⟩ := hw'
    subst hw''
    go_wp2
    go_ret
    exact ⟨by rw [HZ.out]; rfl, grown_drewN _ _ _⟩
  rw [← hn] at b5 HC
  by_cases ht : S.t = S'.t
  case neg =>
    have HZ : Hid (res = false) := HRS.out.trans (decide_eq_false (fun e => ht e.2.1))
    have ht1 : (S.t == S'.t) = false := by simpa using ht
    have ht2 : (S.t != S'.t) = true := by simpa using ht
    have ht3 : decide (S.t = S'.t) = false := by simpa using ht
    clear hn ht HC
    generalize S.t = N1 at *
    generalize S'.t = N2 at *
    generalize (S.n : Int) = N3 at *
    go_enter Tryz.func51, Tryz.ntmps51
    go_wp2_with fail
    refine wp_region_quiet_lit (by kernel_rfl) (by kernel_rfl) ?_
    simp only [List.append]
    repeat (go_big_quiet_step (fail))
    refine wpQuiet_nil ?_
    intro _ hw'
    obtain ⟨nq, hw''⟩ := hw'
    subst hw''
    go_wp2
    go_ret
    exact ⟨by rw [HZ.out]; rfl, grown_drewN _ _ _⟩
  rw [← ht] at b6 HC
  have HRL : Hid (res = decide (S.L = S'.L)) := by rw [HRS.out]; exact decide_eq_decide.2 ⟨fun e => e.2.2, fun e => ⟨hn, ht, e⟩⟩
  clear HRS
  generalize hX1 : S.L = X at *
  generalize hY1 : S'.L = Y at *
  clear hX1 hY1 hn ht
  generalize (S.n : Int) = N3 at *
  generalize S.t = N4 at *
  by_cases hl : X.length = Y.length
  case neg =>
    have HZ : Hid (res = false) := HRL.out.trans (decide_eq_false (fun e => hl (by rw [e])))
    have hli : ¬ (X.length : Int) = (Y.length : Int) := by omega
    have hli1 : ((X.length : Int) == (Y.length : Int)) = false := by simpa using hli
    have hli2 : ((X.length : Int) != (Y.length : Int)) = true := by simpa using hli
    have hli3 : decide ((X.length : Int) = (Y.length : Int)) = false := by simpa using hli
    have hl1 : (X.length == Y.length) = false := by simpa using hl
    have hl2 : (X.length != Y.length) = true := by simpa using hl
    have hl3 : decide (X.length = Y.length) = false := by simpa using hl
    clear hl hli HC HA
    generalize X.length = L1 at *
    generalize Y.length = L2 at *
    go_enter Tryz.func51, Tryz.ntmps51
    go_wp2_with fail
    refine wp_region_quiet_lit (by kernel_rfl) (by kernel_rfl) ?_
    simp only [List.append]
    repeat (go_big_quiet_step (fail))
    refine wpQuiet_nil ?_
    intro _ hw'
    obtain ⟨nq, hw''⟩ := hw'
    subst hw''
    go_wp2
    go_ret
    exact ⟨by rw [HZ.out]; rfl, grown_drewN _ _ _⟩
  have HY := hide hl
  rw [← hl] at b4 HC
  clear hl
  generalize hn : X.length = n at *
  have HN := hide hn
  clear hn
  go_enter Tryz.func51, Tryz.ntmps51
  go_wp2_with fail
  refine wp_region_quiet_lit (by kernel_rfl) (by kernel_rfl) ?_
  simp only [List.append]
  repeat (go_big_quiet_step (fail))
  refine wpQuiet_nil ?_
  intro _ hw'
  obtain ⟨nq, hw''⟩ := hw'
  subst hw''
  clear a0 a1 a2 a4 a5 a6 b0 b1 b2 b4 b5 b6
  go_wp2
  go_loopg [5] n (fun k i wr => ∃ j : Nat, k + j = n ∧ i = .int .i64 j ∧ Hid (w.grownBy wr none ∧ X.take j = Y.take j))
  case atStart => exact ⟨0, by omega, rfl, grown_drewN _ _ _, rfl⟩
  case round =>
    obtain ⟨j, hkj, rfl, HW⟩ := hrel
    obtain ⟨⟨-, -, -, a4, -, -⟩, -, -, -, b4, -, -⟩ := HC.out wr HW.out.1
    have hnb := HXX.out
    by_cases hk : 0 < gk
    · have hj : j < X.length := by have := HN.out; omega
      have hjn : j < n := by omega
      have hjy : j < Y.length := by have := HY.out; omega
      obtain ⟨a, rfl, x0, x1, x2⟩ := HA.out.1 j hjn
      obtain ⟨b, rfl, y0, y1, y2⟩ := HA.out.2 j hjy
      have g := HW.out.1
      have x0 := g.cell x0 (by simp)
      have x1 := g.cell x1 (by simp)
      have x2 := g.cell x2 (by simp)
      have y0 := g.cell y0 (by simp)
      have y1 := g.cell y1 (by simp)
      have y2 := g.cell y2 (by simp)
      have HG := hide g
      have h1 : (0 : Int) ≤ (j : Int) := by omega
      have h2 : (j : Int) < (n : Int) := by omega
      by_cases e : rd X j = rd Y j
      · have HT := hide (take_next hj hjy HW.out.2 e)
        rw [← e] at y0 y1 y2
        clear e g HW hj hjy hjn
        generalize ((rd X j).i : Int) = p at *
        generalize ((rd X j).s : Int) = q at *
        generalize (rd X j).u = r at *
        go_wp2
        go_quiet (fail)
        go_wp2
        go_roundg (gk - 1)
        case measure => omega
        case rel => exact ⟨j + 1, by omega, by go_num, grown_trans HG.out (grown_drewN _ _ _), HT.out⟩
      · have HD : Hid (res = false) := HRL.out.trans (decide_eq_false (rd_ne e))
        have hne : ¬ ((rd X j).i = (rd Y j).i ∧ (rd X j).s = (rd Y j).s ∧ (rd X j).u = (rd Y j).u) := fun h => e (Bg.ext' h.1 h.2.1 h.2.2)
        clear e g HW hj hjy hjn
        generalize (rd X j).i = p at *
        generalize (rd X j).s = q at *
        generalize (rd X j).u = r at *
        generalize (rd Y j).i = p' at *
        generalize (rd Y j).s = q' at *
        generalize (rd Y j).u = r' at *
        by_cases e1 : p = p'
        · subst e1
          by_cases e2 : q = q'
          · subst e2
            have e3 : ¬ r = r' := fun e3 => hne ⟨rfl, rfl, e3⟩
            have f1 : (r == r') = false := by simpa using e3
            have f2 : decide (r = r') = false := by simpa using e3
            clear hne
            go_wp2
            go_quiet (fail)
            go_wp2
            go_ret
            exact ⟨by rw [HD.out]; rfl, grown_trans HG.out (grown_drewN _ _ _)⟩
          · have f1 : ((q : Int) == (q' : Int)) = false := by simp; omega
            have f2 : decide ((q : Int) = (q' : Int)) = false := by simp; omega
            have f3 : (q == q') = false := by simpa using e2
            have f4 : decide (q = q') = false := by simpa using e2
            clear hne
            go_wp2
            go_quiet (fail)
            go_wp2
            go_ret
            exact ⟨by rw [HD.out]; rfl, grown_trans HG.out (grown_drewN _ _ _)⟩
        · have f1 : ((p : Int) == (p' : Int)) = false := by simp; omega
          have f2 : decide ((p : Int) = (p' : Int)) = false := by simp; omega
          have f3 : (p == p') = false := by simpa using e1
          have f4 : decide (p = p') = false := by simpa using e1
          clear hne
          go_wp2
          go_quiet (fail)
          go_wp2
          go_ret
          exact ⟨by rw [HD.out]; rfl, grown_trans HG.out (grown_drewN _ _ _)⟩
    · obtain rfl : j = n := by omega
      have HD : Hid (res = true) := by
        refine HRL.out.trans (decide_eq_true ?_)
        have := HW.out.2
        rw [List.take_of_length_le (by have := HN.out; omega), List.take_of_length_le (by have := HY.out; omega)] at this
        exact this
      have HG := hide HW.out.1
      clear HW hkj hk
      go_wp2
      go_ret
      exact ⟨by rw [HD.out]; rfl, HG.out⟩
end Go.Proofs.YtinkkocleognbaaGreatDoor
