/- Texts joined: JnAn. -/
import Derived.Test.YtinkkocleognbaaGreatDoorJuAm
import Derived.Test.YtinkkocleognbaaGreatDoorCards
import Derived.Test.YtinkkocleognbaaGreatDoorTie
import Derived.ProofKit
import Derived.OpenShut
import Derived.Deep.DeepHandedRow
import Derived.Lib.LaidTab
import Derived.ChangeOld
import Derived.SizedLaws
import Derived.Test.YtinkkocleognbaaGreatDoorJuAe
/- Texts joined: BkL, BkM, BkN, BkO, La, Rp0. -/
/- Rows of bookings, compared. -/
namespace Go.Proofs.YtinkkocleognbaaGreatDoor
open Go.RowKit
attribute [local go_sem ↓] Go.wp_at_zero Go.wp_at_succ
/-- Bookings that lie somewhere. -/
structure BgA (w : World) (v : Value) (X : List Bg) : Prop where
  ex : ∃ ao cap, v = .slice ao X.length cap ∧ ∀ i, i < X.length → ∃ g, ao = some ⟨g, 0, none⟩ ∧ w.cell? ⟨g, i * 3, none⟩ = some (.int .u32 ((rd X i).i : Int)) ∧ w.cell? ⟨g, i * 3 + 1, none⟩ = some (.int .i64 ((rd X i).s : Int)) ∧ w.cell? ⟨g, i * 3 + 2, none⟩ = some (.int .i64 (rd X i).u)
theorem BgA.then {w w' : World} {v : Value} {X : List Bg} (h : BgA w v X) (g : w.grownBy w' none) : BgA w' v X := by
  obtain ⟨ao, cap, h1, h2⟩ := h.ex
  refine ⟨ao, cap, h1, fun i hi => ?_⟩
  obtain ⟨a, e, c0, c1, c2⟩ := h2 i hi
  exact ⟨a, e, g.cell c0 (by simp), g.cell c1 (by simp), g.cell c2 (by simp)⟩
theorem BgA.own {w : World} {b : Nat} {v : Value} {X : List Bg} (h : w.ownsRow b 108 3 v X.length (bgs X)) : BgA w v X := by
  obtain ⟨vo, vcap, rfl, hle⟩ := Ix.own_form h
  refine ⟨vo, vcap, rfl, fun i hi => ?_⟩
  obtain ⟨q, c, cur, e1, e2, e3, e4, e5, e6, e7⟩ := Ix.own_row h (by omega)
  cases e1
  obtain ⟨b1, b2, b3⟩ := bgs_get hi
  refine ⟨_, rfl, ?_, ?_, ?_⟩
  · exact Ix.own_cell e3 e7 b1
  · exact Ix.own_cell e3 e7 b2
  · exact Ix.own_cell e3 e7 b3
theorem BgA.nil (w : World) : BgA w (.slice none 0 0) [] := ⟨none, 0, rfl, fun i hi => by simp at hi⟩
theorem take_all {X Y : List Bg} (hl : X.length = Y.length) (h : X.take X.length = Y.take X.length) : X = Y := by
  rw [List.take_length, hl, List.take_length] at h; exact h
theorem take_next {X Y : List Bg} {j : Nat} (hx : j < X.length) (hy : j < Y.length) (h : X.take j = Y.take j) (e : rd X j = rd Y j) : X.take (j + 1) = Y.take (j + 1) := by
  rw [← take_rd hx, ← take_rd hy, h, e]
theorem rd_ne {X Y : List Bg} {j : Nat} (h : rd X j ≠ rd Y j) : X ≠ Y := fun e => h (by rw [e])
set_option maxHeartbeats 4000000 in
theorem equal_any {w : World} {v u : Value} {X Y : List Bg} (hv : BgA w v X) (hu : BgA w u Y) (hX : X.length ≤ 65536) : Calls Tryz.prog 66 #[v, u] w fun e w' => e = .returned (.bool (decide (X = Y))) ∧ w.grownBy w' none := by
  obtain ⟨ao, c, rfl, hx⟩ := hv.ex
  obtain ⟨bo, d, rfl, hy⟩ := hu.ex
  clear hv hu
  by_cases hl : X.length = Y.length
  · have HA := hide (And.intro hx (And.intro hy hl))
    clear hx hy
    rw [← hl]
    obtain ⟨res, hres⟩ : ∃ res, decide (X = Y) = res := ⟨_, rfl⟩
    rw [hres]
    have HRes := hide hres
    clear hres hl
    generalize hn : X.length = n at *
    have HN := hide hn
    clear hn
    go_enter Tryz.func66, Tryz.ntmps66
    go_wp2
    go_loopg [13] n (fun k i wr => ∃ j : Nat, k + j = n ∧ i = .int .i64 j ∧ Hid (w.grownBy wr none ∧ X.take j = Y.take j))
    case atStart => exact ⟨0, by omega, rfl, grown_refl _ _, rfl⟩
    case round =>
      obtain ⟨j, hkj, rfl, HW⟩ := hrel
      by_cases hk : 0 < gk
      · have hj : j < X.length := by rw [HN.out]; omega
        have hjy : j < Y.length := by have := HA.out.2.2; omega
        obtain ⟨a, rfl, x0, x1, x2⟩ := HA.out.1 j (by omega)
        obtain ⟨b, rfl, y0, y1, y2⟩ := HA.out.2.1 j hjy
        have g := HW.out.1
        have x0 := g.cell x0 (by simp)
        have x1 := g.cell x1 (by simp)
        have x2 := g.cell x2 (by simp)
        have y0 := g.cell y0 (by simp)
        have y1 := g.cell y1 (by simp)
        have y2 := g.cell y2 (by simp)
        have HG := hide g
        have h1 : (0 : Int) ≤ (j : Int) := by omega
        have h2 : (j : Int) < (n : Int) := by omega
        by_cases e : rd X j = rd Y j
        · have HT := hide (take_next hj hjy HW.out.2 e)
          rw [← e] at y0 y1 y2
          clear e g HW hj hjy
          generalize ((rd X j).i : Int) = p at *
          generalize ((rd X j).s : Int) = q at *
          generalize (rd X j).u = r at *
          go_wp2
          go_quiet (fail)
          go_wp2
          go_roundg (gk - 1)
          case measure => omega
          case rel => exact ⟨j + 1, by omega, by go_num, grown_trans HG.out (grown_drewN _ _ _), HT.out⟩
        · have HD : Hid (res = false) := by rw [← HRes.out, decide_eq_false (rd_ne e)]; rfl
          have hne : ¬ ((rd X j).i = (rd Y j).i ∧ (rd X j).s = (rd Y j).s ∧ (rd X j).u = (rd Y j).u) := fun h => e (Bg.ext' h.1 h.2.1 h.2.2)
          clear e g HW hj hjy
          generalize (rd X j).i = p at *
          generalize (rd X j).s = q at *
          generalize (rd X j).u = r at *
          generalize (rd Y j).i = p' at *
          generalize (rd Y j).s = q' at *
          generalize (rd Y j).u = r' at *
          by_cases e1 : p = p'
          · subst e1
            by_cases e2 : q = q'
            · subst e2
              have e3 : ¬ r = r' := fun e3 => hne ⟨rfl, rfl, e3⟩
              have f1 : (r == r') = false := by simpa using e3
              have f2 : decide (r = r') = false := by simpa using e3
              clear hne
              go_wp2
              go_quiet (fail)
              go_wp2
              go_ret
              exact ⟨by rw [HD.out]; rfl, grown_trans HG.out (grown_drewN _ _ _)⟩
            · have f1 : ((q : Int) == (q' : Int)) = false := by simp; omega
              have f2 : decide ((q : Int) = (q' : Int)) = false := by simp; omega
              clear hne
              go_wp2
              go_quiet (fail)
              go_wp2
              go_ret
              exact ⟨by rw [HD.out]; rfl, grown_trans HG.out (grown_drewN _ _ _)⟩
          · have f1 : ((p : Int) == (p' : Int)) = false := by simp; omega
            have f2 : decide ((p : Int) = (p' : Int)) = false := by simp; omega
            clear hne
            go_wp2
            go_quiet (fail)
            go_wp2
            go_ret
            exact ⟨by rw [HD.out]; rfl, grown_trans HG.out (grown_drewN _ _ _)⟩
      · have hj : j = n := by omega
        subst hj
        have HD : Hid (res = true) := by
          rw [← HRes.out]
          exact decide_eq_true (take_all (HN.out.trans HA.out.2.2) (by rw [HN.out]; exact HW.out.2))
        go_wp2
        go_ret
        exact ⟨by rw [HD.out]; rfl, HW.out.1⟩
  · rw [decide_eq_false (fun e => hl (by rw [e]))]
    have f1 : ((X.length : Int) == (Y.length : Int)) = false := by simp; omega
    have f2 : decide ((X.length : Int) = (Y.length : Int)) = false := by simp; omega
    generalize X.length = n at *
    generalize Y.length = m at *
    clear hx hy
    go_enter Tryz.func66, Tryz.ntmps66
    go_wp2
    go_ret
    exact ⟨rfl, grown_refl _ _⟩
set_option maxHeartbeats 4000000 in
theorem sameBk_any {w : World} {v u : Value} {X Y : List Bg} (hv : BgA w v X) (hu : BgA w u Y) (hX : X.length ≤ 65536) : Calls Tryz.prog 49 #[v, u] w fun e w' => e = .returned (.bool (decide (X = Y))) ∧ w.grownBy w' none := by
  obtain ⟨ao, c, rfl, hx⟩ := hv.ex
  obtain ⟨bo, d, rfl, hy⟩ := hu.ex
  clear hv hu
  by_cases hl : X.length = Y.length
  · have HA := hide (And.intro hx (And.intro hy hl))
    clear hx hy
    rw [← hl]
    obtain ⟨res, hres⟩ : ∃ res, decide (X = Y) = res := ⟨_, rfl⟩
    rw [hres]
    have HRes := hide hres
    clear hres hl
    generalize hn : X.length = n at *
    have HN := hide hn
    clear hn
    go_enter Tryz.func49, Tryz.ntmps49
    go_wp2
    go_loopg [5] n (fun k i wr => ∃ j : Nat, k + j = n ∧ i = .int .i64 j ∧ Hid (w.grownBy wr none ∧ X.take j = Y.take j))
    case atStart => exact ⟨0, by omega, rfl, grown_refl _ _, rfl⟩
    case round =>
      obtain ⟨j, hkj, rfl, HW⟩ := hrel
      by_cases hk : 0 < gk
      · have hj : j < X.length := by rw [HN.out]; omega
        have hjy : j < Y.length := by have := HA.out.2.2; omega
        obtain ⟨a, rfl, x0, x1, x2⟩ := HA.out.1 j (by omega)
        obtain ⟨b, rfl, y0, y1, y2⟩ := HA.out.2.1 j hjy
        have g := HW.out.1
        have x0 := g.cell x0 (by simp)
        have x1 := g.cell x1 (by simp)
        have x2 := g.cell x2 (by simp)
        have y0 := g.cell y0 (by simp)
        have y1 := g.cell y1 (by simp)
        have y2 := g.cell y2 (by simp)
        have HG := hide g
        have h1 : (0 : Int) ≤ (j : Int) := by omega
        have h2 : (j : Int) < (n : Int) := by omega
        by_cases e : rd X j = rd Y j
        · have HT := hide (take_next hj hjy HW.out.2 e)
          rw [← e] at y0 y1 y2
          clear e g HW hj hjy
          generalize ((rd X j).i : Int) = p at *
          generalize ((rd X j).s : Int) = q at *
          generalize (rd X j).u = r at *
          go_wp2
          go_quiet (fail)
          go_wp2
          go_roundg (gk - 1)
          case measure => omega
          case rel => exact ⟨j + 1, by omega, by go_num, grown_trans HG.out (grown_drewN _ _ _), HT.out⟩
        · have HD : Hid (res = false) := by rw [← HRes.out, decide_eq_false (rd_ne e)]; rfl
          have hne : ¬ ((rd X j).i = (rd Y j).i ∧ (rd X j).s = (rd Y j).s ∧ (rd X j).u = (rd Y j).u) := fun h => e (Bg.ext' h.1 h.2.1 h.2.2)
          clear e g HW hj hjy
          generalize (rd X j).i = p at *
          generalize (rd X j).s = q at *
          generalize (rd X j).u = r at *
          generalize (rd Y j).i = p' at *
          generalize (rd Y j).s = q' at *
          generalize (rd Y j).u = r' at *
          by_cases e1 : p = p'
          · subst e1
            by_cases e2 : q = q'
            · subst e2
              have e3 : ¬ r = r' := fun e3 => hne ⟨rfl, rfl, e3⟩
              have f1 : (r == r') = false := by simpa using e3
              have f2 : decide (r = r') = false := by simpa using e3
              clear hne
              go_wp2
              go_quiet (fail)
              go_wp2
              go_ret
              exact ⟨by rw [HD.out]; rfl, grown_trans HG.out (grown_drewN _ _ _)⟩
            · have f1 : ((q : Int) == (q' : Int)) = false := by simp; omega
              have f2 : decide ((q : Int) = (q' : Int)) = false := by simp; omega
              clear hne
              go_wp2
              go_quiet (fail)
              go_wp2
              go_ret
              exact ⟨by rw [HD.out]; rfl, grown_trans HG.out (grown_drewN _ _ _)⟩
          · have f1 : ((p : Int) == (p' : Int)) = false := by simp; omega
            have f2 : decide ((p : Int) = (p' : Int)) = false := by simp; omega
            clear hne
            go_wp2
            go_quiet (fail)
            go_wp2
            go_ret
            exact ⟨by rw [HD.out]; rfl, grown_trans HG.out (grown_drewN _ _ _)⟩
      · have hj : j = n := by omega
        subst hj
        have HD : Hid (res = true) := by
          rw [← HRes.out]
          exact decide_eq_true (take_all (HN.out.trans HA.out.2.2) (by rw [HN.out]; exact HW.out.2))
        go_wp2
        go_ret
        exact ⟨by rw [HD.out]; rfl, HW.out.1⟩
  · rw [decide_eq_false (fun e => hl (by rw [e]))]
    have f1 : ((X.length : Int) == (Y.length : Int)) = false := by simp; omega
    have f2 : decide ((X.length : Int) = (Y.length : Int)) = false := by simp; omega
    generalize X.length = n at *
    generalize Y.length = m at *
    clear hx hy
    go_enter Tryz.func49, Tryz.ntmps49
    go_wp2
    go_ret
    exact ⟨rfl, grown_refl _ _⟩
end Go.Proofs.YtinkkocleognbaaGreatDoor
/- What a book is asked. -/
namespace Go.Proofs.YtinkkocleognbaaGreatDoor
open Go.RowKit
attribute [local go_sem ↓] Go.wp_at_zero Go.wp_at_succ
attribute [local go_sem] Oper.semAt_some
section
variable {w w' W : World} {p q : Bp} {S S' : Sb} {K K' : Nat}
set_option maxHeartbeats 4000000 in
theorem len_any (h : BkAt w p S K) : Calls Tryz.prog 43 #[.pointer (some ⟨p.b, 0, none⟩)] w fun e w' => e = .returned (.int .i64 (S.L.length : Int)) ∧ w' = w := by
  have HC1 := hide h.isNone
  have HC2 := hide h.len
  have c8 := h.cells 8 _ rfl
  clear h
  go_enter Tryz.func43, Tryz.ntmps43
  go_wp2_with fail
  refine HC1.out.mono ?_
  rintro e w1 ⟨rfl, rfl⟩
  go_wp2_with fail
  refine HC2.out.mono ?_
  rintro e w2 ⟨rfl, rfl⟩
  go_wp2
  go_ret
  exact ⟨rfl, rfl⟩
set_option maxHeartbeats 4000000 in
theorem next_any (h : BkAt w p S K) : Calls Tryz.prog 47 #[.pointer (some ⟨p.b, 0, none⟩)] w fun e w' => e = .returned (.int .u32 (S.n : Int)) ∧ w' = w := by
  have HC1 := hide h.isNone
  have c8 := h.cells 4 _ rfl
  clear h
  go_enter Tryz.func47, Tryz.ntmps47
  go_wp2_with fail
  refine HC1.out.mono ?_
  rintro e w1 ⟨rfl, rfl⟩
  go_wp2
  go_ret
  exact ⟨rfl, rfl⟩
set_option maxHeartbeats 4000000 in
theorem clock_any (h : BkAt w p S K) : Calls Tryz.prog 48 #[.pointer (some ⟨p.b, 0, none⟩)] w fun e w' => e = .returned (.int .i64 S.t) ∧ w' = w := by
  have HC1 := hide h.isNone
  have c8 := h.cells 5 _ rfl
  clear h
  go_enter Tryz.func48, Tryz.ntmps48
  go_wp2_with fail
  refine HC1.out.mono ?_
  rintro e w1 ⟨rfl, rfl⟩
  go_wp2
  go_ret
  exact ⟨rfl, rfl⟩
/-- What stands at a seat that is taken. -/
theorem BkAt.seat (h : BkAt w p S K) (hw : S.Wk) {s : Nat} {x : Bg} (hx : sat S.L s = some x) : w.cell? ⟨p.sg, s * 3, none⟩ = some (.int .u32 (x.i : Int)) ∧ w.cell? ⟨p.sg, s * 3 + 1, none⟩ = some (.int .i64 (x.s : Int)) ∧ w.cell? ⟨p.sg, s * 3 + 2, none⟩ = some (.int .i64 x.u) := by
  obtain ⟨Lb, R, M, E, T, N, B, C, h, hR, hN⟩ := h
  obtain ⟨hm, hs⟩ := (sat_some hw.one).1 hx
  have h1 := hR.rw x hm
  rw [hs] at h1
  have h2 : s < R.length := by
    apply Classical.byContradiction
    intro hn
    rw [List.getElem?_eq_none (by omega)] at h1
    cases h1
  have h3 : rd R s = x := by unfold rd; rw [h1]; rfl
  have h4 := h.fd.seat h2
  rw [h3] at h4
  exact h4
end
end Go.Proofs.YtinkkocleognbaaGreatDoor
/- Books that are the same; a new one. -/
namespace Go.Proofs.YtinkkocleognbaaGreatDoor
open Go.RowKit
attribute [local go_sem ↓] Go.wp_at_zero Go.wp_at_succ
attribute [local go_sem] Oper.semAt_some
theorem isLike_eq (a b c c' : Nat) (w : World) : Calls Tryz.prog 65 #[limV a b c, limV a b c'] w fun e w' => e = .returned (.bool true) ∧ w.grownBy w' none := by
  unfold limV
  generalize (a : Int) = a
  generalize (b : Int) = b
  generalize (c : Int) = c
  generalize (c' : Int) = c'
  go_enter Tryz.func65, Tryz.ntmps65
  go_wp2
  go_ret
  exact ⟨rfl, grown_trans (grown_alloc _ _) (grown_alloc _ _)⟩
set_option maxHeartbeats 8000000 in
theorem same_eq {w : World} {p q : Bp} {S : Sb} {K K' : Nat} (hp : BkAt w p S K) (hq : BkAt w q S K') (hw : S.Wk) : Calls Tryz.prog 34 #[.pointer (some ⟨p.b, 0, none⟩), .pointer (some ⟨q.b, 0, none⟩)] w fun e w' => e = .returned (.bool true) ∧ w.grownBy w' none := by
  have HN1 := hide hp.isNone
  have HN2 := hide hq.isNone
  have HL : Hid (∀ W, Calls Tryz.prog 65 #[limV S.a S.b S.c, limV S.a S.b S.c] W fun e w' => e = .returned (.bool true) ∧ W.grownBy w' none) := fun W => isLike_eq _ _ _ _ W
  have HB1 : Hid (∀ W, w.grownBy W none → Calls Tryz.prog 67 #[.pointer (some ⟨p.b, 0, none⟩)] W fun e w' => ∃ v, e = .returned v ∧ BgA w' v S.L ∧ W.grownBy w' none) := by
    intro W hW
    refine (bookings_any (hp.then hW) hw).mono ?_
    rintro e w' ⟨v, rfl, h1, h2⟩
    exact ⟨v, rfl, BgA.own h1, h2⟩
  have HB2 : Hid (∀ W, w.grownBy W none → Calls Tryz.prog 67 #[.pointer (some ⟨q.b, 0, none⟩)] W fun e w' => ∃ v, e = .returned v ∧ BgA w' v S.L ∧ W.grownBy w' none) := by
    intro W hW
    refine (bookings_any (hq.then hW) hw).mono ?_
    rintro e w' ⟨v, rfl, h1, h2⟩
    exact ⟨v, rfl, BgA.own h1, h2⟩
  have HE : Hid (∀ W v u, BgA W v S.L → BgA W u S.L → Calls Tryz.prog 66 #[v, u] W fun e w' => e = .returned (.bool true) ∧ W.grownBy w' none) := by
    intro W v u h1 h2
    have := equal_any h1 h2 (by have := hw.few; have := hw.b1; omega)
    rw [decide_eq_true rfl] at this
    exact this
  have HK : Hid (∀ W, w.grownBy W none → (W.cell? ⟨p.b, 0, none⟩ = some (.int .i64 (S.a : Int)) ∧ W.cell? ⟨p.b, 1, none⟩ = some (.int .i64 (S.b : Int)) ∧ W.cell? ⟨p.b, 2, none⟩ = some (.int .i64 (S.c : Int)) ∧ W.cell? ⟨p.b, 4, none⟩ = some (.int .u32 (S.n : Int)) ∧ W.cell? ⟨p.b, 5, none⟩ = some (.int .i64 S.t)) ∧ W.cell? ⟨q.b, 0, none⟩ = some (.int .i64 (S.a : Int)) ∧ W.cell? ⟨q.b, 1, none⟩ = some (.int .i64 (S.b : Int)) ∧ W.cell? ⟨q.b, 2, none⟩ = some (.int .i64 (S.c : Int)) ∧ W.cell? ⟨q.b, 4, none⟩ = some (.int .u32 (S.n : Int)) ∧ W.cell? ⟨q.b, 5, none⟩ = some (.int .i64 S.t)) := fun W hW =>
    ⟨⟨(hp.then hW).cells 0 _ rfl, (hp.then hW).cells 1 _ rfl, (hp.then hW).cells 2 _ rfl, (hp.then hW).cells 4 _ rfl, (hp.then hW).cells 5 _ rfl⟩, (hq.then hW).cells 0 _ rfl, (hq.then hW).cells 1 _ rfl, (hq.then hW).cells 2 _ rfl, (hq.then hW).cells 4 _ rfl, (hq.then hW).cells 5 _ rfl⟩
  have hK0 := HK.out w (grown_refl _ _)
  clear hp hq hw
  unfold limV at HL
  generalize (S.a : Int) = a at *
  generalize (S.b : Int) = b at *
  generalize (S.c : Int) = c at *
  generalize (S.n : Int) = n at *
  generalize S.t = t at *
  go_enter Tryz.func34, Tryz.ntmps34
  go_wp2_with fail
  refine HN1.out.mono ?_
  rintro e w1 ⟨rfl, rfl⟩
  go_wp2_with fail
  refine HN2.out.mono ?_
  rintro e w2 ⟨rfl, rfl⟩
  go_wp2
  go_region_held3 (fun W => (W.cell? ⟨p.b, 0, none⟩ = some (.int .i64 a) ∧ W.cell? ⟨p.b, 1, none⟩ = some (.int .i64 b) ∧ W.cell? ⟨p.b, 2, none⟩ = some (.int .i64 c) ∧ W.cell? ⟨p.b, 4, none⟩ = some (.int .u32 n) ∧ W.cell? ⟨p.b, 5, none⟩ = some (.int .i64 t)) ∧ W.cell? ⟨q.b, 0, none⟩ = some (.int .i64 a) ∧ W.cell? ⟨q.b, 1, none⟩ = some (.int .i64 b) ∧ W.cell? ⟨q.b, 2, none⟩ = some (.int .i64 c) ∧ W.cell? ⟨q.b, 4, none⟩ = some (.int .u32 n) ∧ W.cell? ⟨q.b, 5, none⟩ = some (.int .i64 t)) (first | assumption | exact hK0)
    ((first
      | (go_at_call 65; refine (HL.out _).mono ?_; rintro e w3 ⟨rfl, hg3⟩; have g3 := grown_trans (grown_drew _ none) hg3; have hK3 := HK.out _ g3)
      | (go_at_call_of 67 (Value.pointer (some ⟨p.b, 0, none⟩)); refine (HB1.out _ g3).mono ?_; rintro e w4 ⟨v, rfl, hv4, hg4⟩; have g4 := grown_trans g3 hg4; have hK4 := HK.out _ g4)
      | (go_at_call_of 67 (Value.pointer (some ⟨q.b, 0, none⟩)); refine (HB2.out _ g4).mono ?_; rintro e w5 ⟨u, rfl, hu5, hg5⟩; have g5 := grown_trans g4 hg5; have hK5 := HK.out _ g5; have hv5 := hv4.then hg5)
      | (go_at_call 66; refine (HE.out _ _ _ hv5 hu5).mono ?_; rintro e w6 ⟨rfl, hg6⟩; have g6 := grown_trans g5 hg6; have hK6 := HK.out _ g6)))
  go_wp2
  go_ret
  exact ⟨rfl, g6⟩
set_option maxHeartbeats 4000000 in
theorem new_ok (a b c : Nat) (h : Gx.OkS a b c) (w : World) (hz : 0 < w.heap.size) : Calls Tryz.prog 38 #[limV a b c] w fun e w' => ∃ p, e = .returned (.tuple #[.pointer (some ⟨p.b, 0, none⟩), .int .i64 0]) ∧ BkAt w' p ⟨a, b, c, 1, 0, []⟩ 0 ∧ w.grownBy w' none ∧ (∀ i, p.own i → w.heap.size ≤ i) := by
  have HC1 : Hid (∀ W : World, Calls Tryz.prog 71 #[.agg #[.int .i64 (a : Int), .int .i64 (b : Int), .int .i64 (c : Int)]] W fun e w' => e = .returned (.int .i64 0) ∧ W.grownBy w' none) := fun W => Ge.check_ok _ _ _ h W
  have HC2 : Hid (∀ W : World, w.grownBy W none → Calls Tryz.prog 72 #[.agg #[.int .i64 (a : Int), .int .i64 (b : Int), .int .i64 (c : Int)], .int .u32 1, .int .i64 0] W fun e w' => ∃ p, e = .returned (.pointer (some ⟨p.b, 0, none⟩)) ∧ BkAt w' p ⟨a, b, c, 1, 0, []⟩ 0 ∧ w.grownBy w' none ∧ (∀ i, p.own i → w.heap.size ≤ i)) := by
    intro W hW
    refine (empty_any a b c 1 0 h W (by have := hW.size; omega)).mono ?_
    rintro e w' ⟨p, rfl, h1, h2, h3⟩
    exact ⟨p, rfl, h1, grown_trans hW h2, fun i hi => Nat.le_trans hW.size (h3 i hi)⟩
  have hb0 := heap_alloc_new w (.cells [.int .i64 (a : Int), .int .i64 (b : Int), .int .i64 (c : Int)].toArray 23)
  have HB0 := hide hb0
  clear h hz hb0
  unfold limV
  go_enter Tryz.func38, Tryz.ntmps38
  go_wp2_with fail
  refine (HC1.out _).mono ?_
  rintro e w1 ⟨rfl, hg1⟩
  have hg0 := grown_trans (grown_alloc w _) hg1
  obtain ⟨d0, d1, d2, -⟩ := box3 ((hg1.block _ (row_lt HB0.out) (by simp)).trans HB0.out)
  go_wp2_with fail
  refine (HC2.out _ hg0).mono ?_
  rintro e w2 ⟨p, rfl, h1, h2, h3⟩
  have HH := hide (And.intro h1 (And.intro h2 h3))
  clear h1 h2 h3
  go_wp2
  go_ret2
  exact ⟨p, rfl, HH.out⟩
end Go.Proofs.YtinkkocleognbaaGreatDoor
/- A book in the midst of a law: beside boxes of the law's own. -/
namespace Go.Proofs.YtinkkocleognbaaGreatDoor
open Go.RowKit
attribute [local go_sem ↓] Go.wp_at_zero Go.wp_at_succ
attribute [local go_sem] Oper.semAt_some
/-- A book at b, made since w, beside boxes. -/
structure Lk (w W : World) (b : Nat) (S : Sb) (K : Nat) (p : Bp) (Bs : List (Nat × List Value × TypeId)) : Prop where
  eb : p.b = b
  bk : BkAt W p S K
  gr : w.grownBy W none
  own : ∀ i, p.own i → w.heap.size ≤ i
  bx : ∀ x ∈ Bs, W.heap[x.1]? = some (.cells x.2.1.toArray x.2.2 (0, 0)) ∧ ¬ p.own x.1 ∧ w.heap.size ≤ x.1
section
variable {w W W' : World} {b : Nat} {S S' : Sb} {K K' : Nat} {p q : Bp} {Bs : List (Nat × List Value × TypeId)}
theorem Lk.kept (h : Lk w W b S K p Bs) (k : Kept W W' p.own) : w.grownBy W' none :=
  ((Kept.new h.gr (fun i => w.heap.size ≤ i)).trans k (fun i _ e => h.own i e)).grown (fun i hi e => by omega)
theorem Lk.step (h : Lk w W b S K p Bs) (k : Bst W W' p q) (hb : BkAt W' q S' K') : Lk w W' b S' K' q Bs :=
  ⟨k.b.trans h.eb, hb, h.kept k.kept, fun i hi => by
    rcases k.own i hi with e | e
    · exact h.own i e
    · exact Nat.le_trans h.gr.size e, fun x hx => by
    obtain ⟨h1, h2, h3⟩ := h.bx x hx
    refine ⟨k.kept.at h1 h2, fun e => ?_, h3⟩
    rcases k.own _ e with e | e
    · exact h2 e
    · have := row_lt h1; omega⟩
theorem Lk.then (h : Lk w W b S K p Bs) (g : W.grownBy W' none) : Lk w W' b S K p Bs := h.step (Bst.grown g p) (h.bk.then g)
theorem Lk.drew (h : Lk w W b S K p Bs) : Lk w W.drew b S K p Bs := h.then (grown_drew W none)
theorem Lk.box (h : Lk w W b S K p Bs) (cs : List Value) (ty : TypeId) : Lk w (W.alloc (.cells cs.toArray ty)) b S K p ((W.heap.size, cs, ty) :: Bs) := by
  have h1 := h.then (grown_alloc W (.cells cs.toArray ty))
  refine ⟨h1.eb, h1.bk, h1.gr, h1.own, fun x hx => ?_⟩
  rcases List.mem_cons.1 hx with rfl | hx
  · exact ⟨heap_alloc_new W _, fun e => Nat.lt_irrefl _ (h.bk.lt _ e), h.gr.size⟩
  · exact h1.bx x hx
theorem Lk.sub {Cs : List (Nat × List Value × TypeId)} (h : Lk w W b S K p Bs) (hs : ∀ x ∈ Cs, x ∈ Bs) : Lk w W b S K p Cs := ⟨h.eb, h.bk, h.gr, h.own, fun x hx => h.bx x (hs x hx)⟩
theorem Lk.bare (h : Lk w W b S K p Bs) : Lk w W b S K p [] := h.sub (fun x hx => by cases hx)
theorem Lk.more (h : Lk w W b S K p Bs) (hk : K ≤ K') : Lk w W b S K' p Bs := ⟨h.eb, h.bk.mono hk, h.gr, h.own, h.bx⟩
theorem Lk.put {X : Nat} {cs : List Value} {ty : TypeId} (h : Lk w W b S K p [(X, cs, ty)]) (j : Nat) (v : Value) : Lk w (W.setCell ⟨X, j, none⟩ v) b S K p [(X, cs.set j v, ty)] := by
  obtain ⟨h1, h2, h3⟩ := h.bx (X, cs, ty) (by simp)
  refine ⟨h.eb, h.bk.far (kept_setCell W X j v) (fun i hi e => h2 (by rw [← e]; exact hi)), grown_then h.gr (grown_setCell W X j v) (fun i e => .inl (by cases e; exact h3)), h.own, fun x hx => ?_⟩
  simp only [List.mem_singleton] at hx
  subst hx
  exact ⟨row_setCell h1 j v, h2, h3⟩
theorem Lk.cell {X : Nat} {cs : List Value} {ty : TypeId} (h : Lk w W b S K p Bs) (hm : (X, cs, ty) ∈ Bs) (j : Nat) (v : Value) (hv : cs[j]? = some v) : W.cell? ⟨X, j, none⟩ = some v := by
  rw [cell_row (h.bx _ hm).1]; exact hv
theorem Lk.free {X : Nat} {cs : List Value} {ty : TypeId} (h : Lk w W b S K p Bs) (hm : (X, cs, ty) ∈ Bs) (j : Nat) : W.frozen? ⟨X, j, none⟩ = false := free_row (h.bx _ hm).1 j
theorem Lk.apply (h : Lk w W b S K p Bs) (ho : S.Ok) (hK : K ≤ 10000000) (hT : Rk.Tab w) (r : Rc) (hr : r.Ok) : Calls Tryz.prog 39 #[.pointer (some ⟨b, 0, none⟩), Rk.rcV r] W fun e w' => e = .returned (.int .i64 (appE S r)) ∧ ∃ q, Lk w w' b (app S r) (K + 1) q Bs ∧ Bst W w' p q := by
  have := apply_any h.bk ho hK r hr (hT.grown h.gr (by simp))
  rw [h.eb] at this
  refine this.mono ?_
  rintro e w' ⟨rfl, q, h1, h2⟩
  exact ⟨rfl, q, h.step h2 h1, h2⟩
theorem Lk.len (h : Lk w W b S K p Bs) : Calls Tryz.prog 43 #[.pointer (some ⟨b, 0, none⟩)] W fun e w' => e = .returned (.int .i64 (S.L.length : Int)) ∧ w' = W := by
  have := len_any h.bk; rw [h.eb] at this; exact this
theorem Lk.next (h : Lk w W b S K p Bs) : Calls Tryz.prog 47 #[.pointer (some ⟨b, 0, none⟩)] W fun e w' => e = .returned (.int .u32 (S.n : Int)) ∧ w' = W := by
  have := next_any h.bk; rw [h.eb] at this; exact this
theorem Lk.all (h : Lk w W b S K p Bs) (hw : S.Wk) : Calls Tryz.prog 78 #[.pointer (some ⟨b, 0, none⟩)] W fun e w' => ∃ u, e = .returned u ∧ VlV w' W.heap.size u S.L ∧ Lk w w' b S K p Bs := by
  have := all_any h.bk hw; rw [h.eb] at this
  refine this.mono ?_
  rintro e w' ⟨u, rfl, h1, h2⟩
  exact ⟨u, rfl, h1, h.then h2⟩
end
theorem new_lk (a b c : Nat) (h : Gx.OkS a b c) (w : World) (hz : 0 < w.heap.size) : Calls Tryz.prog 38 #[limV a b c] w fun e w' => ∃ x p, e = .returned (.tuple #[.pointer (some ⟨x, 0, none⟩), .int .i64 0]) ∧ Lk w w' x ⟨a, b, c, 1, 0, []⟩ 0 p [] := by
  refine (new_ok a b c h w hz).mono ?_
  rintro e w' ⟨p, rfl, h1, h2, h3⟩
  exact ⟨p.b, p, rfl, rfl, h1, h2, h3, fun x hx => by cases hx⟩
theorem Sb.Ok.new {a b c : Nat} (h : Gx.OkS a b c) : Sb.Ok ⟨a, b, c, 1, 0, []⟩ := by
  obtain ⟨h1, h2, h3, h4, h5, h6⟩ := h
  exact ⟨by simp only; omega, by simp only; omega, by simp only; omega, by simp only; omega, by simp only; omega, by simp only; omega, by simp only; omega, by simp only; omega, by simp only; omega, by simp only [mxC]; omega, List.Pairwise.nil, (fun x hx => by cases hx), (fun x hx => by cases hx), List.Pairwise.nil, (fun x hx => by cases hx), by simp⟩
/-- Records that lie somewhere. -/
def RecsAt (w : World) (ao : Option Addr) (rs : List Rc) : Prop := ∀ j r, rs[j]? = some r → ∃ blk off, ao = some (⟨blk, off, none⟩ : Addr) ∧ w.cell? ⟨blk, off + j * 5, none⟩ = some (.int .i64 r.k) ∧ w.cell? ⟨blk, off + j * 5 + 1, none⟩ = some (.int .u32 r.i) ∧ w.cell? ⟨blk, off + j * 5 + 2, none⟩ = some (.int .i64 r.s) ∧ w.cell? ⟨blk, off + j * 5 + 3, none⟩ = some (.int .i64 r.u) ∧ w.cell? ⟨blk, off + j * 5 + 4, none⟩ = some (.int .i64 r.c)
theorem RecsAt.grown {w w' : World} {ao : Option Addr} {os : List Rc} (h : RecsAt w ao os) (g : w.grownBy w' none) : RecsAt w' ao os := by
  intro j o hj
  obtain ⟨b, off, e, h1, h2, h3, h4, h5⟩ := h j o hj
  exact ⟨b, off, e, g.cell h1 (by simp), g.cell h2 (by simp), g.cell h3 (by simp), g.cell h4 (by simp), g.cell h5 (by simp)⟩
def S0 : Sb := ⟨3, 2, 1, 1, 0, []⟩
def S2 : Sb := ⟨3, 2, 1, 2, 10, []⟩
end Go.Proofs.YtinkkocleognbaaGreatDoor
/- What the rows' listed table gives; a world for the witnesses; arguments that are rows of bytes, records: shared by the rows' proofs. -/
namespace Go.Proofs.YtinkkocleognbaaGreatDoor
open Go.ChangeShapes Go.WideShapes Go.ChangeAt Go.RowKit Go.Deep

theorem seat_own : ownKnob Tryz.prog.godebug = none := by kernel_rfl
theorem seat_laid : laidOutB Tryz.prog = true := by kernel_rfl
theorem gTab : Tryz.prog.globalNamed "gangway/records.fieldsOf" = some 0 := by kernel_rfl
theorem gTabType : (Tryz.prog.globals[0]?).map (·.type) = some 139 := by kernel_rfl
theorem cells160 : Tryz.prog.cellsOf 139 = 24 := by kernel_rfl
theorem cells159 : Tryz.prog.cellsOf 138 = 4 := by kernel_rfl
theorem cells4 : Tryz.prog.cellsOf 4 = 1 := by kernel_rfl
theorem cellsOf3 : Tryz.prog.cellsOf 3 = 1 := by kernel_rfl
theorem listOf4 {α : Type} {l : List α} (h : l.length = 4) : ∃ a b c d, l = [a, b, c, d] := by
  match l, h with
  | [a, b, c, d], _ => exact ⟨a, b, c, d, rfl⟩
variable {H : Type} {enc : TypeId × Value → H}
/-- Four bools that read as such lie so. -/
theorem cells_fields {w : World} {base : Nat} {sp : Nat → Bool} {held : Bool} {fuel : Nat} {cs : List Value} {a b c d : Bool} {p : List MemPlace}
    (h : DataW.trod enc Tryz.prog w base sp held fuel 138 cs = some (.agg [.lit (.bool a), .lit (.bool b), .lit (.bool c), .lit (.bool d)], p)) : cs = [.bool a, .bool b, .bool c, .bool d] := by
  obtain ⟨xs, n, _, hx, hl, hsz, hf⟩ := DataW.trod_struct Tryz.underlying138 h
  rw [cells159] at hl
  obtain ⟨v0, v1, v2, v3, rfl⟩ := listOf4 hl
  obtain ⟨y0, y1, y2, y3, rfl⟩ := listOf4 (show xs.length = 4 from hsz)
  have f0 : DataW.trod enc Tryz.prog w base sp held n 4 [v0] = some y0 := by simpa [cells4] using hf 0 _ rfl
  have f1 : DataW.trod enc Tryz.prog w base sp held n 4 [v1] = some y1 := by simpa [cells4] using hf 1 _ rfl
  have f2 : DataW.trod enc Tryz.prog w base sp held n 4 [v2] = some y2 := by simpa [cells4] using hf 2 _ rfl
  have f3 : DataW.trod enc Tryz.prog w base sp held n 4 [v3] = some y3 := by simpa [cells4] using hf 3 _ rfl
  obtain ⟨b0, e0, rfl⟩ := DataW.trod_bool Tryz.underlying4 f0
  obtain ⟨b1, e1, rfl⟩ := DataW.trod_bool Tryz.underlying4 f1
  obtain ⟨b2, e2, rfl⟩ := DataW.trod_bool Tryz.underlying4 f2
  obtain ⟨b3, e3, rfl⟩ := DataW.trod_bool Tryz.underlying4 f3
  have hd := congrArg Prod.fst hx
  simp at hd e0 e1 e2 e3
  obtain ⟨rfl, rfl, rfl, rfl⟩ := hd
  rw [e0, e1, e2, e3]
theorem table {W : World} (h : laidMetH Tryz.prog [("gangway/records.fieldsOf", Rows.laid_gangway_records_fieldsOf)] W) : Rk.Tab W := by
  have h' : laidMet Tryz.prog [("gangway/records.fieldsOf", Rows.laid_gangway_records_fieldsOf)] W := h
  obtain ⟨ps, ⟨g', t', cs, fuel, p, q, hg', ht', hvar, hd, _, _⟩, _⟩ := h'
  obtain rfl := Option.some.inj (gTab.symm.trans hg')
  obtain rfl := Option.some.inj (gTabType.symm.trans ht')
  cases fuel with
  | zero => simp [DataW.trod] at hd
  | succ fuel =>
    simp only [DataW.trod, Tryz.underlying139, cells160, cells159] at hd
    split at hd
    · rename_i hl
      obtain ⟨xs, hm, hx⟩ := Option.map_eq_some_iff.1 hd
      have hxs := congrArg Prod.fst hx
      simp only [Rows.laid_gangway_records_fieldsOf, DataW.agg.injEq] at hxs
      have key : ∀ i (a b c d : Bool), i < 6 → (xs.map (·.1))[i]? = some (.agg [.lit (.bool a), .lit (.bool b), .lit (.bool c), .lit (.bool d)]) → (cs.toList.drop (i * 4)).take 4 = [.bool a, .bool b, .bool c, .bool d] := by
        intro i a b c d hi he
        obtain ⟨y, hy, hf⟩ := Lib.mapM_at hm i i (by simp [hi])
        rw [List.getElem?_map, hy] at he
        obtain ⟨y1, y2⟩ := y
        simp at he
        subst he
        exact cells_fields hf
      rw [hxs] at key
      have k0 := key 0 _ _ _ _ (by decide) rfl
      have k1 := key 1 _ _ _ _ (by decide) rfl
      have k2 := key 2 _ _ _ _ (by decide) rfl
      have k3 := key 3 _ _ _ _ (by decide) rfl
      have k4 := key 4 _ _ _ _ (by decide) rfl
      have k5 := key 5 _ _ _ _ (by decide) rfl
      have hall : cs.toList = Rk.tabB.map Value.bool := by
        have e : cs.toList = (cs.toList.drop (0 * 4)).take 4 ++ ((cs.toList.drop (1 * 4)).take 4 ++ ((cs.toList.drop (2 * 4)).take 4 ++ ((cs.toList.drop (3 * 4)).take 4 ++ ((cs.toList.drop (4 * 4)).take 4 ++ (cs.toList.drop (5 * 4)).take 4)))) := by
          have s : ∀ n, cs.toList.drop n = (cs.toList.drop n).take 4 ++ cs.toList.drop (n + 4) := by
            intro n
            conv => lhs; rw [← List.take_append_drop 4 (cs.toList.drop n), List.drop_drop]
          have z : (cs.toList.drop (5 * 4)).take 4 = cs.toList.drop (5 * 4) := List.take_of_length_le (by rw [List.length_drop, hl]; decide)
          rw [z, ← s (4 * 4), ← s (3 * 4), ← s (2 * 4), ← s (1 * 4), ← s (0 * 4)]
          simp
        rw [e, k0, k1, k2, k3, k4, k5]
        rfl
      intro j hj
      have := World.var?_cell gTab hvar j
      rw [this, show cs[j]? = cs.toList[j]? by simp, hall, List.getElem?_map, List.getD_eq_getElem?_getD]
      have hjl : j < Rk.tabB.length := hj
      rw [List.getElem?_eq_getElem hjl]
      rfl
    · cases hd
/-- A world for the witness: the table (block 0) holding what its initialiser lays. -/
noncomputable def laidWorld (os : Os) : World :=
  { World.holding Tryz.prog os ⟨#[], #[], []⟩ with heap := (World.holding Tryz.prog os ⟨#[], #[], []⟩).heap.modify 0 fun
      | .cells _ t frozen => .cells (Rk.tabB.map Value.bool).toArray t frozen
      | o => o }
end Go.Proofs.YtinkkocleognbaaGreatDoor
namespace Go.Proofs.YtinkkocleognbaaGreatDoor
/-- What the first k records make of it. -/
def fo (S : Sb) (l : List Rc) (k : Nat) : Sb := (l.take k).foldl app S
theorem fo_succ {S : Sb} {l : List Rc} {k : Nat} {r : Rc} (h : l[k]? = some r) : fo S l (k + 1) = app (fo S l k) r := by
  unfold fo
  rw [List.take_add_one, h]
  simp
theorem fo_take {S : Sb} {l : List Rc} {k m : Nat} (h : k ≤ m) : fo S (l.take m) k = fo S l k := by
  unfold fo
  rw [List.take_take, Nat.min_eq_left h]
theorem fo_cons {S : Sb} {r : Rc} {l : List Rc} {k : Nat} : fo S (r :: l) (k + 1) = fo (app S r) l k := rfl
theorem fo_ok {S : Sb} (h : S.Ok) (l : List Rc) (k : Nat) : (fo S l k).Ok := by
  unfold fo
  generalize l.take k = m
  induction m generalizing S with
  | nil => exact h
  | cons r m ih => exact ih (h.app r)
theorem app_abc (S : Sb) (r : Rc) : (app S r).a = S.a ∧ (app S r).b = S.b ∧ (app S r).c = S.c := by
  unfold app
  split
  · unfold appS
    repeat' split
    all_goals exact ⟨rfl, rfl, rfl⟩
  · exact ⟨rfl, rfl, rfl⟩
theorem fo_abc (S : Sb) (l : List Rc) (k : Nat) : (fo S l k).a = S.a ∧ (fo S l k).b = S.b ∧ (fo S l k).c = S.c := by
  unfold fo
  generalize l.take k = m
  induction m generalizing S with
  | nil => exact ⟨rfl, rfl, rfl⟩
  | cons r m ih =>
    obtain ⟨h1, h2, h3⟩ := ih (app S r)
    obtain ⟨k1, k2, k3⟩ := app_abc S r
    exact ⟨h1.trans k1, h2.trans k2, h3.trans k3⟩
/-- The first n of them can be applied, one behind the other; e: what the next one is told, 0 where there is none. -/
structure Ran (S : Sb) (l : List Rc) (n : Nat) (e : Int) : Prop where
  le : n ≤ l.length
  ok : ∀ k r, l[k]? = some r → k < n → appE (fo S l k) r = 0
  no : ∀ r, l[n]? = some r → appE (fo S l n) r = e ∧ e ≠ 0
  all : n = l.length → e = 0
def rn : Sb → List Rc → Nat
  | _, [] => 0
  | S, r :: l => if appE S r = 0 then rn (app S r) l + 1 else 0
def rE : Sb → List Rc → Int
  | _, [] => 0
  | S, r :: l => if appE S r = 0 then rE (app S r) l else appE S r
theorem ran_is (S : Sb) (l : List Rc) : Ran S l (rn S l) (rE S l) := by
  induction l generalizing S with
  | nil => exact ⟨Nat.le_refl _, fun k r h _ => by simp at h, fun r h => by simp at h, fun _ => rfl⟩
  | cons r l ih =>
    by_cases h : appE S r = 0
    · obtain ⟨h1, h2, h3, h4⟩ := ih (app S r)
      have e1 : rn S (r :: l) = rn (app S r) l + 1 := by rw [rn, if_pos h]
      have e2 : rE S (r :: l) = rE (app S r) l := by rw [rE, if_pos h]
      rw [e1, e2]
      refine ⟨by simpa using h1, fun k q hk hlt => ?_, fun q hq => ?_, fun e => h4 (by simpa using e)⟩
      · cases k with
        | zero => simp at hk; rw [← hk]; exact h
        | succ k => rw [fo_cons]; exact h2 k q (by simpa using hk) (by omega)
      · rw [fo_cons]; exact h3 q (by simpa using hq)
    · have e1 : rn S (r :: l) = 0 := by rw [rn, if_neg h]
      have e2 : rE S (r :: l) = appE S r := by rw [rE, if_neg h]
      rw [e1, e2]
      refine ⟨Nat.zero_le _, fun k q _ hlt => by omega, fun q hq => ?_, fun e => by simp at e⟩
      simp at hq
      rw [← hq]
      exact ⟨rfl, h⟩
theorem Ran.zero {S : Sb} {l : List Rc} {n : Nat} {e : Int} (h : Ran S l n e) : e = 0 ↔ n = l.length := by
  refine ⟨fun he => ?_, h.all⟩
  apply Classical.byContradiction
  intro hn
  have := h.le
  obtain ⟨r, hr⟩ : ∃ r, l[n]? = some r := ⟨l[n]'(by omega), List.getElem?_eq_getElem (by omega)⟩
  exact (h.no r hr).2 he
/-- A beginning. -/
theorem Ran.take {S : Sb} {l : List Rc} {n : Nat} {e : Int} (h : Ran S l n e) (m : Nat) (hm : m ≤ l.length) : Ran S (l.take m) (min n m) (if m ≤ n then 0 else e) := by
  have hle := h.le
  have hlen : (l.take m).length = m := by simp; omega
  by_cases hc : m ≤ n
  · rw [if_pos hc, Nat.min_eq_right hc]
    refine ⟨by rw [hlen]; exact Nat.le_refl _, fun k r hk hlt => ?_, fun r hr => ?_, fun _ => rfl⟩
    · rw [List.getElem?_take_of_lt hlt] at hk
      rw [fo_take (by omega)]
      exact h.ok k r hk (by omega)
    · have := (List.getElem?_eq_some_iff.1 hr).1
      omega
  · rw [if_neg hc, Nat.min_eq_left (by omega)]
    refine ⟨by omega, fun k r hk hlt => ?_, fun r hr => ?_, fun e => by omega⟩
    · rw [List.getElem?_take_of_lt (by omega)] at hk
      rw [fo_take (by omega)]
      exact h.ok k r hk hlt
    · rw [List.getElem?_take_of_lt (by omega)] at hr
      rw [fo_take (by omega)]
      exact h.no r hr
theorem fo_drop {S : Sb} {l : List Rc} {m k : Nat} : fo (fo S l m) (l.drop m) k = fo S l (m + k) := by
  unfold fo
  rw [List.take_add, List.foldl_append]
/-- What is left of it. -/
theorem Ran.drop {S : Sb} {l : List Rc} {n : Nat} {e : Int} (h : Ran S l n e) (m : Nat) (hm : m ≤ n) : Ran (fo S l m) (l.drop m) (n - m) e := by
  have hle := h.le
  refine ⟨by simp; omega, fun k r hk hlt => ?_, fun r hr => ?_, fun hn => h.all (by simp at hn; omega)⟩
  · rw [fo_drop]
    rw [List.getElem?_drop] at hk
    exact h.ok (m + k) r hk (by omega)
  · rw [fo_drop, show m + (n - m) = n by omega]
    rw [List.getElem?_drop, show m + (n - m) = n by omega] at hr
    exact h.no r hr
/-- A change by plain numbers. -/
structure Cg where
  k : Int
  i : Int
  s : Int
  t : Int
/-- The record of it. -/
def cgR (c : Cg) (n : Nat) (t : Int) : Rc :=
  if c.k % 5 = 0 then ⟨1, (n : Int), c.s % 13, t + 1 + c.t % 7, 0⟩
  else if c.k % 5 = 3 then ⟨4, 1 + c.i % (n : Int), c.s % 13, 0, 0⟩
  else if c.k % 5 = 4 then ⟨5, 0, 0, 0, t + 1 + c.t % 7⟩
  else ⟨1 + c.k % 5, 1 + c.i % (n : Int), 0, 0, 0⟩
theorem cgR_may {c : Cg} {n : Nat} {t : Int} (hn : 1 ≤ n) (h0 : 0 ≤ t) (h1 : t + 8 ≤ mxC) : (cgR c n t).May := by
  have a1 := Int.emod_nonneg c.k (b := 5) (by decide)
  have a2 := Int.emod_lt_of_pos c.k (b := 5) (by decide)
  have b1 := Int.emod_nonneg c.s (b := 13) (by decide)
  have b2 := Int.emod_lt_of_pos c.s (b := 13) (by decide)
  have d1 := Int.emod_nonneg c.t (b := 7) (by decide)
  have d2 := Int.emod_lt_of_pos c.t (b := 7) (by decide)
  have e1 := Int.emod_nonneg c.i (b := (n : Int)) (by omega)
  have e2 := Int.emod_lt_of_pos c.i (b := (n : Int)) (by omega)
  unfold cgR
  generalize c.i % (n : Int) = ii at *
  generalize c.k % 5 = kk at *
  generalize c.s % 13 = ss at *
  generalize c.t % 7 = tt at *
  by_cases k0 : kk = 0
  · rw [if_pos k0]; exact .inl ⟨rfl, by simp only; omega, ⟨by simp only; omega, by simp only; omega⟩, ⟨by simp only; omega, by simp only; omega⟩, rfl⟩
  · rw [if_neg k0]
    by_cases k3 : kk = 3
    · rw [if_pos k3]; exact .inr (.inr (.inl ⟨rfl, by simp only; omega, ⟨by simp only; omega, by simp only; omega⟩, rfl, rfl⟩))
    · rw [if_neg k3]
      by_cases k4 : kk = 4
      · rw [if_pos k4]; exact .inr (.inr (.inr ⟨rfl, rfl, rfl, rfl, ⟨by simp only; omega, by simp only; omega⟩⟩))
      · rw [if_neg k4]; exact .inr (.inl ⟨by simp only; omega, by simp only; omega, rfl, rfl, rfl⟩)
theorem cgR_ok {c : Cg} {n : Nat} {t : Int} (hn : 1 ≤ n) (hn1 : n < 4294967296) (h0 : 0 ≤ t) (h1 : t ≤ mxC) : (cgR c n t).Ok := by
  have a1 := Int.emod_nonneg c.k (b := 5) (by decide)
  have a2 := Int.emod_lt_of_pos c.k (b := 5) (by decide)
  have b1 := Int.emod_nonneg c.s (b := 13) (by decide)
  have b2 := Int.emod_lt_of_pos c.s (b := 13) (by decide)
  have d1 := Int.emod_nonneg c.t (b := 7) (by decide)
  have d2 := Int.emod_lt_of_pos c.t (b := 7) (by decide)
  have e1 := Int.emod_nonneg c.i (b := (n : Int)) (by omega)
  have e2 := Int.emod_lt_of_pos c.i (b := (n : Int)) (by omega)
  unfold mxC at h1
  unfold cgR
  generalize c.i % (n : Int) = ii at *
  generalize c.k % 5 = kk at *
  generalize c.s % 13 = ss at *
  generalize c.t % 7 = tt at *
  by_cases k0 : kk = 0
  · rw [if_pos k0]; constructor <;> simp only <;> omega
  · rw [if_neg k0]
    by_cases k3 : kk = 3
    · rw [if_pos k3]; constructor <;> simp only <;> omega
    · rw [if_neg k3]
      by_cases k4 : kk = 4
      · rw [if_pos k4]; constructor <;> simp only <;> omega
      · rw [if_neg k4]; constructor <;> simp only <;> omega
/-- The records of changes; all: also those that are refused. -/
def hist (all : Bool) : Sb → List Cg → List Rc
  | _, [] => []
  | S, c :: l => if appE S (cgR c S.n S.t) = 0 ∨ all = true then cgR c S.n S.t :: hist all (app S (cgR c S.n S.t)) l else hist all (app S (cgR c S.n S.t)) l
/-- The book behind k changes. -/
def hS (S : Sb) (l : List Cg) (k : Nat) : Sb := (l.take k).foldl (fun S c => app S (cgR c S.n S.t)) S
theorem hS_succ {S : Sb} {l : List Cg} {k : Nat} {c : Cg} (h : l[k]? = some c) : hS S l (k + 1) = app (hS S l k) (cgR c (hS S l k).n (hS S l k).t) := by
  unfold hS
  rw [List.take_add_one, h]
  simp
theorem hS_ok {S : Sb} (h : S.Ok) (l : List Cg) (k : Nat) : (hS S l k).Ok := by
  unfold hS
  generalize l.take k = m
  induction m generalizing S with
  | nil => exact h
  | cons r m ih => exact ih (h.app _)
theorem app_t {S : Sb} {c : Cg} (h0 : 0 ≤ S.t) : (app S (cgR c S.n S.t)).t ≤ S.t + 7 := by
  have d1 := Int.emod_nonneg c.t (b := 7) (by decide)
  have d2 := Int.emod_lt_of_pos c.t (b := 7) (by decide)
  unfold app
  split
  · have hc : (cgR c S.n S.t).c ≤ S.t + 7 := by
      unfold cgR
      repeat' split
      all_goals simp only
      all_goals omega
    unfold appS
    repeat' split
    all_goals first | exact hc | (simp only; omega)
  · omega
theorem hist_snoc (all : Bool) (S : Sb) (l : List Cg) (c : Cg) : hist all S (l ++ [c]) = hist all S l ++ (if appE (hS S l l.length) (cgR c (hS S l l.length).n (hS S l l.length).t) = 0 ∨ all = true then [cgR c (hS S l l.length).n (hS S l l.length).t] else []) := by
  induction l generalizing S with
  | nil => simp [hist, hS]
  | cons d l ih =>
    have := ih (app S (cgR d S.n S.t))
    simp only [List.cons_append, hist, List.length_cons]
    rw [this]
    have e : hS S (d :: l) (l.length + 1) = hS (app S (cgR d S.n S.t)) l l.length := by simp [hS]
    rw [e]
    split <;> simp
theorem hist_take {all : Bool} {S : Sb} {l : List Cg} {k : Nat} {c : Cg} (h : l[k]? = some c) : hist all S (l.take (k + 1)) = hist all S (l.take k) ++ (if appE (hS S l k) (cgR c (hS S l k).n (hS S l k).t) = 0 ∨ all = true then [cgR c (hS S l k).n (hS S l k).t] else []) := by
  have hk := (List.getElem?_eq_some_iff.1 h).1
  rw [List.take_add_one, h, Option.toList_some, hist_snoc]
  have e : hS S (l.take k) (l.take k).length = hS S l k := by unfold hS; rw [List.take_length]
  rw [e]
theorem hist_le (all : Bool) (S : Sb) (l : List Cg) : (hist all S l).length ≤ l.length := by
  induction l generalizing S with
  | nil => simp [hist]
  | cons d l ih =>
    have := ih (app S (cgR d S.n S.t))
    simp only [hist]
    split <;> simp <;> omega
theorem hist_mem {all : Bool} {S : Sb} (ho : S.Ok) {l : List Cg} (hl : S.t + 7 * l.length + 8 ≤ mxC) : ∀ r ∈ hist all S l, r.May ∧ r.Ok := by
  induction l generalizing S with
  | nil => intro r hr; simp [hist] at hr
  | cons d l ih =>
    have ht := app_t (S := S) (c := d) ho.t0
    have hlen : ((d :: l).length : Int) = (l.length : Int) + 1 := by simp
    have h2 := ih (S := app S (cgR d S.n S.t)) (ho.app _) (by rw [hlen] at hl; omega)
    have h3 : (cgR d S.n S.t).May ∧ (cgR d S.n S.t).Ok := ⟨cgR_may ho.n0 ho.t0 (by rw [hlen] at hl; omega), cgR_ok ho.n0 ho.n1 ho.t0 ho.t1⟩
    intro r hr
    simp only [hist] at hr
    split at hr
    · rcases List.mem_cons.1 hr with rfl | hr
      · exact h3
      · exact h2 r hr
    · exact h2 r hr
section
variable {S : Sb} {l : List Rc} {n j : Nat} {e : Int} {r : Rc}
theorem Ran.step (h : Ran S l n e) (hj : j ≤ n) (hr : l[j]? = some r) (h0 : appE (fo S l j) r = 0) : j + 1 ≤ n := by
  apply Classical.byContradiction
  intro hn
  obtain rfl : j = n := by omega
  have h1 := h.no r hr
  rw [h0] at h1
  exact h1.2 h1.1.symm
theorem Ran.stop (h : Ran S l n e) (hj : j ≤ n) (hr : l[j]? = some r) (h0 : appE (fo S l j) r ≠ 0) : n = j ∧ e = appE (fo S l j) r := by
  obtain rfl : j = n := by
    apply Classical.byContradiction
    intro hn
    exact h0 (h.ok j r hr (by omega))
  exact ⟨rfl, (h.no r hr).1.symm⟩
theorem Ran.end_ (h : Ran S l n e) (hj : j ≤ n) (hl : j = l.length) : n = j ∧ e = 0 := by
  have := h.le
  obtain rfl : j = n := by omega
  exact ⟨rfl, h.all hl⟩
end
end Go.Proofs.YtinkkocleognbaaGreatDoor
