/- Texts joined: BkL, BkM, BkN, BkO, La, Rp1, GeRf, BkP, BkQ. -/
import Derived.ProofKit
import Derived.OpenShut
import Derived.Deep.DeepHandedRow
import Derived.Lib.LaidTab
import Derived.ChangeOld
import Derived.SizedLaws
import Derived.Test.YtcbiloomnkbalaaGreatDoorJyAl
import Derived.Test.YtcbiloomnkbalaaGreatDoorJyG
import Derived.Test.YtcbiloomnkbalaaGreatDoorJyAi
import Derived.Test.YtcbiloomnkbalaaGreatDoorCards
import Derived.Test.YtcbiloomnkbalaaGreatDoorTie
import Derived.RangeFuncWrites
import Derived.Test.YtcbiloomnkbalaaGreatDoorJyAe
/- Rows of bookings, compared. -/
namespace Go.Proofs.YtcbiloomnkbalaaGreatDoor
open Go.RowKit
attribute [local go_sem ↓] Go.wp_at_zero Go.wp_at_succ
/-- Bookings that lie somewhere. -/
structure BgA (w : World) (v : Value) (X : List Bg) : Prop where
  ex : ∃ ao cap, v = .slice ao X.length cap ∧ ∀ i, i < X.length → ∃ g, ao = some ⟨g, 0, none⟩ ∧ w.cell? ⟨g, i * 3, none⟩ = some (.int .u32 ((rd X i).i : Int)) ∧ w.cell? ⟨g, i * 3 + 1, none⟩ = some (.int .i64 ((rd X i).s : Int)) ∧ w.cell? ⟨g, i * 3 + 2, none⟩ = some (.int .i64 (rd X i).u)
theorem BgA.then {w w' : World} {v : Value} {X : List Bg} (h : BgA w v X) (g : w.grownBy w' none) : BgA w' v X := by
  obtain ⟨ao, cap, h1, h2⟩ := h.ex
  refine ⟨ao, cap, h1, fun i hi => ?_⟩
  obtain ⟨a, e, c0, c1, c2⟩ := h2 i hi
  exact ⟨a, e, g.cell c0 (by simp), g.cell c1 (by simp), g.cell c2 (by simp)⟩
theorem BgA.own {w : World} {b : Nat} {v : Value} {X : List Bg} (h : w.ownsRow b 78 3 v X.length (bgs X)) : BgA w v X := by
  obtain ⟨vo, vcap, rfl, hle⟩ := Ix.own_form h
  refine ⟨vo, vcap, rfl, fun i hi => ?_⟩
  obtain ⟨q, c, cur, e1, e2, e3, e4, e5, e6, e7⟩ := Ix.own_row h (by omega)
  cases e1
  obtain ⟨b1, b2, b3⟩ := bgs_get hi
  refine ⟨_, rfl, ?_, ?_, ?_⟩
  · exact Ix.own_cell e3 e7 b1
  · exact Ix.own_cell e3 e7 b2
  · exact Ix.own_cell e3 e7 b3
theorem BgA.nil (w : World) : BgA w (.slice none 0 0) [] := ⟨none, 0, rfl, fun i hi => by simp at hi⟩
theorem take_all {X Y : List Bg} (hl : X.length = Y.length) (h : X.take X.length = Y.take X.length) : X = Y := by
  rw [List.take_length, hl, List.take_length] at h; exact h
theorem take_next {X Y : List Bg} {j : Nat} (hx : j < X.length) (hy : j < Y.length) (h : X.take j = Y.take j) (e : rd X j = rd Y j) : X.take (j + 1) = Y.take (j + 1) := by
  rw [← take_rd hx, ← take_rd hy, h, e]
theorem rd_ne {X Y : List Bg} {j : Nat} (h : rd X j ≠ rd Y j) : X ≠ Y := fun e => h (by rw [e])
set_option maxHeartbeats 4000000 in
theorem equal_any {w : World} {v u : Value} {X Y : List Bg} (hv : BgA w v X) (hu : BgA w u Y) (hX : X.length ≤ 65536) : Calls Tryz.prog 49 #[v, u] w fun e w' => e = .returned (.bool (decide (X = Y))) ∧ w.grownBy w' none := by
  obtain ⟨ao, c, rfl, hx⟩ := hv.ex
  obtain ⟨bo, d, rfl, hy⟩ := hu.ex
  clear hv hu
  by_cases hl : X.length = Y.length
  · have HA := hide (And.intro hx (And.intro hy hl))
    clear hx hy
    rw [← hl]
    obtain ⟨res, hres⟩ : ∃ res, decide (X = Y) = res := ⟨_, rfl⟩
    rw [hres]
    have HRes := hide hres
    clear hres hl
    generalize hn : X.length = n at *
    have HN := hide hn
    clear hn
    go_enter Tryz.func49, Tryz.ntmps49
    go_wp2
    go_loopg [13] n (fun k i wr => ∃ j : Nat, k + j = n ∧ i = .int .i64 j ∧ Hid (w.grownBy wr none ∧ X.take j = Y.take j))
    case atStart => exact ⟨0, by omega, rfl, grown_refl _ _, rfl⟩
    case round =>
      obtain ⟨j, hkj, rfl, HW⟩ := hrel
      by_cases hk : 0 < gk
      · have hj : j < X.length := by rw [HN.out]; omega
        have hjy : j < Y.length := by have := HA.out.2.2; omega
        obtain ⟨a, rfl, x0, x1, x2⟩ := HA.out.1 j (by omega)
        obtain ⟨b, rfl, y0, y1, y2⟩ := HA.out.2.1 j hjy
        have g := HW.out.1
        have x0 := g.cell x0 (by simp)
        have x1 := g.cell x1 (by simp)
        have x2 := g.cell x2 (by simp)
        have y0 := g.cell y0 (by simp)
        have y1 := g.cell y1 (by simp)
        have y2 := g.cell y2 (by simp)
        have HG := hide g
        have h1 : (0 : Int) ≤ (j : Int) := by omega
        have h2 : (j : Int) < (n : Int) := by omega
        by_cases e : rd X j = rd Y j
        · have HT := hide (take_next hj hjy HW.out.2 e)
          rw [← e] at y0 y1 y2
          clear e g HW hj hjy
          generalize ((rd X j).i : Int) = p at *
          generalize ((rd X j).s : Int) = q at *
          generalize (rd X j).u = r at *
          go_wp2
          go_quiet (fail)
          go_wp2
          go_roundg (gk - 1)
          case measure => omega
          case rel => exact ⟨j + 1, by omega, by go_num, grown_trans HG.out (grown_drewN _ _ _), HT.out⟩
        · have HD : Hid (res = false) := by rw [← HRes.out, decide_eq_false (rd_ne e)]; rfl
          have hne : ¬ ((rd X j).i = (rd Y j).i ∧ (rd X j).s = (rd Y j).s ∧ (rd X j).u = (rd Y j).u) := fun h => e (Bg.ext' h.1 h.2.1 h.2.2)
          clear e g HW hj hjy
          generalize (rd X j).i = p at *
          generalize (rd X j).s = q at *
          generalize (rd X j).u = r at *
          generalize (rd Y j).i = p' at *
          generalize (rd Y j).s = q' at *
          generalize (rd Y j).u = r' at *
          by_cases e1 : p = p'
          · subst e1
            by_cases e2 : q = q'
            · subst e2
              have e3 : ¬ r = r' := fun e3 => hne ⟨rfl, rfl, e3⟩
              have f1 : (r == r') = false := by simpa using e3
              have f2 : decide (r = r') = false := by simpa using e3
              clear hne
              go_wp2
              go_quiet (fail)
              go_wp2
              go_ret
              exact ⟨by rw [HD.out]; rfl, grown_trans HG.out (grown_drewN _ _ _)⟩
            · have f1 : ((q : Int) == (q' : Int)) = false := by simp; omega
              have f2 : decide ((q : Int) = (q' : Int)) = false := by simp; omega
              clear hne
              go_wp2
              go_quiet (fail)
              go_wp2
              go_ret
              exact ⟨by rw [HD.out]; rfl, grown_trans HG.out (grown_drewN _ _ _)⟩
          · have f1 : ((p : Int) == (p' : Int)) = false := by simp; omega
            have f2 : decide ((p : Int) = (p' : Int)) = false := by simp; omega
            clear hne
            go_wp2
            go_quiet (fail)
            go_wp2
            go_ret
            exact ⟨by rw [HD.out]; rfl, grown_trans HG.out (grown_drewN _ _ _)⟩
      · have hj : j = n := by omega
        subst hj
        have HD : Hid (res = true) := by
          rw [← HRes.out]
          exact decide_eq_true (take_all (HN.out.trans HA.out.2.2) (by rw [HN.out]; exact HW.out.2))
        go_wp2
        go_ret
        exact ⟨by rw [HD.out]; rfl, HW.out.1⟩
  · rw [decide_eq_false (fun e => hl (by rw [e]))]
    have f1 : ((X.length : Int) == (Y.length : Int)) = false := by simp; omega
    have f2 : decide ((X.length : Int) = (Y.length : Int)) = false := by simp; omega
    generalize X.length = n at *
    generalize Y.length = m at *
    clear hx hy
    go_enter Tryz.func49, Tryz.ntmps49
    go_wp2
    go_ret
    exact ⟨rfl, grown_refl _ _⟩
set_option maxHeartbeats 4000000 in
theorem sameBk_any {w : World} {v u : Value} {X Y : List Bg} (hv : BgA w v X) (hu : BgA w u Y) (hX : X.length ≤ 65536) : Calls Tryz.prog 37 #[v, u] w fun e w' => e = .returned (.bool (decide (X = Y))) ∧ w.grownBy w' none := by
  obtain ⟨ao, c, rfl, hx⟩ := hv.ex
  obtain ⟨bo, d, rfl, hy⟩ := hu.ex
  clear hv hu
  by_cases hl : X.length = Y.length
  · have HA := hide (And.intro hx (And.intro hy hl))
    clear hx hy
    rw [← hl]
    obtain ⟨res, hres⟩ : ∃ res, decide (X = Y) = res := ⟨_, rfl⟩
    rw [hres]
    have HRes := hide hres
    clear hres hl
    generalize hn : X.length = n at *
    have HN := hide hn
    clear hn
    go_enter Tryz.func37, Tryz.ntmps37
    go_wp2
    go_loopg [5] n (fun k i wr => ∃ j : Nat, k + j = n ∧ i = .int .i64 j ∧ Hid (w.grownBy wr none ∧ X.take j = Y.take j))
    case atStart => exact ⟨0, by omega, rfl, grown_refl _ _, rfl⟩
    case round =>
      obtain ⟨j, hkj, rfl, HW⟩ := hrel
      by_cases hk : 0 < gk
      · have hj : j < X.length := by rw [HN.out]; omega
        have hjy : j < Y.length := by have := HA.out.2.2; omega
        obtain ⟨a, rfl, x0, x1, x2⟩ := HA.out.1 j (by omega)
        obtain ⟨b, rfl, y0, y1, y2⟩ := HA.out.2.1 j hjy
        have g := HW.out.1
        have x0 := g.cell x0 (by simp)
        have x1 := g.cell x1 (by simp)
        have x2 := g.cell x2 (by simp)
        have y0 := g.cell y0 (by simp)
        have y1 := g.cell y1 (by simp)
        have y2 := g.cell y2 (by simp)
        have HG := hide g
        have h1 : (0 : Int) ≤ (j : Int) := by omega
        have h2 : (j : Int) < (n : Int) := by omega
        by_cases e : rd X j = rd Y j
        · have HT := hide (take_next hj hjy HW.out.2 e)
          rw [← e] at y0 y1 y2
          clear e g HW hj hjy
          generalize ((rd X j).i : Int) = p at *
          generalize ((rd X j).s : Int) = q at *
          generalize (rd X j).u = r at *
          go_wp2
          go_quiet (fail)
          go_wp2
          go_roundg (gk - 1)
          case measure => omega
          case rel => exact ⟨j + 1, by omega, by go_num, grown_trans HG.out (grown_drewN _ _ _), HT.out⟩
        · have HD : Hid (res = false) := by rw [← HRes.out, decide_eq_false (rd_ne e)]; rfl
          have hne : ¬ ((rd X j).i = (rd Y j).i ∧ (rd X j).s = (rd Y j).s ∧ (rd X j).u = (rd Y j).u) := fun h => e (Bg.ext' h.1 h.2.1 h.2.2)
          clear e g HW hj hjy
          generalize (rd X j).i = p at *
          generalize (rd X j).s = q at *
          generalize (rd X j).u = r at *
          generalize (rd Y j).i = p' at *
          generalize (rd Y j).s = q' at *
          generalize (rd Y j).u = r' at *
          by_cases e1 : p = p'
          · subst e1
            by_cases e2 : q = q'
            · subst e2
              have e3 : ¬ r = r' := fun e3 => hne ⟨rfl, rfl, e3⟩
              have f1 : (r == r') = false := by simpa using e3
              have f2 : decide (r = r') = false := by simpa using e3
              clear hne
              go_wp2
              go_quiet (fail)
              go_wp2
              go_ret
              exact ⟨by rw [HD.out]; rfl, grown_trans HG.out (grown_drewN _ _ _)⟩
            · have f1 : ((q : Int) == (q' : Int)) = false := by simp; omega
              have f2 : decide ((q : Int) = (q' : Int)) = false := by simp; omega
              clear hne
              go_wp2
              go_quiet (fail)
              go_wp2
              go_ret
              exact ⟨by rw [HD.out]; rfl, grown_trans HG.out (grown_drewN _ _ _)⟩
          · have f1 : ((p : Int) == (p' : Int)) = false := by simp; omega
            have f2 : decide ((p : Int) = (p' : Int)) = false := by simp; omega
            clear hne
            go_wp2
            go_quiet (fail)
            go_wp2
            go_ret
            exact ⟨by rw [HD.out]; rfl, grown_trans HG.out (grown_drewN _ _ _)⟩
      · have hj : j = n := by omega
        subst hj
        have HD : Hid (res = true) := by
          rw [← HRes.out]
          exact decide_eq_true (take_all (HN.out.trans HA.out.2.2) (by rw [HN.out]; exact HW.out.2))
        go_wp2
        go_ret
        exact ⟨by rw [HD.out]; rfl, HW.out.1⟩
  · rw [decide_eq_false (fun e => hl (by rw [e]))]
    have f1 : ((X.length : Int) == (Y.length : Int)) = false := by simp; omega
    have f2 : decide ((X.length : Int) = (Y.length : Int)) = false := by simp; omega
    generalize X.length = n at *
    generalize Y.length = m at *
    clear hx hy
    go_enter Tryz.func37, Tryz.ntmps37
    go_wp2
    go_ret
    exact ⟨rfl, grown_refl _ _⟩
end Go.Proofs.YtcbiloomnkbalaaGreatDoor
/- What a book is asked. -/
namespace Go.Proofs.YtcbiloomnkbalaaGreatDoor
open Go.RowKit
attribute [local go_sem ↓] Go.wp_at_zero Go.wp_at_succ
attribute [local go_sem] Oper.semAt_some
section
variable {w w' W : World} {p q : Bp} {S S' : Sb} {K K' : Nat}
set_option maxHeartbeats 4000000 in
theorem len_any (h : BkAt w p S K) : Calls Tryz.prog 28 #[.pointer (some ⟨p.b, 0, none⟩)] w fun e w' => e = .returned (.int .i64 (S.L.length : Int)) ∧ w' = w := by
  have HC1 := hide h.isNone
  have HC2 := hide h.len
  have c8 := h.cells 8 _ rfl
  clear h
  go_enter Tryz.func28, Tryz.ntmps28
  go_wp2_with fail
  refine HC1.out.mono ?_
  rintro e w1 ⟨rfl, rfl⟩
  go_wp2_with fail
  refine HC2.out.mono ?_
  rintro e w2 ⟨rfl, rfl⟩
  go_wp2
  go_ret
  exact ⟨rfl, rfl⟩
set_option maxHeartbeats 4000000 in
theorem next_any (h : BkAt w p S K) : Calls Tryz.prog 31 #[.pointer (some ⟨p.b, 0, none⟩)] w fun e w' => e = .returned (.int .u32 (S.n : Int)) ∧ w' = w := by
  have HC1 := hide h.isNone
  have c8 := h.cells 4 _ rfl
  clear h
  go_enter Tryz.func31, Tryz.ntmps31
  go_wp2_with fail
  refine HC1.out.mono ?_
  rintro e w1 ⟨rfl, rfl⟩
  go_wp2
  go_ret
  exact ⟨rfl, rfl⟩
set_option maxHeartbeats 4000000 in
theorem clock_any (h : BkAt w p S K) : Calls Tryz.prog 32 #[.pointer (some ⟨p.b, 0, none⟩)] w fun e w' => e = .returned (.int .i64 S.t) ∧ w' = w := by
  have HC1 := hide h.isNone
  have c8 := h.cells 5 _ rfl
  clear h
  go_enter Tryz.func32, Tryz.ntmps32
  go_wp2_with fail
  refine HC1.out.mono ?_
  rintro e w1 ⟨rfl, rfl⟩
  go_wp2
  go_ret
  exact ⟨rfl, rfl⟩
set_option maxHeartbeats 4000000 in
theorem due_any (h : BkAt w p S K) (hw : S.Wk) : Calls Tryz.prog 33 #[.pointer (some ⟨p.b, 0, none⟩)] w fun e w' => ∃ x b, e = .returned (.tuple #[.int .i64 x.u, .bool b]) ∧ Fst S x b ∧ BkAt w' p S K ∧ Kept w w' p.own := by
  have HC1 := hide h.isNone
  have HC2 := hide (first_any h hw)
  have HL := hide h.lt
  clear h
  go_enter Tryz.func33, Tryz.ntmps33
  go_wp2_with fail
  refine HC1.out.mono ?_
  rintro e w1 ⟨rfl, rfl⟩
  go_wp2_with fail
  refine HC2.out.mono ?_
  rintro e w2 ⟨⟨xi, xs, xu⟩, b, rfl, hF, hA, hk⟩
  have H3 := hide (And.intro hF (And.intro hA hk))
  clear hF hA hk HC1 HC2
  unfold bgV
  go_wp2
  go_ret2
  exact ⟨_, _, rfl, H3.out.1, H3.out.2.1.then (grown_alloc _ _), H3.out.2.2.trans (Kept.new (grown_alloc _ _) _) (fun i _ h => h)⟩
set_option maxHeartbeats 4000000 in
theorem get_any (h : BkAt w p S K) (hw : S.Wk) (k : Nat) (hk : k < 4294967296) : Calls Tryz.prog 29 #[.pointer (some ⟨p.b, 0, none⟩), .int .u32 (k : Int)] w fun e w' => e = .returned (.tuple #[bgV ((fnd S.L k).getD ⟨0, 0, 0⟩), .int .i64 (if (fnd S.L k).isSome then 0 else 171)]) ∧ BkAt w' p S K ∧ Kept w w' p.own := by
  have b0 := Bx.start h.lt bgz 78
  have h0 := h.then (grown_alloc w (.cells bgz.toArray 78))
  have HC1 := hide h0.isNone
  have hC2 := h0.find hw k hk
  have HB := hide b0
  generalize (fnd S.L k).getD ⟨0, 0, 0⟩ = x at hC2 ⊢
  generalize (if (fnd S.L k).isSome then (0 : Int) else 171) = er at hC2 ⊢
  have HC2 := hide hC2
  clear hC2 h h0 b0
  obtain ⟨xi, xs, xu⟩ := x
  unfold bgV at *
  simp only [bgz] at *
  go_enter Tryz.func29, Tryz.ntmps29
  go_wp2_with fail
  refine HC1.out.mono ?_
  rintro e w1 ⟨rfl, rfl⟩
  go_wp2_with fail
  refine HC2.out.mono ?_
  rintro e w2 ⟨rfl, hA, hk2⟩
  have hX := HB.out.keep hk2
  obtain ⟨d0, d1, d2, d3⟩ := box3 hX.box
  have H3 := hide (And.intro hA hX)
  clear hA hX hk2 HB HC1 HC2
  go_wp2
  obtain ⟨r1, r2⟩ := row3 _ H3.out.2.box (.int .u32 (xi : Int)) (.int .i64 (xs : Int)) (.int .i64 xu)
  have k1 : Kept _ _ (fun i => i = w.heap.size) := Kept.of r2 (fun _ e _ => (Option.some.inj e).symm)
  refine bodyPost_ret (results_bg rfl _ _ w.heap.size ⟨xi, xs, xu⟩ (.int .i64 er) rfl r1 rfl) rfl ⟨rfl, H3.out.1.far k1 (fun i hi e => H3.out.2.nx (by rw [← e]; exact hi)), ?_⟩
  exact H3.out.2.st.kept.trans k1 (fun i hi e => absurd hi (by rw [e]; exact Nat.lt_irrefl _))
/-- What stands at a seat that is taken. -/
theorem BkAt.seat (h : BkAt w p S K) (hw : S.Wk) {s : Nat} {x : Bg} (hx : sat S.L s = some x) : w.cell? ⟨p.sg, s * 3, none⟩ = some (.int .u32 (x.i : Int)) ∧ w.cell? ⟨p.sg, s * 3 + 1, none⟩ = some (.int .i64 (x.s : Int)) ∧ w.cell? ⟨p.sg, s * 3 + 2, none⟩ = some (.int .i64 x.u) := by
  obtain ⟨Lb, R, M, E, T, N, B, C, h, hR, hN⟩ := h
  obtain ⟨hm, hs⟩ := (sat_some hw.one).1 hx
  have h1 := hR.rw x hm
  rw [hs] at h1
  have h2 : s < R.length := by
    apply Classical.byContradiction
    intro hn
    rw [List.getElem?_eq_none (by omega)] at h1
    cases h1
  have h3 : rd R s = x := by unfold rd; rw [h1]; rfl
  have h4 := h.fd.seat h2
  rw [h3] at h4
  exact h4
/-- What a book answers at a seat. -/
def atX (S : Sb) (s : Int) : Bg := if 0 ≤ s ∧ s < (S.a : Int) then (sat S.L s.toNat).getD ⟨0, 0, 0⟩ else ⟨0, 0, 0⟩
def atE (S : Sb) (s : Int) : Int := if 0 ≤ s ∧ s < (S.a : Int) then (if (sat S.L s.toNat).isSome then 0 else 171) else 140
set_option maxHeartbeats 4000000 in
theorem at_any (h : BkAt w p S K) (hw : S.Wk) (s : Int) : Calls Tryz.prog 30 #[.pointer (some ⟨p.b, 0, none⟩), .int .i64 s] w fun e w' => e = .returned (.tuple #[bgV (atX S s), .int .i64 (atE S s)]) ∧ w.grownBy w' none := by
  have m0 := Bm.start h bgz 78
  have HC1 := hide m0.bk.isNone
  have HC2 := hide (fun W => hasSeat_any S.a S.b S.c s W)
  have a0 := m0.ff.a0
  have a1 := m0.ff.a1
  have a2 := m0.ff.a2
  obtain ⟨d0, d1, d2, d3⟩ := box3 m0.box
  by_cases hs : 0 ≤ s ∧ s < (S.a : Int)
  · obtain ⟨n, rfl⟩ := Int.eq_ofNat_of_zero_le hs.1
    have hn : n < S.a := by omega
    rw [decide_eq_true hs] at HC2
    unfold atX atE
    rw [if_pos hs, if_pos hs, Int.toNat_natCast]
    have HC3 : Hid (∀ W, Bm w W w.heap.size bgz 78 p S K → Calls Tryz.prog 56 #[.pointer (some ⟨p.tb, 0, none⟩), .int .i64 (n : Int)] W fun e w' => e = .returned (.bool (sat S.L n).isSome) ∧ W.grownBy w' none) := fun W hW => hW.bk.has n hn
    have HM := hide m0
    cases hq : sat S.L n with
    | some x =>
      have HS : Hid (∀ W, Bm w W w.heap.size bgz 78 p S K → W.cell? ⟨p.sg, n * 3, none⟩ = some (.int .u32 (x.i : Int)) ∧ W.cell? ⟨p.sg, n * 3 + 1, none⟩ = some (.int .i64 (x.s : Int)) ∧ W.cell? ⟨p.sg, n * 3 + 2, none⟩ = some (.int .i64 x.u)) := fun W hW => hW.bk.seat hw hq
      rw [hq] at HC3
      simp only [Option.isSome, Option.getD, if_true] at *
      have h1 : (0 : Int) ≤ (n : Int) := by omega
      have h2 : (n : Int) < (S.a : Int) := by omega
      clear m0 h hs hq hw
      obtain ⟨xi, xs, xu⟩ := x
      unfold bgV limV at *
      simp only [bgz] at *
      go_enter Tryz.func30, Tryz.ntmps30
      go_wp2_with fail
      refine HC1.out.mono ?_
      rintro e w1 ⟨rfl, rfl⟩
      go_wp2_with fail
      refine (HC2.out _).mono ?_
      rintro e w2 ⟨rfl, hg2⟩
      have m2 := HM.out.then hg2
      have a6 := m2.ff.a6
      have HM2 := hide m2
      clear m2 HM a0 a1 a2 d0 d1 d2 d3 HC1 HC2
      go_wp2_with fail
      refine (HC3.out _ HM2.out).mono ?_
      rintro e w3 ⟨rfl, hg3⟩
      have m3 := HM2.out.then hg3
      have a7 := m3.bk.cells 7 _ rfl
      obtain ⟨s0, s1, s2⟩ := HS.out _ m3
      obtain ⟨d0, d1, d2, d3⟩ := box3 m3.box
      have HM3 := hide m3
      clear m3 HM2 a6 HC3 HS
      go_wp2
      obtain ⟨r1, r2⟩ := row3 _ HM3.out.box (.int .u32 (xi : Int)) (.int .i64 (xs : Int)) (.int .i64 xu)
      exact bodyPost_ret (results_bg rfl _ _ w.heap.size ⟨xi, xs, xu⟩ (.int .i64 0) rfl r1 rfl) rfl ⟨rfl, gn_set (gn_set (gn_set HM3.out.gr (Nat.le_refl _)) (Nat.le_refl _)) (Nat.le_refl _)⟩
    | none =>
      rw [hq] at HC3
      simp only [Option.isSome, Option.getD, Bool.false_eq_true, if_false] at *
      clear m0 h hs hq hw
      unfold bgV limV at *
      simp only [bgz] at *
      go_enter Tryz.func30, Tryz.ntmps30
      go_wp2_with fail
      refine HC1.out.mono ?_
      rintro e w1 ⟨rfl, rfl⟩
      go_wp2_with fail
      refine (HC2.out _).mono ?_
      rintro e w2 ⟨rfl, hg2⟩
      have m2 := HM.out.then hg2
      have a6 := m2.ff.a6
      have HM2 := hide m2
      clear m2 HM a0 a1 a2 d0 d1 d2 d3 HC1 HC2
      go_wp2_with fail
      refine (HC3.out _ HM2.out).mono ?_
      rintro e w3 ⟨rfl, hg3⟩
      have m3 := HM2.out.then hg3
      obtain ⟨d0, d1, d2, d3⟩ := box3 m3.box
      have HM3 := hide m3
      clear m3 HM2 a6 HC3
      go_wp2
      obtain ⟨r1, r2⟩ := row3 _ HM3.out.box (.int .u32 0) (.int .i64 0) (.int .i64 0)
      exact bodyPost_ret (results_bg rfl _ _ w.heap.size ⟨0, 0, 0⟩ (.int .i64 171) rfl r1 rfl) rfl ⟨rfl, gn_set (gn_set (gn_set HM3.out.gr (Nat.le_refl _)) (Nat.le_refl _)) (Nat.le_refl _)⟩
  · rw [decide_eq_false hs] at HC2
    unfold atX atE
    rw [if_neg hs, if_neg hs]
    have HM := hide m0
    clear m0 h hs hw
    unfold bgV limV at *
    simp only [bgz] at *
    go_enter Tryz.func30, Tryz.ntmps30
    go_wp2_with fail
    refine HC1.out.mono ?_
    rintro e w1 ⟨rfl, rfl⟩
    go_wp2_with fail
    refine (HC2.out _).mono ?_
    rintro e w2 ⟨rfl, hg2⟩
    have m2 := HM.out.then hg2
    obtain ⟨d0, d1, d2, d3⟩ := box3 m2.box
    have HM3 := hide m2
    clear m2 HM a0 a1 a2 HC1 HC2
    go_wp2
    obtain ⟨r1, r2⟩ := row3 _ HM3.out.box (.int .u32 0) (.int .i64 0) (.int .i64 0)
    exact bodyPost_ret (results_bg rfl _ _ w.heap.size ⟨0, 0, 0⟩ (.int .i64 140) rfl r1 rfl) rfl ⟨rfl, gn_set (gn_set (gn_set HM3.out.gr (Nat.le_refl _)) (Nat.le_refl _)) (Nat.le_refl _)⟩
end
end Go.Proofs.YtcbiloomnkbalaaGreatDoor
/- Books that are the same; a new one. -/
namespace Go.Proofs.YtcbiloomnkbalaaGreatDoor
open Go.RowKit
attribute [local go_sem ↓] Go.wp_at_zero Go.wp_at_succ
attribute [local go_sem] Oper.semAt_some
theorem isLike_eq (a b c c' : Nat) (w : World) : Calls Tryz.prog 48 #[limV a b c, limV a b c'] w fun e w' => e = .returned (.bool true) ∧ w.grownBy w' none := by
  unfold limV
  generalize (a : Int) = a
  generalize (b : Int) = b
  generalize (c : Int) = c
  generalize (c' : Int) = c'
  go_enter Tryz.func48, Tryz.ntmps48
  go_wp2
  go_ret
  exact ⟨rfl, grown_trans (grown_alloc _ _) (grown_alloc _ _)⟩
set_option maxHeartbeats 8000000 in
theorem same_eq {w : World} {p q : Bp} {S : Sb} {K K' : Nat} (hp : BkAt w p S K) (hq : BkAt w q S K') (hw : S.Wk) : Calls Tryz.prog 20 #[.pointer (some ⟨p.b, 0, none⟩), .pointer (some ⟨q.b, 0, none⟩)] w fun e w' => e = .returned (.bool true) ∧ w.grownBy w' none := by
  have HN1 := hide hp.isNone
  have HN2 := hide hq.isNone
  have HL : Hid (∀ W, Calls Tryz.prog 48 #[limV S.a S.b S.c, limV S.a S.b S.c] W fun e w' => e = .returned (.bool true) ∧ W.grownBy w' none) := fun W => isLike_eq _ _ _ _ W
  have HB1 : Hid (∀ W, w.grownBy W none → Calls Tryz.prog 50 #[.pointer (some ⟨p.b, 0, none⟩)] W fun e w' => ∃ v, e = .returned v ∧ BgA w' v S.L ∧ W.grownBy w' none) := by
    intro W hW
    refine (bookings_any (hp.then hW) hw).mono ?_
    rintro e w' ⟨v, rfl, h1, h2⟩
    exact ⟨v, rfl, BgA.own h1, h2⟩
  have HB2 : Hid (∀ W, w.grownBy W none → Calls Tryz.prog 50 #[.pointer (some ⟨q.b, 0, none⟩)] W fun e w' => ∃ v, e = .returned v ∧ BgA w' v S.L ∧ W.grownBy w' none) := by
    intro W hW
    refine (bookings_any (hq.then hW) hw).mono ?_
    rintro e w' ⟨v, rfl, h1, h2⟩
    exact ⟨v, rfl, BgA.own h1, h2⟩
  have HE : Hid (∀ W v u, BgA W v S.L → BgA W u S.L → Calls Tryz.prog 49 #[v, u] W fun e w' => e = .returned (.bool true) ∧ W.grownBy w' none) := by
    intro W v u h1 h2
    have := equal_any h1 h2 (by have := hw.few; have := hw.b1; omega)
    rw [decide_eq_true rfl] at this
    exact this
  have HK : Hid (∀ W, w.grownBy W none → (W.cell? ⟨p.b, 0, none⟩ = some (.int .i64 (S.a : Int)) ∧ W.cell? ⟨p.b, 1, none⟩ = some (.int .i64 (S.b : Int)) ∧ W.cell? ⟨p.b, 2, none⟩ = some (.int .i64 (S.c : Int)) ∧ W.cell? ⟨p.b, 4, none⟩ = some (.int .u32 (S.n : Int)) ∧ W.cell? ⟨p.b, 5, none⟩ = some (.int .i64 S.t)) ∧ W.cell? ⟨q.b, 0, none⟩ = some (.int .i64 (S.a : Int)) ∧ W.cell? ⟨q.b, 1, none⟩ = some (.int .i64 (S.b : Int)) ∧ W.cell? ⟨q.b, 2, none⟩ = some (.int .i64 (S.c : Int)) ∧ W.cell? ⟨q.b, 4, none⟩ = some (.int .u32 (S.n : Int)) ∧ W.cell? ⟨q.b, 5, none⟩ = some (.int .i64 S.t)) := fun W hW =>
    ⟨⟨(hp.then hW).cells 0 _ rfl, (hp.then hW).cells 1 _ rfl, (hp.then hW).cells 2 _ rfl, (hp.then hW).cells 4 _ rfl, (hp.then hW).cells 5 _ rfl⟩, (hq.then hW).cells 0 _ rfl, (hq.then hW).cells 1 _ rfl, (hq.then hW).cells 2 _ rfl, (hq.then hW).cells 4 _ rfl, (hq.then hW).cells 5 _ rfl⟩
  have hK0 := HK.out w (grown_refl _ _)
  clear hp hq hw
  unfold limV at HL
  generalize (S.a : Int) = a at *
  generalize (S.b : Int) = b at *
  generalize (S.c : Int) = c at *
  generalize (S.n : Int) = n at *
  generalize S.t = t at *
  go_enter Tryz.func20, Tryz.ntmps20
  go_wp2_with fail
  refine HN1.out.mono ?_
  rintro e w1 ⟨rfl, rfl⟩
  go_wp2_with fail
  refine HN2.out.mono ?_
  rintro e w2 ⟨rfl, rfl⟩
  go_wp2
  go_region_held3 (fun W => (W.cell? ⟨p.b, 0, none⟩ = some (.int .i64 a) ∧ W.cell? ⟨p.b, 1, none⟩ = some (.int .i64 b) ∧ W.cell? ⟨p.b, 2, none⟩ = some (.int .i64 c) ∧ W.cell? ⟨p.b, 4, none⟩ = some (.int .u32 n) ∧ W.cell? ⟨p.b, 5, none⟩ = some (.int .i64 t)) ∧ W.cell? ⟨q.b, 0, none⟩ = some (.int .i64 a) ∧ W.cell? ⟨q.b, 1, none⟩ = some (.int .i64 b) ∧ W.cell? ⟨q.b, 2, none⟩ = some (.int .i64 c) ∧ W.cell? ⟨q.b, 4, none⟩ = some (.int .u32 n) ∧ W.cell? ⟨q.b, 5, none⟩ = some (.int .i64 t)) (first | assumption | exact hK0)
    ((first
      | (go_at_call 48; refine (HL.out _).mono ?_; rintro e w3 ⟨rfl, hg3⟩; have g3 := grown_trans (grown_drew _ none) hg3; have hK3 := HK.out _ g3)
      | (go_at_call_of 50 (Value.pointer (some ⟨p.b, 0, none⟩)); refine (HB1.out _ g3).mono ?_; rintro e w4 ⟨v, rfl, hv4, hg4⟩; have g4 := grown_trans g3 hg4; have hK4 := HK.out _ g4)
      | (go_at_call_of 50 (Value.pointer (some ⟨q.b, 0, none⟩)); refine (HB2.out _ g4).mono ?_; rintro e w5 ⟨u, rfl, hu5, hg5⟩; have g5 := grown_trans g4 hg5; have hK5 := HK.out _ g5; have hv5 := hv4.then hg5)
      | (go_at_call 49; refine (HE.out _ _ _ hv5 hu5).mono ?_; rintro e w6 ⟨rfl, hg6⟩; have g6 := grown_trans g5 hg6; have hK6 := HK.out _ g6)))
  go_wp2
  go_ret
  exact ⟨rfl, g6⟩
set_option maxHeartbeats 4000000 in
theorem new_ok (a b c : Nat) (h : Gx.OkS a b c) (w : World) (hz : 0 < w.heap.size) : Calls Tryz.prog 12 #[limV a b c] w fun e w' => ∃ p, e = .returned (.tuple #[.pointer (some ⟨p.b, 0, none⟩), .int .i64 0]) ∧ BkAt w' p ⟨a, b, c, 1, 0, []⟩ 0 ∧ w.grownBy w' none ∧ (∀ i, p.own i → w.heap.size ≤ i) := by
  have HC1 : Hid (∀ W : World, Calls Tryz.prog 39 #[.agg #[.int .i64 (a : Int), .int .i64 (b : Int), .int .i64 (c : Int)]] W fun e w' => e = .returned (.int .i64 0) ∧ W.grownBy w' none) := fun W => Ge.check_ok _ _ _ h W
  have HC2 : Hid (∀ W : World, w.grownBy W none → Calls Tryz.prog 40 #[.agg #[.int .i64 (a : Int), .int .i64 (b : Int), .int .i64 (c : Int)], .int .u32 1, .int .i64 0] W fun e w' => ∃ p, e = .returned (.pointer (some ⟨p.b, 0, none⟩)) ∧ BkAt w' p ⟨a, b, c, 1, 0, []⟩ 0 ∧ w.grownBy w' none ∧ (∀ i, p.own i → w.heap.size ≤ i)) := by
    intro W hW
    refine (empty_any a b c 1 0 h W (by have := hW.size; omega)).mono ?_
    rintro e w' ⟨p, rfl, h1, h2, h3⟩
    exact ⟨p, rfl, h1, grown_trans hW h2, fun i hi => Nat.le_trans hW.size (h3 i hi)⟩
  have hb0 := heap_alloc_new w (.cells [.int .i64 (a : Int), .int .i64 (b : Int), .int .i64 (c : Int)].toArray 23)
  have HB0 := hide hb0
  clear h hz hb0
  unfold limV
  go_enter Tryz.func12, Tryz.ntmps12
  go_wp2_with fail
  refine (HC1.out _).mono ?_
  rintro e w1 ⟨rfl, hg1⟩
  have hg0 := grown_trans (grown_alloc w _) hg1
  obtain ⟨d0, d1, d2, -⟩ := box3 ((hg1.block _ (row_lt HB0.out) (by simp)).trans HB0.out)
  go_wp2_with fail
  refine (HC2.out _ hg0).mono ?_
  rintro e w2 ⟨p, rfl, h1, h2, h3⟩
  have HH := hide (And.intro h1 (And.intro h2 h3))
  clear h1 h2 h3
  go_wp2
  go_ret2
  exact ⟨p, rfl, HH.out⟩
end Go.Proofs.YtcbiloomnkbalaaGreatDoor
/- A book in the midst of a law: beside boxes of the law's own. -/
namespace Go.Proofs.YtcbiloomnkbalaaGreatDoor
open Go.RowKit
attribute [local go_sem ↓] Go.wp_at_zero Go.wp_at_succ
attribute [local go_sem] Oper.semAt_some
/-- A book at b, made since w, beside boxes. -/
structure Lk (w W : World) (b : Nat) (S : Sb) (K : Nat) (p : Bp) (Bs : List (Nat × List Value × TypeId)) : Prop where
  eb : p.b = b
  bk : BkAt W p S K
  gr : w.grownBy W none
  own : ∀ i, p.own i → w.heap.size ≤ i
  bx : ∀ x ∈ Bs, W.heap[x.1]? = some (.cells x.2.1.toArray x.2.2 (0, 0)) ∧ ¬ p.own x.1 ∧ w.heap.size ≤ x.1
section
variable {w W W' : World} {b : Nat} {S S' : Sb} {K K' : Nat} {p q : Bp} {Bs : List (Nat × List Value × TypeId)}
theorem Lk.kept (h : Lk w W b S K p Bs) (k : Kept W W' p.own) : w.grownBy W' none :=
  ((Kept.new h.gr (fun i => w.heap.size ≤ i)).trans k (fun i _ e => h.own i e)).grown (fun i hi e => by omega)
theorem Lk.step (h : Lk w W b S K p Bs) (k : Bst W W' p q) (hb : BkAt W' q S' K') : Lk w W' b S' K' q Bs :=
  ⟨k.b.trans h.eb, hb, h.kept k.kept, fun i hi => by
    rcases k.own i hi with e | e
    · exact h.own i e
    · exact Nat.le_trans h.gr.size e, fun x hx => by
    obtain ⟨h1, h2, h3⟩ := h.bx x hx
    refine ⟨k.kept.at h1 h2, fun e => ?_, h3⟩
    rcases k.own _ e with e | e
    · exact h2 e
    · have := row_lt h1; omega⟩
theorem Lk.then (h : Lk w W b S K p Bs) (g : W.grownBy W' none) : Lk w W' b S K p Bs := h.step (Bst.grown g p) (h.bk.then g)
theorem Lk.drew (h : Lk w W b S K p Bs) : Lk w W.drew b S K p Bs := h.then (grown_drew W none)
theorem Lk.box (h : Lk w W b S K p Bs) (cs : List Value) (ty : TypeId) : Lk w (W.alloc (.cells cs.toArray ty)) b S K p ((W.heap.size, cs, ty) :: Bs) := by
  have h1 := h.then (grown_alloc W (.cells cs.toArray ty))
  refine ⟨h1.eb, h1.bk, h1.gr, h1.own, fun x hx => ?_⟩
  rcases List.mem_cons.1 hx with rfl | hx
  · exact ⟨heap_alloc_new W _, fun e => Nat.lt_irrefl _ (h.bk.lt _ e), h.gr.size⟩
  · exact h1.bx x hx
theorem Lk.sub {Cs : List (Nat × List Value × TypeId)} (h : Lk w W b S K p Bs) (hs : ∀ x ∈ Cs, x ∈ Bs) : Lk w W b S K p Cs := ⟨h.eb, h.bk, h.gr, h.own, fun x hx => h.bx x (hs x hx)⟩
theorem Lk.bare (h : Lk w W b S K p Bs) : Lk w W b S K p [] := h.sub (fun x hx => by cases hx)
theorem Lk.more (h : Lk w W b S K p Bs) (hk : K ≤ K') : Lk w W b S K' p Bs := ⟨h.eb, h.bk.mono hk, h.gr, h.own, h.bx⟩
theorem Lk.put {X : Nat} {cs : List Value} {ty : TypeId} (h : Lk w W b S K p [(X, cs, ty)]) (j : Nat) (v : Value) : Lk w (W.setCell ⟨X, j, none⟩ v) b S K p [(X, cs.set j v, ty)] := by
  obtain ⟨h1, h2, h3⟩ := h.bx (X, cs, ty) (by simp)
  refine ⟨h.eb, h.bk.far (kept_setCell W X j v) (fun i hi e => h2 (by rw [← e]; exact hi)), grown_then h.gr (grown_setCell W X j v) (fun i e => .inl (by cases e; exact h3)), h.own, fun x hx => ?_⟩
  simp only [List.mem_singleton] at hx
  subst hx
  exact ⟨row_setCell h1 j v, h2, h3⟩
theorem Lk.cell {X : Nat} {cs : List Value} {ty : TypeId} (h : Lk w W b S K p Bs) (hm : (X, cs, ty) ∈ Bs) (j : Nat) (v : Value) (hv : cs[j]? = some v) : W.cell? ⟨X, j, none⟩ = some v := by
  rw [cell_row (h.bx _ hm).1]; exact hv
theorem Lk.free {X : Nat} {cs : List Value} {ty : TypeId} (h : Lk w W b S K p Bs) (hm : (X, cs, ty) ∈ Bs) (j : Nat) : W.frozen? ⟨X, j, none⟩ = false := free_row (h.bx _ hm).1 j
theorem Lk.apply (h : Lk w W b S K p Bs) (ho : S.Ok) (hK : K ≤ 10000000) (hT : Rk.Tab w) (r : Rc) (hr : r.Ok) : Calls Tryz.prog 36 #[.pointer (some ⟨b, 0, none⟩), Rk.rcV r] W fun e w' => e = .returned (.int .i64 (appE S r)) ∧ ∃ q, Lk w w' b (app S r) (K + 1) q Bs ∧ Bst W w' p q := by
  have := apply_any h.bk ho hK r hr (hT.grown h.gr (by simp))
  rw [h.eb] at this
  refine this.mono ?_
  rintro e w' ⟨rfl, q, h1, h2⟩
  exact ⟨rfl, q, h.step h2 h1, h2⟩
theorem Lk.len (h : Lk w W b S K p Bs) : Calls Tryz.prog 28 #[.pointer (some ⟨b, 0, none⟩)] W fun e w' => e = .returned (.int .i64 (S.L.length : Int)) ∧ w' = W := by
  have := len_any h.bk; rw [h.eb] at this; exact this
theorem Lk.next (h : Lk w W b S K p Bs) : Calls Tryz.prog 31 #[.pointer (some ⟨b, 0, none⟩)] W fun e w' => e = .returned (.int .u32 (S.n : Int)) ∧ w' = W := by
  have := next_any h.bk; rw [h.eb] at this; exact this
theorem Lk.clock (h : Lk w W b S K p Bs) : Calls Tryz.prog 32 #[.pointer (some ⟨b, 0, none⟩)] W fun e w' => e = .returned (.int .i64 S.t) ∧ w' = W := by
  have := clock_any h.bk; rw [h.eb] at this; exact this
theorem Lk.seat (h : Lk w W b S K p Bs) (hw : S.Wk) (s : Int) : Calls Tryz.prog 30 #[.pointer (some ⟨b, 0, none⟩), .int .i64 s] W fun e w' => e = .returned (.tuple #[bgV (atX S s), .int .i64 (atE S s)]) ∧ Lk w w' b S K p Bs := by
  have := at_any h.bk hw s; rw [h.eb] at this
  refine this.mono ?_
  rintro e w' ⟨rfl, g⟩
  exact ⟨rfl, h.then g⟩
theorem Lk.due (h : Lk w W b S K p Bs) (hw : S.Wk) : Calls Tryz.prog 33 #[.pointer (some ⟨b, 0, none⟩)] W fun e w' => ∃ x c, e = .returned (.tuple #[.int .i64 x.u, .bool c]) ∧ Fst S x c ∧ Lk w w' b S K p Bs := by
  have := due_any h.bk hw; rw [h.eb] at this
  refine this.mono ?_
  rintro e w' ⟨x, c, rfl, hF, h1, h2⟩
  exact ⟨x, c, rfl, hF, h.step (Bst.keep h2) h1⟩
theorem Lk.all (h : Lk w W b S K p Bs) (hw : S.Wk) : Calls Tryz.prog 27 #[.pointer (some ⟨b, 0, none⟩)] W fun e w' => ∃ u, e = .returned u ∧ VlV w' W.heap.size u S.L ∧ Lk w w' b S K p Bs := by
  have := all_any h.bk hw; rw [h.eb] at this
  refine this.mono ?_
  rintro e w' ⟨u, rfl, h1, h2⟩
  exact ⟨u, rfl, h1, h.then h2⟩
end
theorem new_lk (a b c : Nat) (h : Gx.OkS a b c) (w : World) (hz : 0 < w.heap.size) : Calls Tryz.prog 12 #[limV a b c] w fun e w' => ∃ x p, e = .returned (.tuple #[.pointer (some ⟨x, 0, none⟩), .int .i64 0]) ∧ Lk w w' x ⟨a, b, c, 1, 0, []⟩ 0 p [] := by
  refine (new_ok a b c h w hz).mono ?_
  rintro e w' ⟨p, rfl, h1, h2, h3⟩
  exact ⟨p.b, p, rfl, rfl, h1, h2, h3, fun x hx => by cases hx⟩
theorem Sb.Ok.new {a b c : Nat} (h : Gx.OkS a b c) : Sb.Ok ⟨a, b, c, 1, 0, []⟩ := by
  obtain ⟨h1, h2, h3, h4, h5, h6⟩ := h
  exact ⟨by simp only; omega, by simp only; omega, by simp only; omega, by simp only; omega, by simp only; omega, by simp only; omega, by simp only; omega, by simp only; omega, by simp only; omega, by simp only [mxC]; omega, List.Pairwise.nil, (fun x hx => by cases hx), (fun x hx => by cases hx), List.Pairwise.nil, (fun x hx => by cases hx), by simp⟩
/-- Records that lie somewhere. -/
def RecsAt (w : World) (ao : Option Addr) (rs : List Rc) : Prop := ∀ j r, rs[j]? = some r → ∃ blk off, ao = some (⟨blk, off, none⟩ : Addr) ∧ w.cell? ⟨blk, off + j * 5, none⟩ = some (.int .i64 r.k) ∧ w.cell? ⟨blk, off + j * 5 + 1, none⟩ = some (.int .u32 r.i) ∧ w.cell? ⟨blk, off + j * 5 + 2, none⟩ = some (.int .i64 r.s) ∧ w.cell? ⟨blk, off + j * 5 + 3, none⟩ = some (.int .i64 r.u) ∧ w.cell? ⟨blk, off + j * 5 + 4, none⟩ = some (.int .i64 r.c)
theorem RecsAt.grown {w w' : World} {ao : Option Addr} {os : List Rc} (h : RecsAt w ao os) (g : w.grownBy w' none) : RecsAt w' ao os := by
  intro j o hj
  obtain ⟨b, off, e, h1, h2, h3, h4, h5⟩ := h j o hj
  exact ⟨b, off, e, g.cell h1 (by simp), g.cell h2 (by simp), g.cell h3 (by simp), g.cell h4 (by simp), g.cell h5 (by simp)⟩
def S0 : Sb := ⟨3, 2, 1, 1, 0, []⟩
def S1 : Sb := ⟨3, 2, 1, 2, 0, [⟨1, 0, 10⟩]⟩
def S2 : Sb := ⟨3, 2, 1, 2, 10, []⟩
theorem S0_ok : S0.Ok := Sb.Ok.new (by decide)
theorem app0 : appE S0 ⟨1, 1, 0, 10, 0⟩ = 0 ∧ app S0 ⟨1, 1, 0, 10, 0⟩ = S1 := ⟨by decide, rfl⟩
theorem app1 : appE S1 ⟨1, 2, 0, 10, 0⟩ = 170 ∧ app S1 ⟨1, 2, 0, 10, 0⟩ = S1 := ⟨by decide, rfl⟩
theorem app2 : appE S1 ⟨5, 0, 0, 0, 10⟩ = 0 ∧ app S1 ⟨5, 0, 0, 0, 10⟩ = S2 := ⟨by decide, rfl⟩
theorem S1_ok : S1.Ok := by rw [← app0.2]; exact S0_ok.app _
set_option maxHeartbeats 8000000 in
theorem awake_any (w : World) (hT : Rk.Tab w) : Calls Tryz.prog 9 #[] w fun e w' => e = .returned (.bool true) ∧ w.grownBy w' none := by
  have HN := hide (new_lk 3 2 1 (by decide) w hT.lt)
  unfold limV at HN
  have HA0 : Hid (∀ W x p, Lk w W x S0 0 p [] → Calls Tryz.prog 36 #[.pointer (some ⟨x, 0, none⟩), .agg #[.int .i64 1, .int .u32 1, .int .i64 0, .int .i64 10, .int .i64 0]] W fun e w' => e = .returned (.int .i64 0) ∧ ∃ q, Lk w w' x S1 1 q []) := by
    intro W x p h
    have := h.apply S0_ok (by omega) hT ⟨1, 1, 0, 10, 0⟩ (by constructor <;> decide)
    rw [app0.1, app0.2] at this
    refine this.mono ?_
    rintro e w' ⟨rfl, q, h1, h2⟩
    exact ⟨rfl, q, h1⟩
  have HA1 : Hid (∀ W x p, Lk w W x S1 1 p [] → Calls Tryz.prog 36 #[.pointer (some ⟨x, 0, none⟩), .agg #[.int .i64 1, .int .u32 2, .int .i64 0, .int .i64 10, .int .i64 0]] W fun e w' => e = .returned (.int .i64 170) ∧ ∃ q, Lk w w' x S1 2 q []) := by
    intro W x p h
    have := h.apply S1_ok (by omega) hT ⟨1, 2, 0, 10, 0⟩ (by constructor <;> decide)
    rw [app1.1, app1.2] at this
    refine this.mono ?_
    rintro e w' ⟨rfl, q, h1, h2⟩
    exact ⟨rfl, q, h1⟩
  have HS : Hid (∀ W x p, Lk w W x S1 2 p [] → Calls Tryz.prog 30 #[.pointer (some ⟨x, 0, none⟩), .int .i64 0] W fun e w' => e = .returned (.tuple #[.agg #[.int .u32 1, .int .i64 0, .int .i64 10], .int .i64 0]) ∧ Lk w w' x S1 2 p []) := fun W x p h => h.seat S1_ok.wk 0
  have HA2 : Hid (∀ W x p Bs, Lk w W x S1 2 p Bs → Calls Tryz.prog 36 #[.pointer (some ⟨x, 0, none⟩), .agg #[.int .i64 5, .int .u32 0, .int .i64 0, .int .i64 0, .int .i64 10]] W fun e w' => e = .returned (.int .i64 0) ∧ ∃ q, Lk w w' x S2 3 q Bs) := by
    intro W x p Bs h
    have := h.apply S1_ok (by omega) hT ⟨5, 0, 0, 0, 10⟩ (by constructor <;> decide)
    rw [app2.1, app2.2] at this
    refine this.mono ?_
    rintro e w' ⟨rfl, q, h1, h2⟩
    exact ⟨rfl, q, h1⟩
  have HL : Hid (∀ W x p Bs, Lk w W x S2 3 p Bs → Calls Tryz.prog 28 #[.pointer (some ⟨x, 0, none⟩)] W fun e w' => e = .returned (.int .i64 0) ∧ w' = W) := fun W x p Bs h => h.len
  have HX : Hid (∀ W x p Bs, Lk w W x S2 3 p Bs → Calls Tryz.prog 31 #[.pointer (some ⟨x, 0, none⟩)] W fun e w' => e = .returned (.int .u32 2) ∧ w' = W) := fun W x p Bs h => h.next
  have HK : Hid (∀ W x p Bs, Lk w W x S2 3 p Bs → Calls Tryz.prog 32 #[.pointer (some ⟨x, 0, none⟩)] W fun e w' => e = .returned (.int .i64 10) ∧ w' = W) := fun W x p Bs h => h.clock
  clear hT
  go_enter Tryz.func9, Tryz.ntmps9
  go_wp2_with fail
  refine HN.out.mono ?_
  rintro e w1 ⟨x, p, rfl, hh⟩
  have H1 := hide hh
  clear hh HN
  go_wp2_with fail
  refine (HA0.out _ _ _ H1.out).mono ?_
  rintro e w2 ⟨rfl, q, hh⟩
  have H2 := hide hh
  clear hh HA0 H1
  go_wp2_with fail
  refine (HA1.out _ _ _ H2.out).mono ?_
  rintro e w3 ⟨rfl, q, hh⟩
  have H3 := hide hh
  clear hh HA1 H2
  go_wp2_with fail
  refine (HS.out _ _ _ H3.out).mono ?_
  rintro e w4 ⟨rfl, hh⟩
  have H4 := hide (hh.box [.int .u32 1, .int .i64 0, .int .i64 10] 78)
  clear hh HS H3
  go_wp2_with fail
  refine (HA2.out _ _ _ _ H4.out).mono ?_
  rintro e w5 ⟨rfl, q, hh⟩
  have x0 := hh.cell (List.mem_cons_self) 0 _ rfl
  have x1 := hh.cell (List.mem_cons_self) 1 _ rfl
  have x2 := hh.cell (List.mem_cons_self) 2 _ rfl
  have H5 := hide hh
  clear hh HA2 H4
  go_wp2_with fail
  refine (HL.out _ _ _ _ H5.out).mono ?_
  rintro e w6 ⟨rfl, rfl⟩
  go_wp2_with fail
  refine (HX.out _ _ _ _ H5.out).mono ?_
  rintro e w7 ⟨rfl, rfl⟩
  go_wp2_with fail
  refine (HK.out _ _ _ _ H5.out).mono ?_
  rintro e w8 ⟨rfl, rfl⟩
  go_wp2
  go_ret
  exact ⟨rfl, H5.out.gr⟩
end Go.Proofs.YtcbiloomnkbalaaGreatDoor
/- What the rows' listed table gives; a world for the witnesses; arguments that are rows of bytes, records: shared by the rows' proofs. -/
namespace Go.Proofs.YtcbiloomnkbalaaGreatDoor
open Go.ChangeShapes Go.WideShapes Go.ChangeAt Go.RowKit Go.Deep

theorem seat_own : ownKnob Tryz.prog.godebug = none := by kernel_rfl
theorem seat_laid : laidOutB Tryz.prog = true := by kernel_rfl
theorem gTab : Tryz.prog.globalNamed "gangway/records.fieldsOf" = some 0 := by kernel_rfl
theorem gTabType : (Tryz.prog.globals[0]?).map (·.type) = some 160 := by kernel_rfl
theorem cells160 : Tryz.prog.cellsOf 160 = 24 := by kernel_rfl
theorem cells159 : Tryz.prog.cellsOf 159 = 4 := by kernel_rfl
theorem cells4 : Tryz.prog.cellsOf 4 = 1 := by kernel_rfl
theorem cellsOf46 : Tryz.prog.cellsOf 46 = 5 := by kernel_rfl
theorem cellsOf44 : Tryz.prog.cellsOf 44 = 1 := by kernel_rfl
theorem cellsOf24 : Tryz.prog.cellsOf 24 = 1 := by kernel_rfl
theorem cellsOf3 : Tryz.prog.cellsOf 3 = 1 := by kernel_rfl
theorem cellsOf2 : Tryz.prog.cellsOf 2 = 1 := by kernel_rfl
theorem listOf4 {α : Type} {l : List α} (h : l.length = 4) : ∃ a b c d, l = [a, b, c, d] := by
  match l, h with
  | [a, b, c, d], _ => exact ⟨a, b, c, d, rfl⟩
theorem listOf5 {α : Type} {l : List α} (h : l.length = 5) : ∃ a b c d e, l = [a, b, c, d, e] := by
  match l, h with
  | [a, b, c, d, e], _ => exact ⟨a, b, c, d, e, rfl⟩
variable {H : Type} {enc : TypeId × Value → H}
/-- Four bools that read as such lie so. -/
theorem cells_fields {w : World} {base : Nat} {sp : Nat → Bool} {held : Bool} {fuel : Nat} {cs : List Value} {a b c d : Bool} {p : List MemPlace}
    (h : DataW.trod enc Tryz.prog w base sp held fuel 159 cs = some (.agg [.lit (.bool a), .lit (.bool b), .lit (.bool c), .lit (.bool d)], p)) : cs = [.bool a, .bool b, .bool c, .bool d] := by
  obtain ⟨xs, n, _, hx, hl, hsz, hf⟩ := DataW.trod_struct Tryz.underlying159 h
  rw [cells159] at hl
  obtain ⟨v0, v1, v2, v3, rfl⟩ := listOf4 hl
  obtain ⟨y0, y1, y2, y3, rfl⟩ := listOf4 (show xs.length = 4 from hsz)
  have f0 : DataW.trod enc Tryz.prog w base sp held n 4 [v0] = some y0 := by simpa [cells4] using hf 0 _ rfl
  have f1 : DataW.trod enc Tryz.prog w base sp held n 4 [v1] = some y1 := by simpa [cells4] using hf 1 _ rfl
  have f2 : DataW.trod enc Tryz.prog w base sp held n 4 [v2] = some y2 := by simpa [cells4] using hf 2 _ rfl
  have f3 : DataW.trod enc Tryz.prog w base sp held n 4 [v3] = some y3 := by simpa [cells4] using hf 3 _ rfl
  obtain ⟨b0, e0, rfl⟩ := DataW.trod_bool Tryz.underlying4 f0
  obtain ⟨b1, e1, rfl⟩ := DataW.trod_bool Tryz.underlying4 f1
  obtain ⟨b2, e2, rfl⟩ := DataW.trod_bool Tryz.underlying4 f2
  obtain ⟨b3, e3, rfl⟩ := DataW.trod_bool Tryz.underlying4 f3
  have hd := congrArg Prod.fst hx
  simp at hd e0 e1 e2 e3
  obtain ⟨rfl, rfl, rfl, rfl⟩ := hd
  rw [e0, e1, e2, e3]
theorem table {W : World} (h : laidMetH Tryz.prog [("gangway/records.fieldsOf", Rows.laid_gangway_records_fieldsOf)] W) : Rk.Tab W := by
  have h' : laidMet Tryz.prog [("gangway/records.fieldsOf", Rows.laid_gangway_records_fieldsOf)] W := h
  obtain ⟨ps, ⟨g', t', cs, fuel, p, q, hg', ht', hvar, hd, _, _⟩, _⟩ := h'
  obtain rfl := Option.some.inj (gTab.symm.trans hg')
  obtain rfl := Option.some.inj (gTabType.symm.trans ht')
  cases fuel with
  | zero => simp [DataW.trod] at hd
  | succ fuel =>
    simp only [DataW.trod, Tryz.underlying160, cells160, cells159] at hd
    split at hd
    · rename_i hl
      obtain ⟨xs, hm, hx⟩ := Option.map_eq_some_iff.1 hd
      have hxs := congrArg Prod.fst hx
      simp only [Rows.laid_gangway_records_fieldsOf, DataW.agg.injEq] at hxs
      have key : ∀ i (a b c d : Bool), i < 6 → (xs.map (·.1))[i]? = some (.agg [.lit (.bool a), .lit (.bool b), .lit (.bool c), .lit (.bool d)]) → (cs.toList.drop (i * 4)).take 4 = [.bool a, .bool b, .bool c, .bool d] := by
        intro i a b c d hi he
        obtain ⟨y, hy, hf⟩ := Lib.mapM_at hm i i (by simp [hi])
        rw [List.getElem?_map, hy] at he
        obtain ⟨y1, y2⟩ := y
        simp at he
        subst he
        exact cells_fields hf
      rw [hxs] at key
      have k0 := key 0 _ _ _ _ (by decide) rfl
      have k1 := key 1 _ _ _ _ (by decide) rfl
      have k2 := key 2 _ _ _ _ (by decide) rfl
      have k3 := key 3 _ _ _ _ (by decide) rfl
      have k4 := key 4 _ _ _ _ (by decide) rfl
      have k5 := key 5 _ _ _ _ (by decide) rfl
      have hall : cs.toList = Rk.tabB.map Value.bool := by
        have e : cs.toList = (cs.toList.drop (0 * 4)).take 4 ++ ((cs.toList.drop (1 * 4)).take 4 ++ ((cs.toList.drop (2 * 4)).take 4 ++ ((cs.toList.drop (3 * 4)).take 4 ++ ((cs.toList.drop (4 * 4)).take 4 ++ (cs.toList.drop (5 * 4)).take 4)))) := by
          have s : ∀ n, cs.toList.drop n = (cs.toList.drop n).take 4 ++ cs.toList.drop (n + 4) := by
            intro n
            conv => lhs; rw [← List.take_append_drop 4 (cs.toList.drop n), List.drop_drop]
          have z : (cs.toList.drop (5 * 4)).take 4 = cs.toList.drop (5 * 4) := List.take_of_length_le (by rw [List.length_drop, hl]; decide)
          rw [z, ← s (4 * 4), ← s (3 * 4), ← s (2 * 4), ← s (1 * 4), ← s (0 * 4)]
          simp
        rw [e, k0, k1, k2, k3, k4, k5]
        rfl
      intro j hj
      have := World.var?_cell gTab hvar j
      rw [this, show cs[j]? = cs.toList[j]? by simp, hall, List.getElem?_map, List.getD_eq_getElem?_getD]
      have hjl : j < Rk.tabB.length := hj
      rw [List.getElem?_eq_getElem hjl]
      rfl
    · cases hd
/-- A world for the witness: the table (block 0) holding what its initialiser lays. -/
noncomputable def laidWorld (os : Os) : World :=
  { World.holding Tryz.prog os ⟨#[], #[], []⟩ with heap := (World.holding Tryz.prog os ⟨#[], #[], []⟩).heap.modify 0 fun
      | .cells _ t frozen => .cells (Rk.tabB.map Value.bool).toArray t frozen
      | o => o }
end Go.Proofs.YtcbiloomnkbalaaGreatDoor
namespace Go.Proofs.YtcbiloomnkbalaaGreatDoor
/- What records come to: Of. -/
open Go.RowKit
attribute [local go_sem ↓] Go.wp_at_zero Go.wp_at_succ
attribute [local go_sem] Oper.semAt_some
/-- A new book's state. -/
def nS (a b c : Nat) : Sb := ⟨a, b, c, 1, 0, []⟩
end Go.Proofs.YtcbiloomnkbalaaGreatDoor
/- The contracts of the document's functions: Check, Size, Image, hold. -/
namespace Go.Proofs.YtcbiloomnkbalaaGreatDoor.Ge
open Go.RowKit
attribute [local go_sem ↓] Go.wp_at_zero Go.wp_at_succ

set_option maxHeartbeats 1000000 in
theorem rcheck_ok (a b c : Int) (h : Gx.OkS a b c) (w : World) : Calls Tryz.prog 43 #[shV a b c] w fun e w' => e = .returned (.int .i64 0) ∧ w.grownBy w' none := by
  have hG : ∀ o, w.grownBy (w.alloc o) none := fun o => grown_alloc w o
  obtain ⟨h1, h2, h3, h4, h5, h6⟩ := h
  unfold shV
  go_enter Tryz.func43, Tryz.ntmps43
  go_wp2
  go_ret
  exact ⟨rfl, hG _⟩

set_option maxHeartbeats 2000000 in
theorem rcheck_no (a b c : Int) (h : ¬ Gx.OkS a b c) (w : World) : Calls Tryz.prog 43 #[shV a b c] w fun e w' => e = .returned (.int .i64 90) ∧ w.grownBy w' none := by
  have hG : ∀ o, w.grownBy (w.alloc o) none := fun o => grown_alloc w o
  have hh : a < 1 ∨ (1 ≤ a ∧ 1024 < a) ∨ (1 ≤ a ∧ a ≤ 1024 ∧ b < 1) ∨ (1 ≤ a ∧ a ≤ 1024 ∧ 1 ≤ b ∧ 4096 < b) ∨ (1 ≤ a ∧ a ≤ 1024 ∧ 1 ≤ b ∧ b ≤ 4096 ∧ c < 1) ∨ (1 ≤ a ∧ a ≤ 1024 ∧ 1 ≤ b ∧ b ≤ 4096 ∧ 1 ≤ c ∧ 64 < c) := by
    unfold Gx.OkS at h; omega
  clear h
  unfold shV
  rcases hh with h1 | ⟨h1, h2⟩ | ⟨h1, h2, h3⟩ | ⟨h1, h2, h3, h4⟩ | ⟨h1, h2, h3, h4, h5⟩ | ⟨h1, h2, h3, h4, h5, h6⟩
  all_goals
    go_enter Tryz.func43, Tryz.ntmps43
    go_wp2
    go_ret
    exact ⟨rfl, hG _⟩

/-- The sizes one behind the other. -/
def pw (j : Nat) : Int := 64 * 2 ^ j
end Go.Proofs.YtcbiloomnkbalaaGreatDoor.Ge
/- A book behind some records. -/
namespace Go.Proofs.YtcbiloomnkbalaaGreatDoor
open Go.RowKit
attribute [local go_sem ↓] Go.wp_at_zero Go.wp_at_succ
attribute [local go_sem] Oper.semAt_some
def Sb.Mk (S : Sb) : Prop := S.Ok ∧ S.a = 12 ∧ S.b = 8 ∧ S.c = 4
theorem app_shape (S : Sb) (r : Rc) : (app S r).a = S.a ∧ (app S r).b = S.b ∧ (app S r).c = S.c := by
  unfold app appS
  repeat' split
  all_goals exact ⟨rfl, rfl, rfl⟩
theorem Sb.Mk.app {S : Sb} (h : S.Mk) (r : Rc) : (app S r).Mk := by
  obtain ⟨h1, h2, h3⟩ := app_shape S r
  exact ⟨h.1.app r, h1.trans h.2.1, h2.trans h.2.2.1, h3.trans h.2.2.2⟩
end Go.Proofs.YtcbiloomnkbalaaGreatDoor
/- BookSound, walked. -/
namespace Go.Proofs.YtcbiloomnkbalaaGreatDoor
open Go.RowKit
attribute [local go_sem ↓] Go.wp_at_zero Go.wp_at_succ
attribute [local go_sem] Oper.semAt_some
section
variable {w w1 W W' : World} {b : Nat} {S S' : Sb} {K K' : Nat} {p q : Bp} {Bs : List (Nat × List Value × TypeId)}
/-- A row of bookings that was made behind the book, taken among the boxes. -/
theorem Lk.row {B : Nat} {v : Value} {X : List Bg} (h : Lk w W b S K p Bs) (hr : W.ownsRow B 78 3 v X.length (bgs X)) (hB : ∀ i, p.own i → i < B) (hw : w.heap.size ≤ B) : ∃ vo cap Rb, v = .slice vo X.length cap ∧ Lk w W b S K p (Rb ++ Bs) ∧ ∀ j, j < X.length → ∃ g cs, vo = some ⟨g, 0, none⟩ ∧ (g, cs, 78) ∈ Rb ++ Bs ∧ cs[j * 3]? = some (.int .u32 ((rd X j).i : Int)) ∧ cs[j * 3 + 1]? = some (.int .i64 ((rd X j).s : Int)) ∧ cs[j * 3 + 2]? = some (.int .i64 (rd X j).u) := by
  obtain ⟨vo, vcap, rfl, hle⟩ := Ix.own_form hr
  by_cases hn : 0 < X.length
  · obtain ⟨g, c, cur, e1, e2, e3, e4, e5, e6, e7⟩ := Ix.own_row hr hn
    cases e1
    refine ⟨_, _, [(g, cur, 78)], rfl, ⟨h.eb, h.bk, h.gr, h.own, fun x hx => ?_⟩, fun j hj => ?_⟩
    · rcases List.mem_append.1 hx with hx | hx
      · simp only [List.mem_singleton] at hx
        subst hx
        exact ⟨e3, fun e => by have := hB _ e; omega, by simp only; omega⟩
      · exact h.bx x hx
    · obtain ⟨b1, b2, b3⟩ := bgs_get hj
      refine ⟨g, cur, rfl, by simp, ?_, ?_, ?_⟩
      · have := Ix.own_cell e3 e7 b1; rw [cell_row e3] at this; exact this
      · have := Ix.own_cell e3 e7 b2; rw [cell_row e3] at this; exact this
      · have := Ix.own_cell e3 e7 b3; rw [cell_row e3] at this; exact this
  · refine ⟨_, _, [], rfl, h, fun j hj => absurd hj (by omega)⟩
end
/-- The least until of what is held. -/
def Pr (L : List Bg) (a : Int) : Prop := (a = 0 ∧ ∀ y ∈ L, y.u = 0) ∨ (a ≠ 0 ∧ (∃ x ∈ L, x.u = a) ∧ ∀ y ∈ L, y.u ≠ 0 → a ≤ y.u)
theorem Pr.keep {L : List Bg} {a : Int} {x : Bg} (h : Pr L a) (hx : x.u = 0 ∨ (a ≠ 0 ∧ a ≤ x.u)) : Pr (L ++ [x]) a := by
  rcases h with ⟨rfl, h⟩ | ⟨h0, ⟨z, hz, hze⟩, h⟩
  · refine .inl ⟨rfl, fun y hy => ?_⟩
    rcases List.mem_append.1 hy with hy | hy
    · exact h y hy
    · simp at hy; subst hy
      rcases hx with hx | hx
      · exact hx
      · exact absurd rfl hx.1
  · refine .inr ⟨h0, ⟨z, by simp [hz], hze⟩, fun y hy hu => ?_⟩
    rcases List.mem_append.1 hy with hy | hy
    · exact h y hy hu
    · simp at hy; subst hy
      rcases hx with hx | hx
      · exact absurd hx hu
      · exact hx.2
theorem Pr.take {L : List Bg} {a : Int} {x : Bg} (h : Pr L a) (hx : x.u ≠ 0) (hlt : a = 0 ∨ x.u < a) : Pr (L ++ [x]) x.u := by
  refine .inr ⟨hx, ⟨x, by simp, rfl⟩, fun y hy hu => ?_⟩
  rcases List.mem_append.1 hy with hy | hy
  · rcases h with ⟨rfl, h⟩ | ⟨h0, -, h⟩
    · exact absurd (h y hy) hu
    · have := h y hy hu
      rcases hlt with hlt | hlt <;> omega
  · simp at hy; subst hy; omega
theorem Pr.due {S : Sb} {a : Int} {x : Bg} {c : Bool} (h : Pr S.L a) (hF : Fst S x c) : x.u = a ∧ ((a = 0 ∧ c = false) ∨ (a ≠ 0 ∧ c = true)) := by
  rcases h with ⟨rfl, h⟩ | ⟨h0, ⟨z, hz, hze⟩, h⟩ <;> rcases hF with ⟨rfl, rfl, hF⟩ | ⟨rfl, hx, hu, hF⟩
  · exact ⟨rfl, .inl ⟨rfl, rfl⟩⟩
  · exact absurd (h x hx) hu
  · exact absurd (hze.symm.trans (hF z hz)) h0
  · have h1 := h x hx hu
    have h2 := hF z hz (by omega)
    exact ⟨by omega, .inr ⟨h0, rfl⟩⟩
theorem rd_mem {L : List Bg} {j : Nat} (hj : j < L.length) : rd L j ∈ L := by
  unfold rd; rw [List.getElem?_eq_getElem hj]; exact List.getElem_mem hj
theorem rd_asc {L : List Bg} (h : AscB L) {j k : Nat} (hjk : j < k) (hk : k < L.length) : (rd L j).i < (rd L k).i := by
  unfold rd
  rw [List.getElem?_eq_getElem hk, List.getElem?_eq_getElem (by omega)]
  exact List.pairwise_iff_getElem.1 h j k (by omega) hk hjk
end Go.Proofs.YtcbiloomnkbalaaGreatDoor
