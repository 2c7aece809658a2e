/- Texts joined: Dr4, De4, Dr7. -/
import Derived.Test.YtjfhilignbeboaaGreatDoorJqAt
import Derived.Test.YtjfhilignbeboaaGreatDoorJqAu
namespace Go.Proofs.YtjfhilignbeboaaGreatDoor
/- The document: Refused of the kind 4. -/
open Go.RowKit
attribute [local go_sem ↓] Go.wp_at_zero Go.wp_at_succ
attribute [local go_sem] Oper.semAt_some
set_option maxRecDepth 20000 in
set_option maxHeartbeats 8000000 in
theorem rref_4 {w : World} {lo d : Nat} {v : Value} {S : Sb} (h : Db w lo d v S) (ho : S.Ok) (t : Int) (i s : Nat) (u : Int) (hm : Rs.Rq.May ⟨4, t, (i : Int), (s : Int), u⟩) : Calls Tryz.prog 50 #[.pointer (some ⟨d, 0, none⟩), .agg #[.int .i64 4, .int .u32 t, .int .u32 (i : Int), .int .i64 (s : Int), .int .i64 u]] w fun e w' => e = .returned (.int .i64 (fstE [idE S ⟨4, t, (i : Int), (s : Int), u⟩, stE S ⟨4, t, (i : Int), (s : Int), u⟩, frE S ⟨4, t, (i : Int), (s : Int), u⟩])) ∧ w.grownBy w' none := by
  have hmn := Rs.may_nums hm
  simp only at hmn
  obtain ⟨hb1, hb2⟩ : 0 ≤ u ∧ (s : Int) ≤ 65535 := ⟨by omega, by omega⟩
  obtain ⟨res, hres⟩ : ∃ res, res = fstE [idE S ⟨4, t, (i : Int), (s : Int), u⟩, stE S ⟨4, t, (i : Int), (s : Int), u⟩, frE S ⟨4, t, (i : Int), (s : Int), u⟩] := ⟨_, rfl⟩
  rw [← hres]
  have m0 : Rx w (w.alloc (.cells [Value.int .i64 4, .int .u32 t, .int .u32 (i : Int), .int .i64 (s : Int), .int .i64 u].toArray 25)) lo d v S ⟨4, t, (i : Int), (s : Int), u⟩ w.heap.size ⟨0, 0, 0⟩ ∨ True := .inr trivial
  clear m0
  have g0 := grown_alloc w (.cells [Value.int .i64 4, .int .u32 t, .int .u32 (i : Int), .int .i64 (s : Int), .int .i64 u].toArray 25)
  have HD0 := hide (h.then g0)
  have HQ0 := hide (heap_alloc_new w (.cells [Value.int .i64 4, .int .u32 t, .int .u32 (i : Int), .int .i64 (s : Int), .int .i64 u].toArray 25))
  have HH : Hid (∀ W, Db W lo d v S → Calls Tryz.prog 55 #[.pointer (some ⟨d, 0, none⟩), .int .u32 (i : Int)] W fun e w' => e = .returned (.tuple #[bgV ((fnd S.L i).getD ⟨0, 0, 0⟩), .bool (fnd S.L i).isSome]) ∧ W.grownBy w' none) := fun W hW => has_any hW ho i
  have HO : Hid (∀ W, Db W lo d v S → Calls Tryz.prog 56 #[.pointer (some ⟨d, 0, none⟩), .int .i64 (s : Int)] W fun e w' => e = .returned (.tuple #[bgV ((sat S.L s).getD ⟨0, 0, 0⟩), .bool (sat S.L s).isSome]) ∧ W.grownBy w' none) := fun W hW => on_any hW ho s
  have HNum : Hid (((fnd S.L i).isSome = false → res = 171) ∧ ((fnd S.L i).isSome = true → ¬ (s : Int) < (S.a : Int) → res = 140) ∧ ((fnd S.L i).isSome = true → (s : Int) < (S.a : Int) → (sat S.L s).isSome = true → ¬ (((sat S.L s).getD ⟨0, 0, 0⟩).i : Int) = (i : Int) → res = 170) ∧ ((fnd S.L i).isSome = true → (s : Int) < (S.a : Int) → (sat S.L s).isSome = true → (((sat S.L s).getD ⟨0, 0, 0⟩).i : Int) = (i : Int) → res = 0) ∧ ((fnd S.L i).isSome = true → (s : Int) < (S.a : Int) → (sat S.L s).isSome = false → res = 0)) := by
    subst hres
    refine ⟨fun h1 => ?_, fun h1 h2 => ?_, fun h1 h2 h3 h4 => ?_, fun h1 h2 h3 h4 => ?_, fun h1 h2 h3 => ?_⟩
    · rw [idE_171 h1]; simp [fstE]
    · rw [idE_0 h1, stE_140 h2]; simp [fstE]
    · rw [idE_0 h1, stE_0 h2, frE_170 h2 h3 h4]; simp [fstE]
    · rw [idE_0 h1, stE_0 h2, frE_own h2 h4]; simp [fstE]
    · rw [idE_0 h1, stE_0 h2, frE_no h2 h3]; simp [fstE]
  have HG0 := hide g0
  clear hmn hm h ho g0 hres
  generalize (fnd S.L i).getD ⟨0, 0, 0⟩ = x at *
  generalize (sat S.L s).getD ⟨0, 0, 0⟩ = y at *
  generalize (fnd S.L i).isSome = bx at *
  generalize (sat S.L s).isSome = by' at *
  obtain ⟨xi, xs, xu⟩ := x
  obtain ⟨yi, ys, yu⟩ := y
  unfold bgV at HH HO
  simp only at *
  generalize hI : (i : Int) = I at *
  generalize hSs : (s : Int) = s1 at *
  clear hI hSs
  rcases (show u < 1 ∨ (1 ≤ u ∧ u ≤ 1073741824) ∨ (1 ≤ u ∧ 1073741824 < u) by omega) with hu | ⟨hu, hu2⟩ | ⟨hu, hu2⟩
  · skip
    go_enter Tryz.func50, Tryz.ntmps50
    go_wp2_with fail
    refine (HH.out _ HD0.out).mono ?_
    rintro e w2 ⟨rfl, hg2⟩
    have G3 := hide (grown_trans hg2 (grown_alloc w2 (.cells #[.int .u32 (xi : Int), .int .i64 (xs : Int), .int .i64 xu] 51)))
    obtain ⟨p0, p1, p2, p3, p4⟩ := bx5 (box_to HQ0.out G3.out)
    obtain ⟨r0, r1, r2, r3, r4⟩ := bx5 (box_to HQ0.out hg2)
    go_wp2_with fail
    generalize World.alloc w2 _ = w3 at *
    refine (HO.out _ (HD0.out.then G3.out)).mono ?_
    rintro e w4 ⟨rfl, hg4⟩
    have G5 := hide (grown_trans (grown_trans G3.out hg4) (grown_alloc w4 (.cells #[.int .u32 (yi : Int), .int .i64 (ys : Int), .int .i64 yu] 51)))
    have X : Hid (Rx w (w4.alloc (.cells #[.int .u32 (yi : Int), .int .i64 (ys : Int), .int .i64 yu] 51)) lo d v S ⟨4, t, I, s1, u⟩ w4.heap.size ⟨yi, ys, yu⟩) := ⟨HD0.out.then G5.out, grown_trans HG0.out G5.out, box_to HQ0.out G5.out, heap_alloc_new w4 _⟩
    obtain ⟨z0, z1, z2, z3, z4⟩ := bx5 (box_to HQ0.out (grown_trans G3.out hg4))
    clear hg2 G3 p0 p1 p2 p3 p4 r0 r1 r2 r3 r4 hg4 G5 HH HO HD0 HQ0 HG0
    obtain ⟨⟨a1, a2, a4, a5, a6⟩, ⟨q0, q1, q2, q3, q4⟩, y0⟩ := X.out.ff
    simp only at q0 q1 q2 q3 q4 y0
    generalize hBy : w4.heap.size = B at *
    generalize hw5 : World.alloc w4 _ = w5 at X a1 a2 a4 a5 a6 q0 q1 q2 q3 q4 y0
    have HW5 := hide hw5
    cases bx with
    | false =>
      go_wp2
      go_ret
      exact ⟨by rw [HNum.out.1 (by first | exact True.intro | rfl)]; rfl, X.out.gr⟩
    | true =>
      by_cases hs : s1 < (S.a : Int)
      rotate_left
      · have hs2 : (S.a : Int) ≤ s1 := by omega
        go_wp2
        go_quiet (fail)
        go_wp2
        go_ret
        exact ⟨by rw [HNum.out.2.1 (by first | exact True.intro | rfl) hs]; rfl, (X.out.then (grown_drewN _ _ none)).gr⟩
      go_wp2
      go_quiet (fail)
      clear a1 a2 a4 a5 a6 q0 q1 q2 q3 q4 y0
      have X1 := hide (X.out.then (grown_drewN _ nq none))
      clear X
      generalize World.drewN _ nq = wq at *
      have X := X1
      clear X1
      obtain ⟨⟨a1, a2, a4, a5, a6⟩, ⟨q0, q1, q2, q3, q4⟩, y0⟩ := X.out.ff
      simp only at q0 q1 q2 q3 q4 y0
      cases by' with
      | false =>
        go_wp2
        go_ret
        exact ⟨by rw [HNum.out.2.2.2.2 (by first | exact True.intro | rfl) hs (by first | exact True.intro | rfl)]; rfl, X.out.gr⟩
      | true =>
        by_cases hy : (yi : Int) = I
        · have f1 : ((yi : Int) != I) = false := by simpa using hy
          have f2 : decide ((yi : Int) = I) = true := decide_eq_true hy
          go_wp2
          go_ret
          exact ⟨by rw [HNum.out.2.2.2.1 (by first | exact True.intro | rfl) hs (by first | exact True.intro | rfl) hy]; rfl, X.out.gr⟩
        · have f1 : ((yi : Int) != I) = true := by simpa using hy
          have f2 : decide ((yi : Int) = I) = false := decide_eq_false hy
          go_wp2
          go_ret
          exact ⟨by rw [HNum.out.2.2.1 (by first | exact True.intro | rfl) hs (by first | exact True.intro | rfl) hy]; rfl, X.out.gr⟩
  · skip
    go_enter Tryz.func50, Tryz.ntmps50
    go_wp2_with fail
    refine (HH.out _ HD0.out).mono ?_
    rintro e w2 ⟨rfl, hg2⟩
    have G3 := hide (grown_trans hg2 (grown_alloc w2 (.cells #[.int .u32 (xi : Int), .int .i64 (xs : Int), .int .i64 xu] 51)))
    obtain ⟨p0, p1, p2, p3, p4⟩ := bx5 (box_to HQ0.out G3.out)
    obtain ⟨r0, r1, r2, r3, r4⟩ := bx5 (box_to HQ0.out hg2)
    go_wp2_with fail
    generalize World.alloc w2 _ = w3 at *
    refine (HO.out _ (HD0.out.then G3.out)).mono ?_
    rintro e w4 ⟨rfl, hg4⟩
    have G5 := hide (grown_trans (grown_trans G3.out hg4) (grown_alloc w4 (.cells #[.int .u32 (yi : Int), .int .i64 (ys : Int), .int .i64 yu] 51)))
    have X : Hid (Rx w (w4.alloc (.cells #[.int .u32 (yi : Int), .int .i64 (ys : Int), .int .i64 yu] 51)) lo d v S ⟨4, t, I, s1, u⟩ w4.heap.size ⟨yi, ys, yu⟩) := ⟨HD0.out.then G5.out, grown_trans HG0.out G5.out, box_to HQ0.out G5.out, heap_alloc_new w4 _⟩
    obtain ⟨z0, z1, z2, z3, z4⟩ := bx5 (box_to HQ0.out (grown_trans G3.out hg4))
    clear hg2 G3 p0 p1 p2 p3 p4 r0 r1 r2 r3 r4 hg4 G5 HH HO HD0 HQ0 HG0
    obtain ⟨⟨a1, a2, a4, a5, a6⟩, ⟨q0, q1, q2, q3, q4⟩, y0⟩ := X.out.ff
    simp only at q0 q1 q2 q3 q4 y0
    generalize hBy : w4.heap.size = B at *
    generalize hw5 : World.alloc w4 _ = w5 at X a1 a2 a4 a5 a6 q0 q1 q2 q3 q4 y0
    have HW5 := hide hw5
    cases bx with
    | false =>
      go_wp2
      go_ret
      exact ⟨by rw [HNum.out.1 (by first | exact True.intro | rfl)]; rfl, X.out.gr⟩
    | true =>
      by_cases hs : s1 < (S.a : Int)
      rotate_left
      · have hs2 : (S.a : Int) ≤ s1 := by omega
        go_wp2
        go_quiet (fail)
        go_wp2
        go_ret
        exact ⟨by rw [HNum.out.2.1 (by first | exact True.intro | rfl) hs]; rfl, (X.out.then (grown_drewN _ _ none)).gr⟩
      go_wp2
      go_quiet (fail)
      clear a1 a2 a4 a5 a6 q0 q1 q2 q3 q4 y0
      have X1 := hide (X.out.then (grown_drewN _ nq none))
      clear X
      generalize World.drewN _ nq = wq at *
      have X := X1
      clear X1
      obtain ⟨⟨a1, a2, a4, a5, a6⟩, ⟨q0, q1, q2, q3, q4⟩, y0⟩ := X.out.ff
      simp only at q0 q1 q2 q3 q4 y0
      cases by' with
      | false =>
        go_wp2
        go_ret
        exact ⟨by rw [HNum.out.2.2.2.2 (by first | exact True.intro | rfl) hs (by first | exact True.intro | rfl)]; rfl, X.out.gr⟩
      | true =>
        by_cases hy : (yi : Int) = I
        · have f1 : ((yi : Int) != I) = false := by simpa using hy
          have f2 : decide ((yi : Int) = I) = true := decide_eq_true hy
          go_wp2
          go_ret
          exact ⟨by rw [HNum.out.2.2.2.1 (by first | exact True.intro | rfl) hs (by first | exact True.intro | rfl) hy]; rfl, X.out.gr⟩
        · have f1 : ((yi : Int) != I) = true := by simpa using hy
          have f2 : decide ((yi : Int) = I) = false := decide_eq_false hy
          go_wp2
          go_ret
          exact ⟨by rw [HNum.out.2.2.1 (by first | exact True.intro | rfl) hs (by first | exact True.intro | rfl) hy]; rfl, X.out.gr⟩
  · skip
    go_enter Tryz.func50, Tryz.ntmps50
    go_wp2_with fail
    refine (HH.out _ HD0.out).mono ?_
    rintro e w2 ⟨rfl, hg2⟩
    have G3 := hide (grown_trans hg2 (grown_alloc w2 (.cells #[.int .u32 (xi : Int), .int .i64 (xs : Int), .int .i64 xu] 51)))
    obtain ⟨p0, p1, p2, p3, p4⟩ := bx5 (box_to HQ0.out G3.out)
    obtain ⟨r0, r1, r2, r3, r4⟩ := bx5 (box_to HQ0.out hg2)
    go_wp2_with fail
    generalize World.alloc w2 _ = w3 at *
    refine (HO.out _ (HD0.out.then G3.out)).mono ?_
    rintro e w4 ⟨rfl, hg4⟩
    have G5 := hide (grown_trans (grown_trans G3.out hg4) (grown_alloc w4 (.cells #[.int .u32 (yi : Int), .int .i64 (ys : Int), .int .i64 yu] 51)))
    have X : Hid (Rx w (w4.alloc (.cells #[.int .u32 (yi : Int), .int .i64 (ys : Int), .int .i64 yu] 51)) lo d v S ⟨4, t, I, s1, u⟩ w4.heap.size ⟨yi, ys, yu⟩) := ⟨HD0.out.then G5.out, grown_trans HG0.out G5.out, box_to HQ0.out G5.out, heap_alloc_new w4 _⟩
    obtain ⟨z0, z1, z2, z3, z4⟩ := bx5 (box_to HQ0.out (grown_trans G3.out hg4))
    clear hg2 G3 p0 p1 p2 p3 p4 r0 r1 r2 r3 r4 hg4 G5 HH HO HD0 HQ0 HG0
    obtain ⟨⟨a1, a2, a4, a5, a6⟩, ⟨q0, q1, q2, q3, q4⟩, y0⟩ := X.out.ff
    simp only at q0 q1 q2 q3 q4 y0
    generalize hBy : w4.heap.size = B at *
    generalize hw5 : World.alloc w4 _ = w5 at X a1 a2 a4 a5 a6 q0 q1 q2 q3 q4 y0
    have HW5 := hide hw5
    cases bx with
    | false =>
      go_wp2
      go_ret
      exact ⟨by rw [HNum.out.1 (by first | exact True.intro | rfl)]; rfl, X.out.gr⟩
    | true =>
      by_cases hs : s1 < (S.a : Int)
      rotate_left
      · have hs2 : (S.a : Int) ≤ s1 := by omega
        go_wp2
        go_quiet (fail)
        go_wp2
        go_ret
        exact ⟨by rw [HNum.out.2.1 (by first | exact True.intro | rfl) hs]; rfl, (X.out.then (grown_drewN _ _ none)).gr⟩
      go_wp2
      go_quiet (fail)
      clear a1 a2 a4 a5 a6 q0 q1 q2 q3 q4 y0
      have X1 := hide (X.out.then (grown_drewN _ nq none))
      clear X
      generalize World.drewN _ nq = wq at *
      have X := X1
      clear X1
      obtain ⟨⟨a1, a2, a4, a5, a6⟩, ⟨q0, q1, q2, q3, q4⟩, y0⟩ := X.out.ff
      simp only at q0 q1 q2 q3 q4 y0
      cases by' with
      | false =>
        go_wp2
        go_ret
        exact ⟨by rw [HNum.out.2.2.2.2 (by first | exact True.intro | rfl) hs (by first | exact True.intro | rfl)]; rfl, X.out.gr⟩
      | true =>
        by_cases hy : (yi : Int) = I
        · have f1 : ((yi : Int) != I) = false := by simpa using hy
          have f2 : decide ((yi : Int) = I) = true := decide_eq_true hy
          go_wp2
          go_ret
          exact ⟨by rw [HNum.out.2.2.2.1 (by first | exact True.intro | rfl) hs (by first | exact True.intro | rfl) hy]; rfl, X.out.gr⟩
        · have f1 : ((yi : Int) != I) = true := by simpa using hy
          have f2 : decide ((yi : Int) = I) = false := decide_eq_false hy
          go_wp2
          go_ret
          exact ⟨by rw [HNum.out.2.2.1 (by first | exact True.intro | rfl) hs (by first | exact True.intro | rfl) hy]; rfl, X.out.gr⟩
end Go.Proofs.YtjfhilignbeboaaGreatDoor
namespace Go.Proofs.YtjfhilignbeboaaGreatDoor
/- The document: Decide of the kind 4. -/
open Go.RowKit
attribute [local go_sem ↓] Go.wp_at_zero Go.wp_at_succ
attribute [local go_sem] Oper.semAt_some
set_option maxRecDepth 20000 in
set_option maxHeartbeats 8000000 in
theorem rdecide_4 {w : World} {lo d : Nat} {v : Value} {S : Sb} (h : Db w lo d v S) (ho : S.Ok) (room t : Int) (i s : Nat) (u : Int) (hq : Rs.Rq.Ok ⟨4, t, (i : Int), (s : Int), u⟩) (hm : Rs.Rq.May ⟨4, t, (i : Int), (s : Int), u⟩) : Calls Tryz.prog 15 #[.pointer (some ⟨d, 0, none⟩), .int .i64 room, .agg #[.int .i64 4, .int .u32 t, .int .u32 (i : Int), .int .i64 (s : Int), .int .i64 u]] w fun e w' => e = .returned (dcV (dec S room ⟨4, t, (i : Int), (s : Int), u⟩)) ∧ w.grownBy w' none := by
  have hch : isChg ⟨4, t, (i : Int), (s : Int), u⟩ := ⟨hm, show Rs.chg 4 = true by decide⟩
  obtain ⟨res, hres⟩ : ∃ res, res = dec S room ⟨4, t, (i : Int), (s : Int), u⟩ := ⟨_, rfl⟩
  rw [← hres]
  have hk : Rs.chk ⟨4, t, (i : Int), (s : Int), u⟩ = 0 := by unfold Rs.chk; rw [if_pos hm]
  have HQ := hide (fun W => Rs.rcheck_any ⟨4, t, (i : Int), (s : Int), u⟩ hq W)
  rw [hk] at HQ
  have HC : Hid (∀ W, Calls Tryz.prog 48 #[.int .i64 4] W fun e w' => e = .returned (.bool true) ∧ w' = W) := fun W => Rs.rchanges_any 4 W
  have HM := hide (Mx.three h (Rs.rqC ⟨4, t, (i : Int), (s : Int), u⟩) [Value.int .i64 0, .int .u32 0, .int .i64 0, .int .i64 0, .int .i64 0] [Value.int .u32 0, .int .i64 0, .int .i64 0, .int .u32 0, .int .i64 0, .int .i64 0, .int .i64 0] 25 28 31)
  obtain ⟨vv, hvv⟩ : ∃ vv, vv = fstE [idE S ⟨4, t, (i : Int), (s : Int), u⟩, stE S ⟨4, t, (i : Int), (s : Int), u⟩, frE S ⟨4, t, (i : Int), (s : Int), u⟩] := ⟨_, rfl⟩
  have hrf : refE S room ⟨4, t, (i : Int), (s : Int), u⟩ = if vv = 0 then lgE room 4 else vv := by rw [hvv]; exact fstE_snoc [idE S ⟨4, t, (i : Int), (s : Int), u⟩, stE S ⟨4, t, (i : Int), (s : Int), u⟩, frE S ⟨4, t, (i : Int), (s : Int), u⟩] (lgE room 4)
  have HRec : Hid (∀ W, Db W lo d v S → Calls Tryz.prog 49 #[.pointer (some ⟨d, 0, none⟩), .agg #[.int .i64 4, .int .u32 t, .int .u32 (i : Int), .int .i64 (s : Int), .int .i64 u]] W fun e w' => e = .returned (Rk.rcV (recW S ⟨4, t, (i : Int), (s : Int), u⟩)) ∧ W.grownBy w' none) := fun W hW => rrec_4 hW t (i : Int) (s : Int) u
  have HRef : Hid (∀ W, Db W lo d v S → Calls Tryz.prog 50 #[.pointer (some ⟨d, 0, none⟩), .agg #[.int .i64 4, .int .u32 t, .int .u32 (i : Int), .int .i64 (s : Int), .int .i64 u]] W fun e w' => e = .returned (.int .i64 vv) ∧ W.grownBy w' none) := fun W hW => by rw [hvv]; exact rref_4 hW ho t i s u hm
  have HSz : Hid (∀ W, Calls Tryz.prog 51 #[.int .i64 4] W fun e w' => e = .returned (.int .i64 (sz 4 : Nat)) ∧ w' = W) := fun W => Rk.size_ref 4 W
  have hrw : vv = 0 → recW S ⟨4, t, (i : Int), (s : Int), u⟩ = recQ S ⟨4, t, (i : Int), (s : Int), u⟩ := fun e => by
    simp [recW, recQ]
  have hkk : (recW S ⟨4, t, (i : Int), (s : Int), u⟩).k = 4 := by simp [recW]
  have HRs : Hid ((vv ≠ 0 → res = ⟨zRc, rfY ⟨4, t, (i : Int), (s : Int), u⟩ vv, false, 0⟩) ∧ (vv = 0 → room < 22 + (sz 4 : Int) → res = ⟨zRc, rfY ⟨4, t, (i : Int), (s : Int), u⟩ 220, false, 0⟩) ∧ (vv = 0 → 22 + (sz 4 : Int) ≤ room → res = ⟨recW S ⟨4, t, (i : Int), (s : Int), u⟩, rpY ⟨4, t, (i : Int), (s : Int), u⟩ (recW S ⟨4, t, (i : Int), (s : Int), u⟩), true, 0⟩)) := by
    refine ⟨fun hv => ?_, fun hv hr => ?_, fun hv hr => ?_⟩
    · rw [if_neg hv] at hrf; rw [hres, dec_ref hch (by rw [hrf]; exact hv), hrf]
    · rw [if_pos hv] at hrf
      have hl : lgE room 4 = 220 := if_pos hr
      rw [hl] at hrf
      rw [hres, dec_ref hch (by rw [hrf]; decide), hrf]
    · rw [if_pos hv] at hrf
      have hl : lgE room 4 = 0 := if_neg (by omega)
      rw [hl] at hrf
      rw [hres, dec_yes hch hrf, hrw hv]
  have HRp := hide (fun W => rreply_any ⟨4, t, (i : Int), (s : Int), u⟩ (recW S ⟨4, t, (i : Int), (s : Int), u⟩) W)
  clear h ho hq hm hch hk hres hvv hrf hrw
  generalize recW S ⟨4, t, (i : Int), (s : Int), u⟩ = R at *
  obtain ⟨rk0, ri, rs, ru, rc⟩ := R
  simp only at hkk
  subst hkk
  generalize hz : (sz 4 : Int) = z at *
  have hz1 : z = 7 := by rw [← hz]; rfl
  subst hz1
  clear hz
  unfold Rs.rqV at *
  unfold Rs.rqC at HM
  unfold Rk.rcV at HRec HRp
  simp only at *
  have HDc : Hid (∀ x, dcV ⟨zRc, rfY ⟨4, t, (i : Int), (s : Int), u⟩ x, false, 0⟩ = .tuple #[.agg #[.int .i64 0, .int .u32 0, .int .i64 0, .int .i64 0, .int .i64 0], .agg #[.int .u32 t, .int .i64 4, .int .i64 x, .int .u32 0, .int .i64 0, .int .i64 0, .int .i64 0], .bool false, .int .i64 0]) := fun _ => rfl
  have HDy : Hid (dcV ⟨⟨4, ri, rs, ru, rc⟩, rpY ⟨4, t, (i : Int), (s : Int), u⟩ ⟨4, ri, rs, ru, rc⟩, true, 0⟩ = .tuple #[.agg #[.int .i64 4, .int .u32 ri, .int .i64 rs, .int .i64 ru, .int .i64 rc], .agg #[.int .u32 t, .int .i64 4, .int .i64 0, .int .u32 0, .int .i64 rs, .int .i64 0, .int .i64 0], .bool true, .int .i64 0]) := by simp [Hid, dcV, rpY, Rk.rcV, Rt.ryV]
  have HRv : Hid (∀ W, Calls Tryz.prog 20 #[.agg #[.int .i64 4, .int .u32 t, .int .u32 (i : Int), .int .i64 (s : Int), .int .i64 u], .agg #[.int .i64 4, .int .u32 ri, .int .i64 rs, .int .i64 ru, .int .i64 rc]] W fun e w' => e = .returned (.agg #[.int .u32 t, .int .i64 4, .int .i64 0, .int .u32 0, .int .i64 rs, .int .i64 0, .int .i64 0]) ∧ W.grownBy w' none) := HRp.out
  clear HRp
  generalize (i : Int) = i1 at *
  generalize (s : Int) = s1 at *
  obtain ⟨c0, c1, c2, c3, c4⟩ := bx5 HM.out.b2
  go_enter Tryz.func15, Tryz.ntmps15
  go_wp2_with fail
  refine (HQ.out _).mono ?_
  rintro e w2 ⟨rfl, hg⟩
  have M2 := hide (HM.out.then hg)
  clear hg HM HQ c0 c1 c2 c3 c4
  obtain ⟨c0, c1, c2, c3, c4⟩ := bx5 M2.out.b2
  go_wp2_with fail
  refine (HC.out _).mono ?_
  rintro e wx ⟨rfl, hwx⟩
  obtain rfl := hwx.symm
  clear hwx
  go_wp2_with fail
  refine (HRec.out _ M2.out.db).mono ?_
  rintro e w3 ⟨rfl, hg⟩
  have HNe0 : Hid (w.heap.size + 1 < w3.heap.size ∧ w.heap.size + 1 + 1 < w3.heap.size) := ⟨row_lt (box_to M2.out.b1 hg), row_lt (box_to M2.out.b0 hg)⟩
  have M3 := hide ((M2.out.then hg).box [.int .i64 4, .int .u32 ri, .int .i64 rs, .int .i64 ru, .int .i64 rc] 28)
  clear hg M2 HRec HC c0 c1 c2 c3 c4
  obtain ⟨c0, c1, c2, c3, c4⟩ := bx5 M3.out.b3
  go_wp2_with fail
  generalize hX : w3.heap.size = X at *
  have HNe : Hid (w.heap.size + 1 ≠ X ∧ w.heap.size + 1 + 1 ≠ X) := ⟨fun e => by have := HNe0.out; omega, fun e => by have := HNe0.out; omega⟩
  generalize World.alloc w3 _ = w4 at *
  clear hX
  refine (HRef.out _ M3.out.db).mono ?_
  rintro e w5 ⟨rfl, hg⟩
  have M5 := hide (M3.out.then hg)
  clear hg M3 HRef c0 c1 c2 c3 c4
  obtain ⟨c0, c1, c2, c3, c4⟩ := bx5 M5.out.b3
  obtain ⟨e0, e1, e2, e3, e4⟩ := bx5 M5.out.b0
  by_cases hv : vv = 0
  rotate_left
  · have f1 : (vv != 0) = true := by simpa using hv
    have f2 : (vv == 0) = false := by simpa using hv
    have f3 : decide (vv = 0) = false := by simpa using hv
    have HZ := hide (HRs.out.1 hv)
    go_wp2
    have M6 := hide (M5.out.then (grown_drew w5 none))
    have hS0 : w5.drew.cell? ⟨w.heap.size, 0, none⟩ = some (.int .i64 4) ∧ w5.drew.cell? ⟨w.heap.size, 1, none⟩ = some (.int .u32 t) := ⟨c0, c1⟩
    have n2 : Hid (w.heap.size + 1 ≠ w.heap.size) := fun e => by omega
    have n3 : Hid (w.heap.size + 1 + 1 ≠ w.heap.size) := fun e => by omega
    clear M5 c0 c1 c2 c3 c4 e0 e1 e2 e3 e4
    obtain ⟨⟨d0, d1, d2, d3, d4⟩, d5⟩ := bxf5 M6.out.b2
    obtain ⟨⟨x0, x1, x2, x3, x4, x5, x6⟩, x7⟩ := bxf7 M6.out.b1
    refine wp_region_held_drew (S := (fun W => W.cell? ⟨w.heap.size, 0, none⟩ = some (.int .i64 4) ∧ W.cell? ⟨w.heap.size, 1, none⟩ = some (.int .u32 t))) (by kernel_rfl) ?_ (fun hHeld => ?_)
    · (exact hS0)
    generalize World.drew w5 = wd at *
    refine tkH (i := 0) (v := ?_) rfl ?_ ?_
    rotate_left
    · (intro w hSw; (try dsimp only at hSw); (go_simp <;> with_reducible rfl))
    try simp only [Act.put, List.setIfInBounds_toArray]
    refine tkH (i := 1) (v := ?_) rfl ?_ ?_
    rotate_left
    · (intro w hSw; (try dsimp only at hSw); (go_simp <;> with_reducible rfl))
    try simp only [Act.put]
    refine tkH (i := 2) (v := ?_) rfl ?_ ?_
    rotate_left
    · (intro w hSw; (try dsimp only at hSw); (go_simp <;> with_reducible rfl))
    try simp only [Act.put]
    refine tkH (i := 3) (v := ?_) rfl ?_ ?_
    rotate_left
    · (intro w hSw; (try dsimp only at hSw); (go_simp <;> with_reducible rfl))
    try simp only [Act.put]
    refine tkH (i := 4) (v := ?_) rfl ?_ ?_
    rotate_left
    · (intro w hSw; (try dsimp only at hSw); (go_simp <;> with_reducible rfl))
    try simp only [Act.put]
    refine tkH (i := 5) (v := ?_) rfl ?_ ?_
    rotate_left
    · (intro w hSw; (try dsimp only at hSw); (go_simp <;> with_reducible rfl))
    try simp only [Act.put]
    refine tkH (i := 6) (v := ?_) rfl ?_ ?_
    rotate_left
    · (intro w hSw; (try dsimp only at hSw); (go_simp <;> with_reducible rfl))
    try simp only [Act.put]
    refine rdH (i := 7) rfl (fun K hK => ?_)
    go_simp
    refine hK.out _ _ ?_ (fun hHeld => ?_)
    · ((try dsimp only); first | with_reducible exact ⟨cell_set5 hS0.1 n2.out _ _ _ _ _, cell_set5 hS0.2 n2.out _ _ _ _ _⟩ | with_reducible exact ⟨cell_set7 (cell_set5 hS0.1 n2.out _ _ _ _ _) n3.out _ _ _ _ _ _ _, cell_set7 (cell_set5 hS0.2 n2.out _ _ _ _ _) n3.out _ _ _ _ _ _ _⟩)
    clear hK K
    try simp only [Act.put, List.setIfInBounds_toArray, List.set_cons_zero, List.set_cons_succ]
    refine rdH (i := 8) rfl (fun K hK => ?_)
    go_simp
    refine hK.out _ _ ?_ (fun hHeld => ?_)
    · ((try dsimp only); first | with_reducible exact ⟨cell_set5 hS0.1 n2.out _ _ _ _ _, cell_set5 hS0.2 n2.out _ _ _ _ _⟩ | with_reducible exact ⟨cell_set7 (cell_set5 hS0.1 n2.out _ _ _ _ _) n3.out _ _ _ _ _ _ _, cell_set7 (cell_set5 hS0.2 n2.out _ _ _ _ _) n3.out _ _ _ _ _ _ _⟩)
    clear hK K
    try simp only [Act.put, List.setIfInBounds_toArray, List.set_cons_zero, List.set_cons_succ]
    refine tkH (i := 9) (oi := { dst := some 8, op := Go.Op.assign (Go.Operand.const (Go.Value.bool false)), type := 4, pos := "ref.go:113", after := #[{ on := 8, ground := Go.Ground.chain }, { on := 0, ground := Go.Ground.phase }, { on := 1, ground := Go.Ground.phase }, { on := 2, ground := Go.Ground.phase }, { on := 3, ground := Go.Ground.phase }, { on := 4, ground := Go.Ground.phase }, { on := 5, ground := Go.Ground.phase }, { on := 6, ground := Go.Ground.phase }, { on := 7, ground := Go.Ground.phase }, { on := 8, ground := Go.Ground.phase }], guard := none }) (v := ?_) rfl ?_ ?_
    rotate_left
    · (intro w hSw; (try dsimp only at hSw); (go_simp <;> with_reducible rfl))
    try simp only [Act.put, List.setIfInBounds_toArray, List.set_cons_zero, List.set_cons_succ]
    refine tkH (i := 10) (oi := { dst := some 9, op := Go.Op.assign (Go.Operand.const (Go.Value.int Go.IntKind.i64 0)), type := 29, pos := "ref.go:113", after := #[{ on := 9, ground := Go.Ground.chain }, { on := 0, ground := Go.Ground.phase }, { on := 1, ground := Go.Ground.phase }, { on := 2, ground := Go.Ground.phase }, { on := 3, ground := Go.Ground.phase }, { on := 4, ground := Go.Ground.phase }, { on := 5, ground := Go.Ground.phase }, { on := 6, ground := Go.Ground.phase }, { on := 7, ground := Go.Ground.phase }, { on := 8, ground := Go.Ground.phase }, { on := 9, ground := Go.Ground.phase }], guard := none }) (v := ?_) rfl ?_ ?_
    rotate_left
    · (intro w hSw; (try dsimp only at hSw); (go_simp <;> with_reducible rfl))
    try simp only [Act.put, List.setIfInBounds_toArray, List.set_cons_zero, List.set_cons_succ]
    refine wpAnyH_done (by kernel_rfl) ?_ _
    go_wp2
    obtain ⟨r1, r2, r3⟩ := dx_end M6.out (g := w.heap.size + 1) (h := w.heap.size + 1 + 1) (List.mem_cons_of_mem _ (List.mem_cons_of_mem _ (List.mem_cons_self ..))) (List.mem_cons_of_mem _ (List.mem_cons_self ..)) rfl rfl (by omega) (.int .i64 0) (.int .u32 0) (.int .i64 0) (.int .i64 0) (.int .i64 0) (.int .u32 t) (.int .i64 4) (.int .i64 vv) (.int .u32 0) (.int .i64 0) (.int .i64 0) (.int .i64 0)
    exact bodyPost_ret (results_c2t2 rfl _ _ (w.heap.size + 1) (w.heap.size + 1 + 1) _ _ rfl rfl r1 r2 rfl rfl) rfl ⟨by rw [HZ.out, HDc.out]; rfl, r3.gr⟩
  subst hv
  have HR2 := hide (And.intro (HRs.out.2.1 rfl) (HRs.out.2.2 rfl))
  clear HRs
  go_wp2_with fail
  refine (HSz.out _).mono ?_
  rintro e wx ⟨rfl, hwx⟩
  obtain rfl := hwx.symm
  clear hwx HSz
  have hsz : ((sz 4 : Nat) : Int) = 7 := rfl
  by_cases hr : room < 22 + 7
  · have hr2 : room < 29 := by omega
    have HZ := hide (HR2.out.1 hr)
    go_wp2
    have M6 := hide (M5.out.then (grown_drew w5 none))
    have hS0 : w5.drew.cell? ⟨w.heap.size, 0, none⟩ = some (.int .i64 4) ∧ w5.drew.cell? ⟨w.heap.size, 1, none⟩ = some (.int .u32 t) := ⟨c0, c1⟩
    have n2 : Hid (w.heap.size + 1 ≠ w.heap.size) := fun e => by omega
    have n3 : Hid (w.heap.size + 1 + 1 ≠ w.heap.size) := fun e => by omega
    clear M5 c0 c1 c2 c3 c4 e0 e1 e2 e3 e4
    obtain ⟨⟨d0, d1, d2, d3, d4⟩, d5⟩ := bxf5 M6.out.b2
    obtain ⟨⟨x0, x1, x2, x3, x4, x5, x6⟩, x7⟩ := bxf7 M6.out.b1
    refine wp_region_held_drew (S := (fun W => W.cell? ⟨w.heap.size, 0, none⟩ = some (.int .i64 4) ∧ W.cell? ⟨w.heap.size, 1, none⟩ = some (.int .u32 t))) (by kernel_rfl) ?_ (fun hHeld => ?_)
    · (exact hS0)
    generalize World.drew w5 = wd at *
    refine tkH (i := 0) (v := ?_) rfl ?_ ?_
    rotate_left
    · (intro w hSw; (try dsimp only at hSw); (go_simp <;> with_reducible rfl))
    try simp only [Act.put, List.setIfInBounds_toArray]
    refine tkH (i := 1) (v := ?_) rfl ?_ ?_
    rotate_left
    · (intro w hSw; (try dsimp only at hSw); (go_simp <;> with_reducible rfl))
    try simp only [Act.put]
    refine tkH (i := 2) (v := ?_) rfl ?_ ?_
    rotate_left
    · (intro w hSw; (try dsimp only at hSw); (go_simp <;> with_reducible rfl))
    try simp only [Act.put]
    refine tkH (i := 3) (v := ?_) rfl ?_ ?_
    rotate_left
    · (intro w hSw; (try dsimp only at hSw); (go_simp <;> with_reducible rfl))
    try simp only [Act.put]
    refine tkH (i := 4) (v := ?_) rfl ?_ ?_
    rotate_left
    · (intro w hSw; (try dsimp only at hSw); (go_simp <;> with_reducible rfl))
    try simp only [Act.put]
    refine tkH (i := 5) (v := ?_) rfl ?_ ?_
    rotate_left
    · (intro w hSw; (try dsimp only at hSw); (go_simp <;> with_reducible rfl))
    try simp only [Act.put]
    refine tkH (i := 6) (v := ?_) rfl ?_ ?_
    rotate_left
    · (intro w hSw; (try dsimp only at hSw); (go_simp <;> with_reducible rfl))
    try simp only [Act.put]
    refine rdH (i := 7) rfl (fun K hK => ?_)
    go_simp
    refine hK.out _ _ ?_ (fun hHeld => ?_)
    · ((try dsimp only); first | with_reducible exact ⟨cell_set5 hS0.1 n2.out _ _ _ _ _, cell_set5 hS0.2 n2.out _ _ _ _ _⟩ | with_reducible exact ⟨cell_set7 (cell_set5 hS0.1 n2.out _ _ _ _ _) n3.out _ _ _ _ _ _ _, cell_set7 (cell_set5 hS0.2 n2.out _ _ _ _ _) n3.out _ _ _ _ _ _ _⟩)
    clear hK K
    try simp only [Act.put, List.setIfInBounds_toArray, List.set_cons_zero, List.set_cons_succ]
    refine rdH (i := 8) rfl (fun K hK => ?_)
    go_simp
    refine hK.out _ _ ?_ (fun hHeld => ?_)
    · ((try dsimp only); first | with_reducible exact ⟨cell_set5 hS0.1 n2.out _ _ _ _ _, cell_set5 hS0.2 n2.out _ _ _ _ _⟩ | with_reducible exact ⟨cell_set7 (cell_set5 hS0.1 n2.out _ _ _ _ _) n3.out _ _ _ _ _ _ _, cell_set7 (cell_set5 hS0.2 n2.out _ _ _ _ _) n3.out _ _ _ _ _ _ _⟩)
    clear hK K
    try simp only [Act.put, List.setIfInBounds_toArray, List.set_cons_zero, List.set_cons_succ]
    refine tkH (i := 9) (oi := { dst := some 8, op := Go.Op.assign (Go.Operand.const (Go.Value.bool false)), type := 4, pos := "ref.go:113", after := #[{ on := 8, ground := Go.Ground.chain }, { on := 0, ground := Go.Ground.phase }, { on := 1, ground := Go.Ground.phase }, { on := 2, ground := Go.Ground.phase }, { on := 3, ground := Go.Ground.phase }, { on := 4, ground := Go.Ground.phase }, { on := 5, ground := Go.Ground.phase }, { on := 6, ground := Go.Ground.phase }, { on := 7, ground := Go.Ground.phase }, { on := 8, ground := Go.Ground.phase }], guard := none }) (v := ?_) rfl ?_ ?_
    rotate_left
    · (intro w hSw; (try dsimp only at hSw); (go_simp <;> with_reducible rfl))
    try simp only [Act.put, List.setIfInBounds_toArray, List.set_cons_zero, List.set_cons_succ]
    refine tkH (i := 10) (oi := { dst := some 9, op := Go.Op.assign (Go.Operand.const (Go.Value.int Go.IntKind.i64 0)), type := 29, pos := "ref.go:113", after := #[{ on := 9, ground := Go.Ground.chain }, { on := 0, ground := Go.Ground.phase }, { on := 1, ground := Go.Ground.phase }, { on := 2, ground := Go.Ground.phase }, { on := 3, ground := Go.Ground.phase }, { on := 4, ground := Go.Ground.phase }, { on := 5, ground := Go.Ground.phase }, { on := 6, ground := Go.Ground.phase }, { on := 7, ground := Go.Ground.phase }, { on := 8, ground := Go.Ground.phase }, { on := 9, ground := Go.Ground.phase }], guard := none }) (v := ?_) rfl ?_ ?_
    rotate_left
    · (intro w hSw; (try dsimp only at hSw); (go_simp <;> with_reducible rfl))
    try simp only [Act.put, List.setIfInBounds_toArray, List.set_cons_zero, List.set_cons_succ]
    refine wpAnyH_done (by kernel_rfl) ?_ _
    go_wp2
    obtain ⟨r1, r2, r3⟩ := dx_end M6.out (g := w.heap.size + 1) (h := w.heap.size + 1 + 1) (List.mem_cons_of_mem _ (List.mem_cons_of_mem _ (List.mem_cons_self ..))) (List.mem_cons_of_mem _ (List.mem_cons_self ..)) rfl rfl (by omega) (.int .i64 0) (.int .u32 0) (.int .i64 0) (.int .i64 0) (.int .i64 0) (.int .u32 t) (.int .i64 4) (.int .i64 220) (.int .u32 0) (.int .i64 0) (.int .i64 0) (.int .i64 0)
    exact bodyPost_ret (results_c2t2 rfl _ _ (w.heap.size + 1) (w.heap.size + 1 + 1) _ _ rfl rfl r1 r2 rfl rfl) rfl ⟨by rw [HZ.out, HDc.out]; rfl, r3.gr⟩
  have hr2 : 29 ≤ room := by omega
  have HZ := hide (HR2.out.2 (by omega))
  clear hr HR2
  go_wp2
  have HSo : Hid (∀ W, w5.grownBy W none → (W.cell? ⟨X, 0, none⟩ = some (.int .i64 4) ∧ W.cell? ⟨X, 1, none⟩ = some (.int .u32 ri) ∧ W.cell? ⟨X, 2, none⟩ = some (.int .i64 rs) ∧ W.cell? ⟨X, 3, none⟩ = some (.int .i64 ru) ∧ W.cell? ⟨X, 4, none⟩ = some (.int .i64 rc) ∧ W.cell? ⟨w.heap.size, 0, none⟩ = some (.int .i64 4) ∧ W.cell? ⟨w.heap.size, 1, none⟩ = some (.int .u32 t) ∧ W.cell? ⟨w.heap.size, 2, none⟩ = some (.int .u32 i1) ∧ W.cell? ⟨w.heap.size, 3, none⟩ = some (.int .i64 s1) ∧ W.cell? ⟨w.heap.size, 4, none⟩ = some (.int .i64 u))) := fun W gW => s10_of (box_to M5.out.b0 gW) (box_to M5.out.b3 gW)
  have hn1 : Hid (w.heap.size + 1 ≠ X) := HNe.out.1
  have hn2 : Hid (w.heap.size + 1 ≠ w.heap.size) := fun e => by omega
  have hn3 : Hid (w.heap.size + 1 + 1 ≠ X) := HNe.out.2
  have hn4 : Hid (w.heap.size + 1 + 1 ≠ w.heap.size) := fun e => by omega
  clear c0 c1 c2 c3 c4 e0 e1 e2 e3 e4
  refine wp_region_held_drew (S := (fun W => (W.cell? ⟨X, 0, none⟩ = some (.int .i64 4) ∧ W.cell? ⟨X, 1, none⟩ = some (.int .u32 ri) ∧ W.cell? ⟨X, 2, none⟩ = some (.int .i64 rs) ∧ W.cell? ⟨X, 3, none⟩ = some (.int .i64 ru) ∧ W.cell? ⟨X, 4, none⟩ = some (.int .i64 rc) ∧ W.cell? ⟨w.heap.size, 0, none⟩ = some (.int .i64 4) ∧ W.cell? ⟨w.heap.size, 1, none⟩ = some (.int .u32 t) ∧ W.cell? ⟨w.heap.size, 2, none⟩ = some (.int .u32 i1) ∧ W.cell? ⟨w.heap.size, 3, none⟩ = some (.int .i64 s1) ∧ W.cell? ⟨w.heap.size, 4, none⟩ = some (.int .i64 u)))) (by kernel_rfl) ?_ (fun hHeld => ?_)
  · (exact HSo.out _ (grown_drew _ none))
  refine tkH (i := 0) (v := ?_) rfl ?_ ?_
  rotate_left
  · (intro w hSw; (try dsimp only at hSw); (go_simp <;> with_reducible rfl))
  try simp only [Act.put, List.setIfInBounds_toArray]
  refine tkH (i := 1) (v := ?_) rfl ?_ ?_
  rotate_left
  · (intro w hSw; (try dsimp only at hSw); (go_simp <;> with_reducible rfl))
  try simp only [Act.put]
  refine tkH (i := 2) (v := ?_) rfl ?_ ?_
  rotate_left
  · (intro w hSw; (try dsimp only at hSw); (go_simp <;> with_reducible rfl))
  try simp only [Act.put]
  refine rdH (i := 3) rfl (fun K hK => ?_)
  go_simp
  refine (HRv.out _).mono ?_; rintro e wa ⟨rfl, hga⟩; have Ga := hide (grown_trans (grown_drew w5 none) hga); have hJ := HSo.out _ Ga.out; have Ma := hide (M5.out.then Ga.out); obtain ⟨⟨d0, d1, d2, d3, d4⟩, d5⟩ := bxf5 Ma.out.b2; obtain ⟨⟨x0, x1, x2, x3, x4, x5, x6⟩, x7⟩ := bxf7 Ma.out.b1
  go_wp2_with fail
  refine hK.out _ _ ?_ (fun hHeld => ?_)
  · ((try dsimp only); first | with_reducible assumption | with_reducible exact s10_set5 hJ hn1.out hn2.out _ _ _ _ _ | with_reducible exact s10_set7 (s10_set5 hJ hn1.out hn2.out _ _ _ _ _) hn3.out hn4.out _ _ _ _ _ _ _)
  clear hK K
  try simp only [Act.put, List.setIfInBounds_toArray, List.set_cons_zero, List.set_cons_succ]
  refine rdH (i := 4) rfl (fun K hK => ?_)
  go_simp
  refine hK.out _ _ ?_ (fun hHeld => ?_)
  · ((try dsimp only); first | with_reducible assumption | with_reducible exact s10_set5 hJ hn1.out hn2.out _ _ _ _ _ | with_reducible exact s10_set7 (s10_set5 hJ hn1.out hn2.out _ _ _ _ _) hn3.out hn4.out _ _ _ _ _ _ _)
  clear hK K
  try simp only [Act.put, List.setIfInBounds_toArray, List.set_cons_zero, List.set_cons_succ]
  refine rdH (i := 5) rfl (fun K hK => ?_)
  go_simp
  refine hK.out _ _ ?_ (fun hHeld => ?_)
  · ((try dsimp only); first | with_reducible assumption | with_reducible exact s10_set5 hJ hn1.out hn2.out _ _ _ _ _ | with_reducible exact s10_set7 (s10_set5 hJ hn1.out hn2.out _ _ _ _ _) hn3.out hn4.out _ _ _ _ _ _ _)
  clear hK K
  try simp only [Act.put, List.setIfInBounds_toArray, List.set_cons_zero, List.set_cons_succ]
  refine tkH (i := 6) (oi := { dst := some 8, op := Go.Op.assign (Go.Operand.const (Go.Value.bool true)), type := 4, pos := "ref.go:115", after := #[{ on := 5, ground := Go.Ground.chain }, { on := 0, ground := Go.Ground.phase }, { on := 1, ground := Go.Ground.phase }, { on := 2, ground := Go.Ground.phase }, { on := 3, ground := Go.Ground.phase }, { on := 4, ground := Go.Ground.phase }, { on := 5, ground := Go.Ground.phase }], guard := none }) (v := ?_) rfl ?_ ?_
  rotate_left
  · (intro w hSw; (try dsimp only at hSw); (go_simp <;> with_reducible rfl))
  try simp only [Act.put, List.setIfInBounds_toArray, List.set_cons_zero, List.set_cons_succ]
  refine tkH (i := 7) (oi := { dst := some 9, op := Go.Op.assign (Go.Operand.const (Go.Value.int Go.IntKind.i64 0)), type := 29, pos := "ref.go:115", after := #[{ on := 6, ground := Go.Ground.chain }, { on := 0, ground := Go.Ground.phase }, { on := 1, ground := Go.Ground.phase }, { on := 2, ground := Go.Ground.phase }, { on := 3, ground := Go.Ground.phase }, { on := 4, ground := Go.Ground.phase }, { on := 5, ground := Go.Ground.phase }, { on := 6, ground := Go.Ground.phase }], guard := none }) (v := ?_) rfl ?_ ?_
  rotate_left
  · (intro w hSw; (try dsimp only at hSw); (go_simp <;> with_reducible rfl))
  try simp only [Act.put, List.setIfInBounds_toArray, List.set_cons_zero, List.set_cons_succ]
  refine wpAnyH_done (by kernel_rfl) ?_ _
  go_wp2
  obtain ⟨r1, r2, r3⟩ := dx_end Ma.out (g := w.heap.size + 1) (h := w.heap.size + 1 + 1) (List.mem_cons_of_mem _ (List.mem_cons_of_mem _ (List.mem_cons_self ..))) (List.mem_cons_of_mem _ (List.mem_cons_self ..)) rfl rfl (by omega) (.int .i64 4) (.int .u32 ri) (.int .i64 rs) (.int .i64 ru) (.int .i64 rc) (.int .u32 t) (.int .i64 4) (.int .i64 0) (.int .u32 0) (.int .i64 rs) (.int .i64 0) (.int .i64 0)
  exact bodyPost_ret (results_c2t2 rfl _ _ (w.heap.size + 1) (w.heap.size + 1 + 1) _ _ rfl rfl r1 r2 rfl rfl) rfl ⟨by rw [HZ.out, HDy.out]; rfl, r3.gr⟩
end Go.Proofs.YtjfhilignbeboaaGreatDoor
namespace Go.Proofs.YtjfhilignbeboaaGreatDoor
/- The document: Refused of the kind 7. -/
open Go.RowKit
attribute [local go_sem ↓] Go.wp_at_zero Go.wp_at_succ
attribute [local go_sem] Oper.semAt_some
set_option maxRecDepth 20000 in
set_option maxHeartbeats 8000000 in
theorem rref_7 {w : World} {lo d : Nat} {v : Value} {S : Sb} (h : Db w lo d v S) (ho : S.Ok) (t : Int) (i s : Nat) (u : Int) (hm : Rs.Rq.May ⟨7, t, (i : Int), (s : Int), u⟩) : Calls Tryz.prog 50 #[.pointer (some ⟨d, 0, none⟩), .agg #[.int .i64 7, .int .u32 t, .int .u32 (i : Int), .int .i64 (s : Int), .int .i64 u]] w fun e w' => e = .returned (.int .i64 (fstE [ttE ⟨7, t, (i : Int), (s : Int), u⟩, clE S ⟨7, t, (i : Int), (s : Int), u⟩])) ∧ w.grownBy w' none := by
  have hmn := Rs.may_nums hm
  simp only at hmn
  obtain ⟨hb1, hb2⟩ : 0 ≤ u ∧ (s : Int) ≤ 65535 := ⟨by omega, by omega⟩
  obtain ⟨res, hres⟩ : ∃ res, res = fstE [ttE ⟨7, t, (i : Int), (s : Int), u⟩, clE S ⟨7, t, (i : Int), (s : Int), u⟩] := ⟨_, rfl⟩
  rw [← hres]
  have m0 : Rx w (w.alloc (.cells [Value.int .i64 7, .int .u32 t, .int .u32 (i : Int), .int .i64 (s : Int), .int .i64 u].toArray 25)) lo d v S ⟨7, t, (i : Int), (s : Int), u⟩ w.heap.size ⟨0, 0, 0⟩ ∨ True := .inr trivial
  clear m0
  have g0 := grown_alloc w (.cells [Value.int .i64 7, .int .u32 t, .int .u32 (i : Int), .int .i64 (s : Int), .int .i64 u].toArray 25)
  have HD0 := hide (h.then g0)
  have HQ0 := hide (heap_alloc_new w (.cells [Value.int .i64 7, .int .u32 t, .int .u32 (i : Int), .int .i64 (s : Int), .int .i64 u].toArray 25))
  have HH : Hid (∀ W, Db W lo d v S → Calls Tryz.prog 55 #[.pointer (some ⟨d, 0, none⟩), .int .u32 (i : Int)] W fun e w' => e = .returned (.tuple #[bgV ((fnd S.L i).getD ⟨0, 0, 0⟩), .bool (fnd S.L i).isSome]) ∧ W.grownBy w' none) := fun W hW => has_any hW ho i
  have HO : Hid (∀ W, Db W lo d v S → Calls Tryz.prog 56 #[.pointer (some ⟨d, 0, none⟩), .int .i64 (s : Int)] W fun e w' => e = .returned (.tuple #[bgV ((sat S.L s).getD ⟨0, 0, 0⟩), .bool (sat S.L s).isSome]) ∧ W.grownBy w' none) := fun W hW => on_any hW ho s
  have HNum : Hid (((u < 1 ∨ 1073741824 < u) → res = 2) ∧ (1 ≤ u → u ≤ 1073741824 → mxC < S.t + u → res = 172) ∧ (1 ≤ u → u ≤ 1073741824 → ¬ mxC < S.t + u → res = 0) ∧ (0 ≤ S.t ∧ S.t ≤ mxC)) := by
    subst hres
    refine ⟨fun h2 => ?_, fun h2 h3 h4 => ?_, fun h2 h3 h4 => ?_, ho.t0, ho.t1⟩
    · rw [ttE_2 h2]; simp [fstE]
    · rw [ttE_0 h2 h3, clE_172 h4]; simp [fstE]
    · rw [ttE_0 h2 h3, clE_0 h4]; simp [fstE]
  have HG0 := hide g0
  clear hmn hm h ho g0 hres
  generalize (fnd S.L i).getD ⟨0, 0, 0⟩ = x at *
  generalize (sat S.L s).getD ⟨0, 0, 0⟩ = y at *
  generalize (fnd S.L i).isSome = bx at *
  generalize (sat S.L s).isSome = by' at *
  obtain ⟨xi, xs, xu⟩ := x
  obtain ⟨yi, ys, yu⟩ := y
  unfold bgV at HH HO
  simp only at *
  generalize hI : (i : Int) = I at *
  generalize hSs : (s : Int) = s1 at *
  clear hI hSs
  rcases (show u < 1 ∨ (1 ≤ u ∧ u ≤ 1073741824) ∨ (1 ≤ u ∧ 1073741824 < u) by omega) with hu | ⟨hu, hu2⟩ | ⟨hu, hu2⟩
  · skip
    go_enter Tryz.func50, Tryz.ntmps50
    go_wp2_with fail
    refine (HH.out _ HD0.out).mono ?_
    rintro e w2 ⟨rfl, hg2⟩
    have G3 := hide (grown_trans hg2 (grown_alloc w2 (.cells #[.int .u32 (xi : Int), .int .i64 (xs : Int), .int .i64 xu] 51)))
    obtain ⟨p0, p1, p2, p3, p4⟩ := bx5 (box_to HQ0.out G3.out)
    obtain ⟨r0, r1, r2, r3, r4⟩ := bx5 (box_to HQ0.out hg2)
    go_wp2_with fail
    generalize World.alloc w2 _ = w3 at *
    refine (HO.out _ (HD0.out.then G3.out)).mono ?_
    rintro e w4 ⟨rfl, hg4⟩
    have G5 := hide (grown_trans (grown_trans G3.out hg4) (grown_alloc w4 (.cells #[.int .u32 (yi : Int), .int .i64 (ys : Int), .int .i64 yu] 51)))
    have X : Hid (Rx w (w4.alloc (.cells #[.int .u32 (yi : Int), .int .i64 (ys : Int), .int .i64 yu] 51)) lo d v S ⟨7, t, I, s1, u⟩ w4.heap.size ⟨yi, ys, yu⟩) := ⟨HD0.out.then G5.out, grown_trans HG0.out G5.out, box_to HQ0.out G5.out, heap_alloc_new w4 _⟩
    obtain ⟨z0, z1, z2, z3, z4⟩ := bx5 (box_to HQ0.out (grown_trans G3.out hg4))
    clear hg2 G3 p0 p1 p2 p3 p4 r0 r1 r2 r3 r4 hg4 G5 HH HO HD0 HQ0 HG0
    obtain ⟨⟨a1, a2, a4, a5, a6⟩, ⟨q0, q1, q2, q3, q4⟩, y0⟩ := X.out.ff
    simp only at q0 q1 q2 q3 q4 y0
    generalize hBy : w4.heap.size = B at *
    generalize hw5 : World.alloc w4 _ = w5 at X a1 a2 a4 a5 a6 q0 q1 q2 q3 q4 y0
    have HW5 := hide hw5
    go_wp2
    go_ret
    exact ⟨by rw [HNum.out.1 (by omega)]; rfl, X.out.gr⟩
  · skip
    go_enter Tryz.func50, Tryz.ntmps50
    go_wp2_with fail
    refine (HH.out _ HD0.out).mono ?_
    rintro e w2 ⟨rfl, hg2⟩
    have G3 := hide (grown_trans hg2 (grown_alloc w2 (.cells #[.int .u32 (xi : Int), .int .i64 (xs : Int), .int .i64 xu] 51)))
    obtain ⟨p0, p1, p2, p3, p4⟩ := bx5 (box_to HQ0.out G3.out)
    obtain ⟨r0, r1, r2, r3, r4⟩ := bx5 (box_to HQ0.out hg2)
    go_wp2_with fail
    generalize World.alloc w2 _ = w3 at *
    refine (HO.out _ (HD0.out.then G3.out)).mono ?_
    rintro e w4 ⟨rfl, hg4⟩
    have G5 := hide (grown_trans (grown_trans G3.out hg4) (grown_alloc w4 (.cells #[.int .u32 (yi : Int), .int .i64 (ys : Int), .int .i64 yu] 51)))
    have X : Hid (Rx w (w4.alloc (.cells #[.int .u32 (yi : Int), .int .i64 (ys : Int), .int .i64 yu] 51)) lo d v S ⟨7, t, I, s1, u⟩ w4.heap.size ⟨yi, ys, yu⟩) := ⟨HD0.out.then G5.out, grown_trans HG0.out G5.out, box_to HQ0.out G5.out, heap_alloc_new w4 _⟩
    obtain ⟨z0, z1, z2, z3, z4⟩ := bx5 (box_to HQ0.out (grown_trans G3.out hg4))
    clear hg2 G3 p0 p1 p2 p3 p4 r0 r1 r2 r3 r4 hg4 G5 HH HO HD0 HQ0 HG0
    obtain ⟨⟨a1, a2, a4, a5, a6⟩, ⟨q0, q1, q2, q3, q4⟩, y0⟩ := X.out.ff
    simp only at q0 q1 q2 q3 q4 y0
    generalize hBy : w4.heap.size = B at *
    generalize hw5 : World.alloc w4 _ = w5 at X a1 a2 a4 a5 a6 q0 q1 q2 q3 q4 y0
    have HW5 := hide hw5
    have hwp : IntKind.i64.wrap (S.t + u) = S.t + u := by have hh := HNum.out.2.2.2; unfold mxC at hh; rw [IntKind.wrap_i64]; omega
    by_cases hc : (1099511627776 : Int) < S.t + u
    · skip
      go_wp2
      go_quiet (fail)
      go_wp2
      go_ret
      exact ⟨by rw [HNum.out.2.1 hu hu2 hc]; rfl, (X.out.then (grown_drewN _ _ none)).gr⟩
    · have hc2 : S.t + u ≤ 1099511627776 := by omega
      go_wp2
      go_quiet (fail)
      go_wp2
      go_ret
      exact ⟨by rw [HNum.out.2.2.1 hu hu2 hc]; rfl, (X.out.then (grown_drewN _ _ none)).gr⟩
  · skip
    go_enter Tryz.func50, Tryz.ntmps50
    go_wp2_with fail
    refine (HH.out _ HD0.out).mono ?_
    rintro e w2 ⟨rfl, hg2⟩
    have G3 := hide (grown_trans hg2 (grown_alloc w2 (.cells #[.int .u32 (xi : Int), .int .i64 (xs : Int), .int .i64 xu] 51)))
    obtain ⟨p0, p1, p2, p3, p4⟩ := bx5 (box_to HQ0.out G3.out)
    obtain ⟨r0, r1, r2, r3, r4⟩ := bx5 (box_to HQ0.out hg2)
    go_wp2_with fail
    generalize World.alloc w2 _ = w3 at *
    refine (HO.out _ (HD0.out.then G3.out)).mono ?_
    rintro e w4 ⟨rfl, hg4⟩
    have G5 := hide (grown_trans (grown_trans G3.out hg4) (grown_alloc w4 (.cells #[.int .u32 (yi : Int), .int .i64 (ys : Int), .int .i64 yu] 51)))
    have X : Hid (Rx w (w4.alloc (.cells #[.int .u32 (yi : Int), .int .i64 (ys : Int), .int .i64 yu] 51)) lo d v S ⟨7, t, I, s1, u⟩ w4.heap.size ⟨yi, ys, yu⟩) := ⟨HD0.out.then G5.out, grown_trans HG0.out G5.out, box_to HQ0.out G5.out, heap_alloc_new w4 _⟩
    obtain ⟨z0, z1, z2, z3, z4⟩ := bx5 (box_to HQ0.out (grown_trans G3.out hg4))
    clear hg2 G3 p0 p1 p2 p3 p4 r0 r1 r2 r3 r4 hg4 G5 HH HO HD0 HQ0 HG0
    obtain ⟨⟨a1, a2, a4, a5, a6⟩, ⟨q0, q1, q2, q3, q4⟩, y0⟩ := X.out.ff
    simp only at q0 q1 q2 q3 q4 y0
    generalize hBy : w4.heap.size = B at *
    generalize hw5 : World.alloc w4 _ = w5 at X a1 a2 a4 a5 a6 q0 q1 q2 q3 q4 y0
    have HW5 := hide hw5
    go_wp2
    go_ret
    exact ⟨by rw [HNum.out.1 (by omega)]; rfl, X.out.gr⟩
end Go.Proofs.YtjfhilignbeboaaGreatDoor
