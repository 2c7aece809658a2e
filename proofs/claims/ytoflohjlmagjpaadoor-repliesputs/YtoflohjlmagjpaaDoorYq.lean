/- The document's replies: Check. -/
import Derived.Test.YtoflohjlmagjpaaDoorYm
import Derived.Deep.CutRange
import Derived.Deep.DeepCutAuto
namespace Go.Proofs.YtoflohjlmagjpaaDoor
open Go.RowKit
attribute [local go_sem ↓] Go.wp_at_zero Go.wp_at_succ
set_option maxRecDepth 20000 in
set_option maxHeartbeats 16000000 in
theorem rcheck_any (q : Ry) (ho : q.Ok) (w : World) : Calls Tryd.prog 11 #[ryV q] w fun e w' => e = .returned (.int .i64 (chk q)) ∧ w.grownBy w' none := by
  obtain ⟨res, hres⟩ : ∃ res, res = chk q := ⟨_, rfl⟩
  rw [← hres]
  have HM := hide (may_iff ho)
  have H0 : Hid (¬ q.May → res = 210) := fun h => by rw [hres]; exact if_neg h
  have H1 : Hid (q.May → res = 0) := fun h => by rw [hres]; exact if_pos h
  clear hres ho
  have S0 := hide (CkS.begin w q)
  have qf := rfields_any q.k
  obtain ⟨ok, hok⟩ : ∃ b, decide (1 ≤ q.k ∧ q.k ≤ 10) = b := ⟨_, rfl⟩
  rw [hok] at qf
  have HOK := hide hok
  clear hok
  unfold ryV
  obtain ⟨c0, c1, c2, c3, c4, c5, c6⟩ := box7 S0.out.box
  have HF := hide (fv_cases q.k 0)
  generalize hI q.k 0 = bI at *
  generalize hS q.k 0 = bS at *
  generalize hU q.k 0 = bU at *
  generalize hC q.k 0 = bC at *
  have qf1 := qf (w.alloc (.cells #[.int .u32 q.t, .int .i64 q.k, .int .i64 q.e, .int .u32 q.i, .int .i64 q.s, .int .i64 q.u, .int .i64 q.c] 26))
  clear qf
  go_enter Tryd.func11, Tryd.ntmps11
  go_wp2_with fail
  generalize w.alloc (.cells #[.int .u32 q.t, .int .i64 q.k, .int .i64 q.e, .int .u32 q.i, .int .i64 q.s, .int .i64 q.u, .int .i64 q.c] 26) = w1 at *
  refine qf1.mono ?_
  clear qf1 c0 c1 c2 c3 c4 c5 c6
  rintro e w2 ⟨rfl, hg⟩
  have S2 := hide (S0.out.then hg)
  clear hg S0
  have g3 := World.grownBy_alloc w2 (.cells #[.bool bI, .bool bS, .bool bU, .bool bC] 54) none
  have g4 := World.grownBy_alloc w2 (.cells #[.bool false, .bool false, .bool false, .bool false] 54) none
  have S3 := hide (S2.out.then g3)
  have S4 := hide (S2.out.then g4)
  have B3 := heap_alloc_new w2 (.cells [Value.bool bI, .bool bS, .bool bU, .bool bC].toArray 54)
  have B4 := heap_alloc_new w2 (.cells [Value.bool false, .bool false, .bool false, .bool false].toArray 54)
  obtain ⟨c0, c1, c2, c3, c4, c5, c6⟩ := box7 S3.out.box
  obtain ⟨d0, d1, d2, d3, d4, d5, d6⟩ := box7 S4.out.box
  have m0 := cell_row B3 0
  have m1 := cell_row B3 1
  have m2 := cell_row B3 2
  have m3 := cell_row B3 3
  have n0 := cell_row B4 0
  have n1 := cell_row B4 1
  have n2 := cell_row B4 2
  have n3 := cell_row B4 3
  clear g3 g4 B3 B4 S2
  go_upto_region 2 with fail
  cases ok with
  | false =>
    have hnk := of_decide_eq_false HOK.out
    by_cases k0 : q.k = 0
    case neg =>
      have x1 : (q.k == 0) = false := by simpa using k0
      have x2 : (q.k != 0) = true := by simpa using k0
      have x3 : decide (q.k = 0) = false := by simpa using k0
      have HZ : Hid (res = 210) := H0.out (fun h => by have hh := HM.out.1 h; omega)
      clear hnk k0
      go_wp2
      go_ret
      exact ⟨by rw [HZ.out]; rfl, S3.out.gr⟩
    have x1 : (q.k == 0) = true := by simpa using k0
    have x2 : (q.k != 0) = false := by simpa using k0
    have x3 : decide (q.k = 0) = true := by simpa using k0
    by_cases t0 : q.t = 0
    case neg =>
      have y1 : (q.t == 0) = false := by simpa using t0
      have y2 : (q.t != 0) = true := by simpa using t0
      have y3 : decide (q.t = 0) = false := by simpa using t0
      have HZ : Hid (res = 210) := H0.out (fun h => by have hh := HM.out.1 h; omega)
      clear hnk k0 t0
      go_wp2
      go_ret
      exact ⟨by rw [HZ.out]; rfl, S3.out.gr⟩
    have y1 : (q.t == 0) = true := by simpa using t0
    have y2 : (q.t != 0) = false := by simpa using t0
    have y3 : decide (q.t = 0) = true := by simpa using t0
    by_cases e0 : q.e = 200
    case neg =>
      have u1 : (q.e == 200) = false := by simpa using e0
      have u2 : (q.e != 200) = true := by simpa using e0
      have u3 : decide (q.e = 200) = false := by simpa using e0
      have HZ : Hid (res = 210) := H0.out (fun h => by have hh := HM.out.1 h; omega)
      clear hnk k0 t0 e0
      go_wp2
      go_ret
      exact ⟨by rw [HZ.out]; rfl, S3.out.gr⟩
    have u1 : (q.e == 200) = true := by simpa using e0
    have u2 : (q.e != 200) = false := by simpa using e0
    have u3 : decide (q.e = 200) = true := by simpa using e0
    have u4 : (q.e == 0) = false := by simp; omega
    have u5 : (q.e != 0) = true := by simp; omega
    have u6 : decide (q.e = 0) = false := decide_eq_false (by omega)
    have HH := hide (has_e (k := q.k) (e := q.e) (by omega))
    have HK : Hid ((1 ≤ q.k ∧ q.k ≤ 10) ∨ (q.k = 0 ∧ q.t = 0 ∧ q.e = 200)) := Or.inr ⟨k0, t0, e0⟩
    clear hnk k0 t0 e0
    go_upto_region 4 with fail
    by_cases el : q.e < 0
    case pos =>
      have z0 : decide (q.e < 0) = true := decide_eq_true el
      have HZ : Hid (res = 210) := H0.out (fun h => by have hh := HM.out.1 h; omega)
      go_wp2
      go_ret
      exact ⟨by rw [HZ.out]; rfl, S3.out.gr⟩
    have elf : decide (q.e < 0) = false := decide_eq_false el
    by_cases eh : 65535 < q.e
    case pos =>
      have z0 : decide (65535 < q.e) = true := decide_eq_true eh
      have HZ : Hid (res = 210) := H0.out (fun h => by have hh := HM.out.1 h; omega)
      go_wp2
      go_ret
      exact ⟨by rw [HZ.out]; rfl, S3.out.gr⟩
    have ehf : decide (65535 < q.e) = false := decide_eq_false eh
    by_cases sl : q.s < 0
    case pos =>
      have z0 : decide (q.s < 0) = true := decide_eq_true sl
      have HZ : Hid (res = 210) := H0.out (fun h => by have hh := HM.out.1 h; omega)
      go_wp2
      go_ret
      exact ⟨by rw [HZ.out]; rfl, S3.out.gr⟩
    have slf : decide (q.s < 0) = false := decide_eq_false sl
    by_cases sh : 65535 < q.s
    case pos =>
      have z0 : decide (65535 < q.s) = true := decide_eq_true sh
      have HZ : Hid (res = 210) := H0.out (fun h => by have hh := HM.out.1 h; omega)
      go_wp2
      go_ret
      exact ⟨by rw [HZ.out]; rfl, S3.out.gr⟩
    have shf : decide (65535 < q.s) = false := decide_eq_false sh
    by_cases cl : q.c < 0
    case pos =>
      have z0 : decide (q.c < 0) = true := decide_eq_true cl
      have HZ : Hid (res = 210) := H0.out (fun h => by have hh := HM.out.1 h; omega)
      go_wp2
      go_ret
      exact ⟨by rw [HZ.out]; rfl, S3.out.gr⟩
    have clf : decide (q.c < 0) = false := decide_eq_false cl
    by_cases ch : 65535 < q.c
    case pos =>
      have z0 : decide (65535 < q.c) = true := decide_eq_true ch
      have HZ : Hid (res = 210) := H0.out (fun h => by have hh := HM.out.1 h; omega)
      go_wp2
      go_ret
      exact ⟨by rw [HZ.out]; rfl, S3.out.gr⟩
    have chf : decide (65535 < q.c) = false := decide_eq_false ch
    by_cases ul : q.u < 0
    case pos =>
      have z0 : decide (q.u < 0) = true := decide_eq_true ul
      have HZ : Hid (res = 210) := H0.out (fun h => by have hh := HM.out.1 h; omega)
      go_wp2
      go_ret
      exact ⟨by rw [HZ.out]; rfl, S3.out.gr⟩
    have ulf : decide (q.u < 0) = false := decide_eq_false ul
    have HN := hide (And.intro el (And.intro eh (And.intro sl (And.intro sh (And.intro cl (And.intro ch ul))))))
    clear el eh sl sh cl ch ul
    go_upto_region 6 with fail
    go_upto_region 8 with fail
    by_cases zi : q.i = 0
    case neg =>
      have HZ : Hid (res = 210) := H0.out (fun h => by have hh := HM.out.1 h; exact zi (hh.2.2.2.2.2.1 (HH.out.1)))
      have xi : (q.i == 0) = false := by simpa using zi
      have yi : (q.i != 0) = true := by simpa using zi
      have vi : decide (q.i = 0) = false := by simpa using zi
      clear zi
      go_wp2
      go_ret
      exact ⟨by rw [HZ.out]; rfl, S4.out.gr⟩
    have xi : (q.i == 0) = true := by simpa using zi
    have yi : (q.i != 0) = false := by simpa using zi
    have vi : decide (q.i = 0) = true := by simpa using zi
    have Zi := hide zi
    clear zi
    by_cases zs : q.s = 0
    case neg =>
      have HZ : Hid (res = 210) := H0.out (fun h => by have hh := HM.out.1 h; exact zs (hh.2.2.2.2.2.2.1 (HH.out.2.1)))
      have xs : (q.s == 0) = false := by simpa using zs
      have ys : (q.s != 0) = true := by simpa using zs
      have vs : decide (q.s = 0) = false := by simpa using zs
      clear zs
      go_wp2
      go_ret
      exact ⟨by rw [HZ.out]; rfl, S4.out.gr⟩
    have xs : (q.s == 0) = true := by simpa using zs
    have ys : (q.s != 0) = false := by simpa using zs
    have vs : decide (q.s = 0) = true := by simpa using zs
    have Zs := hide zs
    clear zs
    by_cases zu : q.u = 0
    case neg =>
      have HZ : Hid (res = 210) := H0.out (fun h => by have hh := HM.out.1 h; exact zu (hh.2.2.2.2.2.2.2.1 (HH.out.2.2.1)))
      have xu : (q.u == 0) = false := by simpa using zu
      have yu : (q.u != 0) = true := by simpa using zu
      have vu : decide (q.u = 0) = false := by simpa using zu
      clear zu
      go_wp2
      go_ret
      exact ⟨by rw [HZ.out]; rfl, S4.out.gr⟩
    have xu : (q.u == 0) = true := by simpa using zu
    have yu : (q.u != 0) = false := by simpa using zu
    have vu : decide (q.u = 0) = true := by simpa using zu
    have Zu := hide zu
    clear zu
    by_cases zc : q.c = 0
    case neg =>
      have HZ : Hid (res = 210) := H0.out (fun h => by have hh := HM.out.1 h; exact zc (hh.2.2.2.2.2.2.2.2 (HH.out.2.2.2)))
      have xc : (q.c == 0) = false := by simpa using zc
      have yc : (q.c != 0) = true := by simpa using zc
      have vc : decide (q.c = 0) = false := by simpa using zc
      clear zc
      go_wp2
      go_ret
      exact ⟨by rw [HZ.out]; rfl, S4.out.gr⟩
    have xc : (q.c == 0) = true := by simpa using zc
    have yc : (q.c != 0) = false := by simpa using zc
    have vc : decide (q.c = 0) = true := by simpa using zc
    have Zc := hide zc
    clear zc
    have HZ : Hid (res = 0) := H1.out (HM.out.2 ⟨HK.out, by have := HN.out; omega, by have := HN.out; omega, by have := HN.out; omega, by have := HN.out; omega, fun _ => Zi.out, fun _ => Zs.out, fun _ => Zu.out, fun _ => Zc.out⟩)
    go_wp2
    go_ret
    exact ⟨by rw [HZ.out]; rfl, S4.out.gr⟩
  | true =>
    have HK : Hid ((1 ≤ q.k ∧ q.k ≤ 10) ∨ (q.k = 0 ∧ q.t = 0 ∧ q.e = 200)) := Or.inl (of_decide_eq_true HOK.out)
    go_upto_region 4 with fail
    by_cases el : q.e < 0
    case pos =>
      have z0 : decide (q.e < 0) = true := decide_eq_true el
      have HZ : Hid (res = 210) := H0.out (fun h => by have hh := HM.out.1 h; omega)
      go_wp2
      go_ret
      exact ⟨by rw [HZ.out]; rfl, S3.out.gr⟩
    have elf : decide (q.e < 0) = false := decide_eq_false el
    by_cases eh : 65535 < q.e
    case pos =>
      have z0 : decide (65535 < q.e) = true := decide_eq_true eh
      have HZ : Hid (res = 210) := H0.out (fun h => by have hh := HM.out.1 h; omega)
      go_wp2
      go_ret
      exact ⟨by rw [HZ.out]; rfl, S3.out.gr⟩
    have ehf : decide (65535 < q.e) = false := decide_eq_false eh
    by_cases sl : q.s < 0
    case pos =>
      have z0 : decide (q.s < 0) = true := decide_eq_true sl
      have HZ : Hid (res = 210) := H0.out (fun h => by have hh := HM.out.1 h; omega)
      go_wp2
      go_ret
      exact ⟨by rw [HZ.out]; rfl, S3.out.gr⟩
    have slf : decide (q.s < 0) = false := decide_eq_false sl
    by_cases sh : 65535 < q.s
    case pos =>
      have z0 : decide (65535 < q.s) = true := decide_eq_true sh
      have HZ : Hid (res = 210) := H0.out (fun h => by have hh := HM.out.1 h; omega)
      go_wp2
      go_ret
      exact ⟨by rw [HZ.out]; rfl, S3.out.gr⟩
    have shf : decide (65535 < q.s) = false := decide_eq_false sh
    by_cases cl : q.c < 0
    case pos =>
      have z0 : decide (q.c < 0) = true := decide_eq_true cl
      have HZ : Hid (res = 210) := H0.out (fun h => by have hh := HM.out.1 h; omega)
      go_wp2
      go_ret
      exact ⟨by rw [HZ.out]; rfl, S3.out.gr⟩
    have clf : decide (q.c < 0) = false := decide_eq_false cl
    by_cases ch : 65535 < q.c
    case pos =>
      have z0 : decide (65535 < q.c) = true := decide_eq_true ch
      have HZ : Hid (res = 210) := H0.out (fun h => by have hh := HM.out.1 h; omega)
      go_wp2
      go_ret
      exact ⟨by rw [HZ.out]; rfl, S3.out.gr⟩
    have chf : decide (65535 < q.c) = false := decide_eq_false ch
    by_cases ul : q.u < 0
    case pos =>
      have z0 : decide (q.u < 0) = true := decide_eq_true ul
      have HZ : Hid (res = 210) := H0.out (fun h => by have hh := HM.out.1 h; omega)
      go_wp2
      go_ret
      exact ⟨by rw [HZ.out]; rfl, S3.out.gr⟩
    have ulf : decide (q.u < 0) = false := decide_eq_false ul
    have HN := hide (And.intro el (And.intro eh (And.intro sl (And.intro sh (And.intro cl (And.intro ch ul))))))
    clear el eh sl sh cl ch ul
    go_upto_region 6 with fail
    by_cases e0 : q.e = 0
    case neg =>
      have u4 : (q.e == 0) = false := by simpa using e0
      have u5 : (q.e != 0) = true := by simpa using e0
      have u6 : decide (q.e = 0) = false := by simpa using e0
      have HH := hide (has_e (k := q.k) e0)
      clear e0
      go_upto_region 8 with fail
      by_cases zi : q.i = 0
      case neg =>
        have HZ : Hid (res = 210) := H0.out (fun h => by have hh := HM.out.1 h; exact zi (hh.2.2.2.2.2.1 (HH.out.1)))
        have xi : (q.i == 0) = false := by simpa using zi
        have yi : (q.i != 0) = true := by simpa using zi
        have vi : decide (q.i = 0) = false := by simpa using zi
        clear zi
        go_wp2
        go_ret
        exact ⟨by rw [HZ.out]; rfl, S4.out.gr⟩
      have xi : (q.i == 0) = true := by simpa using zi
      have yi : (q.i != 0) = false := by simpa using zi
      have vi : decide (q.i = 0) = true := by simpa using zi
      have Zi := hide zi
      clear zi
      by_cases zs : q.s = 0
      case neg =>
        have HZ : Hid (res = 210) := H0.out (fun h => by have hh := HM.out.1 h; exact zs (hh.2.2.2.2.2.2.1 (HH.out.2.1)))
        have xs : (q.s == 0) = false := by simpa using zs
        have ys : (q.s != 0) = true := by simpa using zs
        have vs : decide (q.s = 0) = false := by simpa using zs
        clear zs
        go_wp2
        go_ret
        exact ⟨by rw [HZ.out]; rfl, S4.out.gr⟩
      have xs : (q.s == 0) = true := by simpa using zs
      have ys : (q.s != 0) = false := by simpa using zs
      have vs : decide (q.s = 0) = true := by simpa using zs
      have Zs := hide zs
      clear zs
      by_cases zu : q.u = 0
      case neg =>
        have HZ : Hid (res = 210) := H0.out (fun h => by have hh := HM.out.1 h; exact zu (hh.2.2.2.2.2.2.2.1 (HH.out.2.2.1)))
        have xu : (q.u == 0) = false := by simpa using zu
        have yu : (q.u != 0) = true := by simpa using zu
        have vu : decide (q.u = 0) = false := by simpa using zu
        clear zu
        go_wp2
        go_ret
        exact ⟨by rw [HZ.out]; rfl, S4.out.gr⟩
      have xu : (q.u == 0) = true := by simpa using zu
      have yu : (q.u != 0) = false := by simpa using zu
      have vu : decide (q.u = 0) = true := by simpa using zu
      have Zu := hide zu
      clear zu
      by_cases zc : q.c = 0
      case neg =>
        have HZ : Hid (res = 210) := H0.out (fun h => by have hh := HM.out.1 h; exact zc (hh.2.2.2.2.2.2.2.2 (HH.out.2.2.2)))
        have xc : (q.c == 0) = false := by simpa using zc
        have yc : (q.c != 0) = true := by simpa using zc
        have vc : decide (q.c = 0) = false := by simpa using zc
        clear zc
        go_wp2
        go_ret
        exact ⟨by rw [HZ.out]; rfl, S4.out.gr⟩
      have xc : (q.c == 0) = true := by simpa using zc
      have yc : (q.c != 0) = false := by simpa using zc
      have vc : decide (q.c = 0) = true := by simpa using zc
      have Zc := hide zc
      clear zc
      have HZ : Hid (res = 0) := H1.out (HM.out.2 ⟨HK.out, by have := HN.out; omega, by have := HN.out; omega, by have := HN.out; omega, by have := HN.out; omega, fun _ => Zi.out, fun _ => Zs.out, fun _ => Zu.out, fun _ => Zc.out⟩)
      go_wp2
      go_ret
      exact ⟨by rw [HZ.out]; rfl, S4.out.gr⟩
    have u4 : (q.e == 0) = true := by simpa using e0
    have u5 : (q.e != 0) = false := by simpa using e0
    have u6 : decide (q.e = 0) = true := by simpa using e0
    have HEE := hide e0
    clear e0
    go_upto_region 8 with fail
    rcases HF.out with ⟨ef, rfl, rfl, rfl, rfl⟩ | ⟨ef, rfl, rfl, rfl, rfl⟩ | ⟨ef, rfl, rfl, rfl, rfl⟩ | ⟨ef, rfl, rfl, rfl, rfl⟩ | ⟨ef, rfl, rfl, rfl, rfl⟩ | ⟨ef, rfl, rfl, rfl, rfl⟩
    · have HH : Hid (hI q.k q.e = false ∧ hS q.k q.e = false ∧ hU q.k q.e = false ∧ hC q.k q.e = false) := by
        rw [HEE.out]
        have hv := ef
        rcases fv_cases q.k 0 with h | h | h | h | h | h <;> first | exact h.2 | (have h1 := h.1; rw [hv] at h1; exact absurd h1 (by decide))
      clear ef
      by_cases zi : q.i = 0
      case neg =>
        have HZ : Hid (res = 210) := H0.out (fun h => by have hh := HM.out.1 h; exact zi (hh.2.2.2.2.2.1 (HH.out.1)))
        have xi : (q.i == 0) = false := by simpa using zi
        have yi : (q.i != 0) = true := by simpa using zi
        have vi : decide (q.i = 0) = false := by simpa using zi
        clear zi
        go_wp2
        go_ret
        exact ⟨by rw [HZ.out]; rfl, S3.out.gr⟩
      have xi : (q.i == 0) = true := by simpa using zi
      have yi : (q.i != 0) = false := by simpa using zi
      have vi : decide (q.i = 0) = true := by simpa using zi
      have Zi := hide zi
      clear zi
      by_cases zs : q.s = 0
      case neg =>
        have HZ : Hid (res = 210) := H0.out (fun h => by have hh := HM.out.1 h; exact zs (hh.2.2.2.2.2.2.1 (HH.out.2.1)))
        have xs : (q.s == 0) = false := by simpa using zs
        have ys : (q.s != 0) = true := by simpa using zs
        have vs : decide (q.s = 0) = false := by simpa using zs
        clear zs
        go_wp2
        go_ret
        exact ⟨by rw [HZ.out]; rfl, S3.out.gr⟩
      have xs : (q.s == 0) = true := by simpa using zs
      have ys : (q.s != 0) = false := by simpa using zs
      have vs : decide (q.s = 0) = true := by simpa using zs
      have Zs := hide zs
      clear zs
      by_cases zu : q.u = 0
      case neg =>
        have HZ : Hid (res = 210) := H0.out (fun h => by have hh := HM.out.1 h; exact zu (hh.2.2.2.2.2.2.2.1 (HH.out.2.2.1)))
        have xu : (q.u == 0) = false := by simpa using zu
        have yu : (q.u != 0) = true := by simpa using zu
        have vu : decide (q.u = 0) = false := by simpa using zu
        clear zu
        go_wp2
        go_ret
        exact ⟨by rw [HZ.out]; rfl, S3.out.gr⟩
      have xu : (q.u == 0) = true := by simpa using zu
      have yu : (q.u != 0) = false := by simpa using zu
      have vu : decide (q.u = 0) = true := by simpa using zu
      have Zu := hide zu
      clear zu
      by_cases zc : q.c = 0
      case neg =>
        have HZ : Hid (res = 210) := H0.out (fun h => by have hh := HM.out.1 h; exact zc (hh.2.2.2.2.2.2.2.2 (HH.out.2.2.2)))
        have xc : (q.c == 0) = false := by simpa using zc
        have yc : (q.c != 0) = true := by simpa using zc
        have vc : decide (q.c = 0) = false := by simpa using zc
        clear zc
        go_wp2
        go_ret
        exact ⟨by rw [HZ.out]; rfl, S3.out.gr⟩
      have xc : (q.c == 0) = true := by simpa using zc
      have yc : (q.c != 0) = false := by simpa using zc
      have vc : decide (q.c = 0) = true := by simpa using zc
      have Zc := hide zc
      clear zc
      have HZ : Hid (res = 0) := H1.out (HM.out.2 ⟨HK.out, by have := HN.out; omega, by have := HN.out; omega, by have := HN.out; omega, by have := HN.out; omega, fun _ => Zi.out, fun _ => Zs.out, fun _ => Zu.out, fun _ => Zc.out⟩)
      go_wp2
      go_ret
      exact ⟨by rw [HZ.out]; rfl, S3.out.gr⟩
    · have HH : Hid (hI q.k q.e = true ∧ hS q.k q.e = false ∧ hU q.k q.e = true ∧ hC q.k q.e = false) := by
        rw [HEE.out]
        have hv := ef
        rcases fv_cases q.k 0 with h | h | h | h | h | h <;> first | exact h.2 | (have h1 := h.1; rw [hv] at h1; exact absurd h1 (by decide))
      clear ef
      by_cases zs : q.s = 0
      case neg =>
        have HZ : Hid (res = 210) := H0.out (fun h => by have hh := HM.out.1 h; exact zs (hh.2.2.2.2.2.2.1 (HH.out.2.1)))
        have xs : (q.s == 0) = false := by simpa using zs
        have ys : (q.s != 0) = true := by simpa using zs
        have vs : decide (q.s = 0) = false := by simpa using zs
        clear zs
        go_wp2
        go_ret
        exact ⟨by rw [HZ.out]; rfl, S3.out.gr⟩
      have xs : (q.s == 0) = true := by simpa using zs
      have ys : (q.s != 0) = false := by simpa using zs
      have vs : decide (q.s = 0) = true := by simpa using zs
      have Zs := hide zs
      clear zs
      by_cases zc : q.c = 0
      case neg =>
        have HZ : Hid (res = 210) := H0.out (fun h => by have hh := HM.out.1 h; exact zc (hh.2.2.2.2.2.2.2.2 (HH.out.2.2.2)))
        have xc : (q.c == 0) = false := by simpa using zc
        have yc : (q.c != 0) = true := by simpa using zc
        have vc : decide (q.c = 0) = false := by simpa using zc
        clear zc
        go_wp2
        go_ret
        exact ⟨by rw [HZ.out]; rfl, S3.out.gr⟩
      have xc : (q.c == 0) = true := by simpa using zc
      have yc : (q.c != 0) = false := by simpa using zc
      have vc : decide (q.c = 0) = true := by simpa using zc
      have Zc := hide zc
      clear zc
      have HZ : Hid (res = 0) := H1.out (HM.out.2 ⟨HK.out, by have := HN.out; omega, by have := HN.out; omega, by have := HN.out; omega, by have := HN.out; omega, fun e => absurd e (by rw [HH.out.1]; decide), fun _ => Zs.out, fun e => absurd e (by rw [HH.out.2.2.1]; decide), fun _ => Zc.out⟩)
      go_wp2
      go_ret
      exact ⟨by rw [HZ.out]; rfl, S3.out.gr⟩
    · have HH : Hid (hI q.k q.e = false ∧ hS q.k q.e = true ∧ hU q.k q.e = false ∧ hC q.k q.e = false) := by
        rw [HEE.out]
        have hv := ef
        rcases fv_cases q.k 0 with h | h | h | h | h | h <;> first | exact h.2 | (have h1 := h.1; rw [hv] at h1; exact absurd h1 (by decide))
      clear ef
      by_cases zi : q.i = 0
      case neg =>
        have HZ : Hid (res = 210) := H0.out (fun h => by have hh := HM.out.1 h; exact zi (hh.2.2.2.2.2.1 (HH.out.1)))
        have xi : (q.i == 0) = false := by simpa using zi
        have yi : (q.i != 0) = true := by simpa using zi
        have vi : decide (q.i = 0) = false := by simpa using zi
        clear zi
        go_wp2
        go_ret
        exact ⟨by rw [HZ.out]; rfl, S3.out.gr⟩
      have xi : (q.i == 0) = true := by simpa using zi
      have yi : (q.i != 0) = false := by simpa using zi
      have vi : decide (q.i = 0) = true := by simpa using zi
      have Zi := hide zi
      clear zi
      by_cases zu : q.u = 0
      case neg =>
        have HZ : Hid (res = 210) := H0.out (fun h => by have hh := HM.out.1 h; exact zu (hh.2.2.2.2.2.2.2.1 (HH.out.2.2.1)))
        have xu : (q.u == 0) = false := by simpa using zu
        have yu : (q.u != 0) = true := by simpa using zu
        have vu : decide (q.u = 0) = false := by simpa using zu
        clear zu
        go_wp2
        go_ret
        exact ⟨by rw [HZ.out]; rfl, S3.out.gr⟩
      have xu : (q.u == 0) = true := by simpa using zu
      have yu : (q.u != 0) = false := by simpa using zu
      have vu : decide (q.u = 0) = true := by simpa using zu
      have Zu := hide zu
      clear zu
      by_cases zc : q.c = 0
      case neg =>
        have HZ : Hid (res = 210) := H0.out (fun h => by have hh := HM.out.1 h; exact zc (hh.2.2.2.2.2.2.2.2 (HH.out.2.2.2)))
        have xc : (q.c == 0) = false := by simpa using zc
        have yc : (q.c != 0) = true := by simpa using zc
        have vc : decide (q.c = 0) = false := by simpa using zc
        clear zc
        go_wp2
        go_ret
        exact ⟨by rw [HZ.out]; rfl, S3.out.gr⟩
      have xc : (q.c == 0) = true := by simpa using zc
      have yc : (q.c != 0) = false := by simpa using zc
      have vc : decide (q.c = 0) = true := by simpa using zc
      have Zc := hide zc
      clear zc
      have HZ : Hid (res = 0) := H1.out (HM.out.2 ⟨HK.out, by have := HN.out; omega, by have := HN.out; omega, by have := HN.out; omega, by have := HN.out; omega, fun _ => Zi.out, fun e => absurd e (by rw [HH.out.2.1]; decide), fun _ => Zu.out, fun _ => Zc.out⟩)
      go_wp2
      go_ret
      exact ⟨by rw [HZ.out]; rfl, S3.out.gr⟩
    · have HH : Hid (hI q.k q.e = false ∧ hS q.k q.e = true ∧ hU q.k q.e = true ∧ hC q.k q.e = false) := by
        rw [HEE.out]
        have hv := ef
        rcases fv_cases q.k 0 with h | h | h | h | h | h <;> first | exact h.2 | (have h1 := h.1; rw [hv] at h1; exact absurd h1 (by decide))
      clear ef
      by_cases zi : q.i = 0
      case neg =>
        have HZ : Hid (res = 210) := H0.out (fun h => by have hh := HM.out.1 h; exact zi (hh.2.2.2.2.2.1 (HH.out.1)))
        have xi : (q.i == 0) = false := by simpa using zi
        have yi : (q.i != 0) = true := by simpa using zi
        have vi : decide (q.i = 0) = false := by simpa using zi
        clear zi
        go_wp2
        go_ret
        exact ⟨by rw [HZ.out]; rfl, S3.out.gr⟩
      have xi : (q.i == 0) = true := by simpa using zi
      have yi : (q.i != 0) = false := by simpa using zi
      have vi : decide (q.i = 0) = true := by simpa using zi
      have Zi := hide zi
      clear zi
      by_cases zc : q.c = 0
      case neg =>
        have HZ : Hid (res = 210) := H0.out (fun h => by have hh := HM.out.1 h; exact zc (hh.2.2.2.2.2.2.2.2 (HH.out.2.2.2)))
        have xc : (q.c == 0) = false := by simpa using zc
        have yc : (q.c != 0) = true := by simpa using zc
        have vc : decide (q.c = 0) = false := by simpa using zc
        clear zc
        go_wp2
        go_ret
        exact ⟨by rw [HZ.out]; rfl, S3.out.gr⟩
      have xc : (q.c == 0) = true := by simpa using zc
      have yc : (q.c != 0) = false := by simpa using zc
      have vc : decide (q.c = 0) = true := by simpa using zc
      have Zc := hide zc
      clear zc
      have HZ : Hid (res = 0) := H1.out (HM.out.2 ⟨HK.out, by have := HN.out; omega, by have := HN.out; omega, by have := HN.out; omega, by have := HN.out; omega, fun _ => Zi.out, fun e => absurd e (by rw [HH.out.2.1]; decide), fun e => absurd e (by rw [HH.out.2.2.1]; decide), fun _ => Zc.out⟩)
      go_wp2
      go_ret
      exact ⟨by rw [HZ.out]; rfl, S3.out.gr⟩
    · have HH : Hid (hI q.k q.e = false ∧ hS q.k q.e = false ∧ hU q.k q.e = true ∧ hC q.k q.e = false) := by
        rw [HEE.out]
        have hv := ef
        rcases fv_cases q.k 0 with h | h | h | h | h | h <;> first | exact h.2 | (have h1 := h.1; rw [hv] at h1; exact absurd h1 (by decide))
      clear ef
      by_cases zi : q.i = 0
      case neg =>
        have HZ : Hid (res = 210) := H0.out (fun h => by have hh := HM.out.1 h; exact zi (hh.2.2.2.2.2.1 (HH.out.1)))
        have xi : (q.i == 0) = false := by simpa using zi
        have yi : (q.i != 0) = true := by simpa using zi
        have vi : decide (q.i = 0) = false := by simpa using zi
        clear zi
        go_wp2
        go_ret
        exact ⟨by rw [HZ.out]; rfl, S3.out.gr⟩
      have xi : (q.i == 0) = true := by simpa using zi
      have yi : (q.i != 0) = false := by simpa using zi
      have vi : decide (q.i = 0) = true := by simpa using zi
      have Zi := hide zi
      clear zi
      by_cases zs : q.s = 0
      case neg =>
        have HZ : Hid (res = 210) := H0.out (fun h => by have hh := HM.out.1 h; exact zs (hh.2.2.2.2.2.2.1 (HH.out.2.1)))
        have xs : (q.s == 0) = false := by simpa using zs
        have ys : (q.s != 0) = true := by simpa using zs
        have vs : decide (q.s = 0) = false := by simpa using zs
        clear zs
        go_wp2
        go_ret
        exact ⟨by rw [HZ.out]; rfl, S3.out.gr⟩
      have xs : (q.s == 0) = true := by simpa using zs
      have ys : (q.s != 0) = false := by simpa using zs
      have vs : decide (q.s = 0) = true := by simpa using zs
      have Zs := hide zs
      clear zs
      by_cases zc : q.c = 0
      case neg =>
        have HZ : Hid (res = 210) := H0.out (fun h => by have hh := HM.out.1 h; exact zc (hh.2.2.2.2.2.2.2.2 (HH.out.2.2.2)))
        have xc : (q.c == 0) = false := by simpa using zc
        have yc : (q.c != 0) = true := by simpa using zc
        have vc : decide (q.c = 0) = false := by simpa using zc
        clear zc
        go_wp2
        go_ret
        exact ⟨by rw [HZ.out]; rfl, S3.out.gr⟩
      have xc : (q.c == 0) = true := by simpa using zc
      have yc : (q.c != 0) = false := by simpa using zc
      have vc : decide (q.c = 0) = true := by simpa using zc
      have Zc := hide zc
      clear zc
      have HZ : Hid (res = 0) := H1.out (HM.out.2 ⟨HK.out, by have := HN.out; omega, by have := HN.out; omega, by have := HN.out; omega, by have := HN.out; omega, fun _ => Zi.out, fun _ => Zs.out, fun e => absurd e (by rw [HH.out.2.2.1]; decide), fun _ => Zc.out⟩)
      go_wp2
      go_ret
      exact ⟨by rw [HZ.out]; rfl, S3.out.gr⟩
    · have HH : Hid (hI q.k q.e = false ∧ hS q.k q.e = false ∧ hU q.k q.e = false ∧ hC q.k q.e = true) := by
        rw [HEE.out]
        have hv := ef
        rcases fv_cases q.k 0 with h | h | h | h | h | h <;> first | exact h.2 | (have h1 := h.1; rw [hv] at h1; exact absurd h1 (by decide))
      clear ef
      by_cases zi : q.i = 0
      case neg =>
        have HZ : Hid (res = 210) := H0.out (fun h => by have hh := HM.out.1 h; exact zi (hh.2.2.2.2.2.1 (HH.out.1)))
        have xi : (q.i == 0) = false := by simpa using zi
        have yi : (q.i != 0) = true := by simpa using zi
        have vi : decide (q.i = 0) = false := by simpa using zi
        clear zi
        go_wp2
        go_ret
        exact ⟨by rw [HZ.out]; rfl, S3.out.gr⟩
      have xi : (q.i == 0) = true := by simpa using zi
      have yi : (q.i != 0) = false := by simpa using zi
      have vi : decide (q.i = 0) = true := by simpa using zi
      have Zi := hide zi
      clear zi
      by_cases zs : q.s = 0
      case neg =>
        have HZ : Hid (res = 210) := H0.out (fun h => by have hh := HM.out.1 h; exact zs (hh.2.2.2.2.2.2.1 (HH.out.2.1)))
        have xs : (q.s == 0) = false := by simpa using zs
        have ys : (q.s != 0) = true := by simpa using zs
        have vs : decide (q.s = 0) = false := by simpa using zs
        clear zs
        go_wp2
        go_ret
        exact ⟨by rw [HZ.out]; rfl, S3.out.gr⟩
      have xs : (q.s == 0) = true := by simpa using zs
      have ys : (q.s != 0) = false := by simpa using zs
      have vs : decide (q.s = 0) = true := by simpa using zs
      have Zs := hide zs
      clear zs
      by_cases zu : q.u = 0
      case neg =>
        have HZ : Hid (res = 210) := H0.out (fun h => by have hh := HM.out.1 h; exact zu (hh.2.2.2.2.2.2.2.1 (HH.out.2.2.1)))
        have xu : (q.u == 0) = false := by simpa using zu
        have yu : (q.u != 0) = true := by simpa using zu
        have vu : decide (q.u = 0) = false := by simpa using zu
        clear zu
        go_wp2
        go_ret
        exact ⟨by rw [HZ.out]; rfl, S3.out.gr⟩
      have xu : (q.u == 0) = true := by simpa using zu
      have yu : (q.u != 0) = false := by simpa using zu
      have vu : decide (q.u = 0) = true := by simpa using zu
      have Zu := hide zu
      clear zu
      have HZ : Hid (res = 0) := H1.out (HM.out.2 ⟨HK.out, by have := HN.out; omega, by have := HN.out; omega, by have := HN.out; omega, by have := HN.out; omega, fun _ => Zi.out, fun _ => Zs.out, fun _ => Zu.out, fun e => absurd e (by rw [HH.out.2.2.2]; decide)⟩)
      go_wp2
      go_ret
      exact ⟨by rw [HZ.out]; rfl, S3.out.gr⟩
end Go.Proofs.YtoflohjlmagjpaaDoor
