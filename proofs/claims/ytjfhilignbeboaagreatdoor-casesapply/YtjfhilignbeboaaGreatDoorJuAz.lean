/- Texts joined: Yb. -/
import Derived.Test.YtjfhilignbeboaaGreatDoorJuAl
/- replies: isOfKind, isOfNone, Check. -/
namespace Go.Proofs.YtjfhilignbeboaaGreatDoor.Rt
open Go.RowKit
attribute [local go_sem ↓] Go.wp_at_zero Go.wp_at_succ
theorem kind_of {q : Ry} {a b c d f g : Bool} (ha : decide (1 ≤ q.k ∧ q.k ≤ 10) = a) (hb : decide (0 ≤ q.e ∧ q.e ≤ 65535) = b) (hc : inP (hI q.k q.e) q.i 4294967295 = c) (hd : inP (hS q.k q.e) q.s 65535 = d) (hf : inP (hU q.k q.e) q.u 9223372036854775807 = f) (hg : inP (hC q.k q.e) q.c 65535 = g) : q.kindB = (a && (b && (c && (d && (f && g))))) := by
  subst ha hb hc hd hf hg
  rfl
set_option maxRecDepth 20000 in
set_option maxHeartbeats 8000000 in
theorem isOfKind_any (q : Ry) (ho : q.Ok) (w : World) (hT : Tab w) : Calls Tryz.prog 59 #[ryV q] w fun e w' => e = .returned (.bool q.kindB) ∧ w.grownBy w' none := by
  have S0 := hide (CkS.begin w q)
  have HT := hide hT
  have qf := fun w1 h => fieldsIn_any q w1 h
  have qk := isKind_any q.k
  obtain ⟨m1, m2, m3, m4⟩ := fv_has q.k q.e
  have qI := fun w1 => allow_any (fv q.k q.e) 1 q.i 4294967295 _ m1 w1
  have qS := fun w1 => allow_any (fv q.k q.e) 2 q.s 65535 _ m2 w1
  have qU := fun w1 => allow_any (fv q.k q.e) 4 q.u 9223372036854775807 _ m3 w1
  have qC := fun w1 => allow_any (fv q.k q.e) 8 q.c 65535 _ m4 w1
  have W1 : IntKind.i64.wrap q.i = q.i := by rw [IntKind.wrap_i64]; have := ho.i0; have := ho.i1; omega
  clear m1 m2 m3 m4 ho hT
  obtain ⟨bk, ek⟩ : ∃ b, decide (1 ≤ q.k ∧ q.k ≤ 10) = b := ⟨_, rfl⟩
  obtain ⟨be, ee⟩ : ∃ b, decide (0 ≤ q.e ∧ q.e ≤ 65535) = b := ⟨_, rfl⟩
  obtain ⟨bI, eI⟩ : ∃ b, inP (hI q.k q.e) q.i 4294967295 = b := ⟨_, rfl⟩
  obtain ⟨bS, eS⟩ : ∃ b, inP (hS q.k q.e) q.s 65535 = b := ⟨_, rfl⟩
  obtain ⟨bU, eU⟩ : ∃ b, inP (hU q.k q.e) q.u 9223372036854775807 = b := ⟨_, rfl⟩
  obtain ⟨bC, eC⟩ : ∃ b, inP (hC q.k q.e) q.c 65535 = b := ⟨_, rfl⟩
  obtain ⟨res, hres⟩ : ∃ res, res = q.kindB := ⟨_, rfl⟩
  rw [← hres]
  have HR : Hid (res = (bk && (be && (bI && (bS && (bU && bC)))))) := hres.trans (kind_of ek ee eI eS eU eC)
  rw [ek] at qk
  rw [eI] at qI
  rw [eS] at qS
  rw [eU] at qU
  rw [eC] at qC
  clear ek eI eS eU eC hres
  have HE := hide ee
  clear ee
  generalize fv q.k q.e = f at *
  unfold ryV at *
  obtain ⟨c0, c1, c2, c3, c4, c5, c6⟩ := box7 S0.out.box
  have qf := qf _ (HT.out.new S0.out.gr)
  go_enter Tryz.func59, Tryz.ntmps59
  go_wp2_with fail
  generalize w.alloc (.cells #[.int .u32 q.t, .int .i64 q.k, .int .i64 q.e, .int .u32 q.i, .int .i64 q.s, .int .i64 q.u, .int .i64 q.c] 31) = w1 at *
  refine qf.mono ?_
  clear qf c0 c1 c2 c3 c4 c5 c6
  rintro e w2 ⟨rfl, hg⟩
  have S1 := hide (S0.out.then hg)
  clear hg S0
  obtain ⟨c0, c1, c2, c3, c4, c5, c6⟩ := box7 S1.out.box
  go_wp2_with fail
  refine (qk w2).mono ?_
  clear qk
  rintro e wx ⟨rfl, hw⟩
  obtain rfl := hw.symm
  clear hw
  cases bk with
  | false =>
    have HZ : Hid (res = false) := HR.out
    go_wp2
    go_ret
    exact ⟨by rw [HZ.out]; rfl, S1.out.gr⟩
  | true =>
    by_cases h1 : 0 ≤ q.e
    case neg =>
      have HZ : Hid (res = false) := by
        have hx : be = false := HE.out.symm.trans (decide_eq_false (fun h => h1 h.1))
        rw [HR.out, hx]; rfl
      go_wp2
      go_ret
      exact ⟨by rw [HZ.out]; rfl, S1.out.gr⟩
    by_cases h2 : q.e ≤ 65535
    case neg =>
      have HZ : Hid (res = false) := by
        have hx : be = false := HE.out.symm.trans (decide_eq_false (fun h => h2 h.2))
        rw [HR.out, hx]; rfl
      have h3 : decide (q.e ≤ 65535) = false := decide_eq_false h2
      go_wp2
      go_ret
      exact ⟨by rw [HZ.out]; rfl, S1.out.gr⟩
    have HR : Hid (res = (bI && (bS && (bU && bC)))) := by
      have hx : be = true := HE.out.symm.trans (decide_eq_true ⟨h1, h2⟩)
      have := HR.out
      rw [hx] at this
      exact this
    have d1 : decide (0 ≤ q.e) = true := decide_eq_true h1
    have d2 : decide (q.e ≤ 65535) = true := decide_eq_true h2
    clear HE h1 h2
    go_wp2_with fail
    refine (qI w2).mono ?_
    clear qI
    rintro e wx ⟨rfl, hw⟩
    obtain rfl := hw.symm
    clear hw
    cases bI with
    | false =>
      have HZ : Hid (res = false) := HR.out
      go_wp2
      go_ret
      exact ⟨by rw [HZ.out]; rfl, S1.out.gr⟩
    | true =>
      have HR : Hid (res = (bS && (bU && (bC)))) := HR.out
      go_wp2_with fail
      refine (qS w2).mono ?_
      clear qS
      rintro e wx ⟨rfl, hw⟩
      obtain rfl := hw.symm
      clear hw
      cases bS with
      | false =>
        have HZ : Hid (res = false) := HR.out
        go_wp2
        go_ret
        exact ⟨by rw [HZ.out]; rfl, S1.out.gr⟩
      | true =>
        have HR : Hid (res = (bU && (bC))) := HR.out
        go_wp2_with fail
        refine (qU w2).mono ?_
        clear qU
        rintro e wx ⟨rfl, hw⟩
        obtain rfl := hw.symm
        clear hw
        cases bU with
        | false =>
          have HZ : Hid (res = false) := HR.out
          go_wp2
          go_ret
          exact ⟨by rw [HZ.out]; rfl, S1.out.gr⟩
        | true =>
          have HR : Hid (res = (bC)) := HR.out
          go_wp2_with fail
          refine (qC w2).mono ?_
          clear qC
          rintro e wx ⟨rfl, hw⟩
          obtain rfl := hw.symm
          clear hw
          cases bC with
          | false =>
            have HZ : Hid (res = false) := HR.out
            go_wp2
            go_ret
            exact ⟨by rw [HZ.out]; rfl, S1.out.gr⟩
          | true =>
            have HZ : Hid (res = true) := HR.out
            go_wp2
            go_ret
            exact ⟨by rw [HZ.out]; rfl, S1.out.gr⟩
set_option maxRecDepth 20000 in
set_option maxHeartbeats 4000000 in
theorem isOfNone_any (q : Ry) (w : World) : Calls Tryz.prog 60 #[ryV q] w fun e w' => e = .returned (.bool q.noneB) ∧ w.grownBy w' none := by
  obtain ⟨t, k, e, i, s, u, c⟩ := q
  unfold ryV
  dsimp only
  by_cases ht : t = 0
  case neg =>
    have z1 : (t == 0) = false := by simpa using ht
    have z2 : decide (t = 0) = false := by simpa using ht
    rw [show (Ry.mk t k e i s u c).noneB = false from decide_eq_false (fun h => ht h.1)]
    have S0 := hide (CkS.begin w ⟨t, k, e, i, s, u, c⟩)
    obtain ⟨c0, c1, c2, c3, c4, c5, c6⟩ := box7 S0.out.box
    go_enter Tryz.func60, Tryz.ntmps60
    go_wp2
    go_ret
    exact ⟨rfl, S0.out.gr⟩
  subst ht
  by_cases hk : k = 0
  case neg =>
    have z1 : (k == 0) = false := by simpa using hk
    have z2 : decide (k = 0) = false := by simpa using hk
    rw [show (Ry.mk 0 k e i s u c).noneB = false from decide_eq_false (fun h => hk h.2.1)]
    have S0 := hide (CkS.begin w ⟨0, k, e, i, s, u, c⟩)
    obtain ⟨c0, c1, c2, c3, c4, c5, c6⟩ := box7 S0.out.box
    go_enter Tryz.func60, Tryz.ntmps60
    go_wp2
    go_ret
    exact ⟨rfl, S0.out.gr⟩
  subst hk
  by_cases he : e = 200
  case neg =>
    have z1 : (e == 200) = false := by simpa using he
    have z2 : decide (e = 200) = false := by simpa using he
    rw [show (Ry.mk 0 0 e i s u c).noneB = false from decide_eq_false (fun h => he h.2.2.1)]
    have S0 := hide (CkS.begin w ⟨0, 0, e, i, s, u, c⟩)
    obtain ⟨c0, c1, c2, c3, c4, c5, c6⟩ := box7 S0.out.box
    go_enter Tryz.func60, Tryz.ntmps60
    go_wp2
    go_ret
    exact ⟨rfl, S0.out.gr⟩
  subst he
  by_cases hi : i = 0
  case neg =>
    have z1 : (i == 0) = false := by simpa using hi
    have z2 : decide (i = 0) = false := by simpa using hi
    rw [show (Ry.mk 0 0 200 i s u c).noneB = false from decide_eq_false (fun h => hi h.2.2.2.1)]
    have S0 := hide (CkS.begin w ⟨0, 0, 200, i, s, u, c⟩)
    obtain ⟨c0, c1, c2, c3, c4, c5, c6⟩ := box7 S0.out.box
    go_enter Tryz.func60, Tryz.ntmps60
    go_wp2
    go_ret
    exact ⟨rfl, S0.out.gr⟩
  subst hi
  by_cases hs : s = 0
  case neg =>
    have z1 : (s == 0) = false := by simpa using hs
    have z2 : decide (s = 0) = false := by simpa using hs
    rw [show (Ry.mk 0 0 200 0 s u c).noneB = false from decide_eq_false (fun h => hs h.2.2.2.2.1)]
    have S0 := hide (CkS.begin w ⟨0, 0, 200, 0, s, u, c⟩)
    obtain ⟨c0, c1, c2, c3, c4, c5, c6⟩ := box7 S0.out.box
    go_enter Tryz.func60, Tryz.ntmps60
    go_wp2
    go_ret
    exact ⟨rfl, S0.out.gr⟩
  subst hs
  by_cases hu : u = 0
  case neg =>
    have z1 : (u == 0) = false := by simpa using hu
    have z2 : decide (u = 0) = false := by simpa using hu
    rw [show (Ry.mk 0 0 200 0 0 u c).noneB = false from decide_eq_false (fun h => hu h.2.2.2.2.2.1)]
    have S0 := hide (CkS.begin w ⟨0, 0, 200, 0, 0, u, c⟩)
    obtain ⟨c0, c1, c2, c3, c4, c5, c6⟩ := box7 S0.out.box
    go_enter Tryz.func60, Tryz.ntmps60
    go_wp2
    go_ret
    exact ⟨rfl, S0.out.gr⟩
  subst hu
  by_cases hc : c = 0
  case neg =>
    have z1 : (c == 0) = false := by simpa using hc
    have z2 : decide (c = 0) = false := by simpa using hc
    rw [show (Ry.mk 0 0 200 0 0 0 c).noneB = false from decide_eq_false (fun h => hc h.2.2.2.2.2.2)]
    have S0 := hide (CkS.begin w ⟨0, 0, 200, 0, 0, 0, c⟩)
    obtain ⟨c0, c1, c2, c3, c4, c5, c6⟩ := box7 S0.out.box
    go_enter Tryz.func60, Tryz.ntmps60
    go_wp2
    go_ret
    exact ⟨rfl, S0.out.gr⟩
  subst hc
  rw [show (Ry.mk 0 0 200 0 0 0 0).noneB = true from rfl]
  have S0 := hide (CkS.begin w ⟨0, 0, 200, 0, 0, 0, 0⟩)
  obtain ⟨c0, c1, c2, c3, c4, c5, c6⟩ := box7 S0.out.box
  go_enter Tryz.func60, Tryz.ntmps60
  go_wp2
  go_ret
  exact ⟨rfl, S0.out.gr⟩
theorem chk_of {q : Ry} {a b : Bool} (ha : q.kindB = a) (hb : q.noneB = b) : chk q = if (a || b) = true then 0 else 210 := by
  subst ha hb
  rfl
set_option maxRecDepth 20000 in
set_option maxHeartbeats 4000000 in
theorem check_any (q : Ry) (ho : q.Ok) (w : World) (hT : Tab w) : Calls Tryz.prog 21 #[ryV q] w fun e w' => e = .returned (.int .i64 (chk q)) ∧ w.grownBy w' none := by
  obtain ⟨res, hres⟩ : ∃ res, res = chk q := ⟨_, rfl⟩
  rw [← hres]
  have S0 := hide (CkS.begin w q)
  have qk := isOfKind_any q ho _ (hT.new S0.out.gr)
  have qn := isOfNone_any q
  have HR : Hid (res = if (q.kindB || q.noneB) = true then 0 else 210) := hres.trans (chk_of rfl rfl)
  clear hres ho hT
  generalize q.kindB = a at *
  generalize q.noneB = b at *
  unfold ryV at *
  obtain ⟨c0, c1, c2, c3, c4, c5, c6⟩ := box7 S0.out.box
  go_enter Tryz.func21, Tryz.ntmps21
  go_wp2_with fail
  generalize w.alloc (.cells #[.int .u32 q.t, .int .i64 q.k, .int .i64 q.e, .int .u32 q.i, .int .i64 q.s, .int .i64 q.u, .int .i64 q.c] 31) = w1 at *
  refine qk.mono ?_
  clear qk c0 c1 c2 c3 c4 c5 c6
  rintro e w2 ⟨rfl, hg⟩
  have S1 := hide (S0.out.then hg)
  clear hg S0
  obtain ⟨c0, c1, c2, c3, c4, c5, c6⟩ := box7 S1.out.box
  cases a with
  | true =>
    have HZ : Hid (res = 0) := HR.out
    go_wp2
    go_ret
    exact ⟨by rw [HZ.out]; rfl, S1.out.gr⟩
  | false =>
    go_wp2_with fail
    refine (qn w2).mono ?_
    clear qn
    rintro e w3 ⟨rfl, hg⟩
    have S2 := hide (S1.out.then hg)
    clear hg S1
    cases b with
    | true =>
      have HZ : Hid (res = 0) := HR.out
      go_wp2
      go_ret
      exact ⟨by rw [HZ.out]; rfl, S2.out.gr⟩
    | false =>
      have HZ : Hid (res = 210) := HR.out
      go_wp2
      go_ret
      exact ⟨by rw [HZ.out]; rfl, S2.out.gr⟩
end Go.Proofs.YtjfhilignbeboaaGreatDoor.Rt
