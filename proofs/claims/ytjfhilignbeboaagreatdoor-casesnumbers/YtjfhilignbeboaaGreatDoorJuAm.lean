/- Texts joined: Ca0, Cs0, Qb, Qc, Qm, BkN, BkR, Rp1, GeRf, Rp0, Rp2, Rp3, Rp6. -/
import Derived.Test.YtjfhilignbeboaaGreatDoorJuAc
import Derived.Test.YtjfhilignbeboaaGreatDoorJuAl
import Derived.Laws.BytesArg
import Derived.ProofKit
import Derived.OpenShut
import Derived.Deep.DeepHandedRow
import Derived.Lib.LaidTab
import Derived.ChangeOld
import Derived.SizedLaws
import Derived.Test.YtjfhilignbeboaaGreatDoorJuAk
import Derived.RangeFuncWrites
import Derived.Test.YtjfhilignbeboaaGreatDoorJuG
import Derived.Test.YtjfhilignbeboaaGreatDoorJuAd
namespace Go.Proofs.YtjfhilignbeboaaGreatDoor
/- What a request comes to, by numbers alone. -/
/-- The reply of a refusal; of a record. -/
def rfY (q : Rs.Rq) (e : Int) : Rt.Ry := ⟨q.t, q.k, e, 0, 0, 0, 0⟩
def rpY (q : Rs.Rq) (r : Rc) : Rt.Ry := ⟨q.t, q.k, 0, if q.k = 1 then r.i else 0, if q.k = 4 then r.s else 0, if q.k = 1 then r.u else if q.k = 7 then r.c else 0, 0⟩
/-- The record of a change. -/
def recQ (S : Sb) (q : Rs.Rq) : Rc :=
  if q.k = 1 then ⟨1, (S.n : Int), q.s, S.t + q.u, 0⟩ else if q.k = 2 then ⟨2, q.i, 0, 0, 0⟩ else if q.k = 3 then ⟨3, q.i, 0, 0, 0⟩ else if q.k = 4 then ⟨4, q.i, q.s, 0, 0⟩ else ⟨5, 0, 0, 0, S.t + q.u⟩
def mxT : Int := 1073741824
/-- What a check of the ttl, of the room answers. -/
def ttE (q : Rs.Rq) : Int := if 1 ≤ q.u ∧ q.u ≤ mxT then 0 else 2
def lgE (room k : Int) : Int := if room < 22 + (sz k : Int) then 220 else 0
end Go.Proofs.YtjfhilignbeboaaGreatDoor
namespace Go.Proofs.YtjfhilignbeboaaGreatDoor
/- What a request comes to: the checks. -/
/-- What each check answers. -/
def clE (S : Sb) (q : Rs.Rq) : Int := if mxC < S.t + q.u then 172 else 0
def stE (S : Sb) (q : Rs.Rq) : Int := if q.s < (S.a : Int) then 0 else 140
def frE (S : Sb) (q : Rs.Rq) : Int := if atE S q.s = 0 ∧ ((atX S q.s).i : Int) ≠ q.i then 170 else 0
def rmE (S : Sb) : Int := if S.b ≤ S.L.length ∨ S.n = 4294967295 then 6 else 0
def idE (S : Sb) (q : Rs.Rq) : Int := if (fnd S.L q.i.toNat).isSome then 0 else 171
/-- The first that is not OK. -/
def fstE : List Int → Int
  | [] => 0
  | x :: r => if x = 0 then fstE r else x
theorem fstE_cons_no {x : Int} (h : x ≠ 0) (r : List Int) : fstE (x :: r) = x := by unfold fstE; rw [if_neg h]
theorem fstE_cons_ok (r : List Int) : fstE (0 :: r) = fstE r := by rw [fstE, if_pos rfl]
def chks (S : Sb) (room : Int) (q : Rs.Rq) : List Int :=
  if q.k = 1 then [stE S q, ttE q, clE S q, frE S q, rmE S, lgE room 1]
  else if q.k = 2 then [idE S q, lgE room 2]
  else if q.k = 3 then [idE S q, lgE room 3]
  else if q.k = 4 then [idE S q, stE S q, frE S q, lgE room 4]
  else [ttE q, clE S q, lgE room 5]
def refE (S : Sb) (room : Int) (q : Rs.Rq) : Int := fstE (chks S room q)
/-- What Decide answers: the record, the reply, whether, the error. -/
structure Dc where
  r : Rc
  y : Rt.Ry
  ok : Bool
  e : Int
def isChg (q : Rs.Rq) : Prop := q.May ∧ Rs.chg q.k = true
instance (q : Rs.Rq) : Decidable (isChg q) := by unfold isChg; exact inferInstance
def dec (S : Sb) (room : Int) (q : Rs.Rq) : Dc :=
  if isChg q then (if refE S room q = 0 then ⟨recQ S q, rpY q (recQ S q), true, 0⟩ else ⟨zRc, rfY q (refE S room q), false, 0⟩)
  else ⟨zRc, Rt.zRy, false, 200⟩
theorem dec_no {S : Sb} {room : Int} {q : Rs.Rq} (h : ¬ isChg q) : dec S room q = ⟨zRc, Rt.zRy, false, 200⟩ := by unfold dec; rw [if_neg h]
theorem dec_ref {S : Sb} {room : Int} {q : Rs.Rq} (h : isChg q) (h0 : refE S room q ≠ 0) : dec S room q = ⟨zRc, rfY q (refE S room q), false, 0⟩ := by unfold dec; rw [if_pos h, if_neg h0]
theorem dec_yes {S : Sb} {room : Int} {q : Rs.Rq} (h : isChg q) (h0 : refE S room q = 0) : dec S room q = ⟨recQ S q, rpY q (recQ S q), true, 0⟩ := by unfold dec; rw [if_pos h, if_pos h0]
theorem chg_kinds {q : Rs.Rq} (h : isChg q) : q.k = 1 ∨ q.k = 2 ∨ q.k = 3 ∨ q.k = 4 ∨ q.k = 7 := by have := h.2; unfold Rs.chg at this; exact of_decide_eq_true this
/-- What Answer answers. -/
def isAsk (q : Rs.Rq) : Prop := q.May ∧ (q.k = 5 ∨ q.k = 6 ∨ q.k = 10)
instance (q : Rs.Rq) : Decidable (isAsk q) := by unfold isAsk; exact inferInstance
def ansY (S : Sb) (q : Rs.Rq) : Rt.Ry :=
  if q.k = 5 then ⟨q.t, q.k, idE S q, 0, (((fnd S.L q.i.toNat).getD ⟨0, 0, 0⟩).s : Int), ((fnd S.L q.i.toNat).getD ⟨0, 0, 0⟩).u, 0⟩
  else if q.k = 6 then ⟨q.t, q.k, atE S q.s, ((atX S q.s).i : Int), 0, (atX S q.s).u, 0⟩
  else ⟨q.t, q.k, 0, 0, 0, 0, (S.L.length : Int)⟩
def ans (S : Sb) (q : Rs.Rq) : Rt.Ry × Int := if isAsk q then (ansY S q, 0) else (Rt.zRy, 200)
end Go.Proofs.YtjfhilignbeboaaGreatDoor
/- requests: a part's number, isRight, Check. -/
namespace Go.Proofs.YtjfhilignbeboaaGreatDoor.Rs
open Go.RowKit
attribute [local go_sem ↓] Go.wp_at_zero Go.wp_at_succ
theorem box5 {w : World} {g : Nat} {t : TypeId} {x y z u v : Value} (h : w.heap[g]? = some (.cells [x, y, z, u, v].toArray t (0, 0))) : w.cell? ⟨g, 0, none⟩ = some x ∧ w.cell? ⟨g, 1, none⟩ = some y ∧ w.cell? ⟨g, 2, none⟩ = some z ∧ w.cell? ⟨g, 3, none⟩ = some u ∧ w.cell? ⟨g, 4, none⟩ = some v :=
  ⟨cell_row h 0, cell_row h 1, cell_row h 2, cell_row h 3, cell_row h 4⟩
theorem two_boxes (w : World) (l m : List Value) (s t : TypeId) : ((w.alloc (.cells l.toArray s)).alloc (.cells m.toArray t)).heap[w.heap.size]? = some (.cells l.toArray s (0, 0)) ∧ ((w.alloc (.cells l.toArray s)).alloc (.cells m.toArray t)).heap[w.heap.size + 1]? = some (.cells m.toArray t (0, 0)) ∧ w.grownBy ((w.alloc (.cells l.toArray s)).alloc (.cells m.toArray t)) none := by
  have g1 := World.grownBy_alloc w (.cells l.toArray s) none
  have g2 := World.grownBy_alloc (w.alloc (.cells l.toArray s)) (.cells m.toArray t) none
  have b1 := heap_alloc_new w (.cells l.toArray s)
  have b2 := heap_alloc_new (w.alloc (.cells l.toArray s)) (.cells m.toArray t)
  rw [World.size_alloc] at b2
  exact ⟨(g2.block _ (row_lt b1) (by simp)).trans b1, b2, grown_trans g1 g2⟩
def partI : List Value := [.int .i64 4294967295, .func (.func 120) #[] #[], .func (.func 121) #[] #[], .func (.func 122) #[] #[], .func (.func 124) #[] #[]]
theorem numI_any (q : Rq) (ho : q.Ok) (w : World) : Calls Tryz.prog 121 #[rqV q] w fun e w' => e = .returned (.int .i64 q.i) ∧ w.grownBy w' none := by
  have W1 : IntKind.i64.wrap q.i = q.i := by rw [IntKind.wrap_i64]; have := ho.i0; have := ho.i1; omega
  have G := hide (World.grownBy_alloc w (.cells #[.int .i64 q.k, .int .u32 q.t, .int .u32 q.i, .int .i64 q.s, .int .i64 q.u] 25) none)
  obtain ⟨c0, c1, c2, c3, c4⟩ := box5 (heap_alloc_new w (.cells [Value.int .i64 q.k, .int .u32 q.t, .int .u32 q.i, .int .i64 q.s, .int .i64 q.u].toArray 25))
  clear ho
  unfold rqV
  go_enter Tryz.func121, Tryz.ntmps121
  go_wp2
  go_ret
  exact ⟨rfl, G.out⟩
theorem rightI_any (q : Rq) (ho : q.Ok) (w : World) : Calls Tryz.prog 74 #[.agg partI.toArray, rqV q] w fun e w' => e = .returned (.bool (inP (hI q.k) q.i 4294967295)) ∧ w.grownBy w' none := by
  obtain ⟨ba, bb, bg⟩ := two_boxes w partI (rqC q) 133 25
  have HB := hide (And.intro ba (And.intro bb bg))
  have qn := numI_any q ho ((w.alloc (.cells partI.toArray 133)).alloc (.cells (rqC q).toArray 25))
  have qh := hasId_any q.k
  unfold partI at ba
  unfold rqC at bb
  obtain ⟨c0, c1, c2, c3, c4⟩ := box5 ba
  obtain ⟨d0, d1, d2, d3, d4⟩ := box5 bb
  obtain ⟨res, hres⟩ : ∃ res, res = inP (hI q.k) q.i 4294967295 := ⟨_, rfl⟩
  rw [← hres]
  have HR := hide hres
  clear hres ba bb bg ho
  unfold partI rqV at *
  unfold rqC at c0 c1 c2 c3 c4 qn HB
  generalize hI q.k = hb at *
  go_enter Tryz.func74, Tryz.ntmps74
  go_wp2_with fail
  generalize ((w.alloc (.cells [Value.int .i64 4294967295, .func (.func 120) #[] #[], .func (.func 121) #[] #[], .func (.func 122) #[] #[], .func (.func 124) #[] #[]].toArray 133)).alloc (.cells [Value.int .i64 q.k, .int .u32 q.t, .int .u32 q.i, .int .i64 q.s, .int .i64 q.u].toArray 25)) = w1 at *
  refine qn.mono ?_
  clear qn
  rintro e w2 ⟨rfl, hg⟩
  have B1 := (hg.block _ (row_lt HB.out.1) (by simp)).trans HB.out.1
  have B2 := (hg.block _ (row_lt HB.out.2.1) (by simp)).trans HB.out.2.1
  have HG := hide (grown_trans HB.out.2.2 hg)
  clear c0 c1 c2 c3 c4 d0 d1 d2 d3 d4 hg
  obtain ⟨c0, c1, c2, c3, c4⟩ := box5 B1
  obtain ⟨d0, d1, d2, d3, d4⟩ := box5 B2
  clear B1 B2
  go_wp2_with fail
  refine (qh w2).mono ?_
  clear qh
  rintro e wx ⟨rfl, hw⟩
  obtain rfl := hw.symm
  clear hw
  cases hb with
  | false =>
    have HR2 : Hid (res = decide (q.i = 0)) := HR.out
    by_cases h0 : q.i = 0
    · have e1 : (q.i == 0) = true := by simpa using h0
      have HR3 : Hid (res = true) := HR2.out.trans (decide_eq_true h0)
      clear h0
      go_wp2
      go_ret
      exact ⟨by rw [HR3.out]; rfl, HG.out⟩
    · have e1 : (q.i == 0) = false := by simpa using h0
      have e2 : decide (q.i = 0) = false := by simpa using h0
      have HR3 : Hid (res = false) := HR2.out.trans (decide_eq_false h0)
      clear h0
      go_wp2
      go_ret
      exact ⟨by rw [HR3.out]; rfl, HG.out⟩
  | true =>
    have HR2 : Hid (res = decide (0 ≤ q.i ∧ q.i ≤ 4294967295)) := HR.out
    by_cases h1 : 0 ≤ q.i
    · by_cases h2 : q.i ≤ 4294967295
      · have HR3 : Hid (res = true) := HR2.out.trans (decide_eq_true ⟨h1, h2⟩)
        go_wp2
        go_ret
        exact ⟨by rw [HR3.out]; rfl, HG.out⟩
      · have HR3 : Hid (res = false) := HR2.out.trans (decide_eq_false (fun h => h2 h.2))
        have h3 : decide (q.i ≤ 4294967295) = false := decide_eq_false h2
        go_wp2
        go_ret
        exact ⟨by rw [HR3.out]; rfl, HG.out⟩
    · have HR3 : Hid (res = false) := HR2.out.trans (decide_eq_false (fun h => h1 h.1))
      go_wp2
      go_ret
      exact ⟨by rw [HR3.out]; rfl, HG.out⟩
def partS : List Value := [.int .i64 65535, .func (.func 126) #[] #[], .func (.func 127) #[] #[], .func (.func 128) #[] #[], .func (.func 130) #[] #[]]
theorem numS_any (q : Rq) (ho : q.Ok) (w : World) : Calls Tryz.prog 127 #[rqV q] w fun e w' => e = .returned (.int .i64 q.s) ∧ w.grownBy w' none := by
  have W1 : IntKind.i64.wrap q.s = q.s := by rw [IntKind.wrap_i64]; have := ho.s0; have := ho.s1; omega
  have G := hide (World.grownBy_alloc w (.cells #[.int .i64 q.k, .int .u32 q.t, .int .u32 q.i, .int .i64 q.s, .int .i64 q.u] 25) none)
  obtain ⟨c0, c1, c2, c3, c4⟩ := box5 (heap_alloc_new w (.cells [Value.int .i64 q.k, .int .u32 q.t, .int .u32 q.i, .int .i64 q.s, .int .i64 q.u].toArray 25))
  clear ho
  unfold rqV
  go_enter Tryz.func127, Tryz.ntmps127
  go_wp2
  go_ret
  exact ⟨rfl, G.out⟩
theorem rightS_any (q : Rq) (ho : q.Ok) (w : World) : Calls Tryz.prog 74 #[.agg partS.toArray, rqV q] w fun e w' => e = .returned (.bool (inP (hS q.k) q.s 65535)) ∧ w.grownBy w' none := by
  obtain ⟨ba, bb, bg⟩ := two_boxes w partS (rqC q) 133 25
  have HB := hide (And.intro ba (And.intro bb bg))
  have qn := numS_any q ho ((w.alloc (.cells partS.toArray 133)).alloc (.cells (rqC q).toArray 25))
  have qh := hasSeat_any q.k
  unfold partS at ba
  unfold rqC at bb
  obtain ⟨c0, c1, c2, c3, c4⟩ := box5 ba
  obtain ⟨d0, d1, d2, d3, d4⟩ := box5 bb
  obtain ⟨res, hres⟩ : ∃ res, res = inP (hS q.k) q.s 65535 := ⟨_, rfl⟩
  rw [← hres]
  have HR := hide hres
  clear hres ba bb bg ho
  unfold partS rqV at *
  unfold rqC at c0 c1 c2 c3 c4 qn HB
  generalize hS q.k = hb at *
  go_enter Tryz.func74, Tryz.ntmps74
  go_wp2_with fail
  generalize ((w.alloc (.cells [Value.int .i64 65535, .func (.func 126) #[] #[], .func (.func 127) #[] #[], .func (.func 128) #[] #[], .func (.func 130) #[] #[]].toArray 133)).alloc (.cells [Value.int .i64 q.k, .int .u32 q.t, .int .u32 q.i, .int .i64 q.s, .int .i64 q.u].toArray 25)) = w1 at *
  refine qn.mono ?_
  clear qn
  rintro e w2 ⟨rfl, hg⟩
  have B1 := (hg.block _ (row_lt HB.out.1) (by simp)).trans HB.out.1
  have B2 := (hg.block _ (row_lt HB.out.2.1) (by simp)).trans HB.out.2.1
  have HG := hide (grown_trans HB.out.2.2 hg)
  clear c0 c1 c2 c3 c4 d0 d1 d2 d3 d4 hg
  obtain ⟨c0, c1, c2, c3, c4⟩ := box5 B1
  obtain ⟨d0, d1, d2, d3, d4⟩ := box5 B2
  clear B1 B2
  go_wp2_with fail
  refine (qh w2).mono ?_
  clear qh
  rintro e wx ⟨rfl, hw⟩
  obtain rfl := hw.symm
  clear hw
  cases hb with
  | false =>
    have HR2 : Hid (res = decide (q.s = 0)) := HR.out
    by_cases h0 : q.s = 0
    · have e1 : (q.s == 0) = true := by simpa using h0
      have HR3 : Hid (res = true) := HR2.out.trans (decide_eq_true h0)
      clear h0
      go_wp2
      go_ret
      exact ⟨by rw [HR3.out]; rfl, HG.out⟩
    · have e1 : (q.s == 0) = false := by simpa using h0
      have e2 : decide (q.s = 0) = false := by simpa using h0
      have HR3 : Hid (res = false) := HR2.out.trans (decide_eq_false h0)
      clear h0
      go_wp2
      go_ret
      exact ⟨by rw [HR3.out]; rfl, HG.out⟩
  | true =>
    have HR2 : Hid (res = decide (0 ≤ q.s ∧ q.s ≤ 65535)) := HR.out
    by_cases h1 : 0 ≤ q.s
    · by_cases h2 : q.s ≤ 65535
      · have HR3 : Hid (res = true) := HR2.out.trans (decide_eq_true ⟨h1, h2⟩)
        go_wp2
        go_ret
        exact ⟨by rw [HR3.out]; rfl, HG.out⟩
      · have HR3 : Hid (res = false) := HR2.out.trans (decide_eq_false (fun h => h2 h.2))
        have h3 : decide (q.s ≤ 65535) = false := decide_eq_false h2
        go_wp2
        go_ret
        exact ⟨by rw [HR3.out]; rfl, HG.out⟩
    · have HR3 : Hid (res = false) := HR2.out.trans (decide_eq_false (fun h => h1 h.1))
      go_wp2
      go_ret
      exact ⟨by rw [HR3.out]; rfl, HG.out⟩
def partL : List Value := [.int .i64 9223372036854775807, .func (.func 132) #[] #[], .func (.func 133) #[] #[], .func (.func 134) #[] #[], .func (.func 136) #[] #[]]
theorem numL_any (q : Rq) (ho : q.Ok) (w : World) : Calls Tryz.prog 133 #[rqV q] w fun e w' => e = .returned (.int .i64 q.u) ∧ w.grownBy w' none := by
  have W1 : IntKind.i64.wrap q.u = q.u := by rw [IntKind.wrap_i64]; have := ho.u0; have := ho.u1; omega
  have G := hide (World.grownBy_alloc w (.cells #[.int .i64 q.k, .int .u32 q.t, .int .u32 q.i, .int .i64 q.s, .int .i64 q.u] 25) none)
  obtain ⟨c0, c1, c2, c3, c4⟩ := box5 (heap_alloc_new w (.cells [Value.int .i64 q.k, .int .u32 q.t, .int .u32 q.i, .int .i64 q.s, .int .i64 q.u].toArray 25))
  clear ho
  unfold rqV
  go_enter Tryz.func133, Tryz.ntmps133
  go_wp2
  go_ret
  exact ⟨rfl, G.out⟩
theorem rightL_any (q : Rq) (ho : q.Ok) (w : World) : Calls Tryz.prog 74 #[.agg partL.toArray, rqV q] w fun e w' => e = .returned (.bool (inP (hL q.k) q.u 9223372036854775807)) ∧ w.grownBy w' none := by
  obtain ⟨ba, bb, bg⟩ := two_boxes w partL (rqC q) 133 25
  have HB := hide (And.intro ba (And.intro bb bg))
  have qn := numL_any q ho ((w.alloc (.cells partL.toArray 133)).alloc (.cells (rqC q).toArray 25))
  have qh := hasTtl_any q.k
  unfold partL at ba
  unfold rqC at bb
  obtain ⟨c0, c1, c2, c3, c4⟩ := box5 ba
  obtain ⟨d0, d1, d2, d3, d4⟩ := box5 bb
  obtain ⟨res, hres⟩ : ∃ res, res = inP (hL q.k) q.u 9223372036854775807 := ⟨_, rfl⟩
  rw [← hres]
  have HR := hide hres
  clear hres ba bb bg ho
  unfold partL rqV at *
  unfold rqC at c0 c1 c2 c3 c4 qn HB
  generalize hL q.k = hb at *
  go_enter Tryz.func74, Tryz.ntmps74
  go_wp2_with fail
  generalize ((w.alloc (.cells [Value.int .i64 9223372036854775807, .func (.func 132) #[] #[], .func (.func 133) #[] #[], .func (.func 134) #[] #[], .func (.func 136) #[] #[]].toArray 133)).alloc (.cells [Value.int .i64 q.k, .int .u32 q.t, .int .u32 q.i, .int .i64 q.s, .int .i64 q.u].toArray 25)) = w1 at *
  refine qn.mono ?_
  clear qn
  rintro e w2 ⟨rfl, hg⟩
  have B1 := (hg.block _ (row_lt HB.out.1) (by simp)).trans HB.out.1
  have B2 := (hg.block _ (row_lt HB.out.2.1) (by simp)).trans HB.out.2.1
  have HG := hide (grown_trans HB.out.2.2 hg)
  clear c0 c1 c2 c3 c4 d0 d1 d2 d3 d4 hg
  obtain ⟨c0, c1, c2, c3, c4⟩ := box5 B1
  obtain ⟨d0, d1, d2, d3, d4⟩ := box5 B2
  clear B1 B2
  go_wp2_with fail
  refine (qh w2).mono ?_
  clear qh
  rintro e wx ⟨rfl, hw⟩
  obtain rfl := hw.symm
  clear hw
  cases hb with
  | false =>
    have HR2 : Hid (res = decide (q.u = 0)) := HR.out
    by_cases h0 : q.u = 0
    · have e1 : (q.u == 0) = true := by simpa using h0
      have HR3 : Hid (res = true) := HR2.out.trans (decide_eq_true h0)
      clear h0
      go_wp2
      go_ret
      exact ⟨by rw [HR3.out]; rfl, HG.out⟩
    · have e1 : (q.u == 0) = false := by simpa using h0
      have e2 : decide (q.u = 0) = false := by simpa using h0
      have HR3 : Hid (res = false) := HR2.out.trans (decide_eq_false h0)
      clear h0
      go_wp2
      go_ret
      exact ⟨by rw [HR3.out]; rfl, HG.out⟩
  | true =>
    have HR2 : Hid (res = decide (0 ≤ q.u ∧ q.u ≤ 9223372036854775807)) := HR.out
    by_cases h1 : 0 ≤ q.u
    · by_cases h2 : q.u ≤ 9223372036854775807
      · have HR3 : Hid (res = true) := HR2.out.trans (decide_eq_true ⟨h1, h2⟩)
        go_wp2
        go_ret
        exact ⟨by rw [HR3.out]; rfl, HG.out⟩
      · have HR3 : Hid (res = false) := HR2.out.trans (decide_eq_false (fun h => h2 h.2))
        have h3 : decide (q.u ≤ 9223372036854775807) = false := decide_eq_false h2
        go_wp2
        go_ret
        exact ⟨by rw [HR3.out]; rfl, HG.out⟩
    · have HR3 : Hid (res = false) := HR2.out.trans (decide_eq_false (fun h => h1 h.1))
      go_wp2
      go_ret
      exact ⟨by rw [HR3.out]; rfl, HG.out⟩
end Go.Proofs.YtjfhilignbeboaaGreatDoor.Rs
/- requests: Check. -/
namespace Go.Proofs.YtjfhilignbeboaaGreatDoor.Rs
open Go.RowKit
attribute [local go_sem ↓] Go.wp_at_zero Go.wp_at_succ
/-- A request in a box of the call's own. -/
structure CkS (w wr : World) (q : Rq) : Prop where
  box : wr.heap[w.heap.size]? = some (.cells [Value.int .i64 q.k, .int .u32 q.t, .int .u32 q.i, .int .i64 q.s, .int .i64 q.u].toArray 25 (0, 0))
  gr : w.grownBy wr none
theorem CkS.then {w wr wr' : World} {q : Rq} (h : CkS w wr q) (hg : wr.grownBy wr' none) : CkS w wr' q := ⟨(hg.block _ (row_lt h.box) (by simp)).trans h.box, grown_trans h.gr hg⟩
theorem CkS.begin (w : World) (q : Rq) : CkS w (w.alloc (.cells #[.int .i64 q.k, .int .u32 q.t, .int .u32 q.i, .int .i64 q.s, .int .i64 q.u] 25)) q := ⟨heap_alloc_new w _, World.grownBy_alloc w _ none⟩
theorem index0 (w : World) : (Instr.index 134 (.agg #[.int .i64 4294967295, .func (.func 120) #[] #[], .func (.func 121) #[] #[], .func (.func 122) #[] #[], .func (.func 124) #[] #[], .int .i64 65535, .func (.func 126) #[] #[], .func (.func 127) #[] #[], .func (.func 128) #[] #[], .func (.func 130) #[] #[], .int .i64 9223372036854775807, .func (.func 132) #[] #[], .func (.func 133) #[] #[], .func (.func 134) #[] #[], .func (.func 136) #[] #[]]) (.int .i64 0)).run Tryz.prog w = .ok (.agg #[.int .i64 4294967295, .func (.func 120) #[] #[], .func (.func 121) #[] #[], .func (.func 122) #[] #[], .func (.func 124) #[] #[]]) w := by simp [Instr.index, run_underlying Tryz.underlying134, asIntOf, go_sem]
theorem index1 (w : World) : (Instr.index 134 (.agg #[.int .i64 4294967295, .func (.func 120) #[] #[], .func (.func 121) #[] #[], .func (.func 122) #[] #[], .func (.func 124) #[] #[], .int .i64 65535, .func (.func 126) #[] #[], .func (.func 127) #[] #[], .func (.func 128) #[] #[], .func (.func 130) #[] #[], .int .i64 9223372036854775807, .func (.func 132) #[] #[], .func (.func 133) #[] #[], .func (.func 134) #[] #[], .func (.func 136) #[] #[]]) (.int .i64 1)).run Tryz.prog w = .ok (.agg #[.int .i64 65535, .func (.func 126) #[] #[], .func (.func 127) #[] #[], .func (.func 128) #[] #[], .func (.func 130) #[] #[]]) w := by simp [Instr.index, run_underlying Tryz.underlying134, asIntOf, go_sem]
theorem index2 (w : World) : (Instr.index 134 (.agg #[.int .i64 4294967295, .func (.func 120) #[] #[], .func (.func 121) #[] #[], .func (.func 122) #[] #[], .func (.func 124) #[] #[], .int .i64 65535, .func (.func 126) #[] #[], .func (.func 127) #[] #[], .func (.func 128) #[] #[], .func (.func 130) #[] #[], .int .i64 9223372036854775807, .func (.func 132) #[] #[], .func (.func 133) #[] #[], .func (.func 134) #[] #[], .func (.func 136) #[] #[]]) (.int .i64 2)).run Tryz.prog w = .ok (.agg #[.int .i64 9223372036854775807, .func (.func 132) #[] #[], .func (.func 133) #[] #[], .func (.func 134) #[] #[], .func (.func 136) #[] #[]]) w := by simp [Instr.index, run_underlying Tryz.underlying134, asIntOf, go_sem]
theorem chk_of {q : Rq} {b : Bool} (h : q.mayB = b) : chk q = if b = true then 0 else 200 := by
  subst h
  rfl
set_option maxRecDepth 20000 in
set_option maxHeartbeats 4000000 in
theorem check_any (q : Rq) (ho : q.Ok) (w : World) : Calls Tryz.prog 31 #[rqV q] w fun e w' => e = .returned (.int .i64 (chk q)) ∧ w.grownBy w' none := by
  obtain ⟨res, hres⟩ : ∃ res, res = chk q := ⟨_, rfl⟩
  rw [← hres]
  have HR := hide hres
  clear hres
  have S0 := hide (CkS.begin w q)
  have qk := isKind_any q.k
  have qI := rightI_any q ho
  have qS := rightS_any q ho
  have qL := rightL_any q ho
  have hm : q.mayB = (decide (1 ≤ q.k ∧ q.k ≤ 10) && (inP (hI q.k) q.i 4294967295 && (inP (hS q.k) q.s 65535 && inP (hL q.k) q.u 9223372036854775807))) := rfl
  have HM := hide hm
  clear hm ho
  generalize decide (1 ≤ q.k ∧ q.k ≤ 10) = bk at *
  generalize inP (hI q.k) q.i 4294967295 = bI at *
  generalize inP (hS q.k) q.s 65535 = bS at *
  generalize inP (hL q.k) q.u 9223372036854775807 = bL at *
  unfold rqV partI at qI
  unfold rqV partS at qS
  unfold rqV partL at qL
  unfold rqV
  obtain ⟨c0, c1, c2, c3, c4⟩ := box5 S0.out.box
  go_enter Tryz.func31, Tryz.ntmps31
  go_wp2_with fail
  generalize w.alloc (.cells #[.int .i64 q.k, .int .u32 q.t, .int .u32 q.i, .int .i64 q.s, .int .i64 q.u] 25) = w1 at *
  refine (qk w1).mono ?_
  clear qk
  rintro e wx ⟨rfl, hw⟩
  obtain rfl := hw.symm
  clear hw
  cases bk with
  | false =>
    have HZ : Hid (res = 200) := by rw [HR.out, chk_of HM.out]; rfl
    go_wp2
    go_ret
    exact ⟨by rw [HZ.out]; rfl, S0.out.gr⟩
  | true =>
    go_wp2_with fail
    refine (parts_any w1).mono ?_
    rintro e w2 ⟨rfl, hg⟩
    have S1 := hide (S0.out.then hg)
    clear hg S0 c0 c1 c2 c3 c4
    unfold partsV
    go_wp2_with fail
    have x0 := index0
    have x1 := index1
    have x2 := index2
    refine wp_loop_rounds 4 ?_
    rw [rounds_succ]
    have TI := hide (S1.out.then (World.grownBy_alloc w2 (.cells #[.int .i64 4294967295, .func (.func 120) #[] #[], .func (.func 121) #[] #[], .func (.func 122) #[] #[], .func (.func 124) #[] #[]] 133) none))
    obtain ⟨c0, c1, c2, c3, c4⟩ := box5 TI.out.box
    have qIw := qI (w2.alloc (.cells #[.int .i64 4294967295, .func (.func 120) #[] #[], .func (.func 121) #[] #[], .func (.func 122) #[] #[], .func (.func 124) #[] #[]] 133))
    clear qI S1
    go_wp2_with fail
    generalize w2.alloc (.cells #[.int .i64 4294967295, .func (.func 120) #[] #[], .func (.func 121) #[] #[], .func (.func 122) #[] #[], .func (.func 124) #[] #[]] 133) = vI at *
    refine qIw.mono ?_
    clear qIw
    rintro e wI ⟨rfl, hg⟩
    have SI := hide (TI.out.then hg)
    clear hg TI c0 c1 c2 c3 c4
    cases bI with
    | false =>
      have HZ : Hid (res = 200) := by rw [HR.out, chk_of HM.out]; rfl
      go_wp2
      go_ret
      exact ⟨by rw [HZ.out]; rfl, SI.out.gr⟩
    | true =>
      go_wp2_with fail
      rw [rounds_succ]
      have TS := hide (SI.out.then (World.grownBy_alloc wI (.cells #[.int .i64 65535, .func (.func 126) #[] #[], .func (.func 127) #[] #[], .func (.func 128) #[] #[], .func (.func 130) #[] #[]] 133) none))
      obtain ⟨c0, c1, c2, c3, c4⟩ := box5 TS.out.box
      have qSw := qS (wI.alloc (.cells #[.int .i64 65535, .func (.func 126) #[] #[], .func (.func 127) #[] #[], .func (.func 128) #[] #[], .func (.func 130) #[] #[]] 133))
      clear qS SI
      go_wp2_with fail
      generalize wI.alloc (.cells #[.int .i64 65535, .func (.func 126) #[] #[], .func (.func 127) #[] #[], .func (.func 128) #[] #[], .func (.func 130) #[] #[]] 133) = vS at *
      refine qSw.mono ?_
      clear qSw
      rintro e wS ⟨rfl, hg⟩
      have SS := hide (TS.out.then hg)
      clear hg TS c0 c1 c2 c3 c4
      cases bS with
      | false =>
        have HZ : Hid (res = 200) := by rw [HR.out, chk_of HM.out]; rfl
        go_wp2
        go_ret
        exact ⟨by rw [HZ.out]; rfl, SS.out.gr⟩
      | true =>
        go_wp2_with fail
        rw [rounds_succ]
        have TL := hide (SS.out.then (World.grownBy_alloc wS (.cells #[.int .i64 9223372036854775807, .func (.func 132) #[] #[], .func (.func 133) #[] #[], .func (.func 134) #[] #[], .func (.func 136) #[] #[]] 133) none))
        obtain ⟨c0, c1, c2, c3, c4⟩ := box5 TL.out.box
        have qLw := qL (wS.alloc (.cells #[.int .i64 9223372036854775807, .func (.func 132) #[] #[], .func (.func 133) #[] #[], .func (.func 134) #[] #[], .func (.func 136) #[] #[]] 133))
        clear qL SS
        go_wp2_with fail
        generalize wS.alloc (.cells #[.int .i64 9223372036854775807, .func (.func 132) #[] #[], .func (.func 133) #[] #[], .func (.func 134) #[] #[], .func (.func 136) #[] #[]] 133) = vL at *
        refine qLw.mono ?_
        clear qLw
        rintro e wL ⟨rfl, hg⟩
        have SL := hide (TL.out.then hg)
        clear hg TL c0 c1 c2 c3 c4
        cases bL with
        | false =>
          have HZ : Hid (res = 200) := by rw [HR.out, chk_of HM.out]; rfl
          go_wp2
          go_ret
          exact ⟨by rw [HZ.out]; rfl, SL.out.gr⟩
        | true =>
          go_wp2_with fail
          have HZ : Hid (res = 0) := by rw [HR.out, chk_of HM.out]; rfl
          rw [rounds_succ]
          go_wp2
          go_ret
          exact ⟨by rw [HZ.out]; rfl, SL.out.gr⟩
end Go.Proofs.YtjfhilignbeboaaGreatDoor.Rs
/- The document's requests: what a kind has, Check, a part's number, bytes as a text. -/
namespace Go.Proofs.YtjfhilignbeboaaGreatDoor.Rs
open Go.RowKit
attribute [local go_sem ↓] Go.wp_at_zero Go.wp_at_succ
theorem rhas_any (k : Int) (w : World) : Calls Tryz.prog 58 #[.int .i64 k] w fun e w' => e = .returned (.tuple #[.bool (hI k), .bool (hS k), .bool (hL k)]) ∧ w' = w := by
  by_cases h1 : k = 1
  · subst h1
    go_enter Tryz.func58, Tryz.ntmps58
    go_wp2
    go_ret3
    exact ⟨rfl, rfl⟩
  by_cases h2 : k = 2
  · subst h2
    go_enter Tryz.func58, Tryz.ntmps58
    go_wp2
    go_ret3
    exact ⟨rfl, rfl⟩
  by_cases h3 : k = 3
  · subst h3
    go_enter Tryz.func58, Tryz.ntmps58
    go_wp2
    go_ret3
    exact ⟨rfl, rfl⟩
  by_cases h5 : k = 5
  · subst h5
    go_enter Tryz.func58, Tryz.ntmps58
    go_wp2
    go_ret3
    exact ⟨rfl, rfl⟩
  by_cases h4 : k = 4
  · subst h4
    go_enter Tryz.func58, Tryz.ntmps58
    go_wp2
    go_ret3
    exact ⟨rfl, rfl⟩
  by_cases h6 : k = 6
  · subst h6
    go_enter Tryz.func58, Tryz.ntmps58
    go_wp2
    go_ret3
    exact ⟨rfl, rfl⟩
  by_cases h7 : k = 7
  · subst h7
    go_enter Tryz.func58, Tryz.ntmps58
    go_wp2
    go_ret3
    exact ⟨rfl, rfl⟩
  rw [show hI k = false from decide_eq_false (by omega), show hS k = false from decide_eq_false (by omega), show hL k = false from decide_eq_false (by omega)]
  have a1 : (k == 1) = false := by simpa using h1
  have b1 : decide (k = 1) = false := by simpa using h1
  have a2 : (k == 2) = false := by simpa using h2
  have b2 : decide (k = 2) = false := by simpa using h2
  have a3 : (k == 3) = false := by simpa using h3
  have b3 : decide (k = 3) = false := by simpa using h3
  have a5 : (k == 5) = false := by simpa using h5
  have b5 : decide (k = 5) = false := by simpa using h5
  have a4 : (k == 4) = false := by simpa using h4
  have b4 : decide (k = 4) = false := by simpa using h4
  have a6 : (k == 6) = false := by simpa using h6
  have b6 : decide (k = 6) = false := by simpa using h6
  have a7 : (k == 7) = false := by simpa using h7
  have b7 : decide (k = 7) = false := by simpa using h7
  go_enter Tryz.func58, Tryz.ntmps58
  go_wp2
  go_ret3
  exact ⟨rfl, rfl⟩
end Go.Proofs.YtjfhilignbeboaaGreatDoor.Rs
/- Books that are the same; a new one. -/
namespace Go.Proofs.YtjfhilignbeboaaGreatDoor
open Go.RowKit
attribute [local go_sem ↓] Go.wp_at_zero Go.wp_at_succ
attribute [local go_sem] Oper.semAt_some
theorem isLike_eq (a b c c' : Nat) (w : World) : Calls Tryz.prog 52 #[limV a b c, limV a b c'] w fun e w' => e = .returned (.bool true) ∧ w.grownBy w' none := by
  unfold limV
  generalize (a : Int) = a
  generalize (b : Int) = b
  generalize (c : Int) = c
  generalize (c' : Int) = c'
  go_enter Tryz.func52, Tryz.ntmps52
  go_wp2
  go_ret
  exact ⟨rfl, grown_trans (grown_alloc _ _) (grown_alloc _ _)⟩
set_option maxHeartbeats 8000000 in
theorem same_eq {w : World} {p q : Bp} {S : Sb} {K K' : Nat} (hp : BkAt w p S K) (hq : BkAt w q S K') (hw : S.Wk) : Calls Tryz.prog 16 #[.pointer (some ⟨p.b, 0, none⟩), .pointer (some ⟨q.b, 0, none⟩)] w fun e w' => e = .returned (.bool true) ∧ w.grownBy w' none := by
  have HN1 := hide hp.isNone
  have HN2 := hide hq.isNone
  have HL : Hid (∀ W, Calls Tryz.prog 52 #[limV S.a S.b S.c, limV S.a S.b S.c] W fun e w' => e = .returned (.bool true) ∧ W.grownBy w' none) := fun W => isLike_eq _ _ _ _ W
  have HB1 : Hid (∀ W, w.grownBy W none → Calls Tryz.prog 54 #[.pointer (some ⟨p.b, 0, none⟩)] W fun e w' => ∃ v, e = .returned v ∧ BgA w' v S.L ∧ W.grownBy w' none) := by
    intro W hW
    refine (bookings_any (hp.then hW) hw).mono ?_
    rintro e w' ⟨v, rfl, h1, h2⟩
    exact ⟨v, rfl, BgA.own h1, h2⟩
  have HB2 : Hid (∀ W, w.grownBy W none → Calls Tryz.prog 54 #[.pointer (some ⟨q.b, 0, none⟩)] W fun e w' => ∃ v, e = .returned v ∧ BgA w' v S.L ∧ W.grownBy w' none) := by
    intro W hW
    refine (bookings_any (hq.then hW) hw).mono ?_
    rintro e w' ⟨v, rfl, h1, h2⟩
    exact ⟨v, rfl, BgA.own h1, h2⟩
  have HE : Hid (∀ W v u, BgA W v S.L → BgA W u S.L → Calls Tryz.prog 53 #[v, u] W fun e w' => e = .returned (.bool true) ∧ W.grownBy w' none) := by
    intro W v u h1 h2
    have := equal_any h1 h2 (by have := hw.few; have := hw.b1; omega)
    rw [decide_eq_true rfl] at this
    exact this
  have HK : Hid (∀ W, w.grownBy W none → (W.cell? ⟨p.b, 0, none⟩ = some (.int .i64 (S.a : Int)) ∧ W.cell? ⟨p.b, 1, none⟩ = some (.int .i64 (S.b : Int)) ∧ W.cell? ⟨p.b, 2, none⟩ = some (.int .i64 (S.c : Int)) ∧ W.cell? ⟨p.b, 4, none⟩ = some (.int .u32 (S.n : Int)) ∧ W.cell? ⟨p.b, 5, none⟩ = some (.int .i64 S.t)) ∧ W.cell? ⟨q.b, 0, none⟩ = some (.int .i64 (S.a : Int)) ∧ W.cell? ⟨q.b, 1, none⟩ = some (.int .i64 (S.b : Int)) ∧ W.cell? ⟨q.b, 2, none⟩ = some (.int .i64 (S.c : Int)) ∧ W.cell? ⟨q.b, 4, none⟩ = some (.int .u32 (S.n : Int)) ∧ W.cell? ⟨q.b, 5, none⟩ = some (.int .i64 S.t)) := fun W hW =>
    ⟨⟨(hp.then hW).cells 0 _ rfl, (hp.then hW).cells 1 _ rfl, (hp.then hW).cells 2 _ rfl, (hp.then hW).cells 4 _ rfl, (hp.then hW).cells 5 _ rfl⟩, (hq.then hW).cells 0 _ rfl, (hq.then hW).cells 1 _ rfl, (hq.then hW).cells 2 _ rfl, (hq.then hW).cells 4 _ rfl, (hq.then hW).cells 5 _ rfl⟩
  have hK0 := HK.out w (grown_refl _ _)
  clear hp hq hw
  unfold limV at HL
  generalize (S.a : Int) = a at *
  generalize (S.b : Int) = b at *
  generalize (S.c : Int) = c at *
  generalize (S.n : Int) = n at *
  generalize S.t = t at *
  go_enter Tryz.func16, Tryz.ntmps16
  go_wp2_with fail
  refine HN1.out.mono ?_
  rintro e w1 ⟨rfl, rfl⟩
  go_wp2_with fail
  refine HN2.out.mono ?_
  rintro e w2 ⟨rfl, rfl⟩
  go_wp2
  go_region_held3 (fun W => (W.cell? ⟨p.b, 0, none⟩ = some (.int .i64 a) ∧ W.cell? ⟨p.b, 1, none⟩ = some (.int .i64 b) ∧ W.cell? ⟨p.b, 2, none⟩ = some (.int .i64 c) ∧ W.cell? ⟨p.b, 4, none⟩ = some (.int .u32 n) ∧ W.cell? ⟨p.b, 5, none⟩ = some (.int .i64 t)) ∧ W.cell? ⟨q.b, 0, none⟩ = some (.int .i64 a) ∧ W.cell? ⟨q.b, 1, none⟩ = some (.int .i64 b) ∧ W.cell? ⟨q.b, 2, none⟩ = some (.int .i64 c) ∧ W.cell? ⟨q.b, 4, none⟩ = some (.int .u32 n) ∧ W.cell? ⟨q.b, 5, none⟩ = some (.int .i64 t)) (first | assumption | exact hK0)
    ((first
      | (go_at_call 52; refine (HL.out _).mono ?_; rintro e w3 ⟨rfl, hg3⟩; have g3 := grown_trans (grown_drew _ none) hg3; have hK3 := HK.out _ g3)
      | (go_at_call_of 54 (Value.pointer (some ⟨p.b, 0, none⟩)); refine (HB1.out _ g3).mono ?_; rintro e w4 ⟨v, rfl, hv4, hg4⟩; have g4 := grown_trans g3 hg4; have hK4 := HK.out _ g4)
      | (go_at_call_of 54 (Value.pointer (some ⟨q.b, 0, none⟩)); refine (HB2.out _ g4).mono ?_; rintro e w5 ⟨u, rfl, hu5, hg5⟩; have g5 := grown_trans g4 hg5; have hK5 := HK.out _ g5; have hv5 := hv4.then hg5)
      | (go_at_call 53; refine (HE.out _ _ _ hv5 hu5).mono ?_; rintro e w6 ⟨rfl, hg6⟩; have g6 := grown_trans g5 hg6; have hK6 := HK.out _ g6)))
  go_wp2
  go_ret
  exact ⟨rfl, g6⟩
end Go.Proofs.YtjfhilignbeboaaGreatDoor
/- Two books side by side; ticks, numbers alone. -/
namespace Go.Proofs.YtjfhilignbeboaaGreatDoor
open Go.RowKit
section
variable {w W W' : World} {b c : Nat} {S S' : Sb} {K K' : Nat} {p q q' : Bp} {Bs : List (Nat × List Value × TypeId)}
/-- What another book's call leaves. -/
theorem Lk.beside (h : Lk w W b S K p Bs) (hq : Lk w W c S' K' q Bs) (hd : ∀ i, p.own i → ¬ q.own i) (k : Bst W W' q q') : Lk w W' b S K p Bs ∧ (∀ i, p.own i → ¬ q'.own i) := by
  refine ⟨⟨h.eb, h.bk.far k.kept hd, hq.kept k.kept, h.own, fun x hx => ?_⟩, fun i hi e => ?_⟩
  · obtain ⟨h1, h2, h3⟩ := h.bx x hx
    exact ⟨k.kept.at h1 (hq.bx x hx).2.1, h2, h3⟩
  · rcases k.own i e with e | e
    · exact hd i hi e
    · have := h.bk.lt i hi; omega
theorem Lk.copy2 (h : Lk w W b S K p Bs) (hw : S.Wk) : Calls Tryz.prog 14 #[.pointer (some ⟨b, 0, none⟩)] W fun e w' => ∃ c q, e = .returned (.pointer (some ⟨c, 0, none⟩)) ∧ Lk w w' b S K p Bs ∧ Lk w w' c S 4096 q Bs ∧ (∀ i, p.own i → ¬ q.own i) := by
  refine (h.copy hw).mono ?_
  rintro e w' ⟨q, rfl, h1, h2, h3, h4⟩
  exact ⟨q.b, q, rfl, h2, ⟨rfl, h1, h2.gr, fun i hi => Nat.le_trans h.gr.size (h3 i hi), fun x hx => ⟨(h2.bx x hx).1, fun e => by have := h3 _ e; have := row_lt (h.bx x hx).1; omega, (h2.bx x hx).2.2⟩⟩, h4⟩
theorem Lk.same (h : Lk w W b S K p Bs) (hq : Lk w W c S K' q Bs) (hw : S.Wk) : Calls Tryz.prog 16 #[.pointer (some ⟨b, 0, none⟩), .pointer (some ⟨c, 0, none⟩)] W fun e w' => e = .returned (.bool true) ∧ W.grownBy w' none := by
  have := same_eq h.bk hq.bk hw
  rw [h.eb, hq.eb] at this
  exact this
end
end Go.Proofs.YtjfhilignbeboaaGreatDoor
namespace Go.Proofs.YtjfhilignbeboaaGreatDoor
/- What records come to: Of. -/
open Go.RowKit
attribute [local go_sem ↓] Go.wp_at_zero Go.wp_at_succ
attribute [local go_sem] Oper.semAt_some
theorem Lk.base {w w0 W : World} {b : Nat} {S : Sb} {K : Nat} {p : Bp} {Bs : List (Nat × List Value × TypeId)} (h : Lk w0 W b S K p Bs) (g : w.grownBy w0 none) : Lk w W b S K p Bs :=
  ⟨h.eb, h.bk, grown_trans g h.gr, fun i hi => Nat.le_trans g.size (h.own i hi), fun x hx => ⟨(h.bx x hx).1, (h.bx x hx).2.1, Nat.le_trans g.size (h.bx x hx).2.2⟩⟩
/-- A new book's state. -/
def nS (a b c : Nat) : Sb := ⟨a, b, c, 1, 0, []⟩
theorem nS_ok {a b c : Nat} (h : Gx.OkS a b c) : (nS a b c).Ok := Sb.Ok.new h
end Go.Proofs.YtjfhilignbeboaaGreatDoor
/- The contracts of the document's functions: Check, Size, Image, hold. -/
namespace Go.Proofs.YtjfhilignbeboaaGreatDoor.Ge
open Go.RowKit
attribute [local go_sem ↓] Go.wp_at_zero Go.wp_at_succ

set_option maxHeartbeats 1000000 in
theorem rcheck_ok (a b c : Int) (h : Gx.OkS a b c) (w : World) : Calls Tryz.prog 100 #[shV a b c] w fun e w' => e = .returned (.int .i64 0) ∧ w.grownBy w' none := by
  have hG : ∀ o, w.grownBy (w.alloc o) none := fun o => grown_alloc w o
  obtain ⟨h1, h2, h3, h4, h5, h6⟩ := h
  unfold shV
  go_enter Tryz.func100, Tryz.ntmps100
  go_wp2
  go_ret
  exact ⟨rfl, hG _⟩

end Go.Proofs.YtjfhilignbeboaaGreatDoor.Ge
namespace Go.Proofs.YtjfhilignbeboaaGreatDoor
/-- What the first k records make of it. -/
def fo (S : Sb) (l : List Rc) (k : Nat) : Sb := (l.take k).foldl app S
theorem fo_succ {S : Sb} {l : List Rc} {k : Nat} {r : Rc} (h : l[k]? = some r) : fo S l (k + 1) = app (fo S l k) r := by
  unfold fo
  rw [List.take_add_one, h]
  simp
theorem fo_take {S : Sb} {l : List Rc} {k m : Nat} (h : k ≤ m) : fo S (l.take m) k = fo S l k := by
  unfold fo
  rw [List.take_take, Nat.min_eq_left h]
theorem fo_ok {S : Sb} (h : S.Ok) (l : List Rc) (k : Nat) : (fo S l k).Ok := by
  unfold fo
  generalize l.take k = m
  induction m generalizing S with
  | nil => exact h
  | cons r m ih => exact ih (h.app r)
theorem app_abc (S : Sb) (r : Rc) : (app S r).a = S.a ∧ (app S r).b = S.b ∧ (app S r).c = S.c := by
  unfold app
  split
  · unfold appS
    repeat' split
    all_goals exact ⟨rfl, rfl, rfl⟩
  · exact ⟨rfl, rfl, rfl⟩
theorem fo_abc (S : Sb) (l : List Rc) (k : Nat) : (fo S l k).a = S.a ∧ (fo S l k).b = S.b ∧ (fo S l k).c = S.c := by
  unfold fo
  generalize l.take k = m
  induction m generalizing S with
  | nil => exact ⟨rfl, rfl, rfl⟩
  | cons r m ih =>
    obtain ⟨h1, h2, h3⟩ := ih (app S r)
    obtain ⟨k1, k2, k3⟩ := app_abc S r
    exact ⟨h1.trans k1, h2.trans k2, h3.trans k3⟩
/-- The first n of them can be applied, one behind the other; e: what the next one is told, 0 where there is none. -/
structure Ran (S : Sb) (l : List Rc) (n : Nat) (e : Int) : Prop where
  le : n ≤ l.length
  ok : ∀ k r, l[k]? = some r → k < n → appE (fo S l k) r = 0
  no : ∀ r, l[n]? = some r → appE (fo S l n) r = e ∧ e ≠ 0
  all : n = l.length → e = 0
theorem Ran.zero {S : Sb} {l : List Rc} {n : Nat} {e : Int} (h : Ran S l n e) : e = 0 ↔ n = l.length := by
  refine ⟨fun he => ?_, h.all⟩
  apply Classical.byContradiction
  intro hn
  have := h.le
  obtain ⟨r, hr⟩ : ∃ r, l[n]? = some r := ⟨l[n]'(by omega), List.getElem?_eq_getElem (by omega)⟩
  exact (h.no r hr).2 he
/-- A beginning. -/
theorem Ran.take {S : Sb} {l : List Rc} {n : Nat} {e : Int} (h : Ran S l n e) (m : Nat) (hm : m ≤ l.length) : Ran S (l.take m) (min n m) (if m ≤ n then 0 else e) := by
  have hle := h.le
  have hlen : (l.take m).length = m := by simp; omega
  by_cases hc : m ≤ n
  · rw [if_pos hc, Nat.min_eq_right hc]
    refine ⟨by rw [hlen]; exact Nat.le_refl _, fun k r hk hlt => ?_, fun r hr => ?_, fun _ => rfl⟩
    · rw [List.getElem?_take_of_lt hlt] at hk
      rw [fo_take (by omega)]
      exact h.ok k r hk (by omega)
    · have := (List.getElem?_eq_some_iff.1 hr).1
      omega
  · rw [if_neg hc, Nat.min_eq_left (by omega)]
    refine ⟨by omega, fun k r hk hlt => ?_, fun r hr => ?_, fun e => by omega⟩
    · rw [List.getElem?_take_of_lt (by omega)] at hk
      rw [fo_take (by omega)]
      exact h.ok k r hk hlt
    · rw [List.getElem?_take_of_lt (by omega)] at hr
      rw [fo_take (by omega)]
      exact h.no r hr
theorem fo_drop {S : Sb} {l : List Rc} {m k : Nat} : fo (fo S l m) (l.drop m) k = fo S l (m + k) := by
  unfold fo
  rw [List.take_add, List.foldl_append]
/-- What is left of it. -/
theorem Ran.drop {S : Sb} {l : List Rc} {n : Nat} {e : Int} (h : Ran S l n e) (m : Nat) (hm : m ≤ n) : Ran (fo S l m) (l.drop m) (n - m) e := by
  have hle := h.le
  refine ⟨by simp; omega, fun k r hk hlt => ?_, fun r hr => ?_, fun hn => h.all (by simp at hn; omega)⟩
  · rw [fo_drop]
    rw [List.getElem?_drop] at hk
    exact h.ok (m + k) r hk (by omega)
  · rw [fo_drop, show m + (n - m) = n by omega]
    rw [List.getElem?_drop, show m + (n - m) = n by omega] at hr
    exact h.no r hr
/-- A change by plain numbers. -/
structure Cg where
  k : Int
  i : Int
  s : Int
  t : Int
/-- The record of it. -/
def cgR (c : Cg) (n : Nat) (t : Int) : Rc :=
  if c.k % 5 = 0 then ⟨1, (n : Int), c.s % 13, t + 1 + c.t % 7, 0⟩
  else if c.k % 5 = 3 then ⟨4, 1 + c.i % (n : Int), c.s % 13, 0, 0⟩
  else if c.k % 5 = 4 then ⟨5, 0, 0, 0, t + 1 + c.t % 7⟩
  else ⟨1 + c.k % 5, 1 + c.i % (n : Int), 0, 0, 0⟩
theorem cgR_may {c : Cg} {n : Nat} {t : Int} (hn : 1 ≤ n) (h0 : 0 ≤ t) (h1 : t + 8 ≤ mxC) : (cgR c n t).May := by
  have a1 := Int.emod_nonneg c.k (b := 5) (by decide)
  have a2 := Int.emod_lt_of_pos c.k (b := 5) (by decide)
  have b1 := Int.emod_nonneg c.s (b := 13) (by decide)
  have b2 := Int.emod_lt_of_pos c.s (b := 13) (by decide)
  have d1 := Int.emod_nonneg c.t (b := 7) (by decide)
  have d2 := Int.emod_lt_of_pos c.t (b := 7) (by decide)
  have e1 := Int.emod_nonneg c.i (b := (n : Int)) (by omega)
  have e2 := Int.emod_lt_of_pos c.i (b := (n : Int)) (by omega)
  unfold cgR
  generalize c.i % (n : Int) = ii at *
  generalize c.k % 5 = kk at *
  generalize c.s % 13 = ss at *
  generalize c.t % 7 = tt at *
  by_cases k0 : kk = 0
  · rw [if_pos k0]; exact .inl ⟨rfl, by simp only; omega, ⟨by simp only; omega, by simp only; omega⟩, ⟨by simp only; omega, by simp only; omega⟩, rfl⟩
  · rw [if_neg k0]
    by_cases k3 : kk = 3
    · rw [if_pos k3]; exact .inr (.inr (.inl ⟨rfl, by simp only; omega, ⟨by simp only; omega, by simp only; omega⟩, rfl, rfl⟩))
    · rw [if_neg k3]
      by_cases k4 : kk = 4
      · rw [if_pos k4]; exact .inr (.inr (.inr ⟨rfl, rfl, rfl, rfl, ⟨by simp only; omega, by simp only; omega⟩⟩))
      · rw [if_neg k4]; exact .inr (.inl ⟨by simp only; omega, by simp only; omega, rfl, rfl, rfl⟩)
theorem cgR_ok {c : Cg} {n : Nat} {t : Int} (hn : 1 ≤ n) (hn1 : n < 4294967296) (h0 : 0 ≤ t) (h1 : t ≤ mxC) : (cgR c n t).Ok := by
  have a1 := Int.emod_nonneg c.k (b := 5) (by decide)
  have a2 := Int.emod_lt_of_pos c.k (b := 5) (by decide)
  have b1 := Int.emod_nonneg c.s (b := 13) (by decide)
  have b2 := Int.emod_lt_of_pos c.s (b := 13) (by decide)
  have d1 := Int.emod_nonneg c.t (b := 7) (by decide)
  have d2 := Int.emod_lt_of_pos c.t (b := 7) (by decide)
  have e1 := Int.emod_nonneg c.i (b := (n : Int)) (by omega)
  have e2 := Int.emod_lt_of_pos c.i (b := (n : Int)) (by omega)
  unfold mxC at h1
  unfold cgR
  generalize c.i % (n : Int) = ii at *
  generalize c.k % 5 = kk at *
  generalize c.s % 13 = ss at *
  generalize c.t % 7 = tt at *
  by_cases k0 : kk = 0
  · rw [if_pos k0]; constructor <;> simp only <;> omega
  · rw [if_neg k0]
    by_cases k3 : kk = 3
    · rw [if_pos k3]; constructor <;> simp only <;> omega
    · rw [if_neg k3]
      by_cases k4 : kk = 4
      · rw [if_pos k4]; constructor <;> simp only <;> omega
      · rw [if_neg k4]; constructor <;> simp only <;> omega
/-- The records of changes; all: also those that are refused. -/
def hist (all : Bool) : Sb → List Cg → List Rc
  | _, [] => []
  | S, c :: l => if appE S (cgR c S.n S.t) = 0 ∨ all = true then cgR c S.n S.t :: hist all (app S (cgR c S.n S.t)) l else hist all (app S (cgR c S.n S.t)) l
/-- The book behind k changes. -/
def hS (S : Sb) (l : List Cg) (k : Nat) : Sb := (l.take k).foldl (fun S c => app S (cgR c S.n S.t)) S
theorem hS_succ {S : Sb} {l : List Cg} {k : Nat} {c : Cg} (h : l[k]? = some c) : hS S l (k + 1) = app (hS S l k) (cgR c (hS S l k).n (hS S l k).t) := by
  unfold hS
  rw [List.take_add_one, h]
  simp
theorem hS_ok {S : Sb} (h : S.Ok) (l : List Cg) (k : Nat) : (hS S l k).Ok := by
  unfold hS
  generalize l.take k = m
  induction m generalizing S with
  | nil => exact h
  | cons r m ih => exact ih (h.app _)
theorem app_t {S : Sb} {c : Cg} (h0 : 0 ≤ S.t) : (app S (cgR c S.n S.t)).t ≤ S.t + 7 := by
  have d1 := Int.emod_nonneg c.t (b := 7) (by decide)
  have d2 := Int.emod_lt_of_pos c.t (b := 7) (by decide)
  unfold app
  split
  · have hc : (cgR c S.n S.t).c ≤ S.t + 7 := by
      unfold cgR
      repeat' split
      all_goals simp only
      all_goals omega
    unfold appS
    repeat' split
    all_goals first | exact hc | (simp only; omega)
  · omega
theorem hist_snoc (all : Bool) (S : Sb) (l : List Cg) (c : Cg) : hist all S (l ++ [c]) = hist all S l ++ (if appE (hS S l l.length) (cgR c (hS S l l.length).n (hS S l l.length).t) = 0 ∨ all = true then [cgR c (hS S l l.length).n (hS S l l.length).t] else []) := by
  induction l generalizing S with
  | nil => simp [hist, hS]
  | cons d l ih =>
    have := ih (app S (cgR d S.n S.t))
    simp only [List.cons_append, hist, List.length_cons]
    rw [this]
    have e : hS S (d :: l) (l.length + 1) = hS (app S (cgR d S.n S.t)) l l.length := by simp [hS]
    rw [e]
    split <;> simp
theorem hist_take {all : Bool} {S : Sb} {l : List Cg} {k : Nat} {c : Cg} (h : l[k]? = some c) : hist all S (l.take (k + 1)) = hist all S (l.take k) ++ (if appE (hS S l k) (cgR c (hS S l k).n (hS S l k).t) = 0 ∨ all = true then [cgR c (hS S l k).n (hS S l k).t] else []) := by
  have hk := (List.getElem?_eq_some_iff.1 h).1
  rw [List.take_add_one, h, Option.toList_some, hist_snoc]
  have e : hS S (l.take k) (l.take k).length = hS S l k := by unfold hS; rw [List.take_length]
  rw [e]
theorem hist_le (all : Bool) (S : Sb) (l : List Cg) : (hist all S l).length ≤ l.length := by
  induction l generalizing S with
  | nil => simp [hist]
  | cons d l ih =>
    have := ih (app S (cgR d S.n S.t))
    simp only [hist]
    split <;> simp <;> omega
theorem hist_mem {all : Bool} {S : Sb} (ho : S.Ok) {l : List Cg} (hl : S.t + 7 * l.length + 8 ≤ mxC) : ∀ r ∈ hist all S l, r.May ∧ r.Ok := by
  induction l generalizing S with
  | nil => intro r hr; simp [hist] at hr
  | cons d l ih =>
    have ht := app_t (S := S) (c := d) ho.t0
    have hlen : ((d :: l).length : Int) = (l.length : Int) + 1 := by simp
    have h2 := ih (S := app S (cgR d S.n S.t)) (ho.app _) (by rw [hlen] at hl; omega)
    have h3 : (cgR d S.n S.t).May ∧ (cgR d S.n S.t).Ok := ⟨cgR_may ho.n0 ho.t0 (by rw [hlen] at hl; omega), cgR_ok ho.n0 ho.n1 ho.t0 ho.t1⟩
    intro r hr
    simp only [hist] at hr
    split at hr
    · rcases List.mem_cons.1 hr with rfl | hr
      · exact h3
      · exact h2 r hr
    · exact h2 r hr
section
variable {S : Sb} {l : List Rc} {n j : Nat} {e : Int} {r : Rc}
theorem Ran.step (h : Ran S l n e) (hj : j ≤ n) (hr : l[j]? = some r) (h0 : appE (fo S l j) r = 0) : j + 1 ≤ n := by
  apply Classical.byContradiction
  intro hn
  obtain rfl : j = n := by omega
  have h1 := h.no r hr
  rw [h0] at h1
  exact h1.2 h1.1.symm
end
end Go.Proofs.YtjfhilignbeboaaGreatDoor
namespace Go.Proofs.YtjfhilignbeboaaGreatDoor
/- The states, one behind the other: what the iterator hands on. -/
open Go.RowKit Go.Shelf
attribute [local go_sem ↓] Go.wp_at_zero Go.wp_at_succ
attribute [local go_sem] Oper.semAt_some
theorem Kept.cell {a b : World} {X : Nat → Prop} (h : Kept a b X) {g o : Nat} {v : Value} (hX : ¬ X g) (hv : a.cell? ⟨g, o, none⟩ = some v) : b.cell? ⟨g, o, none⟩ = some v := by
  have hl : g < a.heap.size := by
    unfold World.cell? at hv
    cases hq : a.heap[g]? with
    | none => simp [hq] at hv
    | some o => exact row_lt hq
  have hb := h.block g hl hX
  unfold World.cell? at hv ⊢
  simp only [hb]
  exact hv
end Go.Proofs.YtjfhilignbeboaaGreatDoor
namespace Go.Proofs.YtjfhilignbeboaaGreatDoor
/- Rows of records; their clone; States. -/
open Go.RowKit Go.Shelf
attribute [local go_sem ↓] Go.wp_at_zero Go.wp_at_succ
attribute [local go_sem] Oper.semAt_some
theorem info47 : (Tryz.prog.info? 28).map (fun i => (i.zero, i.size, i.bytes)) = some (some (.agg #[.int .i64 0, .int .u32 0, .int .i64 0, .int .i64 0, .int .i64 0]), 5, 40) := by kernel_rfl
def rcc (r : Rc) : List Value := [.int .i64 r.k, .int .u32 r.i, .int .i64 r.s, .int .i64 r.u, .int .i64 r.c]
def rcs (l : List Rc) : List Value := l.flatMap rcc
theorem rcc_length (r : Rc) : (rcc r).length = 5 := rfl
theorem rcs_cons (r : Rc) (l : List Rc) : rcs (r :: l) = rcc r ++ rcs l := by simp [rcs]
theorem rcs_append (l m : List Rc) : rcs (l ++ m) = rcs l ++ rcs m := by simp [rcs]
theorem rcs_snoc (l : List Rc) (r : Rc) : rcs (l ++ [r]) = rcs l ++ rcc r := by rw [rcs_append]; simp [rcs]
theorem rcs_length (l : List Rc) : (rcs l).length = l.length * 5 := by
  induction l with
  | nil => rfl
  | cons r l ih => rw [rcs_cons, List.length_append, ih, rcc_length, List.length_cons]; omega
theorem rcs_at {l : List Rc} {i : Nat} {r : Rc} (h : l[i]? = some r) {o : Nat} (ho : o < 5) : (rcs l)[i * 5 + o]? = (rcc r)[o]? := by
  induction l generalizing i with
  | nil => simp at h
  | cons q l ih =>
    rw [rcs_cons]
    cases i with
    | zero =>
      simp at h
      subst h
      rw [List.getElem?_append_left (by rw [rcc_length]; omega)]
      simp
    | succ i =>
      rw [List.getElem?_append_right (by rw [rcc_length]; omega), rcc_length, show (i + 1) * 5 + o - 5 = i * 5 + o by omega]
      exact ih (by simpa using h)
theorem rcs_get {l : List Rc} {j : Nat} {u : Value} (h : (rcs l)[j]? = some u) : ∃ r, l[j / 5]? = some r ∧ (rcc r)[j % 5]? = some u := by
  have hj : j < l.length * 5 := by have := (List.getElem?_eq_some_iff.1 h).1; rwa [rcs_length] at this
  have hi : j / 5 < l.length := by omega
  refine ⟨l[j / 5], List.getElem?_eq_getElem hi, ?_⟩
  rw [← rcs_at (List.getElem?_eq_getElem hi) (Nat.mod_lt _ (by decide)), show j / 5 * 5 + j % 5 = j by omega]
  exact h
theorem RecsAt.cells {w : World} {g off : Nat} {l : List Rc} (h : RecsAt w (some ⟨g, off, none⟩) l) : ∀ j u, (rcs l)[j]? = some u → w.cell? (Addr.add ⟨g, off, none⟩ j) = some u := by
  intro j u hj
  obtain ⟨r, h1, h2⟩ := rcs_get hj
  obtain ⟨b, o, e, c0, c1, c2, c3, c4⟩ := h _ r h1
  cases e
  rw [Addr.add_lit]
  have hm : j % 5 < 5 := Nat.mod_lt _ (by decide)
  have hd : j = j / 5 * 5 + j % 5 := by omega
  generalize hk : j % 5 = k at *
  generalize j / 5 = i at *
  rw [hd]
  have : k = 0 ∨ k = 1 ∨ k = 2 ∨ k = 3 ∨ k = 4 := by omega
  rcases this with rfl | rfl | rfl | rfl | rfl <;> simp [rcc] at h2 <;> subst h2
  · exact c0
  · exact c1
  · exact c2
  · exact c3
  · exact c4
/-- A row of one's own, as records that lie somewhere. -/
theorem recs_own {w : World} {B0 : Nat} {so : Option Addr} {cap : Nat} {l : List Rc} (h : w.ownsRow B0 28 5 (.slice so l.length cap) l.length (rcs l)) : RecsAt w so l ∧ ∀ a, l.length ≠ 0 → so = some a → B0 ≤ a.block := by
  refine ⟨fun j r hj => ?_, fun a hn ha => ?_⟩
  · have hl := (List.getElem?_eq_some_iff.1 hj).1
    obtain ⟨g, c, cur, e1, e2, e3, e4, e5, e6, e7⟩ := Ix.own_row h (by omega)
    cases e1
    have key : ∀ o u, o < 5 → (rcc r)[o]? = some u → w.cell? ⟨g, 0 + j * 5 + o, none⟩ = some u := fun o u ho hu => by
      rw [Nat.zero_add]
      exact Ix.own_cell e3 e7 ((rcs_at hj ho).trans hu)
    exact ⟨g, 0, rfl, key 0 _ (by decide) rfl, key 1 _ (by decide) rfl, key 2 _ (by decide) rfl, key 3 _ (by decide) rfl, key 4 _ (by decide) rfl⟩
  · obtain ⟨g, c, cur, e1, e2, -⟩ := Ix.own_row h (by omega)
    cases e1
    cases ha
    exact e2
theorem RecsAt.nil (w : World) (ao : Option Addr) : RecsAt w ao [] := fun j r h => by simp at h
end Go.Proofs.YtjfhilignbeboaaGreatDoor
namespace Go.Proofs.YtjfhilignbeboaaGreatDoor
/- Books that aren't there; shapes that may not be. -/
open Go.RowKit Go.Shelf
attribute [local go_sem ↓] Go.wp_at_zero Go.wp_at_succ
attribute [local go_sem] Oper.semAt_some
/-- No book, whatever is made behind. -/
def NoB (w : World) (v : Value) : Prop := ∀ W, w.grownBy W none → Calls Tryz.prog 45 #[v] W fun e w' => e = .returned (.bool true) ∧ w' = W
theorem NoB.then {w w' : World} {v : Value} (h : NoB w v) (g : w.grownBy w' none) : NoB w' v := fun W k => h W (grown_trans g k)
theorem noB_nil (w : World) : NoB w (.pointer none) := by
  intro W _
  go_enter Tryz.func45, Tryz.ntmps45
  go_wp2
  go_ret
  exact ⟨rfl, rfl⟩
theorem neqNil27 (w : World) (X : Nat) : (binOp .neq 34 (.pointer none) (.pointer (some ⟨X, 0, none⟩))).run Tryz.prog w = .ok (.bool true) w := by kernel_rfl
set_option maxRecDepth 20000 in
theorem noB_zero {w : World} {X : Nat} (h : w.cell? ⟨X, 3, none⟩ = some (.pointer none)) : NoB w (.pointer (some ⟨X, 0, none⟩)) := by
  intro W g
  have c3 := g.cell h (by simp)
  have hq := fun w => neqNil27 w X
  clear h g
  go_enter Tryz.func45, Tryz.ntmps45
  go_wp2
  go_ret
  exact ⟨rfl, rfl⟩
section
variable {w : World} {v : Value}
end

end Go.Proofs.YtjfhilignbeboaaGreatDoor
