import Derived.Test.YtjfhilignbeboaaGreatDoorJuLp1
import Derived.Test.YtjfhilignbeboaaGreatDoorJuLp2
import Derived.Test.YtjfhilignbeboaaGreatDoorJuAy
import Derived.Test.YtjfhilignbeboaaGreatDoorJuAw
import Derived.Test.YtjfhilignbeboaaGreatDoorJuAm
import Derived.Test.YtjfhilignbeboaaGreatDoorJuAz
namespace Go.Proofs.YtjfhilignbeboaaGreatDoor
/- The law CasesApply. -/
open Go.RowKit
attribute [local go_sem ↓] Go.wp_at_zero Go.wp_at_succ
attribute [local go_sem] Oper.semAt_some
set_option maxRecDepth 20000 in
set_option maxHeartbeats 16000000 in
theorem apply_all {w : World} (x : Int) {ao : Option Addr} {cap : Nat} (l : List Cg) (nx ck room : Int) (A : Ak) (ht0 : 0 ≤ A.t) (ht1 : A.t < 4294967296) (hcap : l.length ≤ cap) (hC : CgsAt w ao l) (hn0 : 0 ≤ nx) (hn1 : nx < 4294967296) (hc0 : -9223372036854775808 ≤ ck) (hc1 : ck ≤ 9223372036854775807) (hT : Rk.Tab w) (hT2 : Rt.Tab w) : Calls Tryz.prog 7 #[.agg #[.int .i64 x, .slice ao l.length cap, .int .u32 nx, .int .i64 ck], .int .i64 room, akV A] w fun e w' => e = .returned (.bool true) ∧ w.grownBy w' none := by
  have HQ := hide (akQ_ok A ht0 ht1)
  have HM := hide (akQ_may A)
  have HFw := hide (akQ_few A)
  have HR := hide (fun W => request_any A W)
  obtain ⟨k, i, s, u, t⟩ := A
  have g0 := grown_alloc2 w (.cells [Value.int .i64 x, .slice ao l.length cap, .int .u32 nx, .int .i64 ck].toArray 55) (.cells [Value.int .i64 k, .int .i64 i, .int .i64 s, .int .i64 u, .int .u32 t].toArray 65)
  have HB := hide (books_any x l nx ck hcap (hC.grown g0) hn0 hn1 hc0 hc1)
  have HG0 := hide g0
  have HT := hide (hT.grown g0 (by simp))
  have HT2 := hide (hT2.grown g0 (by simp))
  have HA := hide (new2 w (.cells [Value.int .i64 x, .slice ao l.length cap, .int .u32 nx, .int .i64 ck].toArray 55) (.cells [Value.int .i64 k, .int .i64 i, .int .i64 s, .int .i64 u, .int .u32 t].toArray 65))
  have HF := hide (bx4p (new2a w (.cells [Value.int .i64 x, .slice ao l.length cap, .int .u32 nx, .int .i64 ck].toArray 55) (.cells [Value.int .i64 k, .int .i64 i, .int .i64 s, .int .i64 u, .int .u32 t].toArray 65)))
  clear hT hT2 hC hcap hn0 hn1 hc0 hc1 g0 ht0 ht1
  generalize akQ ⟨k, i, s, u, t⟩ = Q at *
  unfold akV at *
  simp only at HR ⊢
  unfold Rs.rqV at HR
  obtain ⟨f0, f1, f2, f3⟩ := HF.out
  clear HF
  go_enter Tryz.func7, Tryz.ntmps7
  go_wp2_with fail
  generalize World.alloc (World.alloc w _) _ = w0 at *
  have HA' := hide (fun W (g : w0.grownBy W none) => bx5 (box_to HA.out g))
  clear HA
  generalize w.heap.size + 1 = A0 at *
  refine HB.out.mono ?_
  rintro e w2 ⟨b, d, S, p, lo, v, rfl, hB⟩
  have HO := hide hB.ok
  have L2 := hide hB.lk
  clear hB HB f0 f1 f2 f3
  obtain ⟨f0, f1, f2, f3, f4⟩ := HA'.out _ L2.out.gr
  go_wp2_with fail
  refine (HR.out _).mono ?_
  rintro e w3 ⟨rfl, hg⟩
  have HCP := hide ((L2.out.then hg).box [Value.int .i64 Q.k, .int .u32 Q.t, .int .u32 Q.i, .int .i64 Q.s, .int .i64 Q.u] 25)
  clear hg L2 HR f0 f1 f2 f3 f4 HA'
  go_upto_region 5 with fail
  generalize hB0 : w3.heap.size = B at *
  clear hB0
  generalize World.alloc w3 _ = w4 at *
  go_wp2_with fail
  refine (HCP.out.copy2 HO.out.wk).mono ?_
  rintro e w5 ⟨c, q0, rfl, h1, h2, h3⟩
  have L5 : Hid (Lt w0 w5 b c S S 4096 p q0 [(B, [Value.int .i64 Q.k, .int .u32 Q.t, .int .u32 Q.i, .int .i64 Q.s, .int .i64 Q.u], 25)]) := ⟨h1, h2, h3⟩
  clear h1 h2 h3 HCP
  have HD1 : Hid (Calls Tryz.prog 9 #[.pointer (some ⟨b, 0, none⟩), .int .i64 room, .agg #[.int .i64 Q.k, .int .u32 Q.t, .int .u32 Q.i, .int .i64 Q.s, .int .i64 Q.u]] w5 fun e w' => e = .returned (dcV (dec S room Q)) ∧ Lt w0 w' b c S S 4096 p q0 [(B, [Value.int .i64 Q.k, .int .u32 Q.t, .int .u32 Q.i, .int .i64 Q.s, .int .i64 Q.u], 25)]) := L5.out.decide HO.out HT.out room Q HQ.out
  have HW : Hid (∀ W, w0.grownBy W none → Calls Tryz.prog 12 #[] W fun e w' => e = .returned (.bool true) ∧ W.grownBy w' none) := fun W g => awake_any W (HT.out.grown g (by simp))
  have HSM : Hid (∀ W Bs, Lt w0 W b c S S 4096 p q0 Bs → Calls Tryz.prog 16 #[.pointer (some ⟨b, 0, none⟩), .pointer (some ⟨c, 0, none⟩)] W fun e w' => e = .returned (.bool true) ∧ Lt w0 w' b c S S 4096 p q0 Bs) := fun W Bs h => h.same HO.out
  have HRC : Hid (∀ W (r : Rt.Ry), r.Ok → w0.grownBy W none → Calls Tryz.prog 21 #[Rt.ryV r] W fun e w' => e = .returned (.int .i64 (Rt.chk r)) ∧ W.grownBy w' none) := fun W r h g => Rt.check_any r h W (HT2.out.grown g (by simp))
  have HKC : Hid (∀ W (r : Rc), r.Ok → w0.grownBy W none → Calls Tryz.prog 23 #[Rk.rcV r] W fun e w' => e = .returned (.int .i64 (Rk.chk r)) ∧ W.grownBy w' none) := fun W r h g => Rk.check_any r h W (HT.out.grown g (by simp))
  have HAP : Hid (∀ W Bs (r : Rc), r.Ok → Lt w0 W b c S S 4096 p q0 Bs → Calls Tryz.prog 24 #[.pointer (some ⟨b, 0, none⟩), Rk.rcV r] W fun e w' => e = .returned (.int .i64 (appE S r)) ∧ ∃ p', Lt w0 w' b c (app S r) S 4097 p' q0 Bs) := fun W Bs r hr h => h.apply HO.out HT.out r hr
  have HRP : Hid (∀ W (r : Rc), Calls Tryz.prog 19 #[Rs.rqV Q, Rk.rcV r] W fun e w' => e = .returned (Rt.ryV (rpY Q r)) ∧ W.grownBy w' none) := fun W r => reply_any Q r W
  have HWY : Hid (∀ W Bs (e : Int), Lk w0 W b S 4096 p Bs → Why S Q room e → Calls Tryz.prog 22 #[.pointer (some ⟨b, 0, none⟩), Rs.rqV Q, .int .i64 room, .int .i64 e] W fun x w' => x = .returned (.bool true) ∧ Lk w0 w' b S 4096 p Bs) := fun W Bs e h hw => why_any h HO.out Q HQ.out HFw.out.u room e hw
  have hcs := hide (dec_cases HO.out HFw.out HM.out HQ.out room)
  have HQB : Hid (0 ≤ Q.i ∧ Q.i < 4294967296 ∧ 0 ≤ Q.s ∧ Q.s ≤ 13 ∧ 0 ≤ Q.u ∧ Q.u ≤ 8) := ⟨HQ.out.i0, HQ.out.i1, HFw.out.s.1, HFw.out.s.2, HFw.out.u.1, HFw.out.u.2⟩
  have HSO : Hid (0 ≤ S.t ∧ S.t ≤ 1099511627776 ∧ S.n < 4294967296 ∧ S.L.length ≤ 4096) := ⟨HO.out.t0, HO.out.t1, HO.out.n1, Nat.le_trans HO.out.few HO.out.b1⟩
  have HWK := hide (fun r => (HO.out.app r).wk)
  clear HT HT2 HQ HM HFw HO
  generalize dec S room Q = D at *
  obtain ⟨qk, qt, qi, qs, qu⟩ := Q
  obtain ⟨⟨rk, ri, rs, ru, rc⟩, ⟨yt, yk, ye, yi, ys, yu, yc⟩, yes, er⟩ := D
  unfold dcV Rk.rcV Rt.ryV at HD1
  unfold Rs.rqV at HRP HWY
  simp only at *
  obtain ⟨q0', q1, q2, q3, q4⟩ := bx5 L5.out.lk.b0
  go_wp2_with fail
  refine HD1.out.mono ?_
  rintro e w6 ⟨rfl, hL6⟩
  have L7 := hide (hL6.box2 [Value.int .i64 rk, .int .u32 ri, .int .i64 rs, .int .i64 ru, .int .i64 rc] [Value.int .u32 yt, .int .i64 yk, .int .i64 ye, .int .u32 yi, .int .i64 ys, .int .i64 yu, .int .i64 yc] 28 31)
  clear hL6 L5 HD1 q0' q1 q2 q3 q4
  go_upto_region 7 with fail
  generalize hX : w6.heap.size = X at *
  clear hX
  generalize World.alloc (World.alloc w6 _) _ = w7 at *
  rcases hcs.out with ⟨hD, hk⟩ | ⟨e, hD, hy, he, hyc, hyo⟩ | ⟨r, y, hD, hdid, hbeh⟩
  · cases hD
    clear hcs
    obtain ⟨q0', q1, q2, q3, q4⟩ := bx5 L7.out.lk.b2
    obtain ⟨r0, r1, r2, r3, r4⟩ := bx5 L7.out.lk.b1
    obtain ⟨y0, y1, y2, y3, y4, y5, y6⟩ := bx7 L7.out.lk.b0
    rcases hk with rfl | rfl | hk
    case inl =>
      go_wp2_with fail
      refine (HW.out _ L7.out.lk.gr).mono ?_
      rintro e w14 ⟨rfl, hg⟩
      have HG := hide (grown_trans HG0.out (grown_trans L7.out.lk.gr hg))
      clear hg
      go_wp2
      go_ret
      exact ⟨rfl, HG.out⟩
    case inr.inl =>
      go_wp2_with fail
      refine (HW.out _ L7.out.lk.gr).mono ?_
      rintro e w14 ⟨rfl, hg⟩
      have HG := hide (grown_trans HG0.out (grown_trans L7.out.lk.gr hg))
      clear hg
      go_wp2
      go_ret
      exact ⟨rfl, HG.out⟩
    case inr.inr =>
      have d1 : decide (qk = 5) = false := decide_eq_false (by omega)
      have d2 : decide (qk = 6) = false := decide_eq_false (by omega)
      have d3 : (qk == 5) = false := by simp; omega
      have d4 : (qk == 6) = false := by simp; omega
      have d5 : decide (8 ≤ qk) = true := decide_eq_true hk
      have d6 : decide (qk ≥ 8) = true := decide_eq_true hk
      clear hk
      go_wp2_with fail
      refine (HW.out _ L7.out.lk.gr).mono ?_
      rintro e w14 ⟨rfl, hg⟩
      have HG := hide (grown_trans HG0.out (grown_trans L7.out.lk.gr hg))
      clear hg
      go_wp2
      go_ret
      exact ⟨rfl, HG.out⟩
  · cases hD
    clear hcs
    have d1 : decide (ye = 0) = false := decide_eq_false he
    have d2 : (ye == 0) = false := by simpa using he
    have HY := hide hy
    have HRC' : Hid (∀ W, w0.grownBy W none → Calls Tryz.prog 21 #[Rt.ryV ⟨qt, qk, ye, 0, 0, 0, 0⟩] W fun e w' => e = .returned (.int .i64 0) ∧ W.grownBy w' none) := fun W g => by
      have := HRC.out W _ hyo g
      rw [hyc] at this
      exact this
    unfold Rt.ryV at HRC'
    simp only at HRC'
    clear hy he hyc hyo
    obtain ⟨q0', q1, q2, q3, q4⟩ := bx5 L7.out.lk.b2
    obtain ⟨r0, r1, r2, r3, r4⟩ := bx5 L7.out.lk.b1
    obtain ⟨y0, y1, y2, y3, y4, y5, y6⟩ := bx7 L7.out.lk.b0
    go_wp2_with fail
    refine (HRC'.out _ L7.out.lk.gr).mono ?_
    rintro e w8 ⟨rfl, hg⟩
    have L8 := hide (L7.out.then hg)
    clear hg HRC' L7 q0' q1 q2 q3 q4 r0 r1 r2 r3 r4 y0 y1 y2 y3 y4 y5 y6
    obtain ⟨q0', q1, q2, q3, q4⟩ := bx5 L8.out.lk.b2
    obtain ⟨r0, r1, r2, r3, r4⟩ := bx5 L8.out.lk.b1
    obtain ⟨y0, y1, y2, y3, y4, y5, y6⟩ := bx7 L8.out.lk.b0
    go_wp2_with fail
    refine (HSM.out _ _ L8.out).mono ?_
    rintro e w9 ⟨rfl, h9⟩
    have L9 := hide h9
    clear h9 L8 q0' q1 q2 q3 q4 r0 r1 r2 r3 r4 y0 y1 y2 y3 y4 y5 y6
    obtain ⟨q0', q1, q2, q3, q4⟩ := bx5 L9.out.lk.b2
    obtain ⟨r0, r1, r2, r3, r4⟩ := bx5 L9.out.lk.b1
    obtain ⟨y0, y1, y2, y3, y4, y5, y6⟩ := bx7 L9.out.lk.b0
    go_wp2_with fail
    refine (HWY.out _ _ _ L9.out.lk HY.out).mono ?_
    rintro e w10 ⟨rfl, h10⟩
    have L10 := hide h10
    clear h10
    go_wp2_with fail
    refine (HW.out _ L10.out.gr).mono ?_
    rintro e w14 ⟨rfl, hg⟩
    have HG := hide (grown_trans HG0.out (grown_trans L10.out.gr hg))
    clear hg
    go_wp2
    go_ret
    exact ⟨rfl, HG.out⟩
  · cases hD
    clear hcs
    have HRC' : Hid (∀ W, w0.grownBy W none → Calls Tryz.prog 21 #[Rt.ryV ⟨yt, yk, ye, yi, ys, yu, yc⟩] W fun e w' => e = .returned (.int .i64 0) ∧ W.grownBy w' none) := fun W g => by
      have := HRC.out W _ hdid.yok g
      rw [hdid.yc] at this
      exact this
    have HKC' : Hid (∀ W, w0.grownBy W none → Calls Tryz.prog 23 #[Rk.rcV ⟨rk, ri, rs, ru, rc⟩] W fun e w' => e = .returned (.int .i64 0) ∧ W.grownBy w' none) := fun W g => by
      have := HKC.out W _ hdid.rok g
      rw [hdid.rc] at this
      exact this
    have HAP' : Hid (∀ W Bs, Lt w0 W b c S S 4096 p q0 Bs → Calls Tryz.prog 24 #[.pointer (some ⟨b, 0, none⟩), Rk.rcV ⟨rk, ri, rs, ru, rc⟩] W fun e w' => e = .returned (.int .i64 0) ∧ ∃ p', Lt w0 w' b c (app S ⟨rk, ri, rs, ru, rc⟩) S 4097 p' q0 Bs) := fun W Bs h => by
      have := HAP.out W Bs _ hdid.rok h
      rw [hdid.ae] at this
      exact this
    have HRP' : Hid (∀ W, Calls Tryz.prog 19 #[.agg #[.int .i64 qk, .int .u32 qt, .int .u32 qi, .int .i64 qs, .int .i64 qu], Rk.rcV ⟨rk, ri, rs, ru, rc⟩] W fun e w' => e = .returned (Rt.ryV ⟨yt, yk, ye, yi, ys, yu, yc⟩) ∧ W.grownBy w' none) := fun W => by
      have := HRP.out W ⟨rk, ri, rs, ru, rc⟩
      rw [hdid.rp] at this
      exact this
    have HWK' := hide (HWK.out ⟨rk, ri, rs, ru, rc⟩)
    have HBH := hide hbeh
    unfold Rk.rcV at HKC' HAP' HRP'
    unfold Rt.ryV at HRC' HRP'
    unfold Beh at HBH
    generalize app S ⟨rk, ri, rs, ru, rc⟩ = S2 at *
    simp only at HKC' HAP' HRP' HRC' HBH
    clear hdid hbeh HRC HKC HAP HRP HWY HWK
    have HE : Hid (ye = 0 ∧ yt = qt ∧ yk = qk) := by
      rcases HBH.out with ⟨h, -, h2, -⟩ | ⟨h, -, h2, -⟩ | ⟨h, -, h2, -⟩ | ⟨h, -, h2, -⟩ | ⟨h, -, h2, -⟩
      all_goals (cases h2; exact ⟨rfl, rfl, h.symm⟩)
    obtain ⟨rfl, rfl, rfl⟩ := HE.out
    clear HE
    obtain ⟨q0', q1, q2, q3, q4⟩ := bx5 L7.out.lk.b2
    obtain ⟨r0, r1, r2, r3, r4⟩ := bx5 L7.out.lk.b1
    obtain ⟨y0, y1, y2, y3, y4, y5, y6⟩ := bx7 L7.out.lk.b0
    go_wp2_with fail
    refine (HRC'.out _ L7.out.lk.gr).mono ?_
    rintro e w8 ⟨rfl, hg⟩
    have L8 := hide (L7.out.then hg)
    clear hg HRC' L7 q0' q1 q2 q3 q4 r0 r1 r2 r3 r4 y0 y1 y2 y3 y4 y5 y6
    obtain ⟨q0', q1, q2, q3, q4⟩ := bx5 L8.out.lk.b2
    obtain ⟨r0, r1, r2, r3, r4⟩ := bx5 L8.out.lk.b1
    obtain ⟨y0, y1, y2, y3, y4, y5, y6⟩ := bx7 L8.out.lk.b0
    go_wp2_with fail
    refine (HSM.out _ _ L8.out).mono ?_
    rintro e w9 ⟨rfl, h9⟩
    have L9 := hide h9
    clear h9 L8 HSM q0' q1 q2 q3 q4 r0 r1 r2 r3 r4 y0 y1 y2 y3 y4 y5 y6
    go_wp2
    obtain ⟨q0', q1, q2, q3, q4⟩ := bx5 L9.out.lk.b2
    obtain ⟨r0, r1, r2, r3, r4⟩ := bx5 L9.out.lk.b1
    obtain ⟨y0, y1, y2, y3, y4, y5, y6⟩ := bx7 L9.out.lk.b0
    go_region_held3 (fun W => (W.cell? ⟨B, 0, none⟩ = some (.int .i64 yk) ∧ W.cell? ⟨B, 1, none⟩ = some (.int .u32 yt) ∧ W.cell? ⟨B, 2, none⟩ = some (.int .u32 qi) ∧ W.cell? ⟨B, 3, none⟩ = some (.int .i64 qs) ∧ W.cell? ⟨B, 4, none⟩ = some (.int .i64 qu)) ∧ (W.cell? ⟨X, 0, none⟩ = some (.int .i64 rk) ∧ W.cell? ⟨X, 1, none⟩ = some (.int .u32 ri) ∧ W.cell? ⟨X, 2, none⟩ = some (.int .i64 rs) ∧ W.cell? ⟨X, 3, none⟩ = some (.int .i64 ru) ∧ W.cell? ⟨X, 4, none⟩ = some (.int .i64 rc)) ∧ (W.cell? ⟨X + 1, 0, none⟩ = some (.int .u32 yt) ∧ W.cell? ⟨X + 1, 1, none⟩ = some (.int .i64 yk) ∧ W.cell? ⟨X + 1, 2, none⟩ = some (.int .i64 0) ∧ W.cell? ⟨X + 1, 3, none⟩ = some (.int .u32 yi) ∧ W.cell? ⟨X + 1, 4, none⟩ = some (.int .i64 ys) ∧ W.cell? ⟨X + 1, 5, none⟩ = some (.int .i64 yu) ∧ W.cell? ⟨X + 1, 6, none⟩ = some (.int .i64 yc))) (first | assumption | exact ⟨⟨q0', q1, q2, q3, q4⟩, ⟨r0, r1, r2, r3, r4⟩, ⟨y0, y1, y2, y3, y4, y5, y6⟩⟩) (first | (go_at_call 23; refine (HKC'.out _ (grown_trans L9.out.lk.gr (grown_drew _ none))).mono ?_; rintro e w10 ⟨rfl, hg⟩; have L10 := hide (L9.out.then (grown_trans (grown_drew w9 none) hg)); have hJ10 := And.intro (bx5 L10.out.lk.b2) (And.intro (bx5 L10.out.lk.b1) (bx7 L10.out.lk.b0)); clear hg) | (go_at_call 24; refine (HAP'.out _ _ L10.out).mono ?_; rintro e w11 ⟨rfl, p2, h11⟩; have L11 := hide h11; have hJ11 := And.intro (bx5 L11.out.lk.b2) (And.intro (bx5 L11.out.lk.b1) (bx7 L11.out.lk.b0)); clear h11) | (go_at_call 19; refine (HRP'.out _).mono ?_; rintro e w12 ⟨rfl, hg⟩; have L12 := hide (L11.out.then hg); have hJ12 := And.intro (bx5 L12.out.lk.b2) (And.intro (bx5 L12.out.lk.b1) (bx7 L12.out.lk.b0)); clear hg))
    clear q0' q1 q2 q3 q4 r0 r1 r2 r3 r4 y0 y1 y2 y3 y4 y5 y6
    clear L9 HAP' HKC' HRP'
    have HLB : Hid (∀ W Bs, Lt w0 W b c S2 S 4097 p2 q0 Bs → Calls Tryz.prog 27 #[.pointer (some ⟨b, 0, none⟩)] W fun e w' => e = .returned (.int .i64 (S2.L.length : Int)) ∧ Lt w0 w' b c S2 S 4097 p2 q0 Bs) := fun W Bs h => h.len
    have HLC : Hid (∀ W Bs, Lt w0 W b c S2 S 4097 p2 q0 Bs → Calls Tryz.prog 27 #[.pointer (some ⟨c, 0, none⟩)] W fun e w' => e = .returned (.int .i64 (S.L.length : Int)) ∧ Lt w0 w' b c S2 S 4097 p2 q0 Bs) := fun W Bs h => h.lenC
    have HNC : Hid (∀ W Bs, Lt w0 W b c S2 S 4097 p2 q0 Bs → Calls Tryz.prog 26 #[.pointer (some ⟨c, 0, none⟩)] W fun e w' => e = .returned (.int .u32 (S.n : Int)) ∧ Lt w0 w' b c S2 S 4097 p2 q0 Bs) := fun W Bs h => h.nextC
    have HCB : Hid (∀ W Bs, Lt w0 W b c S2 S 4097 p2 q0 Bs → Calls Tryz.prog 28 #[.pointer (some ⟨b, 0, none⟩)] W fun e w' => e = .returned (.int .i64 S2.t) ∧ Lt w0 w' b c S2 S 4097 p2 q0 Bs) := fun W Bs h => h.clock
    have HCC : Hid (∀ W Bs, Lt w0 W b c S2 S 4097 p2 q0 Bs → Calls Tryz.prog 28 #[.pointer (some ⟨c, 0, none⟩)] W fun e w' => e = .returned (.int .i64 S.t) ∧ Lt w0 w' b c S2 S 4097 p2 q0 Bs) := fun W Bs h => h.clockC
    have HGT : Hid (∀ (k : Int), 0 ≤ k ∧ k < 4294967296 → (∀ W Bs, Lt w0 W b c S2 S 4097 p2 q0 Bs → Calls Tryz.prog 25 #[.pointer (some ⟨b, 0, none⟩), .int .u32 k] W fun e w' => e = .returned (.tuple #[bgV ((fnd S2.L k.toNat).getD ⟨0, 0, 0⟩), .int .i64 (if (fnd S2.L k.toNat).isSome then 0 else 171)]) ∧ Lt w0 w' b c S2 S 4097 p2 q0 Bs)) := fun k hk W Bs h => by
      have := h.get HWK'.out k.toNat (by omega)
      rw [show ((k.toNat : Nat) : Int) = k from by omega] at this
      exact this
    rcases HBH.out with ⟨rfl, hr, hy, hf, hl⟩ | ⟨rfl, hr, hy, ⟨⟨x0, x1, x2⟩, hf, hx⟩, hl⟩ | ⟨rfl, hr, hy, hf, hl⟩ | ⟨rfl, hr, hy, ⟨⟨x0, x1, x2⟩, hf, hx⟩⟩ | ⟨rfl, hr, hy, hl⟩
    · cases hr
      cases hy
      clear HBH HWK'
      have hl2 : IntKind.i64.wrap ((S.L.length : Int) + 1) = (S2.L.length : Int) := by have := HSO.out.2.2.2; rw [IntKind.wrap_i64]; omega
      have hsb : 0 ≤ (S.n : Int) ∧ (S.n : Int) < 4294967296 := by have := HSO.out.2.2.1; omega
      have hqs : ((qs.toNat : Nat) : Int) = qs := by have := HQB.out; (try simp only at this); omega
      have HGT' : Hid (∀ W Bs, Lt w0 W b c S2 S 4097 p2 q0 Bs → Calls Tryz.prog 25 #[.pointer (some ⟨b, 0, none⟩), .int .u32 (S.n : Int)] W fun e w' => e = .returned (.tuple #[.agg #[.int .u32 (S.n : Int), .int .i64 qs, .int .i64 (S.t + qu)], .int .i64 0]) ∧ Lt w0 w' b c S2 S 4097 p2 q0 Bs) := fun W Bs h => by
        have := HGT.out (S.n : Int) hsb W Bs h
        rw [Int.toNat_natCast, hf] at this
        unfold bgV at this
        simp only [Option.getD_some, Option.isSome_some, if_true, hqs] at this
        exact this
      clear HGT hf hl hsb hqs HCB HCC
      generalize (S.n : Int) = sn at *
      generalize S.t + qu = su at *
      generalize (S.L.length : Int) = sl at *
      generalize (S2.L.length : Int) = sl2 at *
      obtain ⟨q0', q1, q2, q3, q4⟩ := bx5 L12.out.lk.b2
      obtain ⟨y0, y1, y2, y3, y4, y5, y6⟩ := bx7 L12.out.lk.b0
      go_wp2_with fail
      refine (HGT'.out _ _ L12.out).mono ?_
      rintro e w13 ⟨rfl, h13⟩
      have L13 := hide (h13.box [Value.int .u32 sn, .int .i64 qs, .int .i64 su] 51)
      clear h13 HGT' L12 q0' q1 q2 q3 q4 y0 y1 y2 y3 y4 y5 y6
      go_wp2
      generalize hZ : w13.heap.size = Z at *
      clear hZ
      generalize World.alloc w13 _ = w14 at *
      obtain ⟨q0', q1, q2, q3, q4⟩ := bx5 L13.out.lk.b3
      obtain ⟨y0, y1, y2, y3, y4, y5, y6⟩ := bx7 L13.out.lk.b1
      obtain ⟨z0, z1, z2⟩ := bx3 L13.out.lk.b0
      go_region_held3 (fun W => (W.cell? ⟨B, 0, none⟩ = some (.int .i64 1) ∧ W.cell? ⟨B, 1, none⟩ = some (.int .u32 yt) ∧ W.cell? ⟨B, 2, none⟩ = some (.int .u32 qi) ∧ W.cell? ⟨B, 3, none⟩ = some (.int .i64 qs) ∧ W.cell? ⟨B, 4, none⟩ = some (.int .i64 qu)) ∧ (W.cell? ⟨X + 1, 0, none⟩ = some (.int .u32 yt) ∧ W.cell? ⟨X + 1, 1, none⟩ = some (.int .i64 1) ∧ W.cell? ⟨X + 1, 2, none⟩ = some (.int .i64 0) ∧ W.cell? ⟨X + 1, 3, none⟩ = some (.int .u32 sn) ∧ W.cell? ⟨X + 1, 4, none⟩ = some (.int .i64 0) ∧ W.cell? ⟨X + 1, 5, none⟩ = some (.int .i64 su) ∧ W.cell? ⟨X + 1, 6, none⟩ = some (.int .i64 0)) ∧ (W.cell? ⟨Z, 0, none⟩ = some (.int .u32 sn) ∧ W.cell? ⟨Z, 1, none⟩ = some (.int .i64 qs) ∧ W.cell? ⟨Z, 2, none⟩ = some (.int .i64 su))) (first | assumption | exact ⟨⟨q0', q1, q2, q3, q4⟩, ⟨y0, y1, y2, y3, y4, y5, y6⟩, ⟨z0, z1, z2⟩⟩) (first | (go_at_call 26; refine (HNC.out _ _ (L13.out.then (grown_drew _ none))).mono ?_; rintro e w15 ⟨rfl, h15⟩; have L15 := hide h15; have hJ15 := And.intro (bx5 L15.out.lk.b3) (And.intro (bx7 L15.out.lk.b1) (bx3 L15.out.lk.b0)); clear h15) | (go_at_call_of 27 (Value.pointer (some ⟨b, 0, none⟩)); refine (HLB.out _ _ L15.out).mono ?_; rintro e w16 ⟨rfl, h16⟩; have L16 := hide h16; have hJ16 := And.intro (bx5 L16.out.lk.b3) (And.intro (bx7 L16.out.lk.b1) (bx3 L16.out.lk.b0)); clear h16) | (go_at_call_of 27 (Value.pointer (some ⟨c, 0, none⟩)); refine (HLC.out _ _ L16.out).mono ?_; rintro e w17 ⟨rfl, h17⟩; have L17 := hide h17; have hJ17 := And.intro (bx5 L17.out.lk.b3) (And.intro (bx7 L17.out.lk.b1) (bx3 L17.out.lk.b0)); clear h17) | (go_at_call 12; refine (HW.out _ L17.out.lk.gr).mono ?_; rintro e w18 ⟨rfl, hg⟩; have L18 := hide (L17.out.then hg); have hJ18 := And.intro (bx5 L18.out.lk.b3) (And.intro (bx7 L18.out.lk.b1) (bx3 L18.out.lk.b0)); clear hg))
      have HG := hide (grown_trans HG0.out L18.out.lk.gr)
      go_wp2
      go_ret
      exact ⟨rfl, HG.out⟩
    · cases hr
      cases hy
      clear HBH HWK'
      simp only at hx
      subst hx
      rw [hl] at HLB
      have HGT' : Hid (∀ W Bs, Lt w0 W b c S2 S 4097 p2 q0 Bs → Calls Tryz.prog 25 #[.pointer (some ⟨b, 0, none⟩), .int .u32 qi] W fun e w' => e = .returned (.tuple #[.agg #[.int .u32 (x0 : Int), .int .i64 (x1 : Int), .int .i64 0], .int .i64 0]) ∧ Lt w0 w' b c S2 S 4097 p2 q0 Bs) := fun W Bs h => by
        have := HGT.out qi ⟨HQB.out.1, HQB.out.2.1⟩ W Bs h
        (try simp only at hf)
        rw [hf] at this
        unfold bgV at this
        simp only [Option.getD_some, Option.isSome_some, if_true] at this
        exact this
      clear HGT hf hl HCB HCC HNC
      generalize (S.L.length : Int) = sl at *
      generalize (S2.L.length : Int) = sl2 at *
      obtain ⟨q0', q1, q2, q3, q4⟩ := bx5 L12.out.lk.b2
      obtain ⟨y0, y1, y2, y3, y4, y5, y6⟩ := bx7 L12.out.lk.b0
      go_wp2_with fail
      refine (HGT'.out _ _ L12.out).mono ?_
      rintro e w13 ⟨rfl, h13⟩
      have L13 := hide (h13.box [Value.int .u32 (x0 : Int), .int .i64 (x1 : Int), .int .i64 0] 51)
      clear h13 HGT' L12 q0' q1 q2 q3 q4 y0 y1 y2 y3 y4 y5 y6
      go_upto_region 21 with fail
      generalize hZ : w13.heap.size = Z at *
      clear hZ
      generalize World.alloc w13 _ = w14 at *
      obtain ⟨q0', q1, q2, q3, q4⟩ := bx5 L13.out.lk.b3
      obtain ⟨y0, y1, y2, y3, y4, y5, y6⟩ := bx7 L13.out.lk.b1
      obtain ⟨z0, z1, z2⟩ := bx3 L13.out.lk.b0
      go_wp2_with fail
      refine (HLB.out _ _ L13.out).mono ?_
      rintro e wa ⟨rfl, ha⟩
      have La := hide ha
      clear ha
      go_wp2_with fail
      refine (HLC.out _ _ La.out).mono ?_
      rintro e wb ⟨rfl, hb⟩
      have Lb := hide hb
      clear hb
      go_wp2_with fail
      refine (HW.out _ Lb.out.lk.gr).mono ?_
      rintro e w14 ⟨rfl, hg⟩
      have HG := hide (grown_trans HG0.out (grown_trans Lb.out.lk.gr hg))
      clear hg
      go_wp2
      go_ret
      exact ⟨rfl, HG.out⟩
    · cases hr
      cases hy
      clear HBH HWK'
      have hl2 : IntKind.i64.wrap ((S.L.length : Int) - 1) = (S2.L.length : Int) := by have := HSO.out.2.2.2; rw [IntKind.wrap_i64]; omega
      have HGT' : Hid (∀ W Bs, Lt w0 W b c S2 S 4097 p2 q0 Bs → Calls Tryz.prog 25 #[.pointer (some ⟨b, 0, none⟩), .int .u32 qi] W fun e w' => e = .returned (.tuple #[.agg #[.int .u32 0, .int .i64 0, .int .i64 0], .int .i64 171]) ∧ Lt w0 w' b c S2 S 4097 p2 q0 Bs) := fun W Bs h => by
        have := HGT.out qi ⟨HQB.out.1, HQB.out.2.1⟩ W Bs h
        (try simp only at hf)
        rw [hf] at this
        unfold bgV at this
        simp only [Option.getD_none, Option.isSome_none, Bool.false_eq_true, if_false] at this
        exact this
      clear HGT hf hl HCB HCC HNC
      generalize (S.L.length : Int) = sl at *
      generalize (S2.L.length : Int) = sl2 at *
      obtain ⟨q0', q1, q2, q3, q4⟩ := bx5 L12.out.lk.b2
      obtain ⟨y0, y1, y2, y3, y4, y5, y6⟩ := bx7 L12.out.lk.b0
      go_wp2_with fail
      refine (HGT'.out _ _ L12.out).mono ?_
      rintro e w13 ⟨rfl, h13⟩
      have L13 := hide (h13.box [Value.int .u32 0, .int .i64 0, .int .i64 0] 51)
      clear h13 HGT' L12 q0' q1 q2 q3 q4 y0 y1 y2 y3 y4 y5 y6
      go_upto_region 24 with fail
      generalize hZ : w13.heap.size = Z at *
      clear hZ
      generalize World.alloc w13 _ = w14 at *
      obtain ⟨q0', q1, q2, q3, q4⟩ := bx5 L13.out.lk.b3
      obtain ⟨y0, y1, y2, y3, y4, y5, y6⟩ := bx7 L13.out.lk.b1
      obtain ⟨z0, z1, z2⟩ := bx3 L13.out.lk.b0
      go_wp2_with fail
      refine (HLB.out _ _ L13.out).mono ?_
      rintro e wa ⟨rfl, ha⟩
      have La := hide ha
      clear ha
      go_wp2_with fail
      refine (HLC.out _ _ La.out).mono ?_
      rintro e wb ⟨rfl, hb⟩
      have Lb := hide hb
      clear hb
      go_wp2_with fail
      refine (HW.out _ Lb.out.lk.gr).mono ?_
      rintro e w14 ⟨rfl, hg⟩
      have HG := hide (grown_trans HG0.out (grown_trans Lb.out.lk.gr hg))
      clear hg
      go_wp2
      go_ret
      exact ⟨rfl, HG.out⟩
    · cases hr
      cases hy
      clear HBH HWK'
      simp only at hx
      subst hx
      have hqs : ((qs.toNat : Nat) : Int) = qs := by have := HQB.out; (try simp only at this); omega
      have HGT' : Hid (∀ W Bs, Lt w0 W b c S2 S 4097 p2 q0 Bs → Calls Tryz.prog 25 #[.pointer (some ⟨b, 0, none⟩), .int .u32 qi] W fun e w' => e = .returned (.tuple #[.agg #[.int .u32 (x0 : Int), .int .i64 qs, .int .i64 x2], .int .i64 0]) ∧ Lt w0 w' b c S2 S 4097 p2 q0 Bs) := fun W Bs h => by
        have := HGT.out qi ⟨HQB.out.1, HQB.out.2.1⟩ W Bs h
        (try simp only at hf)
        rw [hf] at this
        unfold bgV at this
        simp only [Option.getD_some, Option.isSome_some, if_true, hqs] at this
        exact this
      clear HGT hf hqs HCB HCC HNC
      generalize (S.L.length : Int) = sl at *
      generalize (S2.L.length : Int) = sl2 at *
      obtain ⟨q0', q1, q2, q3, q4⟩ := bx5 L12.out.lk.b2
      obtain ⟨y0, y1, y2, y3, y4, y5, y6⟩ := bx7 L12.out.lk.b0
      go_wp2_with fail
      refine (HGT'.out _ _ L12.out).mono ?_
      rintro e w13 ⟨rfl, h13⟩
      have L13 := hide (h13.box [Value.int .u32 (x0 : Int), .int .i64 qs, .int .i64 x2] 51)
      clear h13 HGT' L12 q0' q1 q2 q3 q4 y0 y1 y2 y3 y4 y5 y6
      go_upto_region 27 with fail
      generalize hZ : w13.heap.size = Z at *
      clear hZ
      generalize World.alloc w13 _ = w14 at *
      obtain ⟨q0', q1, q2, q3, q4⟩ := bx5 L13.out.lk.b3
      obtain ⟨y0, y1, y2, y3, y4, y5, y6⟩ := bx7 L13.out.lk.b1
      obtain ⟨z0, z1, z2⟩ := bx3 L13.out.lk.b0
      go_wp2_with fail
      refine (HW.out _ L13.out.lk.gr).mono ?_
      rintro e w14 ⟨rfl, hg⟩
      have HG := hide (grown_trans HG0.out (grown_trans L13.out.lk.gr hg))
      clear hg
      go_wp2
      go_ret
      exact ⟨rfl, HG.out⟩
    · cases hr
      cases hy
      clear HBH HWK'
      obtain ⟨su, hsu⟩ : ∃ su, su = S.t + qu := ⟨_, rfl⟩
      have hw : IntKind.i64.wrap (S.t + qu) = su := by have := HQB.out; have := HSO.out; (try simp only at *); rw [IntKind.wrap_i64]; omega
      rw [← hsu] at hl
      rw [hl] at HCB
      simp only [← hsu] at L12
      clear hl hsu HGT HLB HLC HNC
      generalize S.t = st at *
      go_wp2
      obtain ⟨q0', q1, q2, q3, q4⟩ := bx5 L12.out.lk.b2
      obtain ⟨y0, y1, y2, y3, y4, y5, y6⟩ := bx7 L12.out.lk.b0
      go_region_held3 (fun W => (W.cell? ⟨B, 0, none⟩ = some (.int .i64 7) ∧ W.cell? ⟨B, 1, none⟩ = some (.int .u32 yt) ∧ W.cell? ⟨B, 2, none⟩ = some (.int .u32 qi) ∧ W.cell? ⟨B, 3, none⟩ = some (.int .i64 qs) ∧ W.cell? ⟨B, 4, none⟩ = some (.int .i64 qu)) ∧ (W.cell? ⟨X + 1, 0, none⟩ = some (.int .u32 yt) ∧ W.cell? ⟨X + 1, 1, none⟩ = some (.int .i64 7) ∧ W.cell? ⟨X + 1, 2, none⟩ = some (.int .i64 0) ∧ W.cell? ⟨X + 1, 3, none⟩ = some (.int .u32 0) ∧ W.cell? ⟨X + 1, 4, none⟩ = some (.int .i64 0) ∧ W.cell? ⟨X + 1, 5, none⟩ = some (.int .i64 su) ∧ W.cell? ⟨X + 1, 6, none⟩ = some (.int .i64 0))) (first | assumption | exact ⟨⟨q0', q1, q2, q3, q4⟩, ⟨y0, y1, y2, y3, y4, y5, y6⟩⟩) (first | (go_at_call_of 28 (Value.pointer (some ⟨b, 0, none⟩)); refine (HCB.out _ _ (L12.out.then (grown_drew _ none))).mono ?_; rintro e w15 ⟨rfl, h15⟩; have L15 := hide h15; have hJ15 := And.intro (bx5 L15.out.lk.b2) (bx7 L15.out.lk.b0); clear h15) | (go_at_call_of 28 (Value.pointer (some ⟨c, 0, none⟩)); refine (HCC.out _ _ L15.out).mono ?_; rintro e w16 ⟨rfl, h16⟩; have L16 := hide h16; have hJ16 := And.intro (bx5 L16.out.lk.b2) (bx7 L16.out.lk.b0); clear h16) | (go_at_call 12; refine (HW.out _ L16.out.lk.gr).mono ?_; rintro e w18 ⟨rfl, hg⟩; have L18 := hide (L16.out.then hg); have hJ18 := And.intro (bx5 L18.out.lk.b2) (bx7 L18.out.lk.b0); clear hg))
      have HG := hide (grown_trans HG0.out L18.out.lk.gr)
      go_wp2
      go_ret
      exact ⟨rfl, HG.out⟩
end Go.Proofs.YtjfhilignbeboaaGreatDoor
