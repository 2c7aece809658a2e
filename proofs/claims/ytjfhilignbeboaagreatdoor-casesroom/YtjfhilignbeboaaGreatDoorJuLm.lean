import Derived.Test.YtjfhilignbeboaaGreatDoorJuAy
import Derived.Test.YtjfhilignbeboaaGreatDoorJuAw
import Derived.Test.YtjfhilignbeboaaGreatDoorJuAs
import Derived.Test.YtjfhilignbeboaaGreatDoorJuAp
import Derived.Test.YtjfhilignbeboaaGreatDoorJuAn
namespace Go.Proofs.YtjfhilignbeboaaGreatDoor
/- The law CasesRoom. -/
open Go.RowKit
attribute [local go_sem ↓] Go.wp_at_zero Go.wp_at_succ
attribute [local go_sem] Oper.semAt_some
theorem fstE_end (l : List Int) (x : Int) : fstE (l ++ [x]) = if fstE l = 0 then x else fstE l := by
  induction l with
  | nil => simp only [List.nil_append, fstE, if_true]; split <;> simp_all
  | cons a l ih =>
    by_cases ha : a = 0
    · subst ha
      rw [List.cons_append, fstE_cons_ok, fstE_cons_ok, ih]
    · rw [List.cons_append, fstE_cons_no ha, fstE_cons_no ha, if_neg ha]
def prE (S : Sb) (q : Rs.Rq) : List Int :=
  if q.k = 1 then [stE S q, ttE q, clE S q, frE S q, rmE S] else if q.k = 2 then [idE S q] else if q.k = 3 then [idE S q] else if q.k = 4 then [idE S q, stE S q, frE S q] else [ttE q, clE S q]
theorem rec_kind (S : Sb) (q : Rs.Rq) : (recQ S q).k = if q.k = 1 then 1 else if q.k = 2 then 2 else if q.k = 3 then 3 else if q.k = 4 then 4 else 5 := by
  unfold recQ
  repeat' split
  all_goals rfl
theorem chks_snoc (S : Sb) (room : Int) (q : Rs.Rq) : chks S room q = prE S q ++ [lgE room (recQ S q).k] := by
  rw [rec_kind]
  unfold chks prE
  repeat' split
  all_goals rfl
theorem sz_few (S : Sb) (q : Rs.Rq) : sz (recQ S q).k ≤ 15 := by
  rw [rec_kind]
  repeat' split
  all_goals decide
/-- Room plays a part in one refusal alone. -/
theorem room_cases (S : Sb) (room : Int) (q : Rs.Rq) : ((dec S 1073741824 q).ok = false ∧ ((dec S 1073741824 q).e = 0 ∨ (dec S 1073741824 q).e = 200) ∧ dec S room q = dec S 1073741824 q) ∨ ((dec S 1073741824 q).ok = true ∧ (dec S 1073741824 q).e = 0 ∧ ((22 + (sz (dec S 1073741824 q).r.k : Int) ≤ room ∧ dec S room q = dec S 1073741824 q) ∨ (room < 22 + (sz (dec S 1073741824 q).r.k : Int) ∧ dec S room q = ⟨⟨0, 0, 0, 0, 0⟩, ⟨q.t, q.k, 220, 0, 0, 0, 0⟩, false, 0⟩))) := by
  by_cases hc : isChg q
  · have hs := sz_few S q
    have hR : refE S 1073741824 q = fstE (prE S q) := by
      unfold refE
      rw [chks_snoc, fstE_end]
      have : lgE 1073741824 (recQ S q).k = 0 := by unfold lgE; rw [if_neg (by omega)]
      rw [this]
      split
      · rename_i h; exact h.symm
      · rfl
    have hr : refE S room q = if fstE (prE S q) = 0 then lgE room (recQ S q).k else fstE (prE S q) := by
      unfold refE
      rw [chks_snoc, fstE_end]
    by_cases h0 : fstE (prE S q) = 0
    · rw [if_pos h0] at hr
      rw [h0] at hR
      refine Or.inr ?_
      rw [dec_yes hc hR]
      refine ⟨rfl, rfl, ?_⟩
      by_cases hl : room < 22 + (sz (recQ S q).k : Int)
      · refine Or.inr ⟨hl, ?_⟩
        have he : refE S room q = 220 := by rw [hr]; unfold lgE; rw [if_pos hl]
        rw [dec_ref hc (by rw [he]; decide), he]
        rfl
      · refine Or.inl ⟨by show 22 + (sz (recQ S q).k : Int) ≤ room; omega, ?_⟩
        have he : refE S room q = 0 := by rw [hr]; unfold lgE; rw [if_neg hl]
        rw [dec_yes hc he]
    · rw [if_neg h0] at hr
      refine Or.inl ?_
      have hR0 : refE S 1073741824 q ≠ 0 := by rw [hR]; exact h0
      have hr0 : refE S room q ≠ 0 := by rw [hr]; exact h0
      rw [dec_ref hc hR0, dec_ref hc hr0, hr, hR]
      exact ⟨rfl, Or.inl rfl, rfl⟩
  · rw [dec_no hc, dec_no hc]
    exact Or.inl ⟨rfl, Or.inr rfl, rfl⟩
theorem Lk.b4 {w W : World} {b : Nat} {S : Sb} {K : Nat} {p : Bp} {t u z y x : Nat × List Value × TypeId} {Bs : List (Nat × List Value × TypeId)} (h : Lk w W b S K p (t :: u :: z :: y :: x :: Bs)) : W.heap[x.1]? = some (.cells x.2.1.toArray x.2.2 (0, 0)) := (h.bx x (List.mem_cons_of_mem _ (List.mem_cons_of_mem _ (List.mem_cons_of_mem _ (List.mem_cons_of_mem _ (List.mem_cons_self ..)))))).1
theorem bx4m {w : World} {g : Nat} {t : TypeId} {x y z u : Value} (h : w.heap[g]? = some (.cells [x, y, z, u].toArray t (0, 0))) : w.cell? ⟨g, 0, none⟩ = some x ∧ w.cell? ⟨g, 1, none⟩ = some y ∧ w.cell? ⟨g, 2, none⟩ = some z ∧ w.cell? ⟨g, 3, none⟩ = some u := ⟨by rw [cell_row h]; rfl, by rw [cell_row h]; rfl, by rw [cell_row h]; rfl, by rw [cell_row h]; rfl⟩
set_option maxRecDepth 20000 in
set_option maxHeartbeats 16000000 in
theorem room_any {w : World} (x : Int) {ao : Option Addr} {cap : Nat} (l : List Cg) (nx ck room : Int) (A : Ak) (ht0 : 0 ≤ A.t) (ht1 : A.t < 4294967296) (hcap : l.length ≤ cap) (hC : CgsAt w ao l) (hn0 : 0 ≤ nx) (hn1 : nx < 4294967296) (hc0 : -9223372036854775808 ≤ ck) (hc1 : ck ≤ 9223372036854775807) (hT : Rk.Tab w) : Calls Tryz.prog 8 #[.agg #[.int .i64 x, .slice ao l.length cap, .int .u32 nx, .int .i64 ck], .int .i64 room, akV A] w fun e w' => e = .returned (.bool true) ∧ w.grownBy w' none := by
  have HQ := hide (akQ_ok A ht0 ht1)
  have HR := hide (fun W => request_any A W)
  obtain ⟨k, i, s, u, t⟩ := A
  have g0 := grown_alloc2 w (.cells [Value.int .i64 x, .slice ao l.length cap, .int .u32 nx, .int .i64 ck].toArray 55) (.cells [Value.int .i64 k, .int .i64 i, .int .i64 s, .int .i64 u, .int .u32 t].toArray 65)
  have HB := hide (books_any x l nx ck hcap (hC.grown g0) hn0 hn1 hc0 hc1)
  have HG0 := hide g0
  have HT := hide (hT.grown g0 (by simp))
  have HA := hide (new2 w (.cells [Value.int .i64 x, .slice ao l.length cap, .int .u32 nx, .int .i64 ck].toArray 55) (.cells [Value.int .i64 k, .int .i64 i, .int .i64 s, .int .i64 u, .int .u32 t].toArray 65))
  have HF := hide (bx4m (new2a w (.cells [Value.int .i64 x, .slice ao l.length cap, .int .u32 nx, .int .i64 ck].toArray 55) (.cells [Value.int .i64 k, .int .i64 i, .int .i64 s, .int .i64 u, .int .u32 t].toArray 65)))
  clear hT hC hcap hn0 hn1 hc0 hc1 g0 ht0 ht1
  generalize akQ ⟨k, i, s, u, t⟩ = Q at *
  unfold akV at *
  simp only at HR ⊢
  unfold Rs.rqV at HR
  obtain ⟨f0, f1, f2, f3⟩ := HF.out
  clear HF
  go_enter Tryz.func8, Tryz.ntmps8
  go_wp2_with fail
  generalize World.alloc (World.alloc w _) _ = w0 at *
  have HA' := hide (fun W (g : w0.grownBy W none) => bx5 (box_to HA.out g))
  clear HA
  generalize w.heap.size + 1 = A0 at *
  refine HB.out.mono ?_
  rintro e w2 ⟨b, d, S, p, lo, v, rfl, hB⟩
  have HO := hide hB.ok
  have L2 := hide hB.lk
  clear hB HB f0 f1 f2 f3
  obtain ⟨f0, f1, f2, f3, f4⟩ := HA'.out _ L2.out.gr
  go_wp2_with fail
  refine (HR.out _).mono ?_
  rintro e w3 ⟨rfl, hg⟩
  have L3 := hide ((L2.out.then hg).box [Value.int .i64 Q.k, .int .u32 Q.t, .int .u32 Q.i, .int .i64 Q.s, .int .i64 Q.u] 25)
  clear hg L2 HR f0 f1 f2 f3 f4 HA'
  have HD : Hid (∀ W Bs (room : Int), Lk w0 W b S 4096 p Bs → Calls Tryz.prog 9 #[.pointer (some ⟨b, 0, none⟩), .int .i64 room, .agg #[.int .i64 Q.k, .int .u32 Q.t, .int .u32 Q.i, .int .i64 Q.s, .int .i64 Q.u]] W fun e w' => e = .returned (dcV (dec S room Q)) ∧ Lk w0 w' b S 4096 p Bs) := fun W Bs room h => h.decide HO.out HT.out room Q HQ.out
  have HW : Hid (∀ W, w0.grownBy W none → Calls Tryz.prog 12 #[] W fun e w' => e = .returned (.bool true) ∧ W.grownBy w' none) := fun W g => awake_any W (HT.out.grown g (by simp))
  have HZ : Hid (∀ W (k : Int), w0.grownBy W none → Calls Tryz.prog 29 #[.int .i64 k] W fun e w' => e = .returned (.int .i64 (sz k : Nat)) ∧ W.grownBy w' none) := fun W k g => Rk.size_any k W (HT.out.grown g (by simp))
  have HD1 : Hid (∀ W Bs, Lk w0 W b S 4096 p Bs → Calls Tryz.prog 9 #[.pointer (some ⟨b, 0, none⟩), .int .i64 1073741824, .agg #[.int .i64 Q.k, .int .u32 Q.t, .int .u32 Q.i, .int .i64 Q.s, .int .i64 Q.u]] W fun e w' => e = .returned (dcV (dec S 1073741824 Q)) ∧ Lk w0 w' b S 4096 p Bs) := fun W Bs h => HD.out W Bs 1073741824 h
  have HD2 : Hid (∀ W Bs, Lk w0 W b S 4096 p Bs → Calls Tryz.prog 9 #[.pointer (some ⟨b, 0, none⟩), .int .i64 room, .agg #[.int .i64 Q.k, .int .u32 Q.t, .int .u32 Q.i, .int .i64 Q.s, .int .i64 Q.u]] W fun e w' => e = .returned (dcV (dec S room Q)) ∧ Lk w0 w' b S 4096 p Bs) := fun W Bs h => HD.out W Bs room h
  have hcs := hide (room_cases S room Q)
  clear HD HO HT HQ
  generalize dec S room Q = D2 at *
  generalize dec S 1073741824 Q = D at *
  obtain ⟨⟨rk, ri, rs, ru, rc⟩, ⟨yt, yk, ye, yi, ys, yu, yc⟩, yes, er⟩ := D
  obtain ⟨⟨sk, si, ss, su, sc⟩, ⟨zt, zk, ze, zi, zs, zu, zc⟩, is, eg⟩ := D2
  unfold dcV Rk.rcV Rt.ryV at HD1 HD2
  simp only at HD1 HD2
  have HC : Hid ((yes = false ∧ (er = 0 ∨ er = 200) ∧ Dc.mk ⟨sk, si, ss, su, sc⟩ ⟨zt, zk, ze, zi, zs, zu, zc⟩ is eg = ⟨⟨rk, ri, rs, ru, rc⟩, ⟨yt, yk, ye, yi, ys, yu, yc⟩, yes, er⟩) ∨ (yes = true ∧ er = 0 ∧ ((22 + (sz rk : Int) ≤ room ∧ Dc.mk ⟨sk, si, ss, su, sc⟩ ⟨zt, zk, ze, zi, zs, zu, zc⟩ is eg = ⟨⟨rk, ri, rs, ru, rc⟩, ⟨yt, yk, ye, yi, ys, yu, yc⟩, yes, er⟩) ∨ (room < 22 + (sz rk : Int) ∧ Dc.mk ⟨sk, si, ss, su, sc⟩ ⟨zt, zk, ze, zi, zs, zu, zc⟩ is eg = ⟨⟨0, 0, 0, 0, 0⟩, ⟨Q.t, Q.k, 220, 0, 0, 0, 0⟩, false, 0⟩)))) := hcs.out
  clear hcs
  go_upto_region 5 with fail
  generalize hB0 : w3.heap.size = B at *
  clear hB0
  generalize World.alloc w3 _ = w4 at *
  obtain ⟨q0, q1, q2, q3, q4⟩ := bx5 L3.out.b0
  go_wp2_with fail
  refine (HD1.out _ _ L3.out).mono ?_
  rintro e w5 ⟨rfl, hL4⟩
  have L5 := hide (hL4.box2 [Value.int .i64 rk, .int .u32 ri, .int .i64 rs, .int .i64 ru, .int .i64 rc] [Value.int .u32 yt, .int .i64 yk, .int .i64 ye, .int .u32 yi, .int .i64 ys, .int .i64 yu, .int .i64 yc] 28 31)
  clear hL4 L3 HD1 q0 q1 q2 q3 q4
  go_upto_region 6 with fail
  generalize hX : w5.heap.size = X at *
  clear hX
  generalize World.alloc (World.alloc w5 _) _ = w6 at *
  obtain ⟨q0, q1, q2, q3, q4⟩ := bx5 L5.out.b2
  go_wp2_with fail
  refine (HD2.out _ _ L5.out).mono ?_
  rintro e w6 ⟨rfl, hL6⟩
  have L7 := hide (hL6.box2 [Value.int .i64 sk, .int .u32 si, .int .i64 ss, .int .i64 su, .int .i64 sc] [Value.int .u32 zt, .int .i64 zk, .int .i64 ze, .int .u32 zi, .int .i64 zs, .int .i64 zu, .int .i64 zc] 28 31)
  clear hL6 L5 HD2 q0 q1 q2 q3 q4
  go_upto_region 7 with fail
  generalize hY : w6.heap.size = Y at *
  clear hY
  generalize World.alloc (World.alloc w6 _) _ = w7 at *
  rcases HC.out with ⟨rfl, he, hD⟩ | ⟨rfl, rfl, ⟨hr, hD⟩ | ⟨hr, hD⟩⟩
  · cases hD
    clear HC
    obtain ⟨q0, q1, q2, q3, q4⟩ := bx5 L7.out.b4
    obtain ⟨a0, a1, a2, a3, a4⟩ := bx5 L7.out.b3
    obtain ⟨b0, b1, b2, b3, b4, b5, b6⟩ := bx7 L7.out.b2
    obtain ⟨c0, c1, c2, c3, c4⟩ := bx5 L7.out.b1
    obtain ⟨d0, d1, d2, d3, d4, d5, d6⟩ := bx7 L7.out.b0
    rcases he with rfl | rfl
    · go_wp2_with fail
      refine (HW.out _ L7.out.gr).mono ?_
      rintro e w14 ⟨rfl, hg⟩
      have HG := hide (grown_trans HG0.out (grown_trans L7.out.gr hg))
      clear hg
      go_wp2
      go_ret
      exact ⟨rfl, HG.out⟩
    · go_wp2_with fail
      refine (HW.out _ L7.out.gr).mono ?_
      rintro e w14 ⟨rfl, hg⟩
      have HG := hide (grown_trans HG0.out (grown_trans L7.out.gr hg))
      clear hg
      go_wp2
      go_ret
      exact ⟨rfl, HG.out⟩
  · cases hD
    clear HC
    obtain ⟨q0, q1, q2, q3, q4⟩ := bx5 L7.out.b4
    obtain ⟨a0, a1, a2, a3, a4⟩ := bx5 L7.out.b3
    obtain ⟨b0, b1, b2, b3, b4, b5, b6⟩ := bx7 L7.out.b2
    obtain ⟨c0, c1, c2, c3, c4⟩ := bx5 L7.out.b1
    obtain ⟨d0, d1, d2, d3, d4, d5, d6⟩ := bx7 L7.out.b0
    go_wp2_with fail
    refine (HZ.out _ _ L7.out.gr).mono ?_
    rintro e w8 ⟨rfl, hg⟩
    have L8 := hide (L7.out.then hg)
    clear hg q0 q1 q2 q3 q4 a0 a1 a2 a3 a4 b0 b1 b2 b3 b4 b5 b6 c0 c1 c2 c3 c4 d0 d1 d2 d3 d4 d5 d6 L7
    obtain ⟨q0, q1, q2, q3, q4⟩ := bx5 L8.out.b4
    obtain ⟨a0, a1, a2, a3, a4⟩ := bx5 L8.out.b3
    obtain ⟨b0, b1, b2, b3, b4, b5, b6⟩ := bx7 L8.out.b2
    obtain ⟨c0, c1, c2, c3, c4⟩ := bx5 L8.out.b1
    obtain ⟨d0, d1, d2, d3, d4, d5, d6⟩ := bx7 L8.out.b0
    obtain ⟨nd, hnd⟩ : ∃ nd : Int, nd = 22 + (sz rk : Int) := ⟨_, rfl⟩
    have hw : IntKind.i64.wrap (22 + (sz rk : Int)) = nd := by have := sz_lz rk; rw [IntKind.wrap_i64]; omega
    rw [← hnd] at hr
    have hge : decide (nd ≤ room) = true := decide_eq_true hr
    have hge2 : (room ≥ nd)  := by omega
    have HN := hide hnd
    clear hnd
    go_wp2_with fail
    refine (HW.out _ L8.out.gr).mono ?_
    rintro e w14 ⟨rfl, hg⟩
    have HG := hide (grown_trans HG0.out (grown_trans L8.out.gr hg))
    clear hg
    go_wp2
    go_ret
    exact ⟨rfl, HG.out⟩
  · cases hD
    clear HC
    obtain ⟨q0, q1, q2, q3, q4⟩ := bx5 L7.out.b4
    obtain ⟨a0, a1, a2, a3, a4⟩ := bx5 L7.out.b3
    obtain ⟨b0, b1, b2, b3, b4, b5, b6⟩ := bx7 L7.out.b2
    obtain ⟨c0, c1, c2, c3, c4⟩ := bx5 L7.out.b1
    obtain ⟨d0, d1, d2, d3, d4, d5, d6⟩ := bx7 L7.out.b0
    go_wp2_with fail
    refine (HZ.out _ _ L7.out.gr).mono ?_
    rintro e w8 ⟨rfl, hg⟩
    have L8 := hide (L7.out.then hg)
    clear hg q0 q1 q2 q3 q4 a0 a1 a2 a3 a4 b0 b1 b2 b3 b4 b5 b6 c0 c1 c2 c3 c4 d0 d1 d2 d3 d4 d5 d6 L7
    obtain ⟨q0, q1, q2, q3, q4⟩ := bx5 L8.out.b4
    obtain ⟨a0, a1, a2, a3, a4⟩ := bx5 L8.out.b3
    obtain ⟨b0, b1, b2, b3, b4, b5, b6⟩ := bx7 L8.out.b2
    obtain ⟨c0, c1, c2, c3, c4⟩ := bx5 L8.out.b1
    obtain ⟨d0, d1, d2, d3, d4, d5, d6⟩ := bx7 L8.out.b0
    obtain ⟨nd, hnd⟩ : ∃ nd : Int, nd = 22 + (sz rk : Int) := ⟨_, rfl⟩
    have hw : IntKind.i64.wrap (22 + (sz rk : Int)) = nd := by have := sz_lz rk; rw [IntKind.wrap_i64]; omega
    rw [← hnd] at hr
    have hge : decide (nd ≤ room) = false := decide_eq_false (by omega)
    have hge2 : (room ≥ nd) → False := by omega
    have HN := hide hnd
    clear hnd
    go_wp2_with fail
    refine (HW.out _ L8.out.gr).mono ?_
    rintro e w14 ⟨rfl, hg⟩
    have HG := hide (grown_trans HG0.out (grown_trans L8.out.gr hg))
    clear hg
    go_wp2
    go_ret
    exact ⟨rfl, HG.out⟩
end Go.Proofs.YtjfhilignbeboaaGreatDoor
