/- Texts joined: Ax10, Cz. -/
import Derived.Test.YtjfhilignbeboaaGreatDoorJqAx
import Derived.Test.YtjfhilignbeboaaGreatDoorJqAn
import Derived.Test.YtjfhilignbeboaaGreatDoorJqAu
import Derived.Test.YtjfhilignbeboaaGreatDoorJqAv
import Derived.Test.YtjfhilignbeboaaGreatDoorJqAw
namespace Go.Proofs.YtjfhilignbeboaaGreatDoor
/- The document: Answer of the kind 10. -/
open Go.RowKit
attribute [local go_sem ↓] Go.wp_at_zero Go.wp_at_succ
attribute [local go_sem] Oper.semAt_some
section
variable {w W : World} {lo d : Nat} {v : Value} {S : Sb} {Bs Cs : List (Nat × List Value × TypeId)}
set_option maxRecDepth 20000 in
set_option maxHeartbeats 8000000 in
theorem ranswer_10 (h : Db w lo d v S) (ho : S.Ok) (t : Int) (i s : Nat) (u : Int) (hq : Rs.Rq.Ok ⟨10, t, (i : Int), (s : Int), u⟩) (hm : Rs.Rq.May ⟨10, t, (i : Int), (s : Int), u⟩) : Calls Tryz.prog 17 #[.pointer (some ⟨d, 0, none⟩), .agg #[.int .i64 10, .int .u32 t, .int .u32 (i : Int), .int .i64 (s : Int), .int .i64 u]] w fun e w' => e = .returned (anV (ans S ⟨10, t, (i : Int), (s : Int), u⟩)) ∧ w.grownBy w' none := by
  obtain ⟨res, hres⟩ : ∃ res, res = ans S ⟨10, t, (i : Int), (s : Int), u⟩ := ⟨_, rfl⟩
  rw [← hres]
  have hrs : res = (ansY S ⟨10, t, (i : Int), (s : Int), u⟩, 0) := by rw [hres]; unfold ans; rw [if_pos ⟨hm, by simp⟩]
  have hk : Rs.chk ⟨10, t, (i : Int), (s : Int), u⟩ = 0 := by unfold Rs.chk; rw [if_pos hm]
  have HQ := hide (fun W => Rs.rcheck_any ⟨10, t, (i : Int), (s : Int), u⟩ hq W)
  rw [hk] at HQ
  have HM := hide (Mx.two h (Rs.rqC ⟨10, t, (i : Int), (s : Int), u⟩) [Value.int .u32 0, .int .i64 0, .int .i64 0, .int .u32 0, .int .i64 0, .int .i64 0, .int .i64 0] 25 31)
  have HH : Hid (∀ W, Db W lo d v S → Calls Tryz.prog 55 #[.pointer (some ⟨d, 0, none⟩), .int .u32 (i : Int)] W fun e w' => e = .returned (.tuple #[bgV ((fnd S.L i).getD ⟨0, 0, 0⟩), .bool (fnd S.L i).isSome]) ∧ W.grownBy w' none) := fun W hW => has_any hW ho i
  have HO : Hid (∀ W, Db W lo d v S → Calls Tryz.prog 56 #[.pointer (some ⟨d, 0, none⟩), .int .i64 (s : Int)] W fun e w' => e = .returned (.tuple #[bgV ((sat S.L s).getD ⟨0, 0, 0⟩), .bool (sat S.L s).isSome]) ∧ W.grownBy w' none) := fun W hW => on_any hW ho s
  have HNum : Hid (res = (⟨t, 10, 0, 0, 0, 0, (S.L.length : Int)⟩, 0)) := by rw [Hid, hrs]; rfl
  clear h ho hq hm hres hrs hk
  generalize (fnd S.L i).getD ⟨0, 0, 0⟩ = x at *
  generalize (sat S.L s).getD ⟨0, 0, 0⟩ = y at *
  generalize (fnd S.L i).isSome = bx at *
  generalize (sat S.L s).isSome = by' at *
  obtain ⟨xi, xs, xu⟩ := x
  obtain ⟨yi, ys, yu⟩ := y
  unfold bgV at HH HO
  unfold Rs.rqV at *
  unfold Rs.rqC at HM
  simp only at *
  generalize (i : Int) = I at *
  generalize (s : Int) = s1 at *
  obtain ⟨c0, c1, c2, c3, c4⟩ := bx5 HM.out.b1
  go_enter Tryz.func17, Tryz.ntmps17
  go_wp2_with fail
  refine (HQ.out _).mono ?_
  rintro e w2 ⟨rfl, hg⟩
  have M2 := hide (HM.out.then hg)
  clear hg HM HQ c0 c1 c2 c3 c4
  obtain ⟨c0, c1, c2, c3, c4⟩ := bx5 M2.out.b1
  have HNe : Hid (w.heap.size + 1 < w2.heap.size) := row_lt M2.out.b0
  have M3 := hide (M2.out.box [.int .u32 t, .int .i64 10, .int .i64 0, .int .u32 0, .int .i64 0, .int .i64 0, .int .i64 0] 31)
  obtain ⟨k0, k1, k2, k3, k4⟩ := bx5 M3.out.b2
  go_wp2_with fail
  generalize hY : w2.heap.size = Y at *
  generalize World.alloc w2 _ = w3 at *
  clear hY M2 c0 c1 c2 c3 c4
  refine (HH.out _ M3.out.db).mono ?_
  rintro e w4 ⟨rfl, hg⟩
  have M4 := hide (M3.out.then hg)
  have HNe8 : Hid (Y < w4.heap.size) := row_lt M4.out.b0
  have M5 := hide (M4.out.box [.int .u32 (xi : Int), .int .i64 (xs : Int), .int .i64 xu] 51)
  clear hg M3 M4 HH k0 k1 k2 k3 k4
  obtain ⟨k0, k1, k2, k3, k4⟩ := bx5 M5.out.b3
  go_wp2_with fail
  generalize hX8 : w4.heap.size = X8 at *
  generalize World.alloc w4 _ = w5 at *
  clear hX8
  refine (HO.out _ M5.out.db).mono ?_
  rintro e w6 ⟨rfl, hg⟩
  have M6 := hide (M5.out.then hg)
  have HNe10 : Hid (X8 < w6.heap.size) := row_lt M6.out.b0
  have M7 := hide (M6.out.box [.int .u32 (yi : Int), .int .i64 (ys : Int), .int .i64 yu] 51)
  clear hg M5 M6 HO k0 k1 k2 k3 k4
  obtain ⟨k0, k1, k2, k3, k4⟩ := bx5 M7.out.b4
  go_upto_region 8 with fail
  generalize hX10 : w6.heap.size = X10 at *
  generalize World.alloc w6 _ = w7 at *
  clear hX10
  have M8 := hide (M7.out.sub (Cs := [(Y, _, 31), (X8, _, 51), (X10, _, 51), (w.heap.size + 1, _, 31), (w.heap.size, _, 25)]) (fun y hy => by
    rcases List.mem_cons.1 hy with rfl | hy
    · exact (List.mem_cons_of_mem _ (List.mem_cons_of_mem _ (List.mem_cons_self ..)))
    rcases List.mem_cons.1 hy with rfl | hy
    · exact (List.mem_cons_of_mem _ (List.mem_cons_self ..))
    rcases List.mem_cons.1 hy with rfl | hy
    · exact (List.mem_cons_self ..)
    rcases List.mem_cons.1 hy with rfl | hy
    · exact (List.mem_cons_of_mem _ (List.mem_cons_of_mem _ (List.mem_cons_of_mem _ (List.mem_cons_self ..))))
    rcases List.mem_cons.1 hy with rfl | hy
    · exact (List.mem_cons_of_mem _ (List.mem_cons_of_mem _ (List.mem_cons_of_mem _ (List.mem_cons_of_mem _ (List.mem_cons_self ..)))))
    cases hy))
  have HNo : Hid (∀ (a b c d : List Value) (y : Nat × List Value × TypeId), y ∈ [(X8, a, (51 : TypeId)), (X10, b, 51), (w.heap.size + 1, c, 31), (w.heap.size, d, 25)] → y.1 ≠ Y) := fun a b c d y hy => by
    have h1 := HNe.out
    have h2 := HNe8.out
    have h3 := HNe10.out
    rcases List.mem_cons.1 hy with rfl | hy
    · exact fun e => by simp only at e; omega
    rcases List.mem_cons.1 hy with rfl | hy
    · exact fun e => by simp only at e; omega
    rcases List.mem_cons.1 hy with rfl | hy
    · exact fun e => by simp only at e; omega
    rcases List.mem_cons.1 hy with rfl | hy
    · exact fun e => by simp only at e; omega
    cases hy
  clear M7 k0 k1 k2 k3 k4
  obtain ⟨k0, k1, k2, k3, k4⟩ := bx5 M8.out.b4
  obtain ⟨⟨y0, y1, y2, y3, y4, y5, y6⟩, y7⟩ := bxf7 M8.out.b0
  obtain ⟨u0, u1, u2, -⟩ := box3 M8.out.b1
  obtain ⟨v0, v1, v2, -⟩ := box3 M8.out.b2
  have a1 := M8.out.db.cell (j := 1) rfl
  have a4 := M8.out.db.cell (j := 4) rfl
  obtain ⟨ao, cap, rfl, -⟩ := M8.out.db.bga.ex
  have M9 := hide (M8.out.put1 (HNo.out _ _ _ _) 6 (.int .i64 (S.L.length : Int)))
  go_upto_region 18 with fail
  generalize World.setCell _ _ _ = ws1 at *
  clear k0 k1 k2 k3 k4 y0 y1 y2 y3 y4 y5 y6 y7 u0 u1 u2 v0 v1 v2 a1 a4
  clear M8
  have M8 := M9
  clear M9
  obtain ⟨k0, k1, k2, k3, k4⟩ := bx5 M8.out.b4
  obtain ⟨⟨y0, y1, y2, y3, y4, y5, y6⟩, y7⟩ := bxf7 M8.out.b0
  obtain ⟨u0, u1, u2, -⟩ := box3 M8.out.b1
  obtain ⟨v0, v1, v2, -⟩ := box3 M8.out.b2
  have a1 := M8.out.db.cell (j := 1) rfl
  have a4 := M8.out.db.cell (j := 4) rfl
  clear k0 k1 k2 k3 k4 y0 y1 y2 y3 y4 y5 y6 y7 u0 u1 u2 v0 v1 v2 a1 a4
  obtain ⟨y0, y1, y2, y3, y4, y5, y6⟩ := bx7 M8.out.b0
  obtain ⟨⟨x0, x1, x2, x3, x4, x5, x6⟩, x7⟩ := bxf7 M8.out.b3
  go_wp2
  obtain ⟨r1, r3⟩ := ax_end M8.out (g := w.heap.size + 1) (List.mem_cons_of_mem _ (List.mem_cons_of_mem _ (List.mem_cons_of_mem _ (List.mem_cons_self ..)))) rfl (.int .u32 t) (.int .i64 10) (.int .i64 0) (.int .u32 0) (.int .i64 0) (.int .i64 0) (.int .i64 (S.L.length : Int))
  exact bodyPost_ret (results_c1t1 rfl _ _ (w.heap.size + 1) _ rfl r1 rfl) rfl ⟨by rw [HNum.out]; rfl, r3.gr⟩
end
end Go.Proofs.YtjfhilignbeboaaGreatDoor
namespace Go.Proofs.YtjfhilignbeboaaGreatDoor
/- Decide and Answer, the document's, of any request. -/
open Go.RowKit
theorem rdecide_any {w : World} {lo d : Nat} {v : Value} {S : Sb} (h : Db w lo d v S) (ho : S.Ok) (room : Int) (q : Rs.Rq) (hq : q.Ok) : Calls Tryz.prog 15 #[.pointer (some ⟨d, 0, none⟩), .int .i64 room, Rs.rqV q] w fun e w' => e = .returned (dcV (dec S room q)) ∧ w.grownBy w' none := by
  by_cases hc : isChg q
  · obtain ⟨k, t, i, s, u⟩ := q
    obtain ⟨n, hn⟩ := Int.eq_ofNat_of_zero_le hq.i0
    obtain ⟨m, hm'⟩ := Int.eq_ofNat_of_zero_le (Rs.may_nums hc.1).2.2.1.1
    simp only at hn hm'
    subst hn
    subst hm'
    rcases chg_kinds hc with hk | hk | hk | hk | hk
    all_goals
      simp only at hk
      subst hk
    · exact rdecide_1 h ho room t n m u hq hc.1
    · exact rdecide_2 h ho room t n m u hq hc.1
    · exact rdecide_3 h ho room t n m u hq hc.1
    · exact rdecide_4 h ho room t n m u hq hc.1
    · exact rdecide_7 h ho room t n m u hq hc.1
  · rw [dec_no hc]
    by_cases hm : q.May
    · exact rdecide_kind h room q hq hm (by
        cases hx : Rs.chg q.k with
        | false => rfl
        | true => exact absurd ⟨hm, hx⟩ hc)
    · exact rdecide_may h room q hq hm
theorem ranswer_any {w : World} {lo d : Nat} {v : Value} {S : Sb} (h : Db w lo d v S) (ho : S.Ok) (q : Rs.Rq) (hq : q.Ok) : Calls Tryz.prog 17 #[.pointer (some ⟨d, 0, none⟩), Rs.rqV q] w fun e w' => e = .returned (anV (ans S q)) ∧ w.grownBy w' none := by
  by_cases hm : q.May
  · obtain ⟨k, t, i, s, u⟩ := q
    obtain ⟨n, hn⟩ := Int.eq_ofNat_of_zero_le hq.i0
    obtain ⟨m, hm'⟩ := Int.eq_ofNat_of_zero_le (Rs.may_nums hm).2.2.1.1
    simp only at hn hm'
    subst hn
    subst hm'
    by_cases h5 : k = 5
    · subst h5; exact ranswer_5 h ho t n m u hq hm
    · by_cases h6 : k = 6
      · subst h6; exact ranswer_6 h ho t n m u hq hm
      · by_cases h8 : k = 10
        · subst h8; exact ranswer_10 h ho t n m u hq hm
        · rw [ans_no (fun x => by have := x.2; simp only at this; omega)]; exact ranswer_kind h _ hq hm h5 h6 h8
  · rw [ans_no (fun x => hm x.1)]; exact ranswer_may h q hq hm
end Go.Proofs.YtjfhilignbeboaaGreatDoor
