/- Texts joined: BkW, Aw, LaF, Lr. -/
import Derived.Test.YtjfhilignbeboaaGreatDoorJrG
import Derived.Test.YtjfhilignbeboaaGreatDoorJrAm
import Derived.Test.YtjfhilignbeboaaGreatDoorJrAs
/- A book of bookings that may be: Of. -/
namespace Go.Proofs.YtjfhilignbeboaaGreatDoor
open Go.RowKit
attribute [local go_sem ↓] Go.wp_at_zero Go.wp_at_succ
attribute [local go_sem] Oper.semAt_some
theorem rd_mem {L : List Bg} {j : Nat} (hj : j < L.length) : rd L j ∈ L := by
  unfold rd; rw [List.getElem?_eq_getElem hj]; exact List.getElem_mem hj
theorem rd_asc {L : List Bg} (h : AscB L) {j k : Nat} (hjk : j < k) (hk : k < L.length) : (rd L j).i < (rd L k).i := by
  unfold rd
  rw [List.getElem?_eq_getElem hk, List.getElem?_eq_getElem (by omega)]
  exact List.pairwise_iff_getElem.1 h j k (by omega) hk hjk
set_option maxHeartbeats 4000000 in
theorem mayLast_ok {w : World} {p : Bp} {S : Sb} {K : Nat} (h : BkAt w p S K) {u : Int} (hu : u = 0 ∨ (S.t < u ∧ u ≤ mxC)) : Calls Tryz.prog 96 #[.pointer (some ⟨p.b, 0, none⟩), .int .i64 u] w fun e w' => e = .returned (.bool true) ∧ w' = w := by
  have c5 := h.cells 5 _ rfl
  clear h
  by_cases hz : u = 0
  · subst hz
    go_enter Tryz.func96, Tryz.ntmps96
    go_wp2
    go_ret
    exact ⟨rfl, rfl⟩
  · have h1 : S.t < u := by omega
    have h2 : u ≤ 1099511627776 := by rcases hu with e | e; exact absurd e hz; exact e.2
    have hz1 : (u == 0) = false := by simpa using hz
    have hz2 : decide (u = 0) = false := by simpa using hz
    clear hu
    go_enter Tryz.func96, Tryz.ntmps96
    go_wp2
    go_ret
    exact ⟨rfl, rfl⟩
set_option maxRecDepth 20000 in
set_option maxHeartbeats 8000000 in
theorem mayHave_ok {w : World} {p : Bp} {S : Sb} {K : Nat} (h : BkAt w p S K) (x : Bg) (hi : x.i < S.n) (hs : x.s < S.a) (hn : sat S.L x.s = none) (hf : S.L.length < S.b) (hu : x.u = 0 ∨ (S.t < x.u ∧ x.u ≤ mxC)) : Calls Tryz.prog 38 #[.pointer (some ⟨p.b, 0, none⟩), bgV x] w fun e w' => e = .returned (.bool true) ∧ w.grownBy w' none := by
  obtain ⟨xi, xs, xu⟩ := x
  simp only at hi hs hn hu
  have m0 := Bm.start h (bgc ⟨xi, xs, xu⟩) 51
  have HS : Hid (∀ W, Calls Tryz.prog 87 #[limV S.a S.b S.c, .int .i64 (xs : Int)] W fun e w' => e = .returned (.bool true) ∧ W.grownBy w' none) := by
    intro W
    have := hasSeat_any S.a S.b S.c (xs : Int) W
    rw [decide_eq_true (show (0 : Int) ≤ (xs : Int) ∧ (xs : Int) < (S.a : Int) by omega)] at this
    exact this
  have HR : Hid (∀ W, Calls Tryz.prog 95 #[limV S.a S.b S.c, .int .i64 (S.L.length : Int)] W fun e w' => e = .returned (.bool true) ∧ W.grownBy w' none) := by
    intro W
    have := hasRoom_any S.a S.b S.c (S.L.length : Int) W
    rw [decide_eq_true (show (S.L.length : Int) < (S.b : Int) by omega)] at this
    exact this
  have HH : Hid (∀ W, Bm w W w.heap.size (bgc ⟨xi, xs, xu⟩) 51 p S K → Calls Tryz.prog 88 #[.pointer (some ⟨p.tb, 0, none⟩), .int .i64 (xs : Int)] W fun e w' => e = .returned (.bool false) ∧ W.grownBy w' none) := by
    intro W hW
    have := hW.bk.has xs hs
    rw [hn] at this
    exact this
  have HL : Hid (∀ W, Bm w W w.heap.size (bgc ⟨xi, xs, xu⟩) 51 p S K → Calls Tryz.prog 70 #[.pointer (some ⟨p.ip.x, 0, none⟩)] W fun e w' => e = .returned (.int .i64 (S.L.length : Int)) ∧ w' = W) := fun W hW => hW.bk.len
  have HM : Hid (∀ W, Bm w W w.heap.size (bgc ⟨xi, xs, xu⟩) 51 p S K → Calls Tryz.prog 96 #[.pointer (some ⟨p.b, 0, none⟩), .int .i64 xu] W fun e w' => e = .returned (.bool true) ∧ w' = W) := fun W hW => mayLast_ok hW.bk hu
  have HK : Hid (∀ W, Bm w W w.heap.size (bgc ⟨xi, xs, xu⟩) 51 p S K → W.cell? ⟨p.b, 0, none⟩ = some (.int .i64 (S.a : Int)) ∧ W.cell? ⟨p.b, 1, none⟩ = some (.int .i64 (S.b : Int)) ∧ W.cell? ⟨p.b, 2, none⟩ = some (.int .i64 (S.c : Int)) ∧ W.cell? ⟨p.b, 4, none⟩ = some (.int .u32 (S.n : Int)) ∧ W.cell? ⟨p.b, 6, none⟩ = some (.pointer (some ⟨p.tb, 0, none⟩)) ∧ W.cell? ⟨p.b, 8, none⟩ = some (.pointer (some ⟨p.ip.x, 0, none⟩)) ∧ W.cell? ⟨w.heap.size, 0, none⟩ = some (.int .u32 (xi : Int)) ∧ W.cell? ⟨w.heap.size, 1, none⟩ = some (.int .i64 (xs : Int)) ∧ W.cell? ⟨w.heap.size, 2, none⟩ = some (.int .i64 xu)) := fun W m => ⟨m.ff.a0, m.ff.a1, m.ff.a2, m.ff.a4, m.ff.a6, m.ff.a8, m.ff.bx 0 _ rfl, m.ff.bx 1 _ rfl, m.ff.bx 2 _ rfl⟩
  unfold limV at HS HR
  unfold bgc at m0 HH HL HM HK
  have hK0 := HK.out _ m0
  have h1 : (xi : Int) < (S.n : Int) := by omega
  clear h hs hn hf hu hi
  unfold bgV
  go_enter Tryz.func38, Tryz.ntmps38
  go_wp2
  generalize World.alloc w _ = w0 at *
  go_region_held3 (fun W => W.cell? ⟨p.b, 0, none⟩ = some (.int .i64 (S.a : Int)) ∧ W.cell? ⟨p.b, 1, none⟩ = some (.int .i64 (S.b : Int)) ∧ W.cell? ⟨p.b, 2, none⟩ = some (.int .i64 (S.c : Int)) ∧ W.cell? ⟨p.b, 4, none⟩ = some (.int .u32 (S.n : Int)) ∧ W.cell? ⟨p.b, 6, none⟩ = some (.pointer (some ⟨p.tb, 0, none⟩)) ∧ W.cell? ⟨p.b, 8, none⟩ = some (.pointer (some ⟨p.ip.x, 0, none⟩)) ∧ W.cell? ⟨w.heap.size, 0, none⟩ = some (.int .u32 (xi : Int)) ∧ W.cell? ⟨w.heap.size, 1, none⟩ = some (.int .i64 (xs : Int)) ∧ W.cell? ⟨w.heap.size, 2, none⟩ = some (.int .i64 xu)) (first | assumption | exact hK0)
    ((first
      | (go_at_call 87; refine (HS.out _).mono ?_; rintro e w2 ⟨rfl, hg2⟩; have m2 := (Bm.then m0 (grown_drew _ none)).then hg2; have hK2 := HK.out _ m2)
      | (go_at_call 88; refine (HH.out _ m2).mono ?_; rintro e w3 ⟨rfl, hg3⟩; have m3 := Bm.then m2 hg3; have hK3 := HK.out _ m3)
      | (go_at_call 70; refine (HL.out _ m3).mono ?_; rintro e w4 ⟨rfl, rfl⟩)
      | (go_at_call 95; refine (HR.out _).mono ?_; rintro e w5 ⟨rfl, hg5⟩; have m5 := Bm.then m3 hg5; have hK5 := HK.out _ m5)
      | (go_at_call 96; refine (HM.out _ m5).mono ?_; rintro e w6 ⟨rfl, rfl⟩)))
  go_wp2
  go_ret
  exact ⟨rfl, m5.gr⟩
/-- Bookings ahead of one. -/
theorem take_ok {L : List Bg} (hA : AscB L) (hO : OneS L) {j : Nat} (hj : j < L.length) : (∀ y ∈ L.take j, y.i < (rd L j).i) ∧ sat (L.take j) (rd L j).s = none := by
  have h1 := pre_facts (L := L) (pre := L.take j) (x := rd L j) (by rw [take_rd hj]; exact List.take_prefix _ _) hA hO
  exact ⟨h1.2.1, h1.2.2.1⟩
theorem last_le {L : List Bg} (hA : AscB L) {j l : Nat} (hl : ∀ k, j ≤ k → k < L.length → l ≤ (rd L k).i) (hj : j < L.length) : l ≤ (rd L j).i ∧ ∀ k, j + 1 ≤ k → k < L.length → (rd L j).i + 1 ≤ (rd L k).i :=
  ⟨hl j (Nat.le_refl _) hj, fun k h1 h2 => rd_asc hA (by omega) h2⟩
set_option maxRecDepth 20000 in
set_option maxHeartbeats 8000000 in
theorem of_ok {w : World} {v : Value} {a b c n : Nat} {t : Int} {L : List Bg} (hS : Sb.Ok ⟨a, b, c, n, t, L⟩) (hv : BgA w v L) (hz : 0 < w.heap.size) : Calls Tryz.prog 11 #[limV a b c, .int .u32 (n : Int), .int .i64 t, v] w fun e w' => ∃ x p, e = .returned (.tuple #[.pointer (some ⟨x, 0, none⟩), .int .i64 0]) ∧ Lk w w' x ⟨a, b, c, n, t, L⟩ 4096 p [] := by
  have hok : Gx.OkS a b c := by have h1 := hS.a0; have h2 := hS.a1; have h3 := hS.b0; have h4 := hS.b1; have h5 := hS.c0; have h6 := hS.c1; simp only at h1 h2 h3 h4 h5 h6; unfold Gx.OkS; omega
  obtain ⟨vo, cap, rfl, hx⟩ := hv.ex
  have HC1 : Hid (∀ W : World, Calls Tryz.prog 36 #[.agg #[.int .i64 (a : Int), .int .i64 (b : Int), .int .i64 (c : Int)]] W fun e w' => e = .returned (.int .i64 0) ∧ W.grownBy w' none) := fun W => Ge.check_ok _ _ _ hok W
  have HC2 : Hid (∀ W : World, w.grownBy W none → Calls Tryz.prog 37 #[.agg #[.int .i64 (a : Int), .int .i64 (b : Int), .int .i64 (c : Int)], .int .u32 (n : Int), .int .i64 t] W fun e w' => ∃ x p, e = .returned (.pointer (some ⟨x, 0, none⟩)) ∧ Lk w w' x ⟨a, b, c, n, t, []⟩ 0 p []) := by
    intro W hW
    refine (empty_any a b c n t hok W (by have := hW.size; omega)).mono ?_
    rintro e w' ⟨p, rfl, h1, h2, h3⟩
    exact ⟨p.b, p, rfl, rfl, h1, grown_trans hW h2, fun i hi => Nat.le_trans hW.size (h3 i hi), fun x hx => by cases hx⟩
  have HV := hide hv
  have HO := hide hS
  have hn1 : (1 : Int) ≤ (n : Int) := by have := hS.n0; simp only at this; omega
  have ht0 : ¬ t < 0 := by have := hS.t0; simp only at this; omega
  have ht1 : ¬ (1099511627776 : Int) < t := by have := hS.t1; simp only [mxC] at this; omega
  have HMay : Hid (∀ W x p j, j < L.length → Lk w W x ⟨a, b, c, n, t, L.take j⟩ j p [] → Calls Tryz.prog 38 #[.pointer (some ⟨x, 0, none⟩), bgV (rd L j)] W fun e w' => e = .returned (.bool true) ∧ W.grownBy w' none) := by
    intro W x p j hj h
    have hm := rd_mem hj
    have := mayHave_ok h.bk (rd L j) (HO.out.id _ hm).2 (HO.out.st _ hm) (take_ok HO.out.asc HO.out.one hj).2 (by have h1 := HO.out.few; simp only [List.length_take] at h1 ⊢; omega) (HO.out.til _ hm)
    rw [h.eb] at this
    exact this
  have HAdd : Hid (∀ W x p j Bs, j < L.length → Lk w W x ⟨a, b, c, n, t, L.take j⟩ j p Bs → Calls Tryz.prog 39 #[.pointer (some ⟨x, 0, none⟩), bgV (rd L j)] W fun e w' => e = .returned (.tuple #[]) ∧ ∃ q, Lk w w' x ⟨a, b, c, n, t, L.take (j + 1)⟩ (j + 1) q Bs) := by
    intro W x p j Bs hj h
    have hm := rd_mem hj
    have hwk : Sb.Wk ⟨a, b, c, n, t, L.take j⟩ := HO.out.wk.sub (List.take_sublist _ _) HO.out.t0 HO.out.t1
    have hi := (HO.out.id _ hm).2
    have hn := HO.out.n1
    have hfw := HO.out.few
    have hb1 := HO.out.b1
    simp only at hi hn hfw hb1
    have := add_any h.bk hwk (by omega) (rd L j) (by omega) (HO.out.st _ hm) (take_ok HO.out.asc HO.out.one hj).1 (take_ok HO.out.asc HO.out.one hj).2 (by simp only [List.length_take]; omega)
    rw [h.eb] at this
    refine this.mono ?_
    rintro e w' ⟨rfl, q, h1, h2⟩
    simp only [take_rd hj] at h1
    exact ⟨rfl, q, h.step h2 h1⟩
  have hb0 := heap_alloc_new w (.cells [.int .i64 (a : Int), .int .i64 (b : Int), .int .i64 (c : Int)].toArray 36)
  have HB0 := hide hb0
  clear hS hok hx hv hz hb0
  unfold limV
  generalize hnn : L.length = m at *
  have HN := hide hnn
  have hm8 : m ≤ 4096 := by have h1 := HO.out.few; have h2 := HO.out.b1; simp only at h1 h2; omega
  clear hnn
  go_enter Tryz.func11, Tryz.ntmps11
  go_wp2_with fail
  refine (HC1.out _).mono ?_
  rintro e w1 ⟨rfl, hg1⟩
  have hg0 := grown_trans (grown_alloc w _) hg1
  obtain ⟨d0, d1, d2, -⟩ := box3 ((hg1.block _ (row_lt HB0.out) (by simp)).trans HB0.out)
  go_wp2_with fail
  refine (HC2.out _ hg0).mono ?_
  rintro e w2 ⟨x, p, rfl, hh⟩
  have H2 := hide hh
  clear hh d0 d1 d2 hg0 hg1 HC1 HC2 HB0
  go_wp2
  go_loopg [12, 36] m (fun k la i wr => ∃ j l : Nat, k + j = m ∧ i = .int .i64 j ∧ la = .int .u32 (l : Int) ∧ Hid (∀ k, j ≤ k → k < L.length → l ≤ (rd L k).i) ∧ ∃ q, Hid (Lk w wr x ⟨a, b, c, n, t, L.take j⟩ j q []))
  case atStart => exact ⟨0, 1, by omega, rfl, rfl, (fun k _ hk => (HO.out.id _ (rd_mem hk)).1), _, H2.out⟩
  case round =>
    clear H2
    obtain ⟨j, l, hkj, rfl, rfl, HL, q, HQ⟩ := hrel
    by_cases hk : 0 < gk
    · have hj : j < L.length := by rw [HN.out]; omega
      have h1 : (0 : Int) ≤ (j : Int) := by omega
      have h2 : (j : Int) < (m : Int) := by omega
      obtain ⟨ao', cap', he, hx⟩ := (HV.out.then HQ.out.gr).ex
      cases he
      obtain ⟨g, rfl, x0, x1, x2⟩ := hx j hj
      obtain ⟨hl1, hl2⟩ := last_le (L := L) HO.out.asc HL.out hj
      have HNx := hide hl2
      have HM' := hide (fun W h => HMay.out W x q j hj h)
      have HA' := hide (fun W Bs h => HAdd.out W x q j Bs hj h)
      have hid := (HO.out.id _ (rd_mem hj)).2
      have hn1' := HO.out.n1
      simp only at hid hn1'
      have hid2 : ((rd L j).i : Int) + 1 < 4294967296 := by omega
      have hl1' : ¬ ((rd L j).i : Int) < (l : Int) := by omega
      obtain ⟨xx, hxx⟩ : ∃ xx, rd L j = xx := ⟨_, rfl⟩
      rw [hxx] at x0 x1 x2 HNx HM' HA' hid2 hl1'
      obtain ⟨xi, xs, xu⟩ := xx
      simp only [bgV] at x0 x1 x2 HNx HM' HA' hid2 hl1'
      clear hx hxx hl1 hl2 hid hn1' hj HMay HAdd
      go_wp2_with fail
      have HB := hide (HQ.out.box [.int .u32 (xi : Int), .int .i64 (xs : Int), .int .i64 xu] 51)
      refine (HM'.out _ HB.out.bare).mono ?_
      rintro e w3 ⟨rfl, hg3⟩
      have h3 := HB.out.then hg3
      have y0 := h3.cell List.mem_cons_self 0 _ rfl
      have y1 := h3.cell List.mem_cons_self 1 _ rfl
      have y2 := h3.cell List.mem_cons_self 2 _ rfl
      have H3 := hide h3
      clear h3 hg3 HB x0 x1 x2 HM' HQ
      go_wp2_with fail
      refine (HA'.out _ _ H3.out).mono ?_
      rintro e w4 ⟨rfl, q4, h4⟩
      have z0 := h4.cell List.mem_cons_self 0 _ rfl
      have H4 := hide h4.bare
      clear h4 H3 y0 y1 y2 HA'
      go_wp2
      go_roundg (gk - 1)
      case measure => omega
      case rel => exact ⟨j + 1, xi + 1, by omega, by go_num, by go_num, HNx.out, _, H4.out⟩
    · have hj : j = m := by omega
      subst hj
      have HF := hide (HQ.out.more hm8)
      have HT : Hid (L.take j = L) := by rw [← HN.out]; exact List.take_length
      go_wp2
      go_ret2
      rw [HT.out] at HF
      exact ⟨_, _, rfl, HF.out⟩
end Go.Proofs.YtjfhilignbeboaaGreatDoor
namespace Go.Proofs.YtjfhilignbeboaaGreatDoor
/- awake: answers that are fixed. -/
open Go.RowKit
attribute [local go_sem ↓] Go.wp_at_zero Go.wp_at_succ
attribute [local go_sem] Oper.semAt_some
def aS : Sb := ⟨3, 2, 1, 2, 4, [⟨1, 0, 9⟩]⟩
theorem aS_ok : aS.Ok := by
  refine ⟨by decide, by decide, by decide, by decide, by decide, by decide, by decide, by decide, by decide, by decide, ?_, ?_, ?_, ?_, ?_, by decide⟩
  · exact List.pairwise_singleton _ _
  · intro x hx; rw [List.mem_singleton.1 hx]; decide
  · intro x hx; rw [List.mem_singleton.1 hx]; decide
  · exact List.pairwise_singleton _ _
  · intro x hx; rw [List.mem_singleton.1 hx]; exact .inr ⟨by decide, by decide⟩
theorem aw_dec : dec aS 37 ⟨1, 7, 0, 2, 5⟩ = ⟨⟨1, 2, 2, 9, 0⟩, ⟨7, 1, 0, 2, 0, 9, 0⟩, true, 0⟩ := by
  have h1 : isChg ⟨1, 7, 0, 2, 5⟩ := by decide
  have h2 : refE aS 37 ⟨1, 7, 0, 2, 5⟩ = 0 := by decide
  rw [dec_yes h1 h2]
  rfl
theorem aw_ans : ans aS ⟨6, 8, 0, 0, 0⟩ = (⟨8, 6, 0, 1, 0, 9, 0⟩, 0) := by
  have h1 : isAsk ⟨6, 8, 0, 0, 0⟩ := by decide
  unfold ans
  rw [if_pos h1]
  rfl
theorem q_ok {k t i s u : Int} (h : (-9223372036854775808 ≤ k ∧ k ≤ 9223372036854775807) ∧ (0 ≤ t ∧ t < 4294967296) ∧ (0 ≤ i ∧ i < 4294967296) ∧ (-9223372036854775808 ≤ s ∧ s ≤ 9223372036854775807) ∧ (-9223372036854775808 ≤ u ∧ u ≤ 9223372036854775807)) : Rs.Rq.Ok ⟨k, t, i, s, u⟩ := ⟨h.1.1, h.1.2, h.2.1.1, h.2.1.2, h.2.2.1.1, h.2.2.1.2, h.2.2.2.1.1, h.2.2.2.1.2, h.2.2.2.2.1, h.2.2.2.2.2⟩
/-- A book and boxes, as a law goes on. -/
theorem Lk.mt {w W W' : World} {b : Nat} {S : Sb} {K : Nat} {p : Bp} {Bs : List (Nat × List Value × TypeId)} (h : Lk w W b S K p Bs) (m : Mt W W' p S K []) : Lk w W' b S K p Bs := h.step (Bst.keep m.st) m.bk
theorem bga_one (w : World) : BgA (w.alloc (.cells [Value.int .u32 1, .int .i64 0, .int .i64 9].toArray 51)) (.slice (some ⟨w.heap.size, 0, none⟩) 1 1) [⟨1, 0, 9⟩] := by
  obtain ⟨a0, a1, a2, -⟩ := box3 (heap_alloc_new w (.cells [Value.int .u32 1, .int .i64 0, .int .i64 9].toArray 51))
  refine ⟨⟨some ⟨w.heap.size, 0, none⟩, 1, rfl, fun i hi => ?_⟩⟩
  have : i = 0 := by simp at hi; omega
  subst this
  exact ⟨w.heap.size, rfl, a0, a1, a2⟩
theorem Lk.decide {w W : World} {b : Nat} {S : Sb} {K : Nat} {p : Bp} {Bs : List (Nat × List Value × TypeId)} (h : Lk w W b S K p Bs) (ho : S.Ok) (hT : Rk.Tab w) (room : Int) (q : Rs.Rq) (hq : q.Ok) : Calls Tryz.prog 9 #[.pointer (some ⟨b, 0, none⟩), .int .i64 room, Rs.rqV q] W fun e w' => e = .returned (dcV (dec S room q)) ∧ Lk w w' b S K p Bs := by
  have := decide_any h.bk ho room q hq (hT.grown h.gr (by simp))
  rw [h.eb] at this
  exact this.mono (fun e w' x => ⟨x.1, h.mt x.2⟩)
theorem Lk.answer {w W : World} {b : Nat} {S : Sb} {K : Nat} {p : Bp} {Bs : List (Nat × List Value × TypeId)} (h : Lk w W b S K p Bs) (ho : S.Ok) (q : Rs.Rq) (hq : q.Ok) : Calls Tryz.prog 10 #[.pointer (some ⟨b, 0, none⟩), Rs.rqV q] W fun e w' => e = .returned (anV (ans S q)) ∧ Lk w w' b S K p Bs := by
  have := answer_any h.bk ho q hq
  rw [h.eb] at this
  exact this.mono (fun e w' x => ⟨x.1, h.mt x.2⟩)
theorem Lk.b0 {w W : World} {b : Nat} {S : Sb} {K : Nat} {p : Bp} {x : Nat × List Value × TypeId} {Bs : List (Nat × List Value × TypeId)} (h : Lk w W b S K p (x :: Bs)) : W.heap[x.1]? = some (.cells x.2.1.toArray x.2.2 (0, 0)) := (h.bx x (List.mem_cons_self ..)).1
theorem Lk.b1 {w W : World} {b : Nat} {S : Sb} {K : Nat} {p : Bp} {y x : Nat × List Value × TypeId} {Bs : List (Nat × List Value × TypeId)} (h : Lk w W b S K p (y :: x :: Bs)) : W.heap[x.1]? = some (.cells x.2.1.toArray x.2.2 (0, 0)) := (h.bx x (List.mem_cons_of_mem _ (List.mem_cons_self ..))).1
theorem Lk.b2 {w W : World} {b : Nat} {S : Sb} {K : Nat} {p : Bp} {z y x : Nat × List Value × TypeId} {Bs : List (Nat × List Value × TypeId)} (h : Lk w W b S K p (z :: y :: x :: Bs)) : W.heap[x.1]? = some (.cells x.2.1.toArray x.2.2 (0, 0)) := (h.bx x (List.mem_cons_of_mem _ (List.mem_cons_of_mem _ (List.mem_cons_self ..)))).1
theorem Lk.b3 {w W : World} {b : Nat} {S : Sb} {K : Nat} {p : Bp} {u z y x : Nat × List Value × TypeId} {Bs : List (Nat × List Value × TypeId)} (h : Lk w W b S K p (u :: z :: y :: x :: Bs)) : W.heap[x.1]? = some (.cells x.2.1.toArray x.2.2 (0, 0)) := (h.bx x (List.mem_cons_of_mem _ (List.mem_cons_of_mem _ (List.mem_cons_of_mem _ (List.mem_cons_self ..))))).1
theorem Lk.box2 {w W : World} {b : Nat} {S : Sb} {K : Nat} {p : Bp} {Bs : List (Nat × List Value × TypeId)} (h : Lk w W b S K p Bs) (cs ds : List Value) (s t : TypeId) : Lk w ((W.alloc (.cells cs.toArray s)).alloc (.cells ds.toArray t)) b S K p ((W.heap.size + 1, ds, t) :: (W.heap.size, cs, s) :: Bs) := by
  have m0 := (h.box cs s).box ds t
  rw [show (W.alloc (.cells cs.toArray s)).heap.size = W.heap.size + 1 from by show (W.heap.push _).size = _; simp] at m0
  exact m0
set_option maxRecDepth 20000 in
set_option maxHeartbeats 8000000 in
theorem awake_any (w : World) (hT : Rk.Tab w) : Calls Tryz.prog 12 #[] w fun e w' => e = .returned (.bool true) ∧ w.grownBy w' none := by
  have hz : 0 < w.heap.size := by
    have := hT 0 (by decide)
    cases hb : w.heap[0]? with
    | none => simp [World.cell?, hb] at this
    | some o => exact row_lt hb
  have g0 := grown_alloc w (.cells [Value.int .u32 1, .int .i64 0, .int .i64 9].toArray 51)
  have HOf := hide (of_ok (w := w.alloc (.cells [Value.int .u32 1, .int .i64 0, .int .i64 9].toArray 51)) (v := .slice (some ⟨w.heap.size, 0, none⟩) 1 1) (a := 3) (b := 2) (c := 1) (n := 2) (t := 4) (L := [⟨1, 0, 9⟩]) aS_ok (bga_one w) (Nat.lt_of_lt_of_le hz g0.size))
  have HT := hide hT
  have HG := hide g0
  clear hT hz g0
  unfold limV at HOf
  go_enter Tryz.func12, Tryz.ntmps12
  go_wp2_with fail
  refine HOf.out.mono ?_
  rintro e w1 ⟨b, p, rfl, hK⟩
  have HK1 : Hid (Lk w w1 b aS 4096 p []) := hK.base HG.out
  have HD : Hid (∀ W, Lk w W b aS 4096 p [] → Calls Tryz.prog 9 #[.pointer (some ⟨b, 0, none⟩), .int .i64 37, .agg #[.int .i64 1, .int .u32 7, .int .u32 0, .int .i64 2, .int .i64 5]] W fun e w' => e = .returned (.tuple #[.agg #[Value.int .i64 1, .int .u32 2, .int .i64 2, .int .i64 9, .int .i64 0], .agg #[Value.int .u32 7, .int .i64 1, .int .i64 0, .int .u32 2, .int .i64 0, .int .i64 9, .int .i64 0], .bool true, .int .i64 0]) ∧ Lk w w' b aS 4096 p []) := fun W h => by
    have := h.decide aS_ok HT.out 37 ⟨1, 7, 0, 2, 5⟩ (q_ok (by decide))
    rw [aw_dec] at this
    exact this
  have HA : Hid (∀ W Bs, Lk w W b aS 4096 p Bs → Calls Tryz.prog 10 #[.pointer (some ⟨b, 0, none⟩), .agg #[.int .i64 6, .int .u32 8, .int .u32 0, .int .i64 0, .int .i64 0]] W fun e w' => e = .returned (.tuple #[.agg #[Value.int .u32 8, .int .i64 6, .int .i64 0, .int .u32 1, .int .i64 0, .int .i64 9, .int .i64 0], .int .i64 0]) ∧ Lk w w' b aS 4096 p Bs) := fun W Bs h => by
    have := h.answer aS_ok ⟨6, 8, 0, 0, 0⟩ (q_ok (by decide))
    rw [aw_ans] at this
    exact this
  clear hK HOf HG HT
  go_wp2_with fail
  refine (HD.out _ HK1.out).mono ?_
  rintro e w2 ⟨rfl, hK2⟩
  have K2 := hide (hK2.box2 [Value.int .i64 1, .int .u32 2, .int .i64 2, .int .i64 9, .int .i64 0] [Value.int .u32 7, .int .i64 1, .int .i64 0, .int .u32 2, .int .i64 0, .int .i64 9, .int .i64 0] 28 31)
  clear hK2 HD HK1
  go_wp2_with fail
  generalize hX : w2.heap.size = X at *
  clear hX
  generalize World.alloc (World.alloc w2 _) _ = w3 at *
  refine (HA.out _ _ K2.out).mono ?_
  rintro e w4 ⟨rfl, hK4⟩
  have K4 := hide (hK4.box [Value.int .u32 8, .int .i64 6, .int .i64 0, .int .u32 1, .int .i64 0, .int .i64 9, .int .i64 0] 31)
  clear hK4 K2 HA
  obtain ⟨z0, z1, z2, z3, z4, z5, z6⟩ := bx7 K4.out.b0
  obtain ⟨y0, y1, y2, y3, y4, y5, y6⟩ := bx7 K4.out.b1
  obtain ⟨x0, x1, x2, x3, x4⟩ := bx5 K4.out.b2
  go_wp2
  go_ret
  exact ⟨rfl, K4.out.gr⟩
end Go.Proofs.YtjfhilignbeboaaGreatDoor
namespace Go.Proofs.YtjfhilignbeboaaGreatDoor
/- Arguments that are a request. -/
open Go.ChangeShapes Go.WideShapes Go.ChangeAt Go.RowKit Go.Deep
section
variable {H : Type} {enc : TypeId × Value → H}
theorem cellsOf22 : Tryz.prog.cellsOf 22 = 1 := by kernel_rfl
theorem cellsOf25 : Tryz.prog.cellsOf 25 = 5 := by kernel_rfl
set_option maxRecDepth 20000 in
theorem open_requestArg {w : World} {base : Nat} {spare : Nat → Bool} {held : Bool} {r : Reach} {b0 : Nat} {v : Value} {d : DataW H} {ps : List MemPlace} (hval : Value.okWide Tryz.prog w r b0 25 v) (hd : DataW.Trod enc Tryz.prog w base spare held 25 v d ps) :
    ∃ q : Rs.Rq, v = Rs.rqV q ∧ q.Ok := by
  obtain ⟨cs, rfl, _⟩ := okWide_struct Tryz.underlying25 hval
  obtain ⟨fuel, h⟩ := hd
  have h : DataW.trod enc Tryz.prog w base spare held fuel 25 cs.toList = some (d, ps) := h
  obtain ⟨xs, n, _, hx, hl, hsz, hf⟩ := DataW.trod_struct Tryz.underlying25 h
  rw [cellsOf25] at hl
  obtain ⟨v0, v1, v2, v3, v4, hc⟩ := listOf5 hl
  obtain ⟨y0, y1, y2, y3, y4, rfl⟩ := listOf5 (show xs.length = 5 from hsz)
  rw [hc] at hf
  have f0 : DataW.trod enc Tryz.prog w base spare held n 22 [v0] = some y0 := by simpa [cellsOf22] using hf 0 _ rfl
  have f1 : DataW.trod enc Tryz.prog w base spare held n 23 [v1] = some y1 := by simpa [cellsOf24] using hf 1 _ rfl
  have f2 : DataW.trod enc Tryz.prog w base spare held n 23 [v2] = some y2 := by simpa [cellsOf24] using hf 2 _ rfl
  have f3 : DataW.trod enc Tryz.prog w base spare held n 3 [v3] = some y3 := by simpa [cellsOf3] using hf 3 _ rfl
  have f4 : DataW.trod enc Tryz.prog w base spare held n 2 [v4] = some y4 := by simpa [cellsOf2] using hf 4 _ rfl
  obtain ⟨a, e0, rfl, wa⟩ := DataW.trod_int Tryz.underlying22 f0
  obtain ⟨b, e1, rfl, wb⟩ := DataW.trod_int Tryz.underlying23 f1
  obtain ⟨c, e2, rfl, wc⟩ := DataW.trod_int Tryz.underlying23 f2
  obtain ⟨e, e3, rfl, we⟩ := DataW.trod_int Tryz.underlying3 f3
  obtain ⟨f, e4, rfl, wf⟩ := DataW.trod_int Tryz.underlying2 f4
  simp only [List.cons.injEq, and_true] at e0 e1 e2 e3 e4
  have ba := bounds_i64 wa
  have bb := bounds_u32 wb
  have bc := bounds_u32 wc
  have be := bounds_i64 we
  have bf := bounds_i64 wf
  refine ⟨⟨a, b, c, e, f⟩, ?_, q_ok ⟨by omega, by omega, by omega, by omega, by omega⟩⟩
  rw [e0, e1, e2, e3, e4] at hc
  unfold Rs.rqV
  congr 1
  cases cs
  simpa using hc
end
end Go.Proofs.YtjfhilignbeboaaGreatDoor
namespace Go.Proofs.YtjfhilignbeboaaGreatDoor
/- The law CasesDecides. -/
open Go.RowKit
attribute [local go_sem ↓] Go.wp_at_zero Go.wp_at_succ
attribute [local go_sem] Oper.semAt_some
set_option maxHeartbeats 4000000 in
theorem replies_any (q : Rs.Rq) (r : Rc) (w : World) (hT : Rk.Tab w) : Calls Tryz.prog 6 #[Rs.rqV q, Rk.rcV r] w fun e w' => e = .returned (.bool true) ∧ w.grownBy w' none := by
  have HA := hide (fun W => reply_any q r W)
  have HB := hide (fun W => rreply_any q r W)
  have HW : Hid (∀ W, w.grownBy W none → Calls Tryz.prog 12 #[] W fun e w' => e = .returned (.bool true) ∧ W.grownBy w' none) := fun W g => awake_any W (hT.grown g (by simp))
  have g0 := hide (grown_alloc2 w (.cells (Rs.rqC q).toArray 25) (.cells [Value.int .i64 r.k, .int .u32 r.i, .int .i64 r.s, .int .i64 r.u, .int .i64 r.c].toArray 28))
  have b0 := hide (new2a w (.cells (Rs.rqC q).toArray 25) (.cells [Value.int .i64 r.k, .int .u32 r.i, .int .i64 r.s, .int .i64 r.u, .int .i64 r.c].toArray 28))
  have b1 := hide (new2 w (.cells (Rs.rqC q).toArray 25) (.cells [Value.int .i64 r.k, .int .u32 r.i, .int .i64 r.s, .int .i64 r.u, .int .i64 r.c].toArray 28))
  clear hT
  generalize rpY q r = Y at *
  obtain ⟨yt, yk, ye, yi, ys, yu, yc⟩ := Y
  unfold Rs.rqV at *
  unfold Rs.rqC at g0 b0 b1
  unfold Rk.rcV at *
  unfold Rt.ryV at *
  simp only at *
  go_enter Tryz.func6, Tryz.ntmps6
  go_wp2
  generalize World.alloc (World.alloc w _) _ = w1 at *
  have HS : Hid (∀ W, w1.grownBy W none → (W.cell? ⟨w.heap.size, 0, none⟩ = some (.int .i64 q.k) ∧ W.cell? ⟨w.heap.size, 1, none⟩ = some (.int .u32 q.t) ∧ W.cell? ⟨w.heap.size, 2, none⟩ = some (.int .u32 q.i) ∧ W.cell? ⟨w.heap.size, 3, none⟩ = some (.int .i64 q.s) ∧ W.cell? ⟨w.heap.size, 4, none⟩ = some (.int .i64 q.u) ∧ W.cell? ⟨w.heap.size + 1, 0, none⟩ = some (.int .i64 r.k) ∧ W.cell? ⟨w.heap.size + 1, 1, none⟩ = some (.int .u32 r.i) ∧ W.cell? ⟨w.heap.size + 1, 2, none⟩ = some (.int .i64 r.s) ∧ W.cell? ⟨w.heap.size + 1, 3, none⟩ = some (.int .i64 r.u) ∧ W.cell? ⟨w.heap.size + 1, 4, none⟩ = some (.int .i64 r.c))) := fun W gW => s10_of (box_to b0.out gW) (box_to b1.out gW)
  refine wp_region_held_drew (S := (fun W => (W.cell? ⟨w.heap.size, 0, none⟩ = some (.int .i64 q.k) ∧ W.cell? ⟨w.heap.size, 1, none⟩ = some (.int .u32 q.t) ∧ W.cell? ⟨w.heap.size, 2, none⟩ = some (.int .u32 q.i) ∧ W.cell? ⟨w.heap.size, 3, none⟩ = some (.int .i64 q.s) ∧ W.cell? ⟨w.heap.size, 4, none⟩ = some (.int .i64 q.u) ∧ W.cell? ⟨w.heap.size + 1, 0, none⟩ = some (.int .i64 r.k) ∧ W.cell? ⟨w.heap.size + 1, 1, none⟩ = some (.int .u32 r.i) ∧ W.cell? ⟨w.heap.size + 1, 2, none⟩ = some (.int .i64 r.s) ∧ W.cell? ⟨w.heap.size + 1, 3, none⟩ = some (.int .i64 r.u) ∧ W.cell? ⟨w.heap.size + 1, 4, none⟩ = some (.int .i64 r.c)))) (by kernel_rfl) ?_ (fun hHeld => ?_)
  · (exact HS.out _ (grown_drew _ none))
  refine wpAnyH_take (i := 0) (oi := { dst := some 5, op := Go.Op.load 25 (Go.Operand.tmp 2), type := 25, pos := "law.go:110", after := #[], guard := none }) (v := ?_) rfl (by kernel_rfl) (by kernel_rfl) (by kernel_rfl) (fun _ _ _ h => h) (Or.inl ⟨by rfl, ?_⟩) (by assumption) ?_
  rotate_left
  · (intro w hSw; (try dsimp only at hSw); (go_simp <;> with_reducible rfl))
  try simp only [Act.put, List.setIfInBounds_toArray, List.set_cons_zero, List.set_cons_succ]
  refine wpAnyH_take (i := 1) (oi := { dst := some 6, op := Go.Op.load 28 (Go.Operand.tmp 3), type := 28, pos := "law.go:110", after := #[], guard := none }) (v := ?_) rfl (by kernel_rfl) (by kernel_rfl) (by kernel_rfl) (fun _ _ _ h => h) (Or.inl ⟨by rfl, ?_⟩) (by assumption) ?_
  rotate_left
  · (intro w hSw; (try dsimp only at hSw); (go_simp <;> with_reducible rfl))
  try simp only [Act.put, List.setIfInBounds_toArray, List.set_cons_zero, List.set_cons_succ]
  refine wpAnyH_take (i := 3) (oi := { dst := some 8, op := Go.Op.load 25 (Go.Operand.tmp 2), type := 25, pos := "law.go:110", after := #[], guard := none }) (v := ?_) rfl (by kernel_rfl) (by kernel_rfl) (by kernel_rfl) (fun _ _ _ h => h) (Or.inl ⟨by rfl, ?_⟩) (by assumption) ?_
  rotate_left
  · (intro w hSw; (try dsimp only at hSw); (go_simp <;> with_reducible rfl))
  try simp only [Act.put, List.setIfInBounds_toArray, List.set_cons_zero, List.set_cons_succ]
  refine wpAnyH_take (i := 4) (oi := { dst := some 9, op := Go.Op.load 28 (Go.Operand.tmp 3), type := 28, pos := "law.go:110", after := #[], guard := none }) (v := ?_) rfl (by kernel_rfl) (by kernel_rfl) (by kernel_rfl) (fun _ _ _ h => h) (Or.inl ⟨by rfl, ?_⟩) (by assumption) ?_
  rotate_left
  · (intro w hSw; (try dsimp only at hSw); (go_simp <;> with_reducible rfl))
  try simp only [Act.put, List.setIfInBounds_toArray, List.set_cons_zero, List.set_cons_succ]
  refine wpAnyH_ready (rs := [2]) (by kernel_rfl) (by simp) ?_
  refine AllReadyH.cons (o := { dst := some 7, op := Go.Op.call { callee := Go.Callee.value (Go.Operand.func 19), args := #[Go.Operand.tmp 5, Go.Operand.tmp 6], argTypes := #[25, 28] }, type := 31, pos := "law.go:110", after := #[{ on := 0, ground := Go.Ground.data }, { on := 1, ground := Go.Ground.data }], guard := none }) rfl (fun K hK => ?_) ?_
  rotate_left
  · exact AllReadyH.nil
  go_simp
  refine (HA.out _).mono ?_; rintro e w2 ⟨rfl, hg2⟩; have G1 := hide (grown_trans (grown_drew w1 none) hg2); have hJ1 := HS.out _ G1.out; clear hg2
  go_wp2_with fail
  refine hK.out _ _ ?_ (fun hHeld => ?_)
  · ((try dsimp only); with_reducible assumption)
  clear hK K
  try simp only [Act.put, List.setIfInBounds_toArray, List.set_cons_zero, List.set_cons_succ]
  refine wpAnyH_ready (rs := [5]) (by kernel_rfl) (by simp) ?_
  refine AllReadyH.cons (o := { dst := some 10, op := Go.Op.call { callee := Go.Callee.value (Go.Operand.func 20), args := #[Go.Operand.tmp 8, Go.Operand.tmp 9], argTypes := #[25, 28] }, type := 31, pos := "law.go:110", after := #[{ on := 3, ground := Go.Ground.data }, { on := 4, ground := Go.Ground.data }, { on := 2, ground := Go.Ground.chain }], guard := none }) rfl (fun K hK => ?_) ?_
  rotate_left
  · exact AllReadyH.nil
  go_simp
  refine (HB.out _).mono ?_; rintro e w3 ⟨rfl, hg3⟩; have G2 := hide (grown_trans G1.out hg3); have hJ2 := HS.out _ G2.out; clear hg3
  go_wp2_with fail
  refine hK.out _ _ ?_ (fun hHeld => ?_)
  · ((try dsimp only); with_reducible assumption)
  clear hK K
  try simp only [Act.put, List.setIfInBounds_toArray, List.set_cons_zero, List.set_cons_succ]
  refine wpAnyH_take (i := 6) (oi := { dst := some 11, op := Go.Op.binOp Go.BinOp.eql 31 (Go.Operand.tmp 7) (Go.Operand.tmp 10) 31, type := 4, pos := "law.go:110", after := #[{ on := 2, ground := Go.Ground.data }, { on := 5, ground := Go.Ground.data }], guard := none }) (v := ?_) rfl (by kernel_rfl) (by kernel_rfl) (by kernel_rfl) (fun _ _ _ h => h) (Or.inl ⟨by rfl, ?_⟩) (by assumption) ?_
  rotate_left
  · (intro w hSw; (try dsimp only at hSw); (go_simp <;> with_reducible rfl))
  try simp only [Act.put, List.setIfInBounds_toArray, List.set_cons_zero, List.set_cons_succ]
  refine wpAnyH_take (i := 7) (oi := { dst := some 12, op := Go.Op.move (Go.Operand.tmp 11), type := 4, pos := "law.go:110", after := #[{ on := 6, ground := Go.Ground.data }, { on := 5, ground := Go.Ground.chain }], guard := none }) (v := ?_) rfl (by kernel_rfl) (by kernel_rfl) (by kernel_rfl) (fun _ _ _ h => h) (Or.inl ⟨by rfl, ?_⟩) (by assumption) ?_
  rotate_left
  · (intro w hSw; (try dsimp only at hSw); (go_simp <;> with_reducible rfl))
  try simp only [Act.put, List.setIfInBounds_toArray, List.set_cons_zero, List.set_cons_succ]
  refine wpAnyH_ready (rs := [8]) (by kernel_rfl) (by simp) ?_
  refine AllReadyH.cons (o := { dst := some 13, op := Go.Op.call { callee := Go.Callee.value (Go.Operand.func 12), args := #[], argTypes := #[] }, type := 4, pos := "law.go:110", after := #[{ on := 7, ground := Go.Ground.chain }, { on := 7, ground := Go.Ground.guard }], guard := some (7, true) }) rfl (fun K hK => ?_) ?_
  rotate_left
  · exact AllReadyH.nil
  go_simp
  refine (HW.out _ (grown_trans g0.out G2.out)).mono ?_; rintro e w4 ⟨rfl, hg4⟩; have G3 := hide (grown_trans G2.out hg4); have hJ3 := HS.out _ G3.out; clear hg4
  go_wp2_with fail
  refine hK.out _ _ ?_ (fun hHeld => ?_)
  · ((try dsimp only); with_reducible assumption)
  clear hK K
  try simp only [Act.put, List.setIfInBounds_toArray, List.set_cons_zero, List.set_cons_succ]
  refine wpAnyH_take (i := 9) (oi := { dst := some 14, op := Go.Op.pick (Go.Operand.tmp 12) (Go.Operand.tmp 13) (Go.Operand.const (Go.Value.bool false)), type := 4, pos := "law.go:110", after := #[{ on := 7, ground := Go.Ground.data }, { on := 8, ground := Go.Ground.data }], guard := none }) (v := ?_) rfl (by kernel_rfl) (by kernel_rfl) (by kernel_rfl) (fun _ _ _ h => h) (Or.inl ⟨by rfl, ?_⟩) (by assumption) ?_
  rotate_left
  · (intro w hSw; (try dsimp only at hSw); (go_simp <;> with_reducible rfl))
  try simp only [Act.put, List.setIfInBounds_toArray, List.set_cons_zero, List.set_cons_succ]
  refine wpAnyH_take (i := 10) (oi := { dst := some 4, op := Go.Op.assign (Go.Operand.tmp 14), type := 4, pos := "law.go:110", after := #[{ on := 9, ground := Go.Ground.data }, { on := 8, ground := Go.Ground.chain }, { on := 0, ground := Go.Ground.phase }, { on := 1, ground := Go.Ground.phase }, { on := 2, ground := Go.Ground.phase }, { on := 3, ground := Go.Ground.phase }, { on := 4, ground := Go.Ground.phase }, { on := 5, ground := Go.Ground.phase }, { on := 6, ground := Go.Ground.phase }, { on := 7, ground := Go.Ground.phase }, { on := 8, ground := Go.Ground.phase }, { on := 9, ground := Go.Ground.phase }], guard := none }) (v := ?_) rfl (by kernel_rfl) (by kernel_rfl) (by kernel_rfl) (fun _ _ _ h => h) (Or.inl ⟨by rfl, ?_⟩) (by assumption) ?_
  rotate_left
  · (intro w hSw; (try dsimp only at hSw); (go_simp <;> with_reducible rfl))
  try simp only [Act.put, List.setIfInBounds_toArray, List.set_cons_zero, List.set_cons_succ]
  refine wpAnyH_done (by kernel_rfl) ?_ _
  go_wp2
  go_ret
  exact ⟨rfl, grown_trans g0.out G3.out⟩
end Go.Proofs.YtjfhilignbeboaaGreatDoor
