/- Texts joined: BkW, Aw, LaF, RkRd, BkR, GeRf, Rp0, Rp3, Rp6, Db0. -/
import Derived.Test.YtjfhilignbeboaaGreatDoorJqAn
import Derived.Test.YtjfhilignbeboaaGreatDoorJqAi
import Derived.Laws.ResultCell
import Derived.Test.YtjfhilignbeboaaGreatDoorJqAa
import Derived.Test.YtjfhilignbeboaaGreatDoorJqAb
import Derived.RangeFuncWrites
import Derived.Test.YtjfhilignbeboaaGreatDoorJqAj
import Derived.Test.YtjfhilignbeboaaGreatDoorJqAc
import Derived.ProofKit
import Derived.OpenShut
import Derived.Deep.DeepHandedRow
import Derived.Lib.LaidTab
import Derived.ChangeOld
import Derived.SizedLaws
import Derived.Test.YtjfhilignbeboaaGreatDoorJqAk
/- A book of bookings that may be: Of. -/
namespace Go.Proofs.YtjfhilignbeboaaGreatDoor
open Go.RowKit
attribute [local go_sem ↓] Go.wp_at_zero Go.wp_at_succ
attribute [local go_sem] Oper.semAt_some
theorem rd_mem {L : List Bg} {j : Nat} (hj : j < L.length) : rd L j ∈ L := by
  unfold rd; rw [List.getElem?_eq_getElem hj]; exact List.getElem_mem hj
theorem rd_asc {L : List Bg} (h : AscB L) {j k : Nat} (hjk : j < k) (hk : k < L.length) : (rd L j).i < (rd L k).i := by
  unfold rd
  rw [List.getElem?_eq_getElem hk, List.getElem?_eq_getElem (by omega)]
  exact List.pairwise_iff_getElem.1 h j k (by omega) hk hjk
set_option maxHeartbeats 4000000 in
theorem mayLast_ok {w : World} {p : Bp} {S : Sb} {K : Nat} (h : BkAt w p S K) {u : Int} (hu : u = 0 ∨ (S.t < u ∧ u ≤ mxC)) : Calls Tryz.prog 96 #[.pointer (some ⟨p.b, 0, none⟩), .int .i64 u] w fun e w' => e = .returned (.bool true) ∧ w' = w := by
  have c5 := h.cells 5 _ rfl
  clear h
  by_cases hz : u = 0
  · subst hz
    go_enter Tryz.func96, Tryz.ntmps96
    go_wp2
    go_ret
    exact ⟨rfl, rfl⟩
  · have h1 : S.t < u := by omega
    have h2 : u ≤ 1099511627776 := by rcases hu with e | e; exact absurd e hz; exact e.2
    have hz1 : (u == 0) = false := by simpa using hz
    have hz2 : decide (u = 0) = false := by simpa using hz
    clear hu
    go_enter Tryz.func96, Tryz.ntmps96
    go_wp2
    go_ret
    exact ⟨rfl, rfl⟩
set_option maxRecDepth 20000 in
set_option maxHeartbeats 8000000 in
theorem mayHave_ok {w : World} {p : Bp} {S : Sb} {K : Nat} (h : BkAt w p S K) (x : Bg) (hi : x.i < S.n) (hs : x.s < S.a) (hn : sat S.L x.s = none) (hf : S.L.length < S.b) (hu : x.u = 0 ∨ (S.t < x.u ∧ x.u ≤ mxC)) : Calls Tryz.prog 38 #[.pointer (some ⟨p.b, 0, none⟩), bgV x] w fun e w' => e = .returned (.bool true) ∧ w.grownBy w' none := by
  obtain ⟨xi, xs, xu⟩ := x
  simp only at hi hs hn hu
  have m0 := Bm.start h (bgc ⟨xi, xs, xu⟩) 51
  have HS : Hid (∀ W, Calls Tryz.prog 87 #[limV S.a S.b S.c, .int .i64 (xs : Int)] W fun e w' => e = .returned (.bool true) ∧ W.grownBy w' none) := by
    intro W
    have := hasSeat_any S.a S.b S.c (xs : Int) W
    rw [decide_eq_true (show (0 : Int) ≤ (xs : Int) ∧ (xs : Int) < (S.a : Int) by omega)] at this
    exact this
  have HR : Hid (∀ W, Calls Tryz.prog 95 #[limV S.a S.b S.c, .int .i64 (S.L.length : Int)] W fun e w' => e = .returned (.bool true) ∧ W.grownBy w' none) := by
    intro W
    have := hasRoom_any S.a S.b S.c (S.L.length : Int) W
    rw [decide_eq_true (show (S.L.length : Int) < (S.b : Int) by omega)] at this
    exact this
  have HH : Hid (∀ W, Bm w W w.heap.size (bgc ⟨xi, xs, xu⟩) 51 p S K → Calls Tryz.prog 88 #[.pointer (some ⟨p.tb, 0, none⟩), .int .i64 (xs : Int)] W fun e w' => e = .returned (.bool false) ∧ W.grownBy w' none) := by
    intro W hW
    have := hW.bk.has xs hs
    rw [hn] at this
    exact this
  have HL : Hid (∀ W, Bm w W w.heap.size (bgc ⟨xi, xs, xu⟩) 51 p S K → Calls Tryz.prog 70 #[.pointer (some ⟨p.ip.x, 0, none⟩)] W fun e w' => e = .returned (.int .i64 (S.L.length : Int)) ∧ w' = W) := fun W hW => hW.bk.len
  have HM : Hid (∀ W, Bm w W w.heap.size (bgc ⟨xi, xs, xu⟩) 51 p S K → Calls Tryz.prog 96 #[.pointer (some ⟨p.b, 0, none⟩), .int .i64 xu] W fun e w' => e = .returned (.bool true) ∧ w' = W) := fun W hW => mayLast_ok hW.bk hu
  have HK : Hid (∀ W, Bm w W w.heap.size (bgc ⟨xi, xs, xu⟩) 51 p S K → W.cell? ⟨p.b, 0, none⟩ = some (.int .i64 (S.a : Int)) ∧ W.cell? ⟨p.b, 1, none⟩ = some (.int .i64 (S.b : Int)) ∧ W.cell? ⟨p.b, 2, none⟩ = some (.int .i64 (S.c : Int)) ∧ W.cell? ⟨p.b, 4, none⟩ = some (.int .u32 (S.n : Int)) ∧ W.cell? ⟨p.b, 6, none⟩ = some (.pointer (some ⟨p.tb, 0, none⟩)) ∧ W.cell? ⟨p.b, 8, none⟩ = some (.pointer (some ⟨p.ip.x, 0, none⟩)) ∧ W.cell? ⟨w.heap.size, 0, none⟩ = some (.int .u32 (xi : Int)) ∧ W.cell? ⟨w.heap.size, 1, none⟩ = some (.int .i64 (xs : Int)) ∧ W.cell? ⟨w.heap.size, 2, none⟩ = some (.int .i64 xu)) := fun W m => ⟨m.ff.a0, m.ff.a1, m.ff.a2, m.ff.a4, m.ff.a6, m.ff.a8, m.ff.bx 0 _ rfl, m.ff.bx 1 _ rfl, m.ff.bx 2 _ rfl⟩
  unfold limV at HS HR
  unfold bgc at m0 HH HL HM HK
  have hK0 := HK.out _ m0
  have h1 : (xi : Int) < (S.n : Int) := by omega
  clear h hs hn hf hu hi
  unfold bgV
  go_enter Tryz.func38, Tryz.ntmps38
  go_wp2
  generalize World.alloc w _ = w0 at *
  go_region_held3 (fun W => W.cell? ⟨p.b, 0, none⟩ = some (.int .i64 (S.a : Int)) ∧ W.cell? ⟨p.b, 1, none⟩ = some (.int .i64 (S.b : Int)) ∧ W.cell? ⟨p.b, 2, none⟩ = some (.int .i64 (S.c : Int)) ∧ W.cell? ⟨p.b, 4, none⟩ = some (.int .u32 (S.n : Int)) ∧ W.cell? ⟨p.b, 6, none⟩ = some (.pointer (some ⟨p.tb, 0, none⟩)) ∧ W.cell? ⟨p.b, 8, none⟩ = some (.pointer (some ⟨p.ip.x, 0, none⟩)) ∧ W.cell? ⟨w.heap.size, 0, none⟩ = some (.int .u32 (xi : Int)) ∧ W.cell? ⟨w.heap.size, 1, none⟩ = some (.int .i64 (xs : Int)) ∧ W.cell? ⟨w.heap.size, 2, none⟩ = some (.int .i64 xu)) (first | assumption | exact hK0)
    ((first
      | (go_at_call 87; refine (HS.out _).mono ?_; rintro e w2 ⟨rfl, hg2⟩; have m2 := (Bm.then m0 (grown_drew _ none)).then hg2; have hK2 := HK.out _ m2)
      | (go_at_call 88; refine (HH.out _ m2).mono ?_; rintro e w3 ⟨rfl, hg3⟩; have m3 := Bm.then m2 hg3; have hK3 := HK.out _ m3)
      | (go_at_call 70; refine (HL.out _ m3).mono ?_; rintro e w4 ⟨rfl, rfl⟩)
      | (go_at_call 95; refine (HR.out _).mono ?_; rintro e w5 ⟨rfl, hg5⟩; have m5 := Bm.then m3 hg5; have hK5 := HK.out _ m5)
      | (go_at_call 96; refine (HM.out _ m5).mono ?_; rintro e w6 ⟨rfl, rfl⟩)))
  go_wp2
  go_ret
  exact ⟨rfl, m5.gr⟩
/-- Bookings ahead of one. -/
theorem take_ok {L : List Bg} (hA : AscB L) (hO : OneS L) {j : Nat} (hj : j < L.length) : (∀ y ∈ L.take j, y.i < (rd L j).i) ∧ sat (L.take j) (rd L j).s = none := by
  have h1 := pre_facts (L := L) (pre := L.take j) (x := rd L j) (by rw [take_rd hj]; exact List.take_prefix _ _) hA hO
  exact ⟨h1.2.1, h1.2.2.1⟩
theorem last_le {L : List Bg} (hA : AscB L) {j l : Nat} (hl : ∀ k, j ≤ k → k < L.length → l ≤ (rd L k).i) (hj : j < L.length) : l ≤ (rd L j).i ∧ ∀ k, j + 1 ≤ k → k < L.length → (rd L j).i + 1 ≤ (rd L k).i :=
  ⟨hl j (Nat.le_refl _) hj, fun k h1 h2 => rd_asc hA (by omega) h2⟩
set_option maxRecDepth 20000 in
set_option maxHeartbeats 8000000 in
theorem of_ok {w : World} {v : Value} {a b c n : Nat} {t : Int} {L : List Bg} (hS : Sb.Ok ⟨a, b, c, n, t, L⟩) (hv : BgA w v L) (hz : 0 < w.heap.size) : Calls Tryz.prog 11 #[limV a b c, .int .u32 (n : Int), .int .i64 t, v] w fun e w' => ∃ x p, e = .returned (.tuple #[.pointer (some ⟨x, 0, none⟩), .int .i64 0]) ∧ Lk w w' x ⟨a, b, c, n, t, L⟩ 4096 p [] := by
  have hok : Gx.OkS a b c := by have h1 := hS.a0; have h2 := hS.a1; have h3 := hS.b0; have h4 := hS.b1; have h5 := hS.c0; have h6 := hS.c1; simp only at h1 h2 h3 h4 h5 h6; unfold Gx.OkS; omega
  obtain ⟨vo, cap, rfl, hx⟩ := hv.ex
  have HC1 : Hid (∀ W : World, Calls Tryz.prog 36 #[.agg #[.int .i64 (a : Int), .int .i64 (b : Int), .int .i64 (c : Int)]] W fun e w' => e = .returned (.int .i64 0) ∧ W.grownBy w' none) := fun W => Ge.check_ok _ _ _ hok W
  have HC2 : Hid (∀ W : World, w.grownBy W none → Calls Tryz.prog 37 #[.agg #[.int .i64 (a : Int), .int .i64 (b : Int), .int .i64 (c : Int)], .int .u32 (n : Int), .int .i64 t] W fun e w' => ∃ x p, e = .returned (.pointer (some ⟨x, 0, none⟩)) ∧ Lk w w' x ⟨a, b, c, n, t, []⟩ 0 p []) := by
    intro W hW
    refine (empty_any a b c n t hok W (by have := hW.size; omega)).mono ?_
    rintro e w' ⟨p, rfl, h1, h2, h3⟩
    exact ⟨p.b, p, rfl, rfl, h1, grown_trans hW h2, fun i hi => Nat.le_trans hW.size (h3 i hi), fun x hx => by cases hx⟩
  have HV := hide hv
  have HO := hide hS
  have hn1 : (1 : Int) ≤ (n : Int) := by have := hS.n0; simp only at this; omega
  have ht0 : ¬ t < 0 := by have := hS.t0; simp only at this; omega
  have ht1 : ¬ (1099511627776 : Int) < t := by have := hS.t1; simp only [mxC] at this; omega
  have HMay : Hid (∀ W x p j, j < L.length → Lk w W x ⟨a, b, c, n, t, L.take j⟩ j p [] → Calls Tryz.prog 38 #[.pointer (some ⟨x, 0, none⟩), bgV (rd L j)] W fun e w' => e = .returned (.bool true) ∧ W.grownBy w' none) := by
    intro W x p j hj h
    have hm := rd_mem hj
    have := mayHave_ok h.bk (rd L j) (HO.out.id _ hm).2 (HO.out.st _ hm) (take_ok HO.out.asc HO.out.one hj).2 (by have h1 := HO.out.few; simp only [List.length_take] at h1 ⊢; omega) (HO.out.til _ hm)
    rw [h.eb] at this
    exact this
  have HAdd : Hid (∀ W x p j Bs, j < L.length → Lk w W x ⟨a, b, c, n, t, L.take j⟩ j p Bs → Calls Tryz.prog 39 #[.pointer (some ⟨x, 0, none⟩), bgV (rd L j)] W fun e w' => e = .returned (.tuple #[]) ∧ ∃ q, Lk w w' x ⟨a, b, c, n, t, L.take (j + 1)⟩ (j + 1) q Bs) := by
    intro W x p j Bs hj h
    have hm := rd_mem hj
    have hwk : Sb.Wk ⟨a, b, c, n, t, L.take j⟩ := HO.out.wk.sub (List.take_sublist _ _) HO.out.t0 HO.out.t1
    have hi := (HO.out.id _ hm).2
    have hn := HO.out.n1
    have hfw := HO.out.few
    have hb1 := HO.out.b1
    simp only at hi hn hfw hb1
    have := add_any h.bk hwk (by omega) (rd L j) (by omega) (HO.out.st _ hm) (take_ok HO.out.asc HO.out.one hj).1 (take_ok HO.out.asc HO.out.one hj).2 (by simp only [List.length_take]; omega)
    rw [h.eb] at this
    refine this.mono ?_
    rintro e w' ⟨rfl, q, h1, h2⟩
    simp only [take_rd hj] at h1
    exact ⟨rfl, q, h.step h2 h1⟩
  have hb0 := heap_alloc_new w (.cells [.int .i64 (a : Int), .int .i64 (b : Int), .int .i64 (c : Int)].toArray 36)
  have HB0 := hide hb0
  clear hS hok hx hv hz hb0
  unfold limV
  generalize hnn : L.length = m at *
  have HN := hide hnn
  have hm8 : m ≤ 4096 := by have h1 := HO.out.few; have h2 := HO.out.b1; simp only at h1 h2; omega
  clear hnn
  go_enter Tryz.func11, Tryz.ntmps11
  go_wp2_with fail
  refine (HC1.out _).mono ?_
  rintro e w1 ⟨rfl, hg1⟩
  have hg0 := grown_trans (grown_alloc w _) hg1
  obtain ⟨d0, d1, d2, -⟩ := box3 ((hg1.block _ (row_lt HB0.out) (by simp)).trans HB0.out)
  go_wp2_with fail
  refine (HC2.out _ hg0).mono ?_
  rintro e w2 ⟨x, p, rfl, hh⟩
  have H2 := hide hh
  clear hh d0 d1 d2 hg0 hg1 HC1 HC2 HB0
  go_wp2
  go_loopg [12, 36] m (fun k la i wr => ∃ j l : Nat, k + j = m ∧ i = .int .i64 j ∧ la = .int .u32 (l : Int) ∧ Hid (∀ k, j ≤ k → k < L.length → l ≤ (rd L k).i) ∧ ∃ q, Hid (Lk w wr x ⟨a, b, c, n, t, L.take j⟩ j q []))
  case atStart => exact ⟨0, 1, by omega, rfl, rfl, (fun k _ hk => (HO.out.id _ (rd_mem hk)).1), _, H2.out⟩
  case round =>
    clear H2
    obtain ⟨j, l, hkj, rfl, rfl, HL, q, HQ⟩ := hrel
    by_cases hk : 0 < gk
    · have hj : j < L.length := by rw [HN.out]; omega
      have h1 : (0 : Int) ≤ (j : Int) := by omega
      have h2 : (j : Int) < (m : Int) := by omega
      obtain ⟨ao', cap', he, hx⟩ := (HV.out.then HQ.out.gr).ex
      cases he
      obtain ⟨g, rfl, x0, x1, x2⟩ := hx j hj
      obtain ⟨hl1, hl2⟩ := last_le (L := L) HO.out.asc HL.out hj
      have HNx := hide hl2
      have HM' := hide (fun W h => HMay.out W x q j hj h)
      have HA' := hide (fun W Bs h => HAdd.out W x q j Bs hj h)
      have hid := (HO.out.id _ (rd_mem hj)).2
      have hn1' := HO.out.n1
      simp only at hid hn1'
      have hid2 : ((rd L j).i : Int) + 1 < 4294967296 := by omega
      have hl1' : ¬ ((rd L j).i : Int) < (l : Int) := by omega
      obtain ⟨xx, hxx⟩ : ∃ xx, rd L j = xx := ⟨_, rfl⟩
      rw [hxx] at x0 x1 x2 HNx HM' HA' hid2 hl1'
      obtain ⟨xi, xs, xu⟩ := xx
      simp only [bgV] at x0 x1 x2 HNx HM' HA' hid2 hl1'
      clear hx hxx hl1 hl2 hid hn1' hj HMay HAdd
      go_wp2_with fail
      have HB := hide (HQ.out.box [.int .u32 (xi : Int), .int .i64 (xs : Int), .int .i64 xu] 51)
      refine (HM'.out _ HB.out.bare).mono ?_
      rintro e w3 ⟨rfl, hg3⟩
      have h3 := HB.out.then hg3
      have y0 := h3.cell List.mem_cons_self 0 _ rfl
      have y1 := h3.cell List.mem_cons_self 1 _ rfl
      have y2 := h3.cell List.mem_cons_self 2 _ rfl
      have H3 := hide h3
      clear h3 hg3 HB x0 x1 x2 HM' HQ
      go_wp2_with fail
      refine (HA'.out _ _ H3.out).mono ?_
      rintro e w4 ⟨rfl, q4, h4⟩
      have z0 := h4.cell List.mem_cons_self 0 _ rfl
      have H4 := hide h4.bare
      clear h4 H3 y0 y1 y2 HA'
      go_wp2
      go_roundg (gk - 1)
      case measure => omega
      case rel => exact ⟨j + 1, xi + 1, by omega, by go_num, by go_num, HNx.out, _, H4.out⟩
    · have hj : j = m := by omega
      subst hj
      have HF := hide (HQ.out.more hm8)
      have HT : Hid (L.take j = L) := by rw [← HN.out]; exact List.take_length
      go_wp2
      go_ret2
      rw [HT.out] at HF
      exact ⟨_, _, rfl, HF.out⟩
end Go.Proofs.YtjfhilignbeboaaGreatDoor
namespace Go.Proofs.YtjfhilignbeboaaGreatDoor
/- awake: answers that are fixed. -/
open Go.RowKit
attribute [local go_sem ↓] Go.wp_at_zero Go.wp_at_succ
attribute [local go_sem] Oper.semAt_some
def aS : Sb := ⟨3, 2, 1, 2, 4, [⟨1, 0, 9⟩]⟩
theorem aS_ok : aS.Ok := by
  refine ⟨by decide, by decide, by decide, by decide, by decide, by decide, by decide, by decide, by decide, by decide, ?_, ?_, ?_, ?_, ?_, by decide⟩
  · exact List.pairwise_singleton _ _
  · intro x hx; rw [List.mem_singleton.1 hx]; decide
  · intro x hx; rw [List.mem_singleton.1 hx]; decide
  · exact List.pairwise_singleton _ _
  · intro x hx; rw [List.mem_singleton.1 hx]; exact .inr ⟨by decide, by decide⟩
theorem aw_dec : dec aS 37 ⟨1, 7, 0, 2, 5⟩ = ⟨⟨1, 2, 2, 9, 0⟩, ⟨7, 1, 0, 2, 0, 9, 0⟩, true, 0⟩ := by
  have h1 : isChg ⟨1, 7, 0, 2, 5⟩ := by decide
  have h2 : refE aS 37 ⟨1, 7, 0, 2, 5⟩ = 0 := by decide
  rw [dec_yes h1 h2]
  rfl
theorem aw_ans : ans aS ⟨6, 8, 0, 0, 0⟩ = (⟨8, 6, 0, 1, 0, 9, 0⟩, 0) := by
  have h1 : isAsk ⟨6, 8, 0, 0, 0⟩ := by decide
  unfold ans
  rw [if_pos h1]
  rfl
theorem q_ok {k t i s u : Int} (h : (-9223372036854775808 ≤ k ∧ k ≤ 9223372036854775807) ∧ (0 ≤ t ∧ t < 4294967296) ∧ (0 ≤ i ∧ i < 4294967296) ∧ (-9223372036854775808 ≤ s ∧ s ≤ 9223372036854775807) ∧ (-9223372036854775808 ≤ u ∧ u ≤ 9223372036854775807)) : Rs.Rq.Ok ⟨k, t, i, s, u⟩ := ⟨h.1.1, h.1.2, h.2.1.1, h.2.1.2, h.2.2.1.1, h.2.2.1.2, h.2.2.2.1.1, h.2.2.2.1.2, h.2.2.2.2.1, h.2.2.2.2.2⟩
/-- A book and boxes, as a law goes on. -/
theorem Lk.mt {w W W' : World} {b : Nat} {S : Sb} {K : Nat} {p : Bp} {Bs : List (Nat × List Value × TypeId)} (h : Lk w W b S K p Bs) (m : Mt W W' p S K []) : Lk w W' b S K p Bs := h.step (Bst.keep m.st) m.bk
theorem bga_one (w : World) : BgA (w.alloc (.cells [Value.int .u32 1, .int .i64 0, .int .i64 9].toArray 51)) (.slice (some ⟨w.heap.size, 0, none⟩) 1 1) [⟨1, 0, 9⟩] := by
  obtain ⟨a0, a1, a2, -⟩ := box3 (heap_alloc_new w (.cells [Value.int .u32 1, .int .i64 0, .int .i64 9].toArray 51))
  refine ⟨⟨some ⟨w.heap.size, 0, none⟩, 1, rfl, fun i hi => ?_⟩⟩
  have : i = 0 := by simp at hi; omega
  subst this
  exact ⟨w.heap.size, rfl, a0, a1, a2⟩
theorem Lk.decide {w W : World} {b : Nat} {S : Sb} {K : Nat} {p : Bp} {Bs : List (Nat × List Value × TypeId)} (h : Lk w W b S K p Bs) (ho : S.Ok) (hT : Rk.Tab w) (room : Int) (q : Rs.Rq) (hq : q.Ok) : Calls Tryz.prog 9 #[.pointer (some ⟨b, 0, none⟩), .int .i64 room, Rs.rqV q] W fun e w' => e = .returned (dcV (dec S room q)) ∧ Lk w w' b S K p Bs := by
  have := decide_any h.bk ho room q hq (hT.grown h.gr (by simp))
  rw [h.eb] at this
  exact this.mono (fun e w' x => ⟨x.1, h.mt x.2⟩)
theorem Lk.answer {w W : World} {b : Nat} {S : Sb} {K : Nat} {p : Bp} {Bs : List (Nat × List Value × TypeId)} (h : Lk w W b S K p Bs) (ho : S.Ok) (q : Rs.Rq) (hq : q.Ok) : Calls Tryz.prog 10 #[.pointer (some ⟨b, 0, none⟩), Rs.rqV q] W fun e w' => e = .returned (anV (ans S q)) ∧ Lk w w' b S K p Bs := by
  have := answer_any h.bk ho q hq
  rw [h.eb] at this
  exact this.mono (fun e w' x => ⟨x.1, h.mt x.2⟩)
theorem Lk.b0 {w W : World} {b : Nat} {S : Sb} {K : Nat} {p : Bp} {x : Nat × List Value × TypeId} {Bs : List (Nat × List Value × TypeId)} (h : Lk w W b S K p (x :: Bs)) : W.heap[x.1]? = some (.cells x.2.1.toArray x.2.2 (0, 0)) := (h.bx x (List.mem_cons_self ..)).1
theorem Lk.b1 {w W : World} {b : Nat} {S : Sb} {K : Nat} {p : Bp} {y x : Nat × List Value × TypeId} {Bs : List (Nat × List Value × TypeId)} (h : Lk w W b S K p (y :: x :: Bs)) : W.heap[x.1]? = some (.cells x.2.1.toArray x.2.2 (0, 0)) := (h.bx x (List.mem_cons_of_mem _ (List.mem_cons_self ..))).1
theorem Lk.b2 {w W : World} {b : Nat} {S : Sb} {K : Nat} {p : Bp} {z y x : Nat × List Value × TypeId} {Bs : List (Nat × List Value × TypeId)} (h : Lk w W b S K p (z :: y :: x :: Bs)) : W.heap[x.1]? = some (.cells x.2.1.toArray x.2.2 (0, 0)) := (h.bx x (List.mem_cons_of_mem _ (List.mem_cons_of_mem _ (List.mem_cons_self ..)))).1
theorem Lk.b3 {w W : World} {b : Nat} {S : Sb} {K : Nat} {p : Bp} {u z y x : Nat × List Value × TypeId} {Bs : List (Nat × List Value × TypeId)} (h : Lk w W b S K p (u :: z :: y :: x :: Bs)) : W.heap[x.1]? = some (.cells x.2.1.toArray x.2.2 (0, 0)) := (h.bx x (List.mem_cons_of_mem _ (List.mem_cons_of_mem _ (List.mem_cons_of_mem _ (List.mem_cons_self ..))))).1
theorem Lk.box2 {w W : World} {b : Nat} {S : Sb} {K : Nat} {p : Bp} {Bs : List (Nat × List Value × TypeId)} (h : Lk w W b S K p Bs) (cs ds : List Value) (s t : TypeId) : Lk w ((W.alloc (.cells cs.toArray s)).alloc (.cells ds.toArray t)) b S K p ((W.heap.size + 1, ds, t) :: (W.heap.size, cs, s) :: Bs) := by
  have m0 := (h.box cs s).box ds t
  rw [show (W.alloc (.cells cs.toArray s)).heap.size = W.heap.size + 1 from by show (W.heap.push _).size = _; simp] at m0
  exact m0
set_option maxRecDepth 20000 in
set_option maxHeartbeats 8000000 in
theorem awake_any (w : World) (hT : Rk.Tab w) : Calls Tryz.prog 12 #[] w fun e w' => e = .returned (.bool true) ∧ w.grownBy w' none := by
  have hz : 0 < w.heap.size := by
    have := hT 0 (by decide)
    cases hb : w.heap[0]? with
    | none => simp [World.cell?, hb] at this
    | some o => exact row_lt hb
  have g0 := grown_alloc w (.cells [Value.int .u32 1, .int .i64 0, .int .i64 9].toArray 51)
  have HOf := hide (of_ok (w := w.alloc (.cells [Value.int .u32 1, .int .i64 0, .int .i64 9].toArray 51)) (v := .slice (some ⟨w.heap.size, 0, none⟩) 1 1) (a := 3) (b := 2) (c := 1) (n := 2) (t := 4) (L := [⟨1, 0, 9⟩]) aS_ok (bga_one w) (Nat.lt_of_lt_of_le hz g0.size))
  have HT := hide hT
  have HG := hide g0
  clear hT hz g0
  unfold limV at HOf
  go_enter Tryz.func12, Tryz.ntmps12
  go_wp2_with fail
  refine HOf.out.mono ?_
  rintro e w1 ⟨b, p, rfl, hK⟩
  have HK1 : Hid (Lk w w1 b aS 4096 p []) := hK.base HG.out
  have HD : Hid (∀ W, Lk w W b aS 4096 p [] → Calls Tryz.prog 9 #[.pointer (some ⟨b, 0, none⟩), .int .i64 37, .agg #[.int .i64 1, .int .u32 7, .int .u32 0, .int .i64 2, .int .i64 5]] W fun e w' => e = .returned (.tuple #[.agg #[Value.int .i64 1, .int .u32 2, .int .i64 2, .int .i64 9, .int .i64 0], .agg #[Value.int .u32 7, .int .i64 1, .int .i64 0, .int .u32 2, .int .i64 0, .int .i64 9, .int .i64 0], .bool true, .int .i64 0]) ∧ Lk w w' b aS 4096 p []) := fun W h => by
    have := h.decide aS_ok HT.out 37 ⟨1, 7, 0, 2, 5⟩ (q_ok (by decide))
    rw [aw_dec] at this
    exact this
  have HA : Hid (∀ W Bs, Lk w W b aS 4096 p Bs → Calls Tryz.prog 10 #[.pointer (some ⟨b, 0, none⟩), .agg #[.int .i64 6, .int .u32 8, .int .u32 0, .int .i64 0, .int .i64 0]] W fun e w' => e = .returned (.tuple #[.agg #[Value.int .u32 8, .int .i64 6, .int .i64 0, .int .u32 1, .int .i64 0, .int .i64 9, .int .i64 0], .int .i64 0]) ∧ Lk w w' b aS 4096 p Bs) := fun W Bs h => by
    have := h.answer aS_ok ⟨6, 8, 0, 0, 0⟩ (q_ok (by decide))
    rw [aw_ans] at this
    exact this
  clear hK HOf HG HT
  go_wp2_with fail
  refine (HD.out _ HK1.out).mono ?_
  rintro e w2 ⟨rfl, hK2⟩
  have K2 := hide (hK2.box2 [Value.int .i64 1, .int .u32 2, .int .i64 2, .int .i64 9, .int .i64 0] [Value.int .u32 7, .int .i64 1, .int .i64 0, .int .u32 2, .int .i64 0, .int .i64 9, .int .i64 0] 28 31)
  clear hK2 HD HK1
  go_wp2_with fail
  generalize hX : w2.heap.size = X at *
  clear hX
  generalize World.alloc (World.alloc w2 _) _ = w3 at *
  refine (HA.out _ _ K2.out).mono ?_
  rintro e w4 ⟨rfl, hK4⟩
  have K4 := hide (hK4.box [Value.int .u32 8, .int .i64 6, .int .i64 0, .int .u32 1, .int .i64 0, .int .i64 9, .int .i64 0] 31)
  clear hK4 K2 HA
  obtain ⟨z0, z1, z2, z3, z4, z5, z6⟩ := bx7 K4.out.b0
  obtain ⟨y0, y1, y2, y3, y4, y5, y6⟩ := bx7 K4.out.b1
  obtain ⟨x0, x1, x2, x3, x4⟩ := bx5 K4.out.b2
  go_wp2
  go_ret
  exact ⟨rfl, K4.out.gr⟩
end Go.Proofs.YtjfhilignbeboaaGreatDoor
namespace Go.Proofs.YtjfhilignbeboaaGreatDoor
/- Arguments that are a request. -/
open Go.ChangeShapes Go.WideShapes Go.ChangeAt Go.RowKit Go.Deep
section
variable {H : Type} {enc : TypeId × Value → H}
end
end Go.Proofs.YtjfhilignbeboaaGreatDoor
/- records: read. -/
namespace Go.Proofs.YtjfhilignbeboaaGreatDoor.Rk
open Go.RowKit
attribute [local go_sem ↓] Go.wp_at_zero Go.wp_at_succ
section
variable {w wr wr' : World} {r r' : Rc} {a b c d : Bool} {X Y : Nat} {R R' : List Int}
end
theorem set5 {w : World} {g : Nat} {t : TypeId} {x y z u v : Value} (h : w.heap[g]? = some (.cells [x, y, z, u, v].toArray t (0, 0))) (a b c d e : Value) :
    (((((w.setCell ⟨g, 0, none⟩ a).setCell ⟨g, 1, none⟩ b).setCell ⟨g, 2, none⟩ c).setCell ⟨g, 3, none⟩ d).setCell ⟨g, 4, none⟩ e).heap[g]? = some (.cells [a, b, c, d, e].toArray t (0, 0)) ∧ w.grownBy (((((w.setCell ⟨g, 0, none⟩ a).setCell ⟨g, 1, none⟩ b).setCell ⟨g, 2, none⟩ c).setCell ⟨g, 3, none⟩ d).setCell ⟨g, 4, none⟩ e) (some g) :=
  ⟨row_setCell (row_setCell (row_setCell (row_setCell (row_setCell h 0 a) 1 b) 2 c) 3 d) 4 e, grown_trans (grown_trans (grown_trans (grown_trans (grown_setCell w g 0 a) (grown_setCell _ g 1 b)) (grown_setCell _ g 2 c)) (grown_setCell _ g 3 d)) (grown_setCell _ g 4 e)⟩
end Go.Proofs.YtjfhilignbeboaaGreatDoor.Rk
/- Two books side by side; ticks, numbers alone. -/
namespace Go.Proofs.YtjfhilignbeboaaGreatDoor
open Go.RowKit
section
variable {w W W' : World} {b c : Nat} {S S' : Sb} {K K' : Nat} {p q q' : Bp} {Bs : List (Nat × List Value × TypeId)}
theorem Lk.same (h : Lk w W b S K p Bs) (hq : Lk w W c S K' q Bs) (hw : S.Wk) : Calls Tryz.prog 16 #[.pointer (some ⟨b, 0, none⟩), .pointer (some ⟨c, 0, none⟩)] W fun e w' => e = .returned (.bool true) ∧ W.grownBy w' none := by
  have := same_eq h.bk hq.bk hw
  rw [h.eb, hq.eb] at this
  exact this
end
end Go.Proofs.YtjfhilignbeboaaGreatDoor
/- The contracts of the document's functions: Check, Size, Image, hold. -/
namespace Go.Proofs.YtjfhilignbeboaaGreatDoor.Ge
open Go.RowKit
attribute [local go_sem ↓] Go.wp_at_zero Go.wp_at_succ

set_option maxHeartbeats 1000000 in
theorem rcheck_ok (a b c : Int) (h : Gx.OkS a b c) (w : World) : Calls Tryz.prog 100 #[shV a b c] w fun e w' => e = .returned (.int .i64 0) ∧ w.grownBy w' none := by
  have hG : ∀ o, w.grownBy (w.alloc o) none := fun o => grown_alloc w o
  obtain ⟨h1, h2, h3, h4, h5, h6⟩ := h
  unfold shV
  go_enter Tryz.func100, Tryz.ntmps100
  go_wp2
  go_ret
  exact ⟨rfl, hG _⟩

end Go.Proofs.YtjfhilignbeboaaGreatDoor.Ge
namespace Go.Proofs.YtjfhilignbeboaaGreatDoor
/-- What the first k records make of it. -/
def fo (S : Sb) (l : List Rc) (k : Nat) : Sb := (l.take k).foldl app S
theorem fo_succ {S : Sb} {l : List Rc} {k : Nat} {r : Rc} (h : l[k]? = some r) : fo S l (k + 1) = app (fo S l k) r := by
  unfold fo
  rw [List.take_add_one, h]
  simp
theorem fo_ok {S : Sb} (h : S.Ok) (l : List Rc) (k : Nat) : (fo S l k).Ok := by
  unfold fo
  generalize l.take k = m
  induction m generalizing S with
  | nil => exact h
  | cons r m ih => exact ih (h.app r)
theorem app_abc (S : Sb) (r : Rc) : (app S r).a = S.a ∧ (app S r).b = S.b ∧ (app S r).c = S.c := by
  unfold app
  split
  · unfold appS
    repeat' split
    all_goals exact ⟨rfl, rfl, rfl⟩
  · exact ⟨rfl, rfl, rfl⟩
theorem fo_abc (S : Sb) (l : List Rc) (k : Nat) : (fo S l k).a = S.a ∧ (fo S l k).b = S.b ∧ (fo S l k).c = S.c := by
  unfold fo
  generalize l.take k = m
  induction m generalizing S with
  | nil => exact ⟨rfl, rfl, rfl⟩
  | cons r m ih =>
    obtain ⟨h1, h2, h3⟩ := ih (app S r)
    obtain ⟨k1, k2, k3⟩ := app_abc S r
    exact ⟨h1.trans k1, h2.trans k2, h3.trans k3⟩
/-- The first n of them can be applied, one behind the other; e: what the next one is told, 0 where there is none. -/
structure Ran (S : Sb) (l : List Rc) (n : Nat) (e : Int) : Prop where
  le : n ≤ l.length
  ok : ∀ k r, l[k]? = some r → k < n → appE (fo S l k) r = 0
  no : ∀ r, l[n]? = some r → appE (fo S l n) r = e ∧ e ≠ 0
  all : n = l.length → e = 0
theorem Ran.zero {S : Sb} {l : List Rc} {n : Nat} {e : Int} (h : Ran S l n e) : e = 0 ↔ n = l.length := by
  refine ⟨fun he => ?_, h.all⟩
  apply Classical.byContradiction
  intro hn
  have := h.le
  obtain ⟨r, hr⟩ : ∃ r, l[n]? = some r := ⟨l[n]'(by omega), List.getElem?_eq_getElem (by omega)⟩
  exact (h.no r hr).2 he
theorem fo_drop {S : Sb} {l : List Rc} {m k : Nat} : fo (fo S l m) (l.drop m) k = fo S l (m + k) := by
  unfold fo
  rw [List.take_add, List.foldl_append]
/-- What is left of it. -/
theorem Ran.drop {S : Sb} {l : List Rc} {n : Nat} {e : Int} (h : Ran S l n e) (m : Nat) (hm : m ≤ n) : Ran (fo S l m) (l.drop m) (n - m) e := by
  have hle := h.le
  refine ⟨by simp; omega, fun k r hk hlt => ?_, fun r hr => ?_, fun hn => h.all (by simp at hn; omega)⟩
  · rw [fo_drop]
    rw [List.getElem?_drop] at hk
    exact h.ok (m + k) r hk (by omega)
  · rw [fo_drop, show m + (n - m) = n by omega]
    rw [List.getElem?_drop, show m + (n - m) = n by omega] at hr
    exact h.no r hr
/-- A change by plain numbers. -/
structure Cg where
  k : Int
  i : Int
  s : Int
  t : Int
/-- The record of it. -/
def cgR (c : Cg) (n : Nat) (t : Int) : Rc :=
  if c.k % 5 = 0 then ⟨1, (n : Int), c.s % 13, t + 1 + c.t % 7, 0⟩
  else if c.k % 5 = 3 then ⟨4, 1 + c.i % (n : Int), c.s % 13, 0, 0⟩
  else if c.k % 5 = 4 then ⟨5, 0, 0, 0, t + 1 + c.t % 7⟩
  else ⟨1 + c.k % 5, 1 + c.i % (n : Int), 0, 0, 0⟩
theorem cgR_may {c : Cg} {n : Nat} {t : Int} (hn : 1 ≤ n) (h0 : 0 ≤ t) (h1 : t + 8 ≤ mxC) : (cgR c n t).May := by
  have a1 := Int.emod_nonneg c.k (b := 5) (by decide)
  have a2 := Int.emod_lt_of_pos c.k (b := 5) (by decide)
  have b1 := Int.emod_nonneg c.s (b := 13) (by decide)
  have b2 := Int.emod_lt_of_pos c.s (b := 13) (by decide)
  have d1 := Int.emod_nonneg c.t (b := 7) (by decide)
  have d2 := Int.emod_lt_of_pos c.t (b := 7) (by decide)
  have e1 := Int.emod_nonneg c.i (b := (n : Int)) (by omega)
  have e2 := Int.emod_lt_of_pos c.i (b := (n : Int)) (by omega)
  unfold cgR
  generalize c.i % (n : Int) = ii at *
  generalize c.k % 5 = kk at *
  generalize c.s % 13 = ss at *
  generalize c.t % 7 = tt at *
  by_cases k0 : kk = 0
  · rw [if_pos k0]; exact .inl ⟨rfl, by simp only; omega, ⟨by simp only; omega, by simp only; omega⟩, ⟨by simp only; omega, by simp only; omega⟩, rfl⟩
  · rw [if_neg k0]
    by_cases k3 : kk = 3
    · rw [if_pos k3]; exact .inr (.inr (.inl ⟨rfl, by simp only; omega, ⟨by simp only; omega, by simp only; omega⟩, rfl, rfl⟩))
    · rw [if_neg k3]
      by_cases k4 : kk = 4
      · rw [if_pos k4]; exact .inr (.inr (.inr ⟨rfl, rfl, rfl, rfl, ⟨by simp only; omega, by simp only; omega⟩⟩))
      · rw [if_neg k4]; exact .inr (.inl ⟨by simp only; omega, by simp only; omega, rfl, rfl, rfl⟩)
theorem cgR_ok {c : Cg} {n : Nat} {t : Int} (hn : 1 ≤ n) (hn1 : n < 4294967296) (h0 : 0 ≤ t) (h1 : t ≤ mxC) : (cgR c n t).Ok := by
  have a1 := Int.emod_nonneg c.k (b := 5) (by decide)
  have a2 := Int.emod_lt_of_pos c.k (b := 5) (by decide)
  have b1 := Int.emod_nonneg c.s (b := 13) (by decide)
  have b2 := Int.emod_lt_of_pos c.s (b := 13) (by decide)
  have d1 := Int.emod_nonneg c.t (b := 7) (by decide)
  have d2 := Int.emod_lt_of_pos c.t (b := 7) (by decide)
  have e1 := Int.emod_nonneg c.i (b := (n : Int)) (by omega)
  have e2 := Int.emod_lt_of_pos c.i (b := (n : Int)) (by omega)
  unfold mxC at h1
  unfold cgR
  generalize c.i % (n : Int) = ii at *
  generalize c.k % 5 = kk at *
  generalize c.s % 13 = ss at *
  generalize c.t % 7 = tt at *
  by_cases k0 : kk = 0
  · rw [if_pos k0]; constructor <;> simp only <;> omega
  · rw [if_neg k0]
    by_cases k3 : kk = 3
    · rw [if_pos k3]; constructor <;> simp only <;> omega
    · rw [if_neg k3]
      by_cases k4 : kk = 4
      · rw [if_pos k4]; constructor <;> simp only <;> omega
      · rw [if_neg k4]; constructor <;> simp only <;> omega
/-- The records of changes; all: also those that are refused. -/
def hist (all : Bool) : Sb → List Cg → List Rc
  | _, [] => []
  | S, c :: l => if appE S (cgR c S.n S.t) = 0 ∨ all = true then cgR c S.n S.t :: hist all (app S (cgR c S.n S.t)) l else hist all (app S (cgR c S.n S.t)) l
/-- The book behind k changes. -/
def hS (S : Sb) (l : List Cg) (k : Nat) : Sb := (l.take k).foldl (fun S c => app S (cgR c S.n S.t)) S
theorem hS_succ {S : Sb} {l : List Cg} {k : Nat} {c : Cg} (h : l[k]? = some c) : hS S l (k + 1) = app (hS S l k) (cgR c (hS S l k).n (hS S l k).t) := by
  unfold hS
  rw [List.take_add_one, h]
  simp
theorem hS_ok {S : Sb} (h : S.Ok) (l : List Cg) (k : Nat) : (hS S l k).Ok := by
  unfold hS
  generalize l.take k = m
  induction m generalizing S with
  | nil => exact h
  | cons r m ih => exact ih (h.app _)
theorem app_t {S : Sb} {c : Cg} (h0 : 0 ≤ S.t) : (app S (cgR c S.n S.t)).t ≤ S.t + 7 := by
  have d1 := Int.emod_nonneg c.t (b := 7) (by decide)
  have d2 := Int.emod_lt_of_pos c.t (b := 7) (by decide)
  unfold app
  split
  · have hc : (cgR c S.n S.t).c ≤ S.t + 7 := by
      unfold cgR
      repeat' split
      all_goals simp only
      all_goals omega
    unfold appS
    repeat' split
    all_goals first | exact hc | (simp only; omega)
  · omega
theorem hist_snoc (all : Bool) (S : Sb) (l : List Cg) (c : Cg) : hist all S (l ++ [c]) = hist all S l ++ (if appE (hS S l l.length) (cgR c (hS S l l.length).n (hS S l l.length).t) = 0 ∨ all = true then [cgR c (hS S l l.length).n (hS S l l.length).t] else []) := by
  induction l generalizing S with
  | nil => simp [hist, hS]
  | cons d l ih =>
    have := ih (app S (cgR d S.n S.t))
    simp only [List.cons_append, hist, List.length_cons]
    rw [this]
    have e : hS S (d :: l) (l.length + 1) = hS (app S (cgR d S.n S.t)) l l.length := by simp [hS]
    rw [e]
    split <;> simp
theorem hist_take {all : Bool} {S : Sb} {l : List Cg} {k : Nat} {c : Cg} (h : l[k]? = some c) : hist all S (l.take (k + 1)) = hist all S (l.take k) ++ (if appE (hS S l k) (cgR c (hS S l k).n (hS S l k).t) = 0 ∨ all = true then [cgR c (hS S l k).n (hS S l k).t] else []) := by
  have hk := (List.getElem?_eq_some_iff.1 h).1
  rw [List.take_add_one, h, Option.toList_some, hist_snoc]
  have e : hS S (l.take k) (l.take k).length = hS S l k := by unfold hS; rw [List.take_length]
  rw [e]
theorem hist_le (all : Bool) (S : Sb) (l : List Cg) : (hist all S l).length ≤ l.length := by
  induction l generalizing S with
  | nil => simp [hist]
  | cons d l ih =>
    have := ih (app S (cgR d S.n S.t))
    simp only [hist]
    split <;> simp <;> omega
theorem hist_mem {all : Bool} {S : Sb} (ho : S.Ok) {l : List Cg} (hl : S.t + 7 * l.length + 8 ≤ mxC) : ∀ r ∈ hist all S l, r.May ∧ r.Ok := by
  induction l generalizing S with
  | nil => intro r hr; simp [hist] at hr
  | cons d l ih =>
    have ht := app_t (S := S) (c := d) ho.t0
    have hlen : ((d :: l).length : Int) = (l.length : Int) + 1 := by simp
    have h2 := ih (S := app S (cgR d S.n S.t)) (ho.app _) (by rw [hlen] at hl; omega)
    have h3 : (cgR d S.n S.t).May ∧ (cgR d S.n S.t).Ok := ⟨cgR_may ho.n0 ho.t0 (by rw [hlen] at hl; omega), cgR_ok ho.n0 ho.n1 ho.t0 ho.t1⟩
    intro r hr
    simp only [hist] at hr
    split at hr
    · rcases List.mem_cons.1 hr with rfl | hr
      · exact h3
      · exact h2 r hr
    · exact h2 r hr
section
variable {S : Sb} {l : List Rc} {n j : Nat} {e : Int} {r : Rc}
theorem Ran.step (h : Ran S l n e) (hj : j ≤ n) (hr : l[j]? = some r) (h0 : appE (fo S l j) r = 0) : j + 1 ≤ n := by
  apply Classical.byContradiction
  intro hn
  obtain rfl : j = n := by omega
  have h1 := h.no r hr
  rw [h0] at h1
  exact h1.2 h1.1.symm
end
end Go.Proofs.YtjfhilignbeboaaGreatDoor
namespace Go.Proofs.YtjfhilignbeboaaGreatDoor
/- Rows of records; their clone; States. -/
open Go.RowKit Go.Shelf
attribute [local go_sem ↓] Go.wp_at_zero Go.wp_at_succ
attribute [local go_sem] Oper.semAt_some
theorem info47 : (Tryz.prog.info? 28).map (fun i => (i.zero, i.size, i.bytes)) = some (some (.agg #[.int .i64 0, .int .u32 0, .int .i64 0, .int .i64 0, .int .i64 0]), 5, 40) := by kernel_rfl
def rcc (r : Rc) : List Value := [.int .i64 r.k, .int .u32 r.i, .int .i64 r.s, .int .i64 r.u, .int .i64 r.c]
def rcs (l : List Rc) : List Value := l.flatMap rcc
theorem rcc_length (r : Rc) : (rcc r).length = 5 := rfl
theorem rcs_cons (r : Rc) (l : List Rc) : rcs (r :: l) = rcc r ++ rcs l := by simp [rcs]
theorem rcs_append (l m : List Rc) : rcs (l ++ m) = rcs l ++ rcs m := by simp [rcs]
theorem rcs_snoc (l : List Rc) (r : Rc) : rcs (l ++ [r]) = rcs l ++ rcc r := by rw [rcs_append]; simp [rcs]
theorem rcs_at {l : List Rc} {i : Nat} {r : Rc} (h : l[i]? = some r) {o : Nat} (ho : o < 5) : (rcs l)[i * 5 + o]? = (rcc r)[o]? := by
  induction l generalizing i with
  | nil => simp at h
  | cons q l ih =>
    rw [rcs_cons]
    cases i with
    | zero =>
      simp at h
      subst h
      rw [List.getElem?_append_left (by rw [rcc_length]; omega)]
      simp
    | succ i =>
      rw [List.getElem?_append_right (by rw [rcc_length]; omega), rcc_length, show (i + 1) * 5 + o - 5 = i * 5 + o by omega]
      exact ih (by simpa using h)
/-- A row of one's own, as records that lie somewhere. -/
theorem recs_own {w : World} {B0 : Nat} {so : Option Addr} {cap : Nat} {l : List Rc} (h : w.ownsRow B0 28 5 (.slice so l.length cap) l.length (rcs l)) : RecsAt w so l ∧ ∀ a, l.length ≠ 0 → so = some a → B0 ≤ a.block := by
  refine ⟨fun j r hj => ?_, fun a hn ha => ?_⟩
  · have hl := (List.getElem?_eq_some_iff.1 hj).1
    obtain ⟨g, c, cur, e1, e2, e3, e4, e5, e6, e7⟩ := Ix.own_row h (by omega)
    cases e1
    have key : ∀ o u, o < 5 → (rcc r)[o]? = some u → w.cell? ⟨g, 0 + j * 5 + o, none⟩ = some u := fun o u ho hu => by
      rw [Nat.zero_add]
      exact Ix.own_cell e3 e7 ((rcs_at hj ho).trans hu)
    exact ⟨g, 0, rfl, key 0 _ (by decide) rfl, key 1 _ (by decide) rfl, key 2 _ (by decide) rfl, key 3 _ (by decide) rfl, key 4 _ (by decide) rfl⟩
  · obtain ⟨g, c, cur, e1, e2, -⟩ := Ix.own_row h (by omega)
    cases e1
    cases ha
    exact e2
theorem RecsAt.nil (w : World) (ao : Option Addr) : RecsAt w ao [] := fun j r h => by simp at h
end Go.Proofs.YtjfhilignbeboaaGreatDoor
namespace Go.Proofs.YtjfhilignbeboaaGreatDoor
/- Books that aren't there; shapes that may not be. -/
open Go.RowKit Go.Shelf
attribute [local go_sem ↓] Go.wp_at_zero Go.wp_at_succ
attribute [local go_sem] Oper.semAt_some
/-- No book, whatever is made behind. -/
def NoB (w : World) (v : Value) : Prop := ∀ W, w.grownBy W none → Calls Tryz.prog 45 #[v] W fun e w' => e = .returned (.bool true) ∧ w' = W
theorem NoB.then {w w' : World} {v : Value} (h : NoB w v) (g : w.grownBy w' none) : NoB w' v := fun W k => h W (grown_trans g k)
section
variable {w : World} {v : Value}
end

end Go.Proofs.YtjfhilignbeboaaGreatDoor
namespace Go.Proofs.YtjfhilignbeboaaGreatDoor
/- The document's book in memory; what lies where in a list of bookings. -/
open Go.RowKit
attribute [local go_sem ↓] Go.wp_at_zero Go.wp_at_succ
attribute [local go_sem] Oper.semAt_some
theorem AscB.at {L : List Bg} (h : AscB L) {j k : Nat} {x y : Bg} (hj : L[j]? = some x) (hk : L[k]? = some y) (e : x.i = y.i) : j = k := by
  obtain ⟨h1, e1⟩ := List.getElem?_eq_some_iff.1 hj
  obtain ⟨h2, e2⟩ := List.getElem?_eq_some_iff.1 hk
  have hp := List.pairwise_iff_getElem.1 h
  apply Classical.byContradiction
  intro hne
  rcases Nat.lt_or_gt_of_ne hne with hlt | hlt
  · have := hp j k h1 h2 hlt; rw [e1, e2] at this; omega
  · have := hp k j h2 h1 hlt; rw [e1, e2] at this; omega
theorem OneS.at {L : List Bg} (h : OneS L) {j k : Nat} {x y : Bg} (hj : L[j]? = some x) (hk : L[k]? = some y) (e : x.s = y.s) : j = k := by
  obtain ⟨h1, e1⟩ := List.getElem?_eq_some_iff.1 hj
  obtain ⟨h2, e2⟩ := List.getElem?_eq_some_iff.1 hk
  have hp := List.pairwise_iff_getElem.1 h
  apply Classical.byContradiction
  intro hne
  rcases Nat.lt_or_gt_of_ne hne with hlt | hlt
  · have := hp j k h1 h2 hlt; rw [e1, e2] at this; exact this e
  · have := hp k j h2 h1 hlt; rw [e1, e2] at this; exact this e.symm
theorem upd_set {L : List Bg} (hA : AscB L) {k : Nat} {x : Bg} (hk : L[k]? = some x) (y : Bg) : upd L x.i y = L.set k y := by
  apply List.ext_getElem?
  intro j
  unfold upd
  rw [List.getElem?_map, List.getElem?_set]
  by_cases hj : k = j
  · subst hj
    rw [if_pos rfl, if_pos (List.getElem?_eq_some_iff.1 hk).1, hk]
    simp
  · rw [if_neg hj]
    cases hz : L[j]? with
    | none => rfl
    | some z =>
      simp only [Option.map_some]
      rw [if_neg (fun e => hj (hA.at hk hz e.symm))]
theorem del_idx {L : List Bg} (hA : AscB L) {k : Nat} {x : Bg} (hk : L[k]? = some x) : del L x.i = L.take k ++ L.drop (k + 1) := by
  obtain ⟨h1, e1⟩ := List.getElem?_eq_some_iff.1 hk
  have hL : L = L.take k ++ x :: L.drop (k + 1) := by
    rw [← e1, ← List.drop_eq_getElem_cons h1, List.take_append_drop]
  have hp := List.pairwise_iff_getElem.1 hA
  unfold del
  conv => lhs; rw [hL]
  rw [List.filter_append, List.filter_cons_of_neg (by simp)]
  congr 1
  · rw [List.filter_eq_self]
    intro z hz
    obtain ⟨j, hj, ez⟩ := List.mem_iff_getElem.1 hz
    have hjk : j < k := by simp at hj; omega
    rw [List.getElem_take] at ez
    have := hp j k (by omega) h1 hjk
    rw [e1, ez] at this
    simp; omega
  · rw [List.filter_eq_self]
    intro z hz
    obtain ⟨j, hj, ez⟩ := List.mem_iff_getElem.1 hz
    rw [List.getElem_drop] at ez
    have := hp k (k + 1 + j) h1 (by simp at hj; omega) (by omega)
    rw [e1, ez] at this
    simp; omega
theorem tik_take {L : List Bg} {k : Nat} {x : Bg} (h : L[k]? = some x) (c : Int) : tik (L.take (k + 1)) c = tik (L.take k) c ++ (if x.u = 0 ∨ c < x.u then [x] else []) := by
  unfold tik
  rw [List.take_add_one, h, Option.toList_some, List.filter_append]
  congr 1
  by_cases hc : x.u = 0 ∨ c < x.u
  · rw [if_pos hc, List.filter_cons_of_pos (by simpa using hc)]; rfl
  · rw [if_neg hc, List.filter_cons_of_neg (by simpa using hc)]; rfl
/-- The cells of the document's book. -/
def dbc (S : Sb) (v : Value) : List Value := [.bool true, .int .i64 (S.a : Int), .int .i64 (S.b : Int), .int .i64 (S.c : Int), v, .int .u32 (S.n : Int), .int .i64 S.t]
/-- The document's book: its head at d, its bookings in v, all its blocks from lo on. -/
structure Db (w : World) (lo d : Nat) (v : Value) (S : Sb) : Prop where
  head : w.heap[d]? = some (.cells (dbc S v).toArray 103 (0, 0))
  row : w.ownsRow lo 51 3 v S.L.length (bgs S.L)
  ge : lo ≤ d
def dbo (d : Nat) (v : Value) (i : Nat) : Prop := i = d ∨ v.ownBlock = some i
/-- What a call on it does. -/
structure Dst (w w' : World) (d : Nat) (v v' : Value) : Prop where
  kept : Kept w w' (dbo d v)
  own : ∀ i, v'.ownBlock = some i → v.ownBlock = some i ∨ w.heap.size ≤ i
section
variable {w w' : World} {lo d : Nat} {v v' : Value} {S S' : Sb}
theorem Db.apart (h : Db w lo d v S) : ¬ v.ownBlock = some d := fun e => by
  obtain ⟨-, cur, hc⟩ := Ix.own_block h.row e
  rw [h.head] at hc
  cases hc
theorem Db.far {X : Nat → Prop} (h : Db w lo d v S) (k : Kept w w' X) (hX : ∀ i, dbo d v i → ¬ X i) : Db w' lo d v S :=
  ⟨k.at h.head (hX _ (.inl rfl)), Ix.row_keep h.row (fun q hq => by obtain ⟨-, cur, hc⟩ := Ix.own_block h.row hq; exact k.block q (row_lt hc) (hX q (.inr hq))), h.ge⟩
theorem Db.then (h : Db w lo d v S) (g : w.grownBy w' none) : Db w' lo d v S := h.far (Kept.new g (fun _ => False)) (fun _ _ e => e)
theorem Db.lt (h : Db w lo d v S) : ∀ i, dbo d v i → i < w.heap.size := by
  rintro i (rfl | hi)
  · exact row_lt h.head
  · obtain ⟨-, cur, hc⟩ := Ix.own_block h.row hi; exact row_lt hc
theorem Db.lows (h : Db w lo d v S) : ∀ i, dbo d v i → lo ≤ i := by
  rintro i (rfl | hi)
  · exact h.ge
  · exact (Ix.own_block h.row hi).1
theorem Db.cell (h : Db w lo d v S) {j : Nat} {u : Value} (hu : (dbc S v)[j]? = some u) : w.cell? ⟨d, j, none⟩ = some u := by rw [cell_row h.head]; exact hu
theorem Db.free (h : Db w lo d v S) (j : Nat) : w.frozen? ⟨d, j, none⟩ = false := free_row h.head j
theorem Db.bga (h : Db w lo d v S) : BgA w v S.L := BgA.own h.row
theorem Dst.refl (w : World) (d : Nat) (v : Value) : Dst w w d v v := ⟨Kept.refl _ _, fun _ e => .inl e⟩
theorem Dst.new (g : w.grownBy w' none) (d : Nat) (v : Value) : Dst w w' d v v := ⟨Kept.new g _, fun _ e => .inl e⟩
theorem Dst.trans {a b c : World} {v v' v'' : Value} (h : Dst a b d v v') (k : Dst b c d v' v'') : Dst a c d v v'' := by
  refine ⟨h.kept.trans k.kept (fun i hi e => ?_), fun i e => ?_⟩
  · rcases e with e | e
    · exact .inl e
    · rcases h.own i e with e | e
      · exact .inr e
      · omega
  · rcases k.own i e with e | e
    · exact h.own i e
    · exact .inr (Nat.le_trans h.kept.size e)
/-- The head is written. -/
theorem Db.headed (h : Db w lo d v S) {j : Nat} {u : Value} (hc : (dbc S v).set j u = dbc S' v) (hl : S'.L = S.L) : Db (w.setCell ⟨d, j, none⟩ u) lo d v S' ∧ Dst w (w.setCell ⟨d, j, none⟩ u) d v v := by
  have k := kept_setCell w d j u
  have hr := row_setCell h.head j u
  rw [hc] at hr
  refine ⟨⟨hr, ?_, h.ge⟩, ⟨k.mono (fun i _ e => .inl e), fun _ e => .inl e⟩⟩
  rw [hl]
  exact Ix.row_keep h.row (fun q hq => by obtain ⟨-, cur, hc⟩ := Ix.own_block h.row hq; exact k.block q (row_lt hc) (fun e => h.apart (by rw [← e]; exact hq)))
end
/-- Which place has the id, or the seat; or none. -/
def PosA (q : Bg → Prop) (L : List Bg) (e : Ending) : Prop := (∃ (k : Nat) (x : Bg), L[k]? = some x ∧ q x ∧ e = .returned (.int .i64 (k : Int))) ∨ ((∀ x ∈ L, ¬ q x) ∧ e = .returned (.int .i64 (-1)))
theorem rd_get {L : List Bg} {i : Nat} (h : i < L.length) : L[i]? = some (rd L i) := by
  unfold rd
  rw [List.getElem?_eq_getElem h]
  rfl
theorem all_not {q : Bg → Prop} {L : List Bg} (h : ∀ j, j < L.length → ¬ q (rd L j)) : ∀ x ∈ L, ¬ q x := fun x hx => by
  obtain ⟨j, hj, rfl⟩ := List.mem_iff_getElem.1 hx
  have := h j hj
  have e := rd_get hj
  rw [List.getElem?_eq_getElem hj] at e
  rw [← Option.some.inj e] at this
  exact this
set_option maxHeartbeats 4000000 in
theorem dfind_any {w : World} {lo d : Nat} {v : Value} {S : Sb} (h : Db w lo d v S) (hL : S.L.length ≤ 65536) (i : Int) : Calls Tryz.prog 105 #[.pointer (some ⟨d, 0, none⟩), .int .u32 i] w fun e w' => PosA (fun x => (x.i : Int) = i) S.L e ∧ w' = w := by
  obtain ⟨ao, cap, rfl, hb⟩ := h.bga.ex
  have c4 := h.cell (j := 4) rfl
  have HB := hide hb
  have HL := hide hL
  clear h hb
  go_enter Tryz.func105, Tryz.ntmps105
  go_wp2
  go_loopg [5] S.L.length (fun k q wr => ∃ j : Nat, k + j = S.L.length ∧ q = .int .i64 (j : Int) ∧ wr = w ∧ Hid (∀ m, m < j → ¬ ((rd S.L m).i : Int) = i))
  case atStart => exact ⟨0, by omega, rfl, rfl, fun m hm => by omega⟩
  case round =>
    obtain ⟨j, hkj, rfl, rfl, HN⟩ := hrel
    by_cases hk : 0 < gk
    · have hj : j < S.L.length := by omega
      have h1 : (j : Int) < (S.L.length : Int) := by omega
      have h0 : (0 : Int) ≤ (j : Int) := by omega
      obtain ⟨g, rfl, e0, e1, e2⟩ := HB.out j hj
      by_cases hx : ((rd S.L j).i : Int) = i
      · have HP := hide (And.intro hj hx)
        have f1 : (((rd S.L j).i : Int) == i) = true := by simpa using hx
        have f2 : decide (((rd S.L j).i : Int) = i) = true := by simpa using hx
        clear hx
        go_wp2
        go_ret
        exact ⟨.inl ⟨j, rd S.L j, rd_get HP.out.1, HP.out.2, rfl⟩, rfl⟩
      · have f1 : (((rd S.L j).i : Int) == i) = false := by simpa using hx
        have f2 : decide (((rd S.L j).i : Int) = i) = false := by simpa using hx
        have HN2 : Hid (∀ m, m < j + 1 → ¬ ((rd S.L m).i : Int) = i) := fun m hm => by
          by_cases hmj : m < j
          · exact HN.out m hmj
          · obtain rfl : m = j := by omega
            exact hx
        clear hx
        have hL' := HL.out
        go_wp2
        go_roundg (gk - 1)
        case measure => omega
        case rel => exact ⟨j + 1, by omega, by go_num, rfl, HN2.out⟩
    · have hj : j = S.L.length := by omega
      subst hj
      go_wp2
      go_ret
      exact ⟨.inr ⟨all_not (q := fun x => (x.i : Int) = i) HN.out, rfl⟩, rfl⟩
set_option maxHeartbeats 4000000 in
theorem dtaken_any {w : World} {lo d : Nat} {v : Value} {S : Sb} (h : Db w lo d v S) (hL : S.L.length ≤ 65536) (i : Int) : Calls Tryz.prog 106 #[.pointer (some ⟨d, 0, none⟩), .int .i64 i] w fun e w' => PosA (fun x => (x.s : Int) = i) S.L e ∧ w' = w := by
  obtain ⟨ao, cap, rfl, hb⟩ := h.bga.ex
  have c4 := h.cell (j := 4) rfl
  have HB := hide hb
  have HL := hide hL
  clear h hb
  go_enter Tryz.func106, Tryz.ntmps106
  go_wp2
  go_loopg [5] S.L.length (fun k q wr => ∃ j : Nat, k + j = S.L.length ∧ q = .int .i64 (j : Int) ∧ wr = w ∧ Hid (∀ m, m < j → ¬ ((rd S.L m).s : Int) = i))
  case atStart => exact ⟨0, by omega, rfl, rfl, fun m hm => by omega⟩
  case round =>
    obtain ⟨j, hkj, rfl, rfl, HN⟩ := hrel
    by_cases hk : 0 < gk
    · have hj : j < S.L.length := by omega
      have h1 : (j : Int) < (S.L.length : Int) := by omega
      have h0 : (0 : Int) ≤ (j : Int) := by omega
      obtain ⟨g, rfl, e0, e1, e2⟩ := HB.out j hj
      by_cases hx : ((rd S.L j).s : Int) = i
      · have HP := hide (And.intro hj hx)
        have f1 : (((rd S.L j).s : Int) == i) = true := by simpa using hx
        have f2 : decide (((rd S.L j).s : Int) = i) = true := by simpa using hx
        clear hx
        go_wp2
        go_ret
        exact ⟨.inl ⟨j, rd S.L j, rd_get HP.out.1, HP.out.2, rfl⟩, rfl⟩
      · have f1 : (((rd S.L j).s : Int) == i) = false := by simpa using hx
        have f2 : decide (((rd S.L j).s : Int) = i) = false := by simpa using hx
        have HN2 : Hid (∀ m, m < j + 1 → ¬ ((rd S.L m).s : Int) = i) := fun m hm => by
          by_cases hmj : m < j
          · exact HN.out m hmj
          · obtain rfl : m = j := by omega
            exact hx
        clear hx
        have hL' := HL.out
        go_wp2
        go_roundg (gk - 1)
        case measure => omega
        case rel => exact ⟨j + 1, by omega, by go_num, rfl, HN2.out⟩
    · have hj : j = S.L.length := by omega
      subst hj
      go_wp2
      go_ret
      exact ⟨.inr ⟨all_not (q := fun x => (x.s : Int) = i) HN.out, rfl⟩, rfl⟩
end Go.Proofs.YtjfhilignbeboaaGreatDoor
