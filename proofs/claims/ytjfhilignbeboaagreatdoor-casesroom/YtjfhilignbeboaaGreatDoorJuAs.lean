/- Texts joined: BkW, Aw, Db2, RkRg. -/
import Derived.Test.YtjfhilignbeboaaGreatDoorJuG
import Derived.Test.YtjfhilignbeboaaGreatDoorJuAl
import Derived.Test.YtjfhilignbeboaaGreatDoorJuAm
import Derived.Test.YtjfhilignbeboaaGreatDoorJuAr
import Derived.Laws.BitsAllLaws
import Derived.WalkKit
import Derived.WalkSpells
import Derived.WalkLawsBesides
import Derived.Laws.CopyOwn
import Derived.Deep.MidRow
import Derived.Test.YtjfhilignbeboaaGreatDoorJuAn
/- A book of bookings that may be: Of. -/
namespace Go.Proofs.YtjfhilignbeboaaGreatDoor
open Go.RowKit
attribute [local go_sem ↓] Go.wp_at_zero Go.wp_at_succ
attribute [local go_sem] Oper.semAt_some
theorem rd_mem {L : List Bg} {j : Nat} (hj : j < L.length) : rd L j ∈ L := by
  unfold rd; rw [List.getElem?_eq_getElem hj]; exact List.getElem_mem hj
theorem rd_asc {L : List Bg} (h : AscB L) {j k : Nat} (hjk : j < k) (hk : k < L.length) : (rd L j).i < (rd L k).i := by
  unfold rd
  rw [List.getElem?_eq_getElem hk, List.getElem?_eq_getElem (by omega)]
  exact List.pairwise_iff_getElem.1 h j k (by omega) hk hjk
set_option maxHeartbeats 4000000 in
theorem mayLast_ok {w : World} {p : Bp} {S : Sb} {K : Nat} (h : BkAt w p S K) {u : Int} (hu : u = 0 ∨ (S.t < u ∧ u ≤ mxC)) : Calls Tryz.prog 96 #[.pointer (some ⟨p.b, 0, none⟩), .int .i64 u] w fun e w' => e = .returned (.bool true) ∧ w' = w := by
  have c5 := h.cells 5 _ rfl
  clear h
  by_cases hz : u = 0
  · subst hz
    go_enter Tryz.func96, Tryz.ntmps96
    go_wp2
    go_ret
    exact ⟨rfl, rfl⟩
  · have h1 : S.t < u := by omega
    have h2 : u ≤ 1099511627776 := by rcases hu with e | e; exact absurd e hz; exact e.2
    have hz1 : (u == 0) = false := by simpa using hz
    have hz2 : decide (u = 0) = false := by simpa using hz
    clear hu
    go_enter Tryz.func96, Tryz.ntmps96
    go_wp2
    go_ret
    exact ⟨rfl, rfl⟩
set_option maxRecDepth 20000 in
set_option maxHeartbeats 8000000 in
theorem mayHave_ok {w : World} {p : Bp} {S : Sb} {K : Nat} (h : BkAt w p S K) (x : Bg) (hi : x.i < S.n) (hs : x.s < S.a) (hn : sat S.L x.s = none) (hf : S.L.length < S.b) (hu : x.u = 0 ∨ (S.t < x.u ∧ x.u ≤ mxC)) : Calls Tryz.prog 38 #[.pointer (some ⟨p.b, 0, none⟩), bgV x] w fun e w' => e = .returned (.bool true) ∧ w.grownBy w' none := by
  obtain ⟨xi, xs, xu⟩ := x
  simp only at hi hs hn hu
  have m0 := Bm.start h (bgc ⟨xi, xs, xu⟩) 51
  have HS : Hid (∀ W, Calls Tryz.prog 87 #[limV S.a S.b S.c, .int .i64 (xs : Int)] W fun e w' => e = .returned (.bool true) ∧ W.grownBy w' none) := by
    intro W
    have := hasSeat_any S.a S.b S.c (xs : Int) W
    rw [decide_eq_true (show (0 : Int) ≤ (xs : Int) ∧ (xs : Int) < (S.a : Int) by omega)] at this
    exact this
  have HR : Hid (∀ W, Calls Tryz.prog 95 #[limV S.a S.b S.c, .int .i64 (S.L.length : Int)] W fun e w' => e = .returned (.bool true) ∧ W.grownBy w' none) := by
    intro W
    have := hasRoom_any S.a S.b S.c (S.L.length : Int) W
    rw [decide_eq_true (show (S.L.length : Int) < (S.b : Int) by omega)] at this
    exact this
  have HH : Hid (∀ W, Bm w W w.heap.size (bgc ⟨xi, xs, xu⟩) 51 p S K → Calls Tryz.prog 88 #[.pointer (some ⟨p.tb, 0, none⟩), .int .i64 (xs : Int)] W fun e w' => e = .returned (.bool false) ∧ W.grownBy w' none) := by
    intro W hW
    have := hW.bk.has xs hs
    rw [hn] at this
    exact this
  have HL : Hid (∀ W, Bm w W w.heap.size (bgc ⟨xi, xs, xu⟩) 51 p S K → Calls Tryz.prog 70 #[.pointer (some ⟨p.ip.x, 0, none⟩)] W fun e w' => e = .returned (.int .i64 (S.L.length : Int)) ∧ w' = W) := fun W hW => hW.bk.len
  have HM : Hid (∀ W, Bm w W w.heap.size (bgc ⟨xi, xs, xu⟩) 51 p S K → Calls Tryz.prog 96 #[.pointer (some ⟨p.b, 0, none⟩), .int .i64 xu] W fun e w' => e = .returned (.bool true) ∧ w' = W) := fun W hW => mayLast_ok hW.bk hu
  have HK : Hid (∀ W, Bm w W w.heap.size (bgc ⟨xi, xs, xu⟩) 51 p S K → W.cell? ⟨p.b, 0, none⟩ = some (.int .i64 (S.a : Int)) ∧ W.cell? ⟨p.b, 1, none⟩ = some (.int .i64 (S.b : Int)) ∧ W.cell? ⟨p.b, 2, none⟩ = some (.int .i64 (S.c : Int)) ∧ W.cell? ⟨p.b, 4, none⟩ = some (.int .u32 (S.n : Int)) ∧ W.cell? ⟨p.b, 6, none⟩ = some (.pointer (some ⟨p.tb, 0, none⟩)) ∧ W.cell? ⟨p.b, 8, none⟩ = some (.pointer (some ⟨p.ip.x, 0, none⟩)) ∧ W.cell? ⟨w.heap.size, 0, none⟩ = some (.int .u32 (xi : Int)) ∧ W.cell? ⟨w.heap.size, 1, none⟩ = some (.int .i64 (xs : Int)) ∧ W.cell? ⟨w.heap.size, 2, none⟩ = some (.int .i64 xu)) := fun W m => ⟨m.ff.a0, m.ff.a1, m.ff.a2, m.ff.a4, m.ff.a6, m.ff.a8, m.ff.bx 0 _ rfl, m.ff.bx 1 _ rfl, m.ff.bx 2 _ rfl⟩
  unfold limV at HS HR
  unfold bgc at m0 HH HL HM HK
  have hK0 := HK.out _ m0
  have h1 : (xi : Int) < (S.n : Int) := by omega
  clear h hs hn hf hu hi
  unfold bgV
  go_enter Tryz.func38, Tryz.ntmps38
  go_wp2
  generalize World.alloc w _ = w0 at *
  go_region_held3 (fun W => W.cell? ⟨p.b, 0, none⟩ = some (.int .i64 (S.a : Int)) ∧ W.cell? ⟨p.b, 1, none⟩ = some (.int .i64 (S.b : Int)) ∧ W.cell? ⟨p.b, 2, none⟩ = some (.int .i64 (S.c : Int)) ∧ W.cell? ⟨p.b, 4, none⟩ = some (.int .u32 (S.n : Int)) ∧ W.cell? ⟨p.b, 6, none⟩ = some (.pointer (some ⟨p.tb, 0, none⟩)) ∧ W.cell? ⟨p.b, 8, none⟩ = some (.pointer (some ⟨p.ip.x, 0, none⟩)) ∧ W.cell? ⟨w.heap.size, 0, none⟩ = some (.int .u32 (xi : Int)) ∧ W.cell? ⟨w.heap.size, 1, none⟩ = some (.int .i64 (xs : Int)) ∧ W.cell? ⟨w.heap.size, 2, none⟩ = some (.int .i64 xu)) (first | assumption | exact hK0)
    ((first
      | (go_at_call 87; refine (HS.out _).mono ?_; rintro e w2 ⟨rfl, hg2⟩; have m2 := (Bm.then m0 (grown_drew _ none)).then hg2; have hK2 := HK.out _ m2)
      | (go_at_call 88; refine (HH.out _ m2).mono ?_; rintro e w3 ⟨rfl, hg3⟩; have m3 := Bm.then m2 hg3; have hK3 := HK.out _ m3)
      | (go_at_call 70; refine (HL.out _ m3).mono ?_; rintro e w4 ⟨rfl, rfl⟩)
      | (go_at_call 95; refine (HR.out _).mono ?_; rintro e w5 ⟨rfl, hg5⟩; have m5 := Bm.then m3 hg5; have hK5 := HK.out _ m5)
      | (go_at_call 96; refine (HM.out _ m5).mono ?_; rintro e w6 ⟨rfl, rfl⟩)))
  go_wp2
  go_ret
  exact ⟨rfl, m5.gr⟩
/-- Bookings ahead of one. -/
theorem take_ok {L : List Bg} (hA : AscB L) (hO : OneS L) {j : Nat} (hj : j < L.length) : (∀ y ∈ L.take j, y.i < (rd L j).i) ∧ sat (L.take j) (rd L j).s = none := by
  have h1 := pre_facts (L := L) (pre := L.take j) (x := rd L j) (by rw [take_rd hj]; exact List.take_prefix _ _) hA hO
  exact ⟨h1.2.1, h1.2.2.1⟩
theorem last_le {L : List Bg} (hA : AscB L) {j l : Nat} (hl : ∀ k, j ≤ k → k < L.length → l ≤ (rd L k).i) (hj : j < L.length) : l ≤ (rd L j).i ∧ ∀ k, j + 1 ≤ k → k < L.length → (rd L j).i + 1 ≤ (rd L k).i :=
  ⟨hl j (Nat.le_refl _) hj, fun k h1 h2 => rd_asc hA (by omega) h2⟩
set_option maxRecDepth 20000 in
set_option maxHeartbeats 8000000 in
theorem of_ok {w : World} {v : Value} {a b c n : Nat} {t : Int} {L : List Bg} (hS : Sb.Ok ⟨a, b, c, n, t, L⟩) (hv : BgA w v L) (hz : 0 < w.heap.size) : Calls Tryz.prog 11 #[limV a b c, .int .u32 (n : Int), .int .i64 t, v] w fun e w' => ∃ x p, e = .returned (.tuple #[.pointer (some ⟨x, 0, none⟩), .int .i64 0]) ∧ Lk w w' x ⟨a, b, c, n, t, L⟩ 4096 p [] := by
  have hok : Gx.OkS a b c := by have h1 := hS.a0; have h2 := hS.a1; have h3 := hS.b0; have h4 := hS.b1; have h5 := hS.c0; have h6 := hS.c1; simp only at h1 h2 h3 h4 h5 h6; unfold Gx.OkS; omega
  obtain ⟨vo, cap, rfl, hx⟩ := hv.ex
  have HC1 : Hid (∀ W : World, Calls Tryz.prog 36 #[.agg #[.int .i64 (a : Int), .int .i64 (b : Int), .int .i64 (c : Int)]] W fun e w' => e = .returned (.int .i64 0) ∧ W.grownBy w' none) := fun W => Ge.check_ok _ _ _ hok W
  have HC2 : Hid (∀ W : World, w.grownBy W none → Calls Tryz.prog 37 #[.agg #[.int .i64 (a : Int), .int .i64 (b : Int), .int .i64 (c : Int)], .int .u32 (n : Int), .int .i64 t] W fun e w' => ∃ x p, e = .returned (.pointer (some ⟨x, 0, none⟩)) ∧ Lk w w' x ⟨a, b, c, n, t, []⟩ 0 p []) := by
    intro W hW
    refine (empty_any a b c n t hok W (by have := hW.size; omega)).mono ?_
    rintro e w' ⟨p, rfl, h1, h2, h3⟩
    exact ⟨p.b, p, rfl, rfl, h1, grown_trans hW h2, fun i hi => Nat.le_trans hW.size (h3 i hi), fun x hx => by cases hx⟩
  have HV := hide hv
  have HO := hide hS
  have hn1 : (1 : Int) ≤ (n : Int) := by have := hS.n0; simp only at this; omega
  have ht0 : ¬ t < 0 := by have := hS.t0; simp only at this; omega
  have ht1 : ¬ (1099511627776 : Int) < t := by have := hS.t1; simp only [mxC] at this; omega
  have HMay : Hid (∀ W x p j, j < L.length → Lk w W x ⟨a, b, c, n, t, L.take j⟩ j p [] → Calls Tryz.prog 38 #[.pointer (some ⟨x, 0, none⟩), bgV (rd L j)] W fun e w' => e = .returned (.bool true) ∧ W.grownBy w' none) := by
    intro W x p j hj h
    have hm := rd_mem hj
    have := mayHave_ok h.bk (rd L j) (HO.out.id _ hm).2 (HO.out.st _ hm) (take_ok HO.out.asc HO.out.one hj).2 (by have h1 := HO.out.few; simp only [List.length_take] at h1 ⊢; omega) (HO.out.til _ hm)
    rw [h.eb] at this
    exact this
  have HAdd : Hid (∀ W x p j Bs, j < L.length → Lk w W x ⟨a, b, c, n, t, L.take j⟩ j p Bs → Calls Tryz.prog 39 #[.pointer (some ⟨x, 0, none⟩), bgV (rd L j)] W fun e w' => e = .returned (.tuple #[]) ∧ ∃ q, Lk w w' x ⟨a, b, c, n, t, L.take (j + 1)⟩ (j + 1) q Bs) := by
    intro W x p j Bs hj h
    have hm := rd_mem hj
    have hwk : Sb.Wk ⟨a, b, c, n, t, L.take j⟩ := HO.out.wk.sub (List.take_sublist _ _) HO.out.t0 HO.out.t1
    have hi := (HO.out.id _ hm).2
    have hn := HO.out.n1
    have hfw := HO.out.few
    have hb1 := HO.out.b1
    simp only at hi hn hfw hb1
    have := add_any h.bk hwk (by omega) (rd L j) (by omega) (HO.out.st _ hm) (take_ok HO.out.asc HO.out.one hj).1 (take_ok HO.out.asc HO.out.one hj).2 (by simp only [List.length_take]; omega)
    rw [h.eb] at this
    refine this.mono ?_
    rintro e w' ⟨rfl, q, h1, h2⟩
    simp only [take_rd hj] at h1
    exact ⟨rfl, q, h.step h2 h1⟩
  have hb0 := heap_alloc_new w (.cells [.int .i64 (a : Int), .int .i64 (b : Int), .int .i64 (c : Int)].toArray 36)
  have HB0 := hide hb0
  clear hS hok hx hv hz hb0
  unfold limV
  generalize hnn : L.length = m at *
  have HN := hide hnn
  have hm8 : m ≤ 4096 := by have h1 := HO.out.few; have h2 := HO.out.b1; simp only at h1 h2; omega
  clear hnn
  go_enter Tryz.func11, Tryz.ntmps11
  go_wp2_with fail
  refine (HC1.out _).mono ?_
  rintro e w1 ⟨rfl, hg1⟩
  have hg0 := grown_trans (grown_alloc w _) hg1
  obtain ⟨d0, d1, d2, -⟩ := box3 ((hg1.block _ (row_lt HB0.out) (by simp)).trans HB0.out)
  go_wp2_with fail
  refine (HC2.out _ hg0).mono ?_
  rintro e w2 ⟨x, p, rfl, hh⟩
  have H2 := hide hh
  clear hh d0 d1 d2 hg0 hg1 HC1 HC2 HB0
  go_wp2
  go_loopg [12, 36] m (fun k la i wr => ∃ j l : Nat, k + j = m ∧ i = .int .i64 j ∧ la = .int .u32 (l : Int) ∧ Hid (∀ k, j ≤ k → k < L.length → l ≤ (rd L k).i) ∧ ∃ q, Hid (Lk w wr x ⟨a, b, c, n, t, L.take j⟩ j q []))
  case atStart => exact ⟨0, 1, by omega, rfl, rfl, (fun k _ hk => (HO.out.id _ (rd_mem hk)).1), _, H2.out⟩
  case round =>
    clear H2
    obtain ⟨j, l, hkj, rfl, rfl, HL, q, HQ⟩ := hrel
    by_cases hk : 0 < gk
    · have hj : j < L.length := by rw [HN.out]; omega
      have h1 : (0 : Int) ≤ (j : Int) := by omega
      have h2 : (j : Int) < (m : Int) := by omega
      obtain ⟨ao', cap', he, hx⟩ := (HV.out.then HQ.out.gr).ex
      cases he
      obtain ⟨g, rfl, x0, x1, x2⟩ := hx j hj
      obtain ⟨hl1, hl2⟩ := last_le (L := L) HO.out.asc HL.out hj
      have HNx := hide hl2
      have HM' := hide (fun W h => HMay.out W x q j hj h)
      have HA' := hide (fun W Bs h => HAdd.out W x q j Bs hj h)
      have hid := (HO.out.id _ (rd_mem hj)).2
      have hn1' := HO.out.n1
      simp only at hid hn1'
      have hid2 : ((rd L j).i : Int) + 1 < 4294967296 := by omega
      have hl1' : ¬ ((rd L j).i : Int) < (l : Int) := by omega
      obtain ⟨xx, hxx⟩ : ∃ xx, rd L j = xx := ⟨_, rfl⟩
      rw [hxx] at x0 x1 x2 HNx HM' HA' hid2 hl1'
      obtain ⟨xi, xs, xu⟩ := xx
      simp only [bgV] at x0 x1 x2 HNx HM' HA' hid2 hl1'
      clear hx hxx hl1 hl2 hid hn1' hj HMay HAdd
      go_wp2_with fail
      have HB := hide (HQ.out.box [.int .u32 (xi : Int), .int .i64 (xs : Int), .int .i64 xu] 51)
      refine (HM'.out _ HB.out.bare).mono ?_
      rintro e w3 ⟨rfl, hg3⟩
      have h3 := HB.out.then hg3
      have y0 := h3.cell List.mem_cons_self 0 _ rfl
      have y1 := h3.cell List.mem_cons_self 1 _ rfl
      have y2 := h3.cell List.mem_cons_self 2 _ rfl
      have H3 := hide h3
      clear h3 hg3 HB x0 x1 x2 HM' HQ
      go_wp2_with fail
      refine (HA'.out _ _ H3.out).mono ?_
      rintro e w4 ⟨rfl, q4, h4⟩
      have z0 := h4.cell List.mem_cons_self 0 _ rfl
      have H4 := hide h4.bare
      clear h4 H3 y0 y1 y2 HA'
      go_wp2
      go_roundg (gk - 1)
      case measure => omega
      case rel => exact ⟨j + 1, xi + 1, by omega, by go_num, by go_num, HNx.out, _, H4.out⟩
    · have hj : j = m := by omega
      subst hj
      have HF := hide (HQ.out.more hm8)
      have HT : Hid (L.take j = L) := by rw [← HN.out]; exact List.take_length
      go_wp2
      go_ret2
      rw [HT.out] at HF
      exact ⟨_, _, rfl, HF.out⟩
end Go.Proofs.YtjfhilignbeboaaGreatDoor
namespace Go.Proofs.YtjfhilignbeboaaGreatDoor
/- awake: answers that are fixed. -/
open Go.RowKit
attribute [local go_sem ↓] Go.wp_at_zero Go.wp_at_succ
attribute [local go_sem] Oper.semAt_some
def aS : Sb := ⟨3, 2, 1, 2, 4, [⟨1, 0, 9⟩]⟩
theorem aS_ok : aS.Ok := by
  refine ⟨by decide, by decide, by decide, by decide, by decide, by decide, by decide, by decide, by decide, by decide, ?_, ?_, ?_, ?_, ?_, by decide⟩
  · exact List.pairwise_singleton _ _
  · intro x hx; rw [List.mem_singleton.1 hx]; decide
  · intro x hx; rw [List.mem_singleton.1 hx]; decide
  · exact List.pairwise_singleton _ _
  · intro x hx; rw [List.mem_singleton.1 hx]; exact .inr ⟨by decide, by decide⟩
theorem aw_dec : dec aS 37 ⟨1, 7, 0, 2, 5⟩ = ⟨⟨1, 2, 2, 9, 0⟩, ⟨7, 1, 0, 2, 0, 9, 0⟩, true, 0⟩ := by
  have h1 : isChg ⟨1, 7, 0, 2, 5⟩ := by decide
  have h2 : refE aS 37 ⟨1, 7, 0, 2, 5⟩ = 0 := by decide
  rw [dec_yes h1 h2]
  rfl
theorem aw_ans : ans aS ⟨6, 8, 0, 0, 0⟩ = (⟨8, 6, 0, 1, 0, 9, 0⟩, 0) := by
  have h1 : isAsk ⟨6, 8, 0, 0, 0⟩ := by decide
  unfold ans
  rw [if_pos h1]
  rfl
theorem q_ok {k t i s u : Int} (h : (-9223372036854775808 ≤ k ∧ k ≤ 9223372036854775807) ∧ (0 ≤ t ∧ t < 4294967296) ∧ (0 ≤ i ∧ i < 4294967296) ∧ (-9223372036854775808 ≤ s ∧ s ≤ 9223372036854775807) ∧ (-9223372036854775808 ≤ u ∧ u ≤ 9223372036854775807)) : Rs.Rq.Ok ⟨k, t, i, s, u⟩ := ⟨h.1.1, h.1.2, h.2.1.1, h.2.1.2, h.2.2.1.1, h.2.2.1.2, h.2.2.2.1.1, h.2.2.2.1.2, h.2.2.2.2.1, h.2.2.2.2.2⟩
/-- A book and boxes, as a law goes on. -/
theorem Lk.mt {w W W' : World} {b : Nat} {S : Sb} {K : Nat} {p : Bp} {Bs : List (Nat × List Value × TypeId)} (h : Lk w W b S K p Bs) (m : Mt W W' p S K []) : Lk w W' b S K p Bs := h.step (Bst.keep m.st) m.bk
theorem bga_one (w : World) : BgA (w.alloc (.cells [Value.int .u32 1, .int .i64 0, .int .i64 9].toArray 51)) (.slice (some ⟨w.heap.size, 0, none⟩) 1 1) [⟨1, 0, 9⟩] := by
  obtain ⟨a0, a1, a2, -⟩ := box3 (heap_alloc_new w (.cells [Value.int .u32 1, .int .i64 0, .int .i64 9].toArray 51))
  refine ⟨⟨some ⟨w.heap.size, 0, none⟩, 1, rfl, fun i hi => ?_⟩⟩
  have : i = 0 := by simp at hi; omega
  subst this
  exact ⟨w.heap.size, rfl, a0, a1, a2⟩
theorem Lk.decide {w W : World} {b : Nat} {S : Sb} {K : Nat} {p : Bp} {Bs : List (Nat × List Value × TypeId)} (h : Lk w W b S K p Bs) (ho : S.Ok) (hT : Rk.Tab w) (room : Int) (q : Rs.Rq) (hq : q.Ok) : Calls Tryz.prog 9 #[.pointer (some ⟨b, 0, none⟩), .int .i64 room, Rs.rqV q] W fun e w' => e = .returned (dcV (dec S room q)) ∧ Lk w w' b S K p Bs := by
  have := decide_any h.bk ho room q hq (hT.grown h.gr (by simp))
  rw [h.eb] at this
  exact this.mono (fun e w' x => ⟨x.1, h.mt x.2⟩)
theorem Lk.answer {w W : World} {b : Nat} {S : Sb} {K : Nat} {p : Bp} {Bs : List (Nat × List Value × TypeId)} (h : Lk w W b S K p Bs) (ho : S.Ok) (q : Rs.Rq) (hq : q.Ok) : Calls Tryz.prog 10 #[.pointer (some ⟨b, 0, none⟩), Rs.rqV q] W fun e w' => e = .returned (anV (ans S q)) ∧ Lk w w' b S K p Bs := by
  have := answer_any h.bk ho q hq
  rw [h.eb] at this
  exact this.mono (fun e w' x => ⟨x.1, h.mt x.2⟩)
theorem Lk.b0 {w W : World} {b : Nat} {S : Sb} {K : Nat} {p : Bp} {x : Nat × List Value × TypeId} {Bs : List (Nat × List Value × TypeId)} (h : Lk w W b S K p (x :: Bs)) : W.heap[x.1]? = some (.cells x.2.1.toArray x.2.2 (0, 0)) := (h.bx x (List.mem_cons_self ..)).1
theorem Lk.b1 {w W : World} {b : Nat} {S : Sb} {K : Nat} {p : Bp} {y x : Nat × List Value × TypeId} {Bs : List (Nat × List Value × TypeId)} (h : Lk w W b S K p (y :: x :: Bs)) : W.heap[x.1]? = some (.cells x.2.1.toArray x.2.2 (0, 0)) := (h.bx x (List.mem_cons_of_mem _ (List.mem_cons_self ..))).1
theorem Lk.b2 {w W : World} {b : Nat} {S : Sb} {K : Nat} {p : Bp} {z y x : Nat × List Value × TypeId} {Bs : List (Nat × List Value × TypeId)} (h : Lk w W b S K p (z :: y :: x :: Bs)) : W.heap[x.1]? = some (.cells x.2.1.toArray x.2.2 (0, 0)) := (h.bx x (List.mem_cons_of_mem _ (List.mem_cons_of_mem _ (List.mem_cons_self ..)))).1
theorem Lk.b3 {w W : World} {b : Nat} {S : Sb} {K : Nat} {p : Bp} {u z y x : Nat × List Value × TypeId} {Bs : List (Nat × List Value × TypeId)} (h : Lk w W b S K p (u :: z :: y :: x :: Bs)) : W.heap[x.1]? = some (.cells x.2.1.toArray x.2.2 (0, 0)) := (h.bx x (List.mem_cons_of_mem _ (List.mem_cons_of_mem _ (List.mem_cons_of_mem _ (List.mem_cons_self ..))))).1
theorem Lk.box2 {w W : World} {b : Nat} {S : Sb} {K : Nat} {p : Bp} {Bs : List (Nat × List Value × TypeId)} (h : Lk w W b S K p Bs) (cs ds : List Value) (s t : TypeId) : Lk w ((W.alloc (.cells cs.toArray s)).alloc (.cells ds.toArray t)) b S K p ((W.heap.size + 1, ds, t) :: (W.heap.size, cs, s) :: Bs) := by
  have m0 := (h.box cs s).box ds t
  rw [show (W.alloc (.cells cs.toArray s)).heap.size = W.heap.size + 1 from by show (W.heap.push _).size = _; simp] at m0
  exact m0
set_option maxRecDepth 20000 in
set_option maxHeartbeats 8000000 in
theorem awake_any (w : World) (hT : Rk.Tab w) : Calls Tryz.prog 12 #[] w fun e w' => e = .returned (.bool true) ∧ w.grownBy w' none := by
  have hz : 0 < w.heap.size := by
    have := hT 0 (by decide)
    cases hb : w.heap[0]? with
    | none => simp [World.cell?, hb] at this
    | some o => exact row_lt hb
  have g0 := grown_alloc w (.cells [Value.int .u32 1, .int .i64 0, .int .i64 9].toArray 51)
  have HOf := hide (of_ok (w := w.alloc (.cells [Value.int .u32 1, .int .i64 0, .int .i64 9].toArray 51)) (v := .slice (some ⟨w.heap.size, 0, none⟩) 1 1) (a := 3) (b := 2) (c := 1) (n := 2) (t := 4) (L := [⟨1, 0, 9⟩]) aS_ok (bga_one w) (Nat.lt_of_lt_of_le hz g0.size))
  have HT := hide hT
  have HG := hide g0
  clear hT hz g0
  unfold limV at HOf
  go_enter Tryz.func12, Tryz.ntmps12
  go_wp2_with fail
  refine HOf.out.mono ?_
  rintro e w1 ⟨b, p, rfl, hK⟩
  have HK1 : Hid (Lk w w1 b aS 4096 p []) := hK.base HG.out
  have HD : Hid (∀ W, Lk w W b aS 4096 p [] → Calls Tryz.prog 9 #[.pointer (some ⟨b, 0, none⟩), .int .i64 37, .agg #[.int .i64 1, .int .u32 7, .int .u32 0, .int .i64 2, .int .i64 5]] W fun e w' => e = .returned (.tuple #[.agg #[Value.int .i64 1, .int .u32 2, .int .i64 2, .int .i64 9, .int .i64 0], .agg #[Value.int .u32 7, .int .i64 1, .int .i64 0, .int .u32 2, .int .i64 0, .int .i64 9, .int .i64 0], .bool true, .int .i64 0]) ∧ Lk w w' b aS 4096 p []) := fun W h => by
    have := h.decide aS_ok HT.out 37 ⟨1, 7, 0, 2, 5⟩ (q_ok (by decide))
    rw [aw_dec] at this
    exact this
  have HA : Hid (∀ W Bs, Lk w W b aS 4096 p Bs → Calls Tryz.prog 10 #[.pointer (some ⟨b, 0, none⟩), .agg #[.int .i64 6, .int .u32 8, .int .u32 0, .int .i64 0, .int .i64 0]] W fun e w' => e = .returned (.tuple #[.agg #[Value.int .u32 8, .int .i64 6, .int .i64 0, .int .u32 1, .int .i64 0, .int .i64 9, .int .i64 0], .int .i64 0]) ∧ Lk w w' b aS 4096 p Bs) := fun W Bs h => by
    have := h.answer aS_ok ⟨6, 8, 0, 0, 0⟩ (q_ok (by decide))
    rw [aw_ans] at this
    exact this
  clear hK HOf HG HT
  go_wp2_with fail
  refine (HD.out _ HK1.out).mono ?_
  rintro e w2 ⟨rfl, hK2⟩
  have K2 := hide (hK2.box2 [Value.int .i64 1, .int .u32 2, .int .i64 2, .int .i64 9, .int .i64 0] [Value.int .u32 7, .int .i64 1, .int .i64 0, .int .u32 2, .int .i64 0, .int .i64 9, .int .i64 0] 28 31)
  clear hK2 HD HK1
  go_wp2_with fail
  generalize hX : w2.heap.size = X at *
  clear hX
  generalize World.alloc (World.alloc w2 _) _ = w3 at *
  refine (HA.out _ _ K2.out).mono ?_
  rintro e w4 ⟨rfl, hK4⟩
  have K4 := hide (hK4.box [Value.int .u32 8, .int .i64 6, .int .i64 0, .int .u32 1, .int .i64 0, .int .i64 9, .int .i64 0] 31)
  clear hK4 K2 HA
  obtain ⟨z0, z1, z2, z3, z4, z5, z6⟩ := bx7 K4.out.b0
  obtain ⟨y0, y1, y2, y3, y4, y5, y6⟩ := bx7 K4.out.b1
  obtain ⟨x0, x1, x2, x3, x4⟩ := bx5 K4.out.b2
  go_wp2
  go_ret
  exact ⟨rfl, K4.out.gr⟩
end Go.Proofs.YtjfhilignbeboaaGreatDoor
namespace Go.Proofs.YtjfhilignbeboaaGreatDoor
/- The document's book: tick. -/
open Go.RowKit
attribute [local go_sem ↓] Go.wp_at_zero Go.wp_at_succ
attribute [local go_sem] Oper.semAt_some
theorem info108 : (Tryz.prog.info? 51).map (fun i => (i.zero, i.size, i.bytes)) = some (some (.agg #[.int .u32 0, .int .i64 0, .int .i64 0]), 3, 24) := by kernel_rfl
/-- What a tick leaves. -/
def DtP (w w' : World) (lo d : Nat) (v : Value) (S : Sb) (c : Int) (e : Ending) : Prop := ∃ v', e = .returned (.int .i64 (if c ≤ S.t then 173 else 0)) ∧ Db w' lo d v' (if c ≤ S.t then S else { S with L := tik S.L c, t := c }) ∧ Dst w w' d v v'
/-- Inside tick, behind j bookings. -/
structure TiS (w wr : World) (lo d : Nat) (v : Value) (S : Sb) (c : Int) (j : Nat) (q : Value) : Prop where
  db : Db wr lo d v S
  row : wr.ownsRow w.heap.size 51 3 q (tik (S.L.take j) c).length (bgs (tik (S.L.take j) c))
  kp : Kept w wr (dbo d v)
theorem slice_n {w : World} {b m cap : Nat} {e : TypeId} {size n : Nat} {vo : Option Addr} {xs : List Value} (h : w.ownsRow b e size (.slice vo m cap) n xs) : m = n := by
  obtain ⟨_, _, e, -⟩ := Ix.own_form h
  injection e
theorem tik_le (L : List Bg) (c : Int) : (tik L c).length ≤ L.length := List.length_filter_le _ _
theorem own_kept {w w' : World} {b : Nat} {e : TypeId} {size n : Nat} {v : Value} {xs : List Value} {X : Nat → Prop} (h : w.ownsRow b e size v n xs) (k : Kept w w' X) (hX : ∀ i, v.ownBlock = some i → ¬ X i) : w'.ownsRow b e size v n xs :=
  Ix.row_keep h (fun q hq => by obtain ⟨_, cur, hc⟩ := Ix.own_block h hq; exact k.block q (row_lt hc) (hX q hq))
set_option maxRecDepth 20000 in
set_option maxHeartbeats 16000000 in
theorem dtick_any {w : World} {lo d : Nat} {v : Value} {S : Sb} (h : Db w lo d v S) (ho : S.Ok) (c : Int) : Calls Tryz.prog 104 #[.pointer (some ⟨d, 0, none⟩), .int .i64 c] w fun e w' => DtP w w' lo d v S c e := by
  have hL : S.L.length ≤ 4096 := by have := ho.b1; have := ho.few; omega
  have d6 := h.cell (j := 6) rfl
  have f6 := h.free 6
  have HLt := hide h.lt
  have HLo := hide (Nat.le_trans h.ge (Nat.le_of_lt (row_lt h.head)))
  by_cases hc : c ≤ S.t
  · have HF : Hid (DtP w w lo d v S c (.returned (.int .i64 173))) := ⟨v, by rw [if_pos hc], by rw [if_pos hc]; exact h, Dst.refl _ _ _⟩
    clear h ho
    go_enter Tryz.func104, Tryz.ntmps104
    go_wp2
    go_ret
    exact HF.out
  · have hh := h.headed (j := 6) (u := .int .i64 c) (S' := { S with t := c }) (by simp [dbc]) rfl
    obtain ⟨vo, vcap, rfl, -⟩ := Ix.own_form h.row
    obtain ⟨w1, hw1⟩ : ∃ w1, w.setCell ⟨d, 6, none⟩ (.int .i64 c) = w1 := ⟨_, rfl⟩
    have HW := hide hw1
    have HT0 : Hid (TiS w w1 lo d (.slice vo S.L.length vcap) { S with t := c } c 0 (.slice none 0 0)) := by rw [← hw1]; exact ⟨hh.1, World.ownsRow_nil _ _ _ _, hh.2.kept⟩
    have HP : Hid (∀ W v', Db W lo d v' { S with L := tik S.L c, t := c } → Dst w W d (.slice vo S.L.length vcap) v' → DtP w W lo d (.slice vo S.L.length vcap) S c (.returned (.int .i64 0))) := fun W v' h1 h2 => ⟨v', by rw [if_neg hc], by rw [if_neg hc]; exact h1, h2⟩
    have HA : Hid (∀ (wr : World) j vq mq cq x, TiS w wr lo d (.slice vo S.L.length vcap) { S with t := c } c j (.slice vq mq cq) → S.L[j]? = some x → (x.u = 0 ∨ c < x.u) → mq ≤ 4096 → ∀ v' w', w'.ownsRow w.heap.size 51 3 v' (mq + 1) (bgs (tik (S.L.take j) c) ++ bgc x) → (wr.alloc (.cells (bgc x).toArray 51)).grownBy w' (Value.slice vq mq cq).ownBlock → TiS w w' lo d (.slice vo S.L.length vcap) { S with t := c } c (j + 1) v') := by
      intro wr j vq mq cq x ht hj hx hm v' w' ho hg
      have hmq := slice_n ht.row
      have k : Kept wr w' (fun i => (Value.slice vq mq cq).ownBlock = some i) := (Kept.new (grown_alloc wr _) _).trans (Kept.of hg (S := fun i => (Value.slice vq mq cq).ownBlock = some i) (fun j e _ => e)) (fun _ _ e => e)
      have hge : ∀ i, (Value.slice vq mq cq).ownBlock = some i → w.heap.size ≤ i := fun i hi => (Ix.own_block ht.row hi).1
      refine ⟨ht.db.far k (fun i hi e => ?_), ?_, ht.kp.trans k (fun i hi e => ?_)⟩
      · have := HLt.out i hi; have := hge i e; omega
      · show w'.ownsRow w.heap.size 51 3 v' (tik (S.L.take (j + 1)) c).length (bgs (tik (S.L.take (j + 1)) c))
        rw [tik_take hj, if_pos hx, List.length_append, ← hmq, ← bgs_snoc]
        exact ho
      · have := hge i e; omega
    have HEnd : Hid (∀ (wr : World) vq mq cq, TiS w wr lo d (.slice vo S.L.length vcap) { S with t := c } c S.L.length (.slice vq mq cq) → wr.cell? ⟨d, 4, none⟩ = some (.slice vo S.L.length vcap) ∧ wr.frozen? ⟨d, 4, none⟩ = false ∧ Db (wr.setCell ⟨d, 4, none⟩ (.slice vq mq cq)) lo d (.slice vq mq cq) { S with L := tik S.L c, t := c } ∧ Dst w (wr.setCell ⟨d, 4, none⟩ (.slice vq mq cq)) d (.slice vo S.L.length vcap) (.slice vq mq cq)) := by
      intro wr vq mq cq ht
      have hr := row_setCell ht.db.head 4 (.slice vq mq cq)
      have ks := kept_setCell wr d 4 (.slice vq mq cq)
      have hge : ∀ i, (Value.slice vq mq cq).ownBlock = some i → w.heap.size ≤ i := fun i hi => (Ix.own_block ht.row hi).1
      have hd := HLt.out d (.inl rfl)
      have hrow := ht.row
      simp only [List.take_length] at hrow
      refine ⟨ht.db.cell rfl, ht.db.free 4, ⟨hr, ?_, ht.db.ge⟩, ⟨ht.kp.trans ks (fun i _ e => .inl e), fun i hi => .inr (hge i hi)⟩⟩
      exact own_base (own_kept hrow ks (fun i hi e => by have := hge i hi; omega)) HLo.out
    have HB : Hid (∀ (wr : World) j q, TiS w wr lo d (.slice vo S.L.length vcap) { S with t := c } c j q → wr.cell? ⟨d, 4, none⟩ = some (.slice vo S.L.length vcap) ∧ ∀ i, i < S.L.length → ∃ g, vo = some ⟨g, 0, none⟩ ∧ wr.cell? ⟨g, i * 3, none⟩ = some (.int .u32 ((rd S.L i).i : Int)) ∧ wr.cell? ⟨g, i * 3 + 1, none⟩ = some (.int .i64 ((rd S.L i).s : Int)) ∧ wr.cell? ⟨g, i * 3 + 2, none⟩ = some (.int .i64 (rd S.L i).u)) := by
      intro wr j q ht
      refine ⟨ht.db.cell rfl, fun i hi => ?_⟩
      obtain ⟨ao, cap, e, hb⟩ := ht.db.bga.ex
      cases e
      exact hb i hi
    obtain ⟨i0, hi0, hz0, hz1, hz2⟩ := info_parts info108
    have HI0 := hide (And.intro hi0 (And.intro hz0 (And.intro hz1 hz2)))
    have HLs := hide hL
    clear h ho hh hw1 hi0 hz0 hz1 hz2
    go_enter Tryz.func104, Tryz.ntmps104
    go_wp2
    rw [HW.out]
    clear HW d6 f6
    go_loopg [5, 6] S.L.length (fun k q5 q6 wr => ∃ (j : Nat) (vq : Option Addr) (mq cq : Nat), k + j = S.L.length ∧ q6 = .int .i64 (j : Int) ∧ q5 = .slice vq mq cq ∧ Hid (TiS w wr lo d (.slice vo S.L.length vcap) { S with t := c } c j (.slice vq mq cq)))
    case atStart => exact ⟨0, none, 0, 0, by omega, rfl, rfl, HT0.out⟩
    case round =>
      clear HT0
      obtain ⟨j, vq, mq, cq, hkj, rfl, rfl, HT⟩ := hrel
      obtain ⟨d4, hb⟩ := HB.out _ _ _ HT.out
      have hmq : mq ≤ 4096 := by
        have h1 := slice_n HT.out.row
        have h2 := tik_le (S.L.take j) c
        have h3 := HLs.out
        simp only at h1
        rw [List.length_take] at h2
        omega
      by_cases hk : 0 < gk
      · have hj : j < S.L.length := by omega
        have h1 : (j : Int) < (S.L.length : Int) := by omega
        have h0 : (0 : Int) ≤ (j : Int) := by omega
        obtain ⟨g, rfl, e0, e1, e2⟩ := hb j hj
        have HJ := hide (rd_get hj)
        clear hb
        have hL' := HLs.out
        by_cases hx : (rd S.L j).u = 0 ∨ c < (rd S.L j).u
        · have HXs := hide hx
          have HRow := hide (And.intro (HT.out.row.alloc (.cells (bgc (rd S.L j)).toArray 51)) (And.intro (cell3_new wr (rd S.L j) 51) HT.out.kp.size))
          have HAp := hide (fun v' w' => HA.out wr j vq mq cq (rd S.L j) HT.out HJ.out HXs.out hmq v' w')
          obtain ⟨Lt, hLt⟩ : ∃ Lt, Lt = bgs (tik (S.L.take j) c) := ⟨_, rfl⟩
          have hlen : (tik (S.L.take j) c).length = mq := (slice_n HT.out.row).symm
          simp only [← hLt, hlen] at HRow HAp
          clear hLt hlen
          have HMq := hide hmq
          have HOc := hide (bgc_one (rd S.L j))
          unfold bgc at HRow HAp HOc
          generalize (rd S.L j).i = xi at *
          generalize (rd S.L j).s = xs at *
          generalize (rd S.L j).u = xu at *
          clear hx
          by_cases hu : xu = 0
          · subst hu
            go_wp2_with (at_builtin; refine wpList_append_own _ rfl (.tmp 47) (.tmp 55) 40 rfl w.heap.size 51 i0 (.agg #[.int .u32 0, .int .i64 0, .int .i64 0]) 3 24 Tryz.underlying40 HI0.out.1 HI0.out.2.1 HI0.out.2.2.1 HI0.out.2.2.2 rfl (by decide) (.slice vq mq cq) mq Lt rfl HRow.out.1 ⟨wr.heap.size, 0, none⟩ 1 1 [.int .u32 (xi : Int), .int .i64 (xs : Int), .int .i64 0] rfl rfl HRow.out.2.1 HOc.out (by have := HMq.out; unfold maxLen; omega) (by have := HMq.out; omega) (by have := HRow.out.2.2; simp; omega) ?_)
            intro v' w' hov hg hv
            clear hv
            obtain ⟨vo', vc', rfl, -⟩ := Ix.own_form hov
            have HN := hide (HAp.out _ _ hov hg)
            clear hov hg
            go_wp2
            go_roundg (gk - 1)
            case measure => omega
            case rel => exact ⟨j + 1, vo', mq + 1, vc', by omega, by go_num, rfl, HN.out⟩
          · have f1 : (xu == 0) = false := by simpa using hu
            have f2 : decide (xu = 0) = false := by simpa using hu
            have f3 : c < xu := by have := HXs.out; omega
            go_wp2_with (at_builtin; refine wpList_append_own _ rfl (.tmp 47) (.tmp 55) 40 rfl w.heap.size 51 i0 (.agg #[.int .u32 0, .int .i64 0, .int .i64 0]) 3 24 Tryz.underlying40 HI0.out.1 HI0.out.2.1 HI0.out.2.2.1 HI0.out.2.2.2 rfl (by decide) (.slice vq mq cq) mq Lt rfl HRow.out.1 ⟨wr.heap.size, 0, none⟩ 1 1 [.int .u32 (xi : Int), .int .i64 (xs : Int), .int .i64 xu] rfl rfl HRow.out.2.1 HOc.out (by have := HMq.out; unfold maxLen; omega) (by have := HMq.out; omega) (by have := HRow.out.2.2; simp; omega) ?_)
            intro v' w' hov hg hv
            clear hv
            obtain ⟨vo', vc', rfl, -⟩ := Ix.own_form hov
            have HN := hide (HAp.out _ _ hov hg)
            clear hov hg
            go_wp2
            go_roundg (gk - 1)
            case measure => omega
            case rel => exact ⟨j + 1, vo', mq + 1, vc', by omega, by go_num, rfl, HN.out⟩
        · have HN : Hid (TiS w wr lo d (.slice (some ⟨g, 0, none⟩) S.L.length vcap) { S with t := c } c (j + 1) (.slice vq mq cq)) := by
            refine ⟨HT.out.db, ?_, HT.out.kp⟩
            have := HT.out.row
            show wr.ownsRow w.heap.size 51 3 _ (tik (S.L.take (j + 1)) c).length (bgs (tik (S.L.take (j + 1)) c))
            rw [tik_take HJ.out, if_neg hx, List.append_nil]
            exact this
          generalize (rd S.L j).i = xi at *
          generalize (rd S.L j).s = xs at *
          generalize (rd S.L j).u = xu at *
          have f1 : (xu == 0) = false := by simp; omega
          have f2 : decide (xu = 0) = false := by simp; omega
          have f3 : ¬ c < xu := by omega
          clear hx
          go_wp2
          go_roundg (gk - 1)
          case measure => omega
          case rel => exact ⟨j + 1, vq, mq, cq, by omega, by go_num, rfl, HN.out⟩
      · have hj : j = S.L.length := by omega
        have HT' := HT.out
        rw [hj] at HT'
        obtain ⟨y4, z4, h5, h6⟩ := HEnd.out wr vq mq cq HT'
        have HF := hide (HP.out _ _ h5 h6)
        clear h5 h6 HT' hb HT d4
        subst hj
        go_wp2
        go_ret
        exact HF.out
end Go.Proofs.YtjfhilignbeboaaGreatDoor
/- The document's records: time, may, Check, Size. -/
namespace Go.Proofs.YtjfhilignbeboaaGreatDoor.Rk
open Go.RowKit
attribute [local go_sem ↓] Go.wp_at_zero Go.wp_at_succ
theorem time_any (n : Int) (w : World) : Calls Tryz.prog 167 #[.int .i64 n] w fun e w' => e = .returned (.bool (decide (1 ≤ n ∧ n ≤ mxC))) ∧ w' = w := by
  by_cases h1 : 1 ≤ n
  · by_cases h2 : n ≤ 1099511627776
    · rw [decide_eq_true (show 1 ≤ n ∧ n ≤ mxC from ⟨h1, h2⟩)]
      go_enter Tryz.func167, Tryz.ntmps167
      go_wp2
      go_ret
      exact ⟨rfl, rfl⟩
    · rw [decide_eq_false (show ¬ (1 ≤ n ∧ n ≤ mxC) from fun h => h2 h.2)]
      go_enter Tryz.func167, Tryz.ntmps167
      go_wp2
      go_ret
      exact ⟨rfl, rfl⟩
  · rw [decide_eq_false (show ¬ (1 ≤ n ∧ n ≤ mxC) from fun h => h1 h.1)]
    go_enter Tryz.func167, Tryz.ntmps167
    go_wp2
    go_ret
    exact ⟨rfl, rfl⟩
set_option maxHeartbeats 4000000 in
theorem rmay_1 (i s u c : Int) (hi : 0 ≤ i) (w : World) : Calls Tryz.prog 148 #[rcV ⟨1, i, s, u, c⟩] w fun e w' => e = .returned (.bool (decide (Rc.mk 1 i s u c).May)) ∧ w.grownBy w' none := by
  have HO := hi
  clear hi
  obtain ⟨res, hres⟩ : ∃ res, res = decide (Rc.mk 1 i s u c).May := ⟨_, rfl⟩
  rw [← hres]
  unfold rcV
  obtain ⟨c0, c1, c2, c3, c4⟩ := box5 (heap_alloc_new w (.cells [Value.int .i64 1, .int .u32 i, .int .i64 s, .int .i64 u, .int .i64 c].toArray 28))
  have HG := hide (World.grownBy_alloc w (.cells [Value.int .i64 1, .int .u32 i, .int .i64 s, .int .i64 u, .int .i64 c].toArray 28) none)
  by_cases hi : i = 0
  · subst hi
    obtain rfl : res = false := by rw [hres]; apply decide_eq_false; unfold Rc.May mxC; (try unfold mxC at *); dsimp only; omega
    clear HO hres
    go_enter Tryz.func148, Tryz.ntmps148
    go_wp2_with (go_at_call 167; refine (qt _).mono ?_; rintro e wt ⟨rfl, hwt⟩; obtain rfl := hwt.symm)
    all_goals
      go_ret
      exact ⟨rfl, HG.out⟩
  · have ei : (i == 0) = false := by simpa using hi
    have ni : (i != 0) = true := by simpa using hi
    have di : decide (i = 0) = false := by simpa using hi
    by_cases hs : 0 ≤ s
    · by_cases ht : s < 1024
      · skip
        have qt := time_any u
        by_cases hx : 1 ≤ u ∧ u ≤ mxC
        · rw [decide_eq_true hx] at qt
          by_cases hc : c = 0
          · subst hc
            obtain rfl : res = true := by rw [hres]; apply decide_eq_true; unfold Rc.May mxC; (try unfold mxC at *); dsimp only; omega
            clear HO hres
            go_enter Tryz.func148, Tryz.ntmps148
            go_wp2_with (go_at_call 167; refine (qt _).mono ?_; rintro e wt ⟨rfl, hwt⟩; obtain rfl := hwt.symm)
            all_goals
              go_ret
              exact ⟨rfl, HG.out⟩
          · have ec : (c == 0) = false := by simpa using hc
            have dc : decide (c = 0) = false := by simpa using hc
            obtain rfl : res = false := by rw [hres]; apply decide_eq_false; unfold Rc.May mxC; (try unfold mxC at *); dsimp only; omega
            clear HO hres
            go_enter Tryz.func148, Tryz.ntmps148
            go_wp2_with (go_at_call 167; refine (qt _).mono ?_; rintro e wt ⟨rfl, hwt⟩; obtain rfl := hwt.symm)
            all_goals
              go_ret
              exact ⟨rfl, HG.out⟩
        · rw [decide_eq_false hx] at qt
          obtain rfl : res = false := by rw [hres]; apply decide_eq_false; unfold Rc.May mxC; (try unfold mxC at *); dsimp only; omega
          clear HO hres
          go_enter Tryz.func148, Tryz.ntmps148
          go_wp2_with (go_at_call 167; refine (qt _).mono ?_; rintro e wt ⟨rfl, hwt⟩; obtain rfl := hwt.symm)
          all_goals
            go_ret
            exact ⟨rfl, HG.out⟩
      · skip
        obtain rfl : res = false := by rw [hres]; apply decide_eq_false; unfold Rc.May mxC; (try unfold mxC at *); dsimp only; omega
        clear HO hres
        go_enter Tryz.func148, Tryz.ntmps148
        go_wp2_with (go_at_call 167; refine (qt _).mono ?_; rintro e wt ⟨rfl, hwt⟩; obtain rfl := hwt.symm)
        all_goals
          go_ret
          exact ⟨rfl, HG.out⟩
    · skip
      obtain rfl : res = false := by rw [hres]; apply decide_eq_false; unfold Rc.May mxC; (try unfold mxC at *); dsimp only; omega
      clear HO hres
      go_enter Tryz.func148, Tryz.ntmps148
      go_wp2_with (go_at_call 167; refine (qt _).mono ?_; rintro e wt ⟨rfl, hwt⟩; obtain rfl := hwt.symm)
      all_goals
        go_ret
        exact ⟨rfl, HG.out⟩
set_option maxHeartbeats 4000000 in
theorem rmay_2 (i s u c : Int) (hi : 0 ≤ i) (w : World) : Calls Tryz.prog 148 #[rcV ⟨2, i, s, u, c⟩] w fun e w' => e = .returned (.bool (decide (Rc.mk 2 i s u c).May)) ∧ w.grownBy w' none := by
  have HO := hi
  clear hi
  obtain ⟨res, hres⟩ : ∃ res, res = decide (Rc.mk 2 i s u c).May := ⟨_, rfl⟩
  rw [← hres]
  unfold rcV
  obtain ⟨c0, c1, c2, c3, c4⟩ := box5 (heap_alloc_new w (.cells [Value.int .i64 2, .int .u32 i, .int .i64 s, .int .i64 u, .int .i64 c].toArray 28))
  have HG := hide (World.grownBy_alloc w (.cells [Value.int .i64 2, .int .u32 i, .int .i64 s, .int .i64 u, .int .i64 c].toArray 28) none)
  by_cases hi : i = 0
  · subst hi
    obtain rfl : res = false := by rw [hres]; apply decide_eq_false; unfold Rc.May mxC; (try unfold mxC at *); dsimp only; omega
    clear HO hres
    go_enter Tryz.func148, Tryz.ntmps148
    go_wp2_with (go_at_call 167; refine (qt _).mono ?_; rintro e wt ⟨rfl, hwt⟩; obtain rfl := hwt.symm)
    all_goals
      go_ret
      exact ⟨rfl, HG.out⟩
  · have ei : (i == 0) = false := by simpa using hi
    have ni : (i != 0) = true := by simpa using hi
    have di : decide (i = 0) = false := by simpa using hi
    by_cases hs : s = 0
    · subst hs
      by_cases hu : u = 0
      · subst hu
        by_cases hc : c = 0
        · subst hc
          obtain rfl : res = true := by rw [hres]; apply decide_eq_true; unfold Rc.May mxC; (try unfold mxC at *); dsimp only; omega
          clear HO hres
          go_enter Tryz.func148, Tryz.ntmps148
          go_wp2_with (go_at_call 167; refine (qt _).mono ?_; rintro e wt ⟨rfl, hwt⟩; obtain rfl := hwt.symm)
          all_goals
            go_ret
            exact ⟨rfl, HG.out⟩
        · have ec : (c == 0) = false := by simpa using hc
          have dc : decide (c = 0) = false := by simpa using hc
          obtain rfl : res = false := by rw [hres]; apply decide_eq_false; unfold Rc.May mxC; (try unfold mxC at *); dsimp only; omega
          clear HO hres
          go_enter Tryz.func148, Tryz.ntmps148
          go_wp2_with (go_at_call 167; refine (qt _).mono ?_; rintro e wt ⟨rfl, hwt⟩; obtain rfl := hwt.symm)
          all_goals
            go_ret
            exact ⟨rfl, HG.out⟩
      · have eu : (u == 0) = false := by simpa using hu
        have du : decide (u = 0) = false := by simpa using hu
        obtain rfl : res = false := by rw [hres]; apply decide_eq_false; unfold Rc.May mxC; (try unfold mxC at *); dsimp only; omega
        clear HO hres
        go_enter Tryz.func148, Tryz.ntmps148
        go_wp2_with (go_at_call 167; refine (qt _).mono ?_; rintro e wt ⟨rfl, hwt⟩; obtain rfl := hwt.symm)
        all_goals
          go_ret
          exact ⟨rfl, HG.out⟩
    · have es : (s == 0) = false := by simpa using hs
      have ds : decide (s = 0) = false := by simpa using hs
      obtain rfl : res = false := by rw [hres]; apply decide_eq_false; unfold Rc.May mxC; (try unfold mxC at *); dsimp only; omega
      clear HO hres
      go_enter Tryz.func148, Tryz.ntmps148
      go_wp2_with (go_at_call 167; refine (qt _).mono ?_; rintro e wt ⟨rfl, hwt⟩; obtain rfl := hwt.symm)
      all_goals
        go_ret
        exact ⟨rfl, HG.out⟩
set_option maxHeartbeats 4000000 in
theorem rmay_3 (i s u c : Int) (hi : 0 ≤ i) (w : World) : Calls Tryz.prog 148 #[rcV ⟨3, i, s, u, c⟩] w fun e w' => e = .returned (.bool (decide (Rc.mk 3 i s u c).May)) ∧ w.grownBy w' none := by
  have HO := hi
  clear hi
  obtain ⟨res, hres⟩ : ∃ res, res = decide (Rc.mk 3 i s u c).May := ⟨_, rfl⟩
  rw [← hres]
  unfold rcV
  obtain ⟨c0, c1, c2, c3, c4⟩ := box5 (heap_alloc_new w (.cells [Value.int .i64 3, .int .u32 i, .int .i64 s, .int .i64 u, .int .i64 c].toArray 28))
  have HG := hide (World.grownBy_alloc w (.cells [Value.int .i64 3, .int .u32 i, .int .i64 s, .int .i64 u, .int .i64 c].toArray 28) none)
  by_cases hi : i = 0
  · subst hi
    obtain rfl : res = false := by rw [hres]; apply decide_eq_false; unfold Rc.May mxC; (try unfold mxC at *); dsimp only; omega
    clear HO hres
    go_enter Tryz.func148, Tryz.ntmps148
    go_wp2_with (go_at_call 167; refine (qt _).mono ?_; rintro e wt ⟨rfl, hwt⟩; obtain rfl := hwt.symm)
    all_goals
      go_ret
      exact ⟨rfl, HG.out⟩
  · have ei : (i == 0) = false := by simpa using hi
    have ni : (i != 0) = true := by simpa using hi
    have di : decide (i = 0) = false := by simpa using hi
    by_cases hs : s = 0
    · subst hs
      by_cases hu : u = 0
      · subst hu
        by_cases hc : c = 0
        · subst hc
          obtain rfl : res = true := by rw [hres]; apply decide_eq_true; unfold Rc.May mxC; (try unfold mxC at *); dsimp only; omega
          clear HO hres
          go_enter Tryz.func148, Tryz.ntmps148
          go_wp2_with (go_at_call 167; refine (qt _).mono ?_; rintro e wt ⟨rfl, hwt⟩; obtain rfl := hwt.symm)
          all_goals
            go_ret
            exact ⟨rfl, HG.out⟩
        · have ec : (c == 0) = false := by simpa using hc
          have dc : decide (c = 0) = false := by simpa using hc
          obtain rfl : res = false := by rw [hres]; apply decide_eq_false; unfold Rc.May mxC; (try unfold mxC at *); dsimp only; omega
          clear HO hres
          go_enter Tryz.func148, Tryz.ntmps148
          go_wp2_with (go_at_call 167; refine (qt _).mono ?_; rintro e wt ⟨rfl, hwt⟩; obtain rfl := hwt.symm)
          all_goals
            go_ret
            exact ⟨rfl, HG.out⟩
      · have eu : (u == 0) = false := by simpa using hu
        have du : decide (u = 0) = false := by simpa using hu
        obtain rfl : res = false := by rw [hres]; apply decide_eq_false; unfold Rc.May mxC; (try unfold mxC at *); dsimp only; omega
        clear HO hres
        go_enter Tryz.func148, Tryz.ntmps148
        go_wp2_with (go_at_call 167; refine (qt _).mono ?_; rintro e wt ⟨rfl, hwt⟩; obtain rfl := hwt.symm)
        all_goals
          go_ret
          exact ⟨rfl, HG.out⟩
    · have es : (s == 0) = false := by simpa using hs
      have ds : decide (s = 0) = false := by simpa using hs
      obtain rfl : res = false := by rw [hres]; apply decide_eq_false; unfold Rc.May mxC; (try unfold mxC at *); dsimp only; omega
      clear HO hres
      go_enter Tryz.func148, Tryz.ntmps148
      go_wp2_with (go_at_call 167; refine (qt _).mono ?_; rintro e wt ⟨rfl, hwt⟩; obtain rfl := hwt.symm)
      all_goals
        go_ret
        exact ⟨rfl, HG.out⟩
set_option maxHeartbeats 4000000 in
theorem rmay_4 (i s u c : Int) (hi : 0 ≤ i) (w : World) : Calls Tryz.prog 148 #[rcV ⟨4, i, s, u, c⟩] w fun e w' => e = .returned (.bool (decide (Rc.mk 4 i s u c).May)) ∧ w.grownBy w' none := by
  have HO := hi
  clear hi
  obtain ⟨res, hres⟩ : ∃ res, res = decide (Rc.mk 4 i s u c).May := ⟨_, rfl⟩
  rw [← hres]
  unfold rcV
  obtain ⟨c0, c1, c2, c3, c4⟩ := box5 (heap_alloc_new w (.cells [Value.int .i64 4, .int .u32 i, .int .i64 s, .int .i64 u, .int .i64 c].toArray 28))
  have HG := hide (World.grownBy_alloc w (.cells [Value.int .i64 4, .int .u32 i, .int .i64 s, .int .i64 u, .int .i64 c].toArray 28) none)
  by_cases hi : i = 0
  · subst hi
    obtain rfl : res = false := by rw [hres]; apply decide_eq_false; unfold Rc.May mxC; (try unfold mxC at *); dsimp only; omega
    clear HO hres
    go_enter Tryz.func148, Tryz.ntmps148
    go_wp2_with (go_at_call 167; refine (qt _).mono ?_; rintro e wt ⟨rfl, hwt⟩; obtain rfl := hwt.symm)
    all_goals
      go_ret
      exact ⟨rfl, HG.out⟩
  · have ei : (i == 0) = false := by simpa using hi
    have ni : (i != 0) = true := by simpa using hi
    have di : decide (i = 0) = false := by simpa using hi
    by_cases hs : 0 ≤ s
    · by_cases ht : s < 1024
      · skip
        by_cases hu : u = 0
        · subst hu
          by_cases hc : c = 0
          · subst hc
            obtain rfl : res = true := by rw [hres]; apply decide_eq_true; unfold Rc.May mxC; (try unfold mxC at *); dsimp only; omega
            clear HO hres
            go_enter Tryz.func148, Tryz.ntmps148
            go_wp2_with (go_at_call 167; refine (qt _).mono ?_; rintro e wt ⟨rfl, hwt⟩; obtain rfl := hwt.symm)
            all_goals
              go_ret
              exact ⟨rfl, HG.out⟩
          · have ec : (c == 0) = false := by simpa using hc
            have dc : decide (c = 0) = false := by simpa using hc
            obtain rfl : res = false := by rw [hres]; apply decide_eq_false; unfold Rc.May mxC; (try unfold mxC at *); dsimp only; omega
            clear HO hres
            go_enter Tryz.func148, Tryz.ntmps148
            go_wp2_with (go_at_call 167; refine (qt _).mono ?_; rintro e wt ⟨rfl, hwt⟩; obtain rfl := hwt.symm)
            all_goals
              go_ret
              exact ⟨rfl, HG.out⟩
        · have eu : (u == 0) = false := by simpa using hu
          have du : decide (u = 0) = false := by simpa using hu
          obtain rfl : res = false := by rw [hres]; apply decide_eq_false; unfold Rc.May mxC; (try unfold mxC at *); dsimp only; omega
          clear HO hres
          go_enter Tryz.func148, Tryz.ntmps148
          go_wp2_with (go_at_call 167; refine (qt _).mono ?_; rintro e wt ⟨rfl, hwt⟩; obtain rfl := hwt.symm)
          all_goals
            go_ret
            exact ⟨rfl, HG.out⟩
      · skip
        obtain rfl : res = false := by rw [hres]; apply decide_eq_false; unfold Rc.May mxC; (try unfold mxC at *); dsimp only; omega
        clear HO hres
        go_enter Tryz.func148, Tryz.ntmps148
        go_wp2_with (go_at_call 167; refine (qt _).mono ?_; rintro e wt ⟨rfl, hwt⟩; obtain rfl := hwt.symm)
        all_goals
          go_ret
          exact ⟨rfl, HG.out⟩
    · skip
      obtain rfl : res = false := by rw [hres]; apply decide_eq_false; unfold Rc.May mxC; (try unfold mxC at *); dsimp only; omega
      clear HO hres
      go_enter Tryz.func148, Tryz.ntmps148
      go_wp2_with (go_at_call 167; refine (qt _).mono ?_; rintro e wt ⟨rfl, hwt⟩; obtain rfl := hwt.symm)
      all_goals
        go_ret
        exact ⟨rfl, HG.out⟩
set_option maxHeartbeats 4000000 in
theorem rmay_5 (i s u c : Int) (hi : 0 ≤ i) (w : World) : Calls Tryz.prog 148 #[rcV ⟨5, i, s, u, c⟩] w fun e w' => e = .returned (.bool (decide (Rc.mk 5 i s u c).May)) ∧ w.grownBy w' none := by
  have HO := hi
  clear hi
  obtain ⟨res, hres⟩ : ∃ res, res = decide (Rc.mk 5 i s u c).May := ⟨_, rfl⟩
  rw [← hres]
  unfold rcV
  obtain ⟨c0, c1, c2, c3, c4⟩ := box5 (heap_alloc_new w (.cells [Value.int .i64 5, .int .u32 i, .int .i64 s, .int .i64 u, .int .i64 c].toArray 28))
  have HG := hide (World.grownBy_alloc w (.cells [Value.int .i64 5, .int .u32 i, .int .i64 s, .int .i64 u, .int .i64 c].toArray 28) none)
  by_cases hi : i = 0
  · subst hi
    by_cases hs : s = 0
    · subst hs
      by_cases hu : u = 0
      · subst hu
        have qt := time_any c
        by_cases hx : 1 ≤ c ∧ c ≤ mxC
        · rw [decide_eq_true hx] at qt
          obtain rfl : res = true := by rw [hres]; apply decide_eq_true; unfold Rc.May mxC; (try unfold mxC at *); dsimp only; omega
          clear HO hres
          go_enter Tryz.func148, Tryz.ntmps148
          go_wp2_with (go_at_call 167; refine (qt _).mono ?_; rintro e wt ⟨rfl, hwt⟩; obtain rfl := hwt.symm)
          all_goals
            go_ret
            exact ⟨rfl, HG.out⟩
        · rw [decide_eq_false hx] at qt
          obtain rfl : res = false := by rw [hres]; apply decide_eq_false; unfold Rc.May mxC; (try unfold mxC at *); dsimp only; omega
          clear HO hres
          go_enter Tryz.func148, Tryz.ntmps148
          go_wp2_with (go_at_call 167; refine (qt _).mono ?_; rintro e wt ⟨rfl, hwt⟩; obtain rfl := hwt.symm)
          all_goals
            go_ret
            exact ⟨rfl, HG.out⟩
      · have eu : (u == 0) = false := by simpa using hu
        have du : decide (u = 0) = false := by simpa using hu
        obtain rfl : res = false := by rw [hres]; apply decide_eq_false; unfold Rc.May mxC; (try unfold mxC at *); dsimp only; omega
        clear HO hres
        go_enter Tryz.func148, Tryz.ntmps148
        go_wp2_with (go_at_call 167; refine (qt _).mono ?_; rintro e wt ⟨rfl, hwt⟩; obtain rfl := hwt.symm)
        all_goals
          go_ret
          exact ⟨rfl, HG.out⟩
    · have es : (s == 0) = false := by simpa using hs
      have ds : decide (s = 0) = false := by simpa using hs
      obtain rfl : res = false := by rw [hres]; apply decide_eq_false; unfold Rc.May mxC; (try unfold mxC at *); dsimp only; omega
      clear HO hres
      go_enter Tryz.func148, Tryz.ntmps148
      go_wp2_with (go_at_call 167; refine (qt _).mono ?_; rintro e wt ⟨rfl, hwt⟩; obtain rfl := hwt.symm)
      all_goals
        go_ret
        exact ⟨rfl, HG.out⟩
  · have ei : (i == 0) = false := by simpa using hi
    have di : decide (i = 0) = false := by simpa using hi
    obtain rfl : res = false := by rw [hres]; apply decide_eq_false; unfold Rc.May mxC; (try unfold mxC at *); dsimp only; omega
    clear HO hres
    go_enter Tryz.func148, Tryz.ntmps148
    go_wp2_with (go_at_call 167; refine (qt _).mono ?_; rintro e wt ⟨rfl, hwt⟩; obtain rfl := hwt.symm)
    all_goals
      go_ret
      exact ⟨rfl, HG.out⟩
theorem rmay_any (r : Rc) (ho : r.Ok) (w : World) : Calls Tryz.prog 148 #[rcV r] w fun e w' => e = .returned (.bool (decide r.May)) ∧ w.grownBy w' none := by
  have hi := ho.i0
  obtain ⟨k, i, s, u, c⟩ := r
  dsimp only at hi
  by_cases hk : 1 ≤ k ∧ k ≤ 5
  · have hk5 : k = 1 ∨ k = 2 ∨ k = 3 ∨ k = 4 ∨ k = 5 := by omega
    rcases hk5 with rfl | rfl | rfl | rfl | rfl
    · exact rmay_1 i s u c hi w
    · exact rmay_2 i s u c hi w
    · exact rmay_3 i s u c hi w
    · exact rmay_4 i s u c hi w
    · exact rmay_5 i s u c hi w
  · rw [decide_eq_false (may_not_kind (r := ⟨k, i, s, u, c⟩) hk)]
    have e1 : (k == 1) = false := by simp; omega
    have e2 : (k == 2) = false := by simp; omega
    have e3 : (k == 3) = false := by simp; omega
    have e4 : (k == 4) = false := by simp; omega
    have e5 : (k == 5) = false := by simp; omega
    have d1 : decide (k = 1) = false := by simp; omega
    have d2 : decide (k = 2) = false := by simp; omega
    have d3 : decide (k = 3) = false := by simp; omega
    have d4 : decide (k = 4) = false := by simp; omega
    have d5 : decide (k = 5) = false := by simp; omega
    clear hk hi ho
    unfold rcV
    obtain ⟨c0, c1, c2, c3, c4⟩ := box5 (heap_alloc_new w (.cells [Value.int .i64 k, .int .u32 i, .int .i64 s, .int .i64 u, .int .i64 c].toArray 28))
    have HG := hide (World.grownBy_alloc w (.cells [Value.int .i64 k, .int .u32 i, .int .i64 s, .int .i64 u, .int .i64 c].toArray 28) none)
    go_enter Tryz.func148, Tryz.ntmps148
    go_wp2
    all_goals
      go_ret
      exact ⟨rfl, HG.out⟩
theorem check_ref (r : Rc) (ho : r.Ok) (w : World) : Calls Tryz.prog 102 #[rcV r] w fun e w' => e = .returned (.int .i64 (chk r)) ∧ w.grownBy w' none := by
  have g1 := World.grownBy_alloc w (.cells (rcC r).toArray 28) none
  have b1 := heap_alloc_new w (.cells (rcC r).toArray 28)
  have q := rmay_any r ho (w.alloc (.cells (rcC r).toArray 28))
  obtain ⟨c0, c1, c2, c3, c4⟩ := box5 b1
  have G := hide g1
  clear g1 b1 ho
  unfold rcC rcV at *
  by_cases hm : r.May
  · rw [decide_eq_true hm] at q
    rw [show chk r = 0 from if_pos hm]
    clear hm
    go_enter Tryz.func102, Tryz.ntmps102
    go_wp2_with fail
    refine q.mono ?_
    rintro e w1 ⟨rfl, hg⟩
    have HG := hide (grown_trans G.out hg)
    clear hg q
    go_wp2
    go_ret
    exact ⟨rfl, HG.out⟩
  · rw [decide_eq_false hm] at q
    rw [show chk r = 160 from if_neg hm]
    clear hm
    go_enter Tryz.func102, Tryz.ntmps102
    go_wp2_with fail
    refine q.mono ?_
    rintro e w1 ⟨rfl, hg⟩
    have HG := hide (grown_trans G.out hg)
    clear hg q
    go_wp2
    go_ret
    exact ⟨rfl, HG.out⟩
end Go.Proofs.YtjfhilignbeboaaGreatDoor.Rk
