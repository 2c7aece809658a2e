/- Texts joined: BkW, BkR, BkX, BkY, BkZ, BkT, Rp0, Rp2, Rp3, Db0. -/
import Derived.Test.YtcbiloomnkbalaaGreatDoorJyAm
import Derived.RangeFuncWrites
import Derived.ProofKit
import Derived.OpenShut
import Derived.Deep.DeepHandedRow
import Derived.Lib.LaidTab
import Derived.ChangeOld
import Derived.SizedLaws
/- A book of bookings that may be: Of. -/
namespace Go.Proofs.YtcbiloomnkbalaaGreatDoor
open Go.RowKit
attribute [local go_sem ↓] Go.wp_at_zero Go.wp_at_succ
attribute [local go_sem] Oper.semAt_some
set_option maxHeartbeats 4000000 in
theorem mayLast_ok {w : World} {p : Bp} {S : Sb} {K : Nat} (h : BkAt w p S K) {u : Int} (hu : u = 0 ∨ (S.t < u ∧ u ≤ mxC)) : Calls Tryz.prog 72 #[.pointer (some ⟨p.b, 0, none⟩), .int .i64 u] w fun e w' => e = .returned (.bool true) ∧ w' = w := by
  have c5 := h.cells 5 _ rfl
  clear h
  by_cases hz : u = 0
  · subst hz
    go_enter Tryz.func72, Tryz.ntmps72
    go_wp2
    go_ret
    exact ⟨rfl, rfl⟩
  · have h1 : S.t < u := by omega
    have h2 : u ≤ 1099511627776 := by rcases hu with e | e; exact absurd e hz; exact e.2
    have hz1 : (u == 0) = false := by simpa using hz
    have hz2 : decide (u = 0) = false := by simpa using hz
    clear hu
    go_enter Tryz.func72, Tryz.ntmps72
    go_wp2
    go_ret
    exact ⟨rfl, rfl⟩
set_option maxRecDepth 20000 in
set_option maxHeartbeats 8000000 in
theorem mayHave_ok {w : World} {p : Bp} {S : Sb} {K : Nat} (h : BkAt w p S K) (x : Bg) (hi : x.i < S.n) (hs : x.s < S.a) (hn : sat S.L x.s = none) (hf : S.L.length < S.b) (hu : x.u = 0 ∨ (S.t < x.u ∧ x.u ≤ mxC)) : Calls Tryz.prog 41 #[.pointer (some ⟨p.b, 0, none⟩), bgV x] w fun e w' => e = .returned (.bool true) ∧ w.grownBy w' none := by
  obtain ⟨xi, xs, xu⟩ := x
  simp only at hi hs hn hu
  have m0 := Bm.start h (bgc ⟨xi, xs, xu⟩) 78
  have HS : Hid (∀ W, Calls Tryz.prog 55 #[limV S.a S.b S.c, .int .i64 (xs : Int)] W fun e w' => e = .returned (.bool true) ∧ W.grownBy w' none) := by
    intro W
    have := hasSeat_any S.a S.b S.c (xs : Int) W
    rw [decide_eq_true (show (0 : Int) ≤ (xs : Int) ∧ (xs : Int) < (S.a : Int) by omega)] at this
    exact this
  have HR : Hid (∀ W, Calls Tryz.prog 71 #[limV S.a S.b S.c, .int .i64 (S.L.length : Int)] W fun e w' => e = .returned (.bool true) ∧ W.grownBy w' none) := by
    intro W
    have := hasRoom_any S.a S.b S.c (S.L.length : Int) W
    rw [decide_eq_true (show (S.L.length : Int) < (S.b : Int) by omega)] at this
    exact this
  have HH : Hid (∀ W, Bm w W w.heap.size (bgc ⟨xi, xs, xu⟩) 78 p S K → Calls Tryz.prog 56 #[.pointer (some ⟨p.tb, 0, none⟩), .int .i64 (xs : Int)] W fun e w' => e = .returned (.bool false) ∧ W.grownBy w' none) := by
    intro W hW
    have := hW.bk.has xs hs
    rw [hn] at this
    exact this
  have HL : Hid (∀ W, Bm w W w.heap.size (bgc ⟨xi, xs, xu⟩) 78 p S K → Calls Tryz.prog 53 #[.pointer (some ⟨p.ip.x, 0, none⟩)] W fun e w' => e = .returned (.int .i64 (S.L.length : Int)) ∧ w' = W) := fun W hW => hW.bk.len
  have HM : Hid (∀ W, Bm w W w.heap.size (bgc ⟨xi, xs, xu⟩) 78 p S K → Calls Tryz.prog 72 #[.pointer (some ⟨p.b, 0, none⟩), .int .i64 xu] W fun e w' => e = .returned (.bool true) ∧ w' = W) := fun W hW => mayLast_ok hW.bk hu
  have HK : Hid (∀ W, Bm w W w.heap.size (bgc ⟨xi, xs, xu⟩) 78 p S K → W.cell? ⟨p.b, 0, none⟩ = some (.int .i64 (S.a : Int)) ∧ W.cell? ⟨p.b, 1, none⟩ = some (.int .i64 (S.b : Int)) ∧ W.cell? ⟨p.b, 2, none⟩ = some (.int .i64 (S.c : Int)) ∧ W.cell? ⟨p.b, 4, none⟩ = some (.int .u32 (S.n : Int)) ∧ W.cell? ⟨p.b, 6, none⟩ = some (.pointer (some ⟨p.tb, 0, none⟩)) ∧ W.cell? ⟨p.b, 8, none⟩ = some (.pointer (some ⟨p.ip.x, 0, none⟩)) ∧ W.cell? ⟨w.heap.size, 0, none⟩ = some (.int .u32 (xi : Int)) ∧ W.cell? ⟨w.heap.size, 1, none⟩ = some (.int .i64 (xs : Int)) ∧ W.cell? ⟨w.heap.size, 2, none⟩ = some (.int .i64 xu)) := fun W m => ⟨m.ff.a0, m.ff.a1, m.ff.a2, m.ff.a4, m.ff.a6, m.ff.a8, m.ff.bx 0 _ rfl, m.ff.bx 1 _ rfl, m.ff.bx 2 _ rfl⟩
  unfold limV at HS HR
  unfold bgc at m0 HH HL HM HK
  have hK0 := HK.out _ m0
  have h1 : (xi : Int) < (S.n : Int) := by omega
  clear h hs hn hf hu hi
  unfold bgV
  go_enter Tryz.func41, Tryz.ntmps41
  go_wp2
  generalize World.alloc w _ = w0 at *
  go_region_held3 (fun W => W.cell? ⟨p.b, 0, none⟩ = some (.int .i64 (S.a : Int)) ∧ W.cell? ⟨p.b, 1, none⟩ = some (.int .i64 (S.b : Int)) ∧ W.cell? ⟨p.b, 2, none⟩ = some (.int .i64 (S.c : Int)) ∧ W.cell? ⟨p.b, 4, none⟩ = some (.int .u32 (S.n : Int)) ∧ W.cell? ⟨p.b, 6, none⟩ = some (.pointer (some ⟨p.tb, 0, none⟩)) ∧ W.cell? ⟨p.b, 8, none⟩ = some (.pointer (some ⟨p.ip.x, 0, none⟩)) ∧ W.cell? ⟨w.heap.size, 0, none⟩ = some (.int .u32 (xi : Int)) ∧ W.cell? ⟨w.heap.size, 1, none⟩ = some (.int .i64 (xs : Int)) ∧ W.cell? ⟨w.heap.size, 2, none⟩ = some (.int .i64 xu)) (first | assumption | exact hK0)
    ((first
      | (go_at_call 55; refine (HS.out _).mono ?_; rintro e w2 ⟨rfl, hg2⟩; have m2 := (Bm.then m0 (grown_drew _ none)).then hg2; have hK2 := HK.out _ m2)
      | (go_at_call 56; refine (HH.out _ m2).mono ?_; rintro e w3 ⟨rfl, hg3⟩; have m3 := Bm.then m2 hg3; have hK3 := HK.out _ m3)
      | (go_at_call 53; refine (HL.out _ m3).mono ?_; rintro e w4 ⟨rfl, rfl⟩)
      | (go_at_call 71; refine (HR.out _).mono ?_; rintro e w5 ⟨rfl, hg5⟩; have m5 := Bm.then m3 hg5; have hK5 := HK.out _ m5)
      | (go_at_call 72; refine (HM.out _ m5).mono ?_; rintro e w6 ⟨rfl, rfl⟩)))
  go_wp2
  go_ret
  exact ⟨rfl, m5.gr⟩
/-- Bookings ahead of one. -/
theorem take_ok {L : List Bg} (hA : AscB L) (hO : OneS L) {j : Nat} (hj : j < L.length) : (∀ y ∈ L.take j, y.i < (rd L j).i) ∧ sat (L.take j) (rd L j).s = none := by
  have h1 := pre_facts (L := L) (pre := L.take j) (x := rd L j) (by rw [take_rd hj]; exact List.take_prefix _ _) hA hO
  exact ⟨h1.2.1, h1.2.2.1⟩
theorem last_le {L : List Bg} (hA : AscB L) {j l : Nat} (hl : ∀ k, j ≤ k → k < L.length → l ≤ (rd L k).i) (hj : j < L.length) : l ≤ (rd L j).i ∧ ∀ k, j + 1 ≤ k → k < L.length → (rd L j).i + 1 ≤ (rd L k).i :=
  ⟨hl j (Nat.le_refl _) hj, fun k h1 h2 => rd_asc hA (by omega) h2⟩
set_option maxRecDepth 20000 in
set_option maxHeartbeats 8000000 in
theorem of_ok {w : World} {v : Value} {a b c n : Nat} {t : Int} {L : List Bg} (hS : Sb.Ok ⟨a, b, c, n, t, L⟩) (hv : BgA w v L) (hz : 0 < w.heap.size) : Calls Tryz.prog 11 #[limV a b c, .int .u32 (n : Int), .int .i64 t, v] w fun e w' => ∃ x p, e = .returned (.tuple #[.pointer (some ⟨x, 0, none⟩), .int .i64 0]) ∧ Lk w w' x ⟨a, b, c, n, t, L⟩ 4096 p [] := by
  have hok : Gx.OkS a b c := by have h1 := hS.a0; have h2 := hS.a1; have h3 := hS.b0; have h4 := hS.b1; have h5 := hS.c0; have h6 := hS.c1; simp only at h1 h2 h3 h4 h5 h6; unfold Gx.OkS; omega
  obtain ⟨vo, cap, rfl, hx⟩ := hv.ex
  have HC1 : Hid (∀ W : World, Calls Tryz.prog 39 #[.agg #[.int .i64 (a : Int), .int .i64 (b : Int), .int .i64 (c : Int)]] W fun e w' => e = .returned (.int .i64 0) ∧ W.grownBy w' none) := fun W => Ge.check_ok _ _ _ hok W
  have HC2 : Hid (∀ W : World, w.grownBy W none → Calls Tryz.prog 40 #[.agg #[.int .i64 (a : Int), .int .i64 (b : Int), .int .i64 (c : Int)], .int .u32 (n : Int), .int .i64 t] W fun e w' => ∃ x p, e = .returned (.pointer (some ⟨x, 0, none⟩)) ∧ Lk w w' x ⟨a, b, c, n, t, []⟩ 0 p []) := by
    intro W hW
    refine (empty_any a b c n t hok W (by have := hW.size; omega)).mono ?_
    rintro e w' ⟨p, rfl, h1, h2, h3⟩
    exact ⟨p.b, p, rfl, rfl, h1, grown_trans hW h2, fun i hi => Nat.le_trans hW.size (h3 i hi), fun x hx => by cases hx⟩
  have HV := hide hv
  have HO := hide hS
  have hn1 : (1 : Int) ≤ (n : Int) := by have := hS.n0; simp only at this; omega
  have ht0 : ¬ t < 0 := by have := hS.t0; simp only at this; omega
  have ht1 : ¬ (1099511627776 : Int) < t := by have := hS.t1; simp only [mxC] at this; omega
  have HMay : Hid (∀ W x p j, j < L.length → Lk w W x ⟨a, b, c, n, t, L.take j⟩ j p [] → Calls Tryz.prog 41 #[.pointer (some ⟨x, 0, none⟩), bgV (rd L j)] W fun e w' => e = .returned (.bool true) ∧ W.grownBy w' none) := by
    intro W x p j hj h
    have hm := rd_mem hj
    have := mayHave_ok h.bk (rd L j) (HO.out.id _ hm).2 (HO.out.st _ hm) (take_ok HO.out.asc HO.out.one hj).2 (by have h1 := HO.out.few; simp only [List.length_take] at h1 ⊢; omega) (HO.out.til _ hm)
    rw [h.eb] at this
    exact this
  have HAdd : Hid (∀ W x p j Bs, j < L.length → Lk w W x ⟨a, b, c, n, t, L.take j⟩ j p Bs → Calls Tryz.prog 42 #[.pointer (some ⟨x, 0, none⟩), bgV (rd L j)] W fun e w' => e = .returned (.tuple #[]) ∧ ∃ q, Lk w w' x ⟨a, b, c, n, t, L.take (j + 1)⟩ (j + 1) q Bs) := by
    intro W x p j Bs hj h
    have hm := rd_mem hj
    have hwk : Sb.Wk ⟨a, b, c, n, t, L.take j⟩ := HO.out.wk.sub (List.take_sublist _ _) HO.out.t0 HO.out.t1
    have hi := (HO.out.id _ hm).2
    have hn := HO.out.n1
    have hfw := HO.out.few
    have hb1 := HO.out.b1
    simp only at hi hn hfw hb1
    have := add_any h.bk hwk (by omega) (rd L j) (by omega) (HO.out.st _ hm) (take_ok HO.out.asc HO.out.one hj).1 (take_ok HO.out.asc HO.out.one hj).2 (by simp only [List.length_take]; omega)
    rw [h.eb] at this
    refine this.mono ?_
    rintro e w' ⟨rfl, q, h1, h2⟩
    simp only [take_rd hj] at h1
    exact ⟨rfl, q, h.step h2 h1⟩
  have hb0 := heap_alloc_new w (.cells [.int .i64 (a : Int), .int .i64 (b : Int), .int .i64 (c : Int)].toArray 23)
  have HB0 := hide hb0
  clear hS hok hx hv hz hb0
  unfold limV
  generalize hnn : L.length = m at *
  have HN := hide hnn
  have hm8 : m ≤ 4096 := by have h1 := HO.out.few; have h2 := HO.out.b1; simp only at h1 h2; omega
  clear hnn
  go_enter Tryz.func11, Tryz.ntmps11
  go_wp2_with fail
  refine (HC1.out _).mono ?_
  rintro e w1 ⟨rfl, hg1⟩
  have hg0 := grown_trans (grown_alloc w _) hg1
  obtain ⟨d0, d1, d2, -⟩ := box3 ((hg1.block _ (row_lt HB0.out) (by simp)).trans HB0.out)
  go_wp2_with fail
  refine (HC2.out _ hg0).mono ?_
  rintro e w2 ⟨x, p, rfl, hh⟩
  have H2 := hide hh
  clear hh d0 d1 d2 hg0 hg1 HC1 HC2 HB0
  go_wp2
  go_loopg [12, 36] m (fun k la i wr => ∃ j l : Nat, k + j = m ∧ i = .int .i64 j ∧ la = .int .u32 (l : Int) ∧ Hid (∀ k, j ≤ k → k < L.length → l ≤ (rd L k).i) ∧ ∃ q, Hid (Lk w wr x ⟨a, b, c, n, t, L.take j⟩ j q []))
  case atStart => exact ⟨0, 1, by omega, rfl, rfl, (fun k _ hk => (HO.out.id _ (rd_mem hk)).1), _, H2.out⟩
  case round =>
    clear H2
    obtain ⟨j, l, hkj, rfl, rfl, HL, q, HQ⟩ := hrel
    by_cases hk : 0 < gk
    · have hj : j < L.length := by rw [HN.out]; omega
      have h1 : (0 : Int) ≤ (j : Int) := by omega
      have h2 : (j : Int) < (m : Int) := by omega
      obtain ⟨ao', cap', he, hx⟩ := (HV.out.then HQ.out.gr).ex
      cases he
      obtain ⟨g, rfl, x0, x1, x2⟩ := hx j hj
      obtain ⟨hl1, hl2⟩ := last_le (L := L) HO.out.asc HL.out hj
      have HNx := hide hl2
      have HM' := hide (fun W h => HMay.out W x q j hj h)
      have HA' := hide (fun W Bs h => HAdd.out W x q j Bs hj h)
      have hid := (HO.out.id _ (rd_mem hj)).2
      have hn1' := HO.out.n1
      simp only at hid hn1'
      have hid2 : ((rd L j).i : Int) + 1 < 4294967296 := by omega
      have hl1' : ¬ ((rd L j).i : Int) < (l : Int) := by omega
      obtain ⟨xx, hxx⟩ : ∃ xx, rd L j = xx := ⟨_, rfl⟩
      rw [hxx] at x0 x1 x2 HNx HM' HA' hid2 hl1'
      obtain ⟨xi, xs, xu⟩ := xx
      simp only [bgV] at x0 x1 x2 HNx HM' HA' hid2 hl1'
      clear hx hxx hl1 hl2 hid hn1' hj HMay HAdd
      go_wp2_with fail
      have HB := hide (HQ.out.box [.int .u32 (xi : Int), .int .i64 (xs : Int), .int .i64 xu] 78)
      refine (HM'.out _ HB.out.bare).mono ?_
      rintro e w3 ⟨rfl, hg3⟩
      have h3 := HB.out.then hg3
      have y0 := h3.cell List.mem_cons_self 0 _ rfl
      have y1 := h3.cell List.mem_cons_self 1 _ rfl
      have y2 := h3.cell List.mem_cons_self 2 _ rfl
      have H3 := hide h3
      clear h3 hg3 HB x0 x1 x2 HM' HQ
      go_wp2_with fail
      refine (HA'.out _ _ H3.out).mono ?_
      rintro e w4 ⟨rfl, q4, h4⟩
      have z0 := h4.cell List.mem_cons_self 0 _ rfl
      have H4 := hide h4.bare
      clear h4 H3 y0 y1 y2 HA'
      go_wp2
      go_roundg (gk - 1)
      case measure => omega
      case rel => exact ⟨j + 1, xi + 1, by omega, by go_num, by go_num, HNx.out, _, H4.out⟩
    · have hj : j = m := by omega
      subst hj
      have HF := hide (HQ.out.more hm8)
      have HT : Hid (L.take j = L) := by rw [← HN.out]; exact List.take_length
      go_wp2
      go_ret2
      rw [HT.out] at HF
      exact ⟨_, _, rfl, HF.out⟩
end Go.Proofs.YtcbiloomnkbalaaGreatDoor
/- Two books side by side; ticks, numbers alone. -/
namespace Go.Proofs.YtcbiloomnkbalaaGreatDoor
open Go.RowKit
section
variable {w W W' : World} {b c : Nat} {S S' : Sb} {K K' : Nat} {p q q' : Bp} {Bs : List (Nat × List Value × TypeId)}
/-- What another book's call leaves. -/
theorem Lk.beside (h : Lk w W b S K p Bs) (hq : Lk w W c S' K' q Bs) (hd : ∀ i, p.own i → ¬ q.own i) (k : Bst W W' q q') : Lk w W' b S K p Bs ∧ (∀ i, p.own i → ¬ q'.own i) := by
  refine ⟨⟨h.eb, h.bk.far k.kept hd, hq.kept k.kept, h.own, fun x hx => ?_⟩, fun i hi e => ?_⟩
  · obtain ⟨h1, h2, h3⟩ := h.bx x hx
    exact ⟨k.kept.at h1 (hq.bx x hx).2.1, h2, h3⟩
  · rcases k.own i e with e | e
    · exact hd i hi e
    · have := h.bk.lt i hi; omega
theorem Lk.same (h : Lk w W b S K p Bs) (hq : Lk w W c S K' q Bs) (hw : S.Wk) : Calls Tryz.prog 20 #[.pointer (some ⟨b, 0, none⟩), .pointer (some ⟨c, 0, none⟩)] W fun e w' => e = .returned (.bool true) ∧ W.grownBy w' none := by
  have := same_eq h.bk hq.bk hw
  rw [h.eb, hq.eb] at this
  exact this
end
end Go.Proofs.YtcbiloomnkbalaaGreatDoor
/- Books alike but for the group; their rows copied. -/
namespace Go.Proofs.YtcbiloomnkbalaaGreatDoor
open Go.RowKit
attribute [local go_sem ↓] Go.wp_at_zero Go.wp_at_succ
attribute [local go_sem] Oper.semAt_some
set_option maxHeartbeats 4000000 in
theorem shape_any {w : World} {p : Bp} {S : Sb} {K : Nat} (h : BkAt w p S K) : Calls Tryz.prog 34 #[.pointer (some ⟨p.b, 0, none⟩)] w fun e w' => e = .returned (limV S.a S.b S.c) ∧ w.grownBy w' none := by
  have m0 := Bm.start h [.int .i64 0, .int .i64 0, .int .i64 0] 23
  have HC1 := hide m0.bk.isNone
  have a0 := m0.ff.a0
  have a1 := m0.ff.a1
  have a2 := m0.ff.a2
  obtain ⟨d0, d1, d2, d3⟩ := box3 m0.box
  have HM := hide m0
  clear h m0
  unfold limV
  go_enter Tryz.func34, Tryz.ntmps34
  go_wp2_with fail
  refine HC1.out.mono ?_
  rintro e w1 ⟨rfl, rfl⟩
  go_wp2
  obtain ⟨r1, r2⟩ := row3 _ HM.out.box (.int .i64 (S.a : Int)) (.int .i64 (S.b : Int)) (.int .i64 (S.c : Int))
  first
    | exact bodyPost_ret (results_cell_row rfl _ _ w.heap.size 23 #[.int .i64 (S.a : Int), .int .i64 (S.b : Int), .int .i64 (S.c : Int)] (0, 0) _ rfl r1 Tryz.underlying23 rfl (by kernel_rfl)) rfl ⟨rfl, gn_set (gn_set (gn_set HM.out.gr (Nat.le_refl _)) (Nat.le_refl _)) (Nat.le_refl _)⟩
    | exact bodyPost_ret (results_cell_row rfl _ _ w.heap.size 23 #[.int .i64 (S.a : Int), .int .i64 (S.b : Int), .int .i64 (S.c : Int)] (0, 0) _ rfl (heap_alloc_new w _) Tryz.underlying23 rfl (by kernel_rfl)) rfl ⟨rfl, grown_alloc _ _⟩
end Go.Proofs.YtcbiloomnkbalaaGreatDoor
/- Four books side by side; rows of bookings copied. -/
namespace Go.Proofs.YtcbiloomnkbalaaGreatDoor
open Go.RowKit
attribute [local go_sem ↓] Go.wp_at_zero Go.wp_at_succ
attribute [local go_sem] Oper.semAt_some
theorem bgs_one (X : List Bg) : ∀ u ∈ bgs X, u.oneCell' = true := by
  intro u hu
  simp only [bgs, List.mem_flatMap] at hu
  obtain ⟨x, _, h⟩ := hu
  exact bgc_one x u h
def Dj (p q : Bp) : Prop := ∀ i, p.own i → ¬ q.own i
theorem Dj.symm {p q : Bp} (h : Dj p q) : Dj q p := fun i a b => h i b a
/-- Four books side by side. -/
def T4 (w W : World) (xa : Nat) (Sa : Sb) (xb : Nat) (Sb' : Sb) (xc : Nat) (Sc : Sb) (xd : Nat) (Sd : Sb) (K : Nat) : Prop :=
  ∃ pa pb pc pd, Lk w W xa Sa K pa [] ∧ Lk w W xb Sb' K pb [] ∧ Lk w W xc Sc K pc [] ∧ Lk w W xd Sd K pd [] ∧ Dj pa pb ∧ Dj pa pc ∧ Dj pa pd ∧ Dj pb pc ∧ Dj pb pd ∧ Dj pc pd
/-- Three. -/
def T3 (w W : World) (xa : Nat) (Sa : Sb) (xb : Nat) (Sb' : Sb) (xc : Nat) (Sc : Sb) (K : Nat) : Prop :=
  ∃ pa pb pc, Lk w W xa Sa K pa [] ∧ Lk w W xb Sb' K pb [] ∧ Lk w W xc Sc K pc [] ∧ Dj pa pb ∧ Dj pa pc ∧ Dj pb pc
section
variable {w W W' : World} {xa xb xc xd : Nat} {Sa S Sc Sd : Sb} {K : Nat}
theorem T4.then (h : T4 w W xa Sa xb S xc Sc xd Sd K) (g : W.grownBy W' none) : T4 w W' xa Sa xb S xc Sc xd Sd K := by
  obtain ⟨pa, pb, pc, pd, a, b, c, d, h1⟩ := h
  exact ⟨pa, pb, pc, pd, a.then g, b.then g, c.then g, d.then g, h1⟩
theorem T4.drop (h : T4 w W xa Sa xb S xc Sc xd Sd K) : T3 w W xa Sa xb S xc Sc K := by
  obtain ⟨pa, pb, pc, pd, a, b, c, d, h1, h2, h3, h4, h5, h6⟩ := h
  exact ⟨pa, pb, pc, a, b, c, h1, h2, h4⟩
theorem T4.gr (h : T4 w W xa Sa xb S xc Sc xd Sd K) : w.grownBy W none := by obtain ⟨pa, pb, pc, pd, a, _⟩ := h; exact a.gr
theorem T3.gr (h : T3 w W xa Sa xb S xc Sc K) : w.grownBy W none := by obtain ⟨pa, pb, pc, a, _⟩ := h; exact a.gr
theorem T4.apply (h : T4 w W xa Sa xb S xc Sc xd Sd K) (ho : Sa.Ok) (hK : K ≤ 1000000) (hT : Rk.Tab w) (r : Rc) (hr : r.Ok) : Calls Tryz.prog 36 #[.pointer (some ⟨xa, 0, none⟩), Rk.rcV r] W fun e w' => e = .returned (.int .i64 (appE Sa r)) ∧ T4 w w' xa (app Sa r) xb S xc Sc xd Sd (K + 1) := by
  obtain ⟨pa, pb, pc, pd, a, b, c, d, h1, h2, h3, h4, h5, h6⟩ := h
  refine (a.apply ho (by omega) hT r hr).mono ?_
  rintro e w' ⟨rfl, q, hq, hs⟩
  have B := b.beside a h1.symm hs
  have C := c.beside a h2.symm hs
  have D := d.beside a h3.symm hs
  exact ⟨rfl, q, pb, pc, pd, hq, B.1.more (by omega), C.1.more (by omega), D.1.more (by omega), Dj.symm B.2, Dj.symm C.2, Dj.symm D.2, h4, h5, h6⟩
end
end Go.Proofs.YtcbiloomnkbalaaGreatDoor
/- BookBack, walked. -/
namespace Go.Proofs.YtcbiloomnkbalaaGreatDoor
open Go.RowKit
attribute [local go_sem ↓] Go.wp_at_zero Go.wp_at_succ
attribute [local go_sem] Oper.semAt_some
section
variable {w W W' w8 : World} {xa xb xc xd b : Nat} {Sa S Sc Sd : Sb} {K : Nat} {p pa : Bp}
theorem T3.then (h : T3 w W xa Sa xb S xc Sc K) (g : W.grownBy W' none) : T3 w W' xa Sa xb S xc Sc K := by
  obtain ⟨pa, pb, pc, a, b, c, h1⟩ := h
  exact ⟨pa, pb, pc, a.then g, b.then g, c.then g, h1⟩
end
end Go.Proofs.YtcbiloomnkbalaaGreatDoor
/- Books that aren't there. -/
namespace Go.Proofs.YtcbiloomnkbalaaGreatDoor
open Go.RowKit
attribute [local go_sem ↓] Go.wp_at_zero Go.wp_at_succ
attribute [local go_sem] Oper.semAt_some
/-- No book, whatever is made behind. -/
def NoB (w : World) (v : Value) : Prop := ∀ W, w.grownBy W none → Calls Tryz.prog 47 #[v] W fun e w' => e = .returned (.bool true) ∧ w' = W
theorem NoB.then {w w' : World} {v : Value} (h : NoB w v) (g : w.grownBy w' none) : NoB w' v := fun W k => h W (grown_trans g k)
theorem noB_nil (w : World) : NoB w (.pointer none) := by
  intro W _
  go_enter Tryz.func47, Tryz.ntmps47
  go_wp2
  go_ret
  exact ⟨rfl, rfl⟩
section
variable {w : World} {v : Value}
set_option maxHeartbeats 4000000 in
theorem no_apply (h : NoB w v) (r : Rc) : Calls Tryz.prog 36 #[v, Rk.rcV r] w fun e w' => e = .returned (.int .i64 1) ∧ w.grownBy w' none := by
  have HC := hide (h _ (grown_alloc w (.cells [.int .i64 r.k, .int .u32 r.i, .int .i64 r.s, .int .i64 r.u, .int .i64 r.c].toArray 46)))
  clear h
  unfold Rk.rcV
  go_enter Tryz.func36, Tryz.ntmps36
  go_wp2_with fail
  refine HC.out.mono ?_
  rintro e w1 ⟨rfl, rfl⟩
  go_wp2
  go_ret
  exact ⟨rfl, grown_alloc _ _⟩
set_option maxHeartbeats 4000000 in
theorem no_len (h : NoB w v) : Calls Tryz.prog 28 #[v] w fun e w' => e = .returned (.int .i64 0) ∧ w' = w := by
  have HC := hide (h _ (grown_refl _ _))
  clear h
  go_enter Tryz.func28, Tryz.ntmps28
  go_wp2_with fail
  refine HC.out.mono ?_
  rintro e w1 ⟨rfl, rfl⟩
  go_wp2
  go_ret
  exact ⟨rfl, rfl⟩
set_option maxHeartbeats 4000000 in
theorem no_next (h : NoB w v) : Calls Tryz.prog 31 #[v] w fun e w' => e = .returned (.int .u32 0) ∧ w' = w := by
  have HC := hide (h _ (grown_refl _ _))
  clear h
  go_enter Tryz.func31, Tryz.ntmps31
  go_wp2_with fail
  refine HC.out.mono ?_
  rintro e w1 ⟨rfl, rfl⟩
  go_wp2
  go_ret
  exact ⟨rfl, rfl⟩
set_option maxHeartbeats 4000000 in
theorem no_clock (h : NoB w v) : Calls Tryz.prog 32 #[v] w fun e w' => e = .returned (.int .i64 0) ∧ w' = w := by
  have HC := hide (h _ (grown_refl _ _))
  clear h
  go_enter Tryz.func32, Tryz.ntmps32
  go_wp2_with fail
  refine HC.out.mono ?_
  rintro e w1 ⟨rfl, rfl⟩
  go_wp2
  go_ret
  exact ⟨rfl, rfl⟩
set_option maxHeartbeats 4000000 in
theorem no_due (h : NoB w v) : Calls Tryz.prog 33 #[v] w fun e w' => e = .returned (.tuple #[.int .i64 0, .bool false]) ∧ w' = w := by
  have HC := hide (h _ (grown_refl _ _))
  clear h
  go_enter Tryz.func33, Tryz.ntmps33
  go_wp2_with fail
  refine HC.out.mono ?_
  rintro e w1 ⟨rfl, rfl⟩
  go_wp2
  go_ret2
  exact ⟨rfl, rfl⟩
set_option maxHeartbeats 4000000 in
theorem no_copy (h : NoB w v) : Calls Tryz.prog 22 #[v] w fun e w' => e = .returned (.pointer none) ∧ w' = w := by
  have HC := hide (h _ (grown_refl _ _))
  clear h
  go_enter Tryz.func22, Tryz.ntmps22
  go_wp2_with fail
  refine HC.out.mono ?_
  rintro e w1 ⟨rfl, rfl⟩
  go_wp2
  go_ret
  exact ⟨rfl, rfl⟩
set_option maxHeartbeats 4000000 in
theorem no_same1 (h : NoB w v) (u : Value) : Calls Tryz.prog 20 #[v, u] w fun e w' => e = .returned (.bool false) ∧ w' = w := by
  have HC := hide (h _ (grown_refl _ _))
  clear h
  go_enter Tryz.func20, Tryz.ntmps20
  go_wp2_with fail
  refine HC.out.mono ?_
  rintro e w1 ⟨rfl, rfl⟩
  go_wp2
  go_ret
  exact ⟨rfl, rfl⟩
set_option maxHeartbeats 4000000 in
theorem no_same2 {p : Bp} {S : Sb} {K : Nat} (hp : BkAt w p S K) (h : NoB w v) : Calls Tryz.prog 20 #[.pointer (some ⟨p.b, 0, none⟩), v] w fun e w' => e = .returned (.bool false) ∧ w' = w := by
  have HC0 := hide hp.isNone
  have HC := hide (h _ (grown_refl _ _))
  clear h hp
  go_enter Tryz.func20, Tryz.ntmps20
  go_wp2_with fail
  refine HC0.out.mono ?_
  rintro e w1 ⟨rfl, rfl⟩
  go_wp2_with fail
  refine HC.out.mono ?_
  rintro e w1 ⟨rfl, rfl⟩
  go_wp2
  go_ret
  exact ⟨rfl, rfl⟩
set_option maxHeartbeats 4000000 in
theorem no_get (h : NoB w v) (k : Int) : Calls Tryz.prog 29 #[v, .int .u32 k] w fun e w' => e = .returned (.tuple #[bgV ⟨0, 0, 0⟩, .int .i64 1]) ∧ w.grownBy w' none := by
  have HC := hide (h _ (grown_alloc w (.cells bgz.toArray 78)))
  have HB := hide (heap_alloc_new w (.cells bgz.toArray 78))
  clear h
  obtain ⟨d0, d1, d2, d3⟩ := box3 HB.out
  unfold bgz at *
  go_enter Tryz.func29, Tryz.ntmps29
  go_wp2_with fail
  refine HC.out.mono ?_
  rintro e w1 ⟨rfl, rfl⟩
  go_wp2
  obtain ⟨r1, r2⟩ := row3 _ HB.out (.int .u32 0) (.int .i64 0) (.int .i64 0)
  first
    | exact bodyPost_ret (results_bg rfl _ _ w.heap.size ⟨0, 0, 0⟩ (.int .i64 1) rfl r1 rfl) rfl ⟨rfl, gn_set (gn_set (gn_set (grown_alloc _ _) (Nat.le_refl _)) (Nat.le_refl _)) (Nat.le_refl _)⟩
    | exact bodyPost_ret (results_bg rfl _ _ w.heap.size ⟨0, 0, 0⟩ (.int .i64 1) rfl HB.out rfl) rfl ⟨rfl, grown_alloc _ _⟩
set_option maxHeartbeats 4000000 in
theorem no_at (h : NoB w v) (k : Int) : Calls Tryz.prog 30 #[v, .int .i64 k] w fun e w' => e = .returned (.tuple #[bgV ⟨0, 0, 0⟩, .int .i64 1]) ∧ w.grownBy w' none := by
  have HC := hide (h _ (grown_alloc w (.cells bgz.toArray 78)))
  have HB := hide (heap_alloc_new w (.cells bgz.toArray 78))
  clear h
  obtain ⟨d0, d1, d2, d3⟩ := box3 HB.out
  unfold bgz at *
  go_enter Tryz.func30, Tryz.ntmps30
  go_wp2_with fail
  refine HC.out.mono ?_
  rintro e w1 ⟨rfl, rfl⟩
  go_wp2
  obtain ⟨r1, r2⟩ := row3 _ HB.out (.int .u32 0) (.int .i64 0) (.int .i64 0)
  first
    | exact bodyPost_ret (results_bg rfl _ _ w.heap.size ⟨0, 0, 0⟩ (.int .i64 1) rfl r1 rfl) rfl ⟨rfl, gn_set (gn_set (gn_set (grown_alloc _ _) (Nat.le_refl _)) (Nat.le_refl _)) (Nat.le_refl _)⟩
    | exact bodyPost_ret (results_bg rfl _ _ w.heap.size ⟨0, 0, 0⟩ (.int .i64 1) rfl HB.out rfl) rfl ⟨rfl, grown_alloc _ _⟩
set_option maxHeartbeats 4000000 in
theorem no_shape (h : NoB w v) : Calls Tryz.prog 34 #[v] w fun e w' => e = .returned (.agg #[.int .i64 0, .int .i64 0, .int .i64 0]) ∧ w.grownBy w' none := by
  have HC := hide (h _ (grown_alloc w (.cells [.int .i64 0, .int .i64 0, .int .i64 0].toArray 23)))
  have HB := hide (heap_alloc_new w (.cells [.int .i64 0, .int .i64 0, .int .i64 0].toArray 23))
  clear h
  obtain ⟨d0, d1, d2, d3⟩ := box3 HB.out
  go_enter Tryz.func34, Tryz.ntmps34
  go_wp2_with fail
  refine HC.out.mono ?_
  rintro e w1 ⟨rfl, rfl⟩
  go_wp2
  obtain ⟨r1, r2⟩ := row3 _ HB.out (.int .i64 0) (.int .i64 0) (.int .i64 0)
  first
    | exact bodyPost_ret (results_cell_row rfl _ _ w.heap.size 23 #[.int .i64 0, .int .i64 0, .int .i64 0] (0, 0) _ rfl r1 Tryz.underlying23 rfl (by kernel_rfl)) rfl ⟨rfl, gn_set (gn_set (gn_set (grown_alloc _ _) (Nat.le_refl _)) (Nat.le_refl _)) (Nat.le_refl _)⟩
    | exact bodyPost_ret (results_cell_row rfl _ _ w.heap.size 23 #[.int .i64 0, .int .i64 0, .int .i64 0] (0, 0) _ rfl HB.out Tryz.underlying23 rfl (by kernel_rfl)) rfl ⟨rfl, grown_alloc _ _⟩
set_option maxHeartbeats 4000000 in
theorem no_bookings {ao : Option Addr} (h : NoB w (.pointer ao)) : Calls Tryz.prog 50 #[.pointer ao] w fun e w' => e = .returned (.slice none 0 0) ∧ w.grownBy w' none := by
  have HC := hide (h _ (grown_alloc w (.cells #[.pointer ao] 31)))
  clear h
  go_enter Tryz.func50, Tryz.ntmps50
  go_wp2_with fail
  refine HC.out.mono ?_
  rintro e w1 ⟨rfl, rfl⟩
  go_wp2
  go_ret
  exact ⟨rfl, grown_alloc _ _⟩
theorem own_none (w : World) (B : Nat) : w.ownsRow B 78 3 (.slice none 0 0) ([] : List Bg).length (bgs []) := ⟨rfl, .inl ⟨rfl, rfl⟩⟩
set_option maxHeartbeats 4000000 in
theorem no_all {ao : Option Addr} (h : NoB w (.pointer ao)) : Calls Tryz.prog 27 #[.pointer ao] w fun e w' => ∃ u B, e = .returned u ∧ VlV w' B u [] ∧ w.grownBy w' none := by
  have HC := hide (no_bookings h)
  have HV : Hid (∀ W, Calls Tryz.prog 52 #[.slice none 0 0] W fun e w' => ∃ u, e = .returned u ∧ VlV w' W.heap.size u [] ∧ W.grownBy w' none) := fun W => values_any (own_none W W.heap.size) (Nat.le_refl _)
  clear h
  go_enter Tryz.func27, Tryz.ntmps27
  go_wp2_with fail
  refine HC.out.mono ?_
  rintro e w1 ⟨rfl, hg1⟩
  go_wp2_with fail
  refine (HV.out _).mono ?_
  rintro e w2 ⟨u, rfl, hv, hg2⟩
  have HE := hide (And.intro hv (grown_trans hg1 hg2))
  clear hv hg1 hg2
  go_wp2
  go_ret
  exact ⟨_, _, rfl, HE.out.1, HE.out.2⟩
end
/-- The document's book that isn't there. -/
def rz : List Value := [.bool false, .int .i64 0, .int .i64 0, .int .i64 0, .slice none 0 0, .int .u32 0, .int .i64 0]
structure RfZ (w : World) (X : Nat) : Prop where
  at_ : w.heap[X]? = some (.cells rz.toArray 52 (0, 0))
theorem RfZ.then {w w' : World} {X : Nat} (h : RfZ w X) (g : w.grownBy w' none) : RfZ w' X := ⟨(g.block _ (row_lt h.at_) (by simp)).trans h.at_⟩
theorem RfZ.cell {w : World} {X : Nat} (h : RfZ w X) : ∀ j v, rz[j]? = some v → w.cell? ⟨X, j, none⟩ = some v := fun j v hv => by rw [cell_row h.at_]; exact hv
section
variable {w : World} {X : Nat}
set_option maxHeartbeats 4000000 in
theorem rz_apply (h : RfZ w X) (r : Rc) : Calls Tryz.prog 44 #[.pointer (some ⟨X, 0, none⟩), Rk.rcV r] w fun e w' => e = .returned (.int .i64 1) ∧ w.grownBy w' none := by
  have c0 := (h.then (grown_alloc w (.cells [.int .i64 r.k, .int .u32 r.i, .int .i64 r.s, .int .i64 r.u, .int .i64 r.c].toArray 46))).cell 0 _ rfl
  clear h
  unfold Rk.rcV
  go_enter Tryz.func44, Tryz.ntmps44
  go_wp2
  go_ret
  exact ⟨rfl, grown_alloc _ _⟩
set_option maxHeartbeats 4000000 in
theorem rz_get (h : RfZ w X) (k : Int) : Calls Tryz.prog 45 #[.pointer (some ⟨X, 0, none⟩), .int .u32 k] w fun e w' => e = .returned (.tuple #[bgV ⟨0, 0, 0⟩, .int .i64 1]) ∧ w.grownBy w' none := by
  have c0 := (h.then (grown_alloc w (.cells bgz.toArray 78))).cell 0 _ rfl
  have HB := hide (heap_alloc_new w (.cells bgz.toArray 78))
  clear h
  obtain ⟨d0, d1, d2, d3⟩ := box3 HB.out
  unfold bgz at *
  go_enter Tryz.func45, Tryz.ntmps45
  go_wp2
  obtain ⟨r1, r2⟩ := row3 _ HB.out (.int .u32 0) (.int .i64 0) (.int .i64 0)
  first
    | exact bodyPost_ret (results_bg rfl _ _ w.heap.size ⟨0, 0, 0⟩ (.int .i64 1) rfl r1 rfl) rfl ⟨rfl, gn_set (gn_set (gn_set (grown_alloc _ _) (Nat.le_refl _)) (Nat.le_refl _)) (Nat.le_refl _)⟩
    | exact bodyPost_ret (results_bg rfl _ _ w.heap.size ⟨0, 0, 0⟩ (.int .i64 1) rfl HB.out rfl) rfl ⟨rfl, grown_alloc _ _⟩
set_option maxHeartbeats 4000000 in
theorem rz_at (h : RfZ w X) (k : Int) : Calls Tryz.prog 46 #[.pointer (some ⟨X, 0, none⟩), .int .i64 k] w fun e w' => e = .returned (.tuple #[bgV ⟨0, 0, 0⟩, .int .i64 1]) ∧ w.grownBy w' none := by
  have c0 := (h.then (grown_alloc w (.cells bgz.toArray 78))).cell 0 _ rfl
  have HB := hide (heap_alloc_new w (.cells bgz.toArray 78))
  clear h
  obtain ⟨d0, d1, d2, d3⟩ := box3 HB.out
  unfold bgz at *
  go_enter Tryz.func46, Tryz.ntmps46
  go_wp2
  obtain ⟨r1, r2⟩ := row3 _ HB.out (.int .u32 0) (.int .i64 0) (.int .i64 0)
  first
    | exact bodyPost_ret (results_bg rfl _ _ w.heap.size ⟨0, 0, 0⟩ (.int .i64 1) rfl r1 rfl) rfl ⟨rfl, gn_set (gn_set (gn_set (grown_alloc _ _) (Nat.le_refl _)) (Nat.le_refl _)) (Nat.le_refl _)⟩
    | exact bodyPost_ret (results_bg rfl _ _ w.heap.size ⟨0, 0, 0⟩ (.int .i64 1) rfl HB.out rfl) rfl ⟨rfl, grown_alloc _ _⟩
set_option maxHeartbeats 4000000 in
theorem rz_due (h : RfZ w X) : Calls Tryz.prog 51 #[.pointer (some ⟨X, 0, none⟩)] w fun e w' => e = .returned (.tuple #[.int .i64 0, .bool false]) ∧ w' = w := by
  have c4 := h.cell 4 _ rfl
  clear h
  go_enter Tryz.func51, Tryz.ntmps51
  go_wp2
  go_loopg [4, 5] 0 (fun _ a i wr => a = .int .i64 0 ∧ i = .int .i64 0 ∧ wr = w)
  case atStart => exact ⟨rfl, rfl, rfl⟩
  case round =>
    obtain ⟨rfl, rfl, rfl⟩ := hrel
    go_wp2
    go_ret2
    exact ⟨rfl, rfl⟩
end
theorem tmod_neg (x : Int) (n : Nat) (hn : 1 ≤ n) (h : x.tmod (n : Int) < 0) : x.tmod (n : Int) + (n : Int) = x % (n : Int) := by
  have h1 := Int.tmod_eq_emod (a := x) (b := (n : Int))
  have h2 := Int.emod_nonneg x (show (n : Int) ≠ 0 by omega)
  have h3 := Int.emod_lt_of_pos x (show (0 : Int) < (n : Int) by omega)
  rw [h1] at h ⊢
  split at h
  · omega
  · rename_i h4
    rw [if_neg h4]
    simp
theorem tmod_nonneg (x : Int) (n : Nat) (hn : 1 ≤ n) (h : 0 ≤ x.tmod (n : Int)) : x.tmod (n : Int) = x % (n : Int) := by
  have h1 := Int.tmod_eq_emod (a := x) (b := (n : Int))
  have h2 := Int.emod_nonneg x (show (n : Int) ≠ 0 by omega)
  have h3 := Int.emod_lt_of_pos x (show (0 : Int) < (n : Int) by omega)
  rw [h1] at h ⊢
  split
  · omega
  · rename_i h4
    rw [if_neg h4] at h
    simp at h
    omega
set_option maxHeartbeats 400000 in
theorem pick_any (x N : Int) (n : Nat) (w : World) (hN : N = (n : Int)) (hn : 1 ≤ n) (_hn2 : n ≤ 65536) :
    Calls Tryz.prog 17 #[.int .i64 x, .int .i64 N] w fun e w' => e = .returned (.int .i64 (x % (n : Int))) ∧ w' = w := by
  subst hN
  have h1 : (1 : Int) ≤ (n : Int) := by omega
  have h2 : ((n : Int) == 0) = false := by simp; omega
  have hb := Int.tmod_lt_of_pos x (show (0 : Int) < (n : Int) by omega)
  have hb2 := Int.lt_tmod_of_pos x (show (0 : Int) < (n : Int) by omega)
  have hr1 := tmod_neg x n hn
  have hr2 := tmod_nonneg x n hn
  by_cases hs : x.tmod (n : Int) < 0
  · have hr := hr1 hs
    have HR := hide hr
    clear hr hr1 hr2
    go_enter Tryz.func17, Tryz.ntmps17
    go_wp2
    go_ret
    exact ⟨by rw [← HR.out]; rfl, rfl⟩
  · have hs2 : 0 ≤ x.tmod (n : Int) := by omega
    have hr := hr2 hs2
    have HR := hide hr
    clear hr hr1 hr2
    go_enter Tryz.func17, Tryz.ntmps17
    go_wp2
    go_ret
    exact ⟨by rw [← HR.out]; rfl, rfl⟩
end Go.Proofs.YtcbiloomnkbalaaGreatDoor
namespace Go.Proofs.YtcbiloomnkbalaaGreatDoor
/-- What the first k records make of it. -/
def fo (S : Sb) (l : List Rc) (k : Nat) : Sb := (l.take k).foldl app S
theorem fo_take {S : Sb} {l : List Rc} {k m : Nat} (h : k ≤ m) : fo S (l.take m) k = fo S l k := by
  unfold fo
  rw [List.take_take, Nat.min_eq_left h]
/-- The first n of them can be applied, one behind the other; e: what the next one is told, 0 where there is none. -/
structure Ran (S : Sb) (l : List Rc) (n : Nat) (e : Int) : Prop where
  le : n ≤ l.length
  ok : ∀ k r, l[k]? = some r → k < n → appE (fo S l k) r = 0
  no : ∀ r, l[n]? = some r → appE (fo S l n) r = e ∧ e ≠ 0
  all : n = l.length → e = 0
theorem Ran.zero {S : Sb} {l : List Rc} {n : Nat} {e : Int} (h : Ran S l n e) : e = 0 ↔ n = l.length := by
  refine ⟨fun he => ?_, h.all⟩
  apply Classical.byContradiction
  intro hn
  have := h.le
  obtain ⟨r, hr⟩ : ∃ r, l[n]? = some r := ⟨l[n]'(by omega), List.getElem?_eq_getElem (by omega)⟩
  exact (h.no r hr).2 he
/-- A beginning. -/
theorem Ran.take {S : Sb} {l : List Rc} {n : Nat} {e : Int} (h : Ran S l n e) (m : Nat) (hm : m ≤ l.length) : Ran S (l.take m) (min n m) (if m ≤ n then 0 else e) := by
  have hle := h.le
  have hlen : (l.take m).length = m := by simp; omega
  by_cases hc : m ≤ n
  · rw [if_pos hc, Nat.min_eq_right hc]
    refine ⟨by rw [hlen]; exact Nat.le_refl _, fun k r hk hlt => ?_, fun r hr => ?_, fun _ => rfl⟩
    · rw [List.getElem?_take_of_lt hlt] at hk
      rw [fo_take (by omega)]
      exact h.ok k r hk (by omega)
    · have := (List.getElem?_eq_some_iff.1 hr).1
      omega
  · rw [if_neg hc, Nat.min_eq_left (by omega)]
    refine ⟨by omega, fun k r hk hlt => ?_, fun r hr => ?_, fun e => by omega⟩
    · rw [List.getElem?_take_of_lt (by omega)] at hk
      rw [fo_take (by omega)]
      exact h.ok k r hk hlt
    · rw [List.getElem?_take_of_lt (by omega)] at hr
      rw [fo_take (by omega)]
      exact h.no r hr
theorem fo_drop {S : Sb} {l : List Rc} {m k : Nat} : fo (fo S l m) (l.drop m) k = fo S l (m + k) := by
  unfold fo
  rw [List.take_add, List.foldl_append]
/-- What is left of it. -/
theorem Ran.drop {S : Sb} {l : List Rc} {n : Nat} {e : Int} (h : Ran S l n e) (m : Nat) (hm : m ≤ n) : Ran (fo S l m) (l.drop m) (n - m) e := by
  have hle := h.le
  refine ⟨by simp; omega, fun k r hk hlt => ?_, fun r hr => ?_, fun hn => h.all (by simp at hn; omega)⟩
  · rw [fo_drop]
    rw [List.getElem?_drop] at hk
    exact h.ok (m + k) r hk (by omega)
  · rw [fo_drop, show m + (n - m) = n by omega]
    rw [List.getElem?_drop, show m + (n - m) = n by omega] at hr
    exact h.no r hr
/-- A change by plain numbers. -/
structure Cg where
  k : Int
  i : Int
  s : Int
  t : Int
/-- The record of it. -/
def cgR (c : Cg) (n : Nat) (t : Int) : Rc :=
  if c.k % 5 = 0 then ⟨1, (n : Int), c.s % 13, t + 1 + c.t % 7, 0⟩
  else if c.k % 5 = 3 then ⟨4, 1 + c.i % (n : Int), c.s % 13, 0, 0⟩
  else if c.k % 5 = 4 then ⟨5, 0, 0, 0, t + 1 + c.t % 7⟩
  else ⟨1 + c.k % 5, 1 + c.i % (n : Int), 0, 0, 0⟩
/-- The book behind k changes. -/
def hS (S : Sb) (l : List Cg) (k : Nat) : Sb := (l.take k).foldl (fun S c => app S (cgR c S.n S.t)) S
section
variable {S : Sb} {l : List Rc} {n j : Nat} {e : Int} {r : Rc}
theorem Ran.step (h : Ran S l n e) (hj : j ≤ n) (hr : l[j]? = some r) (h0 : appE (fo S l j) r = 0) : j + 1 ≤ n := by
  apply Classical.byContradiction
  intro hn
  obtain rfl : j = n := by omega
  have h1 := h.no r hr
  rw [h0] at h1
  exact h1.2 h1.1.symm
end
end Go.Proofs.YtcbiloomnkbalaaGreatDoor
namespace Go.Proofs.YtcbiloomnkbalaaGreatDoor
/- The states, one behind the other: what the iterator hands on. -/
open Go.RowKit Go.Shelf
attribute [local go_sem ↓] Go.wp_at_zero Go.wp_at_succ
attribute [local go_sem] Oper.semAt_some
theorem Kept.cell {a b : World} {X : Nat → Prop} (h : Kept a b X) {g o : Nat} {v : Value} (hX : ¬ X g) (hv : a.cell? ⟨g, o, none⟩ = some v) : b.cell? ⟨g, o, none⟩ = some v := by
  have hl : g < a.heap.size := by
    unfold World.cell? at hv
    cases hq : a.heap[g]? with
    | none => simp [hq] at hv
    | some o => exact row_lt hq
  have hb := h.block g hl hX
  unfold World.cell? at hv ⊢
  simp only [hb]
  exact hv
end Go.Proofs.YtcbiloomnkbalaaGreatDoor
namespace Go.Proofs.YtcbiloomnkbalaaGreatDoor
/- Rows of records; their clone; States. -/
open Go.RowKit Go.Shelf
attribute [local go_sem ↓] Go.wp_at_zero Go.wp_at_succ
attribute [local go_sem] Oper.semAt_some
def rcc (r : Rc) : List Value := [.int .i64 r.k, .int .u32 r.i, .int .i64 r.s, .int .i64 r.u, .int .i64 r.c]
def rcs (l : List Rc) : List Value := l.flatMap rcc
theorem rcc_length (r : Rc) : (rcc r).length = 5 := rfl
theorem rcs_cons (r : Rc) (l : List Rc) : rcs (r :: l) = rcc r ++ rcs l := by simp [rcs]
theorem rcs_length (l : List Rc) : (rcs l).length = l.length * 5 := by
  induction l with
  | nil => rfl
  | cons r l ih => rw [rcs_cons, List.length_append, ih, rcc_length, List.length_cons]; omega
theorem rcs_at {l : List Rc} {i : Nat} {r : Rc} (h : l[i]? = some r) {o : Nat} (ho : o < 5) : (rcs l)[i * 5 + o]? = (rcc r)[o]? := by
  induction l generalizing i with
  | nil => simp at h
  | cons q l ih =>
    rw [rcs_cons]
    cases i with
    | zero =>
      simp at h
      subst h
      rw [List.getElem?_append_left (by rw [rcc_length]; omega)]
      simp
    | succ i =>
      rw [List.getElem?_append_right (by rw [rcc_length]; omega), rcc_length, show (i + 1) * 5 + o - 5 = i * 5 + o by omega]
      exact ih (by simpa using h)
theorem rcs_get {l : List Rc} {j : Nat} {u : Value} (h : (rcs l)[j]? = some u) : ∃ r, l[j / 5]? = some r ∧ (rcc r)[j % 5]? = some u := by
  have hj : j < l.length * 5 := by have := (List.getElem?_eq_some_iff.1 h).1; rwa [rcs_length] at this
  have hi : j / 5 < l.length := by omega
  refine ⟨l[j / 5], List.getElem?_eq_getElem hi, ?_⟩
  rw [← rcs_at (List.getElem?_eq_getElem hi) (Nat.mod_lt _ (by decide)), show j / 5 * 5 + j % 5 = j by omega]
  exact h
theorem RecsAt.cells {w : World} {g off : Nat} {l : List Rc} (h : RecsAt w (some ⟨g, off, none⟩) l) : ∀ j u, (rcs l)[j]? = some u → w.cell? (Addr.add ⟨g, off, none⟩ j) = some u := by
  intro j u hj
  obtain ⟨r, h1, h2⟩ := rcs_get hj
  obtain ⟨b, o, e, c0, c1, c2, c3, c4⟩ := h _ r h1
  cases e
  rw [Addr.add_lit]
  have hm : j % 5 < 5 := Nat.mod_lt _ (by decide)
  have hd : j = j / 5 * 5 + j % 5 := by omega
  generalize hk : j % 5 = k at *
  generalize j / 5 = i at *
  rw [hd]
  have : k = 0 ∨ k = 1 ∨ k = 2 ∨ k = 3 ∨ k = 4 := by omega
  rcases this with rfl | rfl | rfl | rfl | rfl <;> simp [rcc] at h2 <;> subst h2
  · exact c0
  · exact c1
  · exact c2
  · exact c3
  · exact c4
theorem RecsAt.form {w : World} {ao : Option Addr} {l : List Rc} (h : RecsAt w ao l) (hl : l ≠ []) : ∃ g off, ao = some ⟨g, off, none⟩ := by
  cases l with
  | nil => exact absurd rfl hl
  | cons r l => obtain ⟨b, o, e, -⟩ := h 0 r rfl; exact ⟨b, o, e⟩
theorem RecsAt.nil (w : World) (ao : Option Addr) : RecsAt w ao [] := fun j r h => by simp at h
end Go.Proofs.YtcbiloomnkbalaaGreatDoor
namespace Go.Proofs.YtcbiloomnkbalaaGreatDoor
/- The document's book in memory; what lies where in a list of bookings. -/
open Go.RowKit
attribute [local go_sem ↓] Go.wp_at_zero Go.wp_at_succ
attribute [local go_sem] Oper.semAt_some
theorem AscB.at {L : List Bg} (h : AscB L) {j k : Nat} {x y : Bg} (hj : L[j]? = some x) (hk : L[k]? = some y) (e : x.i = y.i) : j = k := by
  obtain ⟨h1, e1⟩ := List.getElem?_eq_some_iff.1 hj
  obtain ⟨h2, e2⟩ := List.getElem?_eq_some_iff.1 hk
  have hp := List.pairwise_iff_getElem.1 h
  apply Classical.byContradiction
  intro hne
  rcases Nat.lt_or_gt_of_ne hne with hlt | hlt
  · have := hp j k h1 h2 hlt; rw [e1, e2] at this; omega
  · have := hp k j h2 h1 hlt; rw [e1, e2] at this; omega
theorem OneS.at {L : List Bg} (h : OneS L) {j k : Nat} {x y : Bg} (hj : L[j]? = some x) (hk : L[k]? = some y) (e : x.s = y.s) : j = k := by
  obtain ⟨h1, e1⟩ := List.getElem?_eq_some_iff.1 hj
  obtain ⟨h2, e2⟩ := List.getElem?_eq_some_iff.1 hk
  have hp := List.pairwise_iff_getElem.1 h
  apply Classical.byContradiction
  intro hne
  rcases Nat.lt_or_gt_of_ne hne with hlt | hlt
  · have := hp j k h1 h2 hlt; rw [e1, e2] at this; exact this e
  · have := hp k j h2 h1 hlt; rw [e1, e2] at this; exact this e.symm
theorem upd_set {L : List Bg} (hA : AscB L) {k : Nat} {x : Bg} (hk : L[k]? = some x) (y : Bg) : upd L x.i y = L.set k y := by
  apply List.ext_getElem?
  intro j
  unfold upd
  rw [List.getElem?_map, List.getElem?_set]
  by_cases hj : k = j
  · subst hj
    rw [if_pos rfl, if_pos (List.getElem?_eq_some_iff.1 hk).1, hk]
    simp
  · rw [if_neg hj]
    cases hz : L[j]? with
    | none => rfl
    | some z =>
      simp only [Option.map_some]
      rw [if_neg (fun e => hj (hA.at hk hz e.symm))]
theorem del_idx {L : List Bg} (hA : AscB L) {k : Nat} {x : Bg} (hk : L[k]? = some x) : del L x.i = L.take k ++ L.drop (k + 1) := by
  obtain ⟨h1, e1⟩ := List.getElem?_eq_some_iff.1 hk
  have hL : L = L.take k ++ x :: L.drop (k + 1) := by
    rw [← e1, ← List.drop_eq_getElem_cons h1, List.take_append_drop]
  have hp := List.pairwise_iff_getElem.1 hA
  unfold del
  conv => lhs; rw [hL]
  rw [List.filter_append, List.filter_cons_of_neg (by simp)]
  congr 1
  · rw [List.filter_eq_self]
    intro z hz
    obtain ⟨j, hj, ez⟩ := List.mem_iff_getElem.1 hz
    have hjk : j < k := by simp at hj; omega
    rw [List.getElem_take] at ez
    have := hp j k (by omega) h1 hjk
    rw [e1, ez] at this
    simp; omega
  · rw [List.filter_eq_self]
    intro z hz
    obtain ⟨j, hj, ez⟩ := List.mem_iff_getElem.1 hz
    rw [List.getElem_drop] at ez
    have := hp k (k + 1 + j) h1 (by simp at hj; omega) (by omega)
    rw [e1, ez] at this
    simp; omega
theorem tik_take {L : List Bg} {k : Nat} {x : Bg} (h : L[k]? = some x) (c : Int) : tik (L.take (k + 1)) c = tik (L.take k) c ++ (if x.u = 0 ∨ c < x.u then [x] else []) := by
  unfold tik
  rw [List.take_add_one, h, Option.toList_some, List.filter_append]
  congr 1
  by_cases hc : x.u = 0 ∨ c < x.u
  · rw [if_pos hc, List.filter_cons_of_pos (by simpa using hc)]; rfl
  · rw [if_neg hc, List.filter_cons_of_neg (by simpa using hc)]; rfl
/-- The cells of the document's book. -/
def dbc (S : Sb) (v : Value) : List Value := [.bool true, .int .i64 (S.a : Int), .int .i64 (S.b : Int), .int .i64 (S.c : Int), v, .int .u32 (S.n : Int), .int .i64 S.t]
/-- The document's book: its head at d, its bookings in v, all its blocks from lo on. -/
structure Db (w : World) (lo d : Nat) (v : Value) (S : Sb) : Prop where
  head : w.heap[d]? = some (.cells (dbc S v).toArray 52 (0, 0))
  row : w.ownsRow lo 78 3 v S.L.length (bgs S.L)
  ge : lo ≤ d
def dbo (d : Nat) (v : Value) (i : Nat) : Prop := i = d ∨ v.ownBlock = some i
/-- What a call on it does. -/
structure Dst (w w' : World) (d : Nat) (v v' : Value) : Prop where
  kept : Kept w w' (dbo d v)
  own : ∀ i, v'.ownBlock = some i → v.ownBlock = some i ∨ w.heap.size ≤ i
section
variable {w w' : World} {lo d : Nat} {v v' : Value} {S S' : Sb}
theorem Db.apart (h : Db w lo d v S) : ¬ v.ownBlock = some d := fun e => by
  obtain ⟨-, cur, hc⟩ := Ix.own_block h.row e
  rw [h.head] at hc
  cases hc
theorem Db.far {X : Nat → Prop} (h : Db w lo d v S) (k : Kept w w' X) (hX : ∀ i, dbo d v i → ¬ X i) : Db w' lo d v S :=
  ⟨k.at h.head (hX _ (.inl rfl)), Ix.row_keep h.row (fun q hq => by obtain ⟨-, cur, hc⟩ := Ix.own_block h.row hq; exact k.block q (row_lt hc) (hX q (.inr hq))), h.ge⟩
theorem Db.then (h : Db w lo d v S) (g : w.grownBy w' none) : Db w' lo d v S := h.far (Kept.new g (fun _ => False)) (fun _ _ e => e)
theorem Db.lt (h : Db w lo d v S) : ∀ i, dbo d v i → i < w.heap.size := by
  rintro i (rfl | hi)
  · exact row_lt h.head
  · obtain ⟨-, cur, hc⟩ := Ix.own_block h.row hi; exact row_lt hc
theorem Db.lows (h : Db w lo d v S) : ∀ i, dbo d v i → lo ≤ i := by
  rintro i (rfl | hi)
  · exact h.ge
  · exact (Ix.own_block h.row hi).1
theorem Db.cell (h : Db w lo d v S) {j : Nat} {u : Value} (hu : (dbc S v)[j]? = some u) : w.cell? ⟨d, j, none⟩ = some u := by rw [cell_row h.head]; exact hu
theorem Db.free (h : Db w lo d v S) (j : Nat) : w.frozen? ⟨d, j, none⟩ = false := free_row h.head j
theorem Db.bga (h : Db w lo d v S) : BgA w v S.L := BgA.own h.row
theorem Dst.refl (w : World) (d : Nat) (v : Value) : Dst w w d v v := ⟨Kept.refl _ _, fun _ e => .inl e⟩
theorem Dst.new (g : w.grownBy w' none) (d : Nat) (v : Value) : Dst w w' d v v := ⟨Kept.new g _, fun _ e => .inl e⟩
theorem Dst.trans {a b c : World} {v v' v'' : Value} (h : Dst a b d v v') (k : Dst b c d v' v'') : Dst a c d v v'' := by
  refine ⟨h.kept.trans k.kept (fun i hi e => ?_), fun i e => ?_⟩
  · rcases e with e | e
    · exact .inl e
    · rcases h.own i e with e | e
      · exact .inr e
      · omega
  · rcases k.own i e with e | e
    · exact h.own i e
    · exact .inr (Nat.le_trans h.kept.size e)
/-- The head is written. -/
theorem Db.headed (h : Db w lo d v S) {j : Nat} {u : Value} (hc : (dbc S v).set j u = dbc S' v) (hl : S'.L = S.L) : Db (w.setCell ⟨d, j, none⟩ u) lo d v S' ∧ Dst w (w.setCell ⟨d, j, none⟩ u) d v v := by
  have k := kept_setCell w d j u
  have hr := row_setCell h.head j u
  rw [hc] at hr
  refine ⟨⟨hr, ?_, h.ge⟩, ⟨k.mono (fun i _ e => .inl e), fun _ e => .inl e⟩⟩
  rw [hl]
  exact Ix.row_keep h.row (fun q hq => by obtain ⟨-, cur, hc⟩ := Ix.own_block h.row hq; exact k.block q (row_lt hc) (fun e => h.apart (by rw [← e]; exact hq)))
end
/-- Which place has the id, or the seat; or none. -/
def PosA (q : Bg → Prop) (L : List Bg) (e : Ending) : Prop := (∃ (k : Nat) (x : Bg), L[k]? = some x ∧ q x ∧ e = .returned (.int .i64 (k : Int))) ∨ ((∀ x ∈ L, ¬ q x) ∧ e = .returned (.int .i64 (-1)))
theorem rd_get {L : List Bg} {i : Nat} (h : i < L.length) : L[i]? = some (rd L i) := by
  unfold rd
  rw [List.getElem?_eq_getElem h]
  rfl
theorem all_not {q : Bg → Prop} {L : List Bg} (h : ∀ j, j < L.length → ¬ q (rd L j)) : ∀ x ∈ L, ¬ q x := fun x hx => by
  obtain ⟨j, hj, rfl⟩ := List.mem_iff_getElem.1 hx
  have := h j hj
  have e := rd_get hj
  rw [List.getElem?_eq_getElem hj] at e
  rw [← Option.some.inj e] at this
  exact this
set_option maxHeartbeats 4000000 in
theorem dfind_any {w : World} {lo d : Nat} {v : Value} {S : Sb} (h : Db w lo d v S) (hL : S.L.length ≤ 65536) (i : Int) : Calls Tryz.prog 79 #[.pointer (some ⟨d, 0, none⟩), .int .u32 i] w fun e w' => PosA (fun x => (x.i : Int) = i) S.L e ∧ w' = w := by
  obtain ⟨ao, cap, rfl, hb⟩ := h.bga.ex
  have c4 := h.cell (j := 4) rfl
  have HB := hide hb
  have HL := hide hL
  clear h hb
  go_enter Tryz.func79, Tryz.ntmps79
  go_wp2
  go_loopg [5] S.L.length (fun k q wr => ∃ j : Nat, k + j = S.L.length ∧ q = .int .i64 (j : Int) ∧ wr = w ∧ Hid (∀ m, m < j → ¬ ((rd S.L m).i : Int) = i))
  case atStart => exact ⟨0, by omega, rfl, rfl, fun m hm => by omega⟩
  case round =>
    obtain ⟨j, hkj, rfl, rfl, HN⟩ := hrel
    by_cases hk : 0 < gk
    · have hj : j < S.L.length := by omega
      have h1 : (j : Int) < (S.L.length : Int) := by omega
      have h0 : (0 : Int) ≤ (j : Int) := by omega
      obtain ⟨g, rfl, e0, e1, e2⟩ := HB.out j hj
      by_cases hx : ((rd S.L j).i : Int) = i
      · have HP := hide (And.intro hj hx)
        have f1 : (((rd S.L j).i : Int) == i) = true := by simpa using hx
        have f2 : decide (((rd S.L j).i : Int) = i) = true := by simpa using hx
        clear hx
        go_wp2
        go_ret
        exact ⟨.inl ⟨j, rd S.L j, rd_get HP.out.1, HP.out.2, rfl⟩, rfl⟩
      · have f1 : (((rd S.L j).i : Int) == i) = false := by simpa using hx
        have f2 : decide (((rd S.L j).i : Int) = i) = false := by simpa using hx
        have HN2 : Hid (∀ m, m < j + 1 → ¬ ((rd S.L m).i : Int) = i) := fun m hm => by
          by_cases hmj : m < j
          · exact HN.out m hmj
          · obtain rfl : m = j := by omega
            exact hx
        clear hx
        have hL' := HL.out
        go_wp2
        go_roundg (gk - 1)
        case measure => omega
        case rel => exact ⟨j + 1, by omega, by go_num, rfl, HN2.out⟩
    · have hj : j = S.L.length := by omega
      subst hj
      go_wp2
      go_ret
      exact ⟨.inr ⟨all_not (q := fun x => (x.i : Int) = i) HN.out, rfl⟩, rfl⟩
set_option maxHeartbeats 4000000 in
theorem dtaken_any {w : World} {lo d : Nat} {v : Value} {S : Sb} (h : Db w lo d v S) (hL : S.L.length ≤ 65536) (i : Int) : Calls Tryz.prog 80 #[.pointer (some ⟨d, 0, none⟩), .int .i64 i] w fun e w' => PosA (fun x => (x.s : Int) = i) S.L e ∧ w' = w := by
  obtain ⟨ao, cap, rfl, hb⟩ := h.bga.ex
  have c4 := h.cell (j := 4) rfl
  have HB := hide hb
  have HL := hide hL
  clear h hb
  go_enter Tryz.func80, Tryz.ntmps80
  go_wp2
  go_loopg [5] S.L.length (fun k q wr => ∃ j : Nat, k + j = S.L.length ∧ q = .int .i64 (j : Int) ∧ wr = w ∧ Hid (∀ m, m < j → ¬ ((rd S.L m).s : Int) = i))
  case atStart => exact ⟨0, by omega, rfl, rfl, fun m hm => by omega⟩
  case round =>
    obtain ⟨j, hkj, rfl, rfl, HN⟩ := hrel
    by_cases hk : 0 < gk
    · have hj : j < S.L.length := by omega
      have h1 : (j : Int) < (S.L.length : Int) := by omega
      have h0 : (0 : Int) ≤ (j : Int) := by omega
      obtain ⟨g, rfl, e0, e1, e2⟩ := HB.out j hj
      by_cases hx : ((rd S.L j).s : Int) = i
      · have HP := hide (And.intro hj hx)
        have f1 : (((rd S.L j).s : Int) == i) = true := by simpa using hx
        have f2 : decide (((rd S.L j).s : Int) = i) = true := by simpa using hx
        clear hx
        go_wp2
        go_ret
        exact ⟨.inl ⟨j, rd S.L j, rd_get HP.out.1, HP.out.2, rfl⟩, rfl⟩
      · have f1 : (((rd S.L j).s : Int) == i) = false := by simpa using hx
        have f2 : decide (((rd S.L j).s : Int) = i) = false := by simpa using hx
        have HN2 : Hid (∀ m, m < j + 1 → ¬ ((rd S.L m).s : Int) = i) := fun m hm => by
          by_cases hmj : m < j
          · exact HN.out m hmj
          · obtain rfl : m = j := by omega
            exact hx
        clear hx
        have hL' := HL.out
        go_wp2
        go_roundg (gk - 1)
        case measure => omega
        case rel => exact ⟨j + 1, by omega, by go_num, rfl, HN2.out⟩
    · have hj : j = S.L.length := by omega
      subst hj
      go_wp2
      go_ret
      exact ⟨.inr ⟨all_not (q := fun x => (x.s : Int) = i) HN.out, rfl⟩, rfl⟩
end Go.Proofs.YtcbiloomnkbalaaGreatDoor
