/- Texts joined: BkR, BkW, BkX, BkY. -/
import Derived.Test.YtcbiloomnkbalaaGreatDoorJoAx
/- Two books side by side; ticks, numbers alone. -/
namespace Go.Proofs.YtcbiloomnkbalaaGreatDoor
open Go.RowKit
section
variable {w W W' : World} {b c : Nat} {S S' : Sb} {K K' : Nat} {p q q' : Bp} {Bs : List (Nat × List Value × TypeId)}
/-- What another book's call leaves. -/
theorem Lk.beside (h : Lk w W b S K p Bs) (hq : Lk w W c S' K' q Bs) (hd : ∀ i, p.own i → ¬ q.own i) (k : Bst W W' q q') : Lk w W' b S K p Bs ∧ (∀ i, p.own i → ¬ q'.own i) := by
  refine ⟨⟨h.eb, h.bk.far k.kept hd, hq.kept k.kept, h.own, fun x hx => ?_⟩, fun i hi e => ?_⟩
  · obtain ⟨h1, h2, h3⟩ := h.bx x hx
    exact ⟨k.kept.at h1 (hq.bx x hx).2.1, h2, h3⟩
  · rcases k.own i e with e | e
    · exact hd i hi e
    · have := h.bk.lt i hi; omega
theorem Lk.copy2 (h : Lk w W b S K p Bs) (hw : S.Wk) : Calls Tryz.prog 22 #[.pointer (some ⟨b, 0, none⟩)] W fun e w' => ∃ c q, e = .returned (.pointer (some ⟨c, 0, none⟩)) ∧ Lk w w' b S K p Bs ∧ Lk w w' c S 4096 q Bs ∧ (∀ i, p.own i → ¬ q.own i) := by
  refine (h.copy hw).mono ?_
  rintro e w' ⟨q, rfl, h1, h2, h3, h4⟩
  exact ⟨q.b, q, rfl, h2, ⟨rfl, h1, h2.gr, fun i hi => Nat.le_trans h.gr.size (h3 i hi), fun x hx => ⟨(h2.bx x hx).1, fun e => by have := h3 _ e; have := row_lt (h.bx x hx).1; omega, (h2.bx x hx).2.2⟩⟩, h4⟩
theorem Lk.same (h : Lk w W b S K p Bs) (hq : Lk w W c S K' q Bs) (hw : S.Wk) : Calls Tryz.prog 20 #[.pointer (some ⟨b, 0, none⟩), .pointer (some ⟨c, 0, none⟩)] W fun e w' => e = .returned (.bool true) ∧ W.grownBy w' none := by
  have := same_eq h.bk hq.bk hw
  rw [h.eb, hq.eb] at this
  exact this
end
/-- A tick. -/
def tkR (c : Int) : Rc := ⟨5, 0, 0, 0, c⟩
theorem tkR_ok {c : Int} (h0 : -9223372036854775808 ≤ c) (h1 : c ≤ 9223372036854775807) : (tkR c).Ok := ⟨by simp only [tkR]; omega, by simp only [tkR]; omega, by simp only [tkR]; omega, by simp only [tkR]; omega, by simp only [tkR]; omega, by simp only [tkR]; omega, by simp only [tkR]; omega, by simp only [tkR]; omega, h0, h1⟩
theorem tk_may (c : Int) : (tkR c).May ↔ 1 ≤ c ∧ c ≤ mxC := by
  unfold Rc.May tkR
  simp
theorem tk_bad {S : Sb} {c : Int} (h : ¬ (1 ≤ c ∧ c ≤ mxC)) : appE S (tkR c) = 160 := by
  unfold appE; rw [if_pos (fun e => h ((tk_may c).1 e))]
theorem tk_e {S : Sb} {c : Int} (h : 1 ≤ c ∧ c ≤ mxC) : appE S (tkR c) = if c ≤ S.t then 173 else 0 := by
  unfold appE; rw [if_neg (fun e => e ((tk_may c).2 h)), ]; simp [tkR]; rfl
theorem tk_past {S : Sb} {c : Int} (h : 1 ≤ c ∧ c ≤ mxC) (h2 : c ≤ S.t) : appE S (tkR c) = 173 := by rw [tk_e h, if_pos h2]
theorem tk_ok {S : Sb} {c : Int} (h : 1 ≤ c ∧ c ≤ mxC) (h2 : ¬ c ≤ S.t) : appE S (tkR c) = 0 ∧ app S (tkR c) = { S with L := tik S.L c, t := c } := by
  have h0 : appE S (tkR c) = 0 := by rw [tk_e h, if_neg h2]
  refine ⟨h0, ?_⟩
  rw [app_yes h0]
  rfl
theorem tik_tik (L : List Bg) {f l : Int} (h : f < l) : tik (tik L f) l = tik L l := by
  unfold tik
  rw [List.filter_filter]
  apply List.filter_congr
  intro x _
  by_cases h0 : x.u = 0
  · simp [h0]
  · by_cases h1 : l < x.u
    · simp [h1, show f < x.u by omega]
    · simp [h0, h1]
theorem tk_two {S : Sb} {f l : Int} (h : f < l) (hl : 1 ≤ l ∧ l ≤ mxC) (h2 : ¬ l ≤ S.t) : appE (app S (tkR f)) (tkR l) = 0 ∧ app (app S (tkR f)) (tkR l) = app S (tkR l) := by
  by_cases he : appE S (tkR f) = 0
  · have hf : 1 ≤ f ∧ f ≤ mxC := (tk_may f).1 (appE_may he)
    have hf2 : ¬ f ≤ S.t := fun e => by rw [tk_past hf e] at he; cases he
    obtain ⟨e1, e2⟩ := tk_ok hf hf2
    rw [e2]
    obtain ⟨e3, e4⟩ := tk_ok (S := { S with L := tik S.L f, t := f }) hl (by show ¬ l ≤ f; omega)
    refine ⟨e3, ?_⟩
    rw [e4, (tk_ok hl h2).2]
    show Sb.mk _ _ _ _ _ (tik (tik S.L f) l) = _
    rw [tik_tik _ h]
  · rw [app_no he]
    exact ⟨(tk_ok hl h2).1, rfl⟩
theorem fnd_tik {L : List Bg} (hA : AscB L) {x : Bg} (hx : x ∈ L) {c : Int} : fnd (tik L c) x.i = if x.u = 0 ∨ c < x.u then some x else none := by
  have hA' : AscB (tik L c) := hA.filter _
  by_cases h : x.u = 0 ∨ c < x.u
  · rw [if_pos h]
    exact (fnd_some hA').2 ⟨tik_mem.2 ⟨hx, h⟩, rfl⟩
  · rw [if_neg h]
    refine fnd_none.2 (fun y hy e => h ?_)
    obtain ⟨h1, h2⟩ := tik_mem.1 hy
    rw [← hA.same h1 hx e]
    exact h2
theorem tik_snoc (L : List Bg) (x : Bg) (c : Int) : (tik (L ++ [x]) c).length = (tik L c).length + (if x.u = 0 ∨ c < x.u then 1 else 0) := by
  unfold tik
  rw [List.filter_append, List.length_append]
  by_cases h : x.u = 0 ∨ c < x.u
  · rw [if_pos h, List.filter_cons_of_pos (by simpa using h)]; rfl
  · rw [if_neg h, List.filter_cons_of_neg (by simpa using h)]; rfl
end Go.Proofs.YtcbiloomnkbalaaGreatDoor
/- A book of bookings that may be: Of. -/
namespace Go.Proofs.YtcbiloomnkbalaaGreatDoor
open Go.RowKit
attribute [local go_sem ↓] Go.wp_at_zero Go.wp_at_succ
attribute [local go_sem] Oper.semAt_some
set_option maxHeartbeats 4000000 in
theorem mayLast_ok {w : World} {p : Bp} {S : Sb} {K : Nat} (h : BkAt w p S K) {u : Int} (hu : u = 0 ∨ (S.t < u ∧ u ≤ mxC)) : Calls Tryz.prog 72 #[.pointer (some ⟨p.b, 0, none⟩), .int .i64 u] w fun e w' => e = .returned (.bool true) ∧ w' = w := by
  have c5 := h.cells 5 _ rfl
  clear h
  by_cases hz : u = 0
  · subst hz
    go_enter Tryz.func72, Tryz.ntmps72
    go_wp2
    go_ret
    exact ⟨rfl, rfl⟩
  · have h1 : S.t < u := by omega
    have h2 : u ≤ 1099511627776 := by rcases hu with e | e; exact absurd e hz; exact e.2
    have hz1 : (u == 0) = false := by simpa using hz
    have hz2 : decide (u = 0) = false := by simpa using hz
    clear hu
    go_enter Tryz.func72, Tryz.ntmps72
    go_wp2
    go_ret
    exact ⟨rfl, rfl⟩
set_option maxRecDepth 20000 in
set_option maxHeartbeats 8000000 in
theorem mayHave_ok {w : World} {p : Bp} {S : Sb} {K : Nat} (h : BkAt w p S K) (x : Bg) (hi : x.i < S.n) (hs : x.s < S.a) (hn : sat S.L x.s = none) (hf : S.L.length < S.b) (hu : x.u = 0 ∨ (S.t < x.u ∧ x.u ≤ mxC)) : Calls Tryz.prog 41 #[.pointer (some ⟨p.b, 0, none⟩), bgV x] w fun e w' => e = .returned (.bool true) ∧ w.grownBy w' none := by
  obtain ⟨xi, xs, xu⟩ := x
  simp only at hi hs hn hu
  have m0 := Bm.start h (bgc ⟨xi, xs, xu⟩) 78
  have HS : Hid (∀ W, Calls Tryz.prog 55 #[limV S.a S.b S.c, .int .i64 (xs : Int)] W fun e w' => e = .returned (.bool true) ∧ W.grownBy w' none) := by
    intro W
    have := hasSeat_any S.a S.b S.c (xs : Int) W
    rw [decide_eq_true (show (0 : Int) ≤ (xs : Int) ∧ (xs : Int) < (S.a : Int) by omega)] at this
    exact this
  have HR : Hid (∀ W, Calls Tryz.prog 71 #[limV S.a S.b S.c, .int .i64 (S.L.length : Int)] W fun e w' => e = .returned (.bool true) ∧ W.grownBy w' none) := by
    intro W
    have := hasRoom_any S.a S.b S.c (S.L.length : Int) W
    rw [decide_eq_true (show (S.L.length : Int) < (S.b : Int) by omega)] at this
    exact this
  have HH : Hid (∀ W, Bm w W w.heap.size (bgc ⟨xi, xs, xu⟩) 78 p S K → Calls Tryz.prog 56 #[.pointer (some ⟨p.tb, 0, none⟩), .int .i64 (xs : Int)] W fun e w' => e = .returned (.bool false) ∧ W.grownBy w' none) := by
    intro W hW
    have := hW.bk.has xs hs
    rw [hn] at this
    exact this
  have HL : Hid (∀ W, Bm w W w.heap.size (bgc ⟨xi, xs, xu⟩) 78 p S K → Calls Tryz.prog 53 #[.pointer (some ⟨p.ip.x, 0, none⟩)] W fun e w' => e = .returned (.int .i64 (S.L.length : Int)) ∧ w' = W) := fun W hW => hW.bk.len
  have HM : Hid (∀ W, Bm w W w.heap.size (bgc ⟨xi, xs, xu⟩) 78 p S K → Calls Tryz.prog 72 #[.pointer (some ⟨p.b, 0, none⟩), .int .i64 xu] W fun e w' => e = .returned (.bool true) ∧ w' = W) := fun W hW => mayLast_ok hW.bk hu
  have HK : Hid (∀ W, Bm w W w.heap.size (bgc ⟨xi, xs, xu⟩) 78 p S K → W.cell? ⟨p.b, 0, none⟩ = some (.int .i64 (S.a : Int)) ∧ W.cell? ⟨p.b, 1, none⟩ = some (.int .i64 (S.b : Int)) ∧ W.cell? ⟨p.b, 2, none⟩ = some (.int .i64 (S.c : Int)) ∧ W.cell? ⟨p.b, 4, none⟩ = some (.int .u32 (S.n : Int)) ∧ W.cell? ⟨p.b, 6, none⟩ = some (.pointer (some ⟨p.tb, 0, none⟩)) ∧ W.cell? ⟨p.b, 8, none⟩ = some (.pointer (some ⟨p.ip.x, 0, none⟩)) ∧ W.cell? ⟨w.heap.size, 0, none⟩ = some (.int .u32 (xi : Int)) ∧ W.cell? ⟨w.heap.size, 1, none⟩ = some (.int .i64 (xs : Int)) ∧ W.cell? ⟨w.heap.size, 2, none⟩ = some (.int .i64 xu)) := fun W m => ⟨m.ff.a0, m.ff.a1, m.ff.a2, m.ff.a4, m.ff.a6, m.ff.a8, m.ff.bx 0 _ rfl, m.ff.bx 1 _ rfl, m.ff.bx 2 _ rfl⟩
  unfold limV at HS HR
  unfold bgc at m0 HH HL HM HK
  have hK0 := HK.out _ m0
  have h1 : (xi : Int) < (S.n : Int) := by omega
  clear h hs hn hf hu hi
  unfold bgV
  go_enter Tryz.func41, Tryz.ntmps41
  go_wp2
  generalize World.alloc w _ = w0 at *
  go_region_held3 (fun W => W.cell? ⟨p.b, 0, none⟩ = some (.int .i64 (S.a : Int)) ∧ W.cell? ⟨p.b, 1, none⟩ = some (.int .i64 (S.b : Int)) ∧ W.cell? ⟨p.b, 2, none⟩ = some (.int .i64 (S.c : Int)) ∧ W.cell? ⟨p.b, 4, none⟩ = some (.int .u32 (S.n : Int)) ∧ W.cell? ⟨p.b, 6, none⟩ = some (.pointer (some ⟨p.tb, 0, none⟩)) ∧ W.cell? ⟨p.b, 8, none⟩ = some (.pointer (some ⟨p.ip.x, 0, none⟩)) ∧ W.cell? ⟨w.heap.size, 0, none⟩ = some (.int .u32 (xi : Int)) ∧ W.cell? ⟨w.heap.size, 1, none⟩ = some (.int .i64 (xs : Int)) ∧ W.cell? ⟨w.heap.size, 2, none⟩ = some (.int .i64 xu)) (first | assumption | exact hK0)
    ((first
      | (go_at_call 55; refine (HS.out _).mono ?_; rintro e w2 ⟨rfl, hg2⟩; have m2 := (Bm.then m0 (grown_drew _ none)).then hg2; have hK2 := HK.out _ m2)
      | (go_at_call 56; refine (HH.out _ m2).mono ?_; rintro e w3 ⟨rfl, hg3⟩; have m3 := Bm.then m2 hg3; have hK3 := HK.out _ m3)
      | (go_at_call 53; refine (HL.out _ m3).mono ?_; rintro e w4 ⟨rfl, rfl⟩)
      | (go_at_call 71; refine (HR.out _).mono ?_; rintro e w5 ⟨rfl, hg5⟩; have m5 := Bm.then m3 hg5; have hK5 := HK.out _ m5)
      | (go_at_call 72; refine (HM.out _ m5).mono ?_; rintro e w6 ⟨rfl, rfl⟩)))
  go_wp2
  go_ret
  exact ⟨rfl, m5.gr⟩
/-- Bookings ahead of one. -/
theorem take_ok {L : List Bg} (hA : AscB L) (hO : OneS L) {j : Nat} (hj : j < L.length) : (∀ y ∈ L.take j, y.i < (rd L j).i) ∧ sat (L.take j) (rd L j).s = none := by
  have h1 := pre_facts (L := L) (pre := L.take j) (x := rd L j) (by rw [take_rd hj]; exact List.take_prefix _ _) hA hO
  exact ⟨h1.2.1, h1.2.2.1⟩
theorem last_le {L : List Bg} (hA : AscB L) {j l : Nat} (hl : ∀ k, j ≤ k → k < L.length → l ≤ (rd L k).i) (hj : j < L.length) : l ≤ (rd L j).i ∧ ∀ k, j + 1 ≤ k → k < L.length → (rd L j).i + 1 ≤ (rd L k).i :=
  ⟨hl j (Nat.le_refl _) hj, fun k h1 h2 => rd_asc hA (by omega) h2⟩
set_option maxRecDepth 20000 in
set_option maxHeartbeats 8000000 in
theorem of_ok {w : World} {v : Value} {a b c n : Nat} {t : Int} {L : List Bg} (hS : Sb.Ok ⟨a, b, c, n, t, L⟩) (hv : BgA w v L) (hz : 0 < w.heap.size) : Calls Tryz.prog 11 #[limV a b c, .int .u32 (n : Int), .int .i64 t, v] w fun e w' => ∃ x p, e = .returned (.tuple #[.pointer (some ⟨x, 0, none⟩), .int .i64 0]) ∧ Lk w w' x ⟨a, b, c, n, t, L⟩ 4096 p [] := by
  have hok : Gx.OkS a b c := by have h1 := hS.a0; have h2 := hS.a1; have h3 := hS.b0; have h4 := hS.b1; have h5 := hS.c0; have h6 := hS.c1; simp only at h1 h2 h3 h4 h5 h6; unfold Gx.OkS; omega
  obtain ⟨vo, cap, rfl, hx⟩ := hv.ex
  have HC1 : Hid (∀ W : World, Calls Tryz.prog 39 #[.agg #[.int .i64 (a : Int), .int .i64 (b : Int), .int .i64 (c : Int)]] W fun e w' => e = .returned (.int .i64 0) ∧ W.grownBy w' none) := fun W => Ge.check_ok _ _ _ hok W
  have HC2 : Hid (∀ W : World, w.grownBy W none → Calls Tryz.prog 40 #[.agg #[.int .i64 (a : Int), .int .i64 (b : Int), .int .i64 (c : Int)], .int .u32 (n : Int), .int .i64 t] W fun e w' => ∃ x p, e = .returned (.pointer (some ⟨x, 0, none⟩)) ∧ Lk w w' x ⟨a, b, c, n, t, []⟩ 0 p []) := by
    intro W hW
    refine (empty_any a b c n t hok W (by have := hW.size; omega)).mono ?_
    rintro e w' ⟨p, rfl, h1, h2, h3⟩
    exact ⟨p.b, p, rfl, rfl, h1, grown_trans hW h2, fun i hi => Nat.le_trans hW.size (h3 i hi), fun x hx => by cases hx⟩
  have HV := hide hv
  have HO := hide hS
  have hn1 : (1 : Int) ≤ (n : Int) := by have := hS.n0; simp only at this; omega
  have ht0 : ¬ t < 0 := by have := hS.t0; simp only at this; omega
  have ht1 : ¬ (1099511627776 : Int) < t := by have := hS.t1; simp only [mxC] at this; omega
  have HMay : Hid (∀ W x p j, j < L.length → Lk w W x ⟨a, b, c, n, t, L.take j⟩ j p [] → Calls Tryz.prog 41 #[.pointer (some ⟨x, 0, none⟩), bgV (rd L j)] W fun e w' => e = .returned (.bool true) ∧ W.grownBy w' none) := by
    intro W x p j hj h
    have hm := rd_mem hj
    have := mayHave_ok h.bk (rd L j) (HO.out.id _ hm).2 (HO.out.st _ hm) (take_ok HO.out.asc HO.out.one hj).2 (by have h1 := HO.out.few; simp only [List.length_take] at h1 ⊢; omega) (HO.out.til _ hm)
    rw [h.eb] at this
    exact this
  have HAdd : Hid (∀ W x p j Bs, j < L.length → Lk w W x ⟨a, b, c, n, t, L.take j⟩ j p Bs → Calls Tryz.prog 42 #[.pointer (some ⟨x, 0, none⟩), bgV (rd L j)] W fun e w' => e = .returned (.tuple #[]) ∧ ∃ q, Lk w w' x ⟨a, b, c, n, t, L.take (j + 1)⟩ (j + 1) q Bs) := by
    intro W x p j Bs hj h
    have hm := rd_mem hj
    have hwk : Sb.Wk ⟨a, b, c, n, t, L.take j⟩ := HO.out.wk.sub (List.take_sublist _ _) HO.out.t0 HO.out.t1
    have hi := (HO.out.id _ hm).2
    have hn := HO.out.n1
    have hfw := HO.out.few
    have hb1 := HO.out.b1
    simp only at hi hn hfw hb1
    have := add_any h.bk hwk (by omega) (rd L j) (by omega) (HO.out.st _ hm) (take_ok HO.out.asc HO.out.one hj).1 (take_ok HO.out.asc HO.out.one hj).2 (by simp only [List.length_take]; omega)
    rw [h.eb] at this
    refine this.mono ?_
    rintro e w' ⟨rfl, q, h1, h2⟩
    simp only [take_rd hj] at h1
    exact ⟨rfl, q, h.step h2 h1⟩
  have hb0 := heap_alloc_new w (.cells [.int .i64 (a : Int), .int .i64 (b : Int), .int .i64 (c : Int)].toArray 23)
  have HB0 := hide hb0
  clear hS hok hx hv hz hb0
  unfold limV
  generalize hnn : L.length = m at *
  have HN := hide hnn
  have hm8 : m ≤ 4096 := by have h1 := HO.out.few; have h2 := HO.out.b1; simp only at h1 h2; omega
  clear hnn
  go_enter Tryz.func11, Tryz.ntmps11
  go_wp2_with fail
  refine (HC1.out _).mono ?_
  rintro e w1 ⟨rfl, hg1⟩
  have hg0 := grown_trans (grown_alloc w _) hg1
  obtain ⟨d0, d1, d2, -⟩ := box3 ((hg1.block _ (row_lt HB0.out) (by simp)).trans HB0.out)
  go_wp2_with fail
  refine (HC2.out _ hg0).mono ?_
  rintro e w2 ⟨x, p, rfl, hh⟩
  have H2 := hide hh
  clear hh d0 d1 d2 hg0 hg1 HC1 HC2 HB0
  go_wp2
  go_loopg [12, 36] m (fun k la i wr => ∃ j l : Nat, k + j = m ∧ i = .int .i64 j ∧ la = .int .u32 (l : Int) ∧ Hid (∀ k, j ≤ k → k < L.length → l ≤ (rd L k).i) ∧ ∃ q, Hid (Lk w wr x ⟨a, b, c, n, t, L.take j⟩ j q []))
  case atStart => exact ⟨0, 1, by omega, rfl, rfl, (fun k _ hk => (HO.out.id _ (rd_mem hk)).1), _, H2.out⟩
  case round =>
    clear H2
    obtain ⟨j, l, hkj, rfl, rfl, HL, q, HQ⟩ := hrel
    by_cases hk : 0 < gk
    · have hj : j < L.length := by rw [HN.out]; omega
      have h1 : (0 : Int) ≤ (j : Int) := by omega
      have h2 : (j : Int) < (m : Int) := by omega
      obtain ⟨ao', cap', he, hx⟩ := (HV.out.then HQ.out.gr).ex
      cases he
      obtain ⟨g, rfl, x0, x1, x2⟩ := hx j hj
      obtain ⟨hl1, hl2⟩ := last_le (L := L) HO.out.asc HL.out hj
      have HNx := hide hl2
      have HM' := hide (fun W h => HMay.out W x q j hj h)
      have HA' := hide (fun W Bs h => HAdd.out W x q j Bs hj h)
      have hid := (HO.out.id _ (rd_mem hj)).2
      have hn1' := HO.out.n1
      simp only at hid hn1'
      have hid2 : ((rd L j).i : Int) + 1 < 4294967296 := by omega
      have hl1' : ¬ ((rd L j).i : Int) < (l : Int) := by omega
      obtain ⟨xx, hxx⟩ : ∃ xx, rd L j = xx := ⟨_, rfl⟩
      rw [hxx] at x0 x1 x2 HNx HM' HA' hid2 hl1'
      obtain ⟨xi, xs, xu⟩ := xx
      simp only [bgV] at x0 x1 x2 HNx HM' HA' hid2 hl1'
      clear hx hxx hl1 hl2 hid hn1' hj HMay HAdd
      go_wp2_with fail
      have HB := hide (HQ.out.box [.int .u32 (xi : Int), .int .i64 (xs : Int), .int .i64 xu] 78)
      refine (HM'.out _ HB.out.bare).mono ?_
      rintro e w3 ⟨rfl, hg3⟩
      have h3 := HB.out.then hg3
      have y0 := h3.cell List.mem_cons_self 0 _ rfl
      have y1 := h3.cell List.mem_cons_self 1 _ rfl
      have y2 := h3.cell List.mem_cons_self 2 _ rfl
      have H3 := hide h3
      clear h3 hg3 HB x0 x1 x2 HM' HQ
      go_wp2_with fail
      refine (HA'.out _ _ H3.out).mono ?_
      rintro e w4 ⟨rfl, q4, h4⟩
      have z0 := h4.cell List.mem_cons_self 0 _ rfl
      have H4 := hide h4.bare
      clear h4 H3 y0 y1 y2 HA'
      go_wp2
      go_roundg (gk - 1)
      case measure => omega
      case rel => exact ⟨j + 1, xi + 1, by omega, by go_num, by go_num, HNx.out, _, H4.out⟩
    · have hj : j = m := by omega
      subst hj
      have HF := hide (HQ.out.more hm8)
      have HT : Hid (L.take j = L) := by rw [← HN.out]; exact List.take_length
      go_wp2
      go_ret2
      rw [HT.out] at HF
      exact ⟨_, _, rfl, HF.out⟩
end Go.Proofs.YtcbiloomnkbalaaGreatDoor
/- Books alike but for the group; their rows copied. -/
namespace Go.Proofs.YtcbiloomnkbalaaGreatDoor
open Go.RowKit
attribute [local go_sem ↓] Go.wp_at_zero Go.wp_at_succ
attribute [local go_sem] Oper.semAt_some
theorem appE_c (S : Sb) (c1 : Nat) (r : Rc) : appE { S with c := c1 } r = appE S r := rfl
theorem app_c (S : Sb) (c1 : Nat) (r : Rc) : app { S with c := c1 } r = { app S r with c := c1 } := by
  unfold app
  rw [appE_c]
  split
  · unfold appS
    repeat' split
    all_goals rfl
  · rfl
set_option maxHeartbeats 4000000 in
theorem shape_any {w : World} {p : Bp} {S : Sb} {K : Nat} (h : BkAt w p S K) : Calls Tryz.prog 34 #[.pointer (some ⟨p.b, 0, none⟩)] w fun e w' => e = .returned (limV S.a S.b S.c) ∧ w.grownBy w' none := by
  have m0 := Bm.start h [.int .i64 0, .int .i64 0, .int .i64 0] 23
  have HC1 := hide m0.bk.isNone
  have a0 := m0.ff.a0
  have a1 := m0.ff.a1
  have a2 := m0.ff.a2
  obtain ⟨d0, d1, d2, d3⟩ := box3 m0.box
  have HM := hide m0
  clear h m0
  unfold limV
  go_enter Tryz.func34, Tryz.ntmps34
  go_wp2_with fail
  refine HC1.out.mono ?_
  rintro e w1 ⟨rfl, rfl⟩
  go_wp2
  obtain ⟨r1, r2⟩ := row3 _ HM.out.box (.int .i64 (S.a : Int)) (.int .i64 (S.b : Int)) (.int .i64 (S.c : Int))
  first
    | exact bodyPost_ret (results_cell_row rfl _ _ w.heap.size 23 #[.int .i64 (S.a : Int), .int .i64 (S.b : Int), .int .i64 (S.c : Int)] (0, 0) _ rfl r1 Tryz.underlying23 rfl (by kernel_rfl)) rfl ⟨rfl, gn_set (gn_set (gn_set HM.out.gr (Nat.le_refl _)) (Nat.le_refl _)) (Nat.le_refl _)⟩
    | exact bodyPost_ret (results_cell_row rfl _ _ w.heap.size 23 #[.int .i64 (S.a : Int), .int .i64 (S.b : Int), .int .i64 (S.c : Int)] (0, 0) _ rfl (heap_alloc_new w _) Tryz.underlying23 rfl (by kernel_rfl)) rfl ⟨rfl, grown_alloc _ _⟩
set_option maxHeartbeats 8000000 in
theorem same_c {w : World} {p q : Bp} {S : Sb} {K K' c1 : Nat} (hp : BkAt w p S K) (hq : BkAt w q { S with c := c1 } K') (hw : S.Wk) (hw2 : Sb.Wk { S with c := c1 }) : Calls Tryz.prog 20 #[.pointer (some ⟨p.b, 0, none⟩), .pointer (some ⟨q.b, 0, none⟩)] w fun e w' => e = .returned (.bool true) ∧ w.grownBy w' none := by
  have HN1 := hide hp.isNone
  have HN2 := hide hq.isNone
  have HL : Hid (∀ W, Calls Tryz.prog 48 #[limV S.a S.b S.c, limV S.a S.b c1] W fun e w' => e = .returned (.bool true) ∧ W.grownBy w' none) := fun W => isLike_eq _ _ _ _ W
  have HB1 : Hid (∀ W, w.grownBy W none → Calls Tryz.prog 50 #[.pointer (some ⟨p.b, 0, none⟩)] W fun e w' => ∃ v, e = .returned v ∧ BgA w' v S.L ∧ W.grownBy w' none) := by
    intro W hW
    refine (bookings_any (hp.then hW) hw).mono ?_
    rintro e w' ⟨v, rfl, h1, h2⟩
    exact ⟨v, rfl, BgA.own h1, h2⟩
  have HB2 : Hid (∀ W, w.grownBy W none → Calls Tryz.prog 50 #[.pointer (some ⟨q.b, 0, none⟩)] W fun e w' => ∃ v, e = .returned v ∧ BgA w' v S.L ∧ W.grownBy w' none) := by
    intro W hW
    refine (bookings_any (hq.then hW) hw2).mono ?_
    rintro e w' ⟨v, rfl, h1, h2⟩
    exact ⟨v, rfl, BgA.own h1, h2⟩
  have HE : Hid (∀ W v u, BgA W v S.L → BgA W u S.L → Calls Tryz.prog 49 #[v, u] W fun e w' => e = .returned (.bool true) ∧ W.grownBy w' none) := by
    intro W v u h1 h2
    have := equal_any h1 h2 (by have := hw.few; have := hw.b1; omega)
    rw [decide_eq_true rfl] at this
    exact this
  have HK : Hid (∀ W, w.grownBy W none → (W.cell? ⟨p.b, 0, none⟩ = some (.int .i64 (S.a : Int)) ∧ W.cell? ⟨p.b, 1, none⟩ = some (.int .i64 (S.b : Int)) ∧ W.cell? ⟨p.b, 2, none⟩ = some (.int .i64 (S.c : Int)) ∧ W.cell? ⟨p.b, 4, none⟩ = some (.int .u32 (S.n : Int)) ∧ W.cell? ⟨p.b, 5, none⟩ = some (.int .i64 S.t)) ∧ W.cell? ⟨q.b, 0, none⟩ = some (.int .i64 (S.a : Int)) ∧ W.cell? ⟨q.b, 1, none⟩ = some (.int .i64 (S.b : Int)) ∧ W.cell? ⟨q.b, 2, none⟩ = some (.int .i64 (c1 : Int)) ∧ W.cell? ⟨q.b, 4, none⟩ = some (.int .u32 (S.n : Int)) ∧ W.cell? ⟨q.b, 5, none⟩ = some (.int .i64 S.t)) := fun W hW =>
    ⟨⟨(hp.then hW).cells 0 _ rfl, (hp.then hW).cells 1 _ rfl, (hp.then hW).cells 2 _ rfl, (hp.then hW).cells 4 _ rfl, (hp.then hW).cells 5 _ rfl⟩, (hq.then hW).cells 0 _ rfl, (hq.then hW).cells 1 _ rfl, (hq.then hW).cells 2 _ rfl, (hq.then hW).cells 4 _ rfl, (hq.then hW).cells 5 _ rfl⟩
  have hK0 := HK.out w (grown_refl _ _)
  clear hp hq hw hw2
  unfold limV at HL
  generalize (S.a : Int) = a at *
  generalize (S.b : Int) = b at *
  generalize (S.c : Int) = c at *
  generalize (c1 : Int) = c2 at *
  generalize (S.n : Int) = n at *
  generalize S.t = t at *
  go_enter Tryz.func20, Tryz.ntmps20
  go_wp2_with fail
  refine HN1.out.mono ?_
  rintro e w1 ⟨rfl, rfl⟩
  go_wp2_with fail
  refine HN2.out.mono ?_
  rintro e w2 ⟨rfl, rfl⟩
  go_wp2
  go_region_held3 (fun W => (W.cell? ⟨p.b, 0, none⟩ = some (.int .i64 a) ∧ W.cell? ⟨p.b, 1, none⟩ = some (.int .i64 b) ∧ W.cell? ⟨p.b, 2, none⟩ = some (.int .i64 c) ∧ W.cell? ⟨p.b, 4, none⟩ = some (.int .u32 n) ∧ W.cell? ⟨p.b, 5, none⟩ = some (.int .i64 t)) ∧ W.cell? ⟨q.b, 0, none⟩ = some (.int .i64 a) ∧ W.cell? ⟨q.b, 1, none⟩ = some (.int .i64 b) ∧ W.cell? ⟨q.b, 2, none⟩ = some (.int .i64 c2) ∧ W.cell? ⟨q.b, 4, none⟩ = some (.int .u32 n) ∧ W.cell? ⟨q.b, 5, none⟩ = some (.int .i64 t)) (first | assumption | exact hK0)
    ((first
      | (go_at_call 48; refine (HL.out _).mono ?_; rintro e w3 ⟨rfl, hg3⟩; have g3 := grown_trans (grown_drew _ none) hg3; have hK3 := HK.out _ g3)
      | (go_at_call_of 50 (Value.pointer (some ⟨p.b, 0, none⟩)); refine (HB1.out _ g3).mono ?_; rintro e w4 ⟨v, rfl, hv4, hg4⟩; have g4 := grown_trans g3 hg4; have hK4 := HK.out _ g4)
      | (go_at_call_of 50 (Value.pointer (some ⟨q.b, 0, none⟩)); refine (HB2.out _ g4).mono ?_; rintro e w5 ⟨u, rfl, hu5, hg5⟩; have g5 := grown_trans g4 hg5; have hK5 := HK.out _ g5; have hv5 := hv4.then hg5)
      | (go_at_call 49; refine (HE.out _ _ _ hv5 hu5).mono ?_; rintro e w6 ⟨rfl, hg6⟩; have g6 := grown_trans g5 hg6; have hK6 := HK.out _ g6)))
  go_wp2
  go_ret
  exact ⟨rfl, g6⟩
set_option maxHeartbeats 8000000 in
theorem same_c' {w : World} {p q : Bp} {S : Sb} {K K' c1 : Nat} (hp : BkAt w p { S with c := c1 } K) (hq : BkAt w q S K') (hw2 : S.Wk) (hw : Sb.Wk { S with c := c1 }) : Calls Tryz.prog 20 #[.pointer (some ⟨p.b, 0, none⟩), .pointer (some ⟨q.b, 0, none⟩)] w fun e w' => e = .returned (.bool true) ∧ w.grownBy w' none := by
  have HN1 := hide hp.isNone
  have HN2 := hide hq.isNone
  have HL : Hid (∀ W, Calls Tryz.prog 48 #[limV S.a S.b c1, limV S.a S.b S.c] W fun e w' => e = .returned (.bool true) ∧ W.grownBy w' none) := fun W => isLike_eq _ _ _ _ W
  have HB1 : Hid (∀ W, w.grownBy W none → Calls Tryz.prog 50 #[.pointer (some ⟨p.b, 0, none⟩)] W fun e w' => ∃ v, e = .returned v ∧ BgA w' v S.L ∧ W.grownBy w' none) := by
    intro W hW
    refine (bookings_any (hp.then hW) hw).mono ?_
    rintro e w' ⟨v, rfl, h1, h2⟩
    exact ⟨v, rfl, BgA.own h1, h2⟩
  have HB2 : Hid (∀ W, w.grownBy W none → Calls Tryz.prog 50 #[.pointer (some ⟨q.b, 0, none⟩)] W fun e w' => ∃ v, e = .returned v ∧ BgA w' v S.L ∧ W.grownBy w' none) := by
    intro W hW
    refine (bookings_any (hq.then hW) hw2).mono ?_
    rintro e w' ⟨v, rfl, h1, h2⟩
    exact ⟨v, rfl, BgA.own h1, h2⟩
  have HE : Hid (∀ W v u, BgA W v S.L → BgA W u S.L → Calls Tryz.prog 49 #[v, u] W fun e w' => e = .returned (.bool true) ∧ W.grownBy w' none) := by
    intro W v u h1 h2
    have := equal_any h1 h2 (by have := hw2.few; have := hw2.b1; omega)
    rw [decide_eq_true rfl] at this
    exact this
  have HK : Hid (∀ W, w.grownBy W none → (W.cell? ⟨p.b, 0, none⟩ = some (.int .i64 (S.a : Int)) ∧ W.cell? ⟨p.b, 1, none⟩ = some (.int .i64 (S.b : Int)) ∧ W.cell? ⟨p.b, 2, none⟩ = some (.int .i64 (c1 : Int)) ∧ W.cell? ⟨p.b, 4, none⟩ = some (.int .u32 (S.n : Int)) ∧ W.cell? ⟨p.b, 5, none⟩ = some (.int .i64 S.t)) ∧ W.cell? ⟨q.b, 0, none⟩ = some (.int .i64 (S.a : Int)) ∧ W.cell? ⟨q.b, 1, none⟩ = some (.int .i64 (S.b : Int)) ∧ W.cell? ⟨q.b, 2, none⟩ = some (.int .i64 (S.c : Int)) ∧ W.cell? ⟨q.b, 4, none⟩ = some (.int .u32 (S.n : Int)) ∧ W.cell? ⟨q.b, 5, none⟩ = some (.int .i64 S.t)) := fun W hW =>
    ⟨⟨(hp.then hW).cells 0 _ rfl, (hp.then hW).cells 1 _ rfl, (hp.then hW).cells 2 _ rfl, (hp.then hW).cells 4 _ rfl, (hp.then hW).cells 5 _ rfl⟩, (hq.then hW).cells 0 _ rfl, (hq.then hW).cells 1 _ rfl, (hq.then hW).cells 2 _ rfl, (hq.then hW).cells 4 _ rfl, (hq.then hW).cells 5 _ rfl⟩
  have hK0 := HK.out w (grown_refl _ _)
  clear hp hq hw hw2
  unfold limV at HL
  generalize (S.a : Int) = a at *
  generalize (S.b : Int) = b at *
  generalize (S.c : Int) = c at *
  generalize (c1 : Int) = c2 at *
  generalize (S.n : Int) = n at *
  generalize S.t = t at *
  go_enter Tryz.func20, Tryz.ntmps20
  go_wp2_with fail
  refine HN1.out.mono ?_
  rintro e w1 ⟨rfl, rfl⟩
  go_wp2_with fail
  refine HN2.out.mono ?_
  rintro e w2 ⟨rfl, rfl⟩
  go_wp2
  go_region_held3 (fun W => (W.cell? ⟨p.b, 0, none⟩ = some (.int .i64 a) ∧ W.cell? ⟨p.b, 1, none⟩ = some (.int .i64 b) ∧ W.cell? ⟨p.b, 2, none⟩ = some (.int .i64 c2) ∧ W.cell? ⟨p.b, 4, none⟩ = some (.int .u32 n) ∧ W.cell? ⟨p.b, 5, none⟩ = some (.int .i64 t)) ∧ W.cell? ⟨q.b, 0, none⟩ = some (.int .i64 a) ∧ W.cell? ⟨q.b, 1, none⟩ = some (.int .i64 b) ∧ W.cell? ⟨q.b, 2, none⟩ = some (.int .i64 c) ∧ W.cell? ⟨q.b, 4, none⟩ = some (.int .u32 n) ∧ W.cell? ⟨q.b, 5, none⟩ = some (.int .i64 t)) (first | assumption | exact hK0)
    ((first
      | (go_at_call 48; refine (HL.out _).mono ?_; rintro e w3 ⟨rfl, hg3⟩; have g3 := grown_trans (grown_drew _ none) hg3; have hK3 := HK.out _ g3)
      | (go_at_call_of 50 (Value.pointer (some ⟨p.b, 0, none⟩)); refine (HB1.out _ g3).mono ?_; rintro e w4 ⟨v, rfl, hv4, hg4⟩; have g4 := grown_trans g3 hg4; have hK4 := HK.out _ g4)
      | (go_at_call_of 50 (Value.pointer (some ⟨q.b, 0, none⟩)); refine (HB2.out _ g4).mono ?_; rintro e w5 ⟨u, rfl, hu5, hg5⟩; have g5 := grown_trans g4 hg5; have hK5 := HK.out _ g5; have hv5 := hv4.then hg5)
      | (go_at_call 49; refine (HE.out _ _ _ hv5 hu5).mono ?_; rintro e w6 ⟨rfl, hg6⟩; have g6 := grown_trans g5 hg6; have hK6 := HK.out _ g6)))
  go_wp2
  go_ret
  exact ⟨rfl, g6⟩
end Go.Proofs.YtcbiloomnkbalaaGreatDoor
/- Four books side by side; rows of bookings copied. -/
namespace Go.Proofs.YtcbiloomnkbalaaGreatDoor
open Go.RowKit
attribute [local go_sem ↓] Go.wp_at_zero Go.wp_at_succ
attribute [local go_sem] Oper.semAt_some
theorem bgs_one (X : List Bg) : ∀ u ∈ bgs X, u.oneCell' = true := by
  intro u hu
  simp only [bgs, List.mem_flatMap] at hu
  obtain ⟨x, _, h⟩ := hu
  exact bgc_one x u h
set_option maxHeartbeats 4000000 in
theorem copyBk_any {w : World} {base : Nat} {v : Value} {X : List Bg} (h : w.ownsRow base 78 3 v X.length (bgs X)) (hX : X.length ≤ 65536) : Calls Tryz.prog 35 #[v] w fun e w' => ∃ v', e = .returned v' ∧ w'.ownsRow w.heap.size 78 3 v' X.length (bgs X) ∧ w.grownBy w' none := by
  rcases h.2 with ⟨rfl, h0⟩ | ⟨g, cap, cur, rfl, hb, hg, h1, h2, h3, h4⟩
  · have hn : X = [] := by
      have := h.1
      cases X with
      | nil => rfl
      | cons y r => simp at h0
    subst hn
    clear h h0
    go_enter Tryz.func35, Tryz.ntmps35
    go_wp2
    go_ret
    exact ⟨_, rfl, ⟨rfl, .inl ⟨rfl, rfl⟩⟩, grown_refl _ _⟩
  · have HC : Hid (∀ j u, (bgs X)[j]? = some u → w.cell? ((⟨g, 0, none⟩ : Addr).add j) = some u) := h.cells (g := g) rfl
    obtain ⟨n, hn⟩ : ∃ n, n = X.length := ⟨_, rfl⟩
    have HN := hide (And.intro hn (bgs_length X))
    rw [← hn] at hX h1 ⊢
    clear h hg h2 h3 h4 hb hn
    obtain ⟨i0, hi, hz0, hz1, hz2⟩ := info_parts Tryz.info78
    have HI := hide (And.intro hi (And.intro hz0 (And.intro hz1 hz2)))
    clear hi hz0 hz1 hz2
    go_enter Tryz.func35, Tryz.ntmps35
    go_wp2_with (at_builtin; refine wpList_append_own _ rfl (.tmp 4) (.tmp 5) 25 rfl w.heap.size 78 i0 (.agg #[.int .u32 0, .int .i64 0, .int .i64 0]) 3 24 Tryz.underlying25 HI.out.1 HI.out.2.1 HI.out.2.2.1 HI.out.2.2.2 rfl (by decide) (.slice none 0 0) 0 [] rfl (World.ownsRow_nil _ _ _ _) ⟨g, 0, none⟩ n cap (bgs X) rfl (by rw [HN.out.2, HN.out.1]) HC.out (bgs_one X) (by unfold maxLen; omega) (by omega) (Nat.le_refl _) ?_)
    intro v' w' hown hgr _
    obtain ⟨ao', cap', rfl, -⟩ := Ix.own_form hown
    have H := hide (And.intro hown hgr)
    clear hown hgr
    go_wp2
    go_ret
    exact ⟨_, rfl, by simpa using H.out.1, grown_then (grown_refl w none) H.out.2 (fun k e => by cases e)⟩
def Dj (p q : Bp) : Prop := ∀ i, p.own i → ¬ q.own i
theorem Dj.symm {p q : Bp} (h : Dj p q) : Dj q p := fun i a b => h i b a
/-- Four books side by side. -/
def T4 (w W : World) (xa : Nat) (Sa : Sb) (xb : Nat) (Sb' : Sb) (xc : Nat) (Sc : Sb) (xd : Nat) (Sd : Sb) (K : Nat) : Prop :=
  ∃ pa pb pc pd, Lk w W xa Sa K pa [] ∧ Lk w W xb Sb' K pb [] ∧ Lk w W xc Sc K pc [] ∧ Lk w W xd Sd K pd [] ∧ Dj pa pb ∧ Dj pa pc ∧ Dj pa pd ∧ Dj pb pc ∧ Dj pb pd ∧ Dj pc pd
/-- Three. -/
def T3 (w W : World) (xa : Nat) (Sa : Sb) (xb : Nat) (Sb' : Sb) (xc : Nat) (Sc : Sb) (K : Nat) : Prop :=
  ∃ pa pb pc, Lk w W xa Sa K pa [] ∧ Lk w W xb Sb' K pb [] ∧ Lk w W xc Sc K pc [] ∧ Dj pa pb ∧ Dj pa pc ∧ Dj pb pc
section
variable {w W W' : World} {xa xb xc xd : Nat} {Sa S Sc Sd : Sb} {K : Nat}
theorem T4.ab (h : T4 w W xa Sa xb S xc Sc xd Sd K) : T4 w W xb S xa Sa xc Sc xd Sd K := by
  obtain ⟨pa, pb, pc, pd, a, b, c, d, h1, h2, h3, h4, h5, h6⟩ := h
  exact ⟨pb, pa, pc, pd, b, a, c, d, h1.symm, h4, h5, h2, h3, h6⟩
theorem T4.ac (h : T4 w W xa Sa xb S xc Sc xd Sd K) : T4 w W xc Sc xb S xa Sa xd Sd K := by
  obtain ⟨pa, pb, pc, pd, a, b, c, d, h1, h2, h3, h4, h5, h6⟩ := h
  exact ⟨pc, pb, pa, pd, c, b, a, d, h4.symm, h2.symm, h6, h1.symm, h5, h3⟩
theorem T4.then (h : T4 w W xa Sa xb S xc Sc xd Sd K) (g : W.grownBy W' none) : T4 w W' xa Sa xb S xc Sc xd Sd K := by
  obtain ⟨pa, pb, pc, pd, a, b, c, d, h1⟩ := h
  exact ⟨pa, pb, pc, pd, a.then g, b.then g, c.then g, d.then g, h1⟩
theorem T4.drop (h : T4 w W xa Sa xb S xc Sc xd Sd K) : T3 w W xa Sa xb S xc Sc K := by
  obtain ⟨pa, pb, pc, pd, a, b, c, d, h1, h2, h3, h4, h5, h6⟩ := h
  exact ⟨pa, pb, pc, a, b, c, h1, h2, h4⟩
theorem T4.gr (h : T4 w W xa Sa xb S xc Sc xd Sd K) : w.grownBy W none := by obtain ⟨pa, pb, pc, pd, a, _⟩ := h; exact a.gr
theorem T3.gr (h : T3 w W xa Sa xb S xc Sc K) : w.grownBy W none := by obtain ⟨pa, pb, pc, a, _⟩ := h; exact a.gr
theorem T4.apply (h : T4 w W xa Sa xb S xc Sc xd Sd K) (ho : Sa.Ok) (hK : K ≤ 1000000) (hT : Rk.Tab w) (r : Rc) (hr : r.Ok) : Calls Tryz.prog 36 #[.pointer (some ⟨xa, 0, none⟩), Rk.rcV r] W fun e w' => e = .returned (.int .i64 (appE Sa r)) ∧ T4 w w' xa (app Sa r) xb S xc Sc xd Sd (K + 1) := by
  obtain ⟨pa, pb, pc, pd, a, b, c, d, h1, h2, h3, h4, h5, h6⟩ := h
  refine (a.apply ho (by omega) hT r hr).mono ?_
  rintro e w' ⟨rfl, q, hq, hs⟩
  have B := b.beside a h1.symm hs
  have C := c.beside a h2.symm hs
  have D := d.beside a h3.symm hs
  exact ⟨rfl, q, pb, pc, pd, hq, B.1.more (by omega), C.1.more (by omega), D.1.more (by omega), Dj.symm B.2, Dj.symm C.2, Dj.symm D.2, h4, h5, h6⟩
theorem T3.copyb (h : T3 w W xa Sa xb S xc Sc K) (hw : S.Wk) (hK : 4096 ≤ K) : Calls Tryz.prog 22 #[.pointer (some ⟨xb, 0, none⟩)] W fun e w' => ∃ y, e = .returned (.pointer (some ⟨y, 0, none⟩)) ∧ T4 w w' xa Sa xb S xc Sc y S K := by
  obtain ⟨pa, pb, pc, a, b, c, h1, h2, h3⟩ := h
  have := copy_any b.bk hw
  rw [b.eb] at this
  refine this.mono ?_
  rintro e w' ⟨q, rfl, k1, k2, k3⟩
  have far : ∀ {p : Bp} {x : Nat} {T : Sb}, Lk w W x T K p [] → Dj p q := fun hp i e1 e2 => by have := k3 i e2; have := hp.bk.lt i e1; omega
  exact ⟨q.b, rfl, pa, pb, pc, q, a.then k2, b.then k2, c.then k2, ⟨rfl, k1.mono hK, grown_trans b.gr k2, fun i hi => Nat.le_trans b.gr.size (k3 i hi), fun x hx => by cases hx⟩, h1, h2, far a, h3, far b, far c⟩
theorem T4.bd (h : T4 w W xa Sa xb S xc Sc xd S K) (hw : S.Wk) : Calls Tryz.prog 20 #[.pointer (some ⟨xb, 0, none⟩), .pointer (some ⟨xd, 0, none⟩)] W fun e w' => e = .returned (.bool true) ∧ T4 w w' xa Sa xb S xc Sc xd S K := by
  have h0 := h
  obtain ⟨pa, pb, pc, pd, a, b, c, d, h1⟩ := h
  refine (b.same d hw).mono ?_
  rintro e w' ⟨rfl, g⟩
  exact ⟨rfl, h0.then g⟩
theorem T4.same_ab {c1 : Nat} (h : T4 w W xa { S with c := c1 } xb S xc Sc xd Sd K) (hw : S.Wk) (hw2 : Sb.Wk { S with c := c1 }) : Calls Tryz.prog 20 #[.pointer (some ⟨xa, 0, none⟩), .pointer (some ⟨xb, 0, none⟩)] W fun e w' => e = .returned (.bool true) ∧ T4 w w' xa { S with c := c1 } xb S xc Sc xd Sd K := by
  have h0 := h
  obtain ⟨pa, pb, pc, pd, a, b, c, d, h1⟩ := h
  have := same_c' a.bk b.bk hw hw2
  rw [a.eb, b.eb] at this
  refine this.mono ?_
  rintro e w' ⟨rfl, g⟩
  exact ⟨rfl, h0.then g⟩
theorem T4.same_bc (h : T4 w W xa Sa xb S xc S xd Sd K) (hw : S.Wk) : Calls Tryz.prog 20 #[.pointer (some ⟨xb, 0, none⟩), .pointer (some ⟨xc, 0, none⟩)] W fun e w' => e = .returned (.bool true) ∧ T4 w w' xa Sa xb S xc S xd Sd K := by
  have h0 := h
  obtain ⟨pa, pb, pc, pd, a, b, c, d, h1⟩ := h
  refine (b.same c hw).mono ?_
  rintro e w' ⟨rfl, g⟩
  exact ⟨rfl, h0.then g⟩
end
end Go.Proofs.YtcbiloomnkbalaaGreatDoor
