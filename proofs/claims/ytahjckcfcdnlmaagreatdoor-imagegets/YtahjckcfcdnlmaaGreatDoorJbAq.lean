/- Texts joined: Im2, Im3. -/
import Derived.Test.YtahjckcfcdnlmaaGreatDoorJbAn
import Derived.Test.YtahjckcfcdnlmaaGreatDoorJbAo
import Derived.Test.YtahjckcfcdnlmaaGreatDoorJbAp
/- An image written: the head, a booking, Put. -/
namespace Go.Proofs.YtahjckcfcdnlmaaGreatDoor
open Go.RowKit
attribute [local go_sem ↓] Go.wp_at_zero Go.wp_at_succ
attribute [local go_sem] Oper.semAt_some
/-- A Writer in the midst of a call, beside a box. -/
structure WrB (w W : World) (g B : Nat) (cs : List Value) (ty : TypeId) (bs : List Int) : Prop where
  wr : Oc.WrAt W g bs
  bx : W.heap[B]? = some (.cells cs.toArray ty (0, 0))
  ne : B ≠ g
  gr : w.grownBy W (some g)
section
variable {w W W' : World} {g B : Nat} {cs : List Value} {ty : TypeId} {bs bs' : List Int}
theorem WrB.start (h : Oc.WrAt w g bs) (cs : List Value) (ty : TypeId) : WrB w (w.alloc (.cells cs.toArray ty)) g w.heap.size cs ty bs :=
  ⟨h.kept (grown_alloc w _) (by simp) (Oc.NoBlock.none _), heap_alloc_new w _, Nat.ne_of_gt h.lt, grown_none (grown_alloc w _) _⟩
theorem WrB.step (h : WrB w W g B cs ty bs) (hw : Oc.WrAt W' g bs') (hg : W.grownBy W' (some g)) : WrB w W' g B cs ty bs' :=
  ⟨hw, (hg.block B (row_lt h.bx) (fun e => h.ne (Option.some.inj e))).trans h.bx, h.ne, grown_trans h.gr hg⟩
theorem WrB.cell (h : WrB w W g B cs ty bs) (j : Nat) (v : Value) (hv : cs[j]? = some v) : W.cell? ⟨B, j, none⟩ = some v := by rw [cell_row h.bx]; exact hv
end
set_option maxRecDepth 20000 in
set_option maxHeartbeats 4000000 in
theorem putHead_any {w : World} {g : Nat} {bs : List Int} (hW : Oc.WrAt w g bs) (hL : bs.length ≤ 1000000) (a b n m : Nat) (t : Int) (ha : a ≤ 1024) (hb : b ≤ 4096) (hn : n < 4294967296) (ht : 0 ≤ t ∧ t ≤ mxC) (hm : m ≤ 4096) : Calls Tryz.prog 43 #[.pointer (some ⟨g, 0, none⟩), .agg #[.int .i64 (a : Int), .int .i64 (b : Int), .int .u32 (n : Int), .int .i64 t, .int .i64 (m : Int)]] w fun e w' => e = .returned (.tuple #[]) ∧ Oc.WrAt w' g (bs ++ imH a b n t m) ∧ w.grownBy w' (some g) := by
  have e1 : IntKind.u16.wrap (a : Int) = (a : Int) := by rw [IntKind.wrap_u16]; omega
  have e2 : IntKind.u32.wrap (b : Int) = (b : Int) := by rw [IntKind.wrap_u32]; omega
  have ht' := ht.2
  simp only [mxC] at ht'
  have e3 : IntKind.u64.wrap t = t := by rw [IntKind.wrap_u64]; omega
  have e4 : IntKind.u16.wrap (m : Int) = (m : Int) := by rw [IntKind.wrap_u16]; omega
  have H1 : Hid (∀ W bs, Oc.WrAt W g bs → bs.length ≤ 2000000 → Calls Tryz.prog 73 #[.pointer (some ⟨g, 0, none⟩), .int .u16 (a : Int)] W fun e w' => e = .returned (.tuple #[]) ∧ Oc.WrAt w' g (bs ++ Oc.leB (a : Int) 2) ∧ W.grownBy w' (some g)) := fun W bs h hl => Oc.two_any g bs _ W h (by omega) (by omega) (by omega)
  have H2 : Hid (∀ W bs, Oc.WrAt W g bs → bs.length ≤ 2000000 → Calls Tryz.prog 74 #[.pointer (some ⟨g, 0, none⟩), .int .u32 (b : Int)] W fun e w' => e = .returned (.tuple #[]) ∧ Oc.WrAt w' g (bs ++ Oc.leB (b : Int) 4) ∧ W.grownBy w' (some g)) := fun W bs h hl => Oc.four_any g bs _ W h (by omega) (by omega) (by omega)
  have H3 : Hid (∀ W bs, Oc.WrAt W g bs → bs.length ≤ 2000000 → Calls Tryz.prog 74 #[.pointer (some ⟨g, 0, none⟩), .int .u32 (n : Int)] W fun e w' => e = .returned (.tuple #[]) ∧ Oc.WrAt w' g (bs ++ Oc.leB (n : Int) 4) ∧ W.grownBy w' (some g)) := fun W bs h hl => Oc.four_any g bs _ W h (by omega) (by omega) (by omega)
  have H4 : Hid (∀ W bs, Oc.WrAt W g bs → bs.length ≤ 2000000 → Calls Tryz.prog 75 #[.pointer (some ⟨g, 0, none⟩), .int .u64 t] W fun e w' => e = .returned (.tuple #[]) ∧ Oc.WrAt w' g (bs ++ Oc.leB t 8) ∧ W.grownBy w' (some g)) := fun W bs h hl => Oc.eight_any g bs _ W h (by omega) (by omega) (by omega)
  have H5 : Hid (∀ W bs, Oc.WrAt W g bs → bs.length ≤ 2000000 → Calls Tryz.prog 73 #[.pointer (some ⟨g, 0, none⟩), .int .u16 (m : Int)] W fun e w' => e = .returned (.tuple #[]) ∧ Oc.WrAt w' g (bs ++ Oc.leB (m : Int) 2) ∧ W.grownBy w' (some g)) := fun W bs h hl => Oc.two_any g bs _ W h (by omega) (by omega) (by omega)
  have HP : Hid (∀ W, Oc.WrAt W g (((((bs ++ Oc.leB (a : Int) 2) ++ Oc.leB (b : Int) 4) ++ Oc.leB (n : Int) 4) ++ Oc.leB t 8) ++ Oc.leB (m : Int) 2) → Oc.WrAt W g (bs ++ imH a b n t m)) := by
    intro W h
    have : bs ++ imH a b n t m = ((((bs ++ Oc.leB (a : Int) 2) ++ Oc.leB (b : Int) 4) ++ Oc.leB (n : Int) 4) ++ Oc.leB t 8) ++ Oc.leB (m : Int) 2 := by simp [imH, List.append_assoc]
    rw [this]; exact h
  have HLn := hide hL
  have h0 := WrB.start hW [.int .i64 (a : Int), .int .i64 (b : Int), .int .u32 (n : Int), .int .i64 t, .int .i64 (m : Int)] 60
  clear hW ha hb hn ht ht' hm hL
  generalize (a : Int) = A at *
  generalize (b : Int) = Bb at *
  generalize (n : Int) = Nn at *
  generalize (m : Int) = M at *
  have H0 := hide h0
  have c0 := h0.cell 0 _ rfl
  clear h0
  go_enter Tryz.func43, Tryz.ntmps43
  go_wp2_with fail
  generalize World.alloc w _ = w0 at *
  refine (H1.out _ _ H0.out.wr (by have := HLn.out; omega)).mono ?_
  rintro e w1 ⟨rfl, k1, k2⟩
  have h1 := H0.out.step k1 k2
  have c1 := h1.cell 1 _ rfl
  have HH1 := hide h1
  clear h1 k1 k2 c0 H0 H1
  go_wp2_with fail
  refine (H2.out _ _ HH1.out.wr (by have := HLn.out; simp only [List.length_append, Oc.leB_length]; omega)).mono ?_
  rintro e w2 ⟨rfl, k1, k2⟩
  have h1 := HH1.out.step k1 k2
  have c2 := h1.cell 2 _ rfl
  have HH2 := hide h1
  clear h1 k1 k2 c1 HH1 H2
  go_wp2_with fail
  refine (H3.out _ _ HH2.out.wr (by have := HLn.out; simp only [List.length_append, Oc.leB_length]; omega)).mono ?_
  rintro e w3 ⟨rfl, k1, k2⟩
  have h1 := HH2.out.step k1 k2
  have c3 := h1.cell 3 _ rfl
  have HH3 := hide h1
  clear h1 k1 k2 c2 HH2 H3
  go_wp2_with fail
  refine (H4.out _ _ HH3.out.wr (by have := HLn.out; simp only [List.length_append, Oc.leB_length]; omega)).mono ?_
  rintro e w4 ⟨rfl, k1, k2⟩
  have h1 := HH3.out.step k1 k2
  have c4 := h1.cell 4 _ rfl
  have HH4 := hide h1
  clear h1 k1 k2 c3 HH3 H4
  go_wp2_with fail
  refine (H5.out _ _ HH4.out.wr (by have := HLn.out; simp only [List.length_append, Oc.leB_length]; omega)).mono ?_
  rintro e w5 ⟨rfl, k1, k2⟩
  have HH5 := hide (HH4.out.step k1 k2)
  clear k1 k2 c4 HH4 H5
  go_wp2
  go_end0
  exact ⟨rfl, HP.out _ HH5.out.wr, HH5.out.gr⟩
set_option maxRecDepth 20000 in
set_option maxHeartbeats 4000000 in
theorem putBooking_any {w : World} {g : Nat} {bs : List Int} (hW : Oc.WrAt w g bs) (hL : bs.length ≤ 1000000) (x : Bg) (hi : x.i < 4294967296) (hs : x.s < 65536) (hu : 0 ≤ x.u ∧ x.u ≤ mxC) : Calls Tryz.prog 45 #[.pointer (some ⟨g, 0, none⟩), bgV x] w fun e w' => e = .returned (.tuple #[]) ∧ Oc.WrAt w' g (bs ++ imB x) ∧ w.grownBy w' (some g) := by
  obtain ⟨xi, xs, xu⟩ := x
  simp only at hi hs hu
  have hu' := hu.2
  simp only [mxC] at hu'
  have e2 : IntKind.u16.wrap (xs : Int) = (xs : Int) := by rw [IntKind.wrap_u16]; omega
  have e3 : IntKind.u64.wrap xu = xu := by rw [IntKind.wrap_u64]; omega
  have H1 : Hid (∀ W bs, Oc.WrAt W g bs → bs.length ≤ 2000000 → Calls Tryz.prog 74 #[.pointer (some ⟨g, 0, none⟩), .int .u32 (xi : Int)] W fun e w' => e = .returned (.tuple #[]) ∧ Oc.WrAt w' g (bs ++ Oc.leB (xi : Int) 4) ∧ W.grownBy w' (some g)) := fun W bs h hl => Oc.four_any g bs _ W h (by omega) (by omega) (by omega)
  have H2 : Hid (∀ W bs, Oc.WrAt W g bs → bs.length ≤ 2000000 → Calls Tryz.prog 73 #[.pointer (some ⟨g, 0, none⟩), .int .u16 (xs : Int)] W fun e w' => e = .returned (.tuple #[]) ∧ Oc.WrAt w' g (bs ++ Oc.leB (xs : Int) 2) ∧ W.grownBy w' (some g)) := fun W bs h hl => Oc.two_any g bs _ W h (by omega) (by omega) (by omega)
  have H3 : Hid (∀ W bs, Oc.WrAt W g bs → bs.length ≤ 2000000 → Calls Tryz.prog 75 #[.pointer (some ⟨g, 0, none⟩), .int .u64 xu] W fun e w' => e = .returned (.tuple #[]) ∧ Oc.WrAt w' g (bs ++ Oc.leB xu 8) ∧ W.grownBy w' (some g)) := fun W bs h hl => Oc.eight_any g bs _ W h (by omega) (by omega) (by omega)
  have HP : Hid (∀ W, Oc.WrAt W g (((bs ++ Oc.leB (xi : Int) 4) ++ Oc.leB (xs : Int) 2) ++ Oc.leB xu 8) → Oc.WrAt W g (bs ++ imB ⟨xi, xs, xu⟩)) := by
    intro W h
    have : bs ++ imB ⟨xi, xs, xu⟩ = ((bs ++ Oc.leB (xi : Int) 4) ++ Oc.leB (xs : Int) 2) ++ Oc.leB xu 8 := by simp [imB, List.append_assoc]
    rw [this]; exact h
  have HLn := hide hL
  have h0 := WrB.start hW [.int .u32 (xi : Int), .int .i64 (xs : Int), .int .i64 xu] 45
  clear hW hi hs hu hu' hL
  unfold bgV
  simp only
  generalize (xi : Int) = A at *
  generalize (xs : Int) = Bb at *
  have H0 := hide h0
  have c0 := h0.cell 0 _ rfl
  clear h0
  go_enter Tryz.func45, Tryz.ntmps45
  go_wp2_with fail
  generalize World.alloc w _ = w0 at *
  refine (H1.out _ _ H0.out.wr (by have := HLn.out; omega)).mono ?_
  rintro e w1 ⟨rfl, k1, k2⟩
  have h1 := H0.out.step k1 k2
  have c1 := h1.cell 1 _ rfl
  have HH1 := hide h1
  clear h1 k1 k2 c0 H0 H1
  go_wp2_with fail
  refine (H2.out _ _ HH1.out.wr (by have := HLn.out; simp only [List.length_append, Oc.leB_length]; omega)).mono ?_
  rintro e w2 ⟨rfl, k1, k2⟩
  have h1 := HH1.out.step k1 k2
  have c2 := h1.cell 2 _ rfl
  have HH2 := hide h1
  clear h1 k1 k2 c1 HH1 H2
  go_wp2_with fail
  refine (H3.out _ _ HH2.out.wr (by have := HLn.out; simp only [List.length_append, Oc.leB_length]; omega)).mono ?_
  rintro e w3 ⟨rfl, k1, k2⟩
  have HH3 := hide (HH2.out.step k1 k2)
  clear k1 k2 c2 HH2 H3
  go_wp2
  go_end0
  exact ⟨rfl, HP.out _ HH3.out.wr, HH3.out.gr⟩
theorem okS_of {S : Sb} (h : S.Wk) : Gx.OkS S.a S.b S.c := by
  have a0 := h.a0; have a1 := h.a1; have b0 := h.b0; have b1 := h.b1; have c0 := h.c0; have c1 := h.c1
  unfold Gx.OkS; omega
set_option maxRecDepth 20000 in
set_option maxHeartbeats 4000000 in
theorem imNone_no {w : World} {p : Bp} {S : Sb} {K : Nat} (h : BkAt w p S K) (hw : S.Wk) : Calls Tryz.prog 42 #[.pointer (some ⟨p.b, 0, none⟩)] w fun e w' => e = .returned (.bool false) ∧ w.grownBy w' none := by
  have HS := hide (shape_any h)
  have HC : Hid (∀ W, Calls Tryz.prog 21 #[.agg #[.int .i64 (S.a : Int), .int .i64 (S.b : Int), .int .i64 (S.c : Int)]] W fun e w' => e = .returned (.int .i64 0) ∧ W.grownBy w' none) := fun W => Ge.check_ok _ _ _ (okS_of hw) W
  clear h hw
  unfold limV at HS
  go_enter Tryz.func42, Tryz.ntmps42
  go_wp2_with fail
  refine HS.out.mono ?_
  rintro e w1 ⟨rfl, hg1⟩
  have HG1 := hide hg1
  clear hg1
  go_wp2_with fail
  refine (HC.out _).mono ?_
  rintro e w2 ⟨rfl, hg2⟩
  have HG2 := hide (grown_trans HG1.out hg2)
  clear hg2 HG1
  go_wp2
  go_ret
  exact ⟨rfl, HG2.out⟩
/-- The head of a book, as a value. -/
def hdV (a b n : Nat) (t : Int) (m : Nat) : Value := .agg #[.int .i64 (a : Int), .int .i64 (b : Int), .int .u32 (n : Int), .int .i64 t, .int .i64 (m : Int)]
def hdc (a b n : Int) (t m : Int) : List Value := [.int .i64 a, .int .i64 b, .int .u32 n, .int .i64 t, .int .i64 m]
end Go.Proofs.YtahjckcfcdnlmaaGreatDoor
/- A book's head; an image's head and bookings read. -/
namespace Go.Proofs.YtahjckcfcdnlmaaGreatDoor
open Go.RowKit
attribute [local go_sem ↓] Go.wp_at_zero Go.wp_at_succ
attribute [local go_sem] Oper.semAt_some
theorem box5 {w : World} {g : Nat} {t : TypeId} {x0 x1 x2 x3 x4 : Value} (h : w.heap[g]? = some (.cells [x0, x1, x2, x3, x4].toArray t (0, 0))) : w.cell? ⟨g, 0, none⟩ = some x0 ∧ w.cell? ⟨g, 1, none⟩ = some x1 ∧ w.cell? ⟨g, 2, none⟩ = some x2 ∧ w.cell? ⟨g, 3, none⟩ = some x3 ∧ w.cell? ⟨g, 4, none⟩ = some x4 ∧ (∀ j, w.frozen? ⟨g, j, none⟩ = false) :=
  ⟨by rw [cell_row h]; rfl, by rw [cell_row h]; rfl, by rw [cell_row h]; rfl, by rw [cell_row h]; rfl, by rw [cell_row h]; rfl, fun j => free_row h j⟩
theorem row5 (w : World) {g : Nat} {t : TypeId} {x0 x1 x2 x3 x4 : Value} (h : w.heap[g]? = some (.cells [x0, x1, x2, x3, x4].toArray t (0, 0))) (a b c d e : Value) :
    (((((w.setCell ⟨g, 0, none⟩ a).setCell ⟨g, 1, none⟩ b).setCell ⟨g, 2, none⟩ c).setCell ⟨g, 3, none⟩ d).setCell ⟨g, 4, none⟩ e).heap[g]? = some (.cells [a, b, c, d, e].toArray t (0, 0)) :=
  row_setCell (row_setCell (row_setCell (row_setCell (row_setCell h 0 a) 1 b) 2 c) 3 d) 4 e
theorem off5 (w : World) {g k : Nat} (hk : k ≠ g) (a b c d e : Value) {j : Nat} {v : Value} (h : w.cell? ⟨k, j, none⟩ = some v) :
    (((((w.setCell ⟨g, 0, none⟩ a).setCell ⟨g, 1, none⟩ b).setCell ⟨g, 2, none⟩ c).setCell ⟨g, 3, none⟩ d).setCell ⟨g, 4, none⟩ e).cell? ⟨k, j, none⟩ = some v := by
  have hn : some (⟨k, j, none⟩ : Addr).block ≠ some g := fun e => hk (Option.some.inj e)
  exact (grown_setCell _ g 4 e).cell ((grown_setCell _ g 3 d).cell ((grown_setCell _ g 2 c).cell ((grown_setCell _ g 1 b).cell ((grown_setCell _ g 0 a).cell h hn) hn) hn) hn) hn
theorem gr5 {w0 w : World} {g : Nat} (hg : w0.grownBy w none) (hw : w0.heap.size ≤ g) (a b c d e : Value) :
    w0.grownBy (((((w.setCell ⟨g, 0, none⟩ a).setCell ⟨g, 1, none⟩ b).setCell ⟨g, 2, none⟩ c).setCell ⟨g, 3, none⟩ d).setCell ⟨g, 4, none⟩ e) none :=
  gn_set (gn_set (gn_set (gn_set (gn_set hg hw) hw) hw) hw) hw
theorem off5d (w : World) {g k : Nat} (hk : k ≠ g) (a b c d e : Value) {j : Nat} {v : Value} (h : w.cell? ⟨k, j, none⟩ = some v) :
    (((((w.setCell ⟨g, 0, none⟩ a).setCell ⟨g, 1, none⟩ b).setCell ⟨g, 2, none⟩ c).setCell ⟨g, 3, none⟩ d).setCell ⟨g, 4, none⟩ e).drew.cell? ⟨k, j, none⟩ = some v := (grown_drew _ none).cell (off5 w hk a b c d e h) (by simp)
theorem row5d (w : World) {g : Nat} {t : TypeId} {x0 x1 x2 x3 x4 : Value} (h : w.heap[g]? = some (.cells [x0, x1, x2, x3, x4].toArray t (0, 0))) (a b c d e : Value) :
    (((((w.setCell ⟨g, 0, none⟩ a).setCell ⟨g, 1, none⟩ b).setCell ⟨g, 2, none⟩ c).setCell ⟨g, 3, none⟩ d).setCell ⟨g, 4, none⟩ e).drew.heap[g]? = some (.cells [a, b, c, d, e].toArray t (0, 0)) := ((grown_drew _ none).block g (row_lt (row5 w h a b c d e)) (by simp)).trans (row5 w h a b c d e)
theorem takeF_ok {xs : List Int} {k : Nat} (h : k ≤ xs.length) : Oc.takeF xs 0 (k : Int) = (xs.take k, xs.drop k, 0) := by
  unfold Oc.takeF
  rw [if_neg (by simp), if_neg (by omega), if_neg (by omega), Int.toNat_natCast]
/-- A Reader in the midst of a call, beside a box. -/
structure RdB (w W : World) (B0 B : Nat) (cs : List Value) (ty : TypeId) (xs : List Int) : Prop where
  rd : Oc.RdAt W B xs 0
  bx : W.heap[B0]? = some (.cells cs.toArray ty (0, 0))
  ne : B0 ≠ B
  lo : w.heap.size ≤ B
  gr : w.grownBy W none
section
variable {w W W' : World} {B0 B : Nat} {cs : List Value} {ty : TypeId} {xs xs' : List Int}
theorem RdB.step (h : RdB w W B0 B cs ty xs) (hr : Oc.RdAt W' B xs' 0) (hg : W.grownBy W' (some B)) : RdB w W' B0 B cs ty xs' :=
  ⟨hr, (hg.block B0 (row_lt h.bx) (fun e => h.ne (Option.some.inj e))).trans h.bx, h.ne, h.lo, grown_then h.gr hg (fun j e => .inl (by cases e; exact h.lo))⟩
theorem RdB.two (h : RdB w W B0 B cs ty xs) (hB : Oc.Byt xs) (hl : 2 ≤ xs.length) : Calls Tryz.prog 55 #[.pointer (some ⟨B, 0, none⟩)] W fun e w' => e = .returned (.int .u16 (gV xs 0 2)) ∧ RdB w w' B0 B cs ty (xs.drop 2) := by
  have := Oc.rtwo_any B xs 0 W h.rd hB
  rw [show ((2 : Int)) = ((2 : Nat) : Int) from rfl, takeF_ok hl] at this
  refine this.mono ?_
  rintro e w' ⟨rfl, h1, h2⟩
  exact ⟨by unfold gV; rw [List.drop_zero], h.step h1 h2⟩
theorem RdB.four (h : RdB w W B0 B cs ty xs) (hB : Oc.Byt xs) (hl : 4 ≤ xs.length) : Calls Tryz.prog 56 #[.pointer (some ⟨B, 0, none⟩)] W fun e w' => e = .returned (.int .u32 (gV xs 0 4)) ∧ RdB w w' B0 B cs ty (xs.drop 4) := by
  have := Oc.rfour_any B xs 0 W h.rd hB
  rw [show ((4 : Int)) = ((4 : Nat) : Int) from rfl, takeF_ok hl] at this
  refine this.mono ?_
  rintro e w' ⟨rfl, h1, h2⟩
  exact ⟨by unfold gV; rw [List.drop_zero], h.step h1 h2⟩
theorem RdB.eight (h : RdB w W B0 B cs ty xs) (hB : Oc.Byt xs) (hl : 8 ≤ xs.length) : Calls Tryz.prog 57 #[.pointer (some ⟨B, 0, none⟩)] W fun e w' => e = .returned (.int .u64 (gV xs 0 8)) ∧ RdB w w' B0 B cs ty (xs.drop 8) := by
  have := Oc.reight_any B xs 0 W h.rd hB
  rw [show ((8 : Int)) = ((8 : Nat) : Int) from rfl, takeF_ok hl] at this
  refine this.mono ?_
  rintro e w' ⟨rfl, h1, h2⟩
  exact ⟨by unfold gV; rw [List.drop_zero], h.step h1 h2⟩
end
theorem gV_at (xs : List Int) (o m k : Nat) : gV (xs.drop o) m k = gV xs (o + m) k := gV_drop xs o m k
set_option maxRecDepth 20000 in
set_option maxHeartbeats 8000000 in
theorem readHead_any {w : World} {ao : Option Addr} {cap : Nat} {xs : List Int} (hat : Oc.At w ao xs) (hB : Oc.Byt xs) (hl : xs.length = 20) (hnil : ao = none → (20 : Nat) = 0 ∧ cap = 0) : Calls Tryz.prog 22 #[.slice ao 20 cap] w fun e w' => e = .returned (.agg #[.int .i64 (gV xs 0 2), .int .i64 (gV xs 2 4), .int .u32 (gV xs 6 4), .int .i64 (s64 (gV xs 10 8)), .int .i64 (gV xs 18 2)]) ∧ w.grownBy w' none := by
  have HO : Hid (∀ W, w.grownBy W none → Calls Tryz.prog 54 #[.slice ao 20 cap] W fun r w' => ∃ B, r = .returned (.pointer (some ⟨B, 0, none⟩)) ∧ W.heap.size ≤ B ∧ Oc.RdAt w' B xs 0 ∧ W.grownBy w' none) := fun W hW => Oc.of_any ao 20 cap xs W hl (hat.kept hW (by simp)) hnil (by omega)
  have b1 := gV_bound hB 0 2; have b2 := gV_bound hB 2 4; have b4 := gV_bound hB 18 2
  have e1 : IntKind.i64.wrap (gV xs 0 2) = gV xs 0 2 := by rw [IntKind.wrap_i64]; omega
  have e2 : IntKind.i64.wrap (gV xs 2 4) = gV xs 2 4 := by rw [IntKind.wrap_i64]; omega
  have e4 : IntKind.i64.wrap (gV xs 18 2) = gV xs 18 2 := by rw [IntKind.wrap_i64]; omega
  have e3 : IntKind.i64.wrap (gV xs 10 8) = s64 (gV xs 10 8) := rfl
  have S1 : Hid (∀ W B0 B cs ty, RdB w W B0 B cs ty xs → Calls Tryz.prog 55 #[.pointer (some ⟨B, 0, none⟩)] W fun e w' => e = .returned (.int .u16 (gV xs 0 2)) ∧ RdB w w' B0 B cs ty (xs.drop 2)) := fun W B0 B cs ty h => h.two hB (by omega)
  have S2 : Hid (∀ W B0 B cs ty, RdB w W B0 B cs ty (xs.drop 2) → Calls Tryz.prog 56 #[.pointer (some ⟨B, 0, none⟩)] W fun e w' => e = .returned (.int .u32 (gV xs 2 4)) ∧ RdB w w' B0 B cs ty (xs.drop 6)) := by
    intro W B0 B cs ty h
    have := h.four (hB.drop 2) (by simp; omega)
    rw [gV_at, List.drop_drop] at this
    exact this
  have S3 : Hid (∀ W B0 B cs ty, RdB w W B0 B cs ty (xs.drop 6) → Calls Tryz.prog 56 #[.pointer (some ⟨B, 0, none⟩)] W fun e w' => e = .returned (.int .u32 (gV xs 6 4)) ∧ RdB w w' B0 B cs ty (xs.drop 10)) := by
    intro W B0 B cs ty h
    have := h.four (hB.drop 6) (by simp; omega)
    rw [gV_at, List.drop_drop] at this
    exact this
  have S4 : Hid (∀ W B0 B cs ty, RdB w W B0 B cs ty (xs.drop 10) → Calls Tryz.prog 57 #[.pointer (some ⟨B, 0, none⟩)] W fun e w' => e = .returned (.int .u64 (gV xs 10 8)) ∧ RdB w w' B0 B cs ty (xs.drop 18)) := by
    intro W B0 B cs ty h
    have := h.eight (hB.drop 10) (by simp; omega)
    rw [gV_at, List.drop_drop] at this
    exact this
  have S5 : Hid (∀ W B0 B cs ty, RdB w W B0 B cs ty (xs.drop 18) → Calls Tryz.prog 55 #[.pointer (some ⟨B, 0, none⟩)] W fun e w' => e = .returned (.int .u16 (gV xs 18 2)) ∧ RdB w w' B0 B cs ty (xs.drop 20)) := by
    intro W B0 B cs ty h
    have := h.two (hB.drop 18) (by simp; omega)
    rw [gV_at, List.drop_drop] at this
    exact this
  generalize gV xs 0 2 = v1 at *
  generalize gV xs 2 4 = v2 at *
  generalize gV xs 6 4 = v3 at *
  generalize gV xs 10 8 = v4 at *
  generalize gV xs 18 2 = v5 at *
  generalize s64 v4 = v6 at *
  clear hat hB hl hnil b1 b2 b4
  have HZ := hide (heap_alloc_new w (.cells [.int .i64 0, .int .i64 0, .int .u32 0, .int .i64 0, .int .i64 0].toArray 60))
  go_enter Tryz.func22, Tryz.ntmps22
  go_wp2_with fail
  refine (HO.out _ (grown_alloc w _)).mono ?_
  rintro e w1 ⟨B, rfl, hlo, hrd, hg⟩
  have H1 : Hid (RdB w w1 w.heap.size B [.int .i64 0, .int .i64 0, .int .u32 0, .int .i64 0, .int .i64 0] 60 xs) := ⟨hrd, (hg.block _ (row_lt HZ.out) (by simp)).trans HZ.out, by have := hlo; rw [Ge.alloc_size] at this; omega, by have := hlo; rw [Ge.alloc_size] at this; omega, grown_trans (grown_alloc w _) hg⟩
  clear hlo hrd hg HO HZ
  go_wp2_with fail
  refine (S1.out _ _ _ _ _ H1.out).mono ?_
  rintro e w2 ⟨rfl, h2⟩
  have H2 := hide h2
  clear h2 H1 S1
  go_wp2_with fail
  refine (S2.out _ _ _ _ _ H2.out).mono ?_
  rintro e w3 ⟨rfl, h2⟩
  have H3 := hide h2
  clear h2 H2 S2
  go_wp2_with fail
  refine (S3.out _ _ _ _ _ H3.out).mono ?_
  rintro e w4 ⟨rfl, h2⟩
  have H4 := hide h2
  clear h2 H3 S3
  go_wp2_with fail
  refine (S4.out _ _ _ _ _ H4.out).mono ?_
  rintro e w5 ⟨rfl, h2⟩
  have H5 := hide h2
  clear h2 H4 S4
  go_wp2_with fail
  refine (S5.out _ _ _ _ _ H5.out).mono ?_
  rintro e w6 ⟨rfl, h2⟩
  have H6 := hide h2
  obtain ⟨c0, c1, c2, c3, c4, c5⟩ := box5 h2.bx
  clear h2 H5 S5
  go_wp2
  have r1 := row5 _ H6.out.bx (.int .i64 v1) (.int .i64 v2) (.int .u32 v3) (.int .i64 v6) (.int .i64 v5)
  exact bodyPost_ret (results_cell_row rfl _ _ w.heap.size 60 #[.int .i64 v1, .int .i64 v2, .int .u32 v3, .int .i64 v6, .int .i64 v5] (0, 0) _ rfl r1 Tryz.underlying60 rfl (by kernel_rfl)) rfl ⟨rfl, gr5 H6.out.gr (Nat.le_refl _) _ _ _ _ _⟩
set_option maxRecDepth 20000 in
set_option maxHeartbeats 8000000 in
theorem headOf_any {w : World} {p : Bp} {S : Sb} {K : Nat} (h : BkAt w p S K) : Calls Tryz.prog 44 #[.pointer (some ⟨p.b, 0, none⟩)] w fun e w' => e = .returned (hdV S.a S.b S.n S.t S.L.length) ∧ w.grownBy w' none := by
  have HZ := hide (heap_alloc_new w (.cells [.int .i64 0, .int .i64 0, .int .u32 0, .int .i64 0, .int .i64 0].toArray 60))
  have HS := hide (shape_any (h.then (grown_alloc w (.cells [.int .i64 0, .int .i64 0, .int .u32 0, .int .i64 0, .int .i64 0].toArray 60))))
  have HN : Hid (∀ W, w.grownBy W none → Calls Tryz.prog 31 #[.pointer (some ⟨p.b, 0, none⟩)] W fun e w' => e = .returned (.int .u32 (S.n : Int)) ∧ w' = W) := fun W hW => next_any (h.then hW)
  have HC : Hid (∀ W, w.grownBy W none → Calls Tryz.prog 32 #[.pointer (some ⟨p.b, 0, none⟩)] W fun e w' => e = .returned (.int .i64 S.t) ∧ w' = W) := fun W hW => clock_any (h.then hW)
  have HL : Hid (∀ W, w.grownBy W none → Calls Tryz.prog 13 #[.pointer (some ⟨p.b, 0, none⟩)] W fun e w' => e = .returned (.int .i64 (S.L.length : Int)) ∧ w' = W) := fun W hW => len_any (h.then hW)
  clear h
  unfold limV at HS
  unfold hdV
  generalize (S.a : Int) = a at *
  generalize (S.b : Int) = b at *
  generalize (S.c : Int) = c at *
  generalize (S.n : Int) = n at *
  generalize (S.L.length : Int) = m at *
  generalize S.t = t at *
  go_enter Tryz.func44, Tryz.ntmps44
  go_wp2_with fail
  refine HS.out.mono ?_
  rintro e w1 ⟨rfl, hg⟩
  have HG : Hid (w.grownBy w1 none) := grown_trans (grown_alloc w _) hg
  have HB : Hid (w1.heap[w.heap.size]? = some (.cells [.int .i64 0, .int .i64 0, .int .u32 0, .int .i64 0, .int .i64 0].toArray 60 (0, 0))) := (hg.block _ (row_lt HZ.out) (by simp)).trans HZ.out
  have hlt := row_lt HB.out
  have HX := hide (heap_alloc_new w1 (.cells [.int .i64 a, .int .i64 b, .int .i64 c].toArray 23))
  have HB2 : Hid ((w1.alloc (.cells [.int .i64 a, .int .i64 b, .int .i64 c].toArray 23)).heap[w.heap.size]? = some (.cells [.int .i64 0, .int .i64 0, .int .u32 0, .int .i64 0, .int .i64 0].toArray 60 (0, 0))) := ((grown_alloc w1 _).block _ hlt (by simp)).trans HB.out
  have HG2 := hide (gn_alloc HG.out (.cells [.int .i64 a, .int .i64 b, .int .i64 c].toArray 23))
  obtain ⟨d0, d1, d2, -⟩ := box3 HX.out
  obtain ⟨f0, f1, f2, f3, f4, f5⟩ := box5 HB2.out
  have hne : w1.heap.size ≠ w.heap.size := by omega
  clear hg HS HZ HG HB hlt HX
  go_wp2
  generalize hw2 : World.alloc w1 _ = w2 at *
  clear hw2
  --HELD
  have hK0 : w2.drew.cell? ⟨w1.heap.size, 0, none⟩ = some (.int .i64 a) ∧ w2.drew.cell? ⟨w1.heap.size, 1, none⟩ = some (.int .i64 b) := ⟨d0, d1⟩
  have g5 : ∀ j, w2.drew.frozen? ⟨w.heap.size, j, none⟩ = false := f5
  refine wp_region_held_drew (S := (fun W => W.cell? ⟨w1.heap.size, 0, none⟩ = some (.int .i64 a) ∧ W.cell? ⟨w1.heap.size, 1, none⟩ = some (.int .i64 b))) (by kernel_rfl) ?_ (fun hHeld => ?_)
  · (exact hK0)
  refine wpAnyH_take (i := 0) (oi := { dst := some 6, op := Go.Op.fieldAddr 23 (Go.Operand.tmp 3) 0, type := 0, pos := "image.go:68", after := #[], guard := none }) (v := ?_) rfl (by kernel_rfl) (by kernel_rfl) (by kernel_rfl) (fun _ _ _ h => h) (Or.inl ⟨by rfl, ?_⟩) (by assumption) ?_
  rotate_left
  · (intro w hSw; (try dsimp only at hSw); (go_simp <;> with_reducible rfl))
  try simp only [Act.put, List.setIfInBounds_toArray, List.set_cons_zero, List.set_cons_succ]
  refine wpAnyH_take (i := 1) (oi := { dst := some 7, op := Go.Op.load 3 (Go.Operand.tmp 6), type := 3, pos := "image.go:68", after := #[{ on := 0, ground := Go.Ground.data }], guard := none }) (v := ?_) rfl (by kernel_rfl) (by kernel_rfl) (by kernel_rfl) (fun _ _ _ h => h) (Or.inl ⟨by rfl, ?_⟩) (by assumption) ?_
  rotate_left
  · (intro w hSw; (try dsimp only at hSw); (go_simp <;> with_reducible rfl))
  try simp only [Act.put, List.setIfInBounds_toArray, List.set_cons_zero, List.set_cons_succ]
  refine wpAnyH_take (i := 2) (oi := { dst := some 8, op := Go.Op.fieldAddr 23 (Go.Operand.tmp 3) 1, type := 0, pos := "image.go:68", after := #[], guard := none }) (v := ?_) rfl (by kernel_rfl) (by kernel_rfl) (by kernel_rfl) (fun _ _ _ h => h) (Or.inl ⟨by rfl, ?_⟩) (by assumption) ?_
  rotate_left
  · (intro w hSw; (try dsimp only at hSw); (go_simp <;> with_reducible rfl))
  try simp only [Act.put, List.setIfInBounds_toArray, List.set_cons_zero, List.set_cons_succ]
  refine wpAnyH_take (i := 3) (oi := { dst := some 9, op := Go.Op.load 3 (Go.Operand.tmp 8), type := 3, pos := "image.go:68", after := #[{ on := 2, ground := Go.Ground.data }], guard := none }) (v := ?_) rfl (by kernel_rfl) (by kernel_rfl) (by kernel_rfl) (fun _ _ _ h => h) (Or.inl ⟨by rfl, ?_⟩) (by assumption) ?_
  rotate_left
  · (intro w hSw; (try dsimp only at hSw); (go_simp <;> with_reducible rfl))
  try simp only [Act.put, List.setIfInBounds_toArray, List.set_cons_zero, List.set_cons_succ]
  refine wpAnyH_take (i := 4) (oi := { dst := some 10, op := Go.Op.move (Go.Operand.tmp 0), type := 26, pos := "image.go:68", after := #[], guard := none }) (v := ?_) rfl (by kernel_rfl) (by kernel_rfl) (by kernel_rfl) (fun _ _ _ h => h) (Or.inl ⟨by rfl, ?_⟩) (by assumption) ?_
  rotate_left
  · (intro w hSw; (try dsimp only at hSw); (go_simp <;> with_reducible rfl))
  try simp only [Act.put, List.setIfInBounds_toArray, List.set_cons_zero, List.set_cons_succ]
  refine wpAnyH_take (i := 6) (oi := { dst := some 12, op := Go.Op.move (Go.Operand.tmp 0), type := 26, pos := "image.go:68", after := #[], guard := none }) (v := ?_) rfl (by kernel_rfl) (by kernel_rfl) (by kernel_rfl) (fun _ _ _ h => h) (Or.inl ⟨by rfl, ?_⟩) (by assumption) ?_
  rotate_left
  · (intro w hSw; (try dsimp only at hSw); (go_simp <;> with_reducible rfl))
  try simp only [Act.put, List.setIfInBounds_toArray, List.set_cons_zero, List.set_cons_succ]
  refine wpAnyH_take (i := 8) (oi := { dst := some 14, op := Go.Op.move (Go.Operand.tmp 0), type := 26, pos := "image.go:68", after := #[], guard := none }) (v := ?_) rfl (by kernel_rfl) (by kernel_rfl) (by kernel_rfl) (fun _ _ _ h => h) (Or.inl ⟨by rfl, ?_⟩) (by assumption) ?_
  rotate_left
  · (intro w hSw; (try dsimp only at hSw); (go_simp <;> with_reducible rfl))
  try simp only [Act.put, List.setIfInBounds_toArray, List.set_cons_zero, List.set_cons_succ]
  refine wpAnyH_ready (rs := [5]) (by kernel_rfl) (by simp) ?_
  refine AllReadyH.cons (o := { dst := some 11, op := Go.Op.call { callee := Go.Callee.value (Go.Operand.func 31), args := #[Go.Operand.tmp 10], argTypes := #[26] }, type := 30, pos := "image.go:68", after := #[{ on := 4, ground := Go.Ground.data }], guard := none }) rfl (fun K hK => ?_) ?_
  rotate_left
  · exact AllReadyH.nil
  go_simp
  refine (HN.out _ (gn_drew HG2.out)).mono ?_
  rintro e w3 ⟨rfl, rfl⟩
  go_wp2_with fail
  refine hK.out _ _ ?_ (fun hHeld => ?_)
  · ((try dsimp only); first | with_reducible assumption | exact ⟨off5d w2 hne _ _ _ _ _ d0, off5d w2 hne _ _ _ _ _ d1⟩)
  clear hK K
  try simp only [Act.put, List.setIfInBounds_toArray, List.set_cons_zero, List.set_cons_succ]
  refine wpAnyH_ready (rs := [7]) (by kernel_rfl) (by simp) ?_
  refine AllReadyH.cons (o := { dst := some 13, op := Go.Op.call { callee := Go.Callee.value (Go.Operand.func 32), args := #[Go.Operand.tmp 12], argTypes := #[26] }, type := 2, pos := "image.go:68", after := #[{ on := 6, ground := Go.Ground.data }, { on := 5, ground := Go.Ground.chain }], guard := none }) rfl (fun K hK => ?_) ?_
  rotate_left
  · exact AllReadyH.nil
  go_simp
  refine (HC.out _ (gn_drew HG2.out)).mono ?_
  rintro e w3 ⟨rfl, rfl⟩
  go_wp2_with fail
  refine hK.out _ _ ?_ (fun hHeld => ?_)
  · ((try dsimp only); first | with_reducible assumption | exact ⟨off5d w2 hne _ _ _ _ _ d0, off5d w2 hne _ _ _ _ _ d1⟩)
  clear hK K
  try simp only [Act.put, List.setIfInBounds_toArray, List.set_cons_zero, List.set_cons_succ]
  refine wpAnyH_ready (rs := [9]) (by kernel_rfl) (by simp) ?_
  refine AllReadyH.cons (o := { dst := some 15, op := Go.Op.call { callee := Go.Callee.value (Go.Operand.func 13), args := #[Go.Operand.tmp 14], argTypes := #[26] }, type := 3, pos := "image.go:68", after := #[{ on := 8, ground := Go.Ground.data }, { on := 7, ground := Go.Ground.chain }], guard := none }) rfl (fun K hK => ?_) ?_
  rotate_left
  · exact AllReadyH.nil
  go_simp
  refine (HL.out _ (gn_drew HG2.out)).mono ?_
  rintro e w3 ⟨rfl, rfl⟩
  go_wp2_with fail
  refine hK.out _ _ ?_ (fun hHeld => ?_)
  · ((try dsimp only); first | with_reducible assumption | exact ⟨off5d w2 hne _ _ _ _ _ d0, off5d w2 hne _ _ _ _ _ d1⟩)
  clear hK K
  try simp only [Act.put, List.setIfInBounds_toArray, List.set_cons_zero, List.set_cons_succ]
  refine wpAnyH_take (i := 10) (oi := { dst := some 16, op := Go.Op.build 60 #[(0, Go.Operand.tmp 7), (1, Go.Operand.tmp 9), (2, Go.Operand.tmp 11), (3, Go.Operand.tmp 13), (4, Go.Operand.tmp 15)], type := 60, pos := "image.go:68", after := #[{ on := 1, ground := Go.Ground.data }, { on := 3, ground := Go.Ground.data }, { on := 5, ground := Go.Ground.data }, { on := 7, ground := Go.Ground.data }, { on := 9, ground := Go.Ground.data }], guard := none }) (v := ?_) rfl (by kernel_rfl) (by kernel_rfl) (by kernel_rfl) (fun _ _ _ h => h) (Or.inl ⟨by rfl, ?_⟩) (by assumption) ?_
  rotate_left
  · (intro w hSw; (try dsimp only at hSw); (go_simp <;> with_reducible rfl))
  try simp only [Act.put, List.setIfInBounds_toArray, List.set_cons_zero, List.set_cons_succ]
  refine wpAnyH_ready (rs := [11]) (by kernel_rfl) (by simp) ?_
  refine AllReadyH.cons (o := { dst := none, op := Go.Op.store 60 (Go.Operand.tmp 2) (Go.Operand.tmp 16), type := 0, pos := "image.go:68", after := #[{ on := 10, ground := Go.Ground.data }, { on := 9, ground := Go.Ground.chain }, { on := 0, ground := Go.Ground.phase }, { on := 1, ground := Go.Ground.phase }, { on := 2, ground := Go.Ground.phase }, { on := 3, ground := Go.Ground.phase }, { on := 4, ground := Go.Ground.phase }, { on := 5, ground := Go.Ground.phase }, { on := 6, ground := Go.Ground.phase }, { on := 7, ground := Go.Ground.phase }, { on := 8, ground := Go.Ground.phase }, { on := 9, ground := Go.Ground.phase }, { on := 10, ground := Go.Ground.phase }], guard := none }) rfl (fun K hK => ?_) ?_
  rotate_left
  · exact AllReadyH.nil
  go_simp
  refine hK.out _ _ ?_ (fun hHeld => ?_)
  · ((try dsimp only); first | with_reducible assumption | exact ⟨off5d w2 hne _ _ _ _ _ d0, off5d w2 hne _ _ _ _ _ d1⟩)
  clear hK K
  try simp only [Act.put, List.setIfInBounds_toArray, List.set_cons_zero, List.set_cons_succ]
  refine wpAnyH_done (by kernel_rfl) ?_ _
  go_wp2
  have r1 := row5d w2 HB2.out (.int .i64 a) (.int .i64 b) (.int .u32 n) (.int .i64 t) (.int .i64 m)
  exact bodyPost_ret (results_cell_row rfl _ _ w.heap.size 60 #[.int .i64 a, .int .i64 b, .int .u32 n, .int .i64 t, .int .i64 m] (0, 0) _ rfl r1 Tryz.underlying60 rfl (by kernel_rfl)) rfl ⟨rfl, gn_drew (gr5 HG2.out (Nat.le_refl _) _ _ _ _ _)⟩
end Go.Proofs.YtahjckcfcdnlmaaGreatDoor
