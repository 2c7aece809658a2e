/- RepliesBegin: the walk. -/
import Derived.Test.YtoflohjlmagjpaaDoorYh
import Derived.Laws.Small
import Derived.Deep.RegionHeld3
namespace Go.Proofs.YtoflohjlmagjpaaDoor
open Go.RowKit
attribute [local go_sem ↓] Go.wp_at_zero Go.wp_at_succ
theorem first_unlike : ∀ (xs ys : List Int), xs.length = ys.length → xs ≠ ys → ∃ J, J < xs.length ∧ (∀ i, i < J → xs.getD i 0 = ys.getD i 0) ∧ xs.getD J 0 ≠ ys.getD J 0
  | [], [], _, h => absurd rfl h
  | [], _ :: _, h, _ => by simp at h
  | _ :: _, [], h, _ => by simp at h
  | x :: r, y :: s, hl, h => by
    by_cases hx : x = y
    · subst hx
      obtain ⟨J, h1, h2, h3⟩ := first_unlike r s (by simpa using hl) (fun e => h (by rw [e]))
      refine ⟨J + 1, by simpa using h1, ?_, by simpa using h3⟩
      intro i hi
      cases i with
      | zero => rfl
      | succ i => simpa using h2 i (by omega)
    · exact ⟨0, by simp, fun i hi => by omega, by simpa using hx⟩
set_option maxHeartbeats 1000000 in
theorem same_ne (ao bo : Option Addr) (n c d : Nat) (xs ys : List Int) (w : World) (hn : xs.length = n) (hn2 : ys.length = n) (ha : At w ao xs) (hb : At w bo ys) (hm : n ≤ 4611686018427387904) (hne : xs ≠ ys) :
    Calls Tryd.prog 12 #[.slice ao n c, .slice bo n d] w fun e w' => e = .returned (.bool false) ∧ w.grownBy w' none := by
  obtain ⟨J, hJ, hJ1, hJ2⟩ := first_unlike xs ys (by omega) hne
  have HA := hide (And.intro hn (And.intro ha (And.intro hb (And.intro hn2 (And.intro hJ (And.intro hJ1 hJ2))))))
  clear hn ha hb hn2 hJ hJ1 hJ2 hne
  go_enter Tryd.func12, Tryd.ntmps12
  go_wp2
  go_loopg [5] n (fun k i wr => ∃ j : Nat, k + j = n ∧ j ≤ J ∧ i = .int .i64 j ∧ w.grownBy wr none)
  case atStart => exact ⟨0, by omega, by omega, rfl, grown_refl _ _⟩
  case round =>
    obtain ⟨j, hkj, hjJ, rfl, hg⟩ := hrel
    obtain ⟨hn, ha, hb, hn2, hJ, hJ1, hJ2⟩ := HA.out
    have hj : j < xs.length := by omega
    have hj2 : j < ys.length := by omega
    obtain ⟨a, rfl, hca⟩ := ha j (xs.getD j 0) (by simp [hj, List.getD_eq_getElem?_getD])
    obtain ⟨b, rfl, hcb⟩ := hb j (ys.getD j 0) (by simp [hj2, List.getD_eq_getElem?_getD])
    have hca' := hg.cell hca (by simp)
    have hcb' := hg.cell hcb (by simp)
    have h1 : (0 : Int) ≤ (j : Int) := by omega
    have h2 : (j : Int) < (n : Int) := by omega
    by_cases hjl : j < J
    · have he := hJ1 j hjl
      rw [← he] at hcb'
      have hkk : 0 < gk := by omega
      generalize xs.getD j 0 = x at *
      clear hn ha hb hca hcb hj hj2 hn2 hJ hJ1 hJ2 he
      go_wp2
      go_region_held3 (fun w' => w'.cell? (a.add j) = some (.int .u8 x) ∧ w'.cell? (b.add j) = some (.int .u8 x)) (go_keep) (fail)
      go_wp2
      go_roundg (gk - 1)
      case measure => omega
      case rel => exact ⟨j + 1, by omega, by omega, by go_num, grown_trans hg (grown_drew _ _)⟩
    · obtain rfl : j = J := by omega
      generalize xs.getD j 0 = x at *
      generalize ys.getD j 0 = y at *
      have e1 : (x == y) = false := by simpa using hJ2
      have e2 : (x != y) = true := by simpa using hJ2
      have e3 : decide (x = y) = false := by simpa using hJ2
      have HG := hide (grown_trans hg (grown_drew wr none))
      clear hn ha hb hca hcb hj hj2 hn2 hJ hJ1 hJ2 hg
      go_wp2
      go_region_held3 (fun w' => w'.cell? (a.add j) = some (.int .u8 x) ∧ w'.cell? (b.add j) = some (.int .u8 y)) (go_keep) (fail)
      go_wp2
      go_ret
      exact ⟨rfl, HG.out⟩
set_option maxHeartbeats 400000 in
theorem pick_any (x : Int) (n : Nat) (w : World) (hn : 1 ≤ n) (hn2 : n ≤ 65536) :
    Calls Tryd.prog 20 #[.int .i64 x, .int .i64 (n : Int)] w fun e w' => ∃ k : Nat, e = .returned (.int .i64 (k : Int)) ∧ k < n ∧ w' = w := by
  have h1 : (1 : Int) ≤ (n : Int) := by omega
  have h2 : ((n : Int) == 0) = false := by simp; omega
  have hb := Int.tmod_lt_of_pos x (show (0 : Int) < (n : Int) by omega)
  have hb2 := Int.lt_tmod_of_pos x (show (0 : Int) < (n : Int) by omega)
  by_cases hs : x.tmod (n : Int) < 0
  · obtain ⟨k, hk⟩ : ∃ k : Nat, x.tmod (n : Int) + (n : Int) = (k : Int) := ⟨(x.tmod (n : Int) + (n : Int)).toNat, by omega⟩
    have hw : IntKind.i64.wrap (x.tmod (n : Int) + (n : Int)) = (k : Int) := by rw [IntKind.wrap_i64]; omega
    have HK : Hid (k < n) := by unfold Hid; omega
    clear hk
    go_enter Tryd.func20, Tryd.ntmps20
    go_wp2
    go_ret
    exact ⟨k, rfl, HK.out, rfl⟩
  · have hs2 : 0 ≤ x.tmod (n : Int) := by omega
    have HK : Hid ((x.tmod (n : Int)).toNat < n ∧ (((x.tmod (n : Int)).toNat : Nat) : Int) = x.tmod (n : Int)) := by unfold Hid; omega
    go_enter Tryd.func20, Tryd.ntmps20
    go_wp2
    go_ret
    exact ⟨(x.tmod (n : Int)).toNat, by rw [HK.out.2]; rfl, HK.out.1, rfl⟩
/-- Inside the law: the replies' boxes, rows of bytes. -/
structure BgS (w wr : World) (q r : Ry) : Prop where
  bq : wr.heap[w.heap.size]? = some (.cells (ryC q).toArray 26 (0, 0))
  br : wr.heap[w.heap.size + 1]? = some (.cells (ryC r).toArray 26 (0, 0))
  tab : Tab wr
  gr : w.grownBy wr none
theorem BgS.new {w wr wr' : World} {q r : Ry} (h : BgS w wr q r) (hg : wr.grownBy wr' none) : BgS w wr' q r := ⟨box_new h.bq hg, box_new h.br hg, h.tab.new hg, grown_trans h.gr hg⟩
theorem BgS.begin (w : World) (q r : Ry) (hT : Tab w) : BgS w ((w.alloc (.cells #[.int .u32 q.t, .int .i64 q.k, .int .i64 q.e, .int .u32 q.i, .int .i64 q.s, .int .i64 q.u, .int .i64 q.c] 26)).alloc (.cells #[.int .u32 r.t, .int .i64 r.k, .int .i64 r.e, .int .u32 r.i, .int .i64 r.s, .int .i64 r.u, .int .i64 r.c] 26)) q r := by
  obtain ⟨ba, bb, bg⟩ := two_boxes w (ryC q) (ryC r) 26 26
  exact ⟨ba, bb, hT.new bg, bg⟩
/-- A row of a reply's bytes. -/
def Row (w : World) (g : Nat) (q : Ry) : Prop := w.heap[g]? = some (.cells (q.out.map (Value.int .u8)).toArray 5 (0, 0))
/-- Two rows of replies' bytes. -/
structure Tw2 (w wr : World) (g : Nat) (q : Ry) (g9 : Nat) (r : Ry) : Prop where
  a : Row wr g q
  b : Row wr g9 r
  gr : w.grownBy wr none
theorem Tw2.new {w wr wr' : World} {g g9 : Nat} {q r : Ry} (h : Tw2 w wr g q g9 r) (hg : wr.grownBy wr' none) : Tw2 w wr' g q g9 r := ⟨box_new h.a hg, box_new h.b hg, grown_trans h.gr hg⟩
theorem code_append {q : Ry} (ho : q.Ok) (h : q.May) (ys : List Int) : decide ((getY (q.out ++ ys)).2 = 0) = decide ((ys.length : Int) = 0) := by
  cases ys with
  | nil => rw [List.append_nil, getY_out ho h]; rfl
  | cons y r => rw [getY_more ho h]; exact (decide_eq_false (by decide : ¬ ((210 : Int) = 0))).trans (decide_eq_false (by simp; omega)).symm
set_option maxRecDepth 20000 in
set_option maxHeartbeats 16000000 in
theorem begin_any (q r : Ry) (hq : q.Ok) (hr : r.Ok) (ao : Option Addr) (n cap : Nat) (ys : List Int) (cut : Int) (w : World) (hT : Tab w) (hn : ys.length = n) (hat : At w ao ys) (hB : Byt ys) (hnil : ao = none → n = 0 ∧ cap = 0) (hb : n ≤ 140737488351232) :
    Calls Tryd.prog 7 #[ryV q, ryV r, .slice ao n cap, .int .i64 cut] w fun e w' => e = .returned (.bool true) ∧ w.grownBy w' none := by
  have S0 := hide (BgS.begin w q r hT)
  have HX := hide (And.intro hn (And.intro hat (And.intro hB (And.intro hnil hb))))
  have HO := hide (And.intro hq hr)
  clear hat hB hnil hb hq hr hT
  have qa := awake_any _ S0.out.tab
  have qp := fun w1 h => put_ry q HO.out.1 w1 h
  have qp2 := fun w1 h => put_ry r HO.out.2 w1 h
  have HS : Hid (∀ t, t ≠ q → t = r → q ≠ r) := fun t h e f => h (e.trans f.symm)
  obtain ⟨t, k, e, i, s, u, c⟩ := q
  obtain ⟨t9, k9, e9, i9, s9, u9, c9⟩ := r
  unfold ryV at *
  dsimp only at *
  go_enter Tryd.func7, Tryd.ntmps7
  go_wp2_with fail
  generalize ((w.alloc (.cells #[.int .u32 t, .int .i64 k, .int .i64 e, .int .u32 i, .int .i64 s, .int .i64 u, .int .i64 c] 26)).alloc (.cells #[.int .u32 t9, .int .i64 k9, .int .i64 e9, .int .u32 i9, .int .i64 s9, .int .i64 u9, .int .i64 c9] 26)) = w1 at *
  refine qa.mono ?_
  clear qa
  rintro e1 w2 ⟨rfl, hg⟩
  have S1 := hide (S0.out.new hg)
  clear hg S0 HS
  obtain ⟨c0, c1, c2, c3, c4, c5, c6⟩ := box7 S1.out.bq
  obtain ⟨d0, d1, d2, d3, d4, d5, d6⟩ := box7 S1.out.br
  dsimp only at c0 c1 c2 c3 c4 c5 c6 d0 d1 d2 d3 d4 d5 d6
  go_wp2_with fail
  refine (qp w2 S1.out.tab).mono ?_
  clear qp c0 c1 c2 c3 c4 c5 c6 d0 d1 d2 d3 d4 d5 d6
  rintro e1 w3 ⟨v, rfl, hp, hg⟩
  have S2 := hide (S1.out.new hg)
  clear hg S1
  obtain ⟨c0, c1, c2, c3, c4, c5, c6⟩ := box7 S2.out.bq
  obtain ⟨d0, d1, d2, d3, d4, d5, d6⟩ := box7 S2.out.br
  dsimp only at c0 c1 c2 c3 c4 c5 c6 d0 d1 d2 d3 d4 d5 d6
  rcases hp with ⟨hm, g, rfl, hgl, hrow⟩ | ⟨hm, rfl⟩
  case inr =>
    rw [show chk ⟨t, k, e, i, s, u, c⟩ = 210 from if_neg hm]
    clear hm
    go_wp2_with fail
    refine (qp2 w3 S2.out.tab).mono ?_
    clear qp2
    rintro e1 w4 ⟨v4, rfl, hp, hg⟩
    have S3 := hide (S2.out.new hg)
    clear hg hp
    generalize chk ⟨t9, k9, e9, i9, s9, u9, c9⟩ = er
    go_wp2
    go_ret
    exact ⟨rfl, S3.out.gr⟩
  rw [show chk ⟨t, k, e, i, s, u, c⟩ = 0 from if_pos hm]
  have HM := hide hm
  have HR3 : Hid (Row w3 g ⟨t, k, e, i, s, u, c⟩) := hrow
  dsimp only
  have hzz := sz_le k e
  have HL : Hid ((Ry.mk t k e i s u c).out.length = sz k e) := out_length ⟨t, k, e, i, s, u, c⟩
  obtain ⟨L, hL⟩ : ∃ L, L = sz k e := ⟨_, rfl⟩
  rw [← hL] at hzz HL ⊢
  obtain ⟨hz7, hz19⟩ := hzz
  have HZ := hide (And.intro hz7 hz19)
  have hi7 : (7 : Int) ≤ (L : Int) := by omega
  have hi19 : (L : Int) ≤ 19 := by omega
  clear hm hgl hrow hL hz7 hz19
  go_wp2_with fail
  refine (qp2 w3 S2.out.tab).mono ?_
  clear qp2 c0 c1 c2 c3 c4 c5 c6 d0 d1 d2 d3 d4 d5 d6
  rintro e1 w4 ⟨v4, rfl, hp, hg⟩
  have S4 := hide (S2.out.new hg)
  have HR4 : Hid (Row w4 g ⟨t, k, e, i, s, u, c⟩) := box_new HR3.out hg
  have HP := hide hp
  clear hg S2 HR3 hp
  have qy := copy_any (some ⟨g, 0, none⟩) L L (Ry.mk t k e i s u c).out w4 HL.out (at_row HR4.out) (fun e => by cases e) (by have := HZ.out; omega)
  generalize hcr : chk ⟨t9, k9, e9, i9, s9, u9, c9⟩ = er at *
  have HCR := hide hcr
  clear hcr
  go_wp2_with fail
  refine qy.mono ?_
  clear qy
  rintro e1 w5 ⟨v5, rfl, hown, hg⟩
  have S5 := hide (S4.out.new hg)
  have HR5 : Hid (Row w5 g ⟨t, k, e, i, s, u, c⟩) := box_new HR4.out hg
  have O5 := hide hown
  have Z5 := hide hg.size
  have G4 := hide S4.out.gr.size
  have HP5 : Hid (PutP ⟨t9, k9, e9, i9, s9, u9, c9⟩ w3 w4 v4 ∧ w4.grownBy w5 none) := ⟨HP.out, hg⟩
  have BQ : Hid (w.heap.size + 1 < w4.heap.size) := row_lt S4.out.br
  have RG : Hid (g < w4.heap.size) := row_lt HR4.out
  have row_lt4 : Hid (0 < w4.heap.size) := S4.out.tab.lt
  clear hown hg S4 HR4 HP
  go_wp2_with (at_builtin; refine wpList_append_at rfl (.tmp 34) (.tmp 35) rfl w4.heap.size v5 L ((Ry.mk t k e i s u c).out.map (Value.int .u8)) rfl O5.out ao n cap ys rfl HX.out.1 ?_ HX.out.2.2.2.1 (by have := HX.out.2.2.2.2; have := HZ.out; omega) Z5.out ?_)
  · exact (HX.out.2.1.kept S5.out.gr (fun _ _ e => by cases e))
  intro v6 w6 hown hg
  have hown : w6.ownsRow w4.heap.size 5 1 v6 (L + n) (((Ry.mk t k e i s u c).out ++ ys).map (Value.int .u8)) := by rw [List.map_append]; exact hown
  obtain ⟨ao2, cap2, rfl, hl2, hc2, hm2, hat2, hn2, _⟩ := own_at hown
  have keep : ∀ {i : Nat} {ob : Obj}, i < w4.heap.size → w5.heap[i]? = some ob → w6.heap[i]? = some ob := fun {i ob} hi h => (hg.block i (row_lt h) (fun e => by have := (O5.out.lt i e.symm).1; omega)).trans h
  have G6 := hide (grown_then S5.out.gr hg (fun j e => Or.inl (Nat.le_trans G4.out (O5.out.lt j e).1)))
  have h4 := G4.out
  have tab6 := S5.out.tab.grown hg (fun e => by have := (O5.out.lt 0 e).1; have := S5.out.tab.lt; have := row_lt4.out; omega)
  have S6 : Hid (BgS w w6 ⟨t, k, e, i, s, u, c⟩ ⟨t9, k9, e9, i9, s9, u9, c9⟩) := ⟨keep (by have := BQ.out; omega) S5.out.bq, keep (by have := BQ.out; omega) S5.out.br, tab6, G6.out⟩
  have HR6 : Hid (Row w6 g ⟨t, k, e, i, s, u, c⟩) := keep RG.out HR5.out
  have HP6 : Hid (((Ry.mk t9 k9 e9 i9 s9 u9 c9).May ∧ ∃ g9, v4 = .slice (some ⟨g9, 0, none⟩) (sz k9 e9) (sz k9 e9) ∧ Row w6 g9 ⟨t9, k9, e9, i9, s9, u9, c9⟩) ∨ (¬ (Ry.mk t9 k9 e9 i9 s9 u9 c9).May ∧ v4 = .slice none 0 0)) := by
    rcases HP5.out.1 with ⟨a, g9, b, _, c⟩ | ⟨a, b⟩
    · exact Or.inl ⟨a, g9, b, keep (row_lt c) (box_new c HP5.out.2)⟩
    · exact Or.inr ⟨a, b⟩
  have qg := get_any ((Ry.mk t k e i s u c).out ++ ys) ((out_byt HO.out.1 HM.out).append HX.out.2.2.1) ao2 (L + n) cap2 w6 tab6 hl2 hat2 hn2
  have hcode := code_append HO.out.1 HM.out ys
  rw [HX.out.1] at hcode
  generalize getY ((Ry.mk t k e i s u c).out ++ ys) = res at *
  obtain ⟨⟨xt, xk, xe, xi, xs, xu, xc⟩, eg⟩ := res
  unfold ryV at qg
  dsimp only at qg hcode
  obtain ⟨B, b3⟩ : ∃ B, decide ((n : Int) = 0) = B := ⟨_, rfl⟩
  have b1 : decide (eg = 0) = B := hcode.trans b3
  have b2 : (eg == 0) = B := b1
  have b4 : ((n : Int) == 0) = B := b3
  have b5 : decide (n = 0) = B := by rw [← b3]; congr 1; simp
  have b6 : (n == 0) = B := b5
  have b7 : ∀ b : Bool, (b != b) = false := fun b => by cases b <;> rfl
  clear hown hl2 hc2 hm2 hat2 hn2 hcode hn keep tab6 h4 hg S5 HR5 HP5 O5 Z5 G4 G6 BQ RG row_lt4
  generalize L + n = M at *
  go_wp2_with fail
  refine qg.mono ?_
  clear qg
  rintro e1 w7 ⟨rfl, hg⟩
  have g8 := World.grownBy_alloc w7 (.cells #[.int .u32 xt, .int .i64 xk, .int .i64 xe, .int .u32 xi, .int .i64 xs, .int .i64 xu, .int .i64 xc] 26) none
  have gg := grown_trans hg g8
  have S8 := hide (S6.out.new gg)
  have HR8 : Hid (Row (w7.alloc (.cells #[.int .u32 xt, .int .i64 xk, .int .i64 xe, .int .u32 xi, .int .i64 xs, .int .i64 xu, .int .i64 xc] 26)) g ⟨t, k, e, i, s, u, c⟩) := box_new HR6.out gg
  have HP8 : Hid (((Ry.mk t9 k9 e9 i9 s9 u9 c9).May ∧ ∃ g9, v4 = .slice (some ⟨g9, 0, none⟩) (sz k9 e9) (sz k9 e9) ∧ Row (w7.alloc (.cells #[.int .u32 xt, .int .i64 xk, .int .i64 xe, .int .u32 xi, .int .i64 xs, .int .i64 xu, .int .i64 xc] 26)) g9 ⟨t9, k9, e9, i9, s9, u9, c9⟩) ∨ (¬ (Ry.mk t9 k9 e9 i9 s9 u9 c9).May ∧ v4 = .slice none 0 0)) := by
    rcases HP6.out with ⟨a, g9, b, c⟩ | h
    · exact Or.inl ⟨a, g9, b, box_new c gg⟩
    · exact Or.inr h
  clear hg g8 gg S6 HR6 HP6
  have qk := fun w1 => pick_any cut L w1 (by have := HZ.out; omega) (by have := HZ.out; omega)
  go_wp2_with fail
  generalize w7.alloc (.cells #[.int .u32 xt, .int .i64 xk, .int .i64 xe, .int .u32 xi, .int .i64 xs, .int .i64 xu, .int .i64 xc] 26) = w8 at *
  generalize w7.heap.size = P7 at *
  refine (qk w8).mono ?_
  clear qk
  rintro e1 wx ⟨j, rfl, hj, hw⟩
  obtain rfl := hw.symm
  clear hw
  have hsl := slice_to (some ⟨g, 0, none⟩) L L j (by omega)
  have qy := copy_any (some ⟨g, 0, none⟩) j L ((Ry.mk t k e i s u c).out.take j) w8 (by rw [List.length_take, HL.out]; omega) ((at_row HR8.out).take j) (fun e => by cases e) (by have := HZ.out; omega)
  have HJ := hide hj
  clear hj
  go_wp2_with fail
  refine qy.mono ?_
  clear qy hsl
  rintro e1 w9 ⟨v9, rfl, hown, hg⟩
  have S9 := hide (S8.out.new hg)
  have HR9 : Hid (Row w9 g ⟨t, k, e, i, s, u, c⟩) := box_new HR8.out hg
  obtain ⟨ao3, cap3, rfl, hl3, hc3, hm3, hat3, hn3, _⟩ := own_at hown
  have qg := get_any ((Ry.mk t k e i s u c).out.take j) ((out_byt HO.out.1 HM.out).take j) ao3 j cap3 w9 S9.out.tab hl3 hat3 hn3
  rw [getY_less HO.out.1 HM.out j (by have h1 := HL.out; rw [out_length] at h1; rw [h1]; exact HJ.out)] at qg
  unfold zRy ryV at qg
  dsimp only at qg
  have G89 := hide hg
  clear hown hl3 hc3 hm3 hat3 hn3 hg S8 HR8
  go_wp2_with fail
  refine qg.mono ?_
  clear qg
  rintro e1 wa ⟨rfl, hg⟩
  have gb := World.grownBy_alloc wa (.cells #[.int .u32 0, .int .i64 0, .int .i64 0, .int .u32 0, .int .i64 0, .int .i64 0, .int .i64 0] 26) none
  have gg := grown_trans hg gb
  have SB := hide (S9.out.new gg)
  have HRB : Hid (Row (wa.alloc (.cells #[.int .u32 0, .int .i64 0, .int .i64 0, .int .u32 0, .int .i64 0, .int .i64 0, .int .i64 0] 26)) g ⟨t, k, e, i, s, u, c⟩) := box_new HR9.out gg
  have HPB : Hid (((Ry.mk t9 k9 e9 i9 s9 u9 c9).May ∧ ∃ g9, v4 = .slice (some ⟨g9, 0, none⟩) (sz k9 e9) (sz k9 e9) ∧ Row (wa.alloc (.cells #[.int .u32 0, .int .i64 0, .int .i64 0, .int .u32 0, .int .i64 0, .int .i64 0, .int .i64 0] 26)) g9 ⟨t9, k9, e9, i9, s9, u9, c9⟩) ∨ (¬ (Ry.mk t9 k9 e9 i9 s9 u9 c9).May ∧ v4 = .slice none 0 0)) := by
    rcases HP8.out with ⟨a, g9, b, c⟩ | h
    · exact Or.inl ⟨a, g9, b, box_new (box_new c G89.out) gg⟩
    · exact Or.inr h
  clear hg gb gg S9 HR9 HP8 G89
  obtain ⟨c0, c1, c2, c3, c4, c5, c6⟩ := box7 SB.out.bq
  obtain ⟨d0, d1, d2, d3, d4, d5, d6⟩ := box7 SB.out.br
  dsimp only at c0 c1 c2 c3 c4 c5 c6 d0 d1 d2 d3 d4 d5 d6
  rcases HPB.out with ⟨hm9, g9, rfl, hrow9⟩ | ⟨hm9, rfl⟩
  case inr =>
    have hz : er = 210 := HCR.out.symm.trans (if_neg hm9)
    clear hm9 HPB
    subst hz
    go_wp2
    go_ret
    exact ⟨rfl, SB.out.gr⟩
  have hz : er = 0 := HCR.out.symm.trans (if_pos hm9)
  subst hz
  have H9 := hide (And.intro hm9 (out_length ⟨t9, k9, e9, i9, s9, u9, c9⟩))
  have HR9 : Hid (Row (wa.alloc (.cells #[.int .u32 0, .int .i64 0, .int .i64 0, .int .u32 0, .int .i64 0, .int .i64 0, .int .i64 0] 26)) g9 ⟨t9, k9, e9, i9, s9, u9, c9⟩) := hrow9
  dsimp only
  have hzz := sz_le k9 e9
  obtain ⟨M9, hM9⟩ : ∃ M, M = sz k9 e9 := ⟨_, rfl⟩
  have HM9 : Hid ((Ry.mk t9 k9 e9 i9 s9 u9 c9).out.length = M9 ∧ 7 ≤ M9 ∧ M9 ≤ 19) := ⟨H9.out.2.trans hM9.symm, by omega⟩
  rw [← hM9]
  obtain ⟨K, hK⟩ : ∃ K, K = min L M9 := ⟨_, rfl⟩
  have hmin : ∀ (W : World) (ts : Array TypeId) (t : TypeId), (Builtin.min_ ts t #[.int .i64 (L : Int), .int .i64 (M9 : Int)]).run Tryd.prog W = .ok (.int .i64 (K : Int)) W := fun W ts t => by rw [run_min_int2]; congr 2; split <;> omega
  have HK : Hid (K = min L M9 ∧ K ≤ L ∧ K ≤ M9 ∧ K ≤ 19) := ⟨hK, by omega, by omega, by omega⟩
  have sl1 := slice_to (some ⟨g, 0, none⟩) L L K (by omega)
  have sl2 := slice_to (some ⟨g9, 0, none⟩) M9 M9 K (by omega)
  have HNE : Hid ((Ry.mk t k e i s u c) ≠ (Ry.mk t9 k9 e9 i9 s9 u9 c9) → (Ry.mk t k e i s u c).out.take K ≠ (Ry.mk t9 k9 e9 i9 s9 u9 c9).out.take K) := fun h e => h (out_prefix HO.out.1 HM.out HO.out.2 H9.out.1 K (by rw [HL.out, HM9.out.1]; exact HK.out.1) e)
  clear hm9 hrow9 hzz hM9 hK HPB HCR
  have HD : Tw2 w (wa.alloc (.cells #[.int .u32 0, .int .i64 0, .int .i64 0, .int .u32 0, .int .i64 0, .int .i64 0, .int .i64 0] 26)) g ⟨t, k, e, i, s, u, c⟩ g9 ⟨t9, k9, e9, i9, s9, u9, c9⟩ := ⟨HRB.out, HR9.out, SB.out.gr⟩
  by_cases ht : t = t9
  case neg =>
    have z1 : (t == t9) = false := by simpa using ht
    have z2 : decide (t = t9) = false := by simpa using ht
    have HNq := hide (HNE.out (fun e => ht (congrArg Ry.t e)))
    have Q12 := hide (fun w' (h : Tw2 w w' g ⟨t, k, e, i, s, u, c⟩ g9 ⟨t9, k9, e9, i9, s9, u9, c9⟩) => same_ne (some ⟨g, 0, none⟩) (some ⟨g9, 0, none⟩) K L M9 _ _ w' (by rw [List.length_take, HL.out]; have := HK.out; omega) (by rw [List.length_take, HM9.out.1]; have := HK.out; omega) ((at_row h.a).take K) ((at_row h.b).take K) (by have := HK.out; omega) HNq.out)
    have HD2 := Tw2.new HD (grown_drew _ none)
    clear ht HNE HNq
    go_wp2_with fail
    go_region_held3 (fun w' => Tw2 w w' g ⟨t, k, e, i, s, u, c⟩ g9 ⟨t9, k9, e9, i9, s9, u9, c9⟩) (first | assumption | exact HD2 | exact HD)
      ((go_at_call 12; refine (Q12.out _ ‹_›).mono ?_; rintro e1 w5 ⟨rfl, hg5⟩; have hJ := Tw2.new ‹Tw2 w _ g ⟨t, k, e, i, s, u, c⟩ g9 ⟨t9, k9, e9, i9, s9, u9, c9⟩› hg5))
    all_goals
      have hI := ‹Tw2 w _ g ⟨t, k, e, i, s, u, c⟩ g9 ⟨t9, k9, e9, i9, s9, u9, c9⟩›
      go_wp2
      go_ret
      exact ⟨rfl, Tw2.gr hI⟩
  subst ht
  by_cases hk : k = k9
  case neg =>
    have z1 : (k == k9) = false := by simpa using hk
    have z2 : decide (k = k9) = false := by simpa using hk
    have HNq := hide (HNE.out (fun e => hk (congrArg Ry.k e)))
    have Q12 := hide (fun w' (h : Tw2 w w' g ⟨t, k, e, i, s, u, c⟩ g9 ⟨t, k9, e9, i9, s9, u9, c9⟩) => same_ne (some ⟨g, 0, none⟩) (some ⟨g9, 0, none⟩) K L M9 _ _ w' (by rw [List.length_take, HL.out]; have := HK.out; omega) (by rw [List.length_take, HM9.out.1]; have := HK.out; omega) ((at_row h.a).take K) ((at_row h.b).take K) (by have := HK.out; omega) HNq.out)
    have HD2 := Tw2.new HD (grown_drew _ none)
    clear hk HNE HNq
    go_wp2_with fail
    go_region_held3 (fun w' => Tw2 w w' g ⟨t, k, e, i, s, u, c⟩ g9 ⟨t, k9, e9, i9, s9, u9, c9⟩) (first | assumption | exact HD2 | exact HD)
      ((go_at_call 12; refine (Q12.out _ ‹_›).mono ?_; rintro e1 w5 ⟨rfl, hg5⟩; have hJ := Tw2.new ‹Tw2 w _ g ⟨t, k, e, i, s, u, c⟩ g9 ⟨t, k9, e9, i9, s9, u9, c9⟩› hg5))
    all_goals
      have hI := ‹Tw2 w _ g ⟨t, k, e, i, s, u, c⟩ g9 ⟨t, k9, e9, i9, s9, u9, c9⟩›
      go_wp2
      go_ret
      exact ⟨rfl, Tw2.gr hI⟩
  subst hk
  by_cases he : e = e9
  case neg =>
    have z1 : (e == e9) = false := by simpa using he
    have z2 : decide (e = e9) = false := by simpa using he
    have HNq := hide (HNE.out (fun e => he (congrArg Ry.e e)))
    have Q12 := hide (fun w' (h : Tw2 w w' g ⟨t, k, e, i, s, u, c⟩ g9 ⟨t, k, e9, i9, s9, u9, c9⟩) => same_ne (some ⟨g, 0, none⟩) (some ⟨g9, 0, none⟩) K L M9 _ _ w' (by rw [List.length_take, HL.out]; have := HK.out; omega) (by rw [List.length_take, HM9.out.1]; have := HK.out; omega) ((at_row h.a).take K) ((at_row h.b).take K) (by have := HK.out; omega) HNq.out)
    have HD2 := Tw2.new HD (grown_drew _ none)
    clear he HNE HNq
    go_wp2_with fail
    go_region_held3 (fun w' => Tw2 w w' g ⟨t, k, e, i, s, u, c⟩ g9 ⟨t, k, e9, i9, s9, u9, c9⟩) (first | assumption | exact HD2 | exact HD)
      ((go_at_call 12; refine (Q12.out _ ‹_›).mono ?_; rintro e1 w5 ⟨rfl, hg5⟩; have hJ := Tw2.new ‹Tw2 w _ g ⟨t, k, e, i, s, u, c⟩ g9 ⟨t, k, e9, i9, s9, u9, c9⟩› hg5))
    all_goals
      have hI := ‹Tw2 w _ g ⟨t, k, e, i, s, u, c⟩ g9 ⟨t, k, e9, i9, s9, u9, c9⟩›
      go_wp2
      go_ret
      exact ⟨rfl, Tw2.gr hI⟩
  subst he
  by_cases hi : i = i9
  case neg =>
    have z1 : (i == i9) = false := by simpa using hi
    have z2 : decide (i = i9) = false := by simpa using hi
    have HNq := hide (HNE.out (fun e => hi (congrArg Ry.i e)))
    have Q12 := hide (fun w' (h : Tw2 w w' g ⟨t, k, e, i, s, u, c⟩ g9 ⟨t, k, e, i9, s9, u9, c9⟩) => same_ne (some ⟨g, 0, none⟩) (some ⟨g9, 0, none⟩) K L M9 _ _ w' (by rw [List.length_take, HL.out]; have := HK.out; omega) (by rw [List.length_take, HM9.out.1]; have := HK.out; omega) ((at_row h.a).take K) ((at_row h.b).take K) (by have := HK.out; omega) HNq.out)
    have HD2 := Tw2.new HD (grown_drew _ none)
    clear hi HNE HNq
    go_wp2_with fail
    go_region_held3 (fun w' => Tw2 w w' g ⟨t, k, e, i, s, u, c⟩ g9 ⟨t, k, e, i9, s9, u9, c9⟩) (first | assumption | exact HD2 | exact HD)
      ((go_at_call 12; refine (Q12.out _ ‹_›).mono ?_; rintro e1 w5 ⟨rfl, hg5⟩; have hJ := Tw2.new ‹Tw2 w _ g ⟨t, k, e, i, s, u, c⟩ g9 ⟨t, k, e, i9, s9, u9, c9⟩› hg5))
    all_goals
      have hI := ‹Tw2 w _ g ⟨t, k, e, i, s, u, c⟩ g9 ⟨t, k, e, i9, s9, u9, c9⟩›
      go_wp2
      go_ret
      exact ⟨rfl, Tw2.gr hI⟩
  subst hi
  by_cases hs : s = s9
  case neg =>
    have z1 : (s == s9) = false := by simpa using hs
    have z2 : decide (s = s9) = false := by simpa using hs
    have HNq := hide (HNE.out (fun e => hs (congrArg Ry.s e)))
    have Q12 := hide (fun w' (h : Tw2 w w' g ⟨t, k, e, i, s, u, c⟩ g9 ⟨t, k, e, i, s9, u9, c9⟩) => same_ne (some ⟨g, 0, none⟩) (some ⟨g9, 0, none⟩) K L M9 _ _ w' (by rw [List.length_take, HL.out]; have := HK.out; omega) (by rw [List.length_take, HM9.out.1]; have := HK.out; omega) ((at_row h.a).take K) ((at_row h.b).take K) (by have := HK.out; omega) HNq.out)
    have HD2 := Tw2.new HD (grown_drew _ none)
    clear hs HNE HNq
    go_wp2_with fail
    go_region_held3 (fun w' => Tw2 w w' g ⟨t, k, e, i, s, u, c⟩ g9 ⟨t, k, e, i, s9, u9, c9⟩) (first | assumption | exact HD2 | exact HD)
      ((go_at_call 12; refine (Q12.out _ ‹_›).mono ?_; rintro e1 w5 ⟨rfl, hg5⟩; have hJ := Tw2.new ‹Tw2 w _ g ⟨t, k, e, i, s, u, c⟩ g9 ⟨t, k, e, i, s9, u9, c9⟩› hg5))
    all_goals
      have hI := ‹Tw2 w _ g ⟨t, k, e, i, s, u, c⟩ g9 ⟨t, k, e, i, s9, u9, c9⟩›
      go_wp2
      go_ret
      exact ⟨rfl, Tw2.gr hI⟩
  subst hs
  by_cases hu : u = u9
  case neg =>
    have z1 : (u == u9) = false := by simpa using hu
    have z2 : decide (u = u9) = false := by simpa using hu
    have HNq := hide (HNE.out (fun e => hu (congrArg Ry.u e)))
    have Q12 := hide (fun w' (h : Tw2 w w' g ⟨t, k, e, i, s, u, c⟩ g9 ⟨t, k, e, i, s, u9, c9⟩) => same_ne (some ⟨g, 0, none⟩) (some ⟨g9, 0, none⟩) K L M9 _ _ w' (by rw [List.length_take, HL.out]; have := HK.out; omega) (by rw [List.length_take, HM9.out.1]; have := HK.out; omega) ((at_row h.a).take K) ((at_row h.b).take K) (by have := HK.out; omega) HNq.out)
    have HD2 := Tw2.new HD (grown_drew _ none)
    clear hu HNE HNq
    go_wp2_with fail
    go_region_held3 (fun w' => Tw2 w w' g ⟨t, k, e, i, s, u, c⟩ g9 ⟨t, k, e, i, s, u9, c9⟩) (first | assumption | exact HD2 | exact HD)
      ((go_at_call 12; refine (Q12.out _ ‹_›).mono ?_; rintro e1 w5 ⟨rfl, hg5⟩; have hJ := Tw2.new ‹Tw2 w _ g ⟨t, k, e, i, s, u, c⟩ g9 ⟨t, k, e, i, s, u9, c9⟩› hg5))
    all_goals
      have hI := ‹Tw2 w _ g ⟨t, k, e, i, s, u, c⟩ g9 ⟨t, k, e, i, s, u9, c9⟩›
      go_wp2
      go_ret
      exact ⟨rfl, Tw2.gr hI⟩
  subst hu
  by_cases hc : c = c9
  case neg =>
    have z1 : (c == c9) = false := by simpa using hc
    have z2 : decide (c = c9) = false := by simpa using hc
    have HNq := hide (HNE.out (fun e => hc (congrArg Ry.c e)))
    have Q12 := hide (fun w' (h : Tw2 w w' g ⟨t, k, e, i, s, u, c⟩ g9 ⟨t, k, e, i, s, u, c9⟩) => same_ne (some ⟨g, 0, none⟩) (some ⟨g9, 0, none⟩) K L M9 _ _ w' (by rw [List.length_take, HL.out]; have := HK.out; omega) (by rw [List.length_take, HM9.out.1]; have := HK.out; omega) ((at_row h.a).take K) ((at_row h.b).take K) (by have := HK.out; omega) HNq.out)
    have HD2 := Tw2.new HD (grown_drew _ none)
    clear hc HNE HNq
    go_wp2_with fail
    go_region_held3 (fun w' => Tw2 w w' g ⟨t, k, e, i, s, u, c⟩ g9 ⟨t, k, e, i, s, u, c9⟩) (first | assumption | exact HD2 | exact HD)
      ((go_at_call 12; refine (Q12.out _ ‹_›).mono ?_; rintro e1 w5 ⟨rfl, hg5⟩; have hJ := Tw2.new ‹Tw2 w _ g ⟨t, k, e, i, s, u, c⟩ g9 ⟨t, k, e, i, s, u, c9⟩› hg5))
    all_goals
      have hI := ‹Tw2 w _ g ⟨t, k, e, i, s, u, c⟩ g9 ⟨t, k, e, i, s, u, c9⟩›
      go_wp2
      go_ret
      exact ⟨rfl, Tw2.gr hI⟩
  subst hc
  go_wp2
  go_ret
  exact ⟨rfl, SB.out.gr⟩
end Go.Proofs.YtoflohjlmagjpaaDoor
