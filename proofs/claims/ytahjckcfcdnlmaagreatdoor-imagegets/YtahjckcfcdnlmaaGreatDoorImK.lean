/- ImageGets' walk. -/
import Derived.Test.YtahjckcfcdnlmaaGreatDoorImJ
namespace Go.Proofs.YtahjckcfcdnlmaaGreatDoor
open Go.RowKit
attribute [local go_sem ↓] Go.wp_at_zero Go.wp_at_succ
attribute [local go_sem] Oper.semAt_some
/-- What was lent. -/
structure Ln (w W : World) (g cp bl : Nat) (xs : List Int) : Prop where
  at' : Oc.At W (some ⟨g, 0, none⟩) (xs ++ Oc.marks 1 12)
  bk : ∃ cur : Array Value, W.heap[g]? = some (.cells cur 5 (0, 0)) ∧ cur.size = cp
  c1 : bl + 12 ≤ cp
  c2 : cp ≤ maxLen
  lo : w.heap.size ≤ g
  gr : w.grownBy W none
theorem Ln.then {w W W' : World} {g cp bl : Nat} {xs : List Int} (h : Ln w W g cp bl xs) (k : W.grownBy W' none) : Ln w W' g cp bl xs := by
  obtain ⟨cur, h1, h2⟩ := h.bk
  exact ⟨Oc.At.kept h.at' k (fun _ _ => by simp), ⟨cur, (k.block _ (row_lt h1) (by simp)).trans h1, h2⟩, h.c1, h.c2, h.lo, grown_trans h.gr k⟩
theorem Ln.lt {w W : World} {g cp bl : Nat} {xs : List Int} (h : Ln w W g cp bl xs) : g < W.heap.size := by
  obtain ⟨cur, h1, _⟩ := h.bk
  exact row_lt h1
theorem Ln.row {w W : World} {g cp bl : Nat} {xs : List Int} (h : Ln w W g cp bl xs) : Oc.At W (some ⟨g, 0, none⟩) xs := by
  intro j u hj
  exact h.at' j u (by rw [List.getElem?_append_left (List.getElem?_eq_some_iff.1 hj).1]; exact hj)
set_option maxRecDepth 20000 in
set_option maxHeartbeats 16000000 in
theorem gets_any {w : World} {a b c : Int} {bo : Option Addr} {bl bc : Nat} {xs : List Int} (hbl : xs.length = bl) (hat : Oc.At w bo xs) (hB : Oc.Byt xs) (hbn : bo = none → bl = 0 ∧ bc = 0) (hbb : bl ≤ 140737488351232) (hT : Rk.Tab w) :
    Calls Tryz.prog 3 #[.agg #[.int .i64 a, .int .i64 b, .int .i64 c], .slice bo bl bc] w fun e w' => e = .returned (.bool true) ∧ w.grownBy w' none := by
  have HAw : Hid (∀ W, Calls Tryz.prog 9 #[] W fun e w' => e = .returned (.bool true) ∧ W.grownBy w' none) := fun W => awake_any W
  have HLe : Hid (∀ W, w.grownBy W none → Calls Tryz.prog 5 #[.slice bo bl bc] W fun e w' => ∃ g cp, e = .returned (.slice (some ⟨g, 0, none⟩) bl cp) ∧ Ln W w' g cp bl xs) := by
    intro W hW
    refine (Oc.lent_any bo bl bc xs W hbl (hat.kept hW (by simp)) hbn (by omega)).mono ?_
    rintro e w' ⟨v, rfl, h1, h2⟩
    obtain ⟨g, cp, rfl, hc1, hc2, hgl, hgs, ha, hblk⟩ := h1.all
    rw [hbl] at hc1 ⊢
    exact ⟨g, cp, rfl, ha, hblk, hc1, hc2, by omega, h2⟩
  have HKp : Hid (∀ W g cp w0, Ln w0 W g cp bl xs → w.grownBy W none → Calls Tryz.prog 8 #[.slice (some ⟨g, 0, none⟩) bl cp, .slice bo bl bc] W fun e w' => e = .returned (.bool true) ∧ W.grownBy w' none) := fun W g cp w0 h hW => Oc.kept_any g cp bo bl bc xs W hbl h.c1 h.c2 h.at' (hat.kept hW (by simp)) (by omega)
  have HOv : Hid (∀ W g cp w0, Ln w0 W g cp bl xs → Calls Tryz.prog 10 #[.slice (some ⟨g, 0, none⟩) bl cp] W fun e w' => e = .returned (.tuple #[]) ∧ W.grownBy w' (some g)) := fun W g cp w0 h => Oc.over_any g cp bl W h.bk h.c1 h.c2 (by omega)
  have HG : Hid (∀ W, w.grownBy W none → W.cell? ⟨w.heap.size, 0, none⟩ = some (.int .i64 a) → True) := fun _ _ _ => trivial
  have k0 : (w.alloc (.cells [.int .i64 a, .int .i64 b, .int .i64 c].toArray 23)).heap[w.heap.size]? = some (.cells [.int .i64 a, .int .i64 b, .int .i64 c].toArray 23 (0, 0)) := heap_alloc_new w _
  have HS : Hid (∀ W, (w.alloc (.cells [.int .i64 a, .int .i64 b, .int .i64 c].toArray 23)).grownBy W none → W.cell? ⟨w.heap.size, 0, none⟩ = some (.int .i64 a) ∧ W.cell? ⟨w.heap.size, 1, none⟩ = some (.int .i64 b) ∧ W.cell? ⟨w.heap.size, 2, none⟩ = some (.int .i64 c)) := by
    intro W g
    obtain ⟨q0, q1, q2, -⟩ := box3 ((g.block _ (row_lt k0) (by simp)).trans k0)
    exact ⟨q0, q1, q2⟩
  have HA0 := hide (grown_alloc w (.cells [.int .i64 a, .int .i64 b, .int .i64 c].toArray 23))
  have HBl := hide hbl
  by_cases hG : GetOk a b c xs
  rotate_left
  · have HGn : Hid (∀ W g cp w0, Ln w0 W g cp bl xs → Calls Tryz.prog 6 #[.agg #[.int .i64 a, .int .i64 b, .int .i64 c], .slice (some ⟨g, 0, none⟩) bl cp] W fun e w' => e = .returned (.tuple #[.pointer none, .int .i64 (getE a b c xs)]) ∧ W.grownBy w' none) := fun W g cp w0 h => get_no hbl h.row hB (fun e => by cases e) (by have := h.c1; omega) h.c2 hG
    have HDn : Hid (∀ W, w.grownBy W none → Calls Tryz.prog 7 #[.agg #[.int .i64 a, .int .i64 b, .int .i64 c], .slice bo bl bc] W fun e w' => e = .returned (.tuple #[.agg #[.int .i64 0, .int .i64 0, .int .i64 0, .int .u32 0, .int .i64 0, .slice none 0 0], .int .i64 (getE a b c xs)]) ∧ W.grownBy w' none) := fun W g => rget_no hbl (hat.kept g (by simp)) hB (by omega) hG
    have hE1 : (getE a b c xs == 0) = false := by simpa using getE_ne
    have hE2 : (getE a b c xs != 0) = true := by simpa using getE_ne
    have hE3 : decide (getE a b c xs = 0) = false := by simpa using getE_ne
    generalize getE a b c xs = E at *
    clear hbl hat hB hbn hbb hT k0 hG HOv HG
    obtain ⟨y0, y1, y2⟩ := HS.out _ (grown_refl _ none)
    go_enter Tryz.func3, Tryz.ntmps3
    go_wp2_with fail
    refine (HLe.out _ HA0.out).mono ?_
    rintro e w1 ⟨g, cp, rfl, hL⟩
    have HL1 := hide hL
    clear hL y0 y1 y2
    obtain ⟨y0, y1, y2⟩ := HS.out _ HL1.out.gr
    go_wp2_with fail
    refine (HGn.out _ _ _ _ HL1.out).mono ?_
    rintro e w2 ⟨rfl, hg⟩
    have HL2 := hide (HL1.out.then hg)
    clear hg HL1 y0 y1 y2
    obtain ⟨y0, y1, y2⟩ := HS.out _ HL2.out.gr
    go_wp2_with fail
    refine (HGn.out _ _ _ _ HL2.out).mono ?_
    rintro e w3 ⟨rfl, hg⟩
    have HL3 := hide (HL2.out.then hg)
    clear hg HL2 y0 y1 y2
    obtain ⟨y0, y1, y2⟩ := HS.out _ HL3.out.gr
    go_wp2_with fail
    refine (HDn.out _ (grown_trans HA0.out HL3.out.gr)).mono ?_
    rintro e w4 ⟨rfl, hg⟩
    have HL4 := hide ((HL3.out.then hg).then (grown_alloc w4 (.cells [.int .i64 0, .int .i64 0, .int .i64 0, .int .u32 0, .int .i64 0, .slice none 0 0].toArray 33)))
    clear hg HL3 y0 y1 y2
    go_wp2_with fail
    refine (HKp.out _ _ _ _ HL4.out (grown_trans HA0.out HL4.out.gr)).mono ?_
    rintro e w5 ⟨rfl, hg⟩
    have G5 := hide (grown_trans (grown_trans HA0.out HL4.out.gr) hg)
    clear hg HL4
    go_wp2_with fail
    refine (HAw.out _).mono ?_
    rintro e w6 ⟨rfl, hg⟩
    have G6 := hide (grown_trans G5.out hg)
    clear hg
    go_wp2
    go_ret
    exact ⟨rfl, G6.out⟩
  have HOk := hide (getS_ok hB hG)
  have HGy : Hid (∀ W g cp w0, Ln w0 W g cp bl xs → Calls Tryz.prog 6 #[.agg #[.int .i64 a, .int .i64 b, .int .i64 c], .slice (some ⟨g, 0, none⟩) bl cp] W fun e w' => ∃ x p, e = .returned (.tuple #[.pointer (some ⟨x, 0, none⟩), .int .i64 0]) ∧ Lk W w' x (getS a b c xs) 4096 p []) := fun W g cp w0 h => get_yes hbl h.row hB (fun e => by cases e) (by have := h.c1; omega) h.c2 hG
  obtain ⟨e1, e2, e3⟩ := hG.rt.nat
  have HLn : Hid ((getS a b c xs).L.length = imM xs) := by show ((imX xs).map Bw.bg).length = imM xs; rw [List.length_map]; exact bws_length _ _
  have HM : Hid (imM xs ≤ 4096) := by have := HOk.out.few; have := HOk.out.b1; have := HLn.out; show imM xs ≤ 4096; omega
  have HDy : Hid (∀ W, w.grownBy W none → Calls Tryz.prog 7 #[.agg #[.int .i64 a, .int .i64 b, .int .i64 c], .slice bo bl bc] W fun e w' => ∃ vo vcap, e = .returned (.tuple #[.agg #[.int .i64 a, .int .i64 b, .int .i64 c, .int .u32 (imN xs : Int), .int .i64 (imT xs), .slice vo (imM xs) vcap], .int .i64 0]) ∧ w'.ownsRow W.heap.size 45 3 (.slice vo (imM xs) vcap) (imM xs) (bgs (getS a b c xs).L) ∧ W.grownBy w' none) := fun W g => rget_yes hbl (hat.kept g (by simp)) hB (by omega) hG
  have HIs : Hid (∀ w0 W z p K vo vcap, Lk w0 W z (getS a b c xs) K p [] → W.ownsRow 0 45 3 (.slice vo (imM xs) vcap) (imM xs) (bgs (getS a b c xs).L) → Calls Tryz.prog 11 #[.pointer (some ⟨z, 0, none⟩), .agg #[.int .i64 a, .int .i64 b, .int .i64 c, .int .u32 (imN xs : Int), .int .i64 (imT xs), .slice vo (imM xs) vcap]] W fun e w' => e = .returned (.bool true) ∧ W.grownBy w' none) := by
    intro w0 W z p K vo vcap h ho
    have hv : BgA W (.slice vo (getS a b c xs).L.length vcap) (getS a b c xs).L := BgA.own (b := 0) (by rw [HLn.out]; exact ho)
    have := is_any h.bk HOk.out.wk hv
    rw [h.eb, HLn.out] at this
    have ea : ((getS a b c xs).a : Int) = a := e1
    have eb : ((getS a b c xs).b : Int) = b := e2
    have ec : ((getS a b c xs).c : Int) = c := e3
    rw [ea, eb, ec] at this
    exact this
  have HN1 : Hid (imN xs < 4294967296) := imN_lt hB
  have HHo : Hid (∀ w0 W x y p q B cs v M L, Gt w0 W x y (getS a b c xs) (getS a b c xs) 4096 p q B cs v M L → Rk.Tab w0 → Calls Tryz.prog 12 #[.pointer (some ⟨x, 0, none⟩), .agg #[.int .i64 1, .int .u32 (imN xs : Int), .int .i64 0, .int .i64 0, .int .i64 0]] W fun e w' => ∃ E, e = .returned (.int .i64 E) ∧ E ≠ 0 ∧ ∃ p', Gt w0 w' x y (getS a b c xs) (getS a b c xs) 4097 p' q B cs v M L) := by
    intro w0 W x y p q B cs v M L h hT0
    have hno : appE (getS a b c xs) ⟨1, (imN xs : Int), 0, 0, 0⟩ ≠ 0 := hold0_no HOk.out
    refine (h.apply HOk.out (by omega) hT0 ⟨1, (imN xs : Int), 0, 0, 0⟩ ⟨by simp, by simp, by simp, by have := HN1.out; simp; omega, by simp, by simp, by simp, by simp, by simp, by simp⟩).mono ?_
    rintro e w' ⟨rfl, p', h1⟩
    rw [app_no hno] at h1
    exact ⟨_, rfl, hno, p', h1⟩
  have HCa : Hid (∀ w0 W x y p q B cs v M (j : Nat) (z : Bg) (Y : List Bg), (getS a b c xs).L.drop j = z :: Y → Gt w0 W x y { getS a b c xs with L := z :: Y } (getS a b c xs) (4097 + j) p q B cs v M (getS a b c xs).L → { getS a b c xs with L := z :: Y }.Ok → j ≤ 4096 → Rk.Tab w0 → Calls Tryz.prog 12 #[.pointer (some ⟨x, 0, none⟩), .agg #[.int .i64 3, .int .u32 (z.i : Int), .int .i64 0, .int .i64 0, .int .i64 0]] W fun e w' => e = .returned (.int .i64 0) ∧ { getS a b c xs with L := Y }.Ok ∧ ∃ p', Gt w0 w' x y { getS a b c xs with L := Y } (getS a b c xs) (4097 + (j + 1)) p' q B cs v M (getS a b c xs).L) := by
    intro w0 W x y p q B cs v M j z Y hd h ho hj hT0
    obtain ⟨c1, c2⟩ := cancel_one ho (x := z) (Y := Y) rfl
    have hid := ho.id z (by simp)
    have hn1 := ho.n1
    have hn2 : { getS a b c xs with L := z :: Y }.n = imN xs := rfl
    have ho2 := ho.app ⟨3, (z.i : Int), 0, 0, 0⟩
    rw [c2] at ho2
    refine (h.apply ho (by omega) hT0 ⟨3, (z.i : Int), 0, 0, 0⟩ ⟨by simp, by simp, by simp, by simp only; omega, by simp, by simp, by simp, by simp, by simp, by simp⟩).mono ?_
    rintro e w' ⟨rfl, p', h1⟩
    rw [c2] at h1
    rw [c1]
    exact ⟨rfl, ho2, p', h1⟩
  obtain ⟨SS, hSS⟩ : ∃ SS, getS a b c xs = SS := ⟨_, rfl⟩
  obtain ⟨NN, hNN⟩ : ∃ NN, imN xs = NN := ⟨_, rfl⟩
  obtain ⟨TT, hTT⟩ : ∃ TT, imT xs = TT := ⟨_, rfl⟩
  obtain ⟨MM, hMM⟩ : ∃ MM, imM xs = MM := ⟨_, rfl⟩
  rw [hSS] at HOk HGy HLn HDy HIs HHo HCa
  rw [hNN] at HDy HIs HHo
  rw [hTT] at HDy HIs
  rw [hMM] at HLn HDy HIs HM
  have HT0 := hide hT
  clear hbl hat hB hbn hbb hT k0 hG HG e1 e2 e3 HN1 hSS hNN hTT hMM
  obtain ⟨y0, y1, y2⟩ := HS.out _ (grown_refl _ none)
  go_enter Tryz.func3, Tryz.ntmps3
  go_wp2_with fail
  refine (HLe.out _ HA0.out).mono ?_
  rintro e w1 ⟨g, cp, rfl, hL⟩
  have HL1 := hide hL
  clear hL y0 y1 y2
  obtain ⟨y0, y1, y2⟩ := HS.out _ HL1.out.gr
  go_wp2_with fail
  refine (HGy.out _ _ _ _ HL1.out).mono ?_
  rintro e w2 ⟨x, p, rfl, hk2⟩
  have HX2 := hide hk2
  have HL2 := hide (HL1.out.then hk2.gr)
  clear hk2 y0 y1 y2
  obtain ⟨y0, y1, y2⟩ := HS.out _ HL2.out.gr
  go_wp2_with fail
  refine (HGy.out _ _ _ _ HL2.out).mono ?_
  rintro e w3 ⟨y, q, rfl, hk3⟩
  have HY3 := hide hk3
  have HL3 := hide (HL2.out.then hk3.gr)
  clear hk3 y0 y1 y2
  obtain ⟨y0, y1, y2⟩ := HS.out _ HL3.out.gr
  go_wp2_with fail
  refine (HDy.out _ (grown_trans HA0.out HL3.out.gr)).mono ?_
  rintro e w4 ⟨vo, vcap, rfl, hro, hg⟩
  obtain ⟨w5, hw5⟩ : ∃ w5, w4.alloc (.cells [.int .i64 a, .int .i64 b, .int .i64 c, .int .u32 (NN : Int), .int .i64 TT, .slice vo MM vcap].toArray 33) = w5 := ⟨_, rfl⟩
  have hg5 : w4.grownBy w5 none := by rw [← hw5]; exact grown_alloc w4 _
  have HB5 : Hid (w5.heap[w4.heap.size]? = some (.cells [.int .i64 a, .int .i64 b, .int .i64 c, .int .u32 (NN : Int), .int .i64 TT, .slice vo MM vcap].toArray 33 (0, 0))) := by rw [← hw5]; exact heap_alloc_new w4 _
  have HR5 := hide (own_keep hro hg5)
  have HG35 := hide (grown_trans hg hg5)
  have HL5 := hide (HL3.out.then HG35.out)
  have HR4 : Hid (∀ gg, (Value.slice vo MM vcap).ownBlock = some gg → w3.heap.size ≤ gg) := fun gg hgg => (Ix.own_block hro hgg).1
  have HB4 : Hid (w3.heap.size ≤ w4.heap.size) := hg.size
  obtain ⟨d0, d1, d2, d3, d4, d5, -⟩ := box6 HB5.out
  have HW5 := hide hw5
  clear hro hg hg5 hw5 y0 y1 y2
  go_wp2_with fail
  rw [show World.alloc w4 _ = w5 from HW5.out]
  clear HW5
  refine (HKp.out _ _ _ _ HL5.out (grown_trans HA0.out HL5.out.gr)).mono ?_
  rintro e w6 ⟨rfl, hg⟩
  have HL6 := hide (HL5.out.then hg)
  have HG36 := hide (grown_trans HG35.out hg)
  have HB6 := hide ((hg.block _ (row_lt HB5.out) (by simp)).trans HB5.out)
  have HR6 := hide (own_keep HR5.out hg)
  clear hg HL5 HG35 HB5 HR5 d0 d1 d2 d3 d4 d5
  go_wp2_with fail
  refine (HOv.out _ _ _ _ HL6.out).mono ?_
  rintro e w7 ⟨rfl, hg⟩
  obtain ⟨BB, hBB⟩ : ∃ BB, w4.heap.size = BB := ⟨_, rfl⟩
  have H7 : Hid (Gt w w7 x y SS SS 4096 p q BB [.int .i64 a, .int .i64 b, .int .i64 c, .int .u32 (NN : Int), .int .i64 TT, .slice vo MM vcap] (.slice vo MM vcap) MM SS.L) := by
    have gw1 := grown_trans HA0.out HL1.out.gr
    have kx6 := (HX2.out.then (grown_trans HY3.out.gr HG36.out)).wide gw1
    have ky6 := (HY3.out.then HG36.out).wide (grown_trans gw1 HX2.out.gr)
    have hlg := HL1.out.lt
    have hg0 : w.heap.size ≤ g := Nat.le_trans HA0.out.size HL1.out.lo
    have hpx : ∀ i, p.own i → w1.heap.size ≤ i ∧ i < w2.heap.size := fun i hi => ⟨HX2.out.own i hi, HX2.out.bk.lt i hi⟩
    have hqy : ∀ i, q.own i → w2.heap.size ≤ i ∧ i < w3.heap.size := fun i hi => ⟨HY3.out.own i hi, HY3.out.bk.lt i hi⟩
    have s12 := HX2.out.gr.size
    have s23 := HY3.out.gr.size
    have hb4 := HB4.out
    refine ⟨kx6.off hg hg0 (fun e => by have := (hpx _ e).1; omega), ky6.off hg hg0 (fun e => by have := (hqy _ e).1; omega), fun i hi e => ?_, ?_, fun e => ?_, ?_, fun gg hgg e => ?_⟩
    · have h1 := (hqy i hi).1
      have h2 := (hpx i e).2
      omega
    · rw [← hBB]
      exact (hg.block _ (row_lt HB6.out) (fun e => by have := Option.some.inj e; omega)).trans HB6.out
    · have := (hpx _ e).2
      omega
    · refine own_le (Ix.row_keep HR6.out (fun gg hgg => ?_)) (Nat.le_trans gw1.size (Nat.le_trans s12 s23))
      obtain ⟨hh, cur, hc⟩ := Ix.own_block HR6.out hgg
      exact hg.block gg (row_lt hc) (fun e => by have := Option.some.inj e; omega)
    · have h1 := HR4.out gg hgg
      have h2 := (hpx gg e).2
      omega
  rw [hBB]
  have HLM := hide HLn.out
  clear hg hBB HB6 HR6 HL6 HG36 HL1 HL2 HL3 HX2 HY3 HR4 HB4 HKp HOv HLe HGy HDy HS
  obtain ⟨d0, d1, d2, d3, d4, d5, -⟩ := box6 H7.out.bx
  go_wp2_with fail
  refine (HIs.out _ _ _ _ _ _ _ H7.out.kx (own_le H7.out.ro (Nat.zero_le _))).mono ?_
  rintro e w8 ⟨rfl, hg⟩
  have H8 := hide (H7.out.then hg)
  clear hg H7 d0 d1 d2 d3 d4 d5
  obtain ⟨d0, d1, d2, d3, d4, d5, -⟩ := box6 H8.out.bx
  go_wp2_with fail
  refine (HIs.out _ _ _ _ _ _ _ H8.out.ky (own_le H8.out.ro (Nat.zero_le _))).mono ?_
  rintro e w9 ⟨rfl, hg⟩
  have H9 := hide (H8.out.then hg)
  clear hg H8 d0 d1 d2 d3 d4 d5
  obtain ⟨d0, d1, d2, d3, d4, d5, -⟩ := box6 H9.out.bx
  go_wp2_with fail
  refine (HHo.out _ _ _ _ _ _ _ _ _ _ _ H9.out HT0.out).mono ?_
  rintro e wa ⟨E, rfl, hE, p1, hk⟩
  have HA := hide hk
  have hE1 : (E == 0) = false := by simpa using hE
  have hE3 : decide (E = 0) = false := by simpa using hE
  clear hk H9 HHo d0 d1 d2 d3 d4 d5
  have HOk0 := hide HOk.out
  go_wp2
  clear hE hE1 hE3
  go_loopg [12] MM (fun k i wr => ∃ (j : Nat) (pj : Bp), k + j = MM ∧ i = .int .i64 j ∧ Hid (Gt w wr x y { SS with L := SS.L.drop j } SS (4097 + j) pj q BB [.int .i64 a, .int .i64 b, .int .i64 c, .int .u32 (NN : Int), .int .i64 TT, .slice vo MM vcap] (.slice vo MM vcap) MM SS.L ∧ { SS with L := SS.L.drop j }.Ok))
  case atStart => exact ⟨0, p1, by omega, rfl, by rw [List.drop_zero]; exact HA.out, by rw [List.drop_zero]; exact HOk.out⟩
  case round =>
    obtain ⟨j, pj, hkj, rfl, HI⟩ := hrel
    obtain ⟨d0, d1, d2, d3, d4, d5, -⟩ := box6 HI.out.1.bx
    by_cases hk : 0 < gk
    · have hjM : j < SS.L.length := by rw [HLn.out]; omega
      obtain ⟨z, hz⟩ : ∃ z, SS.L[j] = z := ⟨_, rfl⟩
      obtain ⟨Y, hY⟩ : ∃ Y, SS.L.drop (j + 1) = Y := ⟨_, rfl⟩
      have HD : Hid (SS.L.drop j = z :: Y) := by show SS.L.drop j = z :: Y; rw [List.drop_eq_getElem_cons hjM, hz, hY]
      have hv : BgA wr (.slice vo MM vcap) SS.L := BgA.own (b := w.heap.size) (by rw [HLn.out]; exact HI.out.1.ro)
      obtain ⟨vo', vcap', hev, hrow⟩ := hv.ex
      obtain ⟨gg, hgo, x0, x1, x2⟩ := hrow j hjM
      have hvo : vo = vo' := by simp at hev; exact hev.1
      rw [← hvo] at hgo
      subst hgo
      have hrd : rd SS.L j = z := by simp [rd, List.getElem?_eq_getElem hjM, hz]
      rw [hrd] at x0
      have HC := hide (HCa.out _ _ _ _ _ _ _ _ _ _ j z Y HD.out (by rw [← HD.out]; exact HI.out.1) (by rw [← HD.out]; exact HI.out.2) (by have := HM.out; omega) HT0.out)
      have k7 : (j : Int) < (MM : Int) := by omega
      have k8 : (0 : Int) ≤ (j : Int) := by omega
      have k9 : IntKind.i64.wrap ((j : Int) + 1) = ((j : Int) + 1) := by have := HM.out; rw [IntKind.wrap_i64]; omega
      have HKj := hide (And.intro hkj hk)
      have HY := hide hY
      clear hv hev hrow x1 x2 hvo hrd hz hY hkj hk hjM
      go_wp2_with fail
      refine HC.out.mono ?_
      rintro e wb ⟨rfl, hok, p2, hk2⟩
      have HI2 := hide (And.intro hk2 hok)
      clear hk2 hok d0 d1 d2 d3 d4 d5 x0
      go_wp2
      go_roundg (gk - 1)
      case measure => have := HKj.out; omega
      case rel => exact ⟨j + 1, p2, by have := HKj.out; omega, by first | rfl | simp, by rw [HY.out]; exact HI2.out⟩
    · have hje : j = MM := by omega
      subst hje
      have k7 : ¬ (j : Int) < (j : Int) := by omega
      have HI' : Hid (Gt w wr x y { SS with L := [] } SS (4097 + j) pj q BB [.int .i64 a, .int .i64 b, .int .i64 c, .int .u32 (NN : Int), .int .i64 TT, .slice vo j vcap] (.slice vo j vcap) j SS.L) := by
        have := HI.out.1
        rw [List.drop_of_length_le (by rw [HLn.out]; exact Nat.le_refl _)] at this
        exact this
      go_wp2_with fail
      refine (HIs.out _ _ _ _ _ _ _ HI'.out.ky (own_le HI'.out.ro (Nat.zero_le _))).mono ?_
      rintro e wb ⟨rfl, hg⟩
      have HIb := hide (HI'.out.then hg)
      clear hg d0 d1 d2 d3 d4 d5
      go_wp2_with fail
      refine (HIb.out.kx.len).mono ?_
      rintro e wc ⟨rfl, rfl⟩
      simp only [List.length_nil]
      go_wp2_with fail
      refine (HAw.out _).mono ?_
      rintro e wd ⟨rfl, hg⟩
      have HGz := hide (grown_trans HIb.out.kx.gr hg)
      clear hg
      go_wp2
      go_ret
      exact ⟨rfl, HGz.out⟩
end Go.Proofs.YtahjckcfcdnlmaaGreatDoor
