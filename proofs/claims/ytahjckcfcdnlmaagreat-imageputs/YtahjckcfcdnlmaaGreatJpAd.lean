/- Texts joined: ImQ. -/
import Derived.Test.YtahjckcfcdnlmaaGreatJpAa
import Derived.Test.YtahjckcfcdnlmaaGreatJpAc
/- ImagePuts: the image of any book. -/
namespace Go.Proofs.YtahjckcfcdnlmaaGreat
open Go.RowKit
attribute [local go_sem ↓] Go.wp_at_zero Go.wp_at_succ
attribute [local go_sem] Oper.semAt_some
theorem own_full {w : World} {B base : Nat} {xs : List Int} (h : w.heap[B]? = some (.cells (xs.map (Value.int .u8)).toArray 5 (0, 0))) (hb : base ≤ B) (hl : xs.length ≤ maxLen) : w.ownsRow base 5 1 (.slice (some ⟨B, 0, none⟩) xs.length xs.length) xs.length (xs.map (Value.int .u8)) :=
  ⟨by simp, .inr ⟨B, xs.length, (xs.map (Value.int .u8)).toArray, rfl, hb, h, Nat.le_refl _, hl, by simp, by simp [List.take_of_length_le]⟩⟩
set_option maxRecDepth 20000 in
set_option maxHeartbeats 16000000 in
theorem puts_any {w : World} {a b c t : Int} {n : Nat} {ao : Option Addr} {len cap : Nat} {X : List Bw} (hl : X.length = len) (h : BwC w ao X) (hnil : ao = none → len = 0 ∧ cap = 0) (hb : len ≤ 5864062014800) (hn : n < 4294967296) :
    Calls Tryz.prog 3 #[askV a b c n t ao len cap] w fun e w' => e = .returned (.bool true) ∧ w.grownBy w' none := by
  have HAw : Hid (∀ W, Calls Tryz.prog 8 #[] W fun e w' => e = .returned (.bool true) ∧ W.grownBy w' none) := fun W => awake_any W
  have HTd : Hid (∀ W, w.grownBy W none → Calls Tryz.prog 6 #[.agg #[.int .i64 a, .int .i64 b, .int .i64 c, .int .u32 (n : Int), .int .i64 t, .slice ao len cap]] W fun e w' => ∃ vo vcap r, e = .returned (.tuple #[.agg #[.int .i64 a, .int .i64 b, .int .i64 c, .int .u32 (n : Int), .int .i64 t, .slice vo len vcap], .bool r]) ∧ (r = true ↔ Right a b c n t X) ∧ BwA w' (.slice vo len vcap) X ∧ W.grownBy w' none) := fun W hW => told_any hl (h.then hW) hnil hb
  have HMn : Hid (∀ W, w.grownBy W none → ¬ Right a b c n t X → Calls Tryz.prog 7 #[.agg #[.int .i64 a, .int .i64 b, .int .i64 c, .int .u32 (n : Int), .int .i64 t, .slice ao len cap]] W fun e w' => ∃ E, e = .returned (.tuple #[.pointer none, .int .i64 E]) ∧ (E == 0) = false ∧ W.grownBy w' none) := by
    intro W hW hRt
    refine (made_no hl (h.then hW) hnil hb hn hRt).mono ?_
    rintro e w' ⟨rfl, g⟩
    refine ⟨_, rfl, ?_, g⟩
    unfold ofE
    split <;> rfl
  have HMy : Hid (∀ W, w.grownBy W none → Right a b c n t X → Calls Tryz.prog 7 #[.agg #[.int .i64 a, .int .i64 b, .int .i64 c, .int .u32 (n : Int), .int .i64 t, .slice ao len cap]] W fun e w' => ∃ x p, e = .returned (.tuple #[.pointer (some ⟨x, 0, none⟩), .int .i64 0]) ∧ Lk w w' x ⟨a.toNat, b.toNat, c.toNat, n, t, X.map Bw.bg⟩ 4096 p [] ∧ W.grownBy w' none) := by
    intro W hW hRt
    refine (made_yes hl (h.then hW) hnil hb hn hRt).mono ?_
    rintro e w' ⟨x, p, rfl, hk⟩
    exact ⟨x, p, rfl, hk.wide hW, hk.gr⟩
  have HX := hide (ask6.new w 27 (.int .i64 a) (.int .i64 b) (.int .i64 c) (.int .u32 (n : Int)) (.int .i64 t) (.slice ao len cap))
  have HG := hide (grown_alloc w (.cells [.int .i64 a, .int .i64 b, .int .i64 c, .int .u32 (n : Int), .int .i64 t, .slice ao len cap].toArray 27))
  have HL := hide (And.intro hl hn)
  clear h hl hnil hb hn
  unfold askV
  obtain ⟨d0, d1, d2, d3, d4, d5⟩ := HX.out
  go_enter Tryz.func3, Tryz.ntmps3
  go_wp2_with fail
  generalize World.alloc w _ = w0 at *
  refine (HTd.out _ HG.out).mono ?_
  rintro e w1 ⟨vo, vcap, r, rfl, hr, hv1, hg1⟩
  have HR := hide hr
  have HBt := hide (ask6.new w1 28 (.int .i64 a) (.int .i64 b) (.int .i64 c) (.int .u32 (n : Int)) (.int .i64 t) (.slice vo len vcap))
  have HV := hide (hv1.then (grown_alloc w1 (.cells [.int .i64 a, .int .i64 b, .int .i64 c, .int .u32 (n : Int), .int .i64 t, .slice vo len vcap].toArray 28)))
  have HG1 := hide (gn_alloc (grown_trans HG.out hg1) (.cells [.int .i64 a, .int .i64 b, .int .i64 c, .int .u32 (n : Int), .int .i64 t, .slice vo len vcap].toArray 28))
  have HX1 := hide (HX.out.then (gn_alloc hg1 (.cells [.int .i64 a, .int .i64 b, .int .i64 c, .int .u32 (n : Int), .int .i64 t, .slice vo len vcap].toArray 28)))
  clear hr hv1 hg1 HTd d0 d1 d2 d3 d4 d5 HX HG
  obtain ⟨Bt, hBt⟩ : ∃ Bt, w1.heap.size = Bt := ⟨_, rfl⟩
  obtain ⟨d0, d1, d2, d3, d4, d5⟩ := HX1.out
  by_cases hRt : Right a b c n t X
  case neg =>
    obtain rfl : r = false := by
      cases r with
      | true => exact absurd (HR.out.1 rfl) hRt
      | false => rfl
    have HM := hide (HMn.out _ HG1.out hRt)
    clear hRt HMy HMn hBt
    go_wp2_with fail
    refine HM.out.mono ?_
    rintro e w6 ⟨E, rfl, hE, hg6⟩
    have HG6 := hide (grown_trans HG1.out hg6)
    clear hg6
    go_wp2_with fail
    refine (HAw.out _).mono ?_
    rintro e w7 ⟨rfl, hg7⟩
    have HG7 := hide (grown_trans HG6.out hg7)
    clear hg7
    go_wp2
    go_ret
    exact ⟨rfl, HG7.out⟩
  obtain rfl : r = true := HR.out.2 hRt
  have HM := hide (HMy.out _ HG1.out hRt)
  have HSok := hide (hRt.ok HL.out.2)
  obtain ⟨en1, en2, en3⟩ := hRt.nat
  have HBg : Hid (∀ W, BwA W (.slice vo len vcap) X → BgA W (.slice vo (X.map Bw.bg).length vcap) (X.map Bw.bg)) := by
    intro W hW
    have := hW.bg (fun i hi => (hRt.2.2.2.2 i hi).s0)
    rw [List.length_map, HL.out.1]
    exact this
  have hil : (img ⟨a.toNat, b.toNat, c.toNat, n, t, X.map Bw.bg⟩).length ≤ 60000 := by
    have h1 := HSok.out.few; have h2 := HSok.out.b1
    rw [img_length]
    simp only at h1 h2 ⊢
    omega
  have HIs : Hid (∀ w0 W x p, Lk w0 W x ⟨a.toNat, b.toNat, c.toNat, n, t, X.map Bw.bg⟩ 4096 p [] → BwA W (.slice vo len vcap) X → Calls Tryz.prog 12 #[.pointer (some ⟨x, 0, none⟩), .agg #[.int .i64 a, .int .i64 b, .int .i64 c, .int .u32 (n : Int), .int .i64 t, .slice vo len vcap]] W fun e w' => e = .returned (.bool true) ∧ W.grownBy w' none) := by
    intro w0 W x p hk hv
    have := is_any hk.bk HSok.out.wk (ao := vo) (cap := vcap) (HBg.out W hv)
    rw [hk.eb] at this
    unfold askV at this
    simp only [List.length_map] at this
    rw [HL.out.1, en1, en2, en3] at this
    exact this
  have HRp : Hid (∀ W, BwA W (.slice vo len vcap) X → Calls Tryz.prog 10 #[.agg #[.int .i64 a, .int .i64 b, .int .i64 c, .int .u32 (n : Int), .int .i64 t, .slice vo len vcap]] W fun e w' => ∃ v, e = .returned v ∧ Ob W w' v (img ⟨a.toNat, b.toNat, c.toNat, n, t, X.map Bw.bg⟩).length (img ⟨a.toNat, b.toNat, c.toNat, n, t, X.map Bw.bg⟩)) := by
    intro W hv
    have := rPut_any HSok.out (ao := vo) (cap := vcap) (HBg.out W hv)
    unfold askV at this
    simp only [List.length_map] at this
    rw [HL.out.1, en1, en2, en3] at this
    exact this
  have HPc : Hid (∀ w0 W x p, Lk w0 W x ⟨a.toNat, b.toNat, c.toNat, n, t, X.map Bw.bg⟩ 4096 p [] → Calls Tryz.prog 9 #[.pointer (some ⟨x, 0, none⟩)] W fun e w' => ∃ B, e = .returned (.tuple #[.slice (some ⟨B, 0, none⟩) (img ⟨a.toNat, b.toNat, c.toNat, n, t, X.map Bw.bg⟩).length (img ⟨a.toNat, b.toNat, c.toNat, n, t, X.map Bw.bg⟩).length, .int .i64 0]) ∧ w'.heap[B]? = some (.cells ((img ⟨a.toNat, b.toNat, c.toNat, n, t, X.map Bw.bg⟩).map (Value.int .u8)).toArray 5 (0, 0)) ∧ W.heap.size ≤ B ∧ W.grownBy w' none) := by
    intro w0 W x p hk
    have := put_any hk.bk HSok.out
    rw [hk.eb] at this
    exact this
  clear hRt HMy HMn en1 en2 en3 HSok HBg
  generalize (⟨a.toNat, b.toNat, c.toNat, n, t, X.map Bw.bg⟩ : Sb) = SS at *
  have HSb : Hid (∀ W ao bo c d, Oc.At W ao (img SS) → Oc.At W bo (img SS) → Calls Tryz.prog 11 #[.slice ao (img SS).length c, .slice bo (img SS).length d] W fun e w' => e = .returned (.bool true) ∧ W.grownBy w' none) := fun W ao bo c d h1 h2 => Oc.same_eq ao bo _ c d (img SS) W rfl h1 h2 (by omega)
  have HOw : Hid (∀ (W : World) B base, W.heap[B]? = some (.cells ((img SS).map (Value.int .u8)).toArray 5 (0, 0)) → base ≤ B → W.ownsRow base 5 1 (.slice (some ⟨B, 0, none⟩) (img SS).length (img SS).length) (img SS).length ((img SS).map (Value.int .u8))) := fun W B base h hb => own_full h hb (by unfold maxLen; omega)
  have HAt : Hid (∀ (W : World) B, W.heap[B]? = some (.cells ((img SS).map (Value.int .u8)).toArray 5 (0, 0)) → Oc.At W (some ⟨B, 0, none⟩) (img SS)) := fun W B h => Oc.at_row h
  have HOb : Hid (∀ z W v, Ob z W v (img SS).length (img SS) → ∃ ao cap, v = .slice ao (img SS).length cap ∧ Oc.At W ao (img SS)) := by
    intro z W v h
    obtain ⟨ao, cap, rfl, _, _, _, hat, _⟩ := Oc.own_at h.row
    exact ⟨ao, cap, rfl, hat⟩
  generalize hIL : (img SS).length = IL at *
  generalize img SS = im at *
  clear hIL
  go_wp2_with fail
  generalize hwa : World.alloc w1 _ = wa at *
  try rw [hBt]
  rw [hBt] at HBt
  clear hwa hBt
  refine HM.out.mono ?_
  rintro e w2 ⟨x, p, rfl, hk2, hg2⟩
  have HK2 := hide hk2
  have HG2 := hide hg2
  clear hk2 hg2 HM d0 d1 d2 d3 d4 d5 HX1
  go_wp2_with fail
  refine (HPc.out _ _ _ _ HK2.out).mono ?_
  rintro e w3 ⟨G1, rfl, hb3, hl3, hg3⟩
  have HB3 := hide (And.intro hb3 hl3)
  have HK3 := hide (HK2.out.then hg3)
  have HG3 := hide (grown_trans HG2.out hg3)
  have HGw2 := hide (grown_trans HG1.out HG2.out)
  clear hb3 hl3 hg3
  go_wp2_with fail
  refine (HPc.out _ _ _ _ HK3.out).mono ?_
  rintro e w4 ⟨G2, rfl, hb4, hl4, hg4⟩
  have HB4 := hide (And.intro hb4 hl4)
  have HK4 := hide (HK3.out.then hg4)
  have HG4 := hide (grown_trans HG3.out hg4)
  have HB34 : Hid (w4.heap[G1]? = some (.cells (im.map (Value.int .u8)).toArray 5 (0, 0))) := (hg4.block _ (row_lt HB3.out.1) (by simp)).trans HB3.out.1
  have hG12 : G1 ≠ G2 := by have := row_lt HB3.out.1; omega
  obtain ⟨d0, d1, d2, d3, d4, d5⟩ := HBt.out.then HG4.out
  clear hb4 hl4 hg4 HPc HK2 HK3
  go_wp2_with fail
  refine (HRp.out _ (HV.out.then HG4.out)).mono ?_
  rintro e w5 ⟨v5, rfl, ho5⟩
  obtain ⟨ao5, cap5, rfl, ha5⟩ := HOb.out _ _ _ ho5
  have HG5 := hide (grown_trans HG4.out ho5.gr)
  have HK5 := hide (HK4.out.then ho5.gr)
  have HB5 : Hid (w5.heap[G1]? = some (.cells (im.map (Value.int .u8)).toArray 5 (0, 0)) ∧ w5.heap[G2]? = some (.cells (im.map (Value.int .u8)).toArray 5 (0, 0))) := ⟨(ho5.gr.block _ (row_lt HB34.out) (by simp)).trans HB34.out, (ho5.gr.block _ (row_lt HB4.out.1) (by simp)).trans HB4.out.1⟩
  have HA5 := hide ha5
  clear ho5 ha5 d0 d1 d2 d3 d4 d5 HK4 HRp HOb
  go_wp2_with fail
  refine (HSb.out _ _ _ _ _ (HAt.out _ _ HB5.out.1) HA5.out).mono ?_
  rintro e w6 ⟨rfl, hg6⟩
  have HG6 := hide hg6
  have HA6 := hide (HA5.out.kept hg6 (by simp))
  have HB6 : Hid (w6.heap[G1]? = some (.cells (im.map (Value.int .u8)).toArray 5 (0, 0)) ∧ w6.heap[G2]? = some (.cells (im.map (Value.int .u8)).toArray 5 (0, 0))) := ⟨(hg6.block _ (row_lt HB5.out.1) (by simp)).trans HB5.out.1, (hg6.block _ (row_lt HB5.out.2) (by simp)).trans HB5.out.2⟩
  clear hg6 HA5 HB5
  go_wp2_with fail
  refine (HSb.out _ _ _ _ _ (HAt.out _ _ HB6.out.2) HA6.out).mono ?_
  rintro e w7 ⟨rfl, hg7⟩
  have HG7 := hide (grown_trans (grown_trans HG5.out HG6.out) hg7)
  have HK7 := hide ((HK5.out.then HG6.out).then hg7)
  have HB7 : Hid (w7.heap[G1]? = some (.cells (im.map (Value.int .u8)).toArray 5 (0, 0)) ∧ w7.heap[G2]? = some (.cells (im.map (Value.int .u8)).toArray 5 (0, 0))) := ⟨(hg7.block _ (row_lt HB6.out.1) (by simp)).trans HB6.out.1, (hg7.block _ (row_lt HB6.out.2) (by simp)).trans HB6.out.2⟩
  obtain ⟨d0, d1, d2, d3, d4, d5⟩ := HBt.out.then HG7.out
  clear hg7 HA6 HB6
  go_wp2_with fail
  refine (HIs.out _ _ _ _ HK7.out (HV.out.then HG7.out)).mono ?_
  rintro e w8 ⟨rfl, hg8⟩
  have HG8 := hide (grown_trans HG1.out (grown_trans HG7.out hg8))
  have HB8 : Hid (w8.heap[G1]? = some (.cells (im.map (Value.int .u8)).toArray 5 (0, 0)) ∧ w8.heap[G2]? = some (.cells (im.map (Value.int .u8)).toArray 5 (0, 0))) := ⟨(hg8.block _ (row_lt HB7.out.1) (by simp)).trans HB7.out.1, (hg8.block _ (row_lt HB7.out.2) (by simp)).trans HB7.out.2⟩
  clear hg8 HB7 HK7 d0 d1 d2 d3 d4 d5
  have HLo : Hid (w.heap.size ≤ G1 ∧ w.heap.size ≤ G2) := by
    have h1 := HB3.out.2; have h2 := HB4.out.2; have h3 := HGw2.out.size; have h4 := HG3.out.size; have h5 := HG1.out.size
    exact ⟨by omega, by omega⟩
  have HApt : Hid (Calls Tryz.prog 13 #[.slice (some ⟨w8.heap.size, 0, none⟩) 2 2] (w8.alloc (.cells #[.slice (some ⟨G1, 0, none⟩) IL IL, .slice (some ⟨G2, 0, none⟩) IL IL] 36)) fun e w' => e = .returned (.bool true) ∧ w.grownBy w' none) := by
    have hR : Ap.Rw w8 0 [.slice (some ⟨G1, 0, none⟩) IL IL, .slice (some ⟨G2, 0, none⟩) IL IL] :=
      Ap.Rw.cons (HOw.out w8 G1 0 HB8.out.1 (Nat.zero_le _)) (by omega) (fun u hu => by simp at hu; subst hu; right; simp [Value.ownBlock, hG12]) (Ap.Rw.cons (HOw.out w8 G2 0 HB8.out.2 (Nat.zero_le _)) (by omega) (fun u hu => by cases hu) (Ap.Rw.nil _ _))
    refine (Ap.apartBytes_rows 0 _ w8 hR (Nat.zero_le _) (by simp) (by simp)).mono ?_
    rintro e w' ⟨rfl, hgt⟩
    refine ⟨rfl, Ap.grownT_after HG8.out hgt (fun k hk => ?_)⟩
    obtain ⟨i, hi, he⟩ := hk
    have : i = 0 ∨ i = 1 := by simp at hi; omega
    rcases this with rfl | rfl
    · simp [Value.ownBlock] at he; have := HLo.out.1; omega
    · simp [Value.ownBlock] at he; have := HLo.out.2; omega
  go_wp2_with fail
  refine HApt.out.mono ?_
  rintro e w9 ⟨rfl, hg9⟩
  have HG9 := hide hg9
  clear hg9
  go_wp2_with fail
  refine (HAw.out _).mono ?_
  rintro e w10 ⟨rfl, hg10⟩
  have HG10 := hide (grown_trans HG9.out hg10)
  clear hg10
  go_wp2
  go_ret
  exact ⟨rfl, HG10.out⟩
end Go.Proofs.YtahjckcfcdnlmaaGreat
