/- Texts joined: BkZ. -/
import Derived.Test.YtcbiloomnkbalaaGreatDoorJbAa
/- BookBack, walked. -/
namespace Go.Proofs.YtcbiloomnkbalaaGreatDoor
open Go.RowKit
attribute [local go_sem ↓] Go.wp_at_zero Go.wp_at_succ
attribute [local go_sem] Oper.semAt_some
theorem ok_c {S : Sb} (h : S.Ok) {c1 : Nat} (h0 : 1 ≤ c1) (h1 : c1 ≤ 64) : Sb.Ok { S with c := c1 } := ⟨h.a0, h.a1, h.b0, h.b1, h0, h1, h.n0, h.n1, h.t0, h.t1, h.asc, h.id, h.st, h.one, h.til, h.few⟩
section
variable {w W W' w8 : World} {xa xb xc xd b : Nat} {Sa S Sc Sd : Sb} {K : Nat} {p pa : Bp}
theorem mk3 (ha : Lk w8 W xa Sa 4096 pa []) (hb : Lk w W b S 300 p []) (g : w.grownBy w8 none) (hd : Dj pa p) (hw : S.Wk) : Calls Tryz.prog 22 #[.pointer (some ⟨b, 0, none⟩)] W fun e w' => ∃ y, e = .returned (.pointer (some ⟨y, 0, none⟩)) ∧ T3 w w' xa Sa b S y S 4096 := by
  have := copy_any hb.bk hw
  rw [hb.eb] at this
  refine this.mono ?_
  rintro e w' ⟨q, rfl, k1, k2, k3⟩
  exact ⟨q.b, rfl, pa, p, q, (ha.base g).then k2, (hb.then k2).more (by omega), ⟨rfl, k1, grown_trans hb.gr k2, fun i hi => Nat.le_trans hb.gr.size (k3 i hi), fun x hx => by cases hx⟩, hd, (fun i e1 e2 => by have := k3 i e2; have := ha.bk.lt i e1; omega), fun i e1 e2 => by have := k3 i e2; have := hb.bk.lt i e1; omega⟩
theorem T3.then (h : T3 w W xa Sa xb S xc Sc K) (g : W.grownBy W' none) : T3 w W' xa Sa xb S xc Sc K := by
  obtain ⟨pa, pb, pc, a, b, c, h1⟩ := h
  exact ⟨pa, pb, pc, a.then g, b.then g, c.then g, h1⟩
theorem T3.sab {c1 : Nat} (h : T3 w W xa { S with c := c1 } xb S xc Sc K) (hw : S.Wk) (hw2 : Sb.Wk { S with c := c1 }) : Calls Tryz.prog 20 #[.pointer (some ⟨xa, 0, none⟩), .pointer (some ⟨xb, 0, none⟩)] W fun e w' => e = .returned (.bool true) ∧ T3 w w' xa { S with c := c1 } xb S xc Sc K := by
  have h0 := h
  obtain ⟨pa, pb, pc, a, b, c, h1⟩ := h
  have := same_c' a.bk b.bk hw hw2
  rw [a.eb, b.eb] at this
  refine this.mono ?_
  rintro e w' ⟨rfl, g⟩
  exact ⟨rfl, h0.then g⟩
theorem T3.sba {c1 : Nat} (h : T3 w W xa { S with c := c1 } xb S xc Sc K) (hw : S.Wk) (hw2 : Sb.Wk { S with c := c1 }) : Calls Tryz.prog 20 #[.pointer (some ⟨xb, 0, none⟩), .pointer (some ⟨xa, 0, none⟩)] W fun e w' => e = .returned (.bool true) ∧ T3 w w' xa { S with c := c1 } xb S xc Sc K := by
  have h0 := h
  obtain ⟨pa, pb, pc, a, b, c, h1⟩ := h
  have := same_c b.bk a.bk hw hw2
  rw [a.eb, b.eb] at this
  refine this.mono ?_
  rintro e w' ⟨rfl, g⟩
  exact ⟨rfl, h0.then g⟩
theorem T3.scb (h : T3 w W xa Sa xb S xc S K) (hw : S.Wk) : Calls Tryz.prog 20 #[.pointer (some ⟨xc, 0, none⟩), .pointer (some ⟨xb, 0, none⟩)] W fun e w' => e = .returned (.bool true) ∧ T3 w w' xa Sa xb S xc S K := by
  have h0 := h
  obtain ⟨pa, pb, pc, a, b, c, h1⟩ := h
  refine (c.same b hw).mono ?_
  rintro e w' ⟨rfl, g⟩
  exact ⟨rfl, h0.then g⟩
end
set_option maxRecDepth 20000 in
set_option maxHeartbeats 32000000 in
theorem back_any {w : World} {ao bo : Option Addr} {len cap len2 cap2 : Nat} {rs rs2 : List Rc} (hl : rs.length = len) (hR : RecsAt w ao rs) (hO : ∀ r ∈ rs, r.Ok) (hl2 : rs2.length = len2) (hR2 : RecsAt w bo rs2) (hO2 : ∀ r ∈ rs2, r.Ok) (hT : Rk.Tab w) : Calls Tryz.prog 6 #[.slice ao len cap, .slice bo len2 cap2] w fun e w' => e = .returned (.bool true) ∧ w.grownBy w' none := by
  have HAw := hide (awake_any w hT)
  have HMd : Hid (∀ W, w.grownBy W none → Calls Tryz.prog 25 #[.slice ao len cap] W fun e w' => ∃ b S p, e = .returned (.tuple #[.pointer (some ⟨b, 0, none⟩), .bool true]) ∧ S.Mk ∧ Lk w w' b S 300 p []) := by
    intro W g
    refine (made_any hl (hR.grown g) hO (hT.grown g (by simp))).mono ?_
    rintro e w' ⟨b, S, p, rfl, h1, h2⟩
    exact ⟨b, S, p, rfl, h1, h2.base g⟩
  have HD := hide (And.intro hl2 (And.intro hR2 hO2))
  have HT := hide hT
  obtain ⟨r0, hr0, hr1⟩ : ∃ r0 : Nat, (len2 : Int).tmod 64 = (r0 : Int) ∧ r0 < 64 := ⟨len2 % 64, by rw [Int.tmod_eq_emod_of_nonneg (by omega)]; omega, by omega⟩
  clear hl hR hO hl2 hR2 hO2 hT
  go_enter Tryz.func6, Tryz.ntmps6
  go_wp2_with fail
  refine HAw.out.mono ?_
  rintro e w1 ⟨rfl, hg1⟩
  go_wp2_with fail
  refine (HMd.out _ hg1).mono ?_
  rintro e w2 ⟨b, S, p, rfl, hM, hh⟩
  have HM := hide hM
  have H2 := hide hh
  clear HMd HAw hg1 hh hM
  go_wp2_with fail
  refine (H2.out.all HM.out.1.wk).mono ?_
  rintro e w3 ⟨u, rfl, hV, hh⟩
  have H3 := hide (And.intro hV hh)
  clear hV hh H2
  go_wp2_with fail
  refine (told_any H3.out.1 (by have := HM.out.1.few; have := HM.out.2.2.1; omega)).mono ?_
  rintro e w4 ⟨v, rfl, hr, hg4⟩
  have H4 := hide (And.intro hr (H3.out.2.then hg4))
  clear H3 hr hg4
  have HShp : Hid (Calls Tryz.prog 34 #[.pointer (some ⟨b, 0, none⟩)] w4 fun e w' => e = .returned (.agg #[.int .i64 (S.a : Int), .int .i64 (S.b : Int), .int .i64 (S.c : Int)]) ∧ w4.grownBy w' none) := by
    have := shape_any H4.out.2.bk
    rw [H4.out.2.eb] at this
    exact this
  go_wp2_with fail
  refine HShp.out.mono ?_
  rintro e w5 ⟨rfl, hg5⟩
  have H5 := hide (And.intro (own_keep H4.out.1 hg5) (H4.out.2.then hg5))
  clear hg5 H4 HShp
  go_wp2
  have hbx := H5.out.2.box [.int .i64 (S.a : Int), .int .i64 (S.b : Int), .int .i64 (1 + (r0 : Int))] 23
  have hrow := own_keep H5.out.1 (grown_alloc w5 (.cells [.int .i64 (S.a : Int), .int .i64 (S.b : Int), .int .i64 (1 + (r0 : Int))].toArray 23))
  clear H5
  generalize World.alloc w5 _ = w6 at *
  generalize w5.heap.size = X9 at *
  have HNx : Hid (∀ W Bs, Lk w W b S 300 p Bs → Calls Tryz.prog 31 #[.pointer (some ⟨b, 0, none⟩)] W fun e w' => e = .returned (.int .u32 (S.n : Int)) ∧ w' = W) := fun W Bs h => h.next
  have HCk : Hid (∀ W Bs, Lk w W b S 300 p Bs → Calls Tryz.prog 32 #[.pointer (some ⟨b, 0, none⟩)] W fun e w' => e = .returned (.int .i64 S.t) ∧ w' = W) := fun W Bs h => h.clock
  have HCp : Hid (∀ W, w6.grownBy W none → Calls Tryz.prog 35 #[v] W fun e w' => ∃ v', e = .returned v' ∧ BgA w' v' S.L ∧ W.grownBy w' none) := by
    intro W g
    refine (copyBk_any (own_keep hrow g) (by have := HM.out.1.few; have := HM.out.2.2.1; omega)).mono ?_
    rintro e w' ⟨v', rfl, h1, h2⟩
    exact ⟨v', rfl, BgA.own h1, h2⟩
  have HOf : Hid (∀ W v', w.grownBy W none → BgA W v' S.L → Calls Tryz.prog 11 #[.agg #[.int .i64 (S.a : Int), .int .i64 (S.b : Int), .int .i64 (1 + (r0 : Int))], .int .u32 (S.n : Int), .int .i64 S.t, v'] W fun e w' => ∃ x pa, e = .returned (.tuple #[.pointer (some ⟨x, 0, none⟩), .int .i64 0]) ∧ Lk W w' x { S with c := 1 + r0 } 4096 pa []) := by
    intro W v' g hv
    have := of_ok (a := S.a) (b := S.b) (c := 1 + r0) (n := S.n) (t := S.t) (L := S.L) (ok_c HM.out.1 (c1 := 1 + r0) (by omega) (by omega)) hv (by have := HT.out.lt; have := g.size; omega)
    unfold limV at this
    rw [show ((1 + r0 : Nat) : Int) = 1 + (r0 : Int) by omega] at this
    exact this
  have hKc : ∀ (W : World), Lk w W b S 300 p [(X9, [.int .i64 (S.a : Int), .int .i64 (S.b : Int), .int .i64 (1 + (r0 : Int))], 23)] → W.cell? ⟨X9, 0, none⟩ = some (.int .i64 (S.a : Int)) ∧ W.cell? ⟨X9, 1, none⟩ = some (.int .i64 (S.b : Int)) ∧ W.cell? ⟨X9, 2, none⟩ = some (.int .i64 (1 + (r0 : Int))) := fun W h => ⟨h.cell List.mem_cons_self 0 _ rfl, h.cell List.mem_cons_self 1 _ rfl, h.cell List.mem_cons_self 2 _ rfl⟩
  have hK0 := hKc _ hbx
  have hd6 := hbx.drew
  have g6d := grown_drew w6 none
  have HKc := hide hKc
  clear hrow hbx hKc
  go_region_held3 (fun W => W.cell? ⟨X9, 0, none⟩ = some (.int .i64 (S.a : Int)) ∧ W.cell? ⟨X9, 1, none⟩ = some (.int .i64 (S.b : Int)) ∧ W.cell? ⟨X9, 2, none⟩ = some (.int .i64 (1 + (r0 : Int)))) (first | assumption | exact hK0)
    ((first
      | (go_at_call 31; refine (HNx.out _ _ hd6).mono ?_; rintro e w7 ⟨rfl, rfl⟩)
      | (go_at_call 32; refine (HCk.out _ _ hd6).mono ?_; rintro e w7 ⟨rfl, rfl⟩)
      | (go_at_call 35; refine (HCp.out _ g6d).mono ?_; rintro e w8 ⟨v', rfl, hv', hg8⟩; have h8 := hd6.then hg8; have hK8 := HKc.out _ h8)
      | (go_at_call 11; refine (HOf.out _ _ h8.gr hv').mono ?_; rintro e w9 ⟨xa, pa, rfl, ha⟩; have h9 := h8.then ha.gr; have hK9 := HKc.out _ h9)))
  have HC3 := hide (mk3 ha h9.bare h8.gr (fun i e1 e2 => by have := ha.own i e1; have := h8.bk.lt i e2; omega) HM.out.1.wk)
  clear hK0 hK8 hK9 hd6 g6d HKc h8 h9 ha hv' hg8 HNx HCk HCp HOf
  go_wp2_with fail
  refine HC3.out.mono ?_
  rintro e w10 ⟨xc, rfl, hh⟩
  have H10 := hide hh
  clear hh HC3
  have HW2 : Hid (∀ S : Sb, S.Ok → Sb.Wk { S with c := 1 + r0 }) := fun S h => (ok_c h (by omega) (by omega)).wk
  have HS1 := hide (fun W (h : T3 w W xa { S with c := 1 + r0 } b S xc S 4096) => h.sab HM.out.1.wk (HW2.out S HM.out.1))
  have HS2 := hide (fun W (h : T3 w W xa { S with c := 1 + r0 } b S xc S 4096) => h.scb HM.out.1.wk)
  have HS3 := hide (fun W (h : T3 w W xa { S with c := 1 + r0 } b S xc S 4096) => h.sba HM.out.1.wk (HW2.out S HM.out.1))
  go_wp2_with fail
  refine (HS1.out _ H10.out).mono ?_
  rintro e w11 ⟨rfl, hh⟩
  have H11 := hide hh
  clear hh H10
  go_wp2_with fail
  refine (HS2.out _ H11.out).mono ?_
  rintro e w12 ⟨rfl, hh⟩
  have H12 := hide hh
  clear hh H11
  go_wp2_with fail
  refine (HS3.out _ H12.out).mono ?_
  rintro e w13 ⟨rfl, hh⟩
  have H13 := hide hh
  clear hh H12 HS1 HS2 HS3
  go_wp2
  obtain ⟨m, hm1, hm2, hm3⟩ : ∃ m, m ≤ len2 ∧ m ≤ 300 ∧ (m = len2 ∨ m = 300) := ⟨min len2 300, by omega, by omega, by omega⟩
  go_loopg [13] m (fun k i wr => ∃ j : Nat, k + j = m ∧ i = .int .i64 j ∧ ∃ S, Hid (Sb.Mk S ∧ T3 w wr xa { S with c := 1 + r0 } b S xc S (4096 + 3 * j)))
  case atStart => exact ⟨0, by omega, rfl, S, HM.out, H13.out⟩
  case round =>
    clear H13 HM
    obtain ⟨j, hkj, rfl, S, HL⟩ := hrel
    by_cases hk : 0 < gk
    · have h1 : (0 : Int) ≤ (j : Int) := by omega
      have h2 : (j : Int) < (len2 : Int) := by omega
      have h3 : (j : Int) < 300 := by omega
      obtain ⟨r, hr⟩ : ∃ r, rs2[j]? = some r := ⟨rs2[j]'(by have := HD.out.1; omega), List.getElem?_eq_getElem _⟩
      obtain ⟨rb, off, rfl, c0, c1, c2, c3, c4⟩ := HD.out.2.1 j r hr
      have hro := HD.out.2.2 r (List.mem_of_getElem? hr)
      have HRc := hide (fun W (g : w.grownBy W none) => And.intro (g.cell c0 (by simp)) (And.intro (g.cell c1 (by simp)) (And.intro (g.cell c2 (by simp)) (And.intro (g.cell c3 (by simp)) (g.cell c4 (by simp))))))
      clear hr c0 c1 c2 c3 c4
      have hSo := HL.out.1
      have hSc := ok_c hSo.1 (c1 := 1 + r0) (by omega) (by omega)
      have HCy := hide (HL.out.2.copyb hSo.1.wk (by omega))
      have HA1 := hide (fun W y (h : T4 w W xa { S with c := 1 + r0 } b S xc S y S (4096 + 3 * j)) => h.apply hSc (by omega) HT.out r hro)
      have HB1 := hide (fun W y (h : T4 w W xa (app { S with c := 1 + r0 } r) b S xc S y S (4096 + 3 * j + 1)) => h.bd hSo.1.wk)
      have HB2 : Hid (∀ W y, T4 w W xa (app { S with c := 1 + r0 } r) b S xc S y S (4096 + 3 * j + 1) → Calls Tryz.prog 20 #[.pointer (some ⟨xc, 0, none⟩), .pointer (some ⟨y, 0, none⟩)] W fun e w' => e = .returned (.bool true) ∧ T4 w w' xa (app { S with c := 1 + r0 } r) b S xc S y S (4096 + 3 * j + 1)) := by
        intro W y h
        refine (h.ab.ac.ab.bd hSo.1.wk).mono ?_
        rintro e w' ⟨rfl, hh⟩
        exact ⟨rfl, hh.ab.ac.ab⟩
      have HA2 : Hid (∀ W y, T4 w W xa (app { S with c := 1 + r0 } r) b S xc S y S (4096 + 3 * j + 1) → Calls Tryz.prog 36 #[.pointer (some ⟨b, 0, none⟩), Rk.rcV r] W fun e w' => e = .returned (.int .i64 (appE S r)) ∧ T4 w w' xa (app { S with c := 1 + r0 } r) b (app S r) xc S y S (4096 + 3 * j + 1 + 1)) := by
        intro W y h
        refine (h.ab.apply hSo.1 (by omega) HT.out r hro).mono ?_
        rintro e w' ⟨rfl, hh⟩
        exact ⟨rfl, hh.ab⟩
      have HA3 : Hid (∀ W y, T4 w W xa (app { S with c := 1 + r0 } r) b (app S r) xc S y S (4096 + 3 * j + 1 + 1) → Calls Tryz.prog 36 #[.pointer (some ⟨xc, 0, none⟩), Rk.rcV r] W fun e w' => e = .returned (.int .i64 (appE S r)) ∧ T4 w w' xa { app S r with c := 1 + r0 } b (app S r) xc (app S r) y S (4096 + 3 * (j + 1))) := by
        intro W y h
        refine (h.ac.apply hSo.1 (by omega) HT.out r hro).mono ?_
        rintro e w' ⟨rfl, hh⟩
        have h9 := hh.ac
        rw [app_c] at h9
        exact ⟨rfl, h9⟩
      have HB3 := hide (fun W y (h : T4 w W xa { app S r with c := 1 + r0 } b (app S r) xc (app S r) y S (4096 + 3 * (j + 1))) => h.same_ab (hSo.1.app r).wk (HW2.out _ (hSo.1.app r)))
      have HB4 := hide (fun W y (h : T4 w W xa { app S r with c := 1 + r0 } b (app S r) xc (app S r) y S (4096 + 3 * (j + 1))) => h.same_bc (hSo.1.app r).wk)
      have HMk := hide (hSo.app r)
      rw [appE_c] at HA1
      obtain ⟨er, her⟩ : ∃ er, appE S r = er := ⟨_, rfl⟩
      rw [her] at HA1 HA2 HA3
      unfold Rk.rcV at HA1 HA2 HA3
      clear hSo hSc her hro HL HD
      obtain ⟨k, i, s, u', c⟩ := r
      simp only at HRc HA1 HA2 HA3
      go_wp2_with fail
      refine HCy.out.mono ?_
      rintro e w14 ⟨y, rfl, hh⟩
      obtain ⟨c0, c1, c2, c3, c4⟩ := HRc.out _ hh.gr
      have H14 := hide hh
      clear hh HCy
      go_wp2_with fail
      refine (HA1.out _ _ H14.out).mono ?_
      rintro e w15 ⟨rfl, hh⟩
      have H15 := hide hh
      clear hh H14 HA1 c0 c1 c2 c3 c4
      go_wp2_with fail
      refine (HB1.out _ _ H15.out).mono ?_
      rintro e w16 ⟨rfl, hh⟩
      have H16 := hide hh
      clear hh H15 HB1
      go_wp2_with fail
      refine (HB2.out _ _ H16.out).mono ?_
      rintro e w17 ⟨rfl, hh⟩
      obtain ⟨c0, c1, c2, c3, c4⟩ := HRc.out _ hh.gr
      have H17 := hide hh
      clear hh H16 HB2
      go_wp2_with fail
      refine (HA2.out _ _ H17.out).mono ?_
      rintro e w18 ⟨rfl, hh⟩
      clear c0 c1 c2 c3 c4
      obtain ⟨c0, c1, c2, c3, c4⟩ := HRc.out _ hh.gr
      have H18 := hide hh
      clear hh H17 HA2
      go_wp2_with fail
      refine (HA3.out _ _ H18.out).mono ?_
      rintro e w19 ⟨rfl, hh⟩
      have H19 := hide hh
      clear hh H18 HA3 c0 c1 c2 c3 c4
      go_wp2_with fail
      refine (HB3.out _ _ H19.out).mono ?_
      rintro e w20 ⟨rfl, hh⟩
      have H20 := hide hh
      clear hh H19 HB3
      go_wp2_with fail
      refine (HB4.out _ _ H20.out).mono ?_
      rintro e w21 ⟨rfl, hh⟩
      have H21 := hide hh.drop
      clear hh H20 HB4
      go_wp2
      go_roundg (gk - 1)
      case measure => omega
      case rel => exact ⟨j + 1, by omega, by go_num, _, HMk.out, H21.out⟩
    · have hj : j = m := by omega
      subst hj
      have HE := hide HL.out.2.gr
      by_cases h1 : j < len2
      · have h2 : (j : Int) < (len2 : Int) := by omega
        have h3 : j = 300 := by omega
        subst h3
        go_wp2
        go_ret
        exact ⟨rfl, HE.out⟩
      · have h2 : ¬ (j : Int) < (len2 : Int) := by omega
        go_wp2
        go_ret
        exact ⟨rfl, HE.out⟩
end Go.Proofs.YtcbiloomnkbalaaGreatDoor
