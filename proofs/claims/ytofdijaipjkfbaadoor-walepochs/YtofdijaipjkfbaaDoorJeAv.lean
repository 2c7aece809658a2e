/- Texts joined: Ep2. -/
import Derived.Test.YtofdijaipjkfbaaDoorJeAu
/- WalEpochs: the walk. -/
namespace Go.Proofs.YtofdijaipjkfbaaDoor
open Go.RowKit Ap
attribute [local go_sem ↓] Go.wp_at_zero Go.wp_at_succ
set_option maxRecDepth 100000 in
set_option maxHeartbeats 16000000 in
theorem walEpochs_any (w : World) (hT : Fm.Cr.Tab w) (hw0 : 0 < w.heap.size) (lo : Option Addr) (m cap : Nat) (LL : List (List (List Nat))) (hm : LL.length = m) (hat : BRow3 w lo LL) :
    Calls Tryd.prog 5 #[.slice lo m cap] w fun e w' => e = .returned (.bool true) ∧ w.grownBy w' none := by
  have HT := hide (And.intro hT (And.intro hw0 (And.intro hm hat)))
  clear hT hw0 hat hm
  go_enter Tryd.func5, Tryd.ntmps5
  go_wp2_with fail
  refine (place_any w w 7 (grown_refl _ _)).mono ?_
  rintro e w1 ⟨p, r, qr, rfl, p1⟩
  rw [pN7] at p1
  have P1 := hide p1
  clear p1
  go_wp2_with fail
  refine (sNew P1.out (Nat.le_refl _) (by omega) (by omega) 1 0 u1e u0e).mono ?_
  rintro e w2 ⟨l, rfl, h2, g2⟩
  have R2 : Hid (EpO w w2 p.b r l 0) := ⟨_, _, _, _, h2, rfl, by omega, fun _ => ⟨rfl, rfl⟩⟩
  clear h2 g2 P1
  generalize p.b = b at *
  go_wp2
  go_loopg [9] (min m 12) (fun q i wr => ∃ j : Nat, q + j = min m 12 ∧ i = .int .i64 j ∧ Hid (EpO w wr b r l j))
  case atStart => exact ⟨0, by omega, rfl, R2⟩
  case round =>
    clear R2
    obtain ⟨j, hkj, rfl, HR⟩ := hrel
    obtain ⟨gk0, hgk0⟩ : ∃ gk0, gk0 = gk := ⟨_, rfl⟩
    by_cases hk : 0 < gk
    · have hj : j < m ∧ j < 12 := by omega
      obtain ⟨xs, hxs⟩ : ∃ xs, LL[j]? = some xs := ⟨_, List.getElem?_eq_getElem (by have := HT.out.2.2.1; omega)⟩
      obtain ⟨k, c, D, g, hfr, hgl, hc, hz⟩ := HR.out
      obtain ⟨bb, o, co, cc, hlo, hcell, hrow, hxl⟩ := HT.out.2.2.2 j xs hxs
      subst hlo
      have HC : Hid (w.cell? ⟨bb, o + j, none⟩ = some (.slice co xs.length cc) ∧ BRow w co xs) := ⟨hcell, hrow⟩
      have hj0 : (0 : Int) ≤ (j : Int) := by omega
      have hj1 : (j : Int) < (m : Int) := by omega
      have hj2 : (j : Int) < 12 := by omega
      have hla := lLast_at hfr.at_
      rw [hgl] at hla
      have hS : 0 ≤ g.la := hfr.at_.ul.1
      have hga : g.a = 0 := by
        have h1 := congrArg List.length hfr.hist.bytes
        have h2 := hfr.hist.fit
        rw [List.length_append, List.length_take] at h1
        have h3 : (Fm.nats (Fm.outs [])).length = 0 := rfl
        omega
      obtain ⟨m2, hm2⟩ : ∃ m2, m2 = xs.length := ⟨_, rfl⟩
      have HM2 := hide hm2
      have HI : Hid (EpI w wr b r l k c D g.e g.la (.slice none 0 0) 0 g [] []) := ⟨hfr, hgl, rfl, hga, InS.nil _ _, Bod.nil _ _, Nat.le_refl _⟩
      have HZ := hide (And.intro hc (And.intro hz (And.intro hS hfr.at_.ul.2)))
      clear hfr hgl hc hz hxs hcell hrow hxl HR hS hga hm2
      generalize hE : g.e = E at *
      generalize hSS : g.la = S at *
      clear hE hSS
      go_wp2_with fail
      refine hla.mono ?_
      clear hla
      rintro e wx ⟨rfl, hwx⟩
      obtain rfl := hwx.symm
      go_wp2
      go_loopg [11, 12] (min m2 200) (fun q v i wr => ∃ t : Nat, q + t = min m2 200 ∧ i = .int .i64 t ∧ Hid (∃ g fs bs, EpI w wr b r l k c D E S v t g fs bs))
      case atStart => exact ⟨0, by omega, rfl, hide ⟨_, _, _, HI.out⟩⟩
      case round =>
        clear HI
        obtain ⟨t, hkt, rfl, HQ⟩ := hrel
        obtain ⟨g1, fs, bs, hi⟩ := HQ.out
        obtain ⟨vo, vcap, rfl⟩ := hi.ins.form
        have hG := hi.fr.at_.grown0
        have cj : wr.cell? ⟨bb, o + j, none⟩ = some (.slice co m2 cc) := by rw [HM2.out]; exact hG.cell HC.out.1 (by simp)
        have I1 := hide hi
        clear hi HQ
        by_cases hk2 : 0 < gk
        · have ht : t < m2 ∧ t < 200 := by omega
          obtain ⟨x, hx⟩ : ∃ x, xs[t]? = some x := ⟨_, List.getElem?_eq_getElem (by have := HM2.out; omega)⟩
          obtain ⟨b2, o2, ao, ac, hco, hce, hax, hnil, hxn, hxb, hxc⟩ := HC.out.2 t x hx
          subst hco
          have ct0 := hide hce
          have ct : wr.cell? ⟨b2, o2 + t, none⟩ = some (.slice ao x.length ac) := hG.cell hce (by simp)
          have HA := hide (And.intro hax (And.intro hnil (And.intro hxb hxc)))
          have ht0 : (0 : Int) ≤ (t : Int) := by omega
          have ht1 : (t : Int) < (m2 : Int) := by omega
          have ht2 : (t : Int) < 200 := by omega
          clear hax hnil hxb hxc hx hce
          have hcp := copyBytes_any ao x.length ac x wr rfl (HA.out.1.grown hG) HA.out.2.1 (by omega)
          clear hG
          go_wp2_with fail
          refine hcp.mono ?_
          clear hcp
          rintro e w5 ⟨v5, rfl, h5, g5⟩
          obtain ⟨c1o, c1c, rfl, -, hc5, hm5, hat5, -, -⟩ := own_at h5
          have ha := sAppend (I1.out.fr.then g5) HT.out.1 HT.out.2.1 c1o x.length c1c x rfl hat5 HA.out.2.2.1 hc5 hm5
          rw [I1.out.l] at ha
          have G5 := hide (And.intro g5 ha)
          clear h5 hc5 hm5 hat5 g5 ha
          by_cases hap : apC 8 g1 x.length = 0
          · go_wp2_with fail
            refine G5.out.2.mono ?_
            rintro e w6 hor
            obtain ⟨rfl, v6, f6, m6⟩ := (hor.resolve_left (fun h => h.1 hap)).2
            clear hor
            have hi6 := (I1.out.ins.grown G5.out.1).step (I1.out.fr.then G5.out.1).at_ (LgM.lw m6)
            obtain ⟨vs, hvs, hvb⟩ := hi6
            have hfew := I1.out.few
            have hG6 := f6.at_.grown0
            obtain ⟨i0, hi0, hz0, hz1, hz2⟩ := info_parts Tryd.info23
            have HI0 := hide (And.intro hi0 (And.intro hz0 (And.intro hz1 hz2)))
            have HVS := hide hvs
            have HF6 := hide (And.intro f6 hvb)
            have cj6 : w6.cell? ⟨bb, o + j, none⟩ = some (.slice (some ⟨b2, o2, none⟩) m2 cc) := by rw [HM2.out]; exact hG6.cell HC.out.1 (by simp)
            have ct6 : w6.cell? ⟨b2, o2 + t, none⟩ = some (.slice ao x.length ac) := hG6.cell ct0.out (by simp)
            have HS6 := hide hG6.size
            clear hvs hvb f6 m6 hG6 cj ct hi0 hz0 hz1 hz2
            have hb200 : bs.length ≤ 200 := by omega
            clear hfew
            go_wp2_with (at_builtin; refine wpList_append_own _ rfl (.tmp 79) (.tmp 87) 60 rfl w.heap.size 23 i0 (.slice none 0 0) 1 24 Tryd.underlying60 HI0.out.1 HI0.out.2.1 HI0.out.2.2.1 HI0.out.2.2.2 rfl (by decide) (.slice vo bs.length vcap) bs.length vs rfl (HVS.out.alloc _) ⟨w6.heap.size, 0, none⟩ 1 1 [.slice ao x.length ac] rfl rfl cell_1 (fun y hy => by simp at hy; subst hy; rfl) (by unfold maxLen; omega) (by omega) (Nat.le_trans HS6.out (World.grownBy_alloc w6 _ none).size) ?_)
            intro v7 w7 ho7 hg7 hv7
            clear hv7
            have N7 := hide (I1.out.more HF6.out.1 HVS.out HF6.out.2 ho7 hg7 HA.out.1)
            obtain ⟨vo7, vc7, rfl, -⟩ := own_form ho7
            clear ho7 hg7 cj6 ct6
            go_wp2
            go_roundg (gk - 1)
            case measure => omega
            case rel => exact ⟨t + 1, by omega, by go_num, hide ⟨_, _, _, N7.out⟩⟩
          · have hne : (apC 8 g1 x.length == 0) = false := by simpa using hap
            go_wp2_with fail
            refine G5.out.2.mono ?_
            rintro e w6 hor
            obtain ⟨rfl, g6⟩ := (hor.resolve_right (fun h => hap h.1)).2
            clear hor
            have N6 := hide (I1.out.next (grown_trans G5.out.1 g6))
            clear g6 cj ct
            go_wp2
            go_roundg (gk - 1)
            case measure => omega
            case rel => exact ⟨t + 1, by omega, by go_num, hide ⟨_, _, _, N6.out⟩⟩
        · have hend : m2 ≤ t ∨ (t < m2 ∧ 200 ≤ t) := by omega
          rcases hend with he | he
          · have ht1 : (m2 : Int) ≤ (t : Int) := by omega
            go_wp2_with fail
            have GI := hide (And.intro I1.out.fr I1.out.ins)
            have hfl := sFlush I1.out.fr (by have := HZ.out.1; omega)
            rw [I1.out.l] at hfl
            refine hfl.mono ?_
            clear hfl
            rintro e w8 ⟨rfl, k8, c8, g8, f8, hc8, q8, m8⟩
            have hl8 : g8.l = l := q8.l.trans I1.out.l
            have he8 : g8.e = E := q8.e.trans I1.out.e
            have F8 := hide (And.intro f8 (And.intro (I1.out.ins.step I1.out.fr.at_ m8) (And.intro hc8 q8.bs)))
            have HD8 : Hid (j = 0 → bytesAt (splice D (1 * 64 + g1.a) g1.bs) (1 * 64) (8 * 64) = bytesAt (splice D (1 * 64 + g1.a) g1.bs) (1 * 64) (8 * 64) ∧ Fm.rowF E S (ints (bytesAt (splice D (1 * 64 + g1.a) g1.bs) (1 * 64) (8 * 64))) = fs) := by
              intro h0
              obtain ⟨hD, hE⟩ := HZ.out.2.1 h0
              refine ⟨rfl, ?_⟩
              have hfit := I1.out.fr.at_.fit
              have ha : g8.a = g1.bs.length := by rw [q8.a]; unfold Lg.end_; rw [I1.out.a]; omega
              have := f8.hist.only q8.bs (by rw [he8, hE]; decide) (512 - g1.bs.length) (by rw [ha, hD, I1.out.a]; exact ep_drop _ (by omega))
              rw [he8] at this
              exact this
            have HB8 := hide I1.out.bod
            clear f8 hc8 q8 m8 cj GI I1
            generalize splice D (1 * 64 + g1.a) g1.bs = D8 at *
            have hep := lEpoch_at F8.out.1.at_
            rw [hl8, he8] at hep
            go_wp2_with fail
            refine hep.mono ?_
            clear hep
            rintro e wx ⟨rfl, hwx⟩
            obtain rfl := hwx.symm
            have hsc := sScan F8.out.1 (by have := F8.out.2.2.1; have := HZ.out.1; omega) HT.out.1 E S ⟨HZ.out.2.2.1, HZ.out.2.2.2⟩
            go_wp2_with fail
            refine hsc.mono ?_
            clear hsc
            rintro e w9 ⟨v9, ys, c9, rfl, hys, hfs9, f9, hc9, m9⟩
            obtain ⟨ao9, cap9, rfl, hr9, hcap9⟩ := hfs9.read
            have hfnd := ep_found F8.out.1 F8.out.2.2.2 he8 HB8.out HZ.out.2.2.1 hys
            have F9 := hide (And.intro f9 (And.intro (F8.out.2.1.step F8.out.1.at_ m9) (And.intro hr9 (And.intro hfnd (And.intro hcap9 hc9)))))
            have HL9 : Hid (j = 0 → ys.length = bs.length) := by
              intro h0
              have h1 := congrArg List.length hys
              rw [(HD8.out h0).2, Fm.frs_length, HB8.out.1] at h1
              exact h1
            clear hys hfs9 f9 m9 hr9 hfnd hcap9 hc9 HD8
            generalize ((Fm.fend (Fm.rowF E S (ints (bytesAt D8 (1 * 64) (8 * 64)))) : Nat) : Int) = fe at *
            generalize hLy : ys.length = Ly at *
            have HLy := hide hLy
            clear hLy
            have hep := lEpoch_at F9.out.1.at_
            rw [hl8, he8] at hep
            go_wp2_with fail
            refine hep.mono ?_
            clear hep
            rintro e wx ⟨rfl, hwx⟩
            obtain rfl := hwx.symm
            have hft := first_any ao9 Ly cap9 ys vo bs.length vcap bs E S w9 F9.out.2.2.2.1.2.2.2.1 F9.out.2.2.2.1.2.2.1 F9.out.2.2.1 (F9.out.2.1.brows F9.out.1.at_.grown0) rfl HLy.out F9.out.2.2.2.1.1 (F9.out.2.2.2.2.1) (by have := F9.out.2.2.2.1.2.1; omega) F9.out.2.2.2.1.2.2.2.2
            go_wp2_with fail
            refine hft.mono ?_
            clear hft
            rintro e w10 ⟨rfl, q10, rfl⟩
            have F10 := hide (F9.out.1.then (grown_drewN w9 q10 none))
            generalize w9.drewN q10 = w10 at *
            have hrs := sReset F10.out ((j : Int) + 2) ⟨by omega, by omega⟩
            rw [hl8] at hrs
            have hw1 : IntKind.u64.wrap (j : Int) = (j : Int) := by rw [IntKind.wrap_u64]; omega
            have hw2 : IntKind.u64.wrap ((j : Int) + 2) = (j : Int) + 2 := by rw [IntKind.wrap_u64]; omega
            have HC10 : Hid (c9 ≤ 40 * (j + 1)) := by have := F9.out.2.2.2.2.2; have := F8.out.2.2.1; have := HZ.out.1; show _ ≤ _; omega
            by_cases hj00 : j = 0
            · have hLe : Ly = bs.length := HL9.out hj00
              clear HL9
              subst hLe
              subst hj00
              go_wp2_with fail
              refine hrs.mono ?_
              clear hrs
              rintro e w11 ⟨rfl, f11, -⟩
              have F11 : Hid (EpO w w11 b r l (0 + 1)) := ⟨_, _, _, _, f11, hl8, HC10.out, fun h => by omega⟩
              clear f11
              go_wp2
              go_roundg (gk0 - 1)
              case measure => omega
              case rel => exact ⟨0 + 1, by omega, by go_num, F11⟩
            · have hz0 : ((j : Int) == 0) = false := by simp; omega
              have hz1 : decide ((j : Int) = 0) = false := decide_eq_false (by omega)
              clear HL9
              go_wp2_with fail
              refine hrs.mono ?_
              clear hrs
              rintro e w11 ⟨rfl, f11, -⟩
              have F11 : Hid (EpO w w11 b r l (j + 1)) := ⟨_, _, _, _, f11, hl8, HC10.out, fun h => by omega⟩
              clear f11
              go_wp2
              go_roundg (gk0 - 1)
              case measure => omega
              case rel => exact ⟨j + 1, by omega, by go_num, F11⟩
          · have ht1 : (t : Int) < (m2 : Int) := by omega
            have ht2 : (200 : Int) ≤ (t : Int) := by omega
            go_wp2_with fail
            have GI := hide (And.intro I1.out.fr I1.out.ins)
            have hfl := sFlush I1.out.fr (by have := HZ.out.1; omega)
            rw [I1.out.l] at hfl
            refine hfl.mono ?_
            clear hfl
            rintro e w8 ⟨rfl, k8, c8, g8, f8, hc8, q8, m8⟩
            have hl8 : g8.l = l := q8.l.trans I1.out.l
            have he8 : g8.e = E := q8.e.trans I1.out.e
            have F8 := hide (And.intro f8 (And.intro (I1.out.ins.step I1.out.fr.at_ m8) (And.intro hc8 q8.bs)))
            have HD8 : Hid (j = 0 → bytesAt (splice D (1 * 64 + g1.a) g1.bs) (1 * 64) (8 * 64) = bytesAt (splice D (1 * 64 + g1.a) g1.bs) (1 * 64) (8 * 64) ∧ Fm.rowF E S (ints (bytesAt (splice D (1 * 64 + g1.a) g1.bs) (1 * 64) (8 * 64))) = fs) := by
              intro h0
              obtain ⟨hD, hE⟩ := HZ.out.2.1 h0
              refine ⟨rfl, ?_⟩
              have hfit := I1.out.fr.at_.fit
              have ha : g8.a = g1.bs.length := by rw [q8.a]; unfold Lg.end_; rw [I1.out.a]; omega
              have := f8.hist.only q8.bs (by rw [he8, hE]; decide) (512 - g1.bs.length) (by rw [ha, hD, I1.out.a]; exact ep_drop _ (by omega))
              rw [he8] at this
              exact this
            have HB8 := hide I1.out.bod
            clear f8 hc8 q8 m8 cj GI I1
            generalize splice D (1 * 64 + g1.a) g1.bs = D8 at *
            have hep := lEpoch_at F8.out.1.at_
            rw [hl8, he8] at hep
            go_wp2_with fail
            refine hep.mono ?_
            clear hep
            rintro e wx ⟨rfl, hwx⟩
            obtain rfl := hwx.symm
            have hsc := sScan F8.out.1 (by have := F8.out.2.2.1; have := HZ.out.1; omega) HT.out.1 E S ⟨HZ.out.2.2.1, HZ.out.2.2.2⟩
            go_wp2_with fail
            refine hsc.mono ?_
            clear hsc
            rintro e w9 ⟨v9, ys, c9, rfl, hys, hfs9, f9, hc9, m9⟩
            obtain ⟨ao9, cap9, rfl, hr9, hcap9⟩ := hfs9.read
            have hfnd := ep_found F8.out.1 F8.out.2.2.2 he8 HB8.out HZ.out.2.2.1 hys
            have F9 := hide (And.intro f9 (And.intro (F8.out.2.1.step F8.out.1.at_ m9) (And.intro hr9 (And.intro hfnd (And.intro hcap9 hc9)))))
            have HL9 : Hid (j = 0 → ys.length = bs.length) := by
              intro h0
              have h1 := congrArg List.length hys
              rw [(HD8.out h0).2, Fm.frs_length, HB8.out.1] at h1
              exact h1
            clear hys hfs9 f9 m9 hr9 hfnd hcap9 hc9 HD8
            generalize ((Fm.fend (Fm.rowF E S (ints (bytesAt D8 (1 * 64) (8 * 64)))) : Nat) : Int) = fe at *
            generalize hLy : ys.length = Ly at *
            have HLy := hide hLy
            clear hLy
            have hep := lEpoch_at F9.out.1.at_
            rw [hl8, he8] at hep
            go_wp2_with fail
            refine hep.mono ?_
            clear hep
            rintro e wx ⟨rfl, hwx⟩
            obtain rfl := hwx.symm
            have hft := first_any ao9 Ly cap9 ys vo bs.length vcap bs E S w9 F9.out.2.2.2.1.2.2.2.1 F9.out.2.2.2.1.2.2.1 F9.out.2.2.1 (F9.out.2.1.brows F9.out.1.at_.grown0) rfl HLy.out F9.out.2.2.2.1.1 (F9.out.2.2.2.2.1) (by have := F9.out.2.2.2.1.2.1; omega) F9.out.2.2.2.1.2.2.2.2
            go_wp2_with fail
            refine hft.mono ?_
            clear hft
            rintro e w10 ⟨rfl, q10, rfl⟩
            have F10 := hide (F9.out.1.then (grown_drewN w9 q10 none))
            generalize w9.drewN q10 = w10 at *
            have hrs := sReset F10.out ((j : Int) + 2) ⟨by omega, by omega⟩
            rw [hl8] at hrs
            have hw1 : IntKind.u64.wrap (j : Int) = (j : Int) := by rw [IntKind.wrap_u64]; omega
            have hw2 : IntKind.u64.wrap ((j : Int) + 2) = (j : Int) + 2 := by rw [IntKind.wrap_u64]; omega
            have HC10 : Hid (c9 ≤ 40 * (j + 1)) := by have := F9.out.2.2.2.2.2; have := F8.out.2.2.1; have := HZ.out.1; show _ ≤ _; omega
            by_cases hj00 : j = 0
            · have hLe : Ly = bs.length := HL9.out hj00
              clear HL9
              subst hLe
              subst hj00
              go_wp2_with fail
              refine hrs.mono ?_
              clear hrs
              rintro e w11 ⟨rfl, f11, -⟩
              have F11 : Hid (EpO w w11 b r l (0 + 1)) := ⟨_, _, _, _, f11, hl8, HC10.out, fun h => by omega⟩
              clear f11
              go_wp2
              go_roundg (gk0 - 1)
              case measure => omega
              case rel => exact ⟨0 + 1, by omega, by go_num, F11⟩
            · have hz0 : ((j : Int) == 0) = false := by simp; omega
              have hz1 : decide ((j : Int) = 0) = false := decide_eq_false (by omega)
              clear HL9
              go_wp2_with fail
              refine hrs.mono ?_
              clear hrs
              rintro e w11 ⟨rfl, f11, -⟩
              have F11 : Hid (EpO w w11 b r l (j + 1)) := ⟨_, _, _, _, f11, hl8, HC10.out, fun h => by omega⟩
              clear f11
              go_wp2
              go_roundg (gk0 - 1)
              case measure => omega
              case rel => exact ⟨j + 1, by omega, by go_num, F11⟩
    · obtain ⟨k, c, D, g, hfr, hgl, hc, hz⟩ := HR.out
      have G0 := hide hfr.at_.grown0
      clear hfr hgl hc hz HR
      have hend : m ≤ j ∨ (j < m ∧ 12 ≤ j) := by omega
      rcases hend with he | he
      · have hj1 : (m : Int) ≤ (j : Int) := by omega
        go_wp2_with fail
        refine (awake_any wr (HT.out.1.grown G0.out) (Nat.lt_of_lt_of_le HT.out.2.1 G0.out.size)).mono ?_
        rintro e w9 ⟨rfl, g9⟩
        have G9 := hide (grown_trans G0.out g9)
        clear g9
        go_wp2
        go_ret
        exact ⟨rfl, G9.out⟩
      · have hj1 : (j : Int) < (m : Int) := by omega
        have hj2 : (12 : Int) ≤ (j : Int) := by omega
        go_wp2_with fail
        refine (awake_any wr (HT.out.1.grown G0.out) (Nat.lt_of_lt_of_le HT.out.2.1 G0.out.size)).mono ?_
        rintro e w9 ⟨rfl, g9⟩
        have G9 := hide (grown_trans G0.out g9)
        clear g9
        go_wp2
        go_ret
        exact ⟨rfl, G9.out⟩
end Go.Proofs.YtofdijaipjkfbaaDoor
