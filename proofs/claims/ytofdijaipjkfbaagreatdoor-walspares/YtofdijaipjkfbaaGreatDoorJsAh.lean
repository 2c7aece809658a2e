/- Texts joined: Sp1. -/
import Derived.Test.YtofdijaipjkfbaaGreatDoorJsAg
/- WalSpares: the walk. -/
namespace Go.Proofs.YtofdijaipjkfbaaGreatDoor
open Go.RowKit Ap
attribute [local go_sem ↓] Go.wp_at_zero Go.wp_at_succ
set_option maxRecDepth 100000 in
set_option maxHeartbeats 16000000 in
theorem walSpares_any (w : World) (hT : Fm.Cr.Tab w) (hw0 : 0 < w.heap.size) (lo : Option Addr) (m cap : Nat) (LL : List (List Nat)) (hm : LL.length = m) (hat : BRow w lo LL) :
    Calls Tryz.prog 5 #[.slice lo m cap] w fun e w' => e = .returned (.bool true) ∧ w.grownBy w' none := by
  have HT := hide (And.intro hT (And.intro hw0 (And.intro hm hat)))
  clear hT hw0 hat hm
  go_enter Tryz.func5, Tryz.ntmps5
  go_wp2_with fail
  refine (place_any w w 7 (grown_refl _ _)).mono ?_
  rintro e w1 ⟨p, r, qr, rfl, p1⟩
  rw [pN7] at p1
  have P1 := hide p1
  clear p1
  go_wp2_with fail
  refine (sNew P1.out (Nat.le_refl _) (by omega) (by omega) 5 9 ⟨by decide, by decide⟩ ⟨by decide, by decide⟩).mono ?_
  rintro e w2 ⟨l, rfl, h2, g2⟩
  have I2 : Hid (EpI w w2 p.b r l p.k 0 (zs ((8 + 1) * 64)) 5 9 (.slice none 0 0) 0 (Lg.new l 5 9) [] []) := ⟨h2, rfl, rfl, rfl, InS.nil _ _, Bod.nil _ _, Nat.le_refl _⟩
  clear h2 g2 P1
  generalize Lg.new l 5 9 = g0 at *
  generalize p.b = b at *
  generalize p.k = k at *
  generalize zs ((8 + 1) * 64) = D at *
  go_wp2
  go_loopg [9, 10] (min m 200) (fun q v i wr => ∃ t : Nat, q + t = min m 200 ∧ i = .int .i64 t ∧ Hid (∃ g fs bs, EpI w wr b r l k 0 D 5 9 v t g fs bs))
  case atStart => exact ⟨0, by omega, rfl, hide ⟨_, _, _, I2.out⟩⟩
  case round =>
    clear I2
    obtain ⟨t, hkt, rfl, HQ⟩ := hrel
    obtain ⟨g, fs, bs, hi⟩ := HQ.out
    obtain ⟨vo, vcap, rfl⟩ := hi.ins.form
    have hG := hi.fr.at_.grown0
    have I1 := hide hi
    clear hi HQ
    by_cases hk2 : 0 < gk
    · have ht : t < m ∧ t < 200 := by omega
      obtain ⟨x, hx⟩ : ∃ x, LL[t]? = some x := ⟨_, List.getElem?_eq_getElem (by have := HT.out.2.2.1; omega)⟩
      obtain ⟨b2, o2, ao, ac, hco, hce, hax, hnil, hxn, hxb, hxc⟩ := HT.out.2.2.2 t x hx
      subst hco
      have ct0 := hide hce
      have ct : wr.cell? ⟨b2, o2 + t, none⟩ = some (.slice ao x.length ac) := hG.cell hce (by simp)
      have HA := hide (And.intro hax (And.intro hnil (And.intro hxb hxn)))
      have ht0 : (0 : Int) ≤ (t : Int) := by omega
      have ht1 : (t : Int) < (m : Int) := by omega
      have ht2 : (t : Int) < 200 := by omega
      clear hax hnil hxb hxc hx hce
      have hcp := lent_any ao x.length ac x wr rfl (HA.out.1.grown hG) HA.out.2.1 hxn
      clear hG
      go_wp2_with fail
      refine hcp.mono ?_
      clear hcp ct
      rintro e w5 ⟨v5, rfl, h5, g5⟩
      obtain ⟨gB, cB, rfl, hB1, hB2, hB3, hB4, hB5, cur, hB6, hB7⟩ := h5.all
      have hat5 : At w5 (some ⟨gB, 0, none⟩) x := At.front hB5
      have ha := sAppend (I1.out.fr.then g5) HT.out.1 HT.out.2.1 (some ⟨gB, 0, none⟩) x.length cB x rfl hat5 HA.out.2.2.1 (by omega) hB2
      rw [I1.out.l] at ha
      have HB := hide (And.intro hB1 (And.intro hB2 (And.intro hB3 (And.intro hB4 (And.intro hB5 (And.intro hB6 hB7))))))
      have G5 := hide (And.intro g5 ha)
      clear h5 hat5 g5 ha hB1 hB2 hB3 hB4 hB5 hB6 hB7
      by_cases hap : apC 8 g x.length = 0
      · go_wp2_with fail
        refine G5.out.2.mono ?_
        rintro e w6 hor
        obtain ⟨rfl, v6, f6, m6⟩ := (hor.resolve_left (fun h => h.1 hap)).2
        clear hor
        have hi6 := (I1.out.ins.grown G5.out.1).step (I1.out.fr.then G5.out.1).at_ (LgM.lw m6)
        have hnl : ¬ lfoot g gB := fun e => by have := I1.out.fr.at_.lt gB (.inr (.inr e)); have := HB.out.2.2.1; omega
        have hk6 : w6.heap[gB]? = some (.cells cur 5 (0, 0)) := m6.kept.at HB.out.2.2.2.2.2.1 hnl
        have hsz6 := m6.kept.size
        have hnl6 : ∀ i, (foot k [] i ∨ i = b ∨ lfoot (g.more x v6) i) → i ≠ gB := fun i hi e => by
          rw [e] at hi
          rcases hi with e | e | e
          · have := I1.out.fr.at_.lt gB (.inl e); have := HB.out.2.2.1; omega
          · have := I1.out.fr.at_.lt gB (.inr (.inl e)); have := HB.out.2.2.1; omega
          · rcases m6.foot e with e | e
            · exact hnl e
            · have := HB.out.2.2.2.1; omega
        have hG6 := f6.at_.grown0
        have hat6 : At w6 (some ⟨gB, 0, none⟩) (x ++ marks 1 12) := At.blk HB.out.2.2.2.2.1 HB.out.2.2.2.2.2.1 hk6
        have hkp := kept_any gB cB ao x.length ac x w6 rfl HB.out.1 HB.out.2.1 hat6 (HA.out.1.grown hG6) (by have := HA.out.2.2.2; omega)
        have ct6 : w6.cell? ⟨b2, o2 + t, none⟩ = some (.slice ao x.length ac) := hG6.cell ct0.out (by simp)
        have K6 := hide (And.intro f6 (And.intro hi6 (And.intro hk6 hnl6)))
        clear f6 m6 hi6 hk6 hnl6 hat6 hG6 hnl hsz6
        go_wp2_with fail
        refine hkp.mono ?_
        clear hkp ct6
        rintro e w6b ⟨rfl, g6b⟩
        have hov := over_any gB cB x.length w6b ⟨cur, (Kept.new g6b (fun _ => False)).at K6.out.2.2.1 (fun e => e), HB.out.2.2.2.2.2.2⟩ HB.out.1 HB.out.2.1 (by have := HA.out.2.2.2; omega)
        have G6b := hide g6b
        clear g6b
        go_wp2_with fail
        refine hov.mono ?_
        clear hov
        rintro e w6c ⟨rfl, g6c⟩
        have hkc : Kept w6b w6c (fun i => i = gB) := Kept.of g6c (fun j e _ => (Option.some.inj e).symm)
        have f6c : FrS w w6c 8 b r k 0 D (g.more x v6) 9 (fs ++ [g.fr x]) := (K6.out.1.then G6b.out).away hkc (fun i hi => by
          subst hi
          refine ⟨fun e => K6.out.2.2.2 i e rfl, ?_, ?_⟩
          · have := HB.out.2.2.1; have := I1.out.fr.at_.grown0.size; omega
          · rintro rfl
            have := I1.out.fr.at_.rlt
            have := HB.out.2.2.1
            omega)
        have i6c : InS w w6c (.slice vo bs.length vcap) bs := (K6.out.2.1.grown G6b.out).off2 hkc (fun i hi e => by subst e; have := I1.out.ins.lt i hi; have := HB.out.2.2.1; omega)
        obtain ⟨vs, hvs, hvb⟩ := i6c
        have hfew := I1.out.few
        have hG6 := f6c.at_.grown0
        obtain ⟨i0, hi0, hz0, hz1, hz2⟩ := info_parts Tryz.info39
        have HI0 := hide (And.intro hi0 (And.intro hz0 (And.intro hz1 hz2)))
        have HVS := hide hvs
        have HS6 := hide hG6.size
        have HF6 := hide (And.intro f6c hvb)
        have ct6 : w6c.cell? ⟨b2, o2 + t, none⟩ = some (.slice ao x.length ac) := hG6.cell ct0.out (by simp)
        clear hvs hvb f6c g6c hkc hG6 hi0 hz0 hz1 hz2 K6 G6b
        have hb200 : bs.length ≤ 200 := by omega
        clear hfew
        go_wp2_with (at_builtin; refine wpList_append_own _ rfl (.tmp 76) (.tmp 81) 51 rfl w.heap.size 39 i0 (.slice none 0 0) 1 24 Tryz.underlying51 HI0.out.1 HI0.out.2.1 HI0.out.2.2.1 HI0.out.2.2.2 rfl (by decide) (.slice vo bs.length vcap) bs.length vs rfl (HVS.out.alloc _) ⟨w6c.heap.size, 0, none⟩ 1 1 [.slice ao x.length ac] rfl rfl cell_1 (fun y hy => by simp at hy; subst hy; rfl) (by unfold maxLen; omega) (by omega) (Nat.le_trans HS6.out (World.grownBy_alloc w6c _ none).size) ?_)
        intro v7 w7 ho7 hg7 hv7
        clear hv7
        have N7 := hide (I1.out.more HF6.out.1 HVS.out HF6.out.2 ho7 hg7 HA.out.1)
        obtain ⟨vo7, vc7, rfl, -⟩ := own_form ho7
        clear ho7 hg7 ct6
        go_wp2
        go_roundg (gk - 1)
        case measure => omega
        case rel => exact ⟨t + 1, by omega, by go_num, hide ⟨_, _, _, N7.out⟩⟩
      · have hne : (apC 8 g x.length == 0) = false := by simpa using hap
        go_wp2_with fail
        refine G5.out.2.mono ?_
        rintro e w6 hor
        obtain ⟨rfl, g6⟩ := (hor.resolve_right (fun h => hap h.1)).2
        clear hor
        have hG6 := grown_trans I1.out.fr.at_.grown0 (grown_trans G5.out.1 g6)
        have hkp := kept_any gB cB ao x.length ac x w6 rfl HB.out.1 HB.out.2.1 (At.grown HB.out.2.2.2.2.1 g6) (HA.out.1.grown hG6) (by have := HA.out.2.2.2; omega)
        have ct6 : w6.cell? ⟨b2, o2 + t, none⟩ = some (.slice ao x.length ac) := hG6.cell ct0.out (by simp)
        have K6 := hide g6
        clear g6 hG6
        go_wp2_with fail
        refine hkp.mono ?_
        clear hkp ct6
        rintro e w6b ⟨rfl, g6b⟩
        have hov := over_any gB cB x.length w6b ⟨cur, (Kept.new (grown_trans K6.out g6b) (fun _ => False)).at HB.out.2.2.2.2.2.1 (fun e => e), HB.out.2.2.2.2.2.2⟩ HB.out.1 HB.out.2.1 (by have := HA.out.2.2.2; omega)
        have G6b := hide g6b
        clear g6b
        go_wp2_with fail
        refine hov.mono ?_
        clear hov
        rintro e w6c ⟨rfl, g6c⟩
        have g9 : wr.grownBy w6c none := grown_then (grown_trans G5.out.1 (grown_trans K6.out G6b.out)) g6c (fun j e => by
          have := (Option.some.inj e).symm
          subst this
          exact .inl HB.out.2.2.1)
        have N6 := hide (I1.out.next g9)
        clear g6c g9
        go_wp2
        go_roundg (gk - 1)
        case measure => omega
        case rel => exact ⟨t + 1, by omega, by go_num, hide ⟨_, _, _, N6.out⟩⟩
    · have hend : m ≤ t ∨ (t < m ∧ 200 ≤ t) := by omega
      rcases hend with he | he
      · have ht1 : (m : Int) ≤ (t : Int) := by omega
        clear hG
        go_wp2_with fail
        have hfl := sFlush I1.out.fr (by omega)
        rw [I1.out.l] at hfl
        refine hfl.mono ?_
        clear hfl
        rintro e w8 ⟨rfl, k8, c8, g8, f8, hc8, q8, m8⟩
        have hl8 : g8.l = l := q8.l.trans I1.out.l
        have he8 : g8.e = 5 := q8.e.trans I1.out.e
        have hfew := I1.out.few
        have hb200 : bs.length ≤ 200 := by omega
        have F8 := hide (And.intro f8 (And.intro (I1.out.ins.step I1.out.fr.at_ m8) (And.intro q8.bs I1.out.bod)))
        clear f8 q8 m8 I1 hfew
        generalize splice D (1 * 64 + g.a) g.bs = D8 at *
        have hsc := sScan F8.out.1 (by omega) HT.out.1 5 9 ⟨by decide, by decide⟩
        go_wp2_with fail
        refine hsc.mono ?_
        clear hsc
        rintro e w9 ⟨v9, ys, c9, rfl, hys, hfs9, f9, hc9, m9⟩
        obtain ⟨ao9, cap9, rfl, hr9, hcap9⟩ := hfs9.read
        have hfnd := ep_found F8.out.1 F8.out.2.2.1 he8 F8.out.2.2.2 (by decide) hys
        have F9 := hide (And.intro f9 (And.intro (F8.out.2.1.step F8.out.1.at_ m9) (And.intro hfs9 (And.intro hfnd (And.intro hcap9 (And.intro m9.kept.size hys))))))
        clear hfs9 f9 m9 hr9 hfnd hcap9 hys
        generalize ((Fm.fend (Fm.rowF 5 9 (ints (bytesAt D8 (1 * 64) (8 * 64)))) : Nat) : Int) = fe at *
        have hsc := sScan F9.out.1 (by omega) HT.out.1 5 9 ⟨by decide, by decide⟩
        generalize hLy : ys.length = Ly at *
        have HLy := hide hLy
        clear hLy
        go_wp2_with fail
        refine hsc.mono ?_
        clear hsc
        rintro e w10 ⟨v10, zs, c10, rfl, hzs, hfs10, f10, hc10, m10⟩
        obtain ⟨ao10, cap10, rfl, hr10, hcap10⟩ := hfs10.read
        have hfe : Fm.frs ys = Fm.frs zs := F9.out.2.2.2.2.2.2.trans hzs.symm
        have hlz : zs.length = Ly := by have := congrArg List.length hfe; rw [Fm.frs_length, Fm.frs_length] at this; rw [← HLy.out]; exact this.symm
        have hx10 : Fm.FsAt w10 w8.heap.size (.slice ao9 Ly cap9) ys := F9.out.2.2.1.keptT (Kept.toT m10.kept) (fun i hi => F8.out.1.at_.lt i hi)
        rw [hlz]
        rw [hlz] at hfs10
        have F10 := hide (And.intro f10 (And.intro (F9.out.2.1.step F9.out.1.at_ m10) (And.intro hx10 (And.intro hfs10 (And.intro hfe (And.intro hzs (And.intro (Nat.le_trans F9.out.2.2.2.2.2.1 m10.kept.size) (And.intro m10.kept.size hlz))))))))
        have hc10b : c10 ≤ 70000 := by omega
        clear f10 m10 hx10 hfs10 hfe hzs hr10 hlz
        generalize ((Fm.fend (Fm.rowF 5 9 (ints (bytesAt D8 (1 * 64) (8 * 64)))) : Nat) : Int) = fe10 at *
        have hLb : bs.length ≤ Ly := F9.out.2.2.2.1.1
        have hLm : Ly ≤ 1000 := F9.out.2.2.2.1.2.1
        obtain ⟨hxr, hxc⟩ : Fm.FsR w10 ao9 ys ∧ Ly ≤ cap9 := by
          obtain ⟨ao, cp, e, h1, h2⟩ := F10.out.2.2.1.read
          rw [HLy.out] at e h2
          cases e
          exact ⟨h1, h2⟩
        have HXR := hide (And.intro hxr hxc)
        clear hxr hxc
        have hft := first_any ao9 Ly cap9 ys vo bs.length vcap bs 5 9 w10 (by decide) (by omega) HXR.out.1 (F10.out.2.1.brows F10.out.1.at_.grown0) rfl HLy.out hLb HXR.out.2 (by omega) F9.out.2.2.2.1.2.2.2.2
        go_wp2_with fail
        refine hft.mono ?_
        clear hft
        rintro e w11 ⟨rfl, q11, rfl⟩
        have hzr : Fm.FsR w10 ao10 zs := by
          obtain ⟨ao, cp, e, h1, h2⟩ := F10.out.2.2.2.1.read
          rw [F10.out.2.2.2.2.2.2.2.2] at e
          cases e
          exact h1
        have hsf := Fm.sameFrs ao9 ao10 Ly cap9 cap10 ys zs (w10.drewN q11) F10.out.2.2.2.2.1 HLy.out (HXR.out.1.grown (grown_drewN w10 q11 none)) (hzr.grown (grown_drewN w10 q11 none)) (by omega)
        have G11 := hide (grown_drewN w10 q11 none)
        clear hzr
        generalize w10.drewN q11 = w11 at *
        go_wp2_with fail
        refine hsf.mono ?_
        clear hsf
        rintro e w12 ⟨rfl, g12⟩
        have G12 := hide (grown_trans G11.out g12)
        clear g12 G11
        have ga := World.grownBy_alloc w12 (.cells #[.slice ao9 Ly cap9, .slice ao10 Ly cap10] 54) none
        have g56 := grown_trans G12.out ga
        have hFw : Fm.Af.Fw (w12.alloc (.cells #[.slice ao9 Ly cap9, .slice ao10 Ly cap10] 54)) w8.heap.size 2 (fun j => if j = 0 then .slice ao9 Ly cap9 else .slice ao10 Ly cap10) (fun j => if j = 0 then ys else zs) (fun i => w8.heap.size ≤ i ∧ i < w10.heap.size) :=
          Fm.two_fw (M := w9.heap.size) (F10.out.2.2.1.grown g56) (F10.out.2.2.2.1.grown g56) F9.out.2.2.2.2.2.1 F10.out.2.2.2.2.2.2.2.1 (fun i e => by have h1 := (F9.out.2.2.1.own.lt i e).2; exact h1) (fun y hy => (F9.out.2.2.1.each y hy).1.size) (fun i e => (F10.out.2.2.2.1.own.lt i e).2) (fun y hy => (F10.out.2.2.2.1.each y hy).1.size) (by have := HLy.out; omega) (by have := F10.out.2.2.2.2.2.2.2.2; omega)
        have hcl : ∀ j, j < 2 → (w12.alloc (.cells #[.slice ao9 Ly cap9, .slice ao10 Ly cap10] 54)).cell? ⟨w12.heap.size, j, none⟩ = some ((fun j => if j = 0 then .slice ao9 Ly cap9 else .slice ao10 Ly cap10) j) := fun j hj => by
          have h0 := heap_alloc_new w12 (.cells [Value.slice ao9 Ly cap9, .slice ao10 Ly cap10].toArray 54)
          rcases (show j = 0 ∨ j = 1 by omega) with rfl | rfl
          · exact cell_row h0 0
          · exact cell_row h0 1
        have h8 : w8.heap.size ≤ (w12.alloc (.cells #[.slice ao9 Ly cap9, .slice ao10 Ly cap10] 54)).heap.size := Nat.le_trans F10.out.2.2.2.2.2.2.1 g56.size
        have HAp := hide (Fm.Af.apartFrames_any w8.heap.size 2 w12.heap.size 2 _ _ _ _ hFw hcl (by simp) (by omega) (by omega) h8)
        have G13 := hide g56
        clear ga g56 hFw hcl h8
        go_wp2_with fail
        refine HAp.out.mono ?_
        clear HAp
        rintro e w14 ⟨rfl, gT⟩
        have f14 : FrS w w14 8 b r k8 c10 D8 g8 9 fs := (F10.out.1.then G13.out).over2 (w1 := w8) F8.out.1.at_.lt F8.out.1.at_.rlt F8.out.1.at_.grown0.size (kept_of_T gT) (fun i hi => hi.1)
        have i14 : InS w w14 (.slice vo bs.length vcap) bs := (F10.out.2.1.grown G13.out).off2 (kept_of_T gT) (fun i hi ht => by have := F8.out.2.1.lt i hi; omega)
        have F14 := hide (And.intro f14 (And.intro i14 (And.intro F8.out.2.2.1 F8.out.2.2.2)))
        clear f14 i14 gT G13 G12 F10 F9 HXR HLy hLb F8
        have hsc := sScan F14.out.1 (by omega) HT.out.1 5 9 ⟨by decide, by decide⟩
        go_wp2_with fail
        refine hsc.mono ?_
        clear hsc
        rintro e w15 ⟨v15, us, c15, rfl, hus, hfs15, f15, hc15, m15⟩
        obtain ⟨ao15, cap15, rfl, hr15, hcap15⟩ := hfs15.read
        have hfnd := ep_found F14.out.1 F14.out.2.2.1 he8 F14.out.2.2.2 (by decide) hus
        have F15 := hide (And.intro f15 (And.intro (F14.out.2.1.step F14.out.1.at_ m15) (And.intro hr15 (And.intro hfnd hcap15))))
        clear hfs15 f15 m15 hr15 hfnd hcap15 hus hc15
        generalize ((Fm.fend (Fm.rowF 5 9 (ints (bytesAt D8 (1 * 64) (8 * 64)))) : Nat) : Int) = fe15 at *
        generalize hLu : us.length = Lu at *
        have HLu := hide hLu
        clear hLu
        have hft := first_any ao15 Lu cap15 us vo bs.length vcap bs 5 9 w15 (by decide) (by omega) F15.out.2.2.1 (F15.out.2.1.brows F15.out.1.at_.grown0) rfl HLu.out F15.out.2.2.2.1.1 F15.out.2.2.2.2 (by have := F15.out.2.2.2.1.2.1; omega) F15.out.2.2.2.1.2.2.2.2
        have G15 := hide F15.out.1.at_.grown0
        clear F15
        go_wp2_with fail
        refine hft.mono ?_
        clear hft
        rintro e w16 ⟨rfl, q16, rfl⟩
        have G16 := hide (grown_trans G15.out (grown_drewN w15 q16 none))
        generalize w15.drewN q16 = w16 at *
        go_wp2_with fail
        refine (awake_any w16 (HT.out.1.grown G16.out) (Nat.lt_of_lt_of_le HT.out.2.1 G16.out.size)).mono ?_
        rintro e w17 ⟨rfl, g17⟩
        have G17 := hide (grown_trans G16.out g17)
        clear g17
        go_wp2
        go_ret
        exact ⟨rfl, G17.out⟩
      · have ht1 : (t : Int) < (m : Int) := by omega
        have ht2 : (200 : Int) ≤ (t : Int) := by omega
        clear hG
        go_wp2_with fail
        have hfl := sFlush I1.out.fr (by omega)
        rw [I1.out.l] at hfl
        refine hfl.mono ?_
        clear hfl
        rintro e w8 ⟨rfl, k8, c8, g8, f8, hc8, q8, m8⟩
        have hl8 : g8.l = l := q8.l.trans I1.out.l
        have he8 : g8.e = 5 := q8.e.trans I1.out.e
        have hfew := I1.out.few
        have hb200 : bs.length ≤ 200 := by omega
        have F8 := hide (And.intro f8 (And.intro (I1.out.ins.step I1.out.fr.at_ m8) (And.intro q8.bs I1.out.bod)))
        clear f8 q8 m8 I1 hfew
        generalize splice D (1 * 64 + g.a) g.bs = D8 at *
        have hsc := sScan F8.out.1 (by omega) HT.out.1 5 9 ⟨by decide, by decide⟩
        go_wp2_with fail
        refine hsc.mono ?_
        clear hsc
        rintro e w9 ⟨v9, ys, c9, rfl, hys, hfs9, f9, hc9, m9⟩
        obtain ⟨ao9, cap9, rfl, hr9, hcap9⟩ := hfs9.read
        have hfnd := ep_found F8.out.1 F8.out.2.2.1 he8 F8.out.2.2.2 (by decide) hys
        have F9 := hide (And.intro f9 (And.intro (F8.out.2.1.step F8.out.1.at_ m9) (And.intro hfs9 (And.intro hfnd (And.intro hcap9 (And.intro m9.kept.size hys))))))
        clear hfs9 f9 m9 hr9 hfnd hcap9 hys
        generalize ((Fm.fend (Fm.rowF 5 9 (ints (bytesAt D8 (1 * 64) (8 * 64)))) : Nat) : Int) = fe at *
        have hsc := sScan F9.out.1 (by omega) HT.out.1 5 9 ⟨by decide, by decide⟩
        generalize hLy : ys.length = Ly at *
        have HLy := hide hLy
        clear hLy
        go_wp2_with fail
        refine hsc.mono ?_
        clear hsc
        rintro e w10 ⟨v10, zs, c10, rfl, hzs, hfs10, f10, hc10, m10⟩
        obtain ⟨ao10, cap10, rfl, hr10, hcap10⟩ := hfs10.read
        have hfe : Fm.frs ys = Fm.frs zs := F9.out.2.2.2.2.2.2.trans hzs.symm
        have hlz : zs.length = Ly := by have := congrArg List.length hfe; rw [Fm.frs_length, Fm.frs_length] at this; rw [← HLy.out]; exact this.symm
        have hx10 : Fm.FsAt w10 w8.heap.size (.slice ao9 Ly cap9) ys := F9.out.2.2.1.keptT (Kept.toT m10.kept) (fun i hi => F8.out.1.at_.lt i hi)
        rw [hlz]
        rw [hlz] at hfs10
        have F10 := hide (And.intro f10 (And.intro (F9.out.2.1.step F9.out.1.at_ m10) (And.intro hx10 (And.intro hfs10 (And.intro hfe (And.intro hzs (And.intro (Nat.le_trans F9.out.2.2.2.2.2.1 m10.kept.size) (And.intro m10.kept.size hlz))))))))
        have hc10b : c10 ≤ 70000 := by omega
        clear f10 m10 hx10 hfs10 hfe hzs hr10 hlz
        generalize ((Fm.fend (Fm.rowF 5 9 (ints (bytesAt D8 (1 * 64) (8 * 64)))) : Nat) : Int) = fe10 at *
        have hLb : bs.length ≤ Ly := F9.out.2.2.2.1.1
        have hLm : Ly ≤ 1000 := F9.out.2.2.2.1.2.1
        obtain ⟨hxr, hxc⟩ : Fm.FsR w10 ao9 ys ∧ Ly ≤ cap9 := by
          obtain ⟨ao, cp, e, h1, h2⟩ := F10.out.2.2.1.read
          rw [HLy.out] at e h2
          cases e
          exact ⟨h1, h2⟩
        have HXR := hide (And.intro hxr hxc)
        clear hxr hxc
        have hft := first_any ao9 Ly cap9 ys vo bs.length vcap bs 5 9 w10 (by decide) (by omega) HXR.out.1 (F10.out.2.1.brows F10.out.1.at_.grown0) rfl HLy.out hLb HXR.out.2 (by omega) F9.out.2.2.2.1.2.2.2.2
        go_wp2_with fail
        refine hft.mono ?_
        clear hft
        rintro e w11 ⟨rfl, q11, rfl⟩
        have hzr : Fm.FsR w10 ao10 zs := by
          obtain ⟨ao, cp, e, h1, h2⟩ := F10.out.2.2.2.1.read
          rw [F10.out.2.2.2.2.2.2.2.2] at e
          cases e
          exact h1
        have hsf := Fm.sameFrs ao9 ao10 Ly cap9 cap10 ys zs (w10.drewN q11) F10.out.2.2.2.2.1 HLy.out (HXR.out.1.grown (grown_drewN w10 q11 none)) (hzr.grown (grown_drewN w10 q11 none)) (by omega)
        have G11 := hide (grown_drewN w10 q11 none)
        clear hzr
        generalize w10.drewN q11 = w11 at *
        go_wp2_with fail
        refine hsf.mono ?_
        clear hsf
        rintro e w12 ⟨rfl, g12⟩
        have G12 := hide (grown_trans G11.out g12)
        clear g12 G11
        have ga := World.grownBy_alloc w12 (.cells #[.slice ao9 Ly cap9, .slice ao10 Ly cap10] 54) none
        have g56 := grown_trans G12.out ga
        have hFw : Fm.Af.Fw (w12.alloc (.cells #[.slice ao9 Ly cap9, .slice ao10 Ly cap10] 54)) w8.heap.size 2 (fun j => if j = 0 then .slice ao9 Ly cap9 else .slice ao10 Ly cap10) (fun j => if j = 0 then ys else zs) (fun i => w8.heap.size ≤ i ∧ i < w10.heap.size) :=
          Fm.two_fw (M := w9.heap.size) (F10.out.2.2.1.grown g56) (F10.out.2.2.2.1.grown g56) F9.out.2.2.2.2.2.1 F10.out.2.2.2.2.2.2.2.1 (fun i e => by have h1 := (F9.out.2.2.1.own.lt i e).2; exact h1) (fun y hy => (F9.out.2.2.1.each y hy).1.size) (fun i e => (F10.out.2.2.2.1.own.lt i e).2) (fun y hy => (F10.out.2.2.2.1.each y hy).1.size) (by have := HLy.out; omega) (by have := F10.out.2.2.2.2.2.2.2.2; omega)
        have hcl : ∀ j, j < 2 → (w12.alloc (.cells #[.slice ao9 Ly cap9, .slice ao10 Ly cap10] 54)).cell? ⟨w12.heap.size, j, none⟩ = some ((fun j => if j = 0 then .slice ao9 Ly cap9 else .slice ao10 Ly cap10) j) := fun j hj => by
          have h0 := heap_alloc_new w12 (.cells [Value.slice ao9 Ly cap9, .slice ao10 Ly cap10].toArray 54)
          rcases (show j = 0 ∨ j = 1 by omega) with rfl | rfl
          · exact cell_row h0 0
          · exact cell_row h0 1
        have h8 : w8.heap.size ≤ (w12.alloc (.cells #[.slice ao9 Ly cap9, .slice ao10 Ly cap10] 54)).heap.size := Nat.le_trans F10.out.2.2.2.2.2.2.1 g56.size
        have HAp := hide (Fm.Af.apartFrames_any w8.heap.size 2 w12.heap.size 2 _ _ _ _ hFw hcl (by simp) (by omega) (by omega) h8)
        have G13 := hide g56
        clear ga g56 hFw hcl h8
        go_wp2_with fail
        refine HAp.out.mono ?_
        clear HAp
        rintro e w14 ⟨rfl, gT⟩
        have f14 : FrS w w14 8 b r k8 c10 D8 g8 9 fs := (F10.out.1.then G13.out).over2 (w1 := w8) F8.out.1.at_.lt F8.out.1.at_.rlt F8.out.1.at_.grown0.size (kept_of_T gT) (fun i hi => hi.1)
        have i14 : InS w w14 (.slice vo bs.length vcap) bs := (F10.out.2.1.grown G13.out).off2 (kept_of_T gT) (fun i hi ht => by have := F8.out.2.1.lt i hi; omega)
        have F14 := hide (And.intro f14 (And.intro i14 (And.intro F8.out.2.2.1 F8.out.2.2.2)))
        clear f14 i14 gT G13 G12 F10 F9 HXR HLy hLb F8
        have hsc := sScan F14.out.1 (by omega) HT.out.1 5 9 ⟨by decide, by decide⟩
        go_wp2_with fail
        refine hsc.mono ?_
        clear hsc
        rintro e w15 ⟨v15, us, c15, rfl, hus, hfs15, f15, hc15, m15⟩
        obtain ⟨ao15, cap15, rfl, hr15, hcap15⟩ := hfs15.read
        have hfnd := ep_found F14.out.1 F14.out.2.2.1 he8 F14.out.2.2.2 (by decide) hus
        have F15 := hide (And.intro f15 (And.intro (F14.out.2.1.step F14.out.1.at_ m15) (And.intro hr15 (And.intro hfnd hcap15))))
        clear hfs15 f15 m15 hr15 hfnd hcap15 hus hc15
        generalize ((Fm.fend (Fm.rowF 5 9 (ints (bytesAt D8 (1 * 64) (8 * 64)))) : Nat) : Int) = fe15 at *
        generalize hLu : us.length = Lu at *
        have HLu := hide hLu
        clear hLu
        have hft := first_any ao15 Lu cap15 us vo bs.length vcap bs 5 9 w15 (by decide) (by omega) F15.out.2.2.1 (F15.out.2.1.brows F15.out.1.at_.grown0) rfl HLu.out F15.out.2.2.2.1.1 F15.out.2.2.2.2 (by have := F15.out.2.2.2.1.2.1; omega) F15.out.2.2.2.1.2.2.2.2
        have G15 := hide F15.out.1.at_.grown0
        clear F15
        go_wp2_with fail
        refine hft.mono ?_
        clear hft
        rintro e w16 ⟨rfl, q16, rfl⟩
        have G16 := hide (grown_trans G15.out (grown_drewN w15 q16 none))
        generalize w15.drewN q16 = w16 at *
        go_wp2_with fail
        refine (awake_any w16 (HT.out.1.grown G16.out) (Nat.lt_of_lt_of_le HT.out.2.1 G16.out.size)).mono ?_
        rintro e w17 ⟨rfl, g17⟩
        have G17 := hide (grown_trans G16.out g17)
        clear g17
        go_wp2
        go_ret
        exact ⟨rfl, G17.out⟩
end Go.Proofs.YtofdijaipjkfbaaGreatDoor
