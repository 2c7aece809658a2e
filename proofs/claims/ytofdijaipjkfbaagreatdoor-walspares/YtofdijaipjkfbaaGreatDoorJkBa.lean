/- Texts joined: Ka2, Ka3. -/
import Derived.Test.YtofdijaipjkfbaaGreatDoorJkAz
/- WalKept: what stands at a round. -/
namespace Go.Proofs.YtofdijaipjkfbaaGreatDoor
open Go.RowKit Ap
/-- At a round. -/
structure KpI (w wr : World) (b r l : Nat) (E S : Int) (v : Value) (t u : Nat) (k : Dk) (s : Dv) (D : List Nat) (W : List Wt) (g : Lg) (fs0 fs1 : List Fm.Fr) (bs : List (List Nat)) : Prop where
  st : KpS w wr 8 b r k s D W g S fs0 fs1
  l : g.l = l
  e : g.e = E
  ins : InS w wr v bs
  bod : Bod E S (fs0 ++ fs1) bs
  few : bs.length ≤ t
  cnt : s.cnt ≤ 25 * u
  len : W.length ≤ 11 * u
theorem KpS.away {w0 w w' : World} {N b r : Nat} {k : Dk} {s : Dv} {D : List Nat} {W : List Wt} {g : Lg} {S : Int} {fs0 fs1 : List Fm.Fr} {T : Nat → Prop} (h : KpS w0 w N b r k s D W g S fs0 fs1) (hk : Kept w w' T) (hS : ∀ i, T i → ¬ (foot k W i ∨ i = b ∨ lfoot g i) ∧ w0.heap.size ≤ i ∧ i ≠ r) : KpS w0 w' N b r k s D W g S fs0 fs1 :=
  ⟨h.at_.away hk hS, h.hist, h.dur, h.du, h.byt, h.fit, h.firm⟩
section
variable {w wr w' w6 w7 : World} {b r l : Nat} {E S : Int} {v v6 v7 : Value} {t u : Nat} {k k' : Dk} {s s' : Dv} {D D' : List Nat} {W W' : List Wt} {g g' : Lg} {fs0 fs1 fs0' fs1' : List Fm.Fr} {bs : List (List Nat)} {x : List Nat} {ao : Option Addr} {ac : Nat} {vs : List Value} {ob : Obj} {c : Int}
theorem KpI.then (h : KpI w wr b r l E S v t u k s D W g fs0 fs1 bs) (hg : wr.grownBy w' none) : KpI w w' b r l E S v t u k s D W g fs0 fs1 bs := ⟨h.st.then hg, h.l, h.e, h.ins.grown hg, h.bod, h.few, h.cnt, h.len⟩
theorem KpI.up1 (h : KpI w wr b r l E S v t u k s D W g fs0 fs1 bs) : KpI w wr b r l E S v t (u + 1) k s D W g fs0 fs1 bs := ⟨h.st, h.l, h.e, h.ins, h.bod, h.few, by have := h.cnt; omega, by have := h.len; omega⟩
theorem KpI.up (h : KpI w wr b r l E S v t u k s D W g fs0 fs1 bs) : KpI w wr b r l E S v (t + 1) u k s D W g fs0 fs1 bs := ⟨h.st, h.l, h.e, h.ins, h.bod, by have := h.few; omega, by have := h.cnt; omega, by have := h.len; omega⟩
/-- The numbers. -/
theorem KpI.nums (h : KpI w wr b r l E S v t u k s D W g fs0 fs1 bs) : g.la = S + (bs.length : Int) ∧ g.du = S + (fs0.length : Int) ∧ fs0.length ≤ bs.length := by
  refine ⟨by rw [h.st.hist.la, h.bod.1], h.st.du, ?_⟩
  have := h.bod.1
  rw [List.length_append] at this
  omega
/-- A body more was taken. -/
theorem KpI.more (h : KpI w wr b r l E S v t u k s D W g fs0 fs1 bs) (f6 : KpS w w6 8 b r k s D W (g.more x v6) S fs0 (fs1 ++ [g.fr x])) (h1 : w6.ownsRow w.heap.size 39 1 v bs.length vs) (h2 : ∀ (j : Nat) (y : List Nat), bs[j]? = some y → ∃ ao c, vs[j]? = some (.slice ao y.length c) ∧ At w ao y)
    (o7 : w7.ownsRow w.heap.size 39 1 v7 (bs.length + 1) (vs ++ [.slice ao x.length ac])) (g7 : (w6.alloc ob).grownBy w7 v.ownBlock) (hax : At w ao x) (ht : bs.length + 1 ≤ t + 1) : ∃ fs1', KpI w w7 b r l E S v7 (t + 1) u k s D W (g.more x v6) fs0 fs1' (bs ++ [x]) := by
  have hI : InS w w6 v bs := ⟨vs, h1, h2⟩
  have hk : Kept w6 w7 (fun i => v.ownBlock = some i) := (Kept.new (World.grownBy_alloc w6 ob none) _).trans (Kept.of g7 (fun j e _ => e)) (fun i _ e => e)
  have hla := h.st.hist.la
  refine ⟨fs1 ++ [g.fr x], f6.away hk ?_, h.l, h.e, ?_, ?_, by rw [List.length_append]; simp; omega, by have := h.cnt; omega, by have := h.len; omega⟩
  · intro i hi
    refine ⟨hI.off f6.at_ i hi, owns_low h1 hi, ?_⟩
    rintro rfl
    obtain ⟨cs, hcs⟩ := Fm.own_cells h1 hi
    have := f6.at_.rg.head
    rw [hcs] at this
    simp at this
  · exact InS.push (w := w6) (v := v) hI (fun vs' h' => by
      have : vs' = vs := by
        rcases h'.2 with ⟨e1, e2⟩ | ⟨g1, c1, u1, e1, _, e3, _, _, _, e7⟩
        · have a1 := h'.1; have a2 := h1.1
          rw [e2] at a1 a2
          have b1 : vs' = [] := List.eq_nil_of_length_eq_zero (by simpa using a1)
          have b2 : vs = [] := List.eq_nil_of_length_eq_zero (by simpa using a2)
          rw [b1, b2]
        · rcases h1.2 with ⟨f1, f2⟩ | ⟨g2, c2, u2, f1, _, f3, _, _, _, f7⟩
          · rw [e1] at f1; cases f1
          · rw [e1] at f1
            cases f1
            rw [e3] at f3
            cases f3
            rw [← e7, ← f7]
      rw [this]; exact o7) hax
  · rw [← List.append_assoc]
    refine h.bod.snoc ?_
    show (⟨g.e, g.la + 1, ints x⟩ : Fm.Fr) = _
    rw [h.e, hla, h.bod.1]
/-- Flushed. -/
theorem KpI.flush (h : KpI w wr b r l E S v t u k s D W g fs0 fs1 bs) (p : KfP w wr w' 8 b r k W g s S (fs0 ++ fs1) c k' s' D' W' g' fs0' fs1') : KpI w w' b r l E S v t (u + 1) k' s' D' W' g' fs0' fs1' bs :=
  ⟨p.st, p.gl.trans h.l, p.ge.trans h.e, h.ins.step h.st.at_ p.mov, by rw [p.fs]; exact h.bod, by have := h.few; omega, by have := h.cnt; have := p.cnt; omega, by have := h.len; have := p.len; omega⟩
theorem BRows.take {bo : Option Addr} (h : BRows w bo bs) (d : Nat) : BRows w bo (bs.take d) := by
  intro j x hx
  rw [List.getElem?_take] at hx
  split at hx
  · exact h j x hx
  · cases hx
/-- All that is found behind a last flush. -/
theorem ka_all {c : Nat} {fs : List Fm.Fr} {ys : List Fm.El} (h : FrS w wr 8 b r k c D g S fs) (hb : g.bs = []) (he : g.e = E) (hB : Bod E S fs bs) (hy : Fm.frs ys = Fm.rowF E S (ints (bytesAt D (1 * 64) (8 * 64)))) :
    bs.length ≤ ys.length ∧ ys.length ≤ 1000 ∧ (g.end_ : Int) ≤ ((Fm.fend (Fm.rowF E S (ints (bytesAt D (1 * 64) (8 * 64)))) : Nat) : Int) ∧ ∀ (j : Nat) (x : List Nat), bs[j]? = some x → ∃ y : Fm.El, ys[j]? = some y ∧ y.f = ⟨E, S + (j : Int) + 1, ints x⟩ := by
  have hX := bytes_bytesAt h.byt (1 * 64) (8 * 64)
  have hd : (bytesAt D (1 * 64) (8 * 64)).take g.a = Fm.nats (Fm.outs fs) := by have := h.hist.bytes; rw [hb, List.append_nil] at this; exact this
  have hh := h.hist
  rw [← List.append_nil fs] at hh
  have hB' : Bod E S (fs ++ []) bs := by rw [List.append_nil]; exact hB
  obtain ⟨h1, h2, h3, h4⟩ := ka_found hh hd he hX (by rw [h.xlen]; omega) hB' hy
  refine ⟨by rw [← hB.1]; exact h1, h2, ?_, ?_⟩
  · have := h.hist.end_
    rw [this]
    omega
  · intro j x hx
    refine h4 j x ?_
    rw [List.take_of_length_le (by rw [hB.1]; omega)]
    exact hx
end
end Go.Proofs.YtofdijaipjkfbaaGreatDoor
/- WalKept: the walk. -/
namespace Go.Proofs.YtofdijaipjkfbaaGreatDoor
open Go.RowKit Ap
attribute [local go_sem ↓] Go.wp_at_zero Go.wp_at_succ
theorem InS.fits {w0 w : World} {vo : Option Addr} {n cap : Nat} {bs : List (List Nat)} (h : InS w0 w (.slice vo n cap) bs) : bs.length ≤ cap := by
  obtain ⟨vs, h1, _⟩ := h
  rcases h1.2 with ⟨e, h0⟩ | ⟨gb, cap', cur, e, hb, hgb, hn, hm, hs, ht⟩
  · cases e; omega
  · cases e; omega
set_option maxRecDepth 100000 in
set_option maxHeartbeats 16000000 in
theorem walKept_any (w : World) (hT : Fm.Cr.Tab w) (hw0 : 0 < w.heap.size) (E S0 : Int) (hE : U64 E) (hS0 : U64 S0) (lo : Option Addr) (m cap : Nat) (LL : List (List Nat)) (hm : LL.length = m) (hat : BRow w lo LL) (bo : Option Addr) (mf bc : Nat) (FL : List Bool) (hmf : FL.length = mf) (hbo : BoRow w bo FL) (arm : Int) (harm : arm ≤ 9223372036854775807) (fo : Option Addr) (mF fc : Nat) (F : List (Int × Int)) (hmF : F.length = mF) (hF : FIn w fo fc F) :
    Calls Tryz.prog 4 #[.int .u64 E, .int .u64 S0, .slice lo m cap, .slice bo mf bc, .int .i64 arm, .slice fo mF fc] w fun e w' => e = .returned (.bool true) ∧ w.grownBy w' none := by
  have HT := hide (And.intro hT (And.intro hw0 (And.intro hm (And.intro hat (And.intro hE (And.intro hmf (And.intro hbo (And.intro (And.intro hmF hF) hS0))))))))
  clear hT hw0 hat hm hE hmf hbo hmF hF
  obtain ⟨S, hSd⟩ : ∃ S, S = S0.tmod 1099511627776 := ⟨_, rfl⟩
  have HSS : Hid (0 ≤ S ∧ S < 1099511627776) := by
    have h1 : S0.tmod 1099511627776 = S0 % 1099511627776 := Int.tmod_eq_emod_of_nonneg hS0.1
    rw [hSd, h1]
    exact ⟨by omega, by omega⟩
  clear hS0
  go_enter Tryz.func4, Tryz.ntmps4
  go_wp2_with fail
  refine (place_any w w 7 (grown_refl _ _)).mono ?_
  rintro e w1 ⟨p, r, qr, rfl, p1⟩
  rw [pN7] at p1
  have P1 := hide p1
  clear p1
  have HSd := hide hSd
  clear hSd
  go_wp2_with fail
  rw [← HSd.out]
  clear HSd
  refine (sNew P1.out (Nat.le_refl _) (by omega) (by omega) E S HT.out.2.2.2.2.1 ⟨HSS.out.1, by have := HSS.out.2; omega⟩).mono ?_
  rintro e w2 ⟨l, rfl, h2, g2⟩
  have K2 := hide (KpS.of h2)
  have hl2 : (Lg.new l E S).l = l := rfl
  have he2 : (Lg.new l E S).e = E := rfl
  generalize Lg.new l E S = g0 at *
  clear h2 g2 P1
  generalize p.b = b at *
  generalize p.k = k0 at *
  generalize zs ((8 + 1) * 64) = D0 at *
  go_wp2_with fail
  refine (arm_any K2.out.at_.dev.dev arm harm).mono ?_
  rintro e w3 ⟨rfl, d3, g3⟩
  have I3 : Hid (KpI w w3 b r l E S (.slice none 0 0) 0 0 k0 ((frD 0).armed arm) D0 [] g0 [] [] []) := ⟨K2.out.dset g3 d3, hl2, he2, InS.nil _ _, Bod.nil _ _, Nat.le_refl _, by unfold Dv.armed; split <;> exact Nat.le_refl _, Nat.le_refl _⟩
  clear K2 d3 g3 hl2 he2
  generalize (frD 0).armed arm = s0 at *
  generalize (frD 0).upc = uc at *
  go_wp2
  go_loopg [19, 20] (min m 200) (fun q v i wr => ∃ t : Nat, q + t = min m 200 ∧ i = .int .i64 t ∧ Hid (∃ k s D W g fs0 fs1 bs, KpI w wr b r l E S v t t k s D W g fs0 fs1 bs))
  case atStart => exact ⟨0, by omega, rfl, hide ⟨_, _, _, _, _, _, _, _, I3.out⟩⟩
  case round =>
    clear I3
    obtain ⟨t, hkt, rfl, HQ⟩ := hrel
    obtain ⟨k, s, D, W, g, fs0, fs1, bs, hi⟩ := HQ.out
    obtain ⟨vo, vcap, rfl⟩ := hi.ins.form
    have hG := hi.st.at_.grown0
    have I1 := hide hi
    clear hi HQ
    by_cases hk2 : 0 < gk
    · have ht : t < m ∧ t < 200 := by omega
      obtain ⟨x, hx⟩ : ∃ x, LL[t]? = some x := ⟨_, List.getElem?_eq_getElem (by have := HT.out.2.2.1; omega)⟩
      obtain ⟨b2, o2, ao, ac, hco, hce, hax, hnil, hxn, hxb, hxc⟩ := HT.out.2.2.2.1 t x hx
      subst hco
      have ct0 := hide hce
      have ct : wr.cell? ⟨b2, o2 + t, none⟩ = some (.slice ao x.length ac) := hG.cell hce (by simp)
      have HA := hide (And.intro hax (And.intro hnil (And.intro hxb hxc)))
      have ht0 : (0 : Int) ≤ (t : Int) := by omega
      have ht1 : (t : Int) < (m : Int) := by omega
      have ht2 : (t : Int) < 200 := by omega
      clear hax hnil hxb hxc hx hce
      have hcp := copyBytes_any ao x.length ac x wr rfl (HA.out.1.grown hG) HA.out.2.1 (by omega)
      clear hG
      go_wp2_with fail
      refine hcp.mono ?_
      clear hcp
      rintro e w5 ⟨v5, rfl, h5, g5⟩
      obtain ⟨c1o, c1c, rfl, -, hc5, hm5, hat5, -, -⟩ := own_at h5
      have ha := kAppend (I1.out.st.then g5) HT.out.1 HT.out.2.1 c1o x.length c1c x rfl hat5 HA.out.2.2.1 hc5 hm5
      rw [I1.out.l] at ha
      have G5 := hide (And.intro g5 ha)
      clear h5 hc5 hm5 hat5 g5 ha
      by_cases hap : apC 8 g x.length = 0
      · go_wp2_with fail
        refine G5.out.2.mono ?_
        rintro e w6 hor
        obtain ⟨rfl, v6, f6, m6⟩ := (hor.resolve_left (fun h => h.1 hap)).2
        clear hor
        have hi6 := (I1.out.ins.grown G5.out.1).step (I1.out.st.then G5.out.1).at_ (LgM.lw m6)
        obtain ⟨vs, hvs, hvb⟩ := hi6
        have hfew := I1.out.few
        have hG6 := f6.at_.grown0
        obtain ⟨i0, hi0, hz0, hz1, hz2⟩ := info_parts Tryz.info39
        have HI0 := hide (And.intro hi0 (And.intro hz0 (And.intro hz1 hz2)))
        have HVS := hide hvs
        have HS6 := hide hG6.size
        have HF6 := hide (And.intro f6 hvb)
        have ct6 : w6.cell? ⟨b2, o2 + t, none⟩ = some (.slice ao x.length ac) := hG6.cell ct0.out (by simp)
        obtain ⟨NM, hNM⟩ : ∃ NM : Int, NM = g.la + 1 := ⟨_, rfl⟩
        rw [← hNM]
        have hw3 : IntKind.u64.wrap ((bs.length + 1 : Nat) : Int) = ((bs.length + 1 : Nat) : Int) := by rw [IntKind.wrap_u64]; omega
        have hw4 : IntKind.u64.wrap (S + ((bs.length + 1 : Nat) : Int)) = NM := by rw [IntKind.wrap_u64]; have := HSS.out; have := I1.out.nums.1; omega
        have HW34 := hide (And.intro hw3 hw4)
        clear hvs hvb f6 m6 hG6 ct hi0 hz0 hz1 hz2 hNM hw3 hw4
        have hb200 : bs.length ≤ 200 := by omega
        have HB := hide hfew
        clear hfew
        go_wp2_with (at_builtin; refine wpList_append_own _ rfl (.tmp 82) (.tmp 87) 51 rfl w.heap.size 39 i0 (.slice none 0 0) 1 24 Tryz.underlying51 HI0.out.1 HI0.out.2.1 HI0.out.2.2.1 HI0.out.2.2.2 rfl (by decide) (.slice vo bs.length vcap) bs.length vs rfl (HVS.out.alloc _) ⟨w6.heap.size, 0, none⟩ 1 1 [.slice ao x.length ac] rfl rfl cell_1 (fun y hy => by simp at hy; subst hy; rfl) (by unfold maxLen; omega) (by omega) (Nat.le_trans HS6.out (World.grownBy_alloc w6 _ none).size) ?_)
        intro v7 w7 ho7 hg7 hv7
        clear hv7
        obtain ⟨fs7, hN7⟩ := I1.out.more HF6.out.1 HVS.out HF6.out.2 ho7 hg7 HA.out.1 (by have := HB.out; omega)
        have N7 := hide hN7
        obtain ⟨vo7, vc7, rfl, -⟩ := own_form ho7
        clear ho7 hg7 ct6 hN7
        have hw3 := HW34.out.1
        have hw4 := HW34.out.2
        generalize bs.length + 1 = B1 at *
        by_cases hfl : t < mf
        · obtain ⟨u, hu⟩ : ∃ u, FL[t]? = some u := ⟨_, List.getElem?_eq_getElem (by have := HT.out.2.2.2.2.2.1; omega)⟩
          obtain ⟨fa, hfa, hfc⟩ := HT.out.2.2.2.2.2.2.1 t u hu
          subst hfa
          have hfc2 := N7.out.st.at_.grown0.cell hfc (by simp)
          have hf1 : (t : Int) < (mf : Int) := by omega
          clear hfc hu
          cases u
          · go_wp2_with fail
            clear hfc2
            go_wp2
            go_roundg (gk - 1)
            case measure => omega
            case rel => exact ⟨t + 1, by omega, by go_num, hide ⟨_, _, _, _, _, _, _, _, N7.out.up1⟩⟩
          · go_wp2_with fail
            clear hfc2
            have hfx := kFlush N7.out.st (by omega) (by have := N7.out.len; omega) (by have := N7.out.cnt; omega)
            rw [N7.out.l] at hfx
            refine hfx.mono ?_
            clear hfx
            rintro e w8 ⟨c8, k8, s8, D8, W8, g8, fs8, fs9, rfl, p8⟩
            have I8 := hide (N7.out.flush p8)
            have hcode := p8.code
            have hla8 := lLast_at p8.st.at_
            have hdu8 := lDurable_at p8.st.at_
            rw [p8.gl.trans N7.out.l] at hla8 hdu8
            clear p8
            generalize g8.la = LA at *
            generalize g8.du = DU at *
            rcases hcode with ⟨rfl, rfl⟩ | ⟨rfl, hne⟩
            · go_wp2_with fail
              refine hdu8.mono ?_
              clear hdu8
              rintro e wx ⟨rfl, hwx⟩
              obtain rfl := hwx.symm
              go_wp2_with fail
              refine hla8.mono ?_
              clear hla8
              rintro e wx ⟨rfl, hwx⟩
              obtain rfl := hwx.symm
              go_wp2
              go_roundg (gk - 1)
              case measure => omega
              case rel => exact ⟨t + 1, by omega, by go_num, hide ⟨_, _, _, _, _, _, _, _, I8.out⟩⟩
            · have hne2 : (DU == LA) = false := by simpa using hne
              go_wp2_with fail
              refine hdu8.mono ?_
              clear hdu8
              rintro e wx ⟨rfl, hwx⟩
              obtain rfl := hwx.symm
              go_wp2_with fail
              refine hla8.mono ?_
              clear hla8
              rintro e wx ⟨rfl, hwx⟩
              obtain rfl := hwx.symm
              go_wp2
              go_roundg (gk - 1)
              case measure => omega
              case rel => exact ⟨t + 1, by omega, by go_num, hide ⟨_, _, _, _, _, _, _, _, I8.out⟩⟩
        · have hf1 : (mf : Int) ≤ (t : Int) := by omega
          go_wp2
          go_roundg (gk - 1)
          case measure => omega
          case rel => exact ⟨t + 1, by omega, by go_num, hide ⟨_, _, _, _, _, _, _, _, N7.out.up1⟩⟩
      · have hne : (apC 8 g x.length == 0) = false := by simpa using hap
        go_wp2_with fail
        refine G5.out.2.mono ?_
        rintro e w6 hor
        obtain ⟨rfl, g6⟩ := (hor.resolve_right (fun h => hap h.1)).2
        clear hor
        have N7 := hide (I1.out.then (grown_trans G5.out.1 g6)).up
        clear g6 ct
        by_cases hfl : t < mf
        · obtain ⟨u, hu⟩ : ∃ u, FL[t]? = some u := ⟨_, List.getElem?_eq_getElem (by have := HT.out.2.2.2.2.2.1; omega)⟩
          obtain ⟨fa, hfa, hfc⟩ := HT.out.2.2.2.2.2.2.1 t u hu
          subst hfa
          have hfc2 := N7.out.st.at_.grown0.cell hfc (by simp)
          have hf1 : (t : Int) < (mf : Int) := by omega
          clear hfc hu
          cases u
          · go_wp2_with fail
            clear hfc2
            go_wp2
            go_roundg (gk - 1)
            case measure => omega
            case rel => exact ⟨t + 1, by omega, by go_num, hide ⟨_, _, _, _, _, _, _, _, N7.out.up1⟩⟩
          · go_wp2_with fail
            clear hfc2
            have hfx := kFlush N7.out.st (by omega) (by have := N7.out.len; omega) (by have := N7.out.cnt; omega)
            rw [N7.out.l] at hfx
            refine hfx.mono ?_
            clear hfx
            rintro e w8 ⟨c8, k8, s8, D8, W8, g8, fs8, fs9, rfl, p8⟩
            have I8 := hide (N7.out.flush p8)
            have hcode := p8.code
            have hla8 := lLast_at p8.st.at_
            have hdu8 := lDurable_at p8.st.at_
            rw [p8.gl.trans N7.out.l] at hla8 hdu8
            clear p8
            generalize g8.la = LA at *
            generalize g8.du = DU at *
            rcases hcode with ⟨rfl, rfl⟩ | ⟨rfl, hne⟩
            · go_wp2_with fail
              refine hdu8.mono ?_
              clear hdu8
              rintro e wx ⟨rfl, hwx⟩
              obtain rfl := hwx.symm
              go_wp2_with fail
              refine hla8.mono ?_
              clear hla8
              rintro e wx ⟨rfl, hwx⟩
              obtain rfl := hwx.symm
              go_wp2
              go_roundg (gk - 1)
              case measure => omega
              case rel => exact ⟨t + 1, by omega, by go_num, hide ⟨_, _, _, _, _, _, _, _, I8.out⟩⟩
            · have hne2 : (DU == LA) = false := by simpa using hne
              go_wp2_with fail
              refine hdu8.mono ?_
              clear hdu8
              rintro e wx ⟨rfl, hwx⟩
              obtain rfl := hwx.symm
              go_wp2_with fail
              refine hla8.mono ?_
              clear hla8
              rintro e wx ⟨rfl, hwx⟩
              obtain rfl := hwx.symm
              go_wp2
              go_roundg (gk - 1)
              case measure => omega
              case rel => exact ⟨t + 1, by omega, by go_num, hide ⟨_, _, _, _, _, _, _, _, I8.out⟩⟩
        · have hf1 : (mf : Int) ≤ (t : Int) := by omega
          go_wp2
          go_roundg (gk - 1)
          case measure => omega
          case rel => exact ⟨t + 1, by omega, by go_num, hide ⟨_, _, _, _, _, _, _, _, N7.out.up1⟩⟩
    · have hend : m ≤ t ∨ (t < m ∧ 200 ≤ t) := by omega
      rcases hend with he | he
      · have ht1 : (m : Int) ≤ (t : Int) := by omega
        clear hG
        go_wp2_with fail
        have hdu := lDurable_at I1.out.st.at_
        have hnm := I1.out.nums
        rw [I1.out.l, hnm.2.1] at hdu
        have hfew := I1.out.few
        have HN := hide hnm
        obtain ⟨d, hd⟩ : ∃ d, d = fs0.length := ⟨_, rfl⟩
        rw [← hd] at hdu
        have hdl : d ≤ bs.length := by have := hnm.2.2; omega
        have hb2 : bs.length ≤ 200 := by omega
        have HD := hide hd
        clear hnm hd
        refine hdu.mono ?_
        clear hdu
        rintro e wx ⟨rfl, hwx⟩
        obtain rfl := hwx.symm
        have hS := HT.out.2.2.2.2.2.2.2.2
        have hS0 : 0 ≤ S := HSS.out.1
        have hS1 : S < 1099511627776 := HSS.out.2
        have hv1 : IntKind.u64.wrap (S + (d : Int) - S) = (d : Int) := by rw [IntKind.wrap_u64]; omega
        have hv2 : IntKind.i64.wrap (d : Int) = (d : Int) := by rw [IntKind.wrap_i64]; omega
        go_wp2_with fail
        have hcf := copyFates_any fo fc F wr ⟨HT.out.2.2.2.2.2.2.2.1.2.at_.grown I1.out.st.at_.grown0, HT.out.2.2.2.2.2.2.2.1.2.nil, HT.out.2.2.2.2.2.2.2.1.2.size, fun a e hl => Nat.lt_of_lt_of_le (HT.out.2.2.2.2.2.2.2.1.2.lt a e hl) I1.out.st.at_.grown0.size⟩
        rw [HT.out.2.2.2.2.2.2.2.1.1] at hcf
        refine hcf.mono ?_
        clear hcf
        rintro e w3 ⟨fo3, cap3, rfl, f3, l3, g3⟩
        have I3 := hide (I1.out.then g3)
        have hrs := kRestart I3.out.st fo3 mF cap3 F HT.out.2.2.2.2.2.2.2.1.1 f3 (fun a e hl => ⟨fun e2 => by have h5 := l3 a e (by have := HT.out.2.2.2.2.2.2.2.1.1; omega); have h6 := row_lt I1.out.st.at_.dev.disk.disk.dur; rw [e2] at h5; omega, fun e2 => by have h5 := l3 a e (by have := HT.out.2.2.2.2.2.2.2.1.1; omega); have h6 := row_lt I1.out.st.at_.dev.dev.head; rw [e2] at h5; omega⟩)
        clear f3 l3 g3 I1
        go_wp2_with fail
        refine hrs.mono ?_
        clear hrs
        rintro e w4 ⟨rfl, D4, f4, q4, m4⟩
        have F4 := hide (And.intro f4 (And.intro q4 (And.intro (I3.out.ins.step I3.out.st.at_ m4) (And.intro I3.out.l (And.intro I3.out.e I3.out.bod)))))
        clear f4 q4 m4 I3
        have hsc := sScan F4.out.1 (by omega) HT.out.1 E S ⟨hS0, by omega⟩
        go_wp2_with fail
        refine hsc.mono ?_
        clear hsc
        rintro e w5 ⟨v5, ys, c5, rfl, hys, hfs5, f5, hc5, m5⟩
        obtain ⟨ao5, cap5, rfl, hr5, hcap5⟩ := hfs5.read
        have hfnd := ka_found F4.out.1.hist F4.out.2.1 F4.out.2.2.2.2.1 (bytes_bytesAt F4.out.1.byt _ _) (by rw [F4.out.1.xlen]; omega) F4.out.2.2.2.2.2 hys
        rw [← HD.out] at hfnd
        have F5 := hide (And.intro f5 (And.intro (F4.out.2.2.1.step F4.out.1.at_ m5) (And.intro hr5 (And.intro hfnd (And.intro hcap5 hc5)))))
        clear hys hfs5 f5 m5 hr5 hfnd hcap5 hc5
        generalize ((Fm.fend (Fm.rowF E S (ints (bytesAt D4 (1 * 64) (8 * 64)))) : Nat) : Int) = fe at *
        generalize hLy : ys.length = Ly at *
        have HLy := hide hLy
        clear hLy
        have hft := first_any ao5 Ly cap5 ys vo d vcap (bs.take d) E S w5 hS0 (by omega) F5.out.2.2.1 ((F5.out.2.1.brows F5.out.1.at_.grown0).take d) (by rw [List.length_take]; omega) HLy.out F5.out.2.2.2.1.1 F5.out.2.2.2.2.1 (by have := F5.out.2.2.2.1.2.1; omega) F5.out.2.2.2.1.2.2.2
        have hgt : decide ((bs.length : Int) < (d : Int)) = false := decide_eq_false (by omega)
        have hbc : bs.length ≤ vcap := F5.out.2.1.fits
        have hd1 : (0 : Int) ≤ (d : Int) := by omega
        have hd2 : (d : Int) ≤ (bs.length : Int) := by omega
        have hd3 : d ≤ vcap := by omega
        have hd4 : (d : Int) ≤ (vcap : Int) := by omega
        go_wp2_with fail
        refine hft.mono ?_
        clear hft
        rintro e w6 ⟨rfl, q6, rfl⟩
        have F6 := hide (And.intro (F5.out.1.then (grown_drewN w5 q6 none)) (F5.out.2.1.grown (grown_drewN w5 q6 none)))
        have hc6 := F5.out.2.2.2.2.2
        clear F5 hgt
        generalize w5.drewN q6 = w6 at *
        have hfl := sFlush F6.out.1 (by omega)
        rw [F4.out.2.2.2.1] at hfl
        go_wp2_with fail
        refine hfl.mono ?_
        clear hfl
        rintro e w8 ⟨rfl, k8, c8, g8, f8, hc8, q8, m8⟩
        have hl8 : g8.l = l := q8.l.trans F4.out.2.2.2.1
        have he8 : g8.e = E := q8.e.trans F4.out.2.2.2.2.1
        have hdu8 : g8.du = S + (bs.length : Int) := q8.du.trans HN.out.1
        have F8 := hide (And.intro f8 (And.intro (F6.out.2.step F6.out.1.at_ m8) q8.bs))
        have hc88 : c8 ≤ 1000 := by omega
        clear f8 hc8 q8 m8 F6
        generalize splice D4 (1 * 64 + g.a) g.bs = D8 at *
        have hsc := sScan F8.out.1 (by omega) HT.out.1 E S ⟨hS0, by omega⟩
        go_wp2_with fail
        refine hsc.mono ?_
        clear hsc
        rintro e w9 ⟨v9, zs, c9, rfl, hzs, hfs9, f9, hc9, m9⟩
        obtain ⟨ao9, cap9, rfl, hr9, hcap9⟩ := hfs9.read
        have hfnd := ka_all F8.out.1 F8.out.2.2 he8 F4.out.2.2.2.2.2 hzs
        have hen := hfnd.2.2.1
        have F9 := hide (And.intro f9 (And.intro (F8.out.2.1.step F8.out.1.at_ m9) (And.intro hr9 (And.intro hfnd hcap9))))
        clear hzs hfs9 f9 m9 hr9 hfnd hcap9 F8 hc9
        generalize ((Fm.fend (Fm.rowF E S (ints (bytesAt D8 (1 * 64) (8 * 64)))) : Nat) : Int) = fe9 at *
        generalize hLz : zs.length = Lz at *
        have HLz := hide hLz
        clear hLz
        have hdd := lDurable_at F9.out.1.at_
        rw [hl8, hdu8] at hdd
        have hv3 : IntKind.u64.wrap (bs.length : Int) = (bs.length : Int) := by rw [IntKind.wrap_u64]; omega
        have hv4 : IntKind.u64.wrap (S + (bs.length : Int)) = S + (bs.length : Int) := by rw [IntKind.wrap_u64]; omega
        have hus := fun q => lUsed_at (F9.out.1.at_.drew q)
        have hus := lUsed_at F9.out.1.at_
        rw [hl8] at hus
        have HE8 := hide hen
        clear hen
        generalize (g8.end_ : Int) = en at *
        have hge : decide (en ≤ fe9) = true := decide_eq_true HE8.out
        have hge2 : en ≤ fe9 := HE8.out
        go_wp2_with fail
        refine hdd.mono ?_
        clear hdd
        rintro e wx ⟨rfl, hwx⟩
        obtain rfl := hwx.symm
        go_wp2_with fail
        refine hus.mono ?_
        clear hus
        rintro e w10 ⟨rfl, q10, rfl⟩
        have hft := first_any ao9 Lz cap9 zs vo bs.length vcap bs E S (w9.drewN q10) hS0 (by omega) (F9.out.2.2.1.grown (grown_drewN w9 q10 none)) ((F9.out.2.1.grown (grown_drewN w9 q10 none)).brows (grown_trans F9.out.1.at_.grown0 (grown_drewN w9 q10 none))) rfl HLz.out F9.out.2.2.2.1.1 F9.out.2.2.2.2 (by have := F9.out.2.2.2.1.2.1; omega) F9.out.2.2.2.1.2.2.2
        have G10 := hide (grown_trans F9.out.1.at_.grown0 (grown_drewN w9 q10 none))
        clear F9
        generalize w9.drewN q10 = w10 at *
        go_wp2_with fail
        refine hft.mono ?_
        clear hft
        rintro e w11 ⟨rfl, q11, rfl⟩
        have G11 := hide (grown_trans G10.out (grown_drewN w10 q11 none))
        generalize w10.drewN q11 = w11 at *
        go_wp2_with fail
        refine (awake_any w11 (HT.out.1.grown G11.out) (Nat.lt_of_lt_of_le HT.out.2.1 G11.out.size)).mono ?_
        rintro e w12 ⟨rfl, g12⟩
        have G12 := hide (grown_trans G11.out g12)
        clear g12
        go_wp2
        go_ret
        exact ⟨rfl, G12.out⟩
      · have ht1 : (t : Int) < (m : Int) := by omega
        have ht2 : (200 : Int) ≤ (t : Int) := by omega
        clear hG
        go_wp2_with fail
        have hdu := lDurable_at I1.out.st.at_
        have hnm := I1.out.nums
        rw [I1.out.l, hnm.2.1] at hdu
        have hfew := I1.out.few
        have HN := hide hnm
        obtain ⟨d, hd⟩ : ∃ d, d = fs0.length := ⟨_, rfl⟩
        rw [← hd] at hdu
        have hdl : d ≤ bs.length := by have := hnm.2.2; omega
        have hb2 : bs.length ≤ 200 := by omega
        have HD := hide hd
        clear hnm hd
        refine hdu.mono ?_
        clear hdu
        rintro e wx ⟨rfl, hwx⟩
        obtain rfl := hwx.symm
        have hS := HT.out.2.2.2.2.2.2.2.2
        have hS0 : 0 ≤ S := HSS.out.1
        have hS1 : S < 1099511627776 := HSS.out.2
        have hv1 : IntKind.u64.wrap (S + (d : Int) - S) = (d : Int) := by rw [IntKind.wrap_u64]; omega
        have hv2 : IntKind.i64.wrap (d : Int) = (d : Int) := by rw [IntKind.wrap_i64]; omega
        go_wp2_with fail
        have hcf := copyFates_any fo fc F wr ⟨HT.out.2.2.2.2.2.2.2.1.2.at_.grown I1.out.st.at_.grown0, HT.out.2.2.2.2.2.2.2.1.2.nil, HT.out.2.2.2.2.2.2.2.1.2.size, fun a e hl => Nat.lt_of_lt_of_le (HT.out.2.2.2.2.2.2.2.1.2.lt a e hl) I1.out.st.at_.grown0.size⟩
        rw [HT.out.2.2.2.2.2.2.2.1.1] at hcf
        refine hcf.mono ?_
        clear hcf
        rintro e w3 ⟨fo3, cap3, rfl, f3, l3, g3⟩
        have I3 := hide (I1.out.then g3)
        have hrs := kRestart I3.out.st fo3 mF cap3 F HT.out.2.2.2.2.2.2.2.1.1 f3 (fun a e hl => ⟨fun e2 => by have h5 := l3 a e (by have := HT.out.2.2.2.2.2.2.2.1.1; omega); have h6 := row_lt I1.out.st.at_.dev.disk.disk.dur; rw [e2] at h5; omega, fun e2 => by have h5 := l3 a e (by have := HT.out.2.2.2.2.2.2.2.1.1; omega); have h6 := row_lt I1.out.st.at_.dev.dev.head; rw [e2] at h5; omega⟩)
        clear f3 l3 g3 I1
        go_wp2_with fail
        refine hrs.mono ?_
        clear hrs
        rintro e w4 ⟨rfl, D4, f4, q4, m4⟩
        have F4 := hide (And.intro f4 (And.intro q4 (And.intro (I3.out.ins.step I3.out.st.at_ m4) (And.intro I3.out.l (And.intro I3.out.e I3.out.bod)))))
        clear f4 q4 m4 I3
        have hsc := sScan F4.out.1 (by omega) HT.out.1 E S ⟨hS0, by omega⟩
        go_wp2_with fail
        refine hsc.mono ?_
        clear hsc
        rintro e w5 ⟨v5, ys, c5, rfl, hys, hfs5, f5, hc5, m5⟩
        obtain ⟨ao5, cap5, rfl, hr5, hcap5⟩ := hfs5.read
        have hfnd := ka_found F4.out.1.hist F4.out.2.1 F4.out.2.2.2.2.1 (bytes_bytesAt F4.out.1.byt _ _) (by rw [F4.out.1.xlen]; omega) F4.out.2.2.2.2.2 hys
        rw [← HD.out] at hfnd
        have F5 := hide (And.intro f5 (And.intro (F4.out.2.2.1.step F4.out.1.at_ m5) (And.intro hr5 (And.intro hfnd (And.intro hcap5 hc5)))))
        clear hys hfs5 f5 m5 hr5 hfnd hcap5 hc5
        generalize ((Fm.fend (Fm.rowF E S (ints (bytesAt D4 (1 * 64) (8 * 64)))) : Nat) : Int) = fe at *
        generalize hLy : ys.length = Ly at *
        have HLy := hide hLy
        clear hLy
        have hft := first_any ao5 Ly cap5 ys vo d vcap (bs.take d) E S w5 hS0 (by omega) F5.out.2.2.1 ((F5.out.2.1.brows F5.out.1.at_.grown0).take d) (by rw [List.length_take]; omega) HLy.out F5.out.2.2.2.1.1 F5.out.2.2.2.2.1 (by have := F5.out.2.2.2.1.2.1; omega) F5.out.2.2.2.1.2.2.2
        have hgt : decide ((bs.length : Int) < (d : Int)) = false := decide_eq_false (by omega)
        have hbc : bs.length ≤ vcap := F5.out.2.1.fits
        have hd1 : (0 : Int) ≤ (d : Int) := by omega
        have hd2 : (d : Int) ≤ (bs.length : Int) := by omega
        have hd3 : d ≤ vcap := by omega
        have hd4 : (d : Int) ≤ (vcap : Int) := by omega
        go_wp2_with fail
        refine hft.mono ?_
        clear hft
        rintro e w6 ⟨rfl, q6, rfl⟩
        have F6 := hide (And.intro (F5.out.1.then (grown_drewN w5 q6 none)) (F5.out.2.1.grown (grown_drewN w5 q6 none)))
        have hc6 := F5.out.2.2.2.2.2
        clear F5 hgt
        generalize w5.drewN q6 = w6 at *
        have hfl := sFlush F6.out.1 (by omega)
        rw [F4.out.2.2.2.1] at hfl
        go_wp2_with fail
        refine hfl.mono ?_
        clear hfl
        rintro e w8 ⟨rfl, k8, c8, g8, f8, hc8, q8, m8⟩
        have hl8 : g8.l = l := q8.l.trans F4.out.2.2.2.1
        have he8 : g8.e = E := q8.e.trans F4.out.2.2.2.2.1
        have hdu8 : g8.du = S + (bs.length : Int) := q8.du.trans HN.out.1
        have F8 := hide (And.intro f8 (And.intro (F6.out.2.step F6.out.1.at_ m8) q8.bs))
        have hc88 : c8 ≤ 1000 := by omega
        clear f8 hc8 q8 m8 F6
        generalize splice D4 (1 * 64 + g.a) g.bs = D8 at *
        have hsc := sScan F8.out.1 (by omega) HT.out.1 E S ⟨hS0, by omega⟩
        go_wp2_with fail
        refine hsc.mono ?_
        clear hsc
        rintro e w9 ⟨v9, zs, c9, rfl, hzs, hfs9, f9, hc9, m9⟩
        obtain ⟨ao9, cap9, rfl, hr9, hcap9⟩ := hfs9.read
        have hfnd := ka_all F8.out.1 F8.out.2.2 he8 F4.out.2.2.2.2.2 hzs
        have hen := hfnd.2.2.1
        have F9 := hide (And.intro f9 (And.intro (F8.out.2.1.step F8.out.1.at_ m9) (And.intro hr9 (And.intro hfnd hcap9))))
        clear hzs hfs9 f9 m9 hr9 hfnd hcap9 F8 hc9
        generalize ((Fm.fend (Fm.rowF E S (ints (bytesAt D8 (1 * 64) (8 * 64)))) : Nat) : Int) = fe9 at *
        generalize hLz : zs.length = Lz at *
        have HLz := hide hLz
        clear hLz
        have hdd := lDurable_at F9.out.1.at_
        rw [hl8, hdu8] at hdd
        have hv3 : IntKind.u64.wrap (bs.length : Int) = (bs.length : Int) := by rw [IntKind.wrap_u64]; omega
        have hv4 : IntKind.u64.wrap (S + (bs.length : Int)) = S + (bs.length : Int) := by rw [IntKind.wrap_u64]; omega
        have hus := fun q => lUsed_at (F9.out.1.at_.drew q)
        have hus := lUsed_at F9.out.1.at_
        rw [hl8] at hus
        have HE8 := hide hen
        clear hen
        generalize (g8.end_ : Int) = en at *
        have hge : decide (en ≤ fe9) = true := decide_eq_true HE8.out
        have hge2 : en ≤ fe9 := HE8.out
        go_wp2_with fail
        refine hdd.mono ?_
        clear hdd
        rintro e wx ⟨rfl, hwx⟩
        obtain rfl := hwx.symm
        go_wp2_with fail
        refine hus.mono ?_
        clear hus
        rintro e w10 ⟨rfl, q10, rfl⟩
        have hft := first_any ao9 Lz cap9 zs vo bs.length vcap bs E S (w9.drewN q10) hS0 (by omega) (F9.out.2.2.1.grown (grown_drewN w9 q10 none)) ((F9.out.2.1.grown (grown_drewN w9 q10 none)).brows (grown_trans F9.out.1.at_.grown0 (grown_drewN w9 q10 none))) rfl HLz.out F9.out.2.2.2.1.1 F9.out.2.2.2.2 (by have := F9.out.2.2.2.1.2.1; omega) F9.out.2.2.2.1.2.2.2
        have G10 := hide (grown_trans F9.out.1.at_.grown0 (grown_drewN w9 q10 none))
        clear F9
        generalize w9.drewN q10 = w10 at *
        go_wp2_with fail
        refine hft.mono ?_
        clear hft
        rintro e w11 ⟨rfl, q11, rfl⟩
        have G11 := hide (grown_trans G10.out (grown_drewN w10 q11 none))
        generalize w10.drewN q11 = w11 at *
        go_wp2_with fail
        refine (awake_any w11 (HT.out.1.grown G11.out) (Nat.lt_of_lt_of_le HT.out.2.1 G11.out.size)).mono ?_
        rintro e w12 ⟨rfl, g12⟩
        have G12 := hide (grown_trans G11.out g12)
        clear g12
        go_wp2
        go_ret
        exact ⟨rfl, G12.out⟩
end Go.Proofs.YtofdijaipjkfbaaGreatDoor
