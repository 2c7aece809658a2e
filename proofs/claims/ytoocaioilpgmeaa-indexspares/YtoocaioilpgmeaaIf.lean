/- Items move up; Drop. -/
import Derived.Test.YtoocaioilpgmeaaIe
namespace Go.Proofs.Ytoocaioilpgmeaa
open Go.RowKit Ix
attribute [local go_sem ↓] Go.wp_at_zero Go.wp_at_succ
section
variable {w w' : World} {x g n m c st : Nat} {S : List (Option (Nat × Int))} {M : List (Nat × Int)}
set_option maxRecDepth 20000 in
set_option maxHeartbeats 4000000 in
theorem takeOut_at (h : IxR w x g n m c st S) {g0 F : Nat} (hT : TO (hs n) n S M g0 F g0 (bh n g0)) (hA : Asc M) (hf : 2 * M.length ≤ n) (hid : ∀ y ∈ M, y.1 < 4294967296) (hst : st ≤ 20000) :
    Calls Try.prog 31 #[.pointer (some ⟨x, 0, none⟩), .int .i64 (g0 : Int)] w fun e w' => ∃ S', e = .returned (.tuple #[]) ∧ Inv (hs n) n S' M ∧ IxR w' x g n m c (st + wy n g0 F) S' ∧ Kept w w' (fun i => i = x ∨ i = g) := by
  have hb0 := behind_at h g0 hT.g0n
  have HH := hide (And.intro h (And.intro hT (And.intro hA (And.intro hf hid))))
  have hn8 := h.most
  have hb1 : wy n g0 (bh n g0) = 1 := by
    have h1 : wy n g0 g0 < wy n g0 F := by have := hT.ga; have := hT.aF; omega
    rw [wy_bh hT.g0n hT.g0n hT.Fn h1, wy_self]
  have HB1 := hide hb1
  clear h hT hA hf hid hb1
  generalize hbb : bh n g0 = b0 at *
  clear hbb
  go_enter Try.func31, Try.ntmps31
  go_wp2_with fail
  refine hb0.mono ?_
  clear hb0
  rintro e w1 ⟨rfl, hw1⟩
  obtain rfl := hw1.symm
  go_wp2
  go_loopg [1, 4] (wy n g0 F - 1) (fun q v1 v4 wr => ∃ gp a : Nat, v1 = .int .i64 (gp : Int) ∧ v4 = .int .i64 (a : Int) ∧ Hid (∃ S' s, TO (hs n) n S' M g0 F gp a ∧ IxR wr x g n m c s S' ∧ s + 1 = st + wy n g0 a ∧ q = wy n g0 F - wy n g0 a ∧ Kept w wr (fun i => i = x ∨ i = g)))
  case atStart => exact ⟨g0, b0, rfl, rfl, S, st, HH.out.2.1, HH.out.1, by rw [HB1.out], by rw [HB1.out], Kept.refl _ _⟩
  case round =>
    obtain ⟨gp, a, rfl, rfl, S', s, hT, hI, hs1, hq, hK⟩ := hrel
    obtain ⟨-, -, -, c3, c4⟩ := hI.cells
    have han := hT.an
    have hgn := hT.gn
    have hlF := wy_lt hT.g0n hT.Fn
    have hla := hT.aF
    obtain ⟨d0, d1, d2⟩ := hI.slot han
    cases hy : sl S' a with
    | none =>
      rw [hy] at d0
      simp only [Option.isSome] at d0
      obtain ⟨haF, hInv⟩ := hT.done HH.out.2.2.1 HH.out.2.2.2.1 hy
      have hs9 : s ≤ 40000 := by omega
      have hwr : IntKind.i64.wrap ((s : Int) + 1) = ((s + 1 : Nat) : Int) := by rw [IntKind.wrap_i64]; omega
      have f3 := free_row hI.head 3
      have hI2 := hI.step (s + 1)
      have k2 := hK.trans (kept_setCell wr x 3 (.int .i64 ((s + 1 : Nat) : Int))) (fun i _ e => .inl e)
      obtain ⟨-, -, -, -, t4⟩ := hI2.cells
      obtain ⟨t0, t1, t2⟩ := hI2.slot hgn
      have fz : ∀ j, (wr.setCell ⟨x, 3, none⟩ (.int .i64 ((s + 1 : Nat) : Int))).frozen? ⟨g, j, none⟩ = false := fun j => free_row hI2.row j
      obtain ⟨r1, r2⟩ := hI2.put hgn none
      have HR : Hid (∀ W, (((wr.setCell ⟨x, 3, none⟩ (.int .i64 ((s + 1 : Nat) : Int))).setCell ⟨g, gp * 3, none⟩ (.bool false)).setCell ⟨g, gp * 3 + 1, none⟩ (.int .u32 0)).setCell ⟨g, gp * 3 + 2, none⟩ (.int .i64 0) = W → ∃ S'', Inv (hs n) n S'' M ∧ IxR W x g n m c (st + wy n g0 F) S'' ∧ Kept w W (fun i => i = x ∨ i = g)) := by
        rintro W rfl
        refine ⟨S'.set gp none, hInv, ?_, k2.trans r2 (fun i _ e => .inr e)⟩
        rw [show st + wy n g0 F = s + 1 by rw [hs1, haF]]
        exact r1
      clear hT hI hI2 hK hy hq r1 r2 k2 hInv haF hs1 d1 d2 hlF hla
      generalize hW1 : wr.setCell ⟨x, 3, none⟩ (.int .i64 ((s + 1 : Nat) : Int)) = W1 at *
      generalize ((s + 1 : Nat) : Int) = s1 at *
      go_wp2
      go_end0
      obtain ⟨S'', h1, h2, h3⟩ := HR.out _ rfl
      exact ⟨S'', rfl, h1, h2, h3⟩
    | some y =>
      rw [hy] at d0 d1
      simp only [Option.isSome] at d0
      rw [show idN (some y) = y.1 from rfl] at d1
      have hs9 : s ≤ 40000 := by omega
      have hag : a ≠ gp := fun e => by have := hT.ga; rw [e] at this; omega
      have hyM : y ∈ M := (hT.mem y).2 ⟨a, hag, hy⟩
      have hy9 := HH.out.2.2.2.2 y hyM
      have hltF := hT.lt hy
      have hbh := wy_bh hT.g0n hT.an hT.Fn hltF
      have hwr : IntKind.i64.wrap ((s : Int) + 1) = ((s + 1 : Nat) : Int) := by rw [IntKind.wrap_i64]; omega
      have f3 := free_row hI.head 3
      have hI2 := hI.step (s + 1)
      have k2 := hK.trans (kept_setCell wr x 3 (.int .i64 ((s + 1 : Nat) : Int))) (fun i _ e => .inl e)
      obtain ⟨-, -, -, -, t4⟩ := hI2.cells
      obtain ⟨t0, t1, t2⟩ := hI2.slot han
      rw [hy] at t0 t1 t2
      rw [show idN (some y) = y.1 from rfl] at t1
      rw [show vlN (some y) = y.2 from rfl] at t2
      have hhm := home_at hI2 y.1 hy9
      have hhl := hs_lt hI2.pos y.1
      have HI2 := hide (And.intro hI2 (And.intro k2 (And.intro hT (And.intro hy (And.intro hs1 (And.intro hq (And.intro hbh hltF)))))))
      clear hT hI hI2 hK hy hq k2 hs1 d2 hlF hla hbh hltF
      have hgp1 : hs n y.1 = hs n y.1 := rfl
      obtain ⟨hm, hhm1⟩ : ∃ hm, hm = hs n y.1 := ⟨_, rfl⟩
      rw [← hhm1] at hhm hhl
      have HHM := hide hhm1
      clear hhm1 hgp1
      generalize hW1 : wr.setCell ⟨x, 3, none⟩ (.int .i64 ((s + 1 : Nat) : Int)) = W1 at *
      generalize hs1e : ((s + 1 : Nat) : Int) = s1 at *
      have HW1 := hide (And.intro hW1 hs1e)
      clear hs1e
      obtain ⟨y1, hy1⟩ : ∃ y1, y1 = y.1 := ⟨_, rfl⟩
      obtain ⟨y2, hy2⟩ : ∃ y2, y2 = y.2 := ⟨_, rfl⟩
      rw [← hy1] at d1 t1 hy9 hhm
      rw [← hy2] at t2
      have HY := hide (And.intro hy1 hy2)
      clear hy1 hy2
      go_wp2_with fail
      refine hhm.mono ?_
      clear hhm
      rintro e w2 ⟨rfl, hg2⟩
      have hJ2 := HI2.out.1.then hg2
      have K2 := hide (And.intro hJ2 (HI2.out.2.1.trans (Kept.new hg2 (fun i => i = x ∨ i = g)) (fun _ _ e => e)))
      have hw1 := way_at hJ2 hm a hhl han
      clear hg2 hJ2
      go_wp2_with fail
      refine hw1.mono ?_
      clear hw1
      rintro e w3 ⟨rfl, hg3⟩
      have hJ3 := K2.out.1.then hg3
      have K3 := hide (And.intro hJ3 (K2.out.2.trans (Kept.new hg3 (fun i => i = x ∨ i = g)) (fun _ _ e => e)))
      have hw2 := way_at hJ3 gp a hgn han
      clear hg3 hJ3 K2
      go_wp2_with fail
      refine hw2.mono ?_
      clear hw2
      rintro e w4 ⟨rfl, hg4⟩
      have hJ4 := K3.out.1.then hg4
      have K4 := hide (And.intro hJ4 (K3.out.2.trans (Kept.new hg4 (fun i => i = x ∨ i = g)) (fun _ _ e => e)))
      clear hg4 K3
      obtain ⟨-, -, -, -, v4⟩ := hJ4.cells
      obtain ⟨v0, v1, v2⟩ := hJ4.slot han
      obtain ⟨u0, u1, u2⟩ := hJ4.slot hgn
      have fz : ∀ j, w4.frozen? ⟨g, j, none⟩ = false := fun j => free_row hJ4.row j
      rw [HI2.out.2.2.2.1] at v0 v1 v2
      rw [show idN (some y) = y.1 from rfl, ← HY.out.1] at v1
      rw [show vlN (some y) = y.2 from rfl, ← HY.out.2] at v2
      simp only [Option.isSome] at v0
      clear hJ4 t0 t1 t2 t4
      by_cases hge : wy n gp a ≤ wy n hm a
      · have hge' : ((wy n gp a : Int) ≤ (wy n hm a : Int)) = True := by simp; omega
        have HG := hide (HI2.out.2.2.1.move HI2.out.2.2.2.1 (by rw [← HHM.out]; exact hge))
        clear hge
        generalize wy n gp a = p1 at *
        generalize wy n hm a = p2 at *
        go_wp2
        have hput := K4.out.1.put hgn (some y)
        rw [show idN (some y) = y.1 from rfl, show vlN (some y) = y.2 from rfl, ← HY.out.1, ← HY.out.2] at hput
        simp only [Option.isSome] at hput
        have HP := hide hput
        clear hput
        go_region
        generalize hw5 : ((w4.setCell ⟨g, gp * 3, none⟩ (.bool true)).setCell ⟨g, gp * 3 + 1, none⟩ (.int .u32 (y1 : Int))).setCell ⟨g, gp * 3 + 2, none⟩ (.int .i64 y2) = w5
        rw [hw5] at HP
        generalize hw6 : w5.drew = w6
        have g6 : w5.grownBy w6 none := by rw [← hw6]; exact grown_drew _ _
        have hJ6 := HP.out.1.then g6
        have K6 := hide (And.intro hJ6 ((K4.out.2.trans HP.out.2 (fun i _ e => .inr e)).trans (Kept.new g6 (fun i => i = x ∨ i = g)) (fun _ _ e => e)))
        have hbe := behind_at hJ6 a han
        clear hw5 hw6 g6 hJ6 HP v0 v1 v2 v4 u0 u1 u2 fz
        go_wp2_with fail
        refine hbe.mono ?_
        clear hbe
        rintro e w7 ⟨rfl, hw7⟩
        obtain rfl := hw7.symm
        go_wp2
        go_roundg (gk - 1)
        case rel => exact ⟨a, bh n a, rfl, rfl, S'.set gp (some y), s + 1, HG.out, K6.out.1, by have h1 := HI2.out.2.2.2.2.2.2.1; have h2 := HI2.out.2.2.2.2.1; omega, by have h1 := HI2.out.2.2.2.2.2.2.1; have h2 := HI2.out.2.2.2.2.2.1; omega, K6.out.2⟩
        case measure => have h1 := HI2.out.2.2.2.2.2.2.2; have h2 := HI2.out.2.2.2.2.2.1; omega
      · have hge' : ((wy n gp a : Int) ≤ (wy n hm a : Int)) = False := by simp; omega
        have HG := hide (HI2.out.2.2.1.pass HI2.out.2.2.2.1 (by rw [← HHM.out]; exact hge))
        clear hge
        have hbe := behind_at K4.out.1 a han
        generalize wy n gp a = p1 at *
        generalize wy n hm a = p2 at *
        go_wp2_with fail
        refine hbe.mono ?_
        clear hbe
        rintro e w7 ⟨rfl, hw7⟩
        obtain rfl := hw7.symm
        go_wp2
        go_roundg (gk - 1)
        case rel => exact ⟨gp, bh n a, rfl, rfl, S', s + 1, HG.out, K4.out.1, by have h1 := HI2.out.2.2.2.2.2.2.1; have h2 := HI2.out.2.2.2.2.1; omega, by have h1 := HI2.out.2.2.2.2.2.2.1; have h2 := HI2.out.2.2.2.2.2.1; omega, K4.out.2⟩
        case measure => have h1 := HI2.out.2.2.2.2.2.2.2; have h2 := HI2.out.2.2.2.2.2.1; omega
end
set_option maxRecDepth 20000 in
theorem drop_io {w : World} {p : Ip} {M : List (Nat × Int)} {lo : Bool} (h : Io w p M lo) (k : Nat) (hk : k < 4294967296) :
    Calls Try.prog 12 #[.pointer (some ⟨p.x, 0, none⟩), .int .u32 (k : Int)] w fun e w' => e = .returned (.bool (lk M k).isSome) ∧ Io w' p (dr M k) true ∧ Kept w w' p.own := by
  have hf := h.find k hk
  have HA := hide h.asc
  clear h
  obtain ⟨b, hb⟩ : ∃ b, (lk M k).isSome = b := ⟨_, rfl⟩
  obtain ⟨hy, hn⟩ := lk_val HA.out hb
  rw [hb] at hf ⊢
  cases b with
  | false =>
    have hn0 := hn rfl
    rw [dr_none hn0]
    clear hy hn hn0
    go_enter Try.func12, Try.ntmps12
    go_wp2_with fail
    refine hf.mono ?_
    clear hf
    rintro e w1 ⟨q, S, rfl, hF, hI, hK⟩
    have H1 : Hid (Io w1 p M true ∧ Kept w w1 p.own) := ⟨hI.io, hK.mono (fun i _ e => .inl e)⟩
    clear hI hK hF
    go_wp2
    go_ret
    exact ⟨rfl, H1.out⟩
  | true =>
    obtain ⟨u, hu, hm⟩ := hy rfl
    have HV := hide (And.intro hu hm)
    clear hy hn hu hb hm
    go_enter Try.func12, Try.ntmps12
    go_wp2_with fail
    refine hf.mono ?_
    clear hf
    rintro e w1 ⟨q, S, rfl, hF, hI, hK⟩
    obtain ⟨F, hT, hlt⟩ := TO.start hI.inv hF
    have hlen := dr_length HA.out HV.out.2
    have hq := wy_lt (hI.inv.home k) hF.lt
    have hto := takeOut_at hI.at_ hT (dr_asc HA.out k) (by have := hI.inv.few; omega) (fun y hy => (hI.ids y (dr_mem.1 hy).1).1) (by have := hI.at_.most; omega)
    have HI := hide (And.intro hI (And.intro hK (And.intro hlt hlen)))
    clear hI hK hT hlt hq hlen hF
    go_wp2_with fail
    refine hto.mono ?_
    clear hto
    rintro e w2 ⟨S2, rfl, hInv, hR, hK2⟩
    obtain ⟨-, -, c2, -, -⟩ := hR.cells
    have f2 := free_row hR.head 2
    obtain ⟨c, hc⟩ : ∃ c, c = (dr M k).length := ⟨_, rfl⟩
    have hlen := HI.out.2.2.2
    have hR2 := hR.count c
    have hfull := HI.out.1.full
    have hm2 := HI.out.1.m2
    have hml : M.length = c + 1 := by omega
    rw [hml] at c2 hfull
    have hc9 : c < 4096 := by omega
    have hwr : ((c + 1 : Nat) : Int) - 1 = (c : Int) := by omega
    have H1 : Hid (Io (w2.setCell ⟨p.x, 2, none⟩ (.int .i64 (c : Int))) p (dr M k) true ∧ Kept w (w2.setCell ⟨p.x, 2, none⟩ (.int .i64 (c : Int))) p.own) := by
      refine ⟨⟨_, S2, { at_ := by rw [← hc]; exact hR2, inv := hInv, sz := HI.out.1.sz, m1 := HI.out.1.m1, m2 := HI.out.1.m2, full := by omega, st := by have := HI.out.2.2.1; omega, ids := fun y hy => HI.out.1.ids y (dr_mem.1 hy).1 }, ?_⟩, ((HI.out.2.1.mono (fun i _ e => Or.inl e)).trans hK2 (fun i _ e => e)).trans (kept_setCell w2 p.x 2 _) (fun i _ e => .inl e)⟩
      simp
      omega
    clear hR hK2 hR2 hc hml hlen hInv hfull hm2
    go_wp2
    go_ret
    exact ⟨rfl, H1.out⟩
end Go.Proofs.Ytoocaioilpgmeaa
