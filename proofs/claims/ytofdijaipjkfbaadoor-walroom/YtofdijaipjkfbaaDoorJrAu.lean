/- Texts joined: Aw, Ld, Ro. -/
import Derived.Test.YtofdijaipjkfbaaDoorJrAt
import Derived.Test.YtofdijaipjkfbaaDoorJrAh
/- awake. -/
namespace Go.Proofs.YtofdijaipjkfbaaDoor
open Go.RowKit Ap
attribute [local go_sem ↓] Go.wp_at_zero Go.wp_at_succ
theorem pN1 : pN 1 = 2 := by decide
theorem u3 : U64 3 := ⟨by decide, by decide⟩
theorem u7 : U64 7 := ⟨by decide, by decide⟩
theorem aw_at {w : World} {A : Nat} {fr : Nat × Nat} {xs : List Nat} (h : w.heap[A]? = some (.cells (bv xs).toArray 5 fr)) : At w (some ⟨A, 0, none⟩) xs := by
  intro j u hu
  have e : (⟨A, 0, none⟩ : Addr).add j = ⟨A, j, none⟩ := by unfold Addr.add; split <;> simp_all
  exact ⟨_, rfl, by rw [e, cell_row h j]; exact bv_get _ _ _ hu⟩
theorem aw_ap (l : Nat) : apC 2 (Lg.new l 3 7) 3 = 0 := by simp [apC, fitsB, Lg.new, Lg.end_]
theorem aw_drop (xs : List Nat) (h : xs.length ≤ 128) : (bytesAt (splice (zs ((2 + 1) * 64)) (1 * 64 + 0) xs) (1 * 64) (2 * 64)).drop xs.length = zs (128 - xs.length) := by
  have hz : (zs ((2 + 1) * 64)).length = 192 := List.length_replicate ..
  have hz2 : (zs (2 * 64)).length = 128 := List.length_replicate ..
  rw [bytesAt_splice _ _ _ _ _ (by omega) (by omega), bytesAt_zs _ _ _ (by omega)]
  apply List.ext_getElem?
  intro i
  rw [List.getElem?_drop, splice_get _ _ _ _ (by omega), if_neg (by omega)]
  simp only [zs, List.getElem?_replicate]
  by_cases hi : i < 128 - xs.length
  · rw [if_pos (by omega), if_pos hi]
  · rw [if_neg (by omega), if_neg hi]
set_option maxRecDepth 20000 in
set_option maxHeartbeats 8000000 in
theorem awake_any (w : World) (hT : Fm.Cr.Tab w) (hw0 : 0 < w.heap.size) : Calls Tryd.prog 18 #[] w fun e w' => e = .returned (.bool true) ∧ w.grownBy w' none := by
  have HT := hide (And.intro hT hw0)
  clear hT hw0
  go_enter Tryd.func18, Tryd.ntmps18
  go_wp2_with fail
  refine (place_any w w 1 (grown_refl _ _)).mono ?_
  rintro e w1 ⟨p, r, qr, rfl, p1⟩
  rw [pN1] at p1
  have P1 := hide p1
  clear p1
  go_wp2_with fail
  refine (sNew P1.out (Nat.le_refl _) (by omega) (by omega) 3 7 u3 u7).mono ?_
  rintro e w2 ⟨l, rfl, h2, g2⟩
  have H2 := hide h2
  clear h2 g2 P1
  go_wp2_with fail
  have g3 := World.grownBy_alloc w2 (.cells #[.int .u8 1, .int .u8 2, .int .u8 3] 5) none
  have n3 : (w2.alloc (.cells #[.int .u8 1, .int .u8 2, .int .u8 3] 5)).heap[w2.heap.size]? = some (.cells (bv [1, 2, 3]).toArray 5 (0, 0)) := heap_alloc_new w2 _
  have H3 := hide (And.intro (H2.out.then g3) n3)
  clear g3 n3 H2
  generalize w2.alloc (.cells #[.int .u8 1, .int .u8 2, .int .u8 3] 5) = w3 at *
  generalize w2.heap.size = A at *
  have ha := sAppend H3.out.1 HT.out.1 HT.out.2 (some ⟨A, 0, none⟩) 3 3 [1, 2, 3] rfl (aw_at H3.out.2) (by intro x hx; simp at hx; omega) (Nat.le_refl _) (by decide)
  rw [aw_ap l] at ha
  refine ha.mono ?_
  clear ha
  rintro e w4 (⟨h1, _⟩ | ⟨-, rfl, v4, h4, -⟩)
  · exact absurd rfl h1
  have e8 : (Lg.new l 3 7).la + 1 = 8 := rfl
  rw [e8]
  have H4 := hide h4
  clear h4 H3
  go_wp2_with fail
  refine (sFlush H4.out (by omega)).mono ?_
  rintro e w5 ⟨rfl, k5, c5, g5, h5, c5', f5, -⟩
  have hl : g5.l = l := f5.l
  have hh : Fm.rowF 3 7 (ints (bytesAt (splice (zs ((2 + 1) * 64)) (1 * 64 + ((Lg.new l 3 7).more [1, 2, 3] v4).a) ((Lg.new l 3 7).more [1, 2, 3] v4).bs) (1 * 64) (2 * 64))) = [⟨3, 8, [1, 2, 3]⟩] := by
    have he : g5.e = 3 := f5.e
    have hb : ((Lg.new l 3 7).more [1, 2, 3] v4).bs.length = 25 := by show ([] ++ Fm.nats ((Lg.new l 3 7).fr [1, 2, 3]).out).length = 25; rw [List.nil_append, Fm.nats_length, fr_len]; rfl
    have ha : g5.a = ((Lg.new l 3 7).more [1, 2, 3] v4).bs.length := by rw [f5.a]; show 0 + _ = _; omega
    have := h5.hist.only f5.bs (by rw [he]; decide) (128 - ((Lg.new l 3 7).more [1, 2, 3] v4).bs.length) (by rw [ha]; exact aw_drop _ (by rw [hb]; omega))
    rw [he] at this
    exact this
  have HE : Hid (g5.end_ = 25 ∧ g5.du = 8) := by
    refine ⟨?_, f5.du⟩
    rw [f5.end_, H4.out.hist.end_]
    rfl
  have H5 := hide (And.intro h5 (And.intro c5' hh))
  clear h5 c5' f5 hh H4
  generalize splice (zs ((2 + 1) * 64)) (1 * 64 + ((Lg.new l 3 7).more [1, 2, 3] v4).a) ((Lg.new l 3 7).more [1, 2, 3] v4).bs = D5 at *
  go_wp2_with fail
  have hs := sScan H5.out.1 (by have := H5.out.2.1; omega) HT.out.1 3 7 u7
  rw [H5.out.2.2] at hs
  refine hs.mono ?_
  clear hs
  rintro e w6 ⟨v, ys, c6, rfl, h7, h8, h9, -, -⟩
  obtain ⟨ao, cap, rfl, hr, hcap⟩ := h8.read
  have hlen : ys.length = 1 := by have := congrArg List.length h7; rw [Fm.frs_length] at this; simpa using this
  obtain ⟨y, rfl⟩ : ∃ y, ys = [y] := List.length_eq_one_iff.1 hlen
  have hy : y.f = ⟨3, 8, [1, 2, 3]⟩ := by simpa [Fm.frs] using h7
  obtain ⟨gf, rfl, hf⟩ := hr 0 y rfl
  obtain ⟨bo, bc, hv, hbody⟩ := hf.body
  have c1 := hf.c1
  have c2 := hf.c2
  rw [hv] at c2
  rw [hy] at c1 c2 hbody
  simp only [Nat.zero_mul, Nat.zero_add, List.length_cons, List.length_nil] at c1 c2 hbody hcap
  have H7 := hide (And.intro h9 hbody)
  clear h7 h8 h9 hr hlen hf hv hbody hy
  have hfe : ((Fm.fend [⟨3, 8, [1, 2, 3]⟩] : Nat) : Int) = 25 := rfl
  rw [hfe]
  simp only [List.length_cons, List.length_nil]
  clear hfe
  go_wp2_with fail
  have g8 := World.grownBy_alloc w6 (.cells #[.int .u8 1, .int .u8 2, .int .u8 3] 5) none
  have n8 : (w6.alloc (.cells #[.int .u8 1, .int .u8 2, .int .u8 3] 5)).heap[w6.heap.size]? = some (.cells (bv [1, 2, 3]).toArray 5 (0, 0)) := heap_alloc_new w6 _
  have H8 := hide (And.intro (H7.out.1.then g8) (And.intro (H7.out.2.kept g8 (fun _ _ e => by cases e)) n8))
  clear g8 n8 H7 c1 c2
  generalize w6.alloc (.cells #[.int .u8 1, .int .u8 2, .int .u8 3] 5) = w8 at *
  generalize w6.heap.size = A8 at *
  refine (Fm.same_eq bo (some ⟨A8, 0, none⟩) 3 bc 3 [1, 2, 3] w8 rfl H8.out.2.1 (At.ints (xs := [1, 2, 3]) (aw_at H8.out.2.2)) (by omega)).mono ?_
  rintro e w9 ⟨rfl, g9⟩
  have H9 := hide (H8.out.1.then g9)
  clear g9 H8
  have hu := lUsed_at H9.out.at_
  rw [hl, HE.out.1] at hu
  go_wp2_with fail
  refine hu.mono ?_
  clear hu
  rintro e w10 ⟨rfl, q, rfl⟩
  have H10 := hide (H9.out.then (grown_drewN w9 q none))
  clear H9
  generalize w9.drewN q = w10 at *
  have hu := lDurable_at H10.out.at_
  rw [hl, HE.out.2] at hu
  go_wp2_with fail
  refine hu.mono ?_
  clear hu
  rintro e w11 ⟨rfl, rfl⟩
  go_wp2
  go_ret
  exact ⟨rfl, H10.out.at_.grown0⟩
end Go.Proofs.YtofdijaipjkfbaaDoor
/- Arguments opened: rows of ints. -/
namespace Go.Proofs.YtofdijaipjkfbaaDoor
open Go.ChangeShapes Go.WideShapes Go.ChangeAt Go.RowKit Go.Deep
theorem cells3 : Tryd.prog.cellsOf 3 = 1 := by kernel_rfl
variable {H : Type} {enc : TypeId × Value → H}
set_option maxRecDepth 100000 in
/-- An argument that is a slice of int: its numbers. -/
theorem open_zArg {w : World} {base : Nat} {spare : Nat → Bool} {held : Bool} {r : Reach} {b0 : Nat} {v : Value} {d : DataW H} {ps : List MemPlace} (hval : Value.okWide Tryd.prog w r b0 55 v) (hd : DataW.Trod enc Tryd.prog w base spare held 55 v d ps) :
    ∃ ao n cap, ∃ xs : List Int, v = .slice ao n cap ∧ xs.length = n ∧ (∀ j u, xs[j]? = some u → ∃ a, ao = some a ∧ w.cell? (a.add j) = some (.int .i64 u)) := by
  obtain ⟨ao, n, cap, rfl⟩ := okWide_slice Tryd.underlying55 hval
  obtain ⟨fuel, hf⟩ := hd
  rcases open_ints Tryd.underlying55 Tryd.underlying3 cells3 hf with ⟨hcs, _⟩ | ⟨a, len, cap', zs, hcs, _, hl, hm, hz, hx, hcell, hwf⟩
  · simp [Value.cells] at hcs
    obtain ⟨rfl, rfl, rfl⟩ := hcs
    exact ⟨none, 0, 0, [], rfl, rfl, (fun j u h => by simp at h)⟩
  · simp [Value.cells] at hcs
    obtain ⟨rfl, rfl, rfl⟩ := hcs
    have hzl : n ≤ zs.length := by rw [hz]; split <;> omega
    refine ⟨some a, n, cap, zs.take n, rfl, by simp; omega, ?_⟩
    intro j u hu
    rw [List.getElem?_take] at hu
    split at hu
    · rename_i hj
      have hj2 : j < zs.length := by omega
      have hc := hcell j hj2
      refine ⟨a, rfl, ?_⟩
      rw [hc]
      simp [List.getD_eq_getElem?_getD, hu]
    · cases hu
end Go.Proofs.YtofdijaipjkfbaaDoor
/- WalRoom: the walk. -/
namespace Go.Proofs.YtofdijaipjkfbaaDoor
open Go.RowKit Ap
attribute [local go_sem ↓] Go.wp_at_zero Go.wp_at_succ
/-- A row of ints lies there. -/
def AtZ (w : World) (ao : Option Addr) (xs : List Int) : Prop := ∀ j u, xs[j]? = some u → ∃ a, ao = some a ∧ w.cell? (a.add j) = some (.int .i64 u)
theorem AtZ.grown {w w' : World} {ao : Option Addr} {xs : List Int} (h : AtZ w ao xs) (hg : w.grownBy w' none) : AtZ w' ao xs := by
  intro j u hu
  obtain ⟨a, ha, hc⟩ := h j u hu
  exact ⟨a, ha, hg.cell hc (by simp)⟩
theorem u1 : U64 1 := ⟨by decide, by decide⟩
theorem tmod7 (j : Nat) : (j : Int).tmod 7 = ((j % 7 : Nat) : Int) := by
  rw [Int.tmod_eq_emod_of_nonneg (by omega)]; omega
/-- What WalRoom keeps. -/
structure RoS (w0 w : World) (N b r : Nat) (k : Dk) (g : Lg) : Prop where
  at_ : LgAt w0 w (N + 1) b r 1 N (frD 0) k (zs ((N + 1) * 64)) [] g
theorem RoS.then {w0 w w' : World} {N b r : Nat} {k : Dk} {g : Lg} (h : RoS w0 w N b r k g) (hg : w.grownBy w' none) : RoS w0 w' N b r k g := ⟨h.at_.then hg⟩
theorem more_end (g : Lg) (xs : List Nat) (v : Value) : (g.more xs v).end_ = g.end_ + (22 + xs.length) := by
  show g.a + (g.bs ++ Fm.nats (g.fr xs).out).length = g.a + g.bs.length + _
  rw [List.length_append, Fm.nats_length, fr_len]; omega
set_option maxRecDepth 20000 in
set_option maxHeartbeats 16000000 in
theorem walRoom_any (w : World) (hT : Fm.Cr.Tab w) (hw0 : 0 < w.heap.size) (x sq ep : Int) (hsq : U64 sq) (hep : U64 ep) (ao : Option Addr) (m cap : Nat) (xs : List Int) (hm : xs.length = m) (hat : AtZ w ao xs) :
    Calls Tryd.prog 4 #[.int .i64 x, .int .u64 sq, .int .u64 ep, .slice ao m cap] w fun e w' => e = .returned (.bool true) ∧ w.grownBy w' none := by
  have HT := hide (And.intro hT (And.intro hw0 (And.intro hep (And.intro hm hat))))
  have HS := hide hsq
  have hp := pN_pos x
  clear hT hw0 hat hsq hep hm
  go_enter Tryd.func4, Tryd.ntmps4
  go_wp2_with fail
  refine (place_any w w x (grown_refl _ _)).mono ?_
  rintro e w1 ⟨p, r, qr, rfl, p1⟩
  generalize pN x = N at *
  have P1 := hide p1
  clear p1
  go_wp2_with fail
  refine (sNew P1.out (Nat.le_refl _) hp.1 hp.2 1 sq u1 HS.out).mono ?_
  rintro e w2 ⟨l, rfl, h2, g2⟩
  have R2 : Hid (RoS w w2 N p.b r p.k (Lg.new l 1 sq)) := ⟨h2.at_⟩
  clear h2 g2 P1
  have hby := gBytes_at R2.out.at_.dev R2.out.at_.rg (by omega)
  obtain ⟨L, hL⟩ : ∃ L, L = N * 64 := ⟨_, rfl⟩
  have hLb : L ≤ 512 := by omega
  rw [← hL] at hby
  have HL := hide hL
  clear hL
  go_wp2_with fail
  refine hby.mono ?_
  clear hby
  rintro e w3 ⟨rfl, q3, rfl⟩
  have R3 := hide (R2.out.then (grown_drewN w2 q3 none))
  clear R2
  generalize w2.drewN q3 = w3 at *
  generalize p.b = b at *
  generalize hk0 : p.k = k0 at *
  clear hk0
  go_wp2
  go_loopg [16] (min m 200) (fun q i wr => ∃ j : Nat, q + j = min m 200 ∧ i = .int .i64 j ∧ Hid (∃ g, RoS w wr N b r k0 g ∧ g.l = l))
  case atStart => exact ⟨0, by omega, rfl, hide ⟨_, R3.out, rfl⟩⟩
  case round =>
    clear R3
    obtain ⟨j, hkj, rfl, HR⟩ := hrel
    by_cases hk : 0 < gk
    · have hj : j < m ∧ j < 200 := by omega
      obtain ⟨z, hz⟩ : ∃ z, xs[j]? = some z := ⟨_, List.getElem?_eq_getElem (by have := HT.out.2.2.2.1; omega)⟩
      obtain ⟨g, hg0, hgl⟩ := HR.out
      obtain ⟨a, hao, hcell⟩ := (HT.out.2.2.2.2.grown hg0.at_.grown0) j z hz
      subst hao
      obtain ⟨nn, hnn, hn35⟩ : ∃ nn : Nat, z % 35 = (nn : Int) ∧ nn < 35 := ⟨(z % 35).toNat, by omega, by omega⟩
      have HP : Hid (∀ w, Calls Tryd.prog 20 #[.int .i64 z, .int .i64 35] w fun e w' => e = .returned (.int .i64 (nn : Int)) ∧ w' = w) := fun w => by rw [← hnn]; exact pick_any z 35 35 w rfl (by omega) (by omega)
      have G0 := hide hg0
      have HGL := hide hgl
      have hj0 : (0 : Int) ≤ (j : Int) := by omega
      have hj1 : (j : Int) < (m : Int) := by omega
      have hj2 : (j : Int) < 200 := by omega
      clear hg0 hgl HR hz hnn
      go_wp2_with fail
      refine (HP.out _).mono ?_
      rintro e w4 ⟨rfl, rfl⟩
      clear hcell HP
      have hru := lRoom_at G0.out.at_
      rw [HGL.out, ← HL.out] at hru
      have hend : g.end_ ≤ L := by rw [HL.out]; exact G0.out.at_.fit
      have hul : 0 ≤ g.la ∧ g.la < 18446744073709551616 := G0.out.at_.ul
      obtain ⟨R, hR⟩ : ∃ R, R = L - g.end_ := ⟨_, rfl⟩
      rw [← hR] at hru
      go_wp2_with fail
      refine hru.mono ?_
      clear hru
      rintro e w5 ⟨rfl, q5, rfl⟩
      have G5 := hide (G0.out.then (grown_drewN w4 q5 none))
      clear G0
      generalize w4.drewN q5 = w5 at *
      have hla := lLast_at G5.out.at_
      rw [HGL.out] at hla
      go_wp2_with fail
      refine hla.mono ?_
      clear hla
      rintro e w6 ⟨rfl, rfl⟩
      have hmk := make_bytes nn (by omega) w6
      have g7 := World.grownBy_alloc w6 (.cells (bv (zs nn)).toArray 5) none
      have n7 : (w6.alloc (.cells (bv (zs nn)).toArray 5)).heap[w6.heap.size]? = some (.cells (bv (zs nn)).toArray 5 (0, 0)) := heap_alloc_new w6 _
      have H7 := hide (And.intro (G5.out.then g7) n7)
      clear g7 n7 G5
      have hap : Hid (∀ (w7 : World) (A : Nat), RoS w w7 N b r k0 g → w7.heap[A]? = some (.cells (bv (zs nn)).toArray 5 (0, 0)) → Calls Tryd.prog 6 #[.pointer (some ⟨l, 0, none⟩), .slice (some ⟨A, 0, none⟩) nn nn] w7 fun e w' =>
          (apC N g nn ≠ 0 ∧ e = .returned (.tuple #[.int .u64 0, .int .i64 (apC N g nn)]) ∧ w7.grownBy w' none) ∨
          (apC N g nn = 0 ∧ e = .returned (.tuple #[.int .u64 (g.la + 1), .int .i64 0]) ∧ ∃ g', RoS w w' N b r k0 g' ∧ g'.l = l ∧ g'.la = g.la + 1 ∧ g'.end_ = g.end_ + (22 + nn))) := by
        intro w7 A h1 h2
        have h3 := lAppend_at h1.at_ HT.out.1 HT.out.2.1 (some ⟨A, 0, none⟩) nn nn (zs nn) (List.length_replicate ..) (aw_at h2) (zs_bytes _) (Nat.le_refl _) (by unfold maxLen; omega)
        rw [HGL.out] at h3
        refine h3.mono ?_
        rintro e w' (h4 | ⟨h4, h5, v', h6, h7⟩)
        · exact .inl h4
        · exact .inr ⟨h4, h5, _, ⟨h6⟩, HGL.out, rfl, by rw [more_end]; simp [zs]⟩
      have hfb : Hid (fitsB N g (nn : Int) = decide (nn ≤ 32 ∧ g.la ≠ 18446744073709551615 ∧ 22 + nn ≤ R)) := by
        show _ = _
        unfold fitsB
        rw [← HL.out]
        apply decide_eq_decide.2
        omega
      generalize hla' : g.la = la at *
      by_cases h32 : nn ≤ 32
      · by_cases hmax : la = 18446744073709551615
        · have hac : apC N g nn = 6 := by
            unfold apC
            rw [if_neg (by omega), hfb.out, decide_eq_false (by omega)]
            rfl
          subst hmax
          go_wp2_with fail
          have h7' := H7.out
          generalize w6.alloc (.cells (bv (zs nn)).toArray 5) = w7 at *
          generalize w6.heap.size = A at *
          have H7' := hide h7'
          clear h7' hmk
          refine (hap.out w7 A H7'.out.1 H7'.out.2).mono ?_
          intro e w8 hor
          obtain ⟨rfl, h3⟩ := (hor.resolve_right (fun h => absurd h.1 (by rw [hac]; decide))).2
          clear hor
          rw [hac]
          have G8 : Hid (RoS w w8 N b r k0 g ∧ g.l = l) := ⟨H7'.out.1.then h3, HGL.out⟩
          clear h3 H7 H7' hac hap
          go_wp2_with fail
          refine (size_quiet (nn : Int) _).mono ?_
          rintro e w9 ⟨rfl, hw9⟩
          obtain rfl := hw9.symm
          have hsz : Fm.sizeF (nn : Int) = 22 + (nn : Int) := by unfold Fm.sizeF; rw [if_neg (by omega)]
          rw [hsz]
          clear hsz
          have hu := lRoom_at G8.out.1.at_
          rw [G8.out.2, ← HL.out, ← hR] at hu
          go_wp2_with fail
          refine hu.mono ?_
          clear hu
          rintro e w9 ⟨rfl, q9, rfl⟩
          have G8' := hide (And.intro (G8.out.1.then (grown_drewN _ q9 none)) G8.out.2)
          clear G8
          have hu := lLast_at G8'.out.1.at_
          rw [G8'.out.2, hla'] at hu
          go_wp2_with fail
          refine hu.mono ?_
          clear hu
          rintro e w9 ⟨rfl, rfl⟩
          obtain ⟨g8, hg8⟩ : ∃ g8, RoS w (World.drewN w8 q9) N b r k0 g8 ∧ g8.l = l ∧ True := ⟨g, G8'.out.1, G8'.out.2, trivial⟩
          have G8 := hide hg8
          clear hg8 G8'
          generalize World.drewN w8 q9 = w9 at *
          have G9 := hide G8.out
          by_cases h7 : j % 7 = 6
          · have ht : ((j : Int).tmod 7) = 6 := by rw [tmod7]; omega
            have hla := lLast_at G9.out.1.at_
            rw [G9.out.2.1] at hla
            go_wp2_with fail
            refine hla.mono ?_
            clear hla
            rintro e w10 ⟨rfl, rfl⟩
            have hrs := lReset_at G9.out.1.at_ ep HT.out.2.2.1
            rw [G9.out.2.1] at hrs
            go_wp2_with fail
            refine hrs.mono ?_
            clear hrs
            rintro e w11 ⟨rfl, h11, m11⟩
            have G11 : Hid (RoS w w11 N b r k0 (g8.reset ep) ∧ (g8.reset ep).l = l ∧ (g8.reset ep).end_ = 0 ∧ (g8.reset ep).la = g8.la ∧ (g8.reset ep).du = g8.la ∧ (g8.reset ep).e = ep) := ⟨⟨h11⟩, G9.out.2.1, rfl, rfl, rfl, rfl⟩
            clear h11 m11 G9
            generalize g8.reset ep = g11 at *
            generalize g8.la = la8 at *
            have hu := lUsed_at G11.out.1.at_
            rw [G11.out.2.1, G11.out.2.2.1] at hu
            go_wp2_with fail
            refine hu.mono ?_
            clear hu
            rintro e w12 ⟨rfl, q12, rfl⟩
            have G12 := hide (And.intro (G11.out.1.then (grown_drewN w11 q12 none)) G11.out.2)
            clear G11
            generalize w11.drewN q12 = w12 at *
            have hu := lRoom_at G12.out.1.at_
            rw [G12.out.2.1, G12.out.2.2.1, ← HL.out, Nat.sub_zero] at hu
            go_wp2_with fail
            refine hu.mono ?_
            clear hu
            rintro e w13 ⟨rfl, q13, rfl⟩
            have G13 := hide (And.intro (G12.out.1.then (grown_drewN w12 q13 none)) G12.out.2)
            clear G12
            generalize w12.drewN q13 = w13 at *
            have hu := lLast_at G13.out.1.at_
            rw [G13.out.2.1, G13.out.2.2.2.1] at hu
            go_wp2_with fail
            refine hu.mono ?_
            clear hu
            rintro e w14 ⟨rfl, rfl⟩
            have hu := lDurable_at G13.out.1.at_
            rw [G13.out.2.1, G13.out.2.2.2.2.1] at hu
            go_wp2_with fail
            refine hu.mono ?_
            clear hu
            rintro e w15 ⟨rfl, rfl⟩
            have hu := lEpoch_at G13.out.1.at_
            rw [G13.out.2.1, G13.out.2.2.2.2.2] at hu
            go_wp2_with fail
            refine hu.mono ?_
            clear hu
            rintro e w16 ⟨rfl, rfl⟩
            have hu := gCount_at G13.out.1.at_.dev G13.out.1.at_.rg
            have hu0 : (frD 0).cnt = 0 := rfl
            rw [hu0] at hu
            go_wp2_with fail
            refine hu.mono ?_
            clear hu hu0
            rintro e w17 ⟨rfl, rfl⟩
            go_wp2
            go_roundg (gk - 1)
            case measure => omega
            case rel => exact ⟨j + 1, by omega, by go_num, hide ⟨g11, G13.out.1, G13.out.2.1⟩⟩
          · have ht : ((j : Int).tmod 7 == 6) = false := by rw [tmod7]; simp; omega
            go_wp2
            go_roundg (gk - 1)
            case measure => omega
            case rel => exact ⟨j + 1, by omega, by go_num, hide ⟨g8, G9.out.1, G9.out.2.1⟩⟩
        · by_cases hro : 22 + nn ≤ R
          · have hac : apC N g nn = 0 := by
              unfold apC
              rw [if_neg (by omega), hfb.out, decide_eq_true (by omega)]
              rfl
            go_wp2_with fail
            have h7' := H7.out
            generalize w6.alloc (.cells (bv (zs nn)).toArray 5) = w7 at *
            generalize w6.heap.size = A at *
            have H7' := hide h7'
            clear h7' hmk
            refine (hap.out w7 A H7'.out.1 H7'.out.2).mono ?_
            rintro e w8 (⟨h1, _⟩ | ⟨h1, rfl, g8, h8, h9, h10, h11⟩)
            · exact absurd hac h1
            have G8 : Hid (RoS w w8 N b r k0 g8 ∧ g8.l = l ∧ True) := ⟨h8, h9, trivial⟩
            have HE : Hid (L - g8.end_ = R - 22 - nn ∧ g8.end_ = L - (R - 22 - nn)) := by constructor <;> omega
            clear h1 h8 h9 h10 h11 H7 H7' hac hap

            go_wp2_with fail
            refine (size_quiet (nn : Int) _).mono ?_
            rintro e w9 ⟨rfl, hw9⟩
            obtain rfl := hw9.symm
            have hsz : Fm.sizeF (nn : Int) = 22 + (nn : Int) := by unfold Fm.sizeF; rw [if_neg (by omega)]
            rw [hsz]
            clear hsz

            have hw1 : IntKind.u64.wrap (la + 1) = la + 1 := by rw [IntKind.wrap_u64]; omega
            have hu := lRoom_at G8.out.1.at_
            rw [G8.out.2.1, ← HL.out, HE.out.1] at hu
            have hrr : ((R - 22 - nn : Nat) : Int) = (R : Int) - 22 - (nn : Int) := by omega
            rw [hrr] at hu
            go_wp2_with fail
            refine hu.mono ?_
            clear hu
            rintro e w9 ⟨rfl, q9, rfl⟩
            have G9' := hide (And.intro (G8.out.1.then (grown_drewN _ q9 none)) G8.out.2)
            clear G8
            generalize w8.drewN q9 = w9 at *
            have hu := lUsed_at G9'.out.1.at_
            rw [G9'.out.2.1, HE.out.2] at hu
            have hrr2 : ((L - (R - 22 - nn) : Nat) : Int) = (L : Int) - ((R : Int) - 22 - (nn : Int)) := by omega
            rw [hrr2] at hu
            go_wp2_with fail
            refine hu.mono ?_
            clear hu
            rintro e w10 ⟨rfl, q10, rfl⟩
            have G10 := hide (And.intro (G9'.out.1.then (grown_drewN _ q10 none)) G9'.out.2)
            clear G9'
            generalize w9.drewN q10 = w10 at *
            have hu := lRoom_at G10.out.1.at_
            rw [G10.out.2.1, ← HL.out, HE.out.1, hrr] at hu
            go_wp2_with fail
            refine hu.mono ?_
            clear hu
            rintro e w11 ⟨rfl, q11, rfl⟩
            have G8 := hide (And.intro (G10.out.1.then (grown_drewN _ q11 none)) G10.out.2)
            clear G10
            generalize w10.drewN q11 = w11 at *
            have G9 := hide G8.out
            by_cases h7 : j % 7 = 6
            · have ht : ((j : Int).tmod 7) = 6 := by rw [tmod7]; omega
              have hla := lLast_at G9.out.1.at_
              rw [G9.out.2.1] at hla
              go_wp2_with fail
              refine hla.mono ?_
              clear hla
              rintro e w10 ⟨rfl, rfl⟩
              have hrs := lReset_at G9.out.1.at_ ep HT.out.2.2.1
              rw [G9.out.2.1] at hrs
              go_wp2_with fail
              refine hrs.mono ?_
              clear hrs
              rintro e w11 ⟨rfl, h11, m11⟩
              have G11 : Hid (RoS w w11 N b r k0 (g8.reset ep) ∧ (g8.reset ep).l = l ∧ (g8.reset ep).end_ = 0 ∧ (g8.reset ep).la = g8.la ∧ (g8.reset ep).du = g8.la ∧ (g8.reset ep).e = ep) := ⟨⟨h11⟩, G9.out.2.1, rfl, rfl, rfl, rfl⟩
              clear h11 m11 G9
              generalize g8.reset ep = g11 at *
              generalize g8.la = la8 at *
              have hu := lUsed_at G11.out.1.at_
              rw [G11.out.2.1, G11.out.2.2.1] at hu
              go_wp2_with fail
              refine hu.mono ?_
              clear hu
              rintro e w12 ⟨rfl, q12, rfl⟩
              have G12 := hide (And.intro (G11.out.1.then (grown_drewN w11 q12 none)) G11.out.2)
              clear G11
              generalize w11.drewN q12 = w12 at *
              have hu := lRoom_at G12.out.1.at_
              rw [G12.out.2.1, G12.out.2.2.1, ← HL.out, Nat.sub_zero] at hu
              go_wp2_with fail
              refine hu.mono ?_
              clear hu
              rintro e w13 ⟨rfl, q13, rfl⟩
              have G13 := hide (And.intro (G12.out.1.then (grown_drewN w12 q13 none)) G12.out.2)
              clear G12
              generalize w12.drewN q13 = w13 at *
              have hu := lLast_at G13.out.1.at_
              rw [G13.out.2.1, G13.out.2.2.2.1] at hu
              go_wp2_with fail
              refine hu.mono ?_
              clear hu
              rintro e w14 ⟨rfl, rfl⟩
              have hu := lDurable_at G13.out.1.at_
              rw [G13.out.2.1, G13.out.2.2.2.2.1] at hu
              go_wp2_with fail
              refine hu.mono ?_
              clear hu
              rintro e w15 ⟨rfl, rfl⟩
              have hu := lEpoch_at G13.out.1.at_
              rw [G13.out.2.1, G13.out.2.2.2.2.2] at hu
              go_wp2_with fail
              refine hu.mono ?_
              clear hu
              rintro e w16 ⟨rfl, rfl⟩
              have hu := gCount_at G13.out.1.at_.dev G13.out.1.at_.rg
              have hu0 : (frD 0).cnt = 0 := rfl
              rw [hu0] at hu
              go_wp2_with fail
              refine hu.mono ?_
              clear hu hu0
              rintro e w17 ⟨rfl, rfl⟩
              go_wp2
              go_roundg (gk - 1)
              case measure => omega
              case rel => exact ⟨j + 1, by omega, by go_num, hide ⟨g11, G13.out.1, G13.out.2.1⟩⟩
            · have ht : ((j : Int).tmod 7 == 6) = false := by rw [tmod7]; simp; omega
              go_wp2
              go_roundg (gk - 1)
              case measure => omega
              case rel => exact ⟨j + 1, by omega, by go_num, hide ⟨g8, G9.out.1, G9.out.2.1⟩⟩
          · have hac : apC N g nn = 6 := by
              unfold apC
              rw [if_neg (by omega), hfb.out, decide_eq_false (by omega)]
              rfl
            go_wp2_with fail
            have h7' := H7.out
            generalize w6.alloc (.cells (bv (zs nn)).toArray 5) = w7 at *
            generalize w6.heap.size = A at *
            have H7' := hide h7'
            clear h7' hmk
            refine (hap.out w7 A H7'.out.1 H7'.out.2).mono ?_
            intro e w8 hor
            obtain ⟨rfl, h3⟩ := (hor.resolve_right (fun h => absurd h.1 (by rw [hac]; decide))).2
            clear hor
            rw [hac]
            have G8 : Hid (RoS w w8 N b r k0 g ∧ g.l = l) := ⟨H7'.out.1.then h3, HGL.out⟩
            clear h3 H7 H7' hac hap
            go_wp2_with fail
            refine (size_quiet (nn : Int) _).mono ?_
            rintro e w9 ⟨rfl, hw9⟩
            obtain rfl := hw9.symm
            have hsz : Fm.sizeF (nn : Int) = 22 + (nn : Int) := by unfold Fm.sizeF; rw [if_neg (by omega)]
            rw [hsz]
            clear hsz
            have hu := lRoom_at G8.out.1.at_
            rw [G8.out.2, ← HL.out, ← hR] at hu
            go_wp2_with fail
            refine hu.mono ?_
            clear hu
            rintro e w9 ⟨rfl, q9, rfl⟩
            have G8' := hide (And.intro (G8.out.1.then (grown_drewN _ q9 none)) G8.out.2)
            clear G8
            have hu := lLast_at G8'.out.1.at_
            rw [G8'.out.2, hla'] at hu
            go_wp2_with fail
            refine hu.mono ?_
            clear hu
            rintro e w9 ⟨rfl, rfl⟩
            obtain ⟨g8, hg8⟩ : ∃ g8, RoS w (World.drewN w8 q9) N b r k0 g8 ∧ g8.l = l ∧ True := ⟨g, G8'.out.1, G8'.out.2, trivial⟩
            have G8 := hide hg8
            clear hg8 G8'
            generalize World.drewN w8 q9 = w9 at *
            have G9 := hide G8.out
            by_cases h7 : j % 7 = 6
            · have ht : ((j : Int).tmod 7) = 6 := by rw [tmod7]; omega
              have hla := lLast_at G9.out.1.at_
              rw [G9.out.2.1] at hla
              go_wp2_with fail
              refine hla.mono ?_
              clear hla
              rintro e w10 ⟨rfl, rfl⟩
              have hrs := lReset_at G9.out.1.at_ ep HT.out.2.2.1
              rw [G9.out.2.1] at hrs
              go_wp2_with fail
              refine hrs.mono ?_
              clear hrs
              rintro e w11 ⟨rfl, h11, m11⟩
              have G11 : Hid (RoS w w11 N b r k0 (g8.reset ep) ∧ (g8.reset ep).l = l ∧ (g8.reset ep).end_ = 0 ∧ (g8.reset ep).la = g8.la ∧ (g8.reset ep).du = g8.la ∧ (g8.reset ep).e = ep) := ⟨⟨h11⟩, G9.out.2.1, rfl, rfl, rfl, rfl⟩
              clear h11 m11 G9
              generalize g8.reset ep = g11 at *
              generalize g8.la = la8 at *
              have hu := lUsed_at G11.out.1.at_
              rw [G11.out.2.1, G11.out.2.2.1] at hu
              go_wp2_with fail
              refine hu.mono ?_
              clear hu
              rintro e w12 ⟨rfl, q12, rfl⟩
              have G12 := hide (And.intro (G11.out.1.then (grown_drewN w11 q12 none)) G11.out.2)
              clear G11
              generalize w11.drewN q12 = w12 at *
              have hu := lRoom_at G12.out.1.at_
              rw [G12.out.2.1, G12.out.2.2.1, ← HL.out, Nat.sub_zero] at hu
              go_wp2_with fail
              refine hu.mono ?_
              clear hu
              rintro e w13 ⟨rfl, q13, rfl⟩
              have G13 := hide (And.intro (G12.out.1.then (grown_drewN w12 q13 none)) G12.out.2)
              clear G12
              generalize w12.drewN q13 = w13 at *
              have hu := lLast_at G13.out.1.at_
              rw [G13.out.2.1, G13.out.2.2.2.1] at hu
              go_wp2_with fail
              refine hu.mono ?_
              clear hu
              rintro e w14 ⟨rfl, rfl⟩
              have hu := lDurable_at G13.out.1.at_
              rw [G13.out.2.1, G13.out.2.2.2.2.1] at hu
              go_wp2_with fail
              refine hu.mono ?_
              clear hu
              rintro e w15 ⟨rfl, rfl⟩
              have hu := lEpoch_at G13.out.1.at_
              rw [G13.out.2.1, G13.out.2.2.2.2.2] at hu
              go_wp2_with fail
              refine hu.mono ?_
              clear hu
              rintro e w16 ⟨rfl, rfl⟩
              have hu := gCount_at G13.out.1.at_.dev G13.out.1.at_.rg
              have hu0 : (frD 0).cnt = 0 := rfl
              rw [hu0] at hu
              go_wp2_with fail
              refine hu.mono ?_
              clear hu hu0
              rintro e w17 ⟨rfl, rfl⟩
              go_wp2
              go_roundg (gk - 1)
              case measure => omega
              case rel => exact ⟨j + 1, by omega, by go_num, hide ⟨g11, G13.out.1, G13.out.2.1⟩⟩
            · have ht : ((j : Int).tmod 7 == 6) = false := by rw [tmod7]; simp; omega
              go_wp2
              go_roundg (gk - 1)
              case measure => omega
              case rel => exact ⟨j + 1, by omega, by go_num, hide ⟨g8, G9.out.1, G9.out.2.1⟩⟩
      · have hac : apC N g nn = 3 := by
          unfold apC
          rw [if_pos (by omega)]
        go_wp2_with fail
        have h7' := H7.out
        generalize w6.alloc (.cells (bv (zs nn)).toArray 5) = w7 at *
        generalize w6.heap.size = A at *
        have H7' := hide h7'
        clear h7' hmk
        refine (hap.out w7 A H7'.out.1 H7'.out.2).mono ?_
        intro e w8 hor
        obtain ⟨rfl, h3⟩ := (hor.resolve_right (fun h => absurd h.1 (by rw [hac]; decide))).2
        clear hor
        rw [hac]
        have G8 : Hid (RoS w w8 N b r k0 g ∧ g.l = l) := ⟨H7'.out.1.then h3, HGL.out⟩
        clear h3 H7 H7' hac hap
        have hu := lRoom_at G8.out.1.at_
        rw [G8.out.2, ← HL.out, ← hR] at hu
        go_wp2_with fail
        refine hu.mono ?_
        clear hu
        rintro e w9 ⟨rfl, q9, rfl⟩
        have G8' := hide (And.intro (G8.out.1.then (grown_drewN _ q9 none)) G8.out.2)
        clear G8
        have hu := lLast_at G8'.out.1.at_
        rw [G8'.out.2, hla'] at hu
        go_wp2_with fail
        refine hu.mono ?_
        clear hu
        rintro e w9 ⟨rfl, rfl⟩
        obtain ⟨g8, hg8⟩ : ∃ g8, RoS w (World.drewN w8 q9) N b r k0 g8 ∧ g8.l = l ∧ True := ⟨g, G8'.out.1, G8'.out.2, trivial⟩
        have G8 := hide hg8
        clear hg8 G8'
        generalize World.drewN w8 q9 = w9 at *
        have G9 := hide G8.out
        by_cases h7 : j % 7 = 6
        · have ht : ((j : Int).tmod 7) = 6 := by rw [tmod7]; omega
          have hla := lLast_at G9.out.1.at_
          rw [G9.out.2.1] at hla
          go_wp2_with fail
          refine hla.mono ?_
          clear hla
          rintro e w10 ⟨rfl, rfl⟩
          have hrs := lReset_at G9.out.1.at_ ep HT.out.2.2.1
          rw [G9.out.2.1] at hrs
          go_wp2_with fail
          refine hrs.mono ?_
          clear hrs
          rintro e w11 ⟨rfl, h11, m11⟩
          have G11 : Hid (RoS w w11 N b r k0 (g8.reset ep) ∧ (g8.reset ep).l = l ∧ (g8.reset ep).end_ = 0 ∧ (g8.reset ep).la = g8.la ∧ (g8.reset ep).du = g8.la ∧ (g8.reset ep).e = ep) := ⟨⟨h11⟩, G9.out.2.1, rfl, rfl, rfl, rfl⟩
          clear h11 m11 G9
          generalize g8.reset ep = g11 at *
          generalize g8.la = la8 at *
          have hu := lUsed_at G11.out.1.at_
          rw [G11.out.2.1, G11.out.2.2.1] at hu
          go_wp2_with fail
          refine hu.mono ?_
          clear hu
          rintro e w12 ⟨rfl, q12, rfl⟩
          have G12 := hide (And.intro (G11.out.1.then (grown_drewN w11 q12 none)) G11.out.2)
          clear G11
          generalize w11.drewN q12 = w12 at *
          have hu := lRoom_at G12.out.1.at_
          rw [G12.out.2.1, G12.out.2.2.1, ← HL.out, Nat.sub_zero] at hu
          go_wp2_with fail
          refine hu.mono ?_
          clear hu
          rintro e w13 ⟨rfl, q13, rfl⟩
          have G13 := hide (And.intro (G12.out.1.then (grown_drewN w12 q13 none)) G12.out.2)
          clear G12
          generalize w12.drewN q13 = w13 at *
          have hu := lLast_at G13.out.1.at_
          rw [G13.out.2.1, G13.out.2.2.2.1] at hu
          go_wp2_with fail
          refine hu.mono ?_
          clear hu
          rintro e w14 ⟨rfl, rfl⟩
          have hu := lDurable_at G13.out.1.at_
          rw [G13.out.2.1, G13.out.2.2.2.2.1] at hu
          go_wp2_with fail
          refine hu.mono ?_
          clear hu
          rintro e w15 ⟨rfl, rfl⟩
          have hu := lEpoch_at G13.out.1.at_
          rw [G13.out.2.1, G13.out.2.2.2.2.2] at hu
          go_wp2_with fail
          refine hu.mono ?_
          clear hu
          rintro e w16 ⟨rfl, rfl⟩
          have hu := gCount_at G13.out.1.at_.dev G13.out.1.at_.rg
          have hu0 : (frD 0).cnt = 0 := rfl
          rw [hu0] at hu
          go_wp2_with fail
          refine hu.mono ?_
          clear hu hu0
          rintro e w17 ⟨rfl, rfl⟩
          go_wp2
          go_roundg (gk - 1)
          case measure => omega
          case rel => exact ⟨j + 1, by omega, by go_num, hide ⟨g11, G13.out.1, G13.out.2.1⟩⟩
        · have ht : ((j : Int).tmod 7 == 6) = false := by rw [tmod7]; simp; omega
          go_wp2
          go_roundg (gk - 1)
          case measure => omega
          case rel => exact ⟨j + 1, by omega, by go_num, hide ⟨g8, G9.out.1, G9.out.2.1⟩⟩
    · have hjm : j = min m 200 := by omega
      obtain ⟨g, hg0, hgl⟩ := HR.out
      have G0 := hide hg0.at_.grown0
      clear hg0 hgl HR
      have hend : m ≤ j ∨ (j < m ∧ 200 ≤ j) := by omega
      rcases hend with he | he
      · have hj1 : (m : Int) ≤ (j : Int) := by omega
        go_wp2_with fail
        refine (awake_any wr (HT.out.1.grown G0.out) (Nat.lt_of_lt_of_le HT.out.2.1 G0.out.size)).mono ?_
        rintro e w9 ⟨rfl, g9⟩
        have G9 := hide (grown_trans G0.out g9)
        clear g9
        go_wp2
        go_ret
        exact ⟨rfl, G9.out⟩
      · have hj1 : (j : Int) < (m : Int) := by omega
        have hj2 : (200 : Int) ≤ (j : Int) := by omega
        go_wp2_with fail
        refine (awake_any wr (HT.out.1.grown G0.out) (Nat.lt_of_lt_of_le HT.out.2.1 G0.out.size)).mono ?_
        rintro e w9 ⟨rfl, g9⟩
        have G9 := hide (grown_trans G0.out g9)
        clear g9
        go_wp2
        go_ret
        exact ⟨rfl, G9.out⟩
end Go.Proofs.YtofdijaipjkfbaaDoor
