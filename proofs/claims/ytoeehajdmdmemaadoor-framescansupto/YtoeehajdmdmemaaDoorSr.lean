/- The contract of the document's Row. -/
import Derived.Test.YtoeehajdmdmemaaDoorBb
namespace Go.Proofs.YtoeehajdmdmemaaDoor
open Go.RowKit
attribute [local go_sem ↓] Go.wp_at_zero Go.wp_at_succ

/-- Inside Row, behind the frames pre: the frames, their places. -/
structure SrS (w W : World) (vo vp : Value) (E S : Int) (xs : List Int) (pre : List El) : Prop where
  out : FsAt W w.heap.size vo pre
  pla : W.ownsRow w.heap.size 3 1 vp pre.length (ints (plc (frs pre)))
  gr : w.grownBy W none
  row : RowInv E S xs (frs pre)
theorem SrS.nil (w : World) (E S : Int) (xs : List Int) (h : S < 18446744073709551616) : SrS w w (.slice none 0 0) (.slice none 0 0) E S xs [] :=
  ⟨FsAt.nil _ _, World.ownsRow_nil _ _ _ _, grown_refl _ _, RowInv.start h⟩
theorem SrS.grown {w W W' : World} {vo vp : Value} {E S : Int} {xs : List Int} {pre : List El} (h : SrS w W vo vp E S xs pre) (hg : W.grownBy W' none) : SrS w W' vo vp E S xs pre :=
  ⟨h.out.grown hg, own_grown h.pla hg, grown_trans h.gr hg, h.row⟩

set_option maxRecDepth 100000 in
set_option maxHeartbeats 4000000 in
theorem row_any (ao : Option Addr) (n cap : Nat) (xs : List Int) (E S : Int) (w : World) (h : Src w ao n cap xs) (hS0 : 0 ≤ S) (hS1 : S < 18446744073709551616) (hb : n ≤ 1099511627776) :
    Calls Tryd.prog 26 #[.slice ao n cap, .int .u64 E, .int .u64 S] w fun e w' => ∃ v u ys, e = .returned (.tuple #[v, u, .int .i64 ((fend (rowF E S xs) : Nat) : Int)]) ∧ frs ys = rowF E S xs ∧ FsAt w' w.heap.size v ys ∧ w'.ownsRow w.heap.size 3 1 u ys.length (ints (plc (frs ys))) ∧ w.grownBy w' none := by
  have H := hide h
  clear h
  go_enter Tryd.func26, Tryd.ntmps26
  go_wp2
  go_loopg [2, 9, 10, 11] n (fun k q2 q9 q10 q11 wr => ∃ pre : List El, k + fend (frs pre) = n ∧ q2 = .int .u64 (S + (pre.length : Int)) ∧ q11 = .int .i64 ((fend (frs pre) : Nat) : Int) ∧ SrS w wr q9 q10 E S xs pre)
  case atStart => exact ⟨[], by simp [fend, frs], by simp, rfl, SrS.nil w E S xs hS1⟩
  case round =>
    obtain ⟨pre, hk0, rfl, rfl, hB⟩ := hrel
    obtain ⟨yo, yc, rfl⟩ := own_form hB.out.own
    obtain ⟨zo, zc, rfl⟩ := own_form hB.pla
    have hlen := frs_length pre
    have hRt := hB.row.top
    have hRf := hB.row.fits
    rw [hlen] at hRt
    rw [H.out.len] at hRf
    have h22 := fend_len (frs pre)
    rw [hlen] at h22
    obtain ⟨T, hT⟩ : ∃ T, T = S + (pre.length : Int) := ⟨_, rfl⟩
    rw [← hT] at hRt ⊢
    have HT := hide hT
    have hT0 : 0 ≤ T := by omega
    clear hT
    obtain ⟨k, hk⟩ : ∃ k, k = fend (frs pre) := ⟨_, rfl⟩
    rw [← hk] at hRf hk0 h22 ⊢
    have HK := hide hk
    have HK0 := hide hk0
    clear hk hlen hk0
    have hsf := slice_from ao n cap k hRf
    have HG := hide (rget_any (xs.drop k) (H.out.byt.drop k) (cutA ao k cap) (n - k) (cap - k) wr (by rw [List.length_drop, H.out.len]) ((H.out.grown hB.gr).lies.cut k cap (by rw [H.out.len]; exact H.out.fits)) (cut_nil H.out.nil) (by have := H.out.fits; omega) (by have := H.out.sm; omega))
    have HB := hide hB
    clear hB
    go_wp2_with fail
    refine HG.out.mono ?_
    rintro e w1 ⟨v, rfl, hv, hg⟩
    obtain ⟨G, hG⟩ : ∃ G, G = getF (xs.drop k) := ⟨_, rfl⟩
    rw [← hG] at hv ⊢
    have HGd := hide hG
    obtain ⟨vo, vc, rfl⟩ := own_form hv
    have HV := hide (And.intro hv hg)
    rcases G with ⟨⟨e', s', b'⟩, gn, gc⟩
    clear hv hg hG HG hsf
    simp only at HV ⊢
    have hgA := World.grownBy_alloc w1 (.cells #[.int .u64 e', .int .u64 s', .slice vo b'.length vc] 25) none
    have hg2 := grown_trans HV.out.2 hgA
    have hb2 := heap_alloc_new w1 (.cells [Value.int .u64 e', .int .u64 s', .slice vo b'.length vc].toArray 25)
    have HX := hide (And.intro (HB.out.grown hg2) (And.intro hb2 (And.intro (own_grown HV.out.1 hgA) (HV.out.2.size))))
    have hsz1 : (w1.alloc (.cells #[.int .u64 e', .int .u64 s', .slice vo b'.length vc] 25)).heap.size = w1.heap.size + 1 := by simp
    have hstop : ∀ (h : ¬ Goes E T (xs.drop k)), frs pre = rowF E S xs := fun h => by
      refine (HB.out.row.stop ?_).symm
      rw [frs_length, ← HT.out, ← HK.out]
      exact h
    have HS := hide hstop
    obtain ⟨d0, d1, d2⟩ := box_cells hb2
    unfold frV
    clear hg2 hb2 hstop hgA HV
    have hw1 : Hid (IntKind.u64.wrap (T + 1) = if T = 18446744073709551615 then 0 else T + 1) := by
      refine hide ?_
      rw [IntKind.wrap_u64]
      split <;> omega
    by_cases hc0 : gc = 0
    · subst hc0
      by_cases he : e' = E
      · subst he
        by_cases hmax : T = 18446744073709551615
        · have hw2 : IntKind.u64.wrap (T + 1) = 0 := by rw [hw1.out, if_pos hmax]
          have HE := hide (HS.out (fun h => by have := h.2.2.2; omega))
          clear hmax
          by_cases hs : s' = 0
          · subst hs
            go_wp2
            go_ret3
            exact ⟨_, _, pre, by rw [← HE.out, ← HK.out]; rfl, HE.out, HX.out.1.out, HX.out.1.pla, HX.out.1.gr⟩
          · have hne : (s' != 0) = true := by simpa using hs
            clear hs
            go_wp2
            go_ret3
            exact ⟨_, _, pre, by rw [← HE.out, ← HK.out]; rfl, HE.out, HX.out.1.out, HX.out.1.pla, HX.out.1.gr⟩
        · have hw2 : IntKind.u64.wrap (T + 1) = T + 1 := by rw [hw1.out, if_neg hmax]
          have hTm : T < 18446744073709551615 := by omega
          clear hmax
          by_cases hs : s' = T + 1
          · subst hs
            have hn0 : (T + 1 == 0) = false := by simp; omega
            have hGo : Goes e' (S + ((frs pre).length : Int)) (xs.drop (fend (frs pre))) := by
              rw [frs_length, ← HT.out, ← HK.out]
              unfold Goes
              rw [← HGd.out]
              exact ⟨rfl, rfl, rfl, by omega⟩
            obtain ⟨r1, r2, r3, r4⟩ := HB.out.row.step H.out.byt hGo
            rw [← HK.out, ← HGd.out] at r1 r2 r3 r4
            simp only at r1 r2 r3 r4
            have hfit := r1.fits
            rw [fend_snoc, ← HK.out, H.out.len] at hfit
            simp only at hfit
            have hgn : gn ≤ 54 := by omega
            have hkm : k + gn ≤ n := by omega
            have hgp : 0 < gn := by omega
            have HR := hide (And.intro r1 (And.intro r2 (And.intro r3 r4)))
            clear hGo r1 r2 r3 r4 hfit HS
            obtain ⟨i25, hi, hz0, hz1, hz2⟩ := info_parts Tryd.info25
            have HI25 := hide (And.intro hi (And.intro hz0 (And.intro hz1 hz2)))
            clear hi hz0 hz1 hz2
            obtain ⟨i3, hi, hz0, hz1, hz2⟩ := info_parts Tryd.info3
            have HI3 := hide (And.intro hi (And.intro hz0 (And.intro hz1 hz2)))
            clear hi hz0 hz1 hz2
            have hpn : pre.length ≤ 1099511627776 := by omega
            have hcell1 : ∀ (wf : World) jj u, [Value.int .i64 (k : Int)][jj]? = some u → (wf.alloc (.cells #[.int .i64 (k : Int)] 3)).cell? ((⟨wf.heap.size, 0, none⟩ : Addr).add jj) = some u := by
              intro wf jj u hu
              rw [Addr.add_lit, Nat.zero_add, cell_row (heap_alloc_new wf (.cells [Value.int .i64 (k : Int)].toArray 3))]
              exact hu
            have HC1 := hide hcell1
            clear hcell1
            have HH : Hid (∀ y ∈ pre, y.hi ≤ wr.heap.size) := fun y hy => (HB.out.out.each y hy).1.size
            have HWr : Hid (w.heap.size ≤ wr.heap.size) := HB.out.gr.size
            obtain ⟨w2, hW2⟩ : ∃ w2, w2 = w1.alloc (.cells #[.int .u64 e', .int .u64 (T + 1), .slice vo b'.length vc] 25) := ⟨_, rfl⟩
            rw [← hW2] at HX hsz1
            have HW2 := hide (And.intro hW2 hsz1)
            have hbase := HX.out.1.gr.size
            have hcell3 := cell3_new w2 (.int .u64 e') (.int .u64 (T + 1)) (.slice vo b'.length vc) 25
            rw [hsz1] at hcell3
            have HC3 := hide hcell3
            clear hW2 hsz1 hcell3
            go_wp2_with (at_builtin; rw [← HW2.out.1]; refine wpList_append_own _ rfl (.tmp 46) (.tmp 48) 41 rfl w.heap.size 25 i25 (.agg #[.int .u64 0, .int .u64 0, .slice none 0 0]) 3 40 Tryd.underlying41 HI25.out.1 HI25.out.2.1 HI25.out.2.2.1 HI25.out.2.2.2 rfl (by decide) (.slice yo pre.length yc) pre.length (fcl pre) rfl (own_grown HX.out.1.out.own (World.grownBy_alloc w2 _ none)) ⟨w1.heap.size + 1, 0, none⟩ 1 1 [.int .u64 e', .int .u64 (T + 1), .slice vo b'.length vc] rfl rfl HC3.out (by simp [Value.oneCell']) (by unfold maxLen; omega) (by omega) (by simp; omega) ?_)
            intro v' w3 ho hg hne
            obtain ⟨yo', yc', rfl⟩ := own_form ho
            have HF : Hid (FsAt w3 w.heap.size (.slice yo' (pre.length + 1) yc') (pre ++ [⟨k, ⟨e', T + 1, b'⟩, .slice vo b'.length vc, wr.heap.size, w2.heap.size⟩]) ∧ w3.ownsRow w.heap.size 3 1 (.slice zo pre.length zc) pre.length (ints (plc (frs pre))) ∧ w.grownBy w3 none ∧ w2.heap.size ≤ w3.heap.size) := by
              obtain ⟨hB, hbx, hvx, hsx⟩ := HX.out
              have gaW := World.grownBy_alloc w2 (.cells #[.int .u64 e', .int .u64 (T + 1), .slice vo b'.length vc] 25) none
              have ow := own_grown hB.out.own gaW
              refine ⟨(hB.out.grown gaW).push ho hg (El.At.grown ⟨hvx, (fun j hj => (hvx.lt j hj).2), Nat.le_refl _⟩ gaW) HWr.out HR.out.2.1 HR.out.2.2.1 HH.out, own_app (own_grown hB.pla gaW) ow hg (by decide), grown_then (grown_trans hB.gr gaW) hg (fun jj e => Or.inl (ow.lt jj e).1), ?_⟩
              exact Nat.le_trans gaW.size hg.size
            have hsz3 : w2.heap.size ≤ w3.heap.size := HF.out.2.2.2
            have hb3 : w.heap.size ≤ w3.heap.size := by omega
            clear ho hg hne HX d0 d1 d2
            go_wp2_with (at_builtin; refine wpList_append_own _ rfl (.tmp 50) (.tmp 52) 47 rfl w.heap.size 3 i3 (.int .i64 0) 1 8 Tryd.underlying47 HI3.out.1 HI3.out.2.1 HI3.out.2.2.1 HI3.out.2.2.2 rfl (by decide) (.slice zo pre.length zc) pre.length (ints (plc (frs pre))) rfl (own_grown HF.out.2.1 (World.grownBy_alloc w3 _ none)) ⟨w3.heap.size, 0, none⟩ 1 1 [.int .i64 (k : Int)] rfl rfl (HC1.out w3) (by simp [Value.oneCell']) (by unfold maxLen; omega) (by omega) (by simp; omega) ?_)
            intro u' w4 ho hg hne
            obtain ⟨zo', zc', rfl⟩ := own_form ho
            have HF2 : Hid (SrS w w4 (.slice yo' (pre.length + 1) yc') (.slice zo' (pre.length + 1) zc') e' S xs (pre ++ [⟨k, ⟨e', T + 1, b'⟩, .slice vo b'.length vc, wr.heap.size, w2.heap.size⟩])) := by
              have gaW := World.grownBy_alloc w3 (.cells #[.int .i64 (k : Int)] 3) none
              have ow := own_grown HF.out.2.1 gaW
              have hfx : frs (pre ++ [⟨k, ⟨e', T + 1, b'⟩, .slice vo b'.length vc, wr.heap.size, w2.heap.size⟩]) = frs pre ++ [⟨e', T + 1, b'⟩] := frs_snoc _ _
              refine ⟨fs_app (HF.out.1.grown gaW) ow hg (by decide) (by decide), ?_, grown_then (grown_trans HF.out.2.2.1 gaW) hg (fun jj e => Or.inl (ow.lt jj e).1), by rw [hfx]; exact HR.out.1⟩
              rw [hfx, plc_snoc, ints_snoc, ← HK.out, List.length_append]
              exact ho
            clear ho hg hne HF
            have hsum : Hid ((k : Int) + (gn : Int) = ((k + gn : Nat) : Int)) := by show _ = _; omega
            go_wp2
            go_roundg (gk - gn)
            case measure => have := HK0.out; omega
            case rel =>
              refine ⟨_, ?_, ?_, ?_, HF2.out⟩
              · rw [frs_snoc, fend_snoc, ← HK.out, ← HR.out.2.2.2]; have := HK0.out; omega
              · rw [HT.out]; simp; omega
              · rw [frs_snoc, fend_snoc, ← HK.out, ← HR.out.2.2.2, hsum.out]
          · have HE := hide (HS.out (fun h => hs (by have := h.2.2.1; rw [← HGd.out] at this; exact this)))
            have hne : (s' != T + 1) = true := by simpa using hs
            clear hs
            go_wp2
            go_ret3
            exact ⟨_, _, pre, by rw [← HE.out, ← HK.out]; rfl, HE.out, HX.out.1.out, HX.out.1.pla, HX.out.1.gr⟩
      · have HE := hide (HS.out (fun h => he (by have := h.2.1; rw [← HGd.out] at this; exact this)))
        have hne : (e' != E) = true := by simpa using he
        clear he
        go_wp2
        go_ret3
        exact ⟨_, _, pre, by rw [← HE.out, ← HK.out]; rfl, HE.out, HX.out.1.out, HX.out.1.pla, HX.out.1.gr⟩
    · have HE := hide (HS.out (fun h => hc0 (by have := h.1; rw [← HGd.out] at this; exact this)))
      have hne : (gc != 0) = true := by simpa using hc0
      clear hc0
      go_wp2
      go_ret3
      exact ⟨_, _, pre, by rw [← HE.out, ← HK.out]; rfl, HE.out, HX.out.1.out, HX.out.1.pla, HX.out.1.gr⟩
end Go.Proofs.YtoeehajdmdmemaaDoor
