/- Fares: the document's Limits. -/
import Derived.Test.YtbebblhnhpdpjaaWh
namespace Go.Proofs.Ytbebblhnhpdpjaa
open Go.RowKit Ieee
attribute [local go_sem ↓] Go.wp_at_zero Go.wp_at_succ
attribute [local go_sem] run_store_float

/-- What the document's Limits tells. -/
def RlP (W0 : World) (l : List Fa) (seats : Int) (e : Ending) (w' : World) : Prop :=
  (cE l seats ≠ 0 ∧ e = .returned (.tuple #[.slice none 0 0, .int .i64 (cE l seats)]) ∨ cE l seats = 0 ∧ ∃ (s : Nat) (x : Value), seats = ((s : Nat) : Int) ∧ s ≤ 1024 ∧ e = .returned (.tuple #[x, .int .i64 0]) ∧ w'.ownsRow W0.heap.size 3 1 x l.length (iv (lms s l l.length))) ∧ W0.grownBy w' none

set_option maxRecDepth 20000 in
set_option maxHeartbeats 4000000 in
theorem rlimits_any (ao : Option Addr) (cap n : Nat) (l : List Fa) (seats : Int) (w : World) (hn : n = l.length) (hb : FasAt w ao l) (hs : n ≤ 140737488355328) :
    Calls Try.prog 17 #[.slice ao n cap, .int .i64 seats] w (RlP w l seats) := by
  have HC := hide (rwrong_any ao cap n l seats w hn hb hs)
  have HB := hide hb
  have HN := hide hn
  have hcc := cE_cases l seats
  obtain ⟨i0, hi, hz0, hz1, hz2⟩ := info_parts Try.info3
  have HI := hide (And.intro hi (And.intro hz0 (And.intro hz1 hz2)))
  clear hn hb hi hz0 hz1 hz2
  go_enter Try.func17, Try.ntmps17
  go_wp2_with fail
  refine HC.out.mono ?_
  rintro e w1 ⟨rfl, hg1⟩
  have HG1 := hide hg1
  have hgs1 := hg1.size
  clear hg1 HC
  by_cases hz : cE l seats = 0
  · obtain ⟨hm, s, hse, hs2⟩ := cE_zero hz
    obtain ⟨h16, hgd⟩ := mayB_good hm
    have HZ := hide hz
    have HGd := hide hgd
    have HBd := hide (bd_vs s hgd)
    rw [hz]
    subst hse
    have hn16 : n ≤ 16 := by have := HN.out; omega
    have hmk := make_reals (s + 1) (by omega) w1
    have hw1 : IntKind.i64.wrap ((s : Int) + 1) = ((s + 1 : Nat) : Int) := by rw [IntKind.wrap_i64]; omega
    have hnat : ((s + 1 : Nat) : Int) = (s : Int) + 1 := by omega
    rw [hnat] at hmk hw1
    have f0 : Fb (w1.alloc (.cells (fv (List.replicate (s + 1) 0)).toArray 33)) w1.heap.size (List.replicate (s + 1) 0) := heap_alloc_new w1 _
    have fo : (w1.alloc (.cells (fv (List.replicate (s + 1) 0)).toArray 33)).ownsRow w.heap.size 33 1 (.slice (some ⟨w1.heap.size, 0, none⟩) (s + 1) (s + 1)) (s + 1) (fv (vs s (l.take 0))) :=
      ⟨by rw [fv_length, vs_length, Nat.mul_one], Or.inr ⟨w1.heap.size, s + 1, _, rfl, hgs1, f0, Nat.le_refl _, by unfold maxLen; omega, by simp [fv_length], by rw [Nat.mul_one]; exact List.take_of_length_le (by simp [fv_length])⟩⟩
    have HA0 := hide (And.intro fo (grown_trans HG1.out (grown_alloc w1 (.cells (fv (List.replicate (s + 1) 0)).toArray 33))))
    clear hgd hm hz hcc f0 hnat fo
    go_wp2
    generalize w1.alloc (.cells (fv (List.replicate (s + 1) 0)).toArray 33) = w2 at *
    clear hmk hw1
    go_loopg [7, 8, 9] n (fun k x v i wr => ∃ (j : Nat) (a : Option Addr) (c : Nat), k + j = n ∧ i = .int .i64 (j : Int) ∧ v = .slice a (s + 1) c ∧ Hid (wr.ownsRow w.heap.size 3 1 x j (iv (lms s l j)) ∧ wr.ownsRow w.heap.size 33 1 (.slice a (s + 1) c) (s + 1) (fv (vs s (l.take j))) ∧ w.grownBy wr none))
    case atStart => exact ⟨0, _, _, by omega, rfl, rfl, hide ⟨World.ownsRow_nil _ _ _ _, HA0.out.1, HA0.out.2⟩⟩
    case round =>
      obtain ⟨j, a, c, hkj, rfl, rfl, HR⟩ := hrel
      obtain ⟨po, pc, hpv⟩ := own_form HR.out.1
      subst hpv
      by_cases hgo : 0 < gk
      · have hlt : j < n := by omega
        obtain ⟨d, hc⟩ : ∃ d, l[j]? = some d := ⟨_, List.getElem?_eq_getElem (by have := HN.out; omega)⟩
        obtain ⟨p, cs⟩ := d
        have HGD := hide (HGd.out j _ hc)
        obtain ⟨b, off, bo, bc, rfl, hfa⟩ := HB.out j (p, cs) hc
        have HFA := hide hfa
        have hi0 : (j : Int) < (n : Int) := by omega
        have HT := hide ((congrArg (vs s) (take_snoc hc)).trans (vs_snoc _ _ _))
        have HLM := hide (show lm s l j = lim (ru p) (vs s (l.take j)) s by unfold lm; rw [List.getD_eq_getElem?_getD, hc]; rfl)
        clear hfa hc
        generalize hog : gk = og at *
        go_wp2
        go_loopg [10] s (fun k i wr2 => ∃ u : Nat, k + u = s ∧ i = .int .i64 (u : Int) ∧ Hid (wr.grownBy wr2 none) ∧ Hid (lf (ru p) (vs s (l.take j)) s k u = lim (ru p) (vs s (l.take j)) s))
        case atStart => exact ⟨0, by omega, rfl, hide (grown_refl _ _), hide rfl⟩
        case round =>
          obtain ⟨u, hku, rfl, HG2, HLF⟩ := hrel
          by_cases hgi : 0 < gk
          · have hu : u < s := by omega
            have hu2 : (u : Int) < (s : Int) := by omega
            obtain ⟨g, rfl⟩ : ∃ g, gk = g + 1 := ⟨gk - 1, by omega⟩
            have hprc := ((HFA.out.grown HR.out.2.2).grown HG2.out).c0
            obtain ⟨av, cv, hve, -, -, -, hatv, -, -⟩ := own_at (own_grownT HR.out.2.1 HG2.out)
            cases hve
            obtain ⟨aa, rfl, hx1⟩ := hatv.take (j := s - (u + 1)) (by rw [vs_length]; omega)
            obtain ⟨_, e1, hx2⟩ := hatv.take (j := s - (u + 1) + 1) (by rw [vs_length]; omega)
            cases e1
            have hpr := HGD.out.pr
            dsimp only at hpr
            have hBdj := HBd.out j (by have := HN.out; omega)
            obtain ⟨hadd, hfin⟩ := pr_add (e := 48 + 9 * j) hpr (by omega) (hBdj (s - (u + 1)))
            have hadd' := run_add hadd
            have hord := order_low hfin (hBdj.fin (by omega) (s - (u + 1) + 1))
            have hl : lf (ru p) (vs s (l.take j)) s (g + 1) u = if ad (ru p) ((vs s (l.take j)).getD (s - (u + 1)) 0) < (vs s (l.take j)).getD (s - (u + 1) + 1) 0 then u else lf (ru p) (vs s (l.take j)) s g (u + 1) := rfl
            have HLL := hide hl
            have hw1 : IntKind.i64.wrap ((s : Int) - (u : Int)) = ((s - (u + 1) + 1 : Nat) : Int) := by rw [IntKind.wrap_i64]; omega
            have hw2 : IntKind.i64.wrap (((s - (u + 1) + 1 : Nat) : Int) - 1) = ((s - (u + 1) : Nat) : Int) := by rw [IntKind.wrap_i64]; omega
            have hb1 : s - (u + 1) < s + 1 := by omega
            have hb2 : s - (u + 1) + 1 < s + 1 := by omega
            clear hatv hpr hBdj hadd hfin hl
            generalize ad (ru p) ((vs s (l.take j)).getD (s - (u + 1)) 0) = A at *
            generalize (vs s (l.take j)).getD (s - (u + 1) + 1) 0 = B at *
            generalize (vs s (l.take j)).getD (s - (u + 1)) 0 = C at *
            generalize s - (u + 1) + 1 = i2 at *
            generalize s - (u + 1) = i1 at *
            rcases Nat.lt_trichotomy A B with hAB | hAB | hAB
            · rw [lt_iff.2 hAB] at hord
              have HLU : Hid (u = lm s l j) := hide (by rw [HLM.out, ← HLF.out, HLL.out, if_pos hAB])
              clear HLL hAB
              go_wp2
              go_quiet (fail)
              have HGx := hide (grown_trans HG2.out (grown_drewN _ nq))
              have hrow := own_grownT HR.out.1 HGx.out
              have HRow := hide hrow
              have HVr := hide (own_grownT HR.out.2.1 HGx.out)
              obtain ⟨xo, xc, hx', hxl, hc1', hc2', -⟩ := ownI_at hrow
              cases hx'
              have hsz := grown_trans HR.out.2.2 HGx.out
              have HGs := hide hsz
              have hss : w.heap.size ≤ wr.heap.size := hsz.size
              clear hrow hsz
              go_wp2_with (at_builtin; refine wpList_append_own _ rfl (.tmp 53) (.tmp 55) 30 rfl w.heap.size 3 i0 (.int .i64 0) 1 8 Try.underlying30 HI.out.1 HI.out.2.1 HI.out.2.2.1 HI.out.2.2.2 rfl (by decide) _ _ _ rfl (HRow.out.alloc _) ⟨_, 0, none⟩ 1 1 [.int .i64 (u : Int)] rfl rfl (cell_one_newI _ _ _) (by simp [Value.oneCell']) (by unfold maxLen; omega) (by omega) (by simp; omega) ?_)
              intro v' w6 hown' hgrow _
              have ga := World.grownBy_alloc (wr.drewN nq) (.cells #[.int .i64 (u : Int)] 3) none
              have hob := fun k e => own_rowblock HRow.out k e
              have HRow2 : Hid (w6.ownsRow w.heap.size 3 1 v' (j + 1) (iv (lms s l (j + 1)))) := hide (by rw [lms_succ, iv_append, ← HLU.out]; exact hown')
              have HV6 := hide (own_kept (own_grownT HVr.out ga) hgrow (fun k e => by obtain ⟨-, c, fr, h⟩ := hob k e; exact ⟨c, fr, (ga.block k (row_lt h) (by simp)).trans h⟩) (by decide))
              have HG6 := hide (grown_then (grown_trans HGs.out ga) hgrow (fun k e => Or.inl (hob k e).1))
              obtain ⟨av, cv, hve, -, -, -, hatv, hnilv, -⟩ := own_at HV6.out
              have hfa6 := (HFA.out.grown HG6.out)
              have k0 := hfa6.c0
              have k1 := hfa6.c1
              have HNx := hide (rnext_any av cv (s + 1) (48 + 9 * j) (vs s (l.take j)) p bo bc cs w6 (by rw [vs_length]) (by omega) hatv hfa6.sin HGD.out (by omega) (HBd.out j (by have := HN.out; omega)))
              cases hve
              have hs6 := HG6.out.size
              clear hown' hgrow ga hob HRow HVr hatv hnilv hfa6 HGs
              go_wp2_with fail
              refine HNx.out.mono ?_
              rintro e w7 ⟨v7, rfl, hown7, hg7⟩
              obtain ⟨a7, c7, hv7⟩ := own_form hown7
              subst hv7
              have HR7 : Hid (w7.ownsRow w.heap.size 3 1 v' (j + 1) (iv (lms s l (j + 1))) ∧ w7.ownsRow w.heap.size 33 1 (.slice a7 (s + 1) c7) (s + 1) (fv (vs s (l.take (j + 1)))) ∧ w.grownBy w7 none) := hide ⟨own_grownT HRow2.out hg7, by rw [HT.out]; exact own_lowT hown7 hs6, grown_trans HG6.out hg7⟩
              clear hown7 hg7 HNx HRow2 HV6 HG6 k0 k1
              go_wp2
              go_roundg (og - 1)
              case measure => omega
              case rel => exact ⟨j + 1, a7, c7, by omega, by go_num, rfl, HR7⟩
            · rw [eq_iff.2 hAB] at hord
              have HLF2 : Hid (lf (ru p) (vs s (l.take j)) s g (u + 1) = lim (ru p) (vs s (l.take j)) s) := hide (by rw [← HLF.out, HLL.out, if_neg (by omega)])
              clear HLL hAB
              go_wp2
              go_quiet (fail)
              go_wp2
              go_roundg g
              case measure => omega
              case rel => exact ⟨u + 1, by omega, by go_num, hide (grown_trans HG2.out (grown_drewN _ _)), HLF2⟩
            · rw [gt_iff.2 hAB] at hord
              have HLF2 : Hid (lf (ru p) (vs s (l.take j)) s g (u + 1) = lim (ru p) (vs s (l.take j)) s) := hide (by rw [← HLF.out, HLL.out, if_neg (by omega)])
              clear HLL hAB
              go_wp2
              go_quiet (fail)
              go_wp2
              go_roundg g
              case measure => omega
              case rel => exact ⟨u + 1, by omega, by go_num, hide (grown_trans HG2.out (grown_drewN _ _)), HLF2⟩
          · have hu : u = s := by omega
            have hk0 : gk = 0 := by omega
            subst hk0
            have HLU : Hid (u = lm s l j) := hide (by rw [HLM.out, ← HLF.out]; rfl)
            have hd1 : decide ((u : Int) < (s : Int)) = false := by simp; omega
            have hd2 : decide (u < s) = false := by simp; omega
            clear hu
            go_wp2
            go_quiet (fail)
            have HGx := hide (grown_trans HG2.out (grown_drewN _ nq))
            have hrow := own_grownT HR.out.1 HGx.out
            have HRow := hide hrow
            have HVr := hide (own_grownT HR.out.2.1 HGx.out)
            obtain ⟨xo, xc, hx', hxl, hc1', hc2', -⟩ := ownI_at hrow
            cases hx'
            have hsz := grown_trans HR.out.2.2 HGx.out
            have HGs := hide hsz
            have hss : w.heap.size ≤ wr.heap.size := hsz.size
            clear hrow hsz
            go_wp2_with (at_builtin; refine wpList_append_own _ rfl (.tmp 53) (.tmp 55) 30 rfl w.heap.size 3 i0 (.int .i64 0) 1 8 Try.underlying30 HI.out.1 HI.out.2.1 HI.out.2.2.1 HI.out.2.2.2 rfl (by decide) _ _ _ rfl (HRow.out.alloc _) ⟨_, 0, none⟩ 1 1 [.int .i64 (u : Int)] rfl rfl (cell_one_newI _ _ _) (by simp [Value.oneCell']) (by unfold maxLen; omega) (by omega) (by simp; omega) ?_)
            intro v' w6 hown' hgrow _
            have ga := World.grownBy_alloc (wr.drewN nq) (.cells #[.int .i64 (u : Int)] 3) none
            have hob := fun k e => own_rowblock HRow.out k e
            have HRow2 : Hid (w6.ownsRow w.heap.size 3 1 v' (j + 1) (iv (lms s l (j + 1)))) := hide (by rw [lms_succ, iv_append, ← HLU.out]; exact hown')
            have HV6 := hide (own_kept (own_grownT HVr.out ga) hgrow (fun k e => by obtain ⟨-, c, fr, h⟩ := hob k e; exact ⟨c, fr, (ga.block k (row_lt h) (by simp)).trans h⟩) (by decide))
            have HG6 := hide (grown_then (grown_trans HGs.out ga) hgrow (fun k e => Or.inl (hob k e).1))
            obtain ⟨av, cv, hve, -, -, -, hatv, hnilv, -⟩ := own_at HV6.out
            have hfa6 := (HFA.out.grown HG6.out)
            have k0 := hfa6.c0
            have k1 := hfa6.c1
            have HNx := hide (rnext_any av cv (s + 1) (48 + 9 * j) (vs s (l.take j)) p bo bc cs w6 (by rw [vs_length]) (by omega) hatv hfa6.sin HGD.out (by omega) (HBd.out j (by have := HN.out; omega)))
            cases hve
            have hs6 := HG6.out.size
            clear hown' hgrow ga hob HRow HVr hatv hnilv hfa6 HGs
            go_wp2_with fail
            refine HNx.out.mono ?_
            rintro e w7 ⟨v7, rfl, hown7, hg7⟩
            obtain ⟨a7, c7, hv7⟩ := own_form hown7
            subst hv7
            have HR7 : Hid (w7.ownsRow w.heap.size 3 1 v' (j + 1) (iv (lms s l (j + 1))) ∧ w7.ownsRow w.heap.size 33 1 (.slice a7 (s + 1) c7) (s + 1) (fv (vs s (l.take (j + 1)))) ∧ w.grownBy w7 none) := hide ⟨own_grownT HRow2.out hg7, by rw [HT.out]; exact own_lowT hown7 hs6, grown_trans HG6.out hg7⟩
            clear hown7 hg7 HNx HRow2 HV6 HG6 k0 k1
            go_wp2
            go_roundg (og - 1)
            case measure => omega
            case rel => exact ⟨j + 1, a7, c7, by omega, by go_num, rfl, HR7⟩
      · have hj : j = n := by omega
        subst hj
        have HR2 : Hid (wr.ownsRow w.heap.size 3 1 (.slice po j pc) l.length (iv (lms s l l.length)) ∧ w.grownBy wr none) := hide (by rw [← HN.out]; exact ⟨HR.out.1, HR.out.2.2⟩)
        go_wp2
        go_ret2
        exact ⟨.inr ⟨HZ.out, s, _, rfl, hs2, rfl, HR2.out.1⟩, HR2.out.2⟩
  · have hne : (cE l seats == 0) = false := by simpa using hz
    have HZ := hide hz
    clear hz
    generalize hce : cE l seats = ce at *
    go_wp2
    go_ret2
    exact ⟨.inl ⟨by rw [hce]; exact HZ.out, by rw [hce]; rfl⟩, HG1.out⟩
end Go.Proofs.Ytbebblhnhpdpjaa
