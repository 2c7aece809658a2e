/- The document's Parse; CodesParses: the walk. -/
import Derived.Test.YtnjcajcjdfhinaaDoorDb
namespace Go.Proofs.YtnjcajcjdfhinaaDoor
open Go.RowKit Cn
attribute [local go_sem ↓] Go.wp_at_zero Go.wp_at_succ

theorem wts_take {s : List UInt8} {j d : Nat} {x : UInt8} (h : s[j]? = some x) (hd : Cn.wr x = (d : Int)) : (wts s).take (j + 1) = (wts s).take j ++ [d] := by
  rw [List.take_add_one]
  have : (wts s)[j]? = some d := by unfold wts; rw [List.getElem?_map, h]; simp [hd]
  rw [this]; rfl
theorem At.sub {w : World} {ao : Option Addr} {l : List Nat} (h : At w ao l) (n : Nat) : At w ao (l.take n) := by
  intro j u hu
  rw [List.getElem?_take] at hu
  split at hu
  · exact h j u hu
  · cases hu
theorem At.grown {w w' : World} {ao : Option Addr} {l : List Nat} (h : At w ao l) (hg : w.grownBy w' none) : At w' ao l := by
  intro j u hu
  obtain ⟨a, ha, hc⟩ := h j u hu
  exact ⟨a, ha, hg.cell hc (by simp)⟩
theorem own_at' {w : World} {base n : Nat} {v : Value} {xs : List Nat} (h : w.ownsRow base 3 1 v n (iv xs)) (hn : n ≠ 0) :
    ∃ g cap, v = .slice (some ⟨g, 0, none⟩) n cap ∧ xs.length = n ∧ n ≤ cap ∧ cap ≤ maxLen ∧ At w (some ⟨g, 0, none⟩) xs := by
  obtain ⟨ao, cap, rfl, h1, h2, h3, h4⟩ := own_at h
  rcases h.2 with ⟨e, rfl⟩ | ⟨g, cap', cur, e, _⟩
  · exact absurd rfl hn
  · cases e
    exact ⟨g, cap, rfl, h1, h2, h3, h4⟩
theorem slice_to (ao : Option Addr) (len cap n : Nat) (h : n ≤ cap) (w : World) : (Instr.slice 33 (.slice ao len cap) none (some (.int .i64 (n : Int))) none).run Tryd.prog w = .ok (.slice ao n cap) w := by
  simp [Instr.slice, run_underlying Tryd.underlying33, Instr.sliceBounds, Instr.sliceBound, asIntOf, h]
  intro _; cases ao <;> simp [Addr.add]
theorem slice_7 (ao : Option Addr) (len cap : Nat) (h : 7 ≤ cap) (w : World) : (Instr.slice 33 (.slice ao len cap) none (some (.int .i64 7)) none).run Tryd.prog w = .ok (.slice ao 7 cap) w := slice_to ao len cap 7 h w
set_option maxRecDepth 100000 in
set_option maxHeartbeats 4000000 in
theorem rparse_any (s : List UInt8) (hs : s.length ≤ 281474976710656) (w : World) :
    Calls Tryd.prog 13 #[str s] w fun e w' => e = .returned (prsV (prs s)) ∧ w.grownBy w' none := by
  have hz := size_str s
  obtain ⟨sb, hsb⟩ : ∃ sb, sb = (⟨s.toArray⟩ : ByteArray) := ⟨_, rfl⟩
  unfold str
  rw [← hsb] at hz ⊢
  have HI := hide (fun (j : Nat) (x : UInt8) (h : s[j]? = some x) => index_at h)
  rw [← hsb] at HI
  obtain ⟨V, hV⟩ : ∃ V, V = prs s := ⟨_, rfl⟩
  rw [← hV]
  have HV := hide hV
  have hz2 : (sb.size : Int) ≤ 281474976710656 := by omega
  have HZ := hide hz
  unfold prsV
  clear hsb hV hz hs
  go_enter Tryd.func13, Tryd.ntmps13
  go_wp2
  go_loopg [5, 6] 8 (fun k u i wr => ∃ (j : Nat) (v : Value), k + j = 8 ∧ v = u ∧ i = .int .i64 (j : Int) ∧ (∀ i, i < j → ∃ x, s[i]? = some x ∧ 0 ≤ Cn.wr x) ∧ wr.ownsRow w.heap.size 3 1 v j (iv ((wts s).take j)) ∧ w.grownBy wr none)
  case atStart => exact ⟨0, _, by omega, rfl, rfl, fun i hi => by omega, World.ownsRow_nil _ _ _ _, grown_refl _ _⟩
  case round =>
    obtain ⟨j, v, hkj, rfl, rfl, hall, hown, hg⟩ := hrel
    have hj0 : (0 : Int) ≤ (j : Int) := by omega
    have hjs : j ≤ s.length := by
      cases j with
      | zero => omega
      | succ j' =>
        obtain ⟨x, hx, _⟩ := hall j' (by omega)
        have := (List.getElem?_eq_some_iff.1 hx).1
        omega
    by_cases hk : 0 < gk
    · have hj1 : (j : Int) < 8 := by omega
      by_cases hje : j = s.length
      · have hP : pre s = j := pre_is (by omega) hall (Or.inr (Or.inl (by rw [List.getElem?_eq_none (by omega)])))
        have hVV : V = (0, j, 150) := by rw [HV.out]; unfold prs; rw [hP, if_pos (by omega)]
        subst hVV
        have hge : (sb.size : Int) ≤ (j : Int) := by have := HZ.out; omega
        have HG := hide hg
        clear hall hown hg hP hje hjs HI HV HZ
        go_wp2
        go_ret3
        exact ⟨rfl, HG.out⟩
      · have hjl : j < s.length := by omega
        obtain ⟨x, hx⟩ : ∃ x, s[j]? = some x := ⟨_, List.getElem?_eq_getElem hjl⟩
        have hix := HI.out j x hx
        have hlt : (j : Int) < (sb.size : Int) := by have := HZ.out; omega
        have hdec : decide ((sb.size : Int) ≤ (j : Int)) = false := by simp; omega
        have HX := hide (rworth_any x)
        by_cases hw : Cn.wr x < 0
        · have hP : pre s = j := pre_is (by omega) hall (Or.inr (Or.inr ⟨x, hx, hw⟩))
          have hVV : V = (0, j, 150) := by rw [HV.out]; unfold prs; rw [hP, if_pos (by omega)]
          subst hVV
          generalize Cn.wr x = u at *
          generalize x.toNat = xn at *
          have HG := hide hg
          clear hall hown hg hP hje hjs hjl HI HV HZ hx
          go_wp2_with fail
          refine (HX.out _).mono ?_
          rintro e w1 ⟨rfl, rfl⟩
          go_wp2
          go_ret3
          exact ⟨rfl, HG.out⟩
        · have hwl := wr_lt x
          obtain ⟨d, hd⟩ : ∃ d : Nat, Cn.wr x = (d : Int) := ⟨(Cn.wr x).toNat, by omega⟩
          have htk := wts_take hx hd
          have HB := hide (And.intro hown (And.intro hg (And.intro htk (And.intro hall (And.intro hx hd)))))
          rw [hd] at HX hwl
          have hd0 : (0 : Int) ≤ (d : Int) := by omega
          have hdn : decide ((d : Int) < 0) = false := by simp
          generalize x.toNat = xn at *
          clear hall hown hg hje hjs hjl HI hx hd htk hw
          go_wp2_with fail
          refine (HX.out _).mono ?_
          rintro e w1 ⟨rfl, rfl⟩
          go_wp2_with fail
          refine (HX.out _).mono ?_
          rintro e w2 ⟨rfl, rfl⟩
          go_wp2_with (at_builtin; refine wpList_app1 rfl (.tmp 25) (.tmp 30) rfl w.heap.size v j ((wts s).take j) rfl (own_grown HB.out.1 (grown_alloc w2 (.cells #[.int .i64 (d : Int)] 3))) ⟨w2.heap.size, 0, none⟩ d rfl (cell_new1 w2 _) (by omega) ?_ ?_)
          · have := HB.out.2.1.size
            rw [alloc_size]; omega
          · intro v' w' hown' hg'
            have HK := hide (And.intro hown' (grown_own (grown_trans HB.out.2.1 (grown_alloc w2 _)) (own_grown HB.out.1 (grown_alloc w2 _)) (Nat.le_refl _) hg'))
            clear hown' hg'
            go_wp2
            go_roundg (gk - 1)
            case measure => omega
            case rel =>
              obtain ⟨hown, hg, htk, hall, hx, hd⟩ := HB.out
              refine ⟨j + 1, v', by omega, rfl, by go_num, ?_, ?_, HK.out.2⟩
              · intro i hi
                by_cases e : i = j
                · subst e; exact ⟨x, hx, by omega⟩
                · exact hall i (by omega)
              · rw [htk]; exact HK.out.1
    · have hj : j = 8 := by omega
      subst hj
      have hP : pre s = 8 := pre_is (by omega) hall (Or.inl rfl)
      by_cases hl8 : 8 < s.length
      · have hVV : V = (0, 8, 150) := by rw [HV.out]; unfold prs; rw [hP, if_neg (by omega), if_pos hl8]
        subst hVV
        have hge : (8 : Int) < (sb.size : Int) := by have := HZ.out; omega
        have HG := hide hg
        clear hall hown hg hP hl8 hjs HI HV HZ
        go_wp2
        go_ret3
        exact ⟨rfl, HG.out⟩
      · have hl9 : s.length = 8 := by omega
        obtain ⟨_, hlow, hlen⟩ := eight hP hl9
        have hVV : V = if 4294967295 < num 0 ((wts s).take 7) then (0, 0, 150) else if (wts s).getD 7 0 ≠ chk 0 ((wts s).take 7) then (0, 7, 150) else (num 0 ((wts s).take 7), 0, 0) := by
          rw [HV.out]; unfold prs; rw [hP, if_neg (by omega), if_neg hl8]
        have hge : ¬ (8 : Int) < (sb.size : Int) := by have := HZ.out; omega
        rw [List.take_of_length_le (by omega)] at hown
        obtain ⟨g, cap, rfl, _, hc1, hc2, hat⟩ := own_at' hown (by decide)
        generalize wts s = l at *
        have HL := hide (And.intro hlen (And.intro hlow (And.intro hat (And.intro hg hVV))))
        clear hall hown hg hP hl8 hjs HI HV HZ hl9 hlen hlow hat hVV
        go_wp2
        go_loopg [7, 8] 7 (fun k c i wr' => ∃ j C : Nat, k + j = 7 ∧ i = .int .i64 (j : Int) ∧ c = .int .i64 (C : Int) ∧ C < 32 ^ j ∧ C = num 0 (l.take j) ∧ wr' = wr)
        case atStart => exact ⟨0, 0, by omega, rfl, rfl, by decide, rfl, rfl⟩
        case round =>
          obtain ⟨j, C, hkj2, rfl, rfl, hb, hC, rfl⟩ := hrel
          obtain ⟨hlen, hlow, hat, hg, hVV⟩ := HL.out
          have hj0 : (0 : Int) ≤ (j : Int) := by omega
          by_cases hk2 : 0 < gk
          · have hj1 : (j : Int) < 7 := by omega
            have hjl : j < l.length := by omega
            obtain ⟨ad, had, hcell⟩ := hat j _ (List.getElem?_eq_getElem hjl)
            cases had
            rw [add0] at hcell
            have hx := hlow _ (List.getElem_mem hjl)
            have hstep : num 0 (l.take (j + 1)) = C * 32 + l[j] := by
              rw [List.take_add_one, List.getElem?_eq_getElem hjl, hC]; exact num_snoc _ _ _
            have hb2 : C < 1073741824 := Nat.lt_of_lt_of_le hb (Nat.pow_le_pow_right (n := 32) (by decide) (show j ≤ 6 by omega))
            have hb3 : C * 32 + l[j] < 32 ^ (j + 1) := by rw [Nat.pow_succ]; omega
            generalize l[j] = x at *
            have HS := hide (And.intro hb3 hstep)
            have hw1 : IntKind.i64.wrap (32 * (C : Int)) = ((C * 32 : Nat) : Int) := by rw [IntWalk.i64_in _ (by omega)]; omega
            have hm1 : 32 * (C : Int) = ((C * 32 : Nat) : Int) := by omega
            have hw2 : IntKind.i64.wrap (((C * 32 : Nat) : Int) + (x : Int)) = ((C * 32 + x : Nat) : Int) := by rw [IntWalk.i64_in _ (by omega)]; omega
            have hm2 : ((C * 32 : Nat) : Int) + (x : Int) = ((C * 32 + x : Nat) : Int) := by omega
            have hj8 : (j : Int) < 8 := by omega
            have hy1 : ((C * 32 : Nat) : Int) ≤ 34359738368 := by omega
            have hx1 : (x : Int) < 32 := by omega
            clear hlen hlow hat hg hVV hC hstep hx hb hb2 hb3 hjl
            generalize C * 32 + x = z at *
            generalize C * 32 = y at *
            go_wp2
            go_roundg (gk - 1)
            case measure => omega
            case rel => exact ⟨j + 1, z, by omega, by go_num, rfl, HS.out.1, HS.out.2.symm, rfl⟩
          · have hj : j = 7 := by omega
            subst hj
            rw [← hC] at hVV
            have hCb : C < 34359738368 := hb
            obtain ⟨ad, had, hc7⟩ := hat 7 _ (List.getElem?_eq_getElem (by omega))
            cases had
            rw [add0] at hc7
            have hx7 := hlow l[7] (List.getElem_mem _)
            have hgd : l.getD 7 0 = l[7] := by rw [List.getD_eq_getElem?_getD, List.getElem?_eq_getElem (by omega)]; rfl
            rw [hgd] at hVV
            have HC := hide (fun (w' : World) (hh : w'.heap = wr.heap) => rcheck_any (some ⟨g, 0, none⟩) 7 cap (l.take 7) (by rw [List.length_take]; omega) (by omega) (fun y hy => hlow y (List.mem_of_mem_take hy)) w' (fun j u hu => by obtain ⟨a, ha, hc⟩ := hat.sub 7 j u hu; exact ⟨a, ha, by rw [← hc]; unfold World.cell?; rw [hh]⟩))
            have hck := chk_lt (c := 0) (l := l.take 7) (by decide) (fun y hy => hlow y (List.mem_of_mem_take hy))
            generalize chk 0 (l.take 7) = K at *
            generalize l[7] = z at *
            have HG := hide hg
            clear hlen hlow hat hg hC hb hgd HL
            have hc8 : (8 : Int) ≤ (cap : Int) := by omega
            have hc9 := slice_7 (some ⟨g, 0, none⟩) 8 cap (by omega)
            by_cases h4 : 4294967295 < C
            · rw [if_pos h4] at hVV
              subst hVV
              have h5 : (4294967295 : Int) < (C : Int) := by omega
              clear h4
              go_wp2
              go_ret3
              exact ⟨rfl, HG.out⟩
            · rw [if_neg h4] at hVV
              have h5 : ¬ (4294967295 : Int) < (C : Int) := by omega
              have hw : IntKind.u32.wrap (C : Int) = (C : Int) := by rw [wrap_u32]; omega
              clear h4
              by_cases h7 : z = K
              · subst h7
                rw [if_neg (by simp)] at hVV
                subst hVV
                go_wp2
                go_quiet ((go_at_call 17; exact Calls.quiet_of_same (HC.out _ rfl)))
                go_wp2
                go_ret3
                exact ⟨rfl, grown_trans HG.out (grown_drewN _ _ _)⟩
              · rw [if_pos h7] at hVV
                subst hVV
                have hne : ((K : Int) == (z : Int)) = false := by simp; omega
                have hne2 : ((K : Int) != (z : Int)) = true := by simp; omega
                have hne3 : decide ((K : Int) = (z : Int)) = false := by simp; omega
                clear h7
                go_wp2
                go_quiet ((go_at_call 17; exact Calls.quiet_of_same (HC.out _ rfl)))
                go_wp2
                go_ret3
                exact ⟨rfl, grown_trans HG.out (grown_drewN _ _ _)⟩
end Go.Proofs.YtnjcajcjdfhinaaDoor
