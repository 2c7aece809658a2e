/- The contract of the document's own Get. -/
import Derived.Test.YtoeehajdmdmemaaDoorFd
namespace Go.Proofs.YtoeehajdmdmemaaDoor
open Go.RowKit
attribute [local go_sem ↓] Go.wp_at_zero Go.wp_at_succ

/-- The ways through getF. -/
theorem getF_ways {xs : List Int} (hB : Byt xs) : (xs.length < 2 ∧ getF xs = ⟨noFr, 0, 4⟩) ∨ (2 ≤ xs.length ∧ 32 < blen xs ∧ blen xs < 65536 ∧ getF xs = ⟨noFr, 0, 80⟩) ∨
    (2 ≤ xs.length ∧ blen xs ≤ 32 ∧ ((xs.length < 22 + blen xs ∧ getF xs = ⟨noFr, 0, 4⟩) ∨ (22 + blen xs ≤ xs.length ∧
      ((leV ((xs.drop (18 + blen xs)).take 4) ≠ sumI (xs.take (18 + blen xs)) ∧ getF xs = ⟨noFr, 0, 81⟩) ∨
       (leV ((xs.drop (18 + blen xs)).take 4) = sumI (xs.take (18 + blen xs)) ∧ getF xs = ⟨⟨leV ((xs.drop 2).take 8), leV ((xs.drop 10).take 8), (xs.drop 18).take (blen xs)⟩, 22 + blen xs, 0⟩))))) := by
  have hb := blen_cast hB
  have hb2 := (leV_bound (xs.take 2) (hB.take 2)).2
  unfold getF
  by_cases h1 : xs.length < 2
  · exact Or.inl ⟨h1, by rw [if_pos h1]⟩
  · have hl2 : (xs.take 2).length = 2 := by simp; omega
    rw [hl2] at hb2
    have hb3 : leV (xs.take 2) < 65536 := hb2
    rw [if_neg h1]
    by_cases h2 : 32 < blen xs
    · exact Or.inr (Or.inl ⟨by omega, h2, by omega, by rw [if_pos h2]⟩)
    · refine Or.inr (Or.inr ⟨by omega, by omega, ?_⟩)
      rw [if_neg h2]
      by_cases h3 : xs.length < 22 + blen xs
      · exact Or.inl ⟨h3, by rw [if_pos h3]⟩
      · refine Or.inr ⟨by omega, ?_⟩
        rw [if_neg h3]
        by_cases h4 : leV ((xs.drop (18 + blen xs)).take 4) = sumI (xs.take (18 + blen xs))
        · exact Or.inr ⟨h4, by rw [if_neg (by simpa using h4)]⟩
        · exact Or.inl ⟨h4, by rw [if_pos h4]⟩

theorem own_form {w : World} {base n size : Nat} {e : TypeId} {v : Value} {xs : List Value} (h : w.ownsRow base e size v n xs) : ∃ ao cap, v = .slice ao n cap := by
  rcases h.2 with ⟨rfl, rfl⟩ | ⟨g, cap, cur, rfl, _⟩
  · exact ⟨_, _, rfl⟩
  · exact ⟨_, _, rfl⟩
/-- The answer's box, as it was made. -/
def BoxZ (w wr : World) : Prop := wr.heap[w.heap.size]? = some (.cells [Value.int .u64 0, .int .u64 0, .slice none 0 0].toArray 25 (0, 0)) ∧ w.grownBy wr none
theorem BoxZ.start (w : World) : BoxZ w (w.alloc (.cells #[.int .u64 0, .int .u64 0, .slice none 0 0] 25)) := ⟨heap_alloc_new w _, World.grownBy_alloc w _ none⟩
theorem BoxZ.grown {w wr wr' : World} (h : BoxZ w wr) (hg : wr.grownBy wr' none) : BoxZ w wr' := ⟨(hg.block _ (row_lt h.1) (by simp)).trans h.1, grown_trans h.2 hg⟩
theorem BoxZ.ends {w wr wr' : World} (h : BoxZ w wr) (hg : wr.grownBy wr' (some w.heap.size)) : w.grownBy wr' none :=
  grown_then h.2 hg (fun j e => by cases e; exact Or.inl (Nat.le_refl _))

set_option maxHeartbeats 1000000 in
theorem rget_any (xs : List Int) (hB : Byt xs) (ao : Option Addr) (n cap : Nat) (w : World) (hn : xs.length = n) (hat : At w ao xs) (hnil : ao = none → n = 0 ∧ cap = 0) (hc : n ≤ cap) (hm : n ≤ 140737488355328) :
    Calls Tryd.prog 20 #[.slice ao n cap] w fun r w' => ∃ v, r = .returned (.tuple #[frV (getF xs).f.e (getF xs).f.s v, .int .i64 ((getF xs).n : Int), .int .i64 (getF xs).c]) ∧
      w'.ownsRow w.heap.size 5 1 v (getF xs).f.b.length ((getF xs).f.b.map (Value.int .u8)) ∧ w.grownBy w' none := by
  unfold frV
  have HF := hide (And.intro hB (And.intro hn (And.intro hat hnil)))
  have HW := hide (getF_ways hB)
  have P0 := hide (BoxZ.start w)
  obtain ⟨c0, c1, c2⟩ := box_cells P0.out.1
  have f0 := free_row P0.out.1 0
  have f1 := free_row P0.out.1 1
  have f2 := free_row P0.out.1 2
  rw [hn] at HW
  clear hB hat hnil hn
  rcases HW.out with ⟨a1, a2⟩ | ⟨a1, a2, a3, a4⟩ | ⟨a1, a2, hr⟩
  · have A2 := hide a2
    clear a2
    go_enter Tryd.func20, Tryd.ntmps20
    go_wp2
    refine bodyPost_ret (v := .tuple #[.agg #[.int .u64 0, .int .u64 0, .slice none 0 0], .int .i64 0, .int .i64 4]) ?_ rfl ?_
    · rw [results_cell_tmp2 rfl]; go_simp
    rw [A2.out]
    exact ⟨_, rfl, World.ownsRow_nil _ _ _ _, P0.out.2⟩
  · have A2 := hide a4
    have HV : Hid (Calls Tryd.prog 47 #[.slice ao 2 cap] (w.alloc (.cells #[.int .u64 0, .int .u64 0, .slice none 0 0] 25)) fun e w' => e = .returned (.int .u64 ((blen xs : Nat) : Int)) ∧ w' = (w.alloc (.cells #[.int .u64 0, .int .u64 0, .slice none 0 0] 25))) := by
      rw [blen_cast HF.out.1]
      exact value_any ao 2 cap (xs.take 2) _ (by have := HF.out.2.1; simp; omega) ((HF.out.2.2.1.kept P0.out.2 (fun _ _ e => by cases e)).take 2) (HF.out.1.take 2) (by omega)
    have hst := slice_to ao n cap 2 (by omega)
    clear a4
    generalize blen xs = K at *
    go_enter Tryd.func20, Tryd.ntmps20
    go_wp2_with fail
    refine HV.out.mono ?_
    rintro e w2 ⟨rfl, rfl⟩
    clear hst
    go_wp2
    refine bodyPost_ret (v := .tuple #[.agg #[.int .u64 0, .int .u64 0, .slice none 0 0], .int .i64 0, .int .i64 80]) ?_ rfl ?_
    · rw [results_cell_tmp2 rfl]; go_simp
    rw [A2.out]
    exact ⟨_, rfl, World.ownsRow_nil _ _ _ _, P0.out.2⟩
  · have HV : Hid (Calls Tryd.prog 47 #[.slice ao 2 cap] (w.alloc (.cells #[.int .u64 0, .int .u64 0, .slice none 0 0] 25)) fun e w' => e = .returned (.int .u64 ((blen xs : Nat) : Int)) ∧ w' = (w.alloc (.cells #[.int .u64 0, .int .u64 0, .slice none 0 0] 25))) := by
      rw [blen_cast HF.out.1]
      exact value_any ao 2 cap (xs.take 2) _ (by have := HF.out.2.1; simp; omega) ((HF.out.2.2.1.kept P0.out.2 (fun _ _ e => by cases e)).take 2) (HF.out.1.take 2) (by omega)
    have hst := slice_to ao n cap 2 (by omega)
    have HR := hide hr
    clear hr
    obtain ⟨K, hK⟩ : ∃ K, K = blen xs := ⟨_, rfl⟩
    rw [← hK] at HR HV a2
    clear hK
    have hsz : sizeF (K : Int) = ((22 + K : Nat) : Int) := by unfold sizeF; rw [if_neg (by omega)]; omega
    go_enter Tryd.func20, Tryd.ntmps20
    go_wp2_with fail
    refine HV.out.mono ?_
    rintro e w2 ⟨rfl, rfl⟩
    clear hst HV
    go_wp2_with fail
    refine (rsize_any (K : Int) _ (by omega) (by omega)).mono ?_
    rw [hsz]
    rintro e w2 ⟨rfl, rfl⟩
    clear hsz
    rcases HR.out with ⟨b1, b2⟩ | ⟨b1, b2⟩
    · have A2 := hide b2
      clear b2 HR
      have hlt : (n : Int) < ((22 + K : Nat) : Int) := by omega
      go_wp2
      refine bodyPost_ret (v := .tuple #[.agg #[.int .u64 0, .int .u64 0, .slice none 0 0], .int .i64 0, .int .i64 4]) ?_ rfl ?_
      · rw [results_cell_tmp2 rfl]; go_simp
      rw [A2.out]
      exact ⟨_, rfl, World.ownsRow_nil _ _ _ _, P0.out.2⟩
    · have hge : ((22 + K : Nat) : Int) ≤ (n : Int) := by omega
      have hsub : ((22 + K : Nat) : Int) - 4 = ((18 + K : Nat) : Int) := by omega
      have hwr : IntKind.i64.wrap ((18 + K : Nat) : Int) = ((18 + K : Nat) : Int) := by rw [IntKind.wrap_i64]; omega
      have hs1 := slice_lh ao n cap (18 + K) (22 + K) (by omega) (by omega)
      rw [show 22 + K - (18 + K) = 4 by omega] at hs1
      have hs2 := slice_to ao n cap (18 + K) (by omega)
      have HB2 := hide b2
      have HV : Hid (∀ w', w.grownBy w' none → Calls Tryd.prog 47 #[.slice (cutA ao (18 + K) cap) 4 (cap - (18 + K))] w' fun e w'' => e = .returned (.int .u64 (leV ((xs.drop (18 + K)).take 4))) ∧ w'' = w') := by
        intro w' hg
        refine value_any _ _ _ ((xs.drop (18 + K)).take 4) w' (by have := HF.out.2.1; simp; omega) ?_ ((HF.out.1.drop _).take 4) (by omega)
        exact ((HF.out.2.2.1.kept hg (fun _ _ e => by cases e)).cut _ _ (by have := HF.out.2.1; omega)).take 4
      have HS : Hid (∀ w', w.grownBy w' none → Calls Tryd.prog 39 #[.slice ao (18 + K) cap] w' fun e w'' => e = .returned (.int .u32 (sumI (xs.take (18 + K)))) ∧ w'' = w') := by
        intro w' hg
        exact rsum_any _ _ _ (xs.take (18 + K)) w' (by have := HF.out.2.1; simp; omega) (HF.out.1.take _) ((HF.out.2.2.1.kept hg (fun _ _ e => by cases e)).take _) (by omega)
      have hsm := sumI_lt (HF.out.1.take (18 + K) : Byt (xs.take (18 + K)))
      generalize sumI (xs.take (18 + K)) = SM at *
      generalize hVV : leV ((xs.drop (18 + K)).take 4) = VV at *
      clear hVV b2 HR a1
      generalize cutA ao (18 + K) cap = bo at *
      generalize cap - (18 + K) = bc at *
      have hq : 22 + K ≤ 54 := by omega
      generalize hK18 : 18 + K = K18 at *
      generalize hK22 : 22 + K = K22 at *
      have HKK := hide (And.intro hK18 hK22)
      clear hK18 hK22
      obtain ⟨W1, hW1⟩ : ∃ W1, W1 = w.alloc (.cells #[.int .u64 0, .int .u64 0, .slice none 0 0] 25) := ⟨_, rfl⟩
      rw [← hW1] at P0 c0 c1 c2 f0 f1 f2 ⊢
      clear hW1
      go_wp2
      go_quiet (first | (go_at_call 47; exact Calls.quiet_of_same (HV.out _ (grown_trans P0.out.2 (grown_drewN _ _ _)))) | (go_at_call 39; exact Calls.quiet_of_same (HS.out _ (grown_trans P0.out.2 (grown_drewN _ _ _)))))
      have P2 := hide (P0.out.grown (grown_drewN W1 nq none))
      generalize W1.drewN nq = W2 at *
      clear c0 c1 c2 f0 f1 f2 P0 hs1 hs2
      rcases HB2.out with ⟨d1, d2⟩ | ⟨d1, d2⟩
      · have A2 := hide d2
        have hne : (VV != SM) = true := by simpa using d1
        obtain ⟨c0, c1, c2⟩ := box_cells P2.out.1
        have f0 := free_row P2.out.1 0
        have f1 := free_row P2.out.1 1
        have f2 := free_row P2.out.1 2
        clear d2 d1
        go_wp2
        obtain ⟨eb, eg⟩ := set3 P2.out.1 (.int .u64 0) (.int .u64 0) (.slice none 0 0)
        obtain ⟨e0, e1, e2⟩ := box_cells eb
        clear c0 c1 c2 f0 f1 f2 eb
        have EG := hide (P2.out.ends eg)
        clear eg
        generalize ((W2.setCell ⟨w.heap.size, 0, none⟩ (.int .u64 0)).setCell ⟨w.heap.size, 1, none⟩ (.int .u64 0)).setCell ⟨w.heap.size, 2, none⟩ (.slice none 0 0) = W3 at *
        refine bodyPost_ret (v := .tuple #[.agg #[.int .u64 0, .int .u64 0, .slice none 0 0], .int .i64 0, .int .i64 81]) ?_ rfl ?_
        · rw [results_cell_tmp2 rfl]; go_simp
        rw [A2.out]
        exact ⟨_, rfl, World.ownsRow_nil _ _ _ _, EG.out⟩
      · have A2 := hide d2
        subst d1
        clear d2 HB2 HV HS hsm
        obtain ⟨hk1, hk2⟩ := HKK.out
        have hs3 : ∀ w', (Instr.slice 23 (.slice ao n cap) (some (.int .i64 2)) (some (.int .i64 10)) none).run Tryd.prog w' = .ok (.slice (cutA ao 2 cap) 8 (cap - 2)) w' := slice_lh ao n cap 2 10 (by omega) (by omega)
        have hs4 : ∀ w', (Instr.slice 23 (.slice ao n cap) (some (.int .i64 10)) (some (.int .i64 18)) none).run Tryd.prog w' = .ok (.slice (cutA ao 10 cap) 8 (cap - 10)) w' := slice_lh ao n cap 10 18 (by omega) (by omega)
        have hv3 : Hid (∀ w', w.grownBy w' none → Calls Tryd.prog 47 #[.slice (cutA ao 2 cap) (10 - 2) (cap - 2)] w' fun e w'' => e = .returned (.int .u64 (leV ((xs.drop 2).take 8))) ∧ w'' = w') := by
          intro w' hg
          refine value_any _ _ _ ((xs.drop 2).take 8) w' (by have := HF.out.2.1; simp; omega) ?_ ((HF.out.1.drop _).take 8) (by omega)
          exact ((HF.out.2.2.1.kept hg (fun _ _ e => by cases e)).cut _ _ (by have := HF.out.2.1; omega)).take 8
        have hv4 : Hid (∀ w', w.grownBy w' none → Calls Tryd.prog 47 #[.slice (cutA ao 10 cap) (18 - 10) (cap - 10)] w' fun e w'' => e = .returned (.int .u64 (leV ((xs.drop 10).take 8))) ∧ w'' = w') := by
          intro w' hg
          refine value_any _ _ _ ((xs.drop 10).take 8) w' (by have := HF.out.2.1; simp; omega) ?_ ((HF.out.1.drop _).take 8) (by omega)
          exact ((HF.out.2.2.1.kept hg (fun _ _ e => by cases e)).cut _ _ (by have := HF.out.2.1; omega)).take 8
        simp only [Nat.reduceSub] at hv3 hv4
        generalize leV ((xs.drop 2).take 8) = E2 at *
        generalize leV ((xs.drop 10).take 8) = E3 at *
        generalize cutA ao 2 cap = so at *
        generalize cutA ao 10 cap = to at *
        generalize cap - 2 = sc at *
        generalize cap - 10 = tc at *
        clear hk1 hk2
        go_wp2
        go_region_with (first | (go_at_call_of 47 (so); refine (hv3.out _ ?_).mono ?_; (first | exact grown_trans P2.out.2 (grown_drew _ _) | exact grown_trans (grown_trans P2.out.2 (grown_drew _ _)) (World.grownBy_alloc _ _ none)); rintro e w3 ⟨rfl, rfl⟩) | (go_at_call_of 47 (to); refine (hv4.out _ ?_).mono ?_; (first | exact grown_trans P2.out.2 (grown_drew _ _) | exact grown_trans (grown_trans P2.out.2 (grown_drew _ _)) (World.grownBy_alloc _ _ none)); rintro e w3 ⟨rfl, rfl⟩))
        all_goals
          have hF0 := heap_alloc_new W2 (.cells [Value.int .u64 E2, .int .u64 E3, .slice none 0 0].toArray 25)
          have hg3 : W2.grownBy (W2.alloc (.cells #[.int .u64 E2, .int .u64 E3, .slice none 0 0] 25)).drew none := grown_trans (World.grownBy_alloc W2 _ none) (grown_drew _ _)
          have P3 := hide (P2.out.grown hg3)
          have hFw : w.heap.size < W2.heap.size := row_lt P2.out.1
          have HFb : Hid ((W2.alloc (.cells #[.int .u64 E2, .int .u64 E3, .slice none 0 0] 25)).drew.heap[W2.heap.size]? = some (.cells [Value.int .u64 E2, .int .u64 E3, .slice none 0 0].toArray 25 (0, 0))) := hF0
          clear hF0 hg3 P2
          obtain ⟨F, hF⟩ : ∃ F, F = W2.heap.size := ⟨_, rfl⟩
          rw [← hF] at HFb hFw ⊢
          clear hF
          generalize (W2.alloc (.cells #[.int .u64 E2, .int .u64 E3, .slice none 0 0] 25)).drew = W3 at *
          obtain ⟨hk1, hk2⟩ := HKK.out
          have hs5 : ∀ w', (Instr.slice 23 (.slice ao n cap) (some (.int .i64 18)) (some (.int .i64 (K18 : Int))) none).run Tryd.prog w' = .ok (.slice (cutA ao 18 cap) (K18 - 18) (cap - 18)) w' := slice_lh ao n cap 18 K18 (by omega) (by omega)
          have hKe : K18 - 18 = K := by omega
          rw [hKe] at hs5
          have hsub : (K22 : Int) - 4 = (K18 : Int) := by omega
          have HA : Hid (At W3.drew (cutA ao 18 cap) ((xs.drop 18).take K)) := ((HF.out.2.2.1.kept (grown_trans P3.out.2 (grown_drew _ none)) (fun _ _ e => by cases e)).cut _ _ (by have := HF.out.2.1; omega)).take K
          have HAl : Hid (((xs.drop 18).take K).length = K) := by show _ = _; have := HF.out.2.1; simp; omega
          have HAn : Hid (cutA ao 18 cap = none → K = 0 ∧ cap - 18 = 0) := by
            intro e
            have : ao = none := by
              unfold cutA at e
              split at e
              · exact e
              · cases ao <;> simp_all
            have := HF.out.2.2.2 this
            omega
          generalize cutA ao 18 cap = uo at *
          generalize cap - 18 = uc at *
          obtain ⟨d0, d1, d2⟩ := box_cells HFb.out
          clear hk1 hk2 hKe
          have g0 := free_row HFb.out 2
          go_wp2
          go_region_law (refine step_append_at rfl (.tmp 48) (.tmp 52) rfl (F + 1) (.slice none 0 0) 0 [] rfl (World.ownsRow_nil _ _ _ _) uo K uc ((xs.drop 18).take K) rfl HAl.out HA.out HAn.out (by omega) (row_lt HFb.out) ?_; intro v' w' ho hg; have HOG := hide (And.intro ho hg); obtain ⟨vo, vc, rfl⟩ := own_form ho; have hb4 := hide ((hg.block F (row_lt HFb.out) (by simp [Value.ownBlock])).trans HFb.out); have d2' := (box_cells hb4.out).2.2; have g2' := free_row hb4.out 2; clear ho hg)
          obtain ⟨ho, hg⟩ := HOG.out
          simp only [Nat.zero_add, List.nil_append, Value.ownBlock] at ho hg ⊢
          have hg4 := grown_trans (grown_drew W3 none) hg
          have hrow := row_setCell hb4.out 2 (.slice vo K vc)
          have hgs := grown_setCell w' F 2 (.slice vo K vc)
          have ho5 := ho.kept hgs (by
            cases hv : (Value.slice vo K vc).ownBlock with
            | none => exact Or.inl rfl
            | some k => exact Or.inr (fun e => by cases e; have := (ho.lt _ hv).1; omega))
          have P5 : Hid (BoxZ w (w'.setCell ⟨F, 2, none⟩ (.slice vo K vc))) := ⟨(hgs.block _ (by have := row_lt (P3.out.grown hg4).1; exact this) (by simp; omega)).trans (P3.out.grown hg4).1, grown_then (P3.out.grown hg4).2 hgs (fun j e => by cases e; exact Or.inl (by omega))⟩
          have HO5 := hide (own_base ho5 (show w.heap.size ≤ F + 1 by omega))
          have HR5 := hide hrow
          clear ho hg hg4 hrow hgs ho5 HOG hb4 d2' g2' d0 d1 d2 g0 HFb P3
          generalize w'.setCell ⟨F, 2, none⟩ (.slice vo K vc) = W5 at *
          obtain ⟨d0, d1, d2⟩ := box_cells (x := Value.int .u64 E2) (y := Value.int .u64 E3) (z := .slice vo K vc) HR5.out
          obtain ⟨c0, c1, c2⟩ := box_cells P5.out.1
          have f0 := free_row P5.out.1 0
          have f1 := free_row P5.out.1 1
          have f2 := free_row P5.out.1 2
          clear hs3 hs4 hs5
          go_wp2
          obtain ⟨eb, eg⟩ := set3 P5.out.1 (.int .u64 E2) (.int .u64 E3) (.slice vo K vc)
          obtain ⟨e0, e1, e2⟩ := box_cells eb
          have HV10 := hide (own_kept HO5.out eg P5.out.1 (by decide))
          clear c0 c1 c2 f0 f1 f2 eb d0 d1 d2
          have EG := hide (P5.out.ends eg)
          clear eg
          generalize ((W5.setCell ⟨w.heap.size, 0, none⟩ (.int .u64 E2)).setCell ⟨w.heap.size, 1, none⟩ (.int .u64 E3)).setCell ⟨w.heap.size, 2, none⟩ (.slice vo K vc) = W6 at *
          refine bodyPost_ret (v := .tuple #[.agg #[.int .u64 E2, .int .u64 E3, .slice vo K vc], .int .i64 (K22 : Int), .int .i64 0]) ?_ rfl ?_
          · rw [results_cell_tmp2 rfl]; go_simp
          rw [A2.out]
          refine ⟨_, rfl, ?_, EG.out⟩
          have := HV10.out
          rw [HAl.out]
          exact this
end Go.Proofs.YtoeehajdmdmemaaDoor
