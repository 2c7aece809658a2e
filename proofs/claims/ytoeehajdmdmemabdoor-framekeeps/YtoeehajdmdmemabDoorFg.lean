/- The contract of frame's Get. -/
import Derived.Test.YtoeehajdmdmemabDoorFp
import Derived.Laws.ResultCell
namespace Go.Proofs.YtoeehajdmdmemabDoor
open Go.RowKit
attribute [local go_sem ↓] Go.wp_at_zero Go.wp_at_succ

theorem results_cell_tmp2 {fn : Func} {p u x : Tmp} {ty : TypeId} (h : fn.results = #[.cell p ty, .tmp u, .tmp x]) (tmps : Array Value) (P : Program) (w : World) :
    (results fn tmps).run P w =
      ((asAddr (tmps.getD p undef)).run P w).andThen fun a w₁ => ((loadVar ty a).run P w₁).andThen fun v w₂ => .ok (.tuple #[v, tmps.getD u undef, tmps.getD x undef]) w₂ := by
  simp only [results, h]
  simp [Sem.run_bind, Result.andThen]

/-- Inside Get: the answer's box B, the reader A behind it, what it still has. -/
structure GetS (w wr : World) (A : Nat) (R : List Int) (e : Int) : Prop where
  box : wr.heap[w.heap.size]? = some (.cells [Value.int .u64 0, .int .u64 0, .slice none 0 0].toArray 34 (0, 0))
  rd : RdAt wr A R e
  lo : w.heap.size < A
  gr : w.grownBy wr none
theorem GetS.next {w wr wr' : World} {A : Nat} {R R' : List Int} {e e' : Int} (h : GetS w wr A R e) (hW : RdAt wr' A R' e') (hg : wr.grownBy wr' (some A)) : GetS w wr' A R' e' :=
  ⟨(hg.block _ (row_lt h.box) (by have := h.lo; simp; omega)).trans h.box, hW, h.lo, grown_then h.gr hg (fun j e => by cases e; exact Or.inl (Nat.le_of_lt h.lo))⟩

/-- Three cells stored into a box. -/
theorem set3 {w : World} {g : Nat} {x y z : Value} (h : w.heap[g]? = some (.cells [x, y, z].toArray 34 (0, 0))) (a b c : Value) :
    (((w.setCell ⟨g, 0, none⟩ a).setCell ⟨g, 1, none⟩ b).setCell ⟨g, 2, none⟩ c).heap[g]? = some (.cells [a, b, c].toArray 34 (0, 0)) ∧ w.grownBy (((w.setCell ⟨g, 0, none⟩ a).setCell ⟨g, 1, none⟩ b).setCell ⟨g, 2, none⟩ c) (some g) :=
  ⟨row_setCell (row_setCell (row_setCell h 0 a) 1 b) 2 c, grown_trans (grown_trans (grown_setCell w g 0 a) (grown_setCell _ g 1 b)) (grown_setCell _ g 2 c)⟩
theorem box_cells {w : World} {g : Nat} {x y z : Value} (h : w.heap[g]? = some (.cells [x, y, z].toArray 34 (0, 0))) : w.cell? ⟨g, 0, none⟩ = some x ∧ w.cell? ⟨g, 1, none⟩ = some y ∧ w.cell? ⟨g, 2, none⟩ = some z :=
  ⟨cell_row h 0, cell_row h 1, cell_row h 2⟩
/-- A row of its own stays, where what is written is a block of another kind. -/
theorem own_kept {w w' : World} {base n size : Nat} {e t : TypeId} {v : Value} {xs : List Value} {k : Nat} {c : Array Value} {fr : Nat × Nat} (h : w.ownsRow base e size v n xs) (hg : w.grownBy w' (some k)) (hk : w.heap[k]? = some (.cells c t fr)) (hne : t ≠ e) : w'.ownsRow base e size v n xs := by
  refine h.kept hg ?_
  rcases h.2 with ⟨rfl, _⟩ | ⟨g, cap, cur, rfl, _, hgg, _⟩
  · exact Or.inl rfl
  · refine Or.inr (fun e' => ?_)
    simp [Value.ownBlock] at e'
    subst e'
    rw [hk] at hgg
    simp at hgg
    exact hne hgg.2.1
theorem own_grown {w w' : World} {base n size : Nat} {e : TypeId} {v : Value} {xs : List Value} (h : w.ownsRow base e size v n xs) (hg : w.grownBy w' none) : w'.ownsRow base e size v n xs :=
  h.kept hg (by cases v.ownBlock <;> simp)
theorem GetS.ends {w wr wr' : World} {A : Nat} {R : List Int} {e : Int} (h : GetS w wr A R e) (hg : wr.grownBy wr' (some w.heap.size)) : w.grownBy wr' none :=
  grown_then h.gr hg (fun j e => by cases e; exact Or.inl (Nat.le_refl _))

set_option maxHeartbeats 4000000 in
theorem fget_any (xs : List Int) (hB : Byt xs) (ao : Option Addr) (n cap : Nat) (w : World) (hn : xs.length = n) (hat : At w ao xs) (hnil : ao = none → n = 0 ∧ cap = 0) (hc : n ≤ cap) (hm : n ≤ 140737488355328) (hT : Tab w) :
    Calls Tryd.prog 10 #[.slice ao n cap] w fun r w' => ∃ v, r = .returned (.tuple #[frV (getF xs).f.e (getF xs).f.s v, .int .i64 ((getF xs).n : Int), .int .i64 (getF xs).c]) ∧
      w'.ownsRow w.heap.size 5 1 v (getF xs).f.b.length ((getF xs).f.b.map (Value.int .u8)) ∧ w.grownBy w' none := by
  unfold frV
  have HF := hide (And.intro hB (And.intro hn (And.intro hat (And.intro hnil (And.intro hc hT)))))
  have HC := hide (rd_cases hB)
  have HL : Hid ((xs.take 54).length = min n 54) := by show _ = _; simp [hn]; omega
  clear hB hat hnil hT
  have hst54 := slice_to ao n cap 54
  have hstn := slice_to ao n cap n hc
  have hB0 : ∀ w1 : World, (w.alloc (.cells #[.int .u64 0, .int .u64 0, .slice none 0 0] 34)).grownBy w1 none → w1.heap[w.heap.size]? = some (.cells [Value.int .u64 0, .int .u64 0, .slice none 0 0].toArray 34 (0, 0)) ∧ w.grownBy w1 none := fun w1 hg =>
    ⟨(hg.block _ (by simp) (by simp)).trans (heap_alloc_new w _), grown_trans (World.grownBy_alloc w _ none) hg⟩
  have HB0 := hide hB0
  clear hB0
  rcases Nat.lt_or_ge 54 n with h54 | h54
  case' inl =>
    have hst := hst54 (by omega)
    have HO := hide (of_any ao 54 cap (xs.take 54) (w.alloc (.cells #[.int .u64 0, .int .u64 0, .slice none 0 0] 34)) (by rw [HL.out]; omega) ((HF.out.2.2.1.kept (World.grownBy_alloc w _ none) (fun _ _ e => by cases e)).take 54) (fun e => by have := (HF.out.2.2.2.1 e).1; omega) (by omega))
    go_enter Tryd.func10, Tryd.ntmps10
    clear hn hst54 hstn
    go_wp2_with fail
  case' inr =>
    have HO := hide (of_any ao n cap (xs.take 54) (w.alloc (.cells #[.int .u64 0, .int .u64 0, .slice none 0 0] 34)) (by rw [HL.out]; omega) ((HF.out.2.2.1.kept (World.grownBy_alloc w _ none) (fun _ _ e => by cases e)).take 54) HF.out.2.2.2.1 (by omega))
    go_enter Tryd.func10, Tryd.ntmps10
    clear hn hst54
    go_wp2_with fail
  all_goals
    refine HO.out.mono ?_
    rintro e w1 ⟨A, rfl, hA, hR, hg⟩
    have P1 : Hid (GetS w w1 A (xs.take 54) 0) := ⟨(HB0.out w1 hg).1, hR, by simp at hA; omega, (HB0.out w1 hg).2⟩
    clear HO hR hg HB0 hA
    have HY := hide ((HF.out.1.take 54 : Byt (xs.take 54)))
    have HYb := hide (rd_byt HY.out)
    have HYl : Hid ((rd3 (xs.take 54)).2.1.length ≤ 140737488355328) := Nat.le_trans (rd_len _) (by rw [HL.out]; omega)
    have V1 := takeF_value HY.out 0 2
    go_wp2_with fail
    refine (rtwo_any A (xs.take 54) 0 w1 P1.out.rd HY.out).mono ?_
    rw [show takeF (xs.take 54) 0 2 = rd1 (xs.take 54) from rfl]
    rw [show takeF (xs.take 54) 0 ((2 : Nat) : Int) = rd1 (xs.take 54) from rfl] at V1
    rintro e w2 ⟨rfl, hR, hg⟩
    have P2 := hide (P1.out.next hR hg)
    clear hR hg P1
    obtain ⟨L, hL⟩ : ∃ L, L = leV (rd1 (xs.take 54)).1 := ⟨_, rfl⟩
    rw [← hL] at V1 ⊢
    obtain ⟨v0, v1⟩ := V1
    have v2 : L < 65536 := v1
    clear v1
    have hsp : (32 < L ∧ getF xs = ⟨noFr, 0, 80⟩) ∨ L ≤ 32 := by
      rcases HC.out with ⟨a1, a2⟩ | ⟨a1, _⟩ | ⟨K, a1, a2, _⟩
      · exact Or.inl ⟨by rw [hL]; exact a1, a2⟩
      · exact Or.inr (by rw [hL]; exact a1)
      · exact Or.inr (by rw [hL, a1]; omega)
    have HL2 := hide hL
    clear hL
    rcases hsp with ⟨a1, a2⟩ | a1
    · obtain ⟨c0, c1, c2⟩ := box_cells P2.out.box
      have f0 := free_row P2.out.box 0
      have f1 := free_row P2.out.box 1
      have f2 := free_row P2.out.box 2
      have A2 := hide a2
      clear a2
      go_wp2
      obtain ⟨eb, eg⟩ := set3 P2.out.box (.int .u64 0) (.int .u64 0) (.slice none 0 0)
      obtain ⟨e0, e1, e2⟩ := box_cells eb
      clear c0 c1 c2 f0 f1 f2 eb
      have EG := hide (P2.out.ends eg)
      clear eg
      generalize ((w2.setCell ⟨w.heap.size, 0, none⟩ (.int .u64 0)).setCell ⟨w.heap.size, 1, none⟩ (.int .u64 0)).setCell ⟨w.heap.size, 2, none⟩ (.slice none 0 0) = w3 at *
      refine bodyPost_ret (v := .tuple #[.agg #[.int .u64 0, .int .u64 0, .slice none 0 0], .int .i64 0, .int .i64 80]) ?_ rfl ?_
      · rw [results_cell_tmp2 rfl]; go_simp
      rw [A2.out]
      exact ⟨_, rfl, World.ownsRow_nil _ _ _ _, EG.out⟩
    · go_wp2_with fail
      refine (reight_any A _ _ w2 P2.out.rd HYb.out.1).mono ?_
      rw [show takeF (rd1 (xs.take 54)).2.1 (rd1 (xs.take 54)).2.2 8 = rd2 (xs.take 54) from rfl]
      rintro e w3 ⟨rfl, hR, hg⟩
      have P3 := hide (P2.out.next hR hg)
      clear hR hg P2
      go_wp2_with fail
      refine (reight_any A _ _ w3 P3.out.rd HYb.out.2.1).mono ?_
      rw [show takeF (rd2 (xs.take 54)).2.1 (rd2 (xs.take 54)).2.2 8 = rd3 (xs.take 54) from rfl]
      rintro e w4 ⟨rfl, hR, hg⟩
      have P4 := hide (P3.out.next hR hg)
      clear hR hg P3
      go_wp2_with fail
      refine (take_any A _ _ L w4 P4.out.rd (by omega) (by omega) HYl.out).mono ?_
      rw [show takeF (rd3 (xs.take 54)).2.1 (rd3 (xs.take 54)).2.2 L = rd4 (xs.take 54) from by rw [HL2.out]; rfl]
      rintro e w5 ⟨v, rfl, hv, hR, hg⟩
      have P5 := hide (P4.out.next hR hg)
      obtain ⟨vo, vc, rfl, _⟩ := own_at hv
      have HV := hide (own_base hv P4.out.gr.size)
      clear hR hg P4 hv
      go_wp2_with fail
      obtain ⟨F, hF⟩ : ∃ F, F = w5.heap.size := ⟨_, rfl⟩
      have hg6 := World.grownBy_alloc w5 (.cells #[.int .u64 (leV (rd2 (xs.take 54)).1), .int .u64 (leV (rd3 (xs.take 54)).1), .slice vo (rd4 (xs.take 54)).1.length vc] 34) none
      have hb6 := heap_alloc_new w5 (.cells [Value.int .u64 (leV (rd2 (xs.take 54)).1), .int .u64 (leV (rd3 (xs.take 54)).1), .slice vo (rd4 (xs.take 54)).1.length vc].toArray 34)
      have P6 : Hid (GetS w (w5.alloc (.cells #[.int .u64 (leV (rd2 (xs.take 54)).1), .int .u64 (leV (rd3 (xs.take 54)).1), .slice vo (rd4 (xs.take 54)).1.length vc] 34)) A (rd4 (xs.take 54)).2.1 (rd4 (xs.take 54)).2.2) :=
        ⟨(hg6.block _ (row_lt P5.out.box) (by simp)).trans P5.out.box, P5.out.rd.kept hg6 (by simp) (NoBytes.none _), P5.out.lo, grown_trans P5.out.gr hg6⟩
      have HV6 := hide (own_grown HV.out hg6)
      have hFA : F ≠ A := by have := P5.out.rd.lt; omega
      have hwF : w.heap.size < F := by have := row_lt P5.out.box; omega
      rw [← hF] at hb6 ⊢
      have HB6 := hide hb6
      clear P5 HV hF hg6 hb6
      simp only [List.toArray] at HB6
      generalize w5.alloc (.cells #[.int .u64 (leV (rd2 (xs.take 54)).1), .int .u64 (leV (rd3 (xs.take 54)).1), .slice vo (rd4 (xs.take 54)).1.length vc] 34) = w6 at *
      refine (rfour_any A _ _ w6 P6.out.rd HYb.out.2.2.2).mono ?_
      rw [show takeF (rd4 (xs.take 54)).2.1 (rd4 (xs.take 54)).2.2 4 = rd5 (xs.take 54) from rfl]
      rintro e w7 ⟨rfl, hR, hg⟩
      have P7 := hide (P6.out.next hR hg)
      obtain ⟨_, _, hrd, _⟩ := P6.out.rd
      have HV7 := hide (own_kept HV6.out hg hrd (by decide))
      have HB7 := hide ((hg.block F (row_lt HB6.out) (by simpa using hFA)).trans HB6.out)
      clear hR hg P6 hrd HV6 HB6
      go_wp2_with fail
      refine (err_any A _ _ w7 P7.out.rd).mono ?_
      rintro e w8 ⟨rfl, rfl⟩
      rcases HC.out with ⟨b1, b2⟩ | ⟨b1, b2, b3⟩ | ⟨K, b1, b2, b3, b4, b5, b6⟩
      · have := HL2.out; omega
      · rw [b2]
        obtain ⟨c0, c1, c2⟩ := box_cells P7.out.box
        have f0 := free_row P7.out.box 0
        have f1 := free_row P7.out.box 1
        have f2 := free_row P7.out.box 2
        have A2 := hide b3
        clear b1 b2 b3
        go_wp2
        obtain ⟨eb, eg⟩ := set3 P7.out.box (.int .u64 0) (.int .u64 0) (.slice none 0 0)
        obtain ⟨e0, e1, e2⟩ := box_cells eb
        clear c0 c1 c2 f0 f1 f2 eb
        have EG := hide (P7.out.ends eg)
        clear eg
        generalize ((w8.setCell ⟨w.heap.size, 0, none⟩ (.int .u64 0)).setCell ⟨w.heap.size, 1, none⟩ (.int .u64 0)).setCell ⟨w.heap.size, 2, none⟩ (.slice none 0 0) = w9 at *
        refine bodyPost_ret (v := .tuple #[.agg #[.int .u64 0, .int .u64 0, .slice none 0 0], .int .i64 0, .int .i64 4]) ?_ rfl ?_
        · rw [results_cell_tmp2 rfl]; go_simp
        rw [A2.out]
        exact ⟨_, rfl, World.ownsRow_nil _ _ _ _, EG.out⟩
      · rw [b4]
        have hLK : L = (K : Int) := by rw [HL2.out]; exact b1
        have HX := hide (And.intro b5 (And.intro b6 b3))
        clear b1 b4 b5 b6 b3 HL2
        subst hLK
        have hnK : 18 + K ≤ n := by have := HX.out.2.2; have := HF.out.2.1; omega
        clear a1 v0 v2
        have hsz : sizeF (K : Int) = ((22 + K : Nat) : Int) := by unfold sizeF; rw [if_neg (by omega)]; omega
        go_wp2_with fail
        refine (size_any (K : Int) w8 (by omega) (by omega)).mono ?_
        rw [hsz]
        rintro e w9 ⟨rfl, hg⟩
        have P9 : Hid (GetS w w9 A (rd5 (xs.take 54)).2.1 (rd5 (xs.take 54)).2.2) := ⟨(hg.block _ (row_lt P7.out.box) (by simp)).trans P7.out.box, P7.out.rd.kept hg (by simp) (NoBytes.none _), P7.out.lo, grown_trans P7.out.gr hg⟩
        have HV9 := hide (own_grown HV7.out hg)
        have HB9 := hide ((hg.block F (row_lt HB7.out) (by simp)).trans HB7.out)
        clear hg P7 HV7 HB7 hsz
        have hsub : ((22 + K : Nat) : Int) - 4 = ((18 + K : Nat) : Int) := by omega
        have hst18 := slice_to ao n cap (18 + K) (by omega)
        have hK32 : (22 + K : Nat) ≤ 54 := by omega
        go_wp2_with fail
        rw [show 22 + K - 4 = 18 + K by omega]
        refine (sum_any ao (18 + K) cap (xs.take (18 + K)) w9 (by have := HF.out.2.1; simp; omega) (HF.out.1.take _) ((HF.out.2.2.1.kept P9.out.gr (fun _ _ e => by cases e)).take _) (HF.out.2.2.2.2.2.grown P9.out.gr) (by omega)).mono ?_
        rintro e w10 ⟨rfl, rfl⟩
        obtain ⟨SM, hSM⟩ : ∃ x, x = sumI (xs.take (18 + K)) := ⟨_, rfl⟩
        obtain ⟨S5, hS5⟩ : ∃ x, x = leV (rd5 (xs.take 54)).1 := ⟨_, rfl⟩
        have HX2 := HX.out.2.1
        rw [← hSM, ← hS5] at HX2
        rw [← hSM, ← hS5]
        clear hSM hS5
        obtain ⟨c0, c1, c2⟩ := box_cells P9.out.box
        have f0 := free_row P9.out.box 0
        have f1 := free_row P9.out.box 1
        have f2 := free_row P9.out.box 2
        by_cases hne : S5 = SM
        · subst hne
          rw [if_neg (by simp)] at HX2
          have A2 := hide HX2
          obtain ⟨d0, d1, d2⟩ := box_cells HB9.out
          clear HX2
          generalize hE2 : leV (rd2 (xs.take 54)).1 = E2 at *
          generalize hE3 : leV (rd3 (xs.take 54)).1 = E3 at *
          have AE := hide (And.intro hE2 hE3)
          clear hE2 hE3
          go_wp2
          obtain ⟨eb, eg⟩ := set3 P9.out.box (.int .u64 E2) (.int .u64 E3) (.slice vo (rd4 (xs.take 54)).1.length vc)
          obtain ⟨e0, e1, e2⟩ := box_cells eb
          have HV10 := hide (own_kept HV9.out eg P9.out.box (by decide))
          clear c0 c1 c2 f0 f1 f2 eb d0 d1 d2
          have EG := hide (P9.out.ends eg)
          clear eg
          generalize ((w10.setCell ⟨w.heap.size, 0, none⟩ (.int .u64 E2)).setCell ⟨w.heap.size, 1, none⟩ (.int .u64 E3)).setCell ⟨w.heap.size, 2, none⟩ (.slice vo (rd4 (xs.take 54)).1.length vc) = w11 at *
          refine bodyPost_ret (v := .tuple #[.agg #[.int .u64 E2, .int .u64 E3, .slice vo (rd4 (xs.take 54)).1.length vc], .int .i64 ((22 + K : Nat) : Int), .int .i64 0]) ?_ rfl ?_
          · rw [results_cell_tmp2 rfl]; go_simp
          rw [A2.out]
          exact ⟨_, rfl, HV10.out, EG.out⟩
        · rw [if_pos hne] at HX2
          have A2 := hide HX2
          clear HX2
          go_wp2
          obtain ⟨eb, eg⟩ := set3 P9.out.box (.int .u64 0) (.int .u64 0) (.slice none 0 0)
          obtain ⟨e0, e1, e2⟩ := box_cells eb
          clear c0 c1 c2 f0 f1 f2 eb
          have EG := hide (P9.out.ends eg)
          clear eg
          generalize ((w10.setCell ⟨w.heap.size, 0, none⟩ (.int .u64 0)).setCell ⟨w.heap.size, 1, none⟩ (.int .u64 0)).setCell ⟨w.heap.size, 2, none⟩ (.slice none 0 0) = w11 at *
          refine bodyPost_ret (v := .tuple #[.agg #[.int .u64 0, .int .u64 0, .slice none 0 0], .int .i64 0, .int .i64 81]) ?_ rfl ?_
          · rw [results_cell_tmp2 rfl]; go_simp
          rw [A2.out]
          exact ⟨_, rfl, World.ownsRow_nil _ _ _ _, EG.out⟩
end Go.Proofs.YtoeehajdmdmemabDoor
