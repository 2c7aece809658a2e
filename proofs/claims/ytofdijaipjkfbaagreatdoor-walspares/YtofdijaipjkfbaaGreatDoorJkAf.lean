/- Texts joined: FFg, FRef, FRefNum, FCRef. -/
import Derived.Test.YtofdijaipjkfbaaGreatDoorJkAe
import Derived.Laws.ResultCell
import Derived.Test.YtofdijaipjkfbaaGreatDoorJkAc
import Derived.Maps.AppendAt
import Derived.Test.YtofdijaipjkfbaaGreatDoorJkAd
/- The contract of frame's Get. -/
namespace Go.Proofs.YtofdijaipjkfbaaGreatDoor.Fm
open Go.RowKit
attribute [local go_sem ↓] Go.wp_at_zero Go.wp_at_succ

theorem results_cell_tmp2 {fn : Func} {p u x : Tmp} {ty : TypeId} (h : fn.results = #[.cell p ty, .tmp u, .tmp x]) (tmps : Array Value) (P : Program) (w : World) :
    (results fn tmps).run P w =
      ((asAddr (tmps.getD p undef)).run P w).andThen fun a w₁ => ((loadVar ty a).run P w₁).andThen fun v w₂ => .ok (.tuple #[v, tmps.getD u undef, tmps.getD x undef]) w₂ := by
  simp only [results, h]
  simp [Sem.run_bind, Result.andThen]

/-- Inside Get: the answer's box B, the reader A behind it, what it still has. -/
structure GetS (w wr : World) (A : Nat) (R : List Int) (e : Int) : Prop where
  box : wr.heap[w.heap.size]? = some (.cells [Value.int .u64 0, .int .u64 0, .slice none 0 0].toArray 104 (0, 0))
  rd : RdAt wr A R e
  lo : w.heap.size < A
  gr : w.grownBy wr none
theorem GetS.next {w wr wr' : World} {A : Nat} {R R' : List Int} {e e' : Int} (h : GetS w wr A R e) (hW : RdAt wr' A R' e') (hg : wr.grownBy wr' (some A)) : GetS w wr' A R' e' :=
  ⟨(hg.block _ (row_lt h.box) (by have := h.lo; simp; omega)).trans h.box, hW, h.lo, grown_then h.gr hg (fun j e => by cases e; exact Or.inl (Nat.le_of_lt h.lo))⟩

/-- Three cells stored into a box. -/
theorem set3 {w : World} {g : Nat} {x y z : Value} (h : w.heap[g]? = some (.cells [x, y, z].toArray 104 (0, 0))) (a b c : Value) :
    (((w.setCell ⟨g, 0, none⟩ a).setCell ⟨g, 1, none⟩ b).setCell ⟨g, 2, none⟩ c).heap[g]? = some (.cells [a, b, c].toArray 104 (0, 0)) ∧ w.grownBy (((w.setCell ⟨g, 0, none⟩ a).setCell ⟨g, 1, none⟩ b).setCell ⟨g, 2, none⟩ c) (some g) :=
  ⟨row_setCell (row_setCell (row_setCell h 0 a) 1 b) 2 c, grown_trans (grown_trans (grown_setCell w g 0 a) (grown_setCell _ g 1 b)) (grown_setCell _ g 2 c)⟩
theorem box_cells {w : World} {g : Nat} {x y z : Value} (h : w.heap[g]? = some (.cells [x, y, z].toArray 104 (0, 0))) : w.cell? ⟨g, 0, none⟩ = some x ∧ w.cell? ⟨g, 1, none⟩ = some y ∧ w.cell? ⟨g, 2, none⟩ = some z :=
  ⟨cell_row h 0, cell_row h 1, cell_row h 2⟩
/-- A row of its own stays, where what is written is a block of another kind. -/
theorem own_kept {w w' : World} {base n size : Nat} {e t : TypeId} {v : Value} {xs : List Value} {k : Nat} {c : Array Value} {fr : Nat × Nat} (h : w.ownsRow base e size v n xs) (hg : w.grownBy w' (some k)) (hk : w.heap[k]? = some (.cells c t fr)) (hne : t ≠ e) : w'.ownsRow base e size v n xs := by
  refine h.kept hg ?_
  rcases h.2 with ⟨rfl, _⟩ | ⟨g, cap, cur, rfl, _, hgg, _⟩
  · exact Or.inl rfl
  · refine Or.inr (fun e' => ?_)
    simp [Value.ownBlock] at e'
    subst e'
    rw [hk] at hgg
    simp at hgg
    exact hne hgg.2.1
theorem own_grown {w w' : World} {base n size : Nat} {e : TypeId} {v : Value} {xs : List Value} (h : w.ownsRow base e size v n xs) (hg : w.grownBy w' none) : w'.ownsRow base e size v n xs :=
  h.kept hg (by cases v.ownBlock <;> simp)
theorem GetS.ends {w wr wr' : World} {A : Nat} {R : List Int} {e : Int} (h : GetS w wr A R e) (hg : wr.grownBy wr' (some w.heap.size)) : w.grownBy wr' none :=
  grown_then h.gr hg (fun j e => by cases e; exact Or.inl (Nat.le_refl _))

set_option maxHeartbeats 4000000 in
theorem fget_any (xs : List Int) (hB : Byt xs) (ao : Option Addr) (n cap : Nat) (w : World) (hn : xs.length = n) (hat : At w ao xs) (hnil : ao = none → n = 0 ∧ cap = 0) (hc : n ≤ cap) (hm : n ≤ 140737488355328) (hT : Tab w) :
    Calls Tryz.prog 160 #[.slice ao n cap] w fun r w' => ∃ v, r = .returned (.tuple #[frV (getF xs).f.e (getF xs).f.s v, .int .i64 ((getF xs).n : Int), .int .i64 (getF xs).c]) ∧
      w'.ownsRow w.heap.size 5 1 v (getF xs).f.b.length ((getF xs).f.b.map (Value.int .u8)) ∧ w.grownBy w' none := by
  unfold frV
  have HF := hide (And.intro hB (And.intro hn (And.intro hat (And.intro hnil (And.intro hc hT)))))
  have HC := hide (rd_cases hB)
  have HL : Hid ((xs.take 54).length = min n 54) := by show _ = _; simp [hn]; omega
  clear hB hat hnil hT
  have hst54 := slice_to ao n cap 54
  have hstn := slice_to ao n cap n hc
  have hB0 : ∀ w1 : World, (w.alloc (.cells #[.int .u64 0, .int .u64 0, .slice none 0 0] 104)).grownBy w1 none → w1.heap[w.heap.size]? = some (.cells [Value.int .u64 0, .int .u64 0, .slice none 0 0].toArray 104 (0, 0)) ∧ w.grownBy w1 none := fun w1 hg =>
    ⟨(hg.block _ (by simp) (by simp)).trans (heap_alloc_new w _), grown_trans (World.grownBy_alloc w _ none) hg⟩
  have HB0 := hide hB0
  clear hB0
  rcases Nat.lt_or_ge 54 n with h54 | h54
  case' inl =>
    have hst := hst54 (by omega)
    have HO := hide (of_any ao 54 cap (xs.take 54) (w.alloc (.cells #[.int .u64 0, .int .u64 0, .slice none 0 0] 104)) (by rw [HL.out]; omega) ((HF.out.2.2.1.kept (World.grownBy_alloc w _ none) (fun _ _ e => by cases e)).take 54) (fun e => by have := (HF.out.2.2.2.1 e).1; omega) (by omega))
    go_enter Tryz.func160, Tryz.ntmps160
    clear hn hst54 hstn
    go_wp2_with fail
  case' inr =>
    have HO := hide (of_any ao n cap (xs.take 54) (w.alloc (.cells #[.int .u64 0, .int .u64 0, .slice none 0 0] 104)) (by rw [HL.out]; omega) ((HF.out.2.2.1.kept (World.grownBy_alloc w _ none) (fun _ _ e => by cases e)).take 54) HF.out.2.2.2.1 (by omega))
    go_enter Tryz.func160, Tryz.ntmps160
    clear hn hst54
    go_wp2_with fail
  all_goals
    refine HO.out.mono ?_
    rintro e w1 ⟨A, rfl, hA, hR, hg⟩
    have P1 : Hid (GetS w w1 A (xs.take 54) 0) := ⟨(HB0.out w1 hg).1, hR, by simp at hA; omega, (HB0.out w1 hg).2⟩
    clear HO hR hg HB0 hA
    have HY := hide ((HF.out.1.take 54 : Byt (xs.take 54)))
    have HYb := hide (rd_byt HY.out)
    have HYl : Hid ((rd3 (xs.take 54)).2.1.length ≤ 140737488355328) := Nat.le_trans (rd_len _) (by rw [HL.out]; omega)
    have V1 := takeF_value HY.out 0 2
    go_wp2_with fail
    refine (rtwo_any A (xs.take 54) 0 w1 P1.out.rd HY.out).mono ?_
    rw [show takeF (xs.take 54) 0 2 = rd1 (xs.take 54) from rfl]
    rw [show takeF (xs.take 54) 0 ((2 : Nat) : Int) = rd1 (xs.take 54) from rfl] at V1
    rintro e w2 ⟨rfl, hR, hg⟩
    have P2 := hide (P1.out.next hR hg)
    clear hR hg P1
    obtain ⟨L, hL⟩ : ∃ L, L = leV (rd1 (xs.take 54)).1 := ⟨_, rfl⟩
    rw [← hL] at V1 ⊢
    obtain ⟨v0, v1⟩ := V1
    have v2 : L < 65536 := v1
    clear v1
    have hsp : (32 < L ∧ getF xs = ⟨noFr, 0, 80⟩) ∨ L ≤ 32 := by
      rcases HC.out with ⟨a1, a2⟩ | ⟨a1, _⟩ | ⟨K, a1, a2, _⟩
      · exact Or.inl ⟨by rw [hL]; exact a1, a2⟩
      · exact Or.inr (by rw [hL]; exact a1)
      · exact Or.inr (by rw [hL, a1]; omega)
    have HL2 := hide hL
    clear hL
    rcases hsp with ⟨a1, a2⟩ | a1
    · obtain ⟨c0, c1, c2⟩ := box_cells P2.out.box
      have f0 := free_row P2.out.box 0
      have f1 := free_row P2.out.box 1
      have f2 := free_row P2.out.box 2
      have A2 := hide a2
      clear a2
      go_wp2
      obtain ⟨eb, eg⟩ := set3 P2.out.box (.int .u64 0) (.int .u64 0) (.slice none 0 0)
      obtain ⟨e0, e1, e2⟩ := box_cells eb
      clear c0 c1 c2 f0 f1 f2 eb
      have EG := hide (P2.out.ends eg)
      clear eg
      generalize ((w2.setCell ⟨w.heap.size, 0, none⟩ (.int .u64 0)).setCell ⟨w.heap.size, 1, none⟩ (.int .u64 0)).setCell ⟨w.heap.size, 2, none⟩ (.slice none 0 0) = w3 at *
      refine bodyPost_ret (v := .tuple #[.agg #[.int .u64 0, .int .u64 0, .slice none 0 0], .int .i64 0, .int .i64 80]) ?_ rfl ?_
      · rw [results_cell_tmp2 rfl]; go_simp
      rw [A2.out]
      exact ⟨_, rfl, World.ownsRow_nil _ _ _ _, EG.out⟩
    · go_wp2_with fail
      refine (reight_any A _ _ w2 P2.out.rd HYb.out.1).mono ?_
      rw [show takeF (rd1 (xs.take 54)).2.1 (rd1 (xs.take 54)).2.2 8 = rd2 (xs.take 54) from rfl]
      rintro e w3 ⟨rfl, hR, hg⟩
      have P3 := hide (P2.out.next hR hg)
      clear hR hg P2
      go_wp2_with fail
      refine (reight_any A _ _ w3 P3.out.rd HYb.out.2.1).mono ?_
      rw [show takeF (rd2 (xs.take 54)).2.1 (rd2 (xs.take 54)).2.2 8 = rd3 (xs.take 54) from rfl]
      rintro e w4 ⟨rfl, hR, hg⟩
      have P4 := hide (P3.out.next hR hg)
      clear hR hg P3
      go_wp2_with fail
      refine (take_any A _ _ L w4 P4.out.rd (by omega) (by omega) HYl.out).mono ?_
      rw [show takeF (rd3 (xs.take 54)).2.1 (rd3 (xs.take 54)).2.2 L = rd4 (xs.take 54) from by rw [HL2.out]; rfl]
      rintro e w5 ⟨v, rfl, hv, hR, hg⟩
      have P5 := hide (P4.out.next hR hg)
      obtain ⟨vo, vc, rfl, _⟩ := own_at hv
      have HV := hide (own_base hv P4.out.gr.size)
      clear hR hg P4 hv
      go_wp2_with fail
      obtain ⟨F, hF⟩ : ∃ F, F = w5.heap.size := ⟨_, rfl⟩
      have hg6 := World.grownBy_alloc w5 (.cells #[.int .u64 (leV (rd2 (xs.take 54)).1), .int .u64 (leV (rd3 (xs.take 54)).1), .slice vo (rd4 (xs.take 54)).1.length vc] 104) none
      have hb6 := heap_alloc_new w5 (.cells [Value.int .u64 (leV (rd2 (xs.take 54)).1), .int .u64 (leV (rd3 (xs.take 54)).1), .slice vo (rd4 (xs.take 54)).1.length vc].toArray 104)
      have P6 : Hid (GetS w (w5.alloc (.cells #[.int .u64 (leV (rd2 (xs.take 54)).1), .int .u64 (leV (rd3 (xs.take 54)).1), .slice vo (rd4 (xs.take 54)).1.length vc] 104)) A (rd4 (xs.take 54)).2.1 (rd4 (xs.take 54)).2.2) :=
        ⟨(hg6.block _ (row_lt P5.out.box) (by simp)).trans P5.out.box, P5.out.rd.kept hg6 (by simp) (NoBytes.none _), P5.out.lo, grown_trans P5.out.gr hg6⟩
      have HV6 := hide (own_grown HV.out hg6)
      have hFA : F ≠ A := by have := P5.out.rd.lt; omega
      have hwF : w.heap.size < F := by have := row_lt P5.out.box; omega
      rw [← hF] at hb6 ⊢
      have HB6 := hide hb6
      clear P5 HV hF hg6 hb6
      simp only [List.toArray] at HB6
      generalize w5.alloc (.cells #[.int .u64 (leV (rd2 (xs.take 54)).1), .int .u64 (leV (rd3 (xs.take 54)).1), .slice vo (rd4 (xs.take 54)).1.length vc] 104) = w6 at *
      refine (rfour_any A _ _ w6 P6.out.rd HYb.out.2.2.2).mono ?_
      rw [show takeF (rd4 (xs.take 54)).2.1 (rd4 (xs.take 54)).2.2 4 = rd5 (xs.take 54) from rfl]
      rintro e w7 ⟨rfl, hR, hg⟩
      have P7 := hide (P6.out.next hR hg)
      obtain ⟨_, _, hrd, _⟩ := P6.out.rd
      have HV7 := hide (own_kept HV6.out hg hrd (by decide))
      have HB7 := hide ((hg.block F (row_lt HB6.out) (by simpa using hFA)).trans HB6.out)
      clear hR hg P6 hrd HV6 HB6
      go_wp2_with fail
      refine (err_any A _ _ w7 P7.out.rd).mono ?_
      rintro e w8 ⟨rfl, rfl⟩
      rcases HC.out with ⟨b1, b2⟩ | ⟨b1, b2, b3⟩ | ⟨K, b1, b2, b3, b4, b5, b6⟩
      · have := HL2.out; omega
      · rw [b2]
        obtain ⟨c0, c1, c2⟩ := box_cells P7.out.box
        have f0 := free_row P7.out.box 0
        have f1 := free_row P7.out.box 1
        have f2 := free_row P7.out.box 2
        have A2 := hide b3
        clear b1 b2 b3
        go_wp2
        obtain ⟨eb, eg⟩ := set3 P7.out.box (.int .u64 0) (.int .u64 0) (.slice none 0 0)
        obtain ⟨e0, e1, e2⟩ := box_cells eb
        clear c0 c1 c2 f0 f1 f2 eb
        have EG := hide (P7.out.ends eg)
        clear eg
        generalize ((w8.setCell ⟨w.heap.size, 0, none⟩ (.int .u64 0)).setCell ⟨w.heap.size, 1, none⟩ (.int .u64 0)).setCell ⟨w.heap.size, 2, none⟩ (.slice none 0 0) = w9 at *
        refine bodyPost_ret (v := .tuple #[.agg #[.int .u64 0, .int .u64 0, .slice none 0 0], .int .i64 0, .int .i64 4]) ?_ rfl ?_
        · rw [results_cell_tmp2 rfl]; go_simp
        rw [A2.out]
        exact ⟨_, rfl, World.ownsRow_nil _ _ _ _, EG.out⟩
      · rw [b4]
        have hLK : L = (K : Int) := by rw [HL2.out]; exact b1
        have HX := hide (And.intro b5 (And.intro b6 b3))
        clear b1 b4 b5 b6 b3 HL2
        subst hLK
        have hnK : 18 + K ≤ n := by have := HX.out.2.2; have := HF.out.2.1; omega
        clear a1 v0 v2
        have hsz : sizeF (K : Int) = ((22 + K : Nat) : Int) := by unfold sizeF; rw [if_neg (by omega)]; omega
        go_wp2_with fail
        refine (size_any (K : Int) w8 (by omega) (by omega)).mono ?_
        rw [hsz]
        rintro e w9 ⟨rfl, hg⟩
        have P9 : Hid (GetS w w9 A (rd5 (xs.take 54)).2.1 (rd5 (xs.take 54)).2.2) := ⟨(hg.block _ (row_lt P7.out.box) (by simp)).trans P7.out.box, P7.out.rd.kept hg (by simp) (NoBytes.none _), P7.out.lo, grown_trans P7.out.gr hg⟩
        have HV9 := hide (own_grown HV7.out hg)
        have HB9 := hide ((hg.block F (row_lt HB7.out) (by simp)).trans HB7.out)
        clear hg P7 HV7 HB7 hsz
        have hsub : ((22 + K : Nat) : Int) - 4 = ((18 + K : Nat) : Int) := by omega
        have hst18 := slice_to ao n cap (18 + K) (by omega)
        have hK32 : (22 + K : Nat) ≤ 54 := by omega
        go_wp2_with fail
        rw [show 22 + K - 4 = 18 + K by omega]
        refine (sum_any ao (18 + K) cap (xs.take (18 + K)) w9 (by have := HF.out.2.1; simp; omega) (HF.out.1.take _) ((HF.out.2.2.1.kept P9.out.gr (fun _ _ e => by cases e)).take _) (HF.out.2.2.2.2.2.grown P9.out.gr) (by omega)).mono ?_
        rintro e w10 ⟨rfl, rfl⟩
        obtain ⟨SM, hSM⟩ : ∃ x, x = sumI (xs.take (18 + K)) := ⟨_, rfl⟩
        obtain ⟨S5, hS5⟩ : ∃ x, x = leV (rd5 (xs.take 54)).1 := ⟨_, rfl⟩
        have HX2 := HX.out.2.1
        rw [← hSM, ← hS5] at HX2
        rw [← hSM, ← hS5]
        clear hSM hS5
        obtain ⟨c0, c1, c2⟩ := box_cells P9.out.box
        have f0 := free_row P9.out.box 0
        have f1 := free_row P9.out.box 1
        have f2 := free_row P9.out.box 2
        by_cases hne : S5 = SM
        · subst hne
          rw [if_neg (by simp)] at HX2
          have A2 := hide HX2
          obtain ⟨d0, d1, d2⟩ := box_cells HB9.out
          clear HX2
          generalize hE2 : leV (rd2 (xs.take 54)).1 = E2 at *
          generalize hE3 : leV (rd3 (xs.take 54)).1 = E3 at *
          have AE := hide (And.intro hE2 hE3)
          clear hE2 hE3
          go_wp2
          obtain ⟨eb, eg⟩ := set3 P9.out.box (.int .u64 E2) (.int .u64 E3) (.slice vo (rd4 (xs.take 54)).1.length vc)
          obtain ⟨e0, e1, e2⟩ := box_cells eb
          have HV10 := hide (own_kept HV9.out eg P9.out.box (by decide))
          clear c0 c1 c2 f0 f1 f2 eb d0 d1 d2
          have EG := hide (P9.out.ends eg)
          clear eg
          generalize ((w10.setCell ⟨w.heap.size, 0, none⟩ (.int .u64 E2)).setCell ⟨w.heap.size, 1, none⟩ (.int .u64 E3)).setCell ⟨w.heap.size, 2, none⟩ (.slice vo (rd4 (xs.take 54)).1.length vc) = w11 at *
          refine bodyPost_ret (v := .tuple #[.agg #[.int .u64 E2, .int .u64 E3, .slice vo (rd4 (xs.take 54)).1.length vc], .int .i64 ((22 + K : Nat) : Int), .int .i64 0]) ?_ rfl ?_
          · rw [results_cell_tmp2 rfl]; go_simp
          rw [A2.out]
          exact ⟨_, rfl, HV10.out, EG.out⟩
        · rw [if_pos hne] at HX2
          have A2 := hide HX2
          clear HX2
          go_wp2
          obtain ⟨eb, eg⟩ := set3 P9.out.box (.int .u64 0) (.int .u64 0) (.slice none 0 0)
          obtain ⟨e0, e1, e2⟩ := box_cells eb
          clear c0 c1 c2 f0 f1 f2 eb
          have EG := hide (P9.out.ends eg)
          clear eg
          generalize ((w10.setCell ⟨w.heap.size, 0, none⟩ (.int .u64 0)).setCell ⟨w.heap.size, 1, none⟩ (.int .u64 0)).setCell ⟨w.heap.size, 2, none⟩ (.slice none 0 0) = w11 at *
          refine bodyPost_ret (v := .tuple #[.agg #[.int .u64 0, .int .u64 0, .slice none 0 0], .int .i64 0, .int .i64 81]) ?_ rfl ?_
          · rw [results_cell_tmp2 rfl]; go_simp
          rw [A2.out]
          exact ⟨_, rfl, World.ownsRow_nil _ _ _ _, EG.out⟩
end Go.Proofs.YtofdijaipjkfbaaGreatDoor.Fm
/- The contracts of the document's own reader. -/
namespace Go.Proofs.YtofdijaipjkfbaaGreatDoor.Fm
open Go.RowKit
attribute [local go_sem ↓] Go.wp_at_zero Go.wp_at_succ

/-- append(s, x...) as one step of a region that draws its order. -/
theorem step_append_at {w : World} {ops : Array Oper} {o : Oper} {a : Act} {K : Act → World → Prop} {Q : Exit → Act → World → Prop} {E : Prop} (hgd : o.guard = none) (s x : Operand)
    (ho : o.op = .call { callee := .builtin .append, args := #[s, x], argTypes := #[39, 39] }) (base : Nat) (v : Value) (n : Nat) (xs : List Value) (hs : a.eval s = v) (hown : w.ownsRow base 5 1 v n xs)
    (ao : Option Addr) (m c : Nat) (ys : List Int) (hx : a.eval x = .slice ao m c) (hm : ys.length = m) (hat : At w ao ys) (hnil : ao = none → m = 0 ∧ c = 0)
    (hbytes : n + m ≤ 140737488355328) (hbase : base ≤ w.heap.size)
    (h : ∀ v' w', w'.ownsRow base 5 1 v' (n + m) (xs ++ ys.map (Value.int .u8)) → w.grownBy w' v.ownBlock → K (a.put o.dst v') w') :
    if Region.wanted o (yielded ops a.tmps) = true then Oper.wp Tryz.prog o a w K Q else E := by
  have hw : Region.wanted o (yielded ops a.tmps) = true := by simp [Region.wanted, hgd]
  rw [if_pos hw]
  obtain ⟨i0, hi, hz0, hz1, hz2⟩ := info_parts Tryz.info5
  cases ao with
  | none =>
    obtain ⟨rfl, rfl⟩ := hnil rfl
    have hrun := run_append_owned_none (P := Tryz.prog) (w := w) base 39 o.type 5 i0 1 Tryz.underlying39 hi v n xs hown
    unfold Oper.wp
    simp [execOp, ho, resolve, invoke, builtin, hs, hx, hrun, Result.andThen]
    have : ys = [] := List.eq_nil_of_length_eq_zero hm
    subst this
    exact h v w (by simpa using hown) (grown_refl w _)
  | some ad =>
    refine wp_append_own _ s x 39 ho base 5 i0 (.int .u8 0) 1 1 Tryz.underlying39 hi hz0 hz1 hz2 rfl (by decide) v n xs hs hown ad m c (ys.map (Value.int .u8)) hx (by simp [hm]) ?_ ?_ (by unfold maxLen; omega) (by omega) hbase (fun v' w' h1 h2 _ => h v' w' h1 h2)
    · intro j u hu
      rw [List.getElem?_map] at hu
      cases hj : ys[j]? with
      | none => simp [hj] at hu
      | some y =>
        simp [hj] at hu
        obtain ⟨a', ha', hc'⟩ := hat j y hj
        cases ha'
        rw [← hu]; exact hc'
    · intro u hu; rw [List.mem_map] at hu; obtain ⟨y, _, rfl⟩ := hu; rfl

theorem slice_lh (ao : Option Addr) (len cap l h : Nat) (h1 : l ≤ h) (h2 : h ≤ cap) (w : World) : (Instr.slice 39 (.slice ao len cap) (some (.int .i64 (l : Int))) (some (.int .i64 (h : Int))) none).run Tryz.prog w = .ok (.slice (cutA ao l cap) (h - l) (cap - l)) w := by
  simp [Instr.slice, run_underlying Tryz.underlying39, Instr.sliceBounds, Instr.sliceBound, asIntOf, h1, h2, cutA]

/-- The cells of the document's reader; what it still has. -/
def drow (bo : Option Addr) (n cap at_ : Nat) (e : Int) : List Value := [.slice bo n cap, .int .i64 (at_ : Int), .int .i64 e]
def restF (b : List Int) (at_ : Nat) (e : Int) : List Int := if e = 0 then b.drop at_ else []

set_option maxHeartbeats 1000000 in
theorem value_any (ao : Option Addr) (n cap : Nat) (xs : List Int) (w : World) (hn : xs.length = n) (hat : At w ao xs) (hB : Byt xs) (h8 : n ≤ 8) :
    Calls Tryz.prog 202 #[.slice ao n cap] w fun e w' => e = .returned (.int .u64 (leV xs)) ∧ w' = w := by
  have HA := hide (And.intro hn hat)
  clear hn hat
  go_enter Tryz.func202, Tryz.ntmps202
  go_wp2
  go_loopg [3, 4] n (fun k v i wr => k ≤ n ∧ i = .int .i64 ((k : Int) - 1) ∧ v = .int .u64 (leV (xs.drop k)) ∧ wr = w)
  case atStart => exact ⟨Nat.le_refl _, by simp, by rw [List.drop_eq_nil_of_le (by have := HA.out.1; omega)]; rfl, rfl⟩
  case round =>
    obtain ⟨hkn, rfl, rfl, rfl⟩ := hrel
    cases gk with
    | succ i =>
      obtain ⟨hn, hat⟩ := HA.out
      have hi : i < xs.length := by omega
      obtain ⟨a, rfl, hc⟩ := hat i xs[i] (by simp [hi])
      have hd : xs.drop i = xs[i] :: xs.drop (i + 1) := List.drop_eq_getElem_cons hi
      have hb := leV_bound (xs.drop (i + 1)) (hB.drop _)
      have hy := hB xs[i] (by simp)
      have hbl : leV (xs.drop (i + 1)) < 72057594037927936 := by
        refine Int.lt_of_lt_of_le hb.2 ?_
        rw [List.length_drop]
        have h4 : (2 : Nat) ^ (8 * (xs.length - (i + 1))) ≤ 2 ^ 56 := Nat.pow_le_pow_right (by omega) (by omega)
        have h5 : ((2 ^ (8 * (xs.length - (i + 1))) : Nat) : Int) ≤ ((2 ^ 56 : Nat) : Int) := Int.ofNat_le.2 h4
        simpa using h5
      have hb0 := hb.1
      have HD : Hid (leV (xs.drop i) = xs[i] + 256 * leV (xs.drop (i + 1))) := by show _ = _; rw [hd, leV]
      clear hb hd hn hat
      generalize leV (xs.drop (i + 1)) = V at *
      generalize xs[i] = X at *
      have hslot : ((i + 1 : Nat) : Int) - 1 = (i : Int) := by omega
      rw [hslot]
      have hge : (0 : Int) ≤ (i : Int) := by omega
      have hlt : (i : Int) < (n : Int) := by omega
      go_wp2
      go_roundg i
      case measure => omega
      case rel =>
        refine ⟨by omega, rfl, ?_, rfl⟩
        rw [HD.out]
        congr 1
        omega
    | zero =>
      go_wp2
      go_ret
      rw [List.drop_zero]
      exact ⟨rfl, rfl⟩

/-- What the document's reader comes to. -/
theorem restF_take (b : List Int) (at_ : Nat) (e n : Int) (h : at_ ≤ b.length) : ∃ at' e', at' ≤ b.length ∧ takeF (restF b at_ e) e n = ((takeF (restF b at_ e) e n).1, restF b at' e', e') ∧
    ((e ≠ 0 ∧ at' = at_ ∧ e' = e) ∨ (e = 0 ∧ n < 0 ∧ at' = at_ ∧ e' = 2) ∨ (e = 0 ∧ 0 ≤ n ∧ (b.length : Int) - (at_ : Int) < n ∧ at' = at_ ∧ e' = 4) ∨ (e = 0 ∧ 0 ≤ n ∧ n ≤ (b.length : Int) - (at_ : Int) ∧ at' = at_ + n.toNat ∧ e' = 0)) := by
  by_cases he : e = 0
  · subst he
    by_cases hn : n < 0
    · exact ⟨at_, 2, h, by simp [takeF, restF, hn], Or.inr (Or.inl ⟨rfl, hn, rfl, rfl⟩)⟩
    · by_cases hl : (b.length : Int) - (at_ : Int) < n
      · have h2 : ((b.length - at_ : Nat) : Int) < n := by omega
        exact ⟨at_, 4, h, by simp [takeF, restF, hn, h2], Or.inr (Or.inr (Or.inl ⟨rfl, by omega, hl, rfl, rfl⟩))⟩
      · have h2 : ¬ ((b.length - at_ : Nat) : Int) < n := by omega
        refine ⟨at_ + n.toNat, 0, by omega, ?_, Or.inr (Or.inr (Or.inr ⟨rfl, by omega, by omega, rfl, rfl⟩))⟩
        simp [takeF, restF, hn, h2]
  · exact ⟨at_, e, h, by simp [takeF, restF, he], Or.inl ⟨he, rfl, rfl⟩⟩

end Go.Proofs.YtofdijaipjkfbaaGreatDoor.Fm
/- The contract of the document's own Number; appends that tell where the row lies; a Writer's copy. -/
namespace Go.Proofs.YtofdijaipjkfbaaGreatDoor.Fm
open Go.RowKit

/-- append(s, x...), s the call's own, x bytes that lie somewhere (or nil); where the row lies then. -/
theorem wpList_append_lie {w : World} {ops : Array Oper} {rest : List Oper} {o : Oper} {a : Act} {Q : Exit → Act → World → Prop} (hgd : o.guard = none) (s x : Operand)
    (ho : o.op = .call { callee := .builtin .append, args := #[s, x], argTypes := #[39, 39] }) (base : Nat) (v : Value) (n : Nat) (xs : List Value) (hs : a.eval s = v) (hown : w.ownsRow base 5 1 v n xs)
    (ao : Option Addr) (m c : Nat) (ys : List Int) (hx : a.eval x = .slice ao m c) (hm : ys.length = m) (hat : At w ao ys) (hnil : ao = none → m = 0 ∧ c = 0)
    (hbytes : n + m ≤ 140737488355328) (hbase : base ≤ w.heap.size)
    (h : ∀ v' w', w'.ownsRow base 5 1 v' (n + m) (xs ++ ys.map (Value.int .u8)) → w.grownBy w' v.ownBlock → (v'.ownBlock = v.ownBlock ∨ v'.ownBlock = some w.heap.size) → wpList Tryz.prog ops Q rest (a.put o.dst v') w') : wpList Tryz.prog ops Q (o :: rest) a w := by
  obtain ⟨i0, hi, hz0, hz1, hz2⟩ := info_parts Tryz.info5
  cases ao with
  | none =>
    obtain ⟨rfl, rfl⟩ := hnil rfl
    refine wpList_append_own_none hgd s x 39 ho base 5 i0 1 Tryz.underlying39 hi v n xs hs hown hx (h v w ?_ (grown_refl w _) (Or.inl rfl))
    have : ys = [] := List.eq_nil_of_length_eq_zero hm
    subst this
    simpa using hown
  | some ad =>
    refine wpList_append_own_at _ hgd s x 39 ho base 5 i0 (.int .u8 0) 1 1 Tryz.underlying39 hi hz0 hz1 hz2 rfl (by decide) v n xs hs hown ad m c (ys.map (Value.int .u8)) hx (by simp [hm]) ?_ ?_ (by unfold maxLen; omega) (by omega) hbase (fun v' w' h1 h2 _ h4 => h v' w' h1 h2 h4)
    · intro j u hu
      rw [List.getElem?_map] at hu
      cases hj : ys[j]? with
      | none => simp [hj] at hu
      | some y =>
        simp [hj] at hu
        obtain ⟨a', ha', hc'⟩ := hat j y hj
        cases ha'
        rw [← hu]; exact hc'
    · intro u hu; rw [List.mem_map] at hu; obtain ⟨y, _, rfl⟩ := hu; rfl

theorem div_pow (N : Int) (j : Nat) : N / 2 ^ (8 * j) / 256 = N / 2 ^ (8 * (j + 1)) := by
  rw [pow_succ8, Int.mul_comm, Int.ediv_ediv_of_nonneg (Int.le_of_lt (Int.pow_pos (by omega)))]

set_option maxHeartbeats 1000000 in
theorem refnum_any (N S : Int) (size : Nat) (w : World) (hS : S = (size : Int)) (hs : size ≤ 8) (h0 : 0 ≤ N) (h1 : N < 18446744073709551616) :
    Calls Tryz.prog 183 #[.int .u64 N, .int .i64 S] w fun e w' => ∃ v, e = .returned v ∧ w'.ownsRow w.heap.size 5 1 v size ((leB N size).map (Value.int .u8)) ∧ w.grownBy w' none := by
  subst hS
  go_enter Tryz.func183, Tryz.ntmps183
  go_wp2
  go_loopg [0, 5, 6] size (fun k n v i wr => ∃ j : Nat, k + j = size ∧ n = .int .u64 (N / 2 ^ (8 * j)) ∧ i = .int .i64 j ∧ wr.ownsRow w.heap.size 5 1 v j ((leB N j).map (Value.int .u8)) ∧ w.grownBy wr none)
  case atStart => exact ⟨0, by omega, by simp, rfl, by simpa [leB] using World.ownsRow_nil w w.heap.size 5 1, grown_refl _ _⟩
  case round =>
    obtain ⟨j, hkj, rfl, rfl, hown, hg⟩ := hrel
    have HO := hide (And.intro hown hg)
    have hm0 : 0 ≤ N / 2 ^ (8 * j) := Int.ediv_nonneg h0 (Int.le_of_lt (Int.pow_pos (by omega)))
    have hm1 : N / 2 ^ (8 * j) < 18446744073709551616 := by
      have : N / 2 ^ (8 * j) ≤ N := Int.ediv_le_self _ h0
      omega
    have HD := hide (And.intro (leB_succ N j) (div_pow N j))
    by_cases hk : 0 < gk
    · clear hown hg
      generalize N / 2 ^ (8 * j) = M at *
      go_wp2_with (at_builtin; refine wpList_append_at rfl (.tmp 12) (.tmp 16) rfl w.heap.size _ j ((leB N j).map (Value.int .u8)) rfl (HO.out.1.alloc _) (some ⟨_, 0, none⟩) 1 1 [M % 256] rfl rfl ?_ (fun e => by cases e) (by omega) ?_ ?_)
      · exact at_new _ [M % 256] _ rfl
      · have := HO.out.2.size; simp; omega
      · intro v' w' hown' hg'
        go_wp2
        go_roundg (gk - 1)
        case measure => omega
        case rel =>
          refine ⟨j + 1, by omega, by rw [← HD.out.2], by go_num, ?_, grown_then (grown_trans HO.out.2 (World.grownBy_alloc _ _ none)) hg' (fun k e => Or.inl (HO.out.1.lt k e).1)⟩
          rw [HD.out.1]; simpa using hown'
    · have hj : j = size := by omega
      subst hj
      obtain ⟨ao', cap', rfl, hr⟩ := own_at hown
      clear hown hg hr
      go_wp2
      go_ret
      exact ⟨_, rfl, HO.out.1, HO.out.2⟩

/-- The cells behind a store of a whole block. -/
theorem setCells_all : ∀ (vs l : List Value) (w : World) (g o : Nat) (t : TypeId) (pre : List Value), w.heap[g]? = some (.cells (pre ++ l).toArray t (0, 0)) → pre.length = o → l.length = vs.length → (w.setCells g o vs).heap[g]? = some (.cells (pre ++ vs).toArray t (0, 0))
  | [], l, w, g, o, t, pre, h, _, hl => by
    have : l = [] := List.eq_nil_of_length_eq_zero (by simpa using hl)
    subst this
    exact h
  | v :: vs, l, w, g, o, t, pre, h, hp, hl => by
    cases l with
    | nil => simp at hl
    | cons x l =>
      have h1 := row_setCell h o v
      rw [List.set_append_right _ _ (by omega), hp, Nat.sub_self, List.set_cons_zero] at h1
      have h2 : (w.setCell ⟨g, o, none⟩ v).heap[g]? = some (.cells ((pre ++ [v]) ++ l).toArray t (0, 0)) := by rw [h1]; simp
      have h3 := setCells_all vs l (w.setCell ⟨g, o, none⟩ v) g (o + 1) t (pre ++ [v]) h2 (by simp [hp]) (by simpa using hl)
      simp only [World.setCells]
      rw [h3]; simp
theorem grown_setCells : ∀ (vs : List Value) (w : World) (g o : Nat), w.grownBy (w.setCells g o vs) (some g)
  | [], w, _, _ => grown_refl w _
  | v :: vs, w, g, o => grown_trans (grown_setCell w g o v) (grown_setCells vs _ g (o + 1))
/-- A Writer's copy, in a block of its own. -/
theorem twin_wr {w : World} {g : Nat} {D : List Int} {row : List Value} {C : Array Value} (h : WrAt w g D) (hrow : w.heap[g]? = some (.cells row.toArray 161 (0, 0))) (hC : C.size = row.length) :
    WrAt ((w.alloc (.cells C 161)).setCells w.heap.size 0 row) w.heap.size D ∧ WrAt ((w.alloc (.cells C 161)).setCells w.heap.size 0 row) g D ∧ w.grownBy ((w.alloc (.cells C 161)).setCells w.heap.size 0 row) none := by
  have hg : w.grownBy ((w.alloc (.cells C 161)).setCells w.heap.size 0 row) none := grown_then (World.grownBy_alloc w _ none) (grown_setCells row _ _ 0) (fun k e => by cases e; exact Or.inl (Nat.le_refl _))
  refine ⟨?_, h.kept hg (by simp) (NoBlock.none _), hg⟩
  obtain ⟨v, cs, op, hb, hl, hc, he⟩ := h
  have hr : row = wrow v op D.length := by
    rw [hrow] at hb
    simp only [Option.some.injEq, Obj.cells.injEq, and_true] at hb
    exact congrArg Array.toList hb
  have h1 : (w.alloc (.cells C 161)).heap[w.heap.size]? = some (.cells ([] ++ C.toList).toArray 161 (0, 0)) := by simpa using heap_alloc_new w (.cells C 161)
  have h2 := setCells_all row C.toList _ w.heap.size 0 161 [] h1 rfl (by simp [hC])
  refine ⟨v, cs, op, ?_, hl, Chain.kept hg (NoBlock.none _) cs v hc, he⟩
  rw [← hr]; simpa using h2
end Go.Proofs.YtofdijaipjkfbaaGreatDoor.Fm
/- The contracts of the document's step, Byte, More, Sum, back. -/
namespace Go.Proofs.YtofdijaipjkfbaaGreatDoor.Fm.Cr
open Go.RowKit
attribute [local go_sem ↓] Go.wp_at_zero Go.wp_at_succ

set_option maxHeartbeats 400000 in
theorem rstep_any (r : Nat) (hr : r < 4294967296) (w : World) : Calls Tryz.prog 212 #[.int .u32 (r : Int)] w fun e w' => e = .returned (.int .u32 ((Poly.step r : Nat) : Int)) ∧ w' = w := by
  have hxor : bits .xor .u32 ((r : Int) / 2) 3988292384 = ((r / 2 ^^^ 3988292384 : Nat) : Int) := bits_xor_u32 (r / 2) 3988292384 (by omega) (by decide)
  by_cases h : r % 2 = 1
  · rw [show Poly.step r = r / 2 ^^^ 3988292384 by simp [Poly.step, h]]
    generalize r / 2 ^^^ 3988292384 = y at *
    have hm : (r : Int) % 2 = 1 := by omega
    clear h
    go_enter Tryz.func212, Tryz.ntmps212
    go_wp2
    go_ret
    exact ⟨rfl, rfl⟩
  · rw [show Poly.step r = r / 2 by simp [Poly.step, h]]
    have hm : (r : Int) % 2 = 0 := by omega
    clear h hxor
    go_enter Tryz.func212, Tryz.ntmps212
    go_wp2
    go_ret
    exact ⟨rfl, rfl⟩

set_option maxHeartbeats 1000000 in
theorem rbyte_any (r b : Nat) (hr : r < 4294967296) (hb : b < 256) (w : World) : Calls Tryz.prog 210 #[.int .u32 (r : Int), .int .u8 (b : Int)] w fun e w' => e = .returned (.int .u32 ((Poly.byteStep r b : Nat) : Int)) ∧ w' = w := by
  have hxor := bits_xor_u32 r b hr (by omega)
  have hl := Poly.xor_lt32 hr (show b < 4294967296 by omega)
  obtain ⟨M, hM⟩ : ∃ M, M = Poly.byteStep r b := ⟨_, rfl⟩
  rw [← hM]
  have HM : Hid (M = Poly.steps 8 (r ^^^ b)) := hM
  generalize r ^^^ b = x at *
  clear hM
  go_enter Tryz.func210, Tryz.ntmps210
  go_wp2
  go_loopg [0, 5] 8 (fun k y i wr => ∃ y' j : Nat, k + j = 8 ∧ i = .int .i64 j ∧ y = .int .u32 (y' : Int) ∧ y' < 4294967296 ∧ Hid (Poly.steps k y' = M) ∧ wr = w)
  case atStart => exact ⟨x, 0, rfl, rfl, rfl, hl, HM.out.symm, rfl⟩
  case round =>
    obtain ⟨y, j, hkj, rfl, rfl, hy, HI, rfl⟩ := hrel
    by_cases hk : 0 < gk
    · obtain ⟨k, rfl⟩ : ∃ k, gk = k + 1 := ⟨gk - 1, by omega⟩
      have hl2 := Poly.step_lt hy
      have HS := hide (fun w => rstep_any y hy w)
      have HI2 : Hid (Poly.steps k (Poly.step y) = M) := HI.out
      generalize Poly.step y = y2 at *
      have hj : (j : Int) < 8 := by omega
      clear HM HI
      go_wp2_with fail
      refine (HS.out _).mono ?_
      rintro e w' ⟨rfl, rfl⟩
      go_wp2
      go_roundg k
      case measure => omega
      case rel => exact ⟨y2, j + 1, by omega, by go_num, rfl, hl2, HI2, rfl⟩
    · have hj : j = 8 := by omega
      have h0 : gk = 0 := by omega
      subst hj h0
      have h1 : y = M := HI.out
      subst h1
      clear HM HI
      go_wp2
      go_ret
      exact ⟨rfl, rfl⟩

set_option maxHeartbeats 1000000 in
theorem rmore_any (s : Nat) (ao : Option Addr) (n c : Nat) (xs : List Nat) (w : World) (hs : s < 4294967296) (hn : xs.length = n) (hx : Bytes xs) (hat : At w ao xs) (hm : n ≤ 4611686018427387904) :
    Calls Tryz.prog 201 #[.int .u32 (s : Int), .slice ao n c] w fun e w' => e = .returned (.int .u32 ((Poly.more s xs : Nat) : Int)) ∧ w' = w := by
  have hinv : bits .xor .u32 (s : Int) 4294967295 = ((4294967295 ^^^ s : Nat) : Int) := by rw [Nat.xor_comm]; exact bits_xor_u32 s 4294967295 hs (by decide)
  have hrl : 4294967295 ^^^ s < 4294967296 := Poly.xor_lt32 (by decide) hs
  have hM : Poly.more s xs = Poly.run (4294967295 ^^^ s) xs ^^^ 4294967295 := rfl
  obtain ⟨M, hM2⟩ : ∃ M, M = Poly.more s xs := ⟨_, rfl⟩
  rw [← hM2]
  rw [← hM2] at hM
  generalize 4294967295 ^^^ s = r0 at *
  have HM := hide hM
  clear hM hM2
  have HA := hide (And.intro hn (And.intro hx hat))
  clear hn hx hat
  go_enter Tryz.func201, Tryz.ntmps201
  go_wp2
  go_loopg [5, 6] n (fun k r i wr => ∃ j : Nat, k + j = n ∧ i = .int .i64 j ∧ r = .int .u32 ((Poly.run r0 (xs.take j) : Nat) : Int) ∧ wr = w)
  case atStart => exact ⟨0, by omega, rfl, rfl, rfl⟩
  case round =>
    obtain ⟨j, hkj, rfl, rfl, rfl⟩ := hrel
    obtain ⟨hn, hx, hat⟩ := HA.out
    have hR := Poly.run_lt (xs.take j) hrl (hx.take j)
    by_cases hk : 0 < gk
    · have hj : j < xs.length := by omega
      obtain ⟨a, rfl, hca⟩ := hat j xs[j] (by simp [hj])
      have hb := hx xs[j] (List.getElem_mem hj)
      have HR := hide (run_take hj r0)
      generalize xs[j] = x at *
      generalize Poly.run r0 (xs.take j) = R at *
      have HB := hide (fun w => rbyte_any R x hR hb w)
      generalize Poly.byteStep R x = R1 at *
      have hj1 : (j : Int) < (n : Int) := by omega
      clear hn hx hat HA hj HM
      go_wp2_with fail
      refine (HB.out _).mono ?_
      rintro e w' ⟨rfl, rfl⟩
      go_wp2
      go_roundg (gk - 1)
      case measure => omega
      case rel => exact ⟨j + 1, by omega, by go_num, by rw [HR.out], rfl⟩
    · have hj : j = n := by omega
      subst hj
      rw [List.take_of_length_le (by omega)] at hR ⊢
      have h1 : bits .xor .u32 ((Poly.run r0 xs : Nat) : Int) 4294967295 = (M : Int) := by rw [HM.out]; exact bits_xor_u32 _ 4294967295 hR (by decide)
      clear HM
      generalize Poly.run r0 xs = z at *
      clear hn hx hat HA
      go_wp2
      go_ret
      exact ⟨rfl, rfl⟩

set_option maxHeartbeats 400000 in
theorem rsum_any (ao : Option Addr) (n c : Nat) (xs : List Nat) (w : World) (hn : xs.length = n) (hx : Bytes xs) (hat : At w ao xs) (hm : n ≤ 4611686018427387904) :
    Calls Tryz.prog 184 #[.slice ao n c] w fun e w' => e = .returned (.int .u32 ((Poly.more 0 xs : Nat) : Int)) ∧ w' = w := by
  have HM := hide (rmore_any 0 ao n c xs w (by decide) hn hx hat hm)
  generalize Poly.more 0 xs = M at *
  clear hn hx hat hm
  go_enter Tryz.func184, Tryz.ntmps184
  go_wp2_with fail
  refine HM.out.mono ?_
  rintro e w' ⟨rfl, rfl⟩
  go_wp2
  go_ret
  exact ⟨rfl, rfl⟩
end Go.Proofs.YtofdijaipjkfbaaGreatDoor.Fm.Cr
