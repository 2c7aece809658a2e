/- Texts joined: FFg, FRv. -/
import Derived.Test.YtofdijaipjkfbaaDoorJeAe
import Derived.Laws.ResultCell
import Derived.RangeFuncNested
import Derived.RangeFuncBound
import Derived.RangeFuncCalls
import Derived.RangeFuncLeaves
import Derived.RangeFuncBox
/- The contract of frame's Get. -/
namespace Go.Proofs.YtofdijaipjkfbaaDoor.Fm
open Go.RowKit
attribute [local go_sem ↓] Go.wp_at_zero Go.wp_at_succ

theorem results_cell_tmp2 {fn : Func} {p u x : Tmp} {ty : TypeId} (h : fn.results = #[.cell p ty, .tmp u, .tmp x]) (tmps : Array Value) (P : Program) (w : World) :
    (results fn tmps).run P w =
      ((asAddr (tmps.getD p undef)).run P w).andThen fun a w₁ => ((loadVar ty a).run P w₁).andThen fun v w₂ => .ok (.tuple #[v, tmps.getD u undef, tmps.getD x undef]) w₂ := by
  simp only [results, h]
  simp [Sem.run_bind, Result.andThen]

/-- Inside Get: the answer's box B, the reader A behind it, what it still has. -/
structure GetS (w wr : World) (A : Nat) (R : List Int) (e : Int) : Prop where
  box : wr.heap[w.heap.size]? = some (.cells [Value.int .u64 0, .int .u64 0, .slice none 0 0].toArray 67 (0, 0))
  rd : RdAt wr A R e
  lo : w.heap.size < A
  gr : w.grownBy wr none
theorem GetS.next {w wr wr' : World} {A : Nat} {R R' : List Int} {e e' : Int} (h : GetS w wr A R e) (hW : RdAt wr' A R' e') (hg : wr.grownBy wr' (some A)) : GetS w wr' A R' e' :=
  ⟨(hg.block _ (row_lt h.box) (by have := h.lo; simp; omega)).trans h.box, hW, h.lo, grown_then h.gr hg (fun j e => by cases e; exact Or.inl (Nat.le_of_lt h.lo))⟩

/-- Three cells stored into a box. -/
theorem set3 {w : World} {g : Nat} {x y z : Value} (h : w.heap[g]? = some (.cells [x, y, z].toArray 67 (0, 0))) (a b c : Value) :
    (((w.setCell ⟨g, 0, none⟩ a).setCell ⟨g, 1, none⟩ b).setCell ⟨g, 2, none⟩ c).heap[g]? = some (.cells [a, b, c].toArray 67 (0, 0)) ∧ w.grownBy (((w.setCell ⟨g, 0, none⟩ a).setCell ⟨g, 1, none⟩ b).setCell ⟨g, 2, none⟩ c) (some g) :=
  ⟨row_setCell (row_setCell (row_setCell h 0 a) 1 b) 2 c, grown_trans (grown_trans (grown_setCell w g 0 a) (grown_setCell _ g 1 b)) (grown_setCell _ g 2 c)⟩
theorem box_cells {w : World} {g : Nat} {x y z : Value} (h : w.heap[g]? = some (.cells [x, y, z].toArray 67 (0, 0))) : w.cell? ⟨g, 0, none⟩ = some x ∧ w.cell? ⟨g, 1, none⟩ = some y ∧ w.cell? ⟨g, 2, none⟩ = some z :=
  ⟨cell_row h 0, cell_row h 1, cell_row h 2⟩
/-- A row of its own stays, where what is written is a block of another kind. -/
theorem own_kept {w w' : World} {base n size : Nat} {e t : TypeId} {v : Value} {xs : List Value} {k : Nat} {c : Array Value} {fr : Nat × Nat} (h : w.ownsRow base e size v n xs) (hg : w.grownBy w' (some k)) (hk : w.heap[k]? = some (.cells c t fr)) (hne : t ≠ e) : w'.ownsRow base e size v n xs := by
  refine h.kept hg ?_
  rcases h.2 with ⟨rfl, _⟩ | ⟨g, cap, cur, rfl, _, hgg, _⟩
  · exact Or.inl rfl
  · refine Or.inr (fun e' => ?_)
    simp [Value.ownBlock] at e'
    subst e'
    rw [hk] at hgg
    simp at hgg
    exact hne hgg.2.1
theorem own_grown {w w' : World} {base n size : Nat} {e : TypeId} {v : Value} {xs : List Value} (h : w.ownsRow base e size v n xs) (hg : w.grownBy w' none) : w'.ownsRow base e size v n xs :=
  h.kept hg (by cases v.ownBlock <;> simp)
theorem GetS.ends {w wr wr' : World} {A : Nat} {R : List Int} {e : Int} (h : GetS w wr A R e) (hg : wr.grownBy wr' (some w.heap.size)) : w.grownBy wr' none :=
  grown_then h.gr hg (fun j e => by cases e; exact Or.inl (Nat.le_refl _))

set_option maxHeartbeats 4000000 in
theorem fget_any (xs : List Int) (hB : Byt xs) (ao : Option Addr) (n cap : Nat) (w : World) (hn : xs.length = n) (hat : At w ao xs) (hnil : ao = none → n = 0 ∧ cap = 0) (hc : n ≤ cap) (hm : n ≤ 140737488355328) (hT : Tab w) :
    Calls Tryd.prog 75 #[.slice ao n cap] w fun r w' => ∃ v, r = .returned (.tuple #[frV (getF xs).f.e (getF xs).f.s v, .int .i64 ((getF xs).n : Int), .int .i64 (getF xs).c]) ∧
      w'.ownsRow w.heap.size 5 1 v (getF xs).f.b.length ((getF xs).f.b.map (Value.int .u8)) ∧ w.grownBy w' none := by
  unfold frV
  have HF := hide (And.intro hB (And.intro hn (And.intro hat (And.intro hnil (And.intro hc hT)))))
  have HC := hide (rd_cases hB)
  have HL : Hid ((xs.take 54).length = min n 54) := by show _ = _; simp [hn]; omega
  clear hB hat hnil hT
  have hst54 := slice_to ao n cap 54
  have hstn := slice_to ao n cap n hc
  have hB0 : ∀ w1 : World, (w.alloc (.cells #[.int .u64 0, .int .u64 0, .slice none 0 0] 67)).grownBy w1 none → w1.heap[w.heap.size]? = some (.cells [Value.int .u64 0, .int .u64 0, .slice none 0 0].toArray 67 (0, 0)) ∧ w.grownBy w1 none := fun w1 hg =>
    ⟨(hg.block _ (by simp) (by simp)).trans (heap_alloc_new w _), grown_trans (World.grownBy_alloc w _ none) hg⟩
  have HB0 := hide hB0
  clear hB0
  rcases Nat.lt_or_ge 54 n with h54 | h54
  case' inl =>
    have hst := hst54 (by omega)
    have HO := hide (of_any ao 54 cap (xs.take 54) (w.alloc (.cells #[.int .u64 0, .int .u64 0, .slice none 0 0] 67)) (by rw [HL.out]; omega) ((HF.out.2.2.1.kept (World.grownBy_alloc w _ none) (fun _ _ e => by cases e)).take 54) (fun e => by have := (HF.out.2.2.2.1 e).1; omega) (by omega))
    go_enter Tryd.func75, Tryd.ntmps75
    clear hn hst54 hstn
    go_wp2_with fail
  case' inr =>
    have HO := hide (of_any ao n cap (xs.take 54) (w.alloc (.cells #[.int .u64 0, .int .u64 0, .slice none 0 0] 67)) (by rw [HL.out]; omega) ((HF.out.2.2.1.kept (World.grownBy_alloc w _ none) (fun _ _ e => by cases e)).take 54) HF.out.2.2.2.1 (by omega))
    go_enter Tryd.func75, Tryd.ntmps75
    clear hn hst54
    go_wp2_with fail
  all_goals
    refine HO.out.mono ?_
    rintro e w1 ⟨A, rfl, hA, hR, hg⟩
    have P1 : Hid (GetS w w1 A (xs.take 54) 0) := ⟨(HB0.out w1 hg).1, hR, by simp at hA; omega, (HB0.out w1 hg).2⟩
    clear HO hR hg HB0 hA
    have HY := hide ((HF.out.1.take 54 : Byt (xs.take 54)))
    have HYb := hide (rd_byt HY.out)
    have HYl : Hid ((rd3 (xs.take 54)).2.1.length ≤ 140737488355328) := Nat.le_trans (rd_len _) (by rw [HL.out]; omega)
    have V1 := takeF_value HY.out 0 2
    go_wp2_with fail
    refine (rtwo_any A (xs.take 54) 0 w1 P1.out.rd HY.out).mono ?_
    rw [show takeF (xs.take 54) 0 2 = rd1 (xs.take 54) from rfl]
    rw [show takeF (xs.take 54) 0 ((2 : Nat) : Int) = rd1 (xs.take 54) from rfl] at V1
    rintro e w2 ⟨rfl, hR, hg⟩
    have P2 := hide (P1.out.next hR hg)
    clear hR hg P1
    obtain ⟨L, hL⟩ : ∃ L, L = leV (rd1 (xs.take 54)).1 := ⟨_, rfl⟩
    rw [← hL] at V1 ⊢
    obtain ⟨v0, v1⟩ := V1
    have v2 : L < 65536 := v1
    clear v1
    have hsp : (32 < L ∧ getF xs = ⟨noFr, 0, 80⟩) ∨ L ≤ 32 := by
      rcases HC.out with ⟨a1, a2⟩ | ⟨a1, _⟩ | ⟨K, a1, a2, _⟩
      · exact Or.inl ⟨by rw [hL]; exact a1, a2⟩
      · exact Or.inr (by rw [hL]; exact a1)
      · exact Or.inr (by rw [hL, a1]; omega)
    have HL2 := hide hL
    clear hL
    rcases hsp with ⟨a1, a2⟩ | a1
    · obtain ⟨c0, c1, c2⟩ := box_cells P2.out.box
      have f0 := free_row P2.out.box 0
      have f1 := free_row P2.out.box 1
      have f2 := free_row P2.out.box 2
      have A2 := hide a2
      clear a2
      go_wp2
      obtain ⟨eb, eg⟩ := set3 P2.out.box (.int .u64 0) (.int .u64 0) (.slice none 0 0)
      obtain ⟨e0, e1, e2⟩ := box_cells eb
      clear c0 c1 c2 f0 f1 f2 eb
      have EG := hide (P2.out.ends eg)
      clear eg
      generalize ((w2.setCell ⟨w.heap.size, 0, none⟩ (.int .u64 0)).setCell ⟨w.heap.size, 1, none⟩ (.int .u64 0)).setCell ⟨w.heap.size, 2, none⟩ (.slice none 0 0) = w3 at *
      refine bodyPost_ret (v := .tuple #[.agg #[.int .u64 0, .int .u64 0, .slice none 0 0], .int .i64 0, .int .i64 80]) ?_ rfl ?_
      · rw [results_cell_tmp2 rfl]; go_simp
      rw [A2.out]
      exact ⟨_, rfl, World.ownsRow_nil _ _ _ _, EG.out⟩
    · go_wp2_with fail
      refine (reight_any A _ _ w2 P2.out.rd HYb.out.1).mono ?_
      rw [show takeF (rd1 (xs.take 54)).2.1 (rd1 (xs.take 54)).2.2 8 = rd2 (xs.take 54) from rfl]
      rintro e w3 ⟨rfl, hR, hg⟩
      have P3 := hide (P2.out.next hR hg)
      clear hR hg P2
      go_wp2_with fail
      refine (reight_any A _ _ w3 P3.out.rd HYb.out.2.1).mono ?_
      rw [show takeF (rd2 (xs.take 54)).2.1 (rd2 (xs.take 54)).2.2 8 = rd3 (xs.take 54) from rfl]
      rintro e w4 ⟨rfl, hR, hg⟩
      have P4 := hide (P3.out.next hR hg)
      clear hR hg P3
      go_wp2_with fail
      refine (take_any A _ _ L w4 P4.out.rd (by omega) (by omega) HYl.out).mono ?_
      rw [show takeF (rd3 (xs.take 54)).2.1 (rd3 (xs.take 54)).2.2 L = rd4 (xs.take 54) from by rw [HL2.out]; rfl]
      rintro e w5 ⟨v, rfl, hv, hR, hg⟩
      have P5 := hide (P4.out.next hR hg)
      obtain ⟨vo, vc, rfl, _⟩ := own_at hv
      have HV := hide (own_base hv P4.out.gr.size)
      clear hR hg P4 hv
      go_wp2_with fail
      obtain ⟨F, hF⟩ : ∃ F, F = w5.heap.size := ⟨_, rfl⟩
      have hg6 := World.grownBy_alloc w5 (.cells #[.int .u64 (leV (rd2 (xs.take 54)).1), .int .u64 (leV (rd3 (xs.take 54)).1), .slice vo (rd4 (xs.take 54)).1.length vc] 67) none
      have hb6 := heap_alloc_new w5 (.cells [Value.int .u64 (leV (rd2 (xs.take 54)).1), .int .u64 (leV (rd3 (xs.take 54)).1), .slice vo (rd4 (xs.take 54)).1.length vc].toArray 67)
      have P6 : Hid (GetS w (w5.alloc (.cells #[.int .u64 (leV (rd2 (xs.take 54)).1), .int .u64 (leV (rd3 (xs.take 54)).1), .slice vo (rd4 (xs.take 54)).1.length vc] 67)) A (rd4 (xs.take 54)).2.1 (rd4 (xs.take 54)).2.2) :=
        ⟨(hg6.block _ (row_lt P5.out.box) (by simp)).trans P5.out.box, P5.out.rd.kept hg6 (by simp) (NoBytes.none _), P5.out.lo, grown_trans P5.out.gr hg6⟩
      have HV6 := hide (own_grown HV.out hg6)
      have hFA : F ≠ A := by have := P5.out.rd.lt; omega
      have hwF : w.heap.size < F := by have := row_lt P5.out.box; omega
      rw [← hF] at hb6 ⊢
      have HB6 := hide hb6
      clear P5 HV hF hg6 hb6
      simp only [List.toArray] at HB6
      generalize w5.alloc (.cells #[.int .u64 (leV (rd2 (xs.take 54)).1), .int .u64 (leV (rd3 (xs.take 54)).1), .slice vo (rd4 (xs.take 54)).1.length vc] 67) = w6 at *
      refine (rfour_any A _ _ w6 P6.out.rd HYb.out.2.2.2).mono ?_
      rw [show takeF (rd4 (xs.take 54)).2.1 (rd4 (xs.take 54)).2.2 4 = rd5 (xs.take 54) from rfl]
      rintro e w7 ⟨rfl, hR, hg⟩
      have P7 := hide (P6.out.next hR hg)
      obtain ⟨_, _, hrd, _⟩ := P6.out.rd
      have HV7 := hide (own_kept HV6.out hg hrd (by decide))
      have HB7 := hide ((hg.block F (row_lt HB6.out) (by simpa using hFA)).trans HB6.out)
      clear hR hg P6 hrd HV6 HB6
      go_wp2_with fail
      refine (err_any A _ _ w7 P7.out.rd).mono ?_
      rintro e w8 ⟨rfl, rfl⟩
      rcases HC.out with ⟨b1, b2⟩ | ⟨b1, b2, b3⟩ | ⟨K, b1, b2, b3, b4, b5, b6⟩
      · have := HL2.out; omega
      · rw [b2]
        obtain ⟨c0, c1, c2⟩ := box_cells P7.out.box
        have f0 := free_row P7.out.box 0
        have f1 := free_row P7.out.box 1
        have f2 := free_row P7.out.box 2
        have A2 := hide b3
        clear b1 b2 b3
        go_wp2
        obtain ⟨eb, eg⟩ := set3 P7.out.box (.int .u64 0) (.int .u64 0) (.slice none 0 0)
        obtain ⟨e0, e1, e2⟩ := box_cells eb
        clear c0 c1 c2 f0 f1 f2 eb
        have EG := hide (P7.out.ends eg)
        clear eg
        generalize ((w8.setCell ⟨w.heap.size, 0, none⟩ (.int .u64 0)).setCell ⟨w.heap.size, 1, none⟩ (.int .u64 0)).setCell ⟨w.heap.size, 2, none⟩ (.slice none 0 0) = w9 at *
        refine bodyPost_ret (v := .tuple #[.agg #[.int .u64 0, .int .u64 0, .slice none 0 0], .int .i64 0, .int .i64 4]) ?_ rfl ?_
        · rw [results_cell_tmp2 rfl]; go_simp
        rw [A2.out]
        exact ⟨_, rfl, World.ownsRow_nil _ _ _ _, EG.out⟩
      · rw [b4]
        have hLK : L = (K : Int) := by rw [HL2.out]; exact b1
        have HX := hide (And.intro b5 (And.intro b6 b3))
        clear b1 b4 b5 b6 b3 HL2
        subst hLK
        have hnK : 18 + K ≤ n := by have := HX.out.2.2; have := HF.out.2.1; omega
        clear a1 v0 v2
        have hsz : sizeF (K : Int) = ((22 + K : Nat) : Int) := by unfold sizeF; rw [if_neg (by omega)]; omega
        go_wp2_with fail
        refine (size_any (K : Int) w8 (by omega) (by omega)).mono ?_
        rw [hsz]
        rintro e w9 ⟨rfl, hg⟩
        have P9 : Hid (GetS w w9 A (rd5 (xs.take 54)).2.1 (rd5 (xs.take 54)).2.2) := ⟨(hg.block _ (row_lt P7.out.box) (by simp)).trans P7.out.box, P7.out.rd.kept hg (by simp) (NoBytes.none _), P7.out.lo, grown_trans P7.out.gr hg⟩
        have HV9 := hide (own_grown HV7.out hg)
        have HB9 := hide ((hg.block F (row_lt HB7.out) (by simp)).trans HB7.out)
        clear hg P7 HV7 HB7 hsz
        have hsub : ((22 + K : Nat) : Int) - 4 = ((18 + K : Nat) : Int) := by omega
        have hst18 := slice_to ao n cap (18 + K) (by omega)
        have hK32 : (22 + K : Nat) ≤ 54 := by omega
        go_wp2_with fail
        rw [show 22 + K - 4 = 18 + K by omega]
        refine (sum_any ao (18 + K) cap (xs.take (18 + K)) w9 (by have := HF.out.2.1; simp; omega) (HF.out.1.take _) ((HF.out.2.2.1.kept P9.out.gr (fun _ _ e => by cases e)).take _) (HF.out.2.2.2.2.2.grown P9.out.gr) (by omega)).mono ?_
        rintro e w10 ⟨rfl, rfl⟩
        obtain ⟨SM, hSM⟩ : ∃ x, x = sumI (xs.take (18 + K)) := ⟨_, rfl⟩
        obtain ⟨S5, hS5⟩ : ∃ x, x = leV (rd5 (xs.take 54)).1 := ⟨_, rfl⟩
        have HX2 := HX.out.2.1
        rw [← hSM, ← hS5] at HX2
        rw [← hSM, ← hS5]
        clear hSM hS5
        obtain ⟨c0, c1, c2⟩ := box_cells P9.out.box
        have f0 := free_row P9.out.box 0
        have f1 := free_row P9.out.box 1
        have f2 := free_row P9.out.box 2
        by_cases hne : S5 = SM
        · subst hne
          rw [if_neg (by simp)] at HX2
          have A2 := hide HX2
          obtain ⟨d0, d1, d2⟩ := box_cells HB9.out
          clear HX2
          generalize hE2 : leV (rd2 (xs.take 54)).1 = E2 at *
          generalize hE3 : leV (rd3 (xs.take 54)).1 = E3 at *
          have AE := hide (And.intro hE2 hE3)
          clear hE2 hE3
          go_wp2
          obtain ⟨eb, eg⟩ := set3 P9.out.box (.int .u64 E2) (.int .u64 E3) (.slice vo (rd4 (xs.take 54)).1.length vc)
          obtain ⟨e0, e1, e2⟩ := box_cells eb
          have HV10 := hide (own_kept HV9.out eg P9.out.box (by decide))
          clear c0 c1 c2 f0 f1 f2 eb d0 d1 d2
          have EG := hide (P9.out.ends eg)
          clear eg
          generalize ((w10.setCell ⟨w.heap.size, 0, none⟩ (.int .u64 E2)).setCell ⟨w.heap.size, 1, none⟩ (.int .u64 E3)).setCell ⟨w.heap.size, 2, none⟩ (.slice vo (rd4 (xs.take 54)).1.length vc) = w11 at *
          refine bodyPost_ret (v := .tuple #[.agg #[.int .u64 E2, .int .u64 E3, .slice vo (rd4 (xs.take 54)).1.length vc], .int .i64 ((22 + K : Nat) : Int), .int .i64 0]) ?_ rfl ?_
          · rw [results_cell_tmp2 rfl]; go_simp
          rw [A2.out]
          exact ⟨_, rfl, HV10.out, EG.out⟩
        · rw [if_pos hne] at HX2
          have A2 := hide HX2
          clear HX2
          go_wp2
          obtain ⟨eb, eg⟩ := set3 P9.out.box (.int .u64 0) (.int .u64 0) (.slice none 0 0)
          obtain ⟨e0, e1, e2⟩ := box_cells eb
          clear c0 c1 c2 f0 f1 f2 eb
          have EG := hide (P9.out.ends eg)
          clear eg
          generalize ((w10.setCell ⟨w.heap.size, 0, none⟩ (.int .u64 0)).setCell ⟨w.heap.size, 1, none⟩ (.int .u64 0)).setCell ⟨w.heap.size, 2, none⟩ (.slice none 0 0) = w11 at *
          refine bodyPost_ret (v := .tuple #[.agg #[.int .u64 0, .int .u64 0, .slice none 0 0], .int .i64 0, .int .i64 81]) ?_ rfl ?_
          · rw [results_cell_tmp2 rfl]; go_simp
          rw [A2.out]
          exact ⟨_, rfl, World.ownsRow_nil _ _ _ _, EG.out⟩
end Go.Proofs.YtofdijaipjkfbaaDoor.Fm
/- A range over a function whose elements lead to memory: what is so of an element when it is handed on is told to the loop's body. -/
namespace Go.Proofs.YtofdijaipjkfbaaDoor.Fm
open Go.RowKit

/-- New blocks alone leave it so. -/
def Stands {β : Type} (J : β → World → Prop) : Prop := ∀ s A B, J s A → A.grownBy B none → J s B

/-- What the iterator g does from W on: it hands on elements x, each with V pre x in the world in which it is handed on (pre: those ahead of it). -/
def SeqV {α : Type} (F : Fence) (n : Nat) (P : Program) (g : Nat) (lb : Array Value) (encs : α → Array Value) (Kp : World → World → Prop) (V : List α → α → World → Prop) (S : List α → Prop) (W : World) : Prop :=
  ∀ (l : Nat) (J Jx : List α → World → Prop), Stands J → Stands Jx →
    (∀ pre x W1, J pre W1 → V pre x W1 → YieldAt F (n - 1) P l (encs x) W1 fun e W' =>
      (e = .returned (.bool true) ∧ J (pre ++ [x]) W' ∧ Kp W1 W') ∨ (e = .returned (.bool false) ∧ Jx (pre ++ [x]) W')) →
    J [] W →
    CallsIn F n P g (#[.func (.yield l) #[] #[]] ++ lb) W fun e W' => (∃ v, e = .returned v) ∧ ((∃ xs, S xs ∧ J xs W') ∨ (∃ pre, Jx pre W'))

theorem OwnFrom.stands {β : Type} {B : Nat} {I : β → World → Prop} (h : OwnFrom B I) : Stands I := fun s A C hs hg => h s A C none hs hg (fun r e => by cases e)

variable {F : Fence} {n : Nat} {P : Program}

theorem wpIn_range_V {α : Type} {g : Operand} {ps : Array Tmp} {assign body : Code} {Q : Exit → Act → World → Prop} {a : Act} {w : World}
    (hro : F.round = none) (h1 : 1 ≤ n) {gf : Nat} {lb : Array Value} (hg : a.eval g = .func (.func gf) #[] lb) (hFg : F.fn gf) (eg : ∀ args w, (callFunc gf args).run P w = .ok (.enter gf args) w)
    {encs : α → Array Value} {Kp : World → World → Prop} {V : List α → α → World → Prop} {S : List α → Prop} (hseq : ∀ W, w.grownBy W none → SeqV F (n - 1) P gf lb encs Kp V S W)
    (hKt : ∀ {A B C : World}, Kp A B → Kp B C → Kp A C) (hKb : ∀ (W : World) (l : Nat) (o' : Obj), w.heap.size ≤ l → Kp W (W.putObj l o')) (hKg : ∀ (W W' : World), w.heap.size ≤ W.heap.size → W.grownBy W' none → Kp W W') (hps : ∀ x, (encs x).size = ps.size)
    (hV : ∀ pre, OwnFrom w.heap.size (V pre))
    (I : List α → World → Prop) (Ix : Code → List α → World → Prop) (hI : OwnFrom w.heap.size I) (hIx : ∀ c, OwnFrom w.heap.size (Ix c)) (h0 : I [] w) (Ax : α → Act → World → Prop) (hAx : ∀ x, OwnFrom w.heap.size (Ax x))
    (hassign : ∀ (l : Nat) (pre : List α) (x : α) (W : World) (K : Act → World → Prop), I pre W → V pre x W → (∀ a' W', W.grownBy W' none → Ax x a' W' → K a' W') →
      assign.wpIn (F.inRound l) (n - 1 - 1) P (Exit.then K (fun _ _ _ => False)) { tmps := (ps.zip (encs x)).foldl (fun t (p, v) => t.setIfInBounds p v) a.tmps, defers := [] } W)
    (hbody : ∀ (l : Nat) (pre : List α) (x : α) (a' : Act) (W : World), I pre W → V pre x W → Ax x a' W → body.wpIn (F.inRound l) (n - 1 - 1) P (ownPostG w.heap.size Kp I Ix (pre ++ [x]) W) a' W)
    (hdone : ∀ (D : Nat) (xs : List α) (W : World), w.heap.size ≤ D → S xs → I xs W → W.heap[D]? = some (.deferred (some [])) → Q .normal { a with defers := { target := .collected D, args := #[] } :: a.defers } W)
    (hstop : ∀ (D : Nat) (c : Code) (pre : List α) (W : World), w.heap.size ≤ D → Ix c pre W → W.heap[D]? = some (.deferred (some [])) → c.wpIn F n P Q { a with defers := { target := .collected D, args := #[] } :: a.defers } W) :
    (Code.rangeFunc g ps assign body).wpIn F n P Q a w := by
  refine wpIn_rangeFunc fun fn hfn => ?_
  rw [hro]
  -- the loop's record R at block w.heap.size + 1, the deferred calls' block at w.heap.size
  generalize hR : (fun (st : LoopState) (pe : Option Code) => ({ state := st, pending := pe, fn, tmps := a.tmps, params := ps, assign, body, defers := w.heap.size } : Loop)) = R
  have hRs : ∀ st pe, R st pe = { state := st, pending := pe, fn, tmps := a.tmps, params := ps, assign, body, defers := w.heap.size } := fun st pe => by rw [← hR]
  generalize hW1 : (w.alloc (.deferred (some []))).alloc (.loop (R .ready none)) = W1
  have hL1 : W1.heap[w.heap.size + 1]? = some (.loop (R .ready none)) := by
    have := World.alloc_heap_new (w.alloc (.deferred (some []))) (.loop (R .ready none))
    rw [← hW1]
    rwa [World.size_alloc] at this
  have hD1 : W1.heap[w.heap.size]? = some (.deferred (some [])) := by
    rw [← hW1]
    exact (Below.heap_alloc _ _ _ (by simp)).trans (World.alloc_heap_new w _)
  have hgr : w.grownBy W1 none := by
    rw [← hW1]
    have k1 := World.grownBy_alloc w (.deferred (some [])) none
    have k2 := World.grownBy_alloc (w.alloc (.deferred (some []))) (.loop (R .ready none)) none
    exact ⟨k2.os.trans k1.os, k2.tape.trans k1.tape, k2.output.trans k1.output, Nat.le_trans k1.size k2.size, fun i hi hne => (k2.block i (Nat.lt_of_lt_of_le hi k1.size) hne).trans (k1.block i hi hne)⟩
  have keeps : ∀ {A B : World} {k : Nat} {o : Obj}, A.grownBy B none → A.heap[k]? = some o → B.heap[k]? = some o := fun hAB hk =>
    (hAB.block _ (Array.getElem?_eq_some_iff.1 hk).1 (fun e => by cases e)).trans hk
  refine ⟨w.heap.size + 1, [{ target := .collected w.heap.size, args := #[] }], W1, { target := .fn (.func gf) lb, args := #[.func (.yield (w.heap.size + 1)) #[] #[]] }, W1, gf,
    #[.func (.yield (w.heap.size + 1)) #[] #[]] ++ lb, W1, ?_, ?_, ?_, ?_, fun _ => h1, ?_⟩
  · rw [← hW1, hRs]; exact run_enterLoop_outer _ _ _ _ _
  · simp only [resolve, hg]
    simp [go_sem]
  · intro f' hf'; simp [Target.leads] at hf'; subst hf'; exact hFg
  · simp [invoke, go_sem, eg]
  · refine (hseq W1 hgr (w.heap.size + 1)
      (fun pre W => I pre W ∧ W.heap[w.heap.size + 1]? = some (.loop (R .ready none)) ∧ W.heap[w.heap.size]? = some (.deferred (some [])))
      (fun pre W => ∃ c, Ix c pre W ∧ W.heap[w.heap.size + 1]? = some (.loop (R .done (some c))) ∧ W.heap[w.heap.size]? = some (.deferred (some [])))
      (fun s A B hs hAB => ⟨OwnFrom.stands hI s A B hs.1 hAB, keeps hAB hs.2.1, keeps hAB hs.2.2⟩)
      (fun s A B hs hAB => by
        obtain ⟨c, hc, hl, hk⟩ := hs
        exact ⟨c, OwnFrom.stands (hIx c) s A B hc hAB, keeps hAB hl, keeps hAB hk⟩)
      ?_ ⟨OwnFrom.stands hI [] w W1 h0 hgr, hL1, hD1⟩).mono ?_
    · rintro pre x W0 ⟨hi0, hl0, hk0⟩ hv0
      have hy := run_yield (P := P) (args := encs x) hl0 (by rw [hRs]; exact hps x)
      rw [hRs] at hy
      refine ⟨fn, _, assign, body, hy, roundIn_of_wpIn hfn (hassign _ pre x W0 _ hi0 hv0 ?_)⟩
      intro a' W hW hax
      have hi := OwnFrom.stands hI pre W0 W hi0 hW
      have hv := OwnFrom.stands (hV pre) x W0 W hv0 hW
      have hl := keeps hW hl0
      have hk := keeps hW hk0
      have hlt : w.heap.size + 1 < W.heap.size := (Array.getElem?_eq_some_iff.1 hl).1
      have hKW : Kp W0 W := hKg W0 W (by have := (Array.getElem?_eq_some_iff.1 hl0).1; omega) hW
      refine ⟨_, run_beginRound hl (by rw [hRs]), ?_⟩
      generalize hBz : (Obj.loop { R .ready none with state := .busy }) = busy
      have hl2 : (W.putObj (w.heap.size + 1) busy).heap[w.heap.size + 1]? = some busy := World.putObj_heap_same hlt
      have hk2 : (W.putObj (w.heap.size + 1) busy).heap[w.heap.size]? = some (.deferred (some [])) := (World.putObj_heap_other (by omega)).trans hk
      have hnc : busy.isCells = false := by rw [← hBz]; rfl
      refine wpIn_mono (hbody _ pre x a' _ (hI.putObj _ hi (by omega) hl rfl) ((hV pre).putObj _ hv (by omega) hl rfl) ((hAx x).putObj _ hax (by omega) hl rfl)) ?_
      have fin : ∀ (jump : Option Code) (W3 : World), KeepsFrom w.heap.size (W.putObj (w.heap.size + 1) busy) W3 →
          (Instr.endRound (w.heap.size + 1) jump).run P W3 = .ok (.bool jump.isNone) (W3.putObj (w.heap.size + 1) (.loop (R (if jump.isNone then .ready else .done) jump))) ∧
          W3.heap[w.heap.size + 1]? = some busy ∧
          (W3.putObj (w.heap.size + 1) (.loop (R (if jump.isNone then .ready else .done) jump))).heap[w.heap.size + 1]? = some (.loop (R (if jump.isNone then .ready else .done) jump)) ∧
          (W3.putObj (w.heap.size + 1) (.loop (R (if jump.isNone then .ready else .done) jump))).heap[w.heap.size]? = some (.deferred (some [])) := by
        intro jump W3 hk3
        have hl3 := hk3.same _ _ (by omega) hl2 hnc
        have hrun := run_endRound (P := P) jump (by rw [← hBz] at hl3; exact hl3)
        rw [hRs] at hrun ⊢
        exact ⟨hrun, hl3, World.putObj_heap_same (Array.getElem?_eq_some_iff.1 hl3).1, (World.putObj_heap_other (by omega)).trans (hk3.same _ _ (Nat.le_refl _) hk2 rfl)⟩
      have hleft : ∀ (c : Code) (W3 : World), KeepsFrom w.heap.size (W.putObj (w.heap.size + 1) busy) W3 → Ix c (pre ++ [x]) W3 →
          ∃ v W4, (Instr.endRound (w.heap.size + 1) (some c)).run P W3 = .ok v W4 ∧
            ((Ending.returned v = .returned (.bool true) ∧ (I (pre ++ [x]) W4 ∧ W4.heap[w.heap.size + 1]? = some (.loop (R .ready none)) ∧ W4.heap[w.heap.size]? = some (.deferred (some []))) ∧ Kp W0 W4) ∨
             (Ending.returned v = .returned (.bool false) ∧ ∃ c, Ix c (pre ++ [x]) W4 ∧ W4.heap[w.heap.size + 1]? = some (.loop (R .done (some c))) ∧ W4.heap[w.heap.size]? = some (.deferred (some [])))) := by
        intro c W3 hk3 hi3
        obtain ⟨hr, hl3, hl4, hk4⟩ := fin (some c) W3 hk3
        exact ⟨_, _, hr, .inr ⟨rfl, c, (hIx c).putObj _ hi3 (by omega) hl3 hnc, hl4, hk4⟩⟩
      rintro e a3 W3 hp
      cases e with
      | normal =>
        obtain ⟨hk3, hkp3, hi3⟩ := hp
        obtain ⟨hr, hl3, hl4, hk4⟩ := fin none W3 hk3
        exact ⟨_, _, hr, .inl ⟨rfl, ⟨hI.putObj _ hi3 (by omega) hl3 hnc, hl4, hk4⟩, hKt hKW (hKt (hKt (hKb _ _ _ (by omega)) hkp3) (hKb _ _ _ (by omega)))⟩⟩
      | ret => exact hleft .ret W3 hp.1 hp.2
      | exit id => exact hleft (.exit id) W3 hp.1 hp.2
      | goto t => exact hleft (.goto t) W3 hp.1 hp.2
      | panic ch => exact hp.elim
      | outgrown => exact hp.elim
    · rintro e W2 ⟨⟨v, rfl⟩, (⟨xs, hS, hi, hl, hk⟩ | ⟨pre, c, hi, hl, hk⟩)⟩
      · exact ⟨none, _, by have := run_endLoop (P := P) hl (by rw [hRs]; simp); rw [hRs] at this; exact this, hdone _ xs _ (Nat.le_refl _) hS (hI.putObj _ hi (by omega) hl rfl) ((World.putObj_heap_other (by omega)).trans hk)⟩
      · exact ⟨some c, _, by have := run_endLoop (P := P) hl (by rw [hRs]; simp); rw [hRs] at this; exact this, hstop _ c pre _ (Nat.le_refl _) ((hIx c).putObj _ hi (by omega) hl rfl) ((World.putObj_heap_other (by omega)).trans hk)⟩
end Go.Proofs.YtofdijaipjkfbaaDoor.Fm
