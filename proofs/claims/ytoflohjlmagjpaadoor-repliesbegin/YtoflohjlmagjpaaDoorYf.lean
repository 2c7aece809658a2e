/- replies: Get. -/
import Derived.Test.YtoflohjlmagjpaaDoorYe
namespace Go.Proofs.YtoflohjlmagjpaaDoor
open Go.RowKit
attribute [local go_sem ↓] Go.wp_at_zero Go.wp_at_succ
theorem takeF_ok (xs : List Int) (n : Nat) (h : n ≤ xs.length) : takeF xs 0 (n : Int) = (xs.take n, xs.drop n, 0) := by
  unfold takeF
  rw [if_neg (by simp), if_neg (by omega), if_neg (by omega)]
  simp
theorem takeF_few (xs : List Int) (n : Nat) (h : xs.length < n) : takeF xs 0 (n : Int) = ([], [], 4) := by
  unfold takeF
  rw [if_neg (by simp), if_neg (by omega), if_pos (by omega)]
theorem takeF_bad (xs : List Int) (e n : Int) (h : e ≠ 0) : (takeF xs e n).2.2 ≠ 0 := by
  unfold takeF
  rw [if_pos h]
  exact h
theorem takeF_short (xs : List Int) (n : Nat) (h : xs.length < n) : (takeF xs 0 (n : Int)).2.2 ≠ 0 := by
  rw [takeF_few xs n h]
  exact (by decide : (4 : Int) ≠ 0)
theorem tkF_bad (b : Bool) (xs : List Int) (e n : Int) (h : e ≠ 0) : (tkF b xs e n).2.2 ≠ 0 := by
  cases b with
  | false => exact h
  | true => exact takeF_bad xs e n h
theorem tk_at (b : Bool) (xs : List Int) (a n : Nat) (h : a + ifN b n ≤ xs.length) : tkF b (xs.drop a) 0 (n : Int) = (ifB b ((xs.drop a).take n), xs.drop (a + ifN b n), 0) := by
  cases b with
  | false => rfl
  | true =>
    have hn : ifN true n = n := rfl
    rw [hn] at h ⊢
    have := takeF_ok (xs.drop a) n (by rw [List.length_drop]; omega)
    rw [List.drop_drop] at this
    exact this
theorem tk_few (b : Bool) (xs : List Int) (a n : Nat) (ha : a ≤ xs.length) (h : xs.length < a + ifN b n) : (tkF b (xs.drop a) 0 (n : Int)).2.2 ≠ 0 := by
  cases b with
  | false => rw [show ifN false n = 0 from rfl] at h; omega
  | true =>
    have hn : ifN true n = n := rfl
    rw [hn] at h
    exact takeF_short (xs.drop a) n (by rw [List.length_drop]; omega)
theorem num_ifB (b : Bool) (xs : List Int) (a n : Nat) : leV (ifB b ((xs.drop a).take n)) = num b xs a n := by cases b <;> rfl
theorem rd0_at {xs : List Int} (h : 4 ≤ xs.length) : rd0 xs = (xs.take 4, xs.drop 4, 0) := takeF_ok xs 4 h
theorem rd1_at {xs : List Int} (h : 5 ≤ xs.length) : rd1 xs = ((xs.drop 4).take 1, xs.drop 5, 0) := by
  unfold rd1
  rw [rd0_at (by omega)]
  have := takeF_ok (xs.drop 4) 1 (by rw [List.length_drop]; omega)
  rw [List.drop_drop] at this
  exact this
theorem rd2_at {xs : List Int} (h : 7 ≤ xs.length) : rd2 xs = ((xs.drop 5).take 2, xs.drop 7, 0) := by
  unfold rd2
  rw [rd1_at (by omega)]
  have := takeF_ok (xs.drop 5) 2 (by rw [List.length_drop]; omega)
  rw [List.drop_drop] at this
  exact this
theorem ke_at {xs : List Int} (h : 7 ≤ xs.length) : rk xs = kO xs ∧ re xs = eO xs := by
  unfold rk re
  rw [rd1_at (by omega), rd2_at h]
  exact ⟨rfl, rfl⟩
theorem bad_all {xs : List Int} (h : (rd2 xs).2.2 ≠ 0) : (rdC xs).2.2 ≠ 0 := tkF_bad _ _ _ _ (tkF_bad _ _ _ _ (tkF_bad _ _ _ _ (tkF_bad _ _ _ _ h)))
section
variable {xs : List Int} (h7 : 7 ≤ xs.length)
include h7
theorem rdI_at (h : aS (kO xs) (eO xs) ≤ xs.length) : rdI xs = (ifB (hI (kO xs) (eO xs)) ((xs.drop 7).take 4), xs.drop (aS (kO xs) (eO xs)), 0) := by
  unfold rdI
  rw [(ke_at h7).1, (ke_at h7).2, rd2_at h7]
  exact tk_at _ xs 7 4 h
theorem rdT_at (h : aU (kO xs) (eO xs) ≤ xs.length) : rdT xs = (ifB (hS (kO xs) (eO xs)) ((xs.drop (aS (kO xs) (eO xs))).take 2), xs.drop (aU (kO xs) (eO xs)), 0) := by
  have z2 : aU (kO xs) (eO xs) = aS (kO xs) (eO xs) + ifN (hS (kO xs) (eO xs)) 2 := rfl
  unfold rdT
  rw [(ke_at h7).1, (ke_at h7).2, rdI_at h7 (by omega)]
  exact tk_at _ xs _ 2 h
theorem rdU_at (h : aC (kO xs) (eO xs) ≤ xs.length) : rdU xs = (ifB (hU (kO xs) (eO xs)) ((xs.drop (aU (kO xs) (eO xs))).take 8), xs.drop (aC (kO xs) (eO xs)), 0) := by
  have z2 : aC (kO xs) (eO xs) = aU (kO xs) (eO xs) + ifN (hU (kO xs) (eO xs)) 8 := rfl
  unfold rdU
  rw [(ke_at h7).1, (ke_at h7).2, rdT_at h7 (by omega)]
  exact tk_at _ xs _ 8 h
theorem rdC_at (h : szO xs ≤ xs.length) : rdC xs = (ifB (hC (kO xs) (eO xs)) ((xs.drop (aC (kO xs) (eO xs))).take 2), xs.drop (szO xs), 0) := by
  have z2 : szO xs = aC (kO xs) (eO xs) + ifN (hC (kO xs) (eO xs)) 2 := sz_aC _ _
  rw [z2] at h ⊢
  unfold rdC
  rw [(ke_at h7).1, (ke_at h7).2, rdU_at h7 (by omega)]
  exact tk_at _ xs _ 2 h
end
/-- Enough bytes: the reply that they say. -/
theorem rd_full {xs : List Int} (h : szO xs ≤ xs.length) : rdQ xs = ryOf xs ∧ (rdC xs).2.1 = xs.drop (szO xs) ∧ (rdC xs).2.2 = 0 := by
  have h7 : 7 ≤ xs.length := Nat.le_trans (sz_le _ _).1 h
  have z0 : szO xs = aC (kO xs) (eO xs) + ifN (hC (kO xs) (eO xs)) 2 := sz_aC _ _
  have z1 : aC (kO xs) (eO xs) = aU (kO xs) (eO xs) + ifN (hU (kO xs) (eO xs)) 8 := rfl
  have z2 : aU (kO xs) (eO xs) = aS (kO xs) (eO xs) + ifN (hS (kO xs) (eO xs)) 2 := rfl
  refine ⟨?_, by rw [rdC_at h7 h], by rw [rdC_at h7 h]⟩
  unfold rdQ ryOf
  rw [rd0_at (by omega), (ke_at h7).1, (ke_at h7).2, rdI_at h7 (by omega), rdT_at h7 (by omega), rdU_at h7 (by omega), rdC_at h7 h]
  dsimp only
  rw [num_ifB, num_ifB, num_ifB, num_ifB]
/-- Too few bytes: an error stays. -/
theorem rd_short {xs : List Int} (h : xs.length < szO xs) : (rdC xs).2.2 ≠ 0 := by
  by_cases h4 : 4 ≤ xs.length
  case neg =>
    refine bad_all (takeF_bad _ _ _ (takeF_bad _ _ _ ?_))
    exact takeF_short xs 4 (by omega)
  by_cases h5 : 5 ≤ xs.length
  case neg =>
    refine bad_all (takeF_bad _ _ _ ?_)
    unfold rd1
    rw [rd0_at h4]
    exact takeF_short (xs.drop 4) 1 (by rw [List.length_drop]; omega)
  by_cases h7 : 7 ≤ xs.length
  case neg =>
    refine bad_all ?_
    unfold rd2
    rw [rd1_at h5]
    exact takeF_short (xs.drop 5) 2 (by rw [List.length_drop]; omega)
  have z0 : szO xs = aC (kO xs) (eO xs) + ifN (hC (kO xs) (eO xs)) 2 := sz_aC _ _
  have z1 : aC (kO xs) (eO xs) = aU (kO xs) (eO xs) + ifN (hU (kO xs) (eO xs)) 8 := rfl
  have z2 : aU (kO xs) (eO xs) = aS (kO xs) (eO xs) + ifN (hS (kO xs) (eO xs)) 2 := rfl
  have z3 : aS (kO xs) (eO xs) = 7 + ifN (hI (kO xs) (eO xs)) 4 := rfl
  by_cases l1 : aS (kO xs) (eO xs) ≤ xs.length
  case neg =>
    refine tkF_bad _ _ _ _ (tkF_bad _ _ _ _ (tkF_bad _ _ _ _ ?_))
    unfold rdI
    rw [(ke_at h7).1, (ke_at h7).2, rd2_at h7]
    exact tk_few _ xs 7 4 h7 (by omega)
  by_cases l2 : aU (kO xs) (eO xs) ≤ xs.length
  case neg =>
    refine tkF_bad _ _ _ _ (tkF_bad _ _ _ _ ?_)
    unfold rdT
    rw [(ke_at h7).1, (ke_at h7).2, rdI_at h7 l1]
    exact tk_few _ xs _ 2 l1 (by omega)
  by_cases l3 : aC (kO xs) (eO xs) ≤ xs.length
  case neg =>
    refine tkF_bad _ _ _ _ ?_
    unfold rdU
    rw [(ke_at h7).1, (ke_at h7).2, rdT_at h7 l2]
    exact tk_few _ xs _ 8 l2 (by omega)
  unfold rdC
  rw [(ke_at h7).1, (ke_at h7).2, rdU_at h7 l3]
  exact tk_few _ xs _ 2 l3 (by omega)
theorem end_yes {xs : List Int} (h : endF (rdC xs).2.1 (rdC xs).2.2 = 0) : xs.length = szO xs ∧ rdQ xs = ryOf xs := by
  by_cases hl : szO xs ≤ xs.length
  · obtain ⟨a, b, c⟩ := rd_full hl
    refine ⟨?_, a⟩
    rw [b, c] at h
    unfold endF at h
    rw [if_neg (by simp)] at h
    split at h
    · rename_i hd; have := congrArg List.length hd; rw [List.length_drop, List.length_nil] at this; omega
    · omega
  · have hb := rd_short (xs := xs) (by omega)
    unfold endF at h
    rw [if_pos hb] at h
    exact absurd h hb
theorem end_no {xs : List Int} (h : endF (rdC xs).2.1 (rdC xs).2.2 ≠ 0) : xs.length ≠ szO xs := by
  intro hl
  obtain ⟨a, b, c⟩ := rd_full (xs := xs) (by omega)
  rw [b, c, ← hl, List.drop_length] at h
  exact h rfl
/-- Inside Get: the answer's box. -/
structure GtS (w wr : World) : Prop where
  ans : wr.heap[w.heap.size]? = some (.cells [Value.int .u32 0, .int .i64 0, .int .i64 0, .int .u32 0, .int .i64 0, .int .i64 0, .int .i64 0].toArray 26 (0, 0))
  gr : w.grownBy wr none
theorem GtS.grown {w wr wr' : World} (h : GtS w wr) (hg : wr.grownBy wr' none) : GtS w wr' := ⟨box_new h.ans hg, grown_trans h.gr hg⟩
theorem GtS.begin (w : World) : GtS w (w.alloc (.cells #[.int .u32 0, .int .i64 0, .int .i64 0, .int .u32 0, .int .i64 0, .int .i64 0, .int .i64 0] 26)) := ⟨heap_alloc_new w _, World.grownBy_alloc w _ none⟩
set_option maxRecDepth 20000 in
set_option maxHeartbeats 8000000 in
theorem get_any (xs : List Int) (hB : Byt xs) (ao : Option Addr) (n cap : Nat) (w : World) (hT : Tab w) (hn : xs.length = n) (hat : At w ao xs) (hnil : ao = none → n = 0 ∧ cap = 0) :
    Calls Tryd.prog 16 #[.slice ao n cap] w fun r w' => r = .returned (.tuple #[ryV (getY xs).1, .int .i64 (getY xs).2]) ∧ w.grownBy w' none := by
  obtain ⟨res, hres⟩ : ∃ res, res = getY xs := ⟨_, rfl⟩
  rw [← hres]
  have HX := hide (And.intro hB (And.intro hn (And.intro hat (And.intro hnil hres))))
  have HT := hide hT
  clear hB hat hres hnil hT
  have G0 := hide (GtS.begin w)
  by_cases h19 : n ≤ 19
  · have hle : (n : Int) ≤ 19 := by omega
    have qo := of_any ao n cap xs (w.alloc (.cells #[.int .u32 0, .int .i64 0, .int .i64 0, .int .u32 0, .int .i64 0, .int .i64 0, .int .i64 0] 26)) hn (HX.out.2.2.1.kept G0.out.gr (fun _ _ e => by cases e)) HX.out.2.2.2.1 (by omega)
    clear hn
    have qr := fun R w1 h1 h2 h3 => read_ry R xs w1 h1 HX.out.1 h2 h3
    have HO : Hid (∀ q, (rdQ xs = q) → endF (rdC xs).2.1 (rdC xs).2.2 = 0 → q.Ok) := fun q h e => by rw [← h, (end_yes e).2]; exact ryOf_ok HX.out.1
    have HG : Hid (∀ q, (rdQ xs = q) → endF (rdC xs).2.1 (rdC xs).2.2 = 0 → res = if q.May then (q, 0) else (zRy, 210)) := fun q h e => by
      obtain ⟨a, b⟩ := end_yes e
      rw [HX.out.2.2.2.2, ← h, b]
      unfold getY
      by_cases hm : (ryOf xs).May
      · rw [if_pos ⟨a, hm⟩, if_pos hm]
      · rw [if_neg (fun h => hm h.2), if_neg hm]
    have HN : Hid (endF (rdC xs).2.1 (rdC xs).2.2 ≠ 0 → res = (zRy, 210)) := fun e => by
      rw [HX.out.2.2.2.2]
      unfold getY
      rw [if_neg (fun h => end_no e h.1)]
    obtain ⟨q, hq⟩ : ∃ q, rdQ xs = q := ⟨_, rfl⟩
    rw [hq] at qr
    have HQ := hide hq
    clear hq
    have HO := hide (HO.out q HQ.out)
    have HG := hide (HG.out q HQ.out)
    clear HQ
    generalize (rdC xs).2.1 = ys at *
    generalize (rdC xs).2.2 = er at *
    obtain ⟨t, k, e, i, s, u, c⟩ := q
    unfold ryV at qr
    dsimp only at qr
    have qe := fun R w1 h => end_any R ys er w1 h
    generalize endF ys er = ee at *
    clear h19
    go_enter Tryd.func16, Tryd.ntmps16
    go_wp2_with fail
    generalize (w.alloc (.cells #[.int .u32 0, .int .i64 0, .int .i64 0, .int .u32 0, .int .i64 0, .int .i64 0, .int .i64 0] 26)) = w1 at *
    refine qo.mono ?_
    clear qo
    rintro r w2 ⟨R, rfl, hRlo, hR, hg⟩
    have G1 := hide (G0.out.grown hg)
    have HR := hide (And.intro hRlo hR)
    have HS := hide G0.out.gr.size
    have HA := hide (row_lt G0.out.ans)
    clear hg G0 hRlo hR
    have h0 : R ≠ 0 := by have := HR.out.1; have := HS.out; have := HT.out.lt; omega
    have qr := qr R w2 HR.out.2 (HT.out.new G1.out.gr) h0
    have HT2 := hide (HT.out.new G1.out.gr)
    have H0 := hide h0
    clear h0
    go_wp2_with fail
    refine qr.mono ?_
    clear qr
    rintro r w3 ⟨rfl, hR, hg⟩
    have G2 : Hid (GtS w w3) := ⟨(hg.block _ (row_lt G1.out.ans) (by have := HR.out.1; have := HA.out; simp; omega)).trans G1.out.ans, grown_then G1.out.gr hg (fun j e => by cases e; exact Or.inl (Nat.le_trans HS.out HR.out.1))⟩
    have B4 := hide (heap_alloc_new w3 (.cells [Value.int .u32 t, .int .i64 k, .int .i64 e, .int .u32 i, .int .i64 s, .int .i64 u, .int .i64 c].toArray 26))
    have g4 := World.grownBy_alloc w3 (.cells #[.int .u32 t, .int .i64 k, .int .i64 e, .int .u32 i, .int .i64 s, .int .i64 u, .int .i64 c] 26) none
    have G4 := hide (G2.out.grown g4)
    have R4 := hide (hR.kept g4 (by simp) (NoBytes.none _))
    clear hR hg g4 G1 G2 HR HS HA
    obtain ⟨x0, x1, x2, x3, x4, x5, x6⟩ := box7 B4.out
    go_wp2_with fail
    generalize w3.alloc (.cells #[.int .u32 t, .int .i64 k, .int .i64 e, .int .u32 i, .int .i64 s, .int .i64 u, .int .i64 c] 26) = w4 at *
    generalize w3.heap.size = Y at *
    refine (qe R w4 R4.out).mono ?_
    clear qe
    rintro r wx ⟨rfl, hw⟩
    obtain rfl := hw.symm
    clear hw
    by_cases he : ee = 0
    · subst he
      have qc := check_any ⟨t, k, e, i, s, u, c⟩ (HO.out rfl) w4 (HT.out.new G4.out.gr)
      have HG := hide (HG.out rfl)
      unfold ryV at qc
      dsimp only at qc
      by_cases hm : (Ry.mk t k e i s u c).May
      · rw [show chk ⟨t, k, e, i, s, u, c⟩ = 0 from if_pos hm] at qc
        have HRR : Hid (res = (⟨t, k, e, i, s, u, c⟩, 0)) := by have := HG.out; rw [if_pos hm] at this; exact this
        clear hm
        go_wp2_with fail
        refine qc.mono ?_
        clear qc
        rintro r w5 ⟨rfl, hg⟩
        have G5 := hide (G4.out.grown hg)
        have B5 := hide (box_new B4.out hg)
        clear hg x0 x1 x2 x3 x4 x5 x6 G4 B4
        obtain ⟨x0, x1, x2, x3, x4, x5, x6⟩ := box7 B5.out
        obtain ⟨u0, u1, u2, u3, u4, u5, u6⟩ := box7 G5.out.ans
        have s0 := free_row G5.out.ans 0
        have s1 := free_row G5.out.ans 1
        have s2 := free_row G5.out.ans 2
        have s3 := free_row G5.out.ans 3
        have s4 := free_row G5.out.ans 4
        have s5 := free_row G5.out.ans 5
        have s6 := free_row G5.out.ans 6
        go_wp2
        obtain ⟨eb, eg⟩ := set7 G5.out.ans (.int .u32 t) (.int .i64 k) (.int .i64 e) (.int .u32 i) (.int .i64 s) (.int .i64 u) (.int .i64 c)
        clear u0 u1 u2 u3 u4 u5 u6 s0 s1 s2 s3 s4 s5 s6
        obtain ⟨e0, e1, e2, e3, e4, e5, e6⟩ := box7 eb
        have EG := hide (grown_then G5.out.gr eg (fun j e => by cases e; exact Or.inl (Nat.le_refl _)))
        clear eb eg
        generalize (((((((w5.setCell ⟨w.heap.size, 0, none⟩ (.int .u32 t)).setCell ⟨w.heap.size, 1, none⟩ (.int .i64 k)).setCell ⟨w.heap.size, 2, none⟩ (.int .i64 e)).setCell ⟨w.heap.size, 3, none⟩ (.int .u32 i)).setCell ⟨w.heap.size, 4, none⟩ (.int .i64 s)).setCell ⟨w.heap.size, 5, none⟩ (.int .i64 u)).setCell ⟨w.heap.size, 6, none⟩ (.int .i64 c)) = w9 at *
        refine bodyPost_ret (v := .tuple #[.agg #[.int .u32 t, .int .i64 k, .int .i64 e, .int .u32 i, .int .i64 s, .int .i64 u, .int .i64 c], .int .i64 0]) ?_ rfl ?_
        · rw [results_cell_tmp rfl]; go_simp
        exact ⟨by rw [HRR.out]; rfl, EG.out⟩
      · rw [show chk ⟨t, k, e, i, s, u, c⟩ = 210 from if_neg hm] at qc
        have HRR : Hid (res = (zRy, 210)) := by have := HG.out; rw [if_neg hm] at this; exact this
        clear hm
        go_wp2_with fail
        refine qc.mono ?_
        clear qc
        rintro r w5 ⟨rfl, hg⟩
        have G5 := hide (G4.out.grown hg)
        clear hg x0 x1 x2 x3 x4 x5 x6 G4 B4
        obtain ⟨u0, u1, u2, u3, u4, u5, u6⟩ := box7 G5.out.ans
        have s0 := free_row G5.out.ans 0
        have s1 := free_row G5.out.ans 1
        have s2 := free_row G5.out.ans 2
        have s3 := free_row G5.out.ans 3
        have s4 := free_row G5.out.ans 4
        have s5 := free_row G5.out.ans 5
        have s6 := free_row G5.out.ans 6
        go_wp2
        obtain ⟨eb, eg⟩ := set7 G5.out.ans (.int .u32 0) (.int .i64 0) (.int .i64 0) (.int .u32 0) (.int .i64 0) (.int .i64 0) (.int .i64 0)
        clear u0 u1 u2 u3 u4 u5 u6 s0 s1 s2 s3 s4 s5 s6
        obtain ⟨e0, e1, e2, e3, e4, e5, e6⟩ := box7 eb
        have EG := hide (grown_then G5.out.gr eg (fun j e => by cases e; exact Or.inl (Nat.le_refl _)))
        clear eb eg
        generalize (((((((w5.setCell ⟨w.heap.size, 0, none⟩ (.int .u32 0)).setCell ⟨w.heap.size, 1, none⟩ (.int .i64 0)).setCell ⟨w.heap.size, 2, none⟩ (.int .i64 0)).setCell ⟨w.heap.size, 3, none⟩ (.int .u32 0)).setCell ⟨w.heap.size, 4, none⟩ (.int .i64 0)).setCell ⟨w.heap.size, 5, none⟩ (.int .i64 0)).setCell ⟨w.heap.size, 6, none⟩ (.int .i64 0)) = w9 at *
        refine bodyPost_ret (v := .tuple #[.agg #[.int .u32 0, .int .i64 0, .int .i64 0, .int .u32 0, .int .i64 0, .int .i64 0, .int .i64 0], .int .i64 210]) ?_ rfl ?_
        · rw [results_cell_tmp rfl]; go_simp
        exact ⟨by rw [HRR.out]; rfl, EG.out⟩
    · have HRR : Hid (res = (zRy, 210)) := HN.out he
      have he1 : (ee == 0) = false := by simpa using he
      have he2 : (ee != 0) = true := by simpa using he
      have he3 : decide (ee = 0) = false := by simpa using he
      clear he
      obtain ⟨u0, u1, u2, u3, u4, u5, u6⟩ := box7 G4.out.ans
      have s0 := free_row G4.out.ans 0
      have s1 := free_row G4.out.ans 1
      have s2 := free_row G4.out.ans 2
      have s3 := free_row G4.out.ans 3
      have s4 := free_row G4.out.ans 4
      have s5 := free_row G4.out.ans 5
      have s6 := free_row G4.out.ans 6
      go_wp2
      obtain ⟨eb, eg⟩ := set7 G4.out.ans (.int .u32 0) (.int .i64 0) (.int .i64 0) (.int .u32 0) (.int .i64 0) (.int .i64 0) (.int .i64 0)
      clear u0 u1 u2 u3 u4 u5 u6 s0 s1 s2 s3 s4 s5 s6
      obtain ⟨e0, e1, e2, e3, e4, e5, e6⟩ := box7 eb
      have EG := hide (grown_then G4.out.gr eg (fun j e => by cases e; exact Or.inl (Nat.le_refl _)))
      clear eb eg
      generalize (((((((w4.setCell ⟨w.heap.size, 0, none⟩ (.int .u32 0)).setCell ⟨w.heap.size, 1, none⟩ (.int .i64 0)).setCell ⟨w.heap.size, 2, none⟩ (.int .i64 0)).setCell ⟨w.heap.size, 3, none⟩ (.int .u32 0)).setCell ⟨w.heap.size, 4, none⟩ (.int .i64 0)).setCell ⟨w.heap.size, 5, none⟩ (.int .i64 0)).setCell ⟨w.heap.size, 6, none⟩ (.int .i64 0)) = w9 at *
      refine bodyPost_ret (v := .tuple #[.agg #[.int .u32 0, .int .i64 0, .int .i64 0, .int .u32 0, .int .i64 0, .int .i64 0, .int .i64 0], .int .i64 210]) ?_ rfl ?_
      · rw [results_cell_tmp rfl]; go_simp
      exact ⟨by rw [HRR.out]; rfl, EG.out⟩
  · have hgt : (19 : Int) < (n : Int) := by omega
    have HRR : Hid (res = (zRy, 210)) := by
      rw [HX.out.2.2.2.2]
      unfold getY
      rw [if_neg (fun h => by have := h.1; have := sz_le (kO xs) (eO xs); unfold szO at *; omega)]
      exact rfl
    clear h19 hn
    go_enter Tryd.func16, Tryd.ntmps16
    go_wp2
    obtain ⟨e0, e1, e2, e3, e4, e5, e6⟩ := box7 G0.out.ans
    generalize (w.alloc (.cells #[.int .u32 0, .int .i64 0, .int .i64 0, .int .u32 0, .int .i64 0, .int .i64 0, .int .i64 0] 26)) = w1 at *
    refine bodyPost_ret (v := .tuple #[.agg #[.int .u32 0, .int .i64 0, .int .i64 0, .int .u32 0, .int .i64 0, .int .i64 0, .int .i64 0], .int .i64 210]) ?_ rfl ?_
    · rw [results_cell_tmp rfl]; go_simp
    exact ⟨by rw [HRR.out]; rfl, G0.out.gr⟩
end Go.Proofs.YtoflohjlmagjpaaDoor
