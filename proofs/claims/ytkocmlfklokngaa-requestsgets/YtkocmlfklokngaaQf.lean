/- requests: Get. -/
import Derived.Test.YtkocmlfklokngaaQe
namespace Go.Proofs.Ytkocmlfklokngaa
open Go.RowKit
attribute [local go_sem ↓] Go.wp_at_zero Go.wp_at_succ
theorem takeF_ok (xs : List Int) (n : Nat) (h : n ≤ xs.length) : takeF xs 0 (n : Int) = (xs.take n, xs.drop n, 0) := by
  unfold takeF
  rw [if_neg (by simp), if_neg (by omega), if_neg (by omega)]
  simp
theorem takeF_few (xs : List Int) (n : Nat) (h : xs.length < n) : takeF xs 0 (n : Int) = ([], [], 4) := by
  unfold takeF
  rw [if_neg (by simp), if_neg (by omega), if_pos (by omega)]
theorem takeF_bad (xs : List Int) (e n : Int) (h : e ≠ 0) : (takeF xs e n).2.2 ≠ 0 := by
  unfold takeF
  rw [if_pos h]
  exact h
theorem tkF_bad (b : Bool) (xs : List Int) (e n : Int) (h : e ≠ 0) : (tkF b xs e n).2.2 ≠ 0 := by
  cases b with
  | false => exact h
  | true => exact takeF_bad xs e n h
theorem tk_at (b : Bool) (xs : List Int) (a n : Nat) (h : a + ifN b n ≤ xs.length) : tkF b (xs.drop a) 0 (n : Int) = (ifB b ((xs.drop a).take n), xs.drop (a + ifN b n), 0) := by
  cases b with
  | false => rfl
  | true =>
    have hn : ifN true n = n := rfl
    rw [hn] at h ⊢
    have := takeF_ok (xs.drop a) n (by rw [List.length_drop]; omega)
    rw [List.drop_drop] at this
    exact this
theorem tk_few (b : Bool) (xs : List Int) (a n : Nat) (ha : a ≤ xs.length) (h : xs.length < a + ifN b n) : (tkF b (xs.drop a) 0 (n : Int)).2.2 ≠ 0 := by
  cases b with
  | false => rw [show ifN false n = 0 from rfl] at h; omega
  | true =>
    have hn : ifN true n = n := rfl
    rw [hn] at h
    have := takeF_few (xs.drop a) n (by rw [List.length_drop]; omega)
    show (takeF (xs.drop a) 0 (n : Int)).2.2 ≠ 0
    rw [this]
    exact (by decide : (4 : Int) ≠ 0)
theorem num_ifB (b : Bool) (xs : List Int) (a n : Nat) : leV (ifB b ((xs.drop a).take n)) = num b xs a n := by cases b <;> rfl
theorem rd0_at {xs : List Int} (h : 1 ≤ xs.length) : rd0 xs = (xs.take 1, xs.drop 1, 0) ∧ leV (xs.take 1) = xs.headD 0 := by
  refine ⟨takeF_ok xs 1 h, ?_⟩
  cases xs with
  | nil => simp at h
  | cons x r => simp [leV]
theorem rd1_at {xs : List Int} (h : 5 ≤ xs.length) : rd1 xs = ((xs.drop 1).take 4, xs.drop 5, 0) := by
  unfold rd1
  rw [(rd0_at (by omega)).1]
  have := takeF_ok (xs.drop 1) 4 (by rw [List.length_drop]; omega)
  rw [List.drop_drop] at this
  exact this
/-- Enough bytes: the request that they say. -/
theorem rd_full {xs : List Int} (h : sz (xs.headD 0) ≤ xs.length) : rdQ xs = rqOf xs ∧ (rdL xs).2.1 = xs.drop (sz (xs.headD 0)) ∧ (rdL xs).2.2 = 0 := by
  have hz : sz (xs.headD 0) = 5 + (ifN (hI (xs.headD 0)) 4 + (ifN (hS (xs.headD 0)) 2 + ifN (hL (xs.headD 0)) 8)) := rfl
  have h0 := rd0_at (xs := xs) (by omega)
  have h1 := rd1_at (xs := xs) (by omega)
  have hk : leV (rd0 xs).1 = xs.headD 0 := by rw [h0.1]; exact h0.2
  have h2 : rdI xs = (ifB (hI (xs.headD 0)) ((xs.drop 5).take 4), xs.drop (5 + ifN (hI (xs.headD 0)) 4), 0) := by
    unfold rdI
    rw [hk, h1]
    exact tk_at (hI (xs.headD 0)) xs 5 4 (by omega)
  have h3 : rdT xs = (ifB (hS (xs.headD 0)) ((xs.drop (5 + ifN (hI (xs.headD 0)) 4)).take 2), xs.drop (5 + ifN (hI (xs.headD 0)) 4 + ifN (hS (xs.headD 0)) 2), 0) := by
    unfold rdT
    rw [hk, h2]
    exact tk_at (hS (xs.headD 0)) xs (5 + ifN (hI (xs.headD 0)) 4) 2 (by omega)
  have h4 : rdL xs = (ifB (hL (xs.headD 0)) ((xs.drop (5 + ifN (hI (xs.headD 0)) 4 + ifN (hS (xs.headD 0)) 2)).take 8), xs.drop (5 + ifN (hI (xs.headD 0)) 4 + ifN (hS (xs.headD 0)) 2 + ifN (hL (xs.headD 0)) 8), 0) := by
    unfold rdL
    rw [hk, h3]
    exact tk_at (hL (xs.headD 0)) xs (5 + ifN (hI (xs.headD 0)) 4 + ifN (hS (xs.headD 0)) 2) 8 (by omega)
  refine ⟨?_, ?_, ?_⟩
  · unfold rdQ rqOf
    rw [hk, h1, h2, h3, h4]
    dsimp only
    rw [num_ifB, num_ifB, num_ifB, Nat.add_assoc]
  · rw [h4, hz]
    dsimp only
    rw [Nat.add_assoc, Nat.add_assoc]
  · rw [h4]
/-- Too few bytes: an error stays. -/
theorem rd_short {xs : List Int} (h : xs.length < sz (xs.headD 0)) : (rdL xs).2.2 ≠ 0 := by
  have hz : sz (xs.headD 0) = 5 + (ifN (hI (xs.headD 0)) 4 + (ifN (hS (xs.headD 0)) 2 + ifN (hL (xs.headD 0)) 8)) := rfl
  by_cases l1 : 1 ≤ xs.length
  · have h0 := rd0_at l1
    have hk : leV (rd0 xs).1 = xs.headD 0 := by rw [h0.1]; exact h0.2
    by_cases l5 : 5 ≤ xs.length
    · have h1 := rd1_at l5
      by_cases l9 : 5 + ifN (hI (xs.headD 0)) 4 ≤ xs.length
      · have h2 : rdI xs = (ifB (hI (xs.headD 0)) ((xs.drop 5).take 4), xs.drop (5 + ifN (hI (xs.headD 0)) 4), 0) := by
          unfold rdI
          rw [hk, h1]
          exact tk_at (hI (xs.headD 0)) xs 5 4 l9
        by_cases l11 : 5 + ifN (hI (xs.headD 0)) 4 + ifN (hS (xs.headD 0)) 2 ≤ xs.length
        · have h3 : rdT xs = (ifB (hS (xs.headD 0)) ((xs.drop (5 + ifN (hI (xs.headD 0)) 4)).take 2), xs.drop (5 + ifN (hI (xs.headD 0)) 4 + ifN (hS (xs.headD 0)) 2), 0) := by
            unfold rdT
            rw [hk, h2]
            exact tk_at (hS (xs.headD 0)) xs (5 + ifN (hI (xs.headD 0)) 4) 2 l11
          unfold rdL
          rw [hk, h3]
          exact tk_few (hL (xs.headD 0)) xs _ 8 l11 (by omega)
        · have h3 : (rdT xs).2.2 ≠ 0 := by
            unfold rdT
            rw [hk, h2]
            exact tk_few (hS (xs.headD 0)) xs _ 2 l9 (by omega)
          exact tkF_bad _ _ _ _ h3
      · have h2 : (rdI xs).2.2 ≠ 0 := by
          unfold rdI
          rw [hk, h1]
          exact tk_few (hI (xs.headD 0)) xs 5 4 l5 (by omega)
        exact tkF_bad _ _ _ _ (tkF_bad _ _ _ _ h2)
    · have h1 : (rd1 xs).2.2 ≠ 0 := by
        unfold rd1
        rw [h0.1]
        have := takeF_few (xs.drop 1) 4 (by rw [List.length_drop]; omega)
        show (takeF (xs.drop 1) 0 ((4 : Nat) : Int)).2.2 ≠ 0
        rw [this]
        exact (by decide : (4 : Int) ≠ 0)
      exact tkF_bad _ _ _ _ (tkF_bad _ _ _ _ (tkF_bad _ _ _ _ h1))
  · have h0 : (rd0 xs).2.2 ≠ 0 := by
      have := takeF_few xs 1 (by omega)
      show (takeF xs 0 ((1 : Nat) : Int)).2.2 ≠ 0
      rw [this]
      exact (by decide : (4 : Int) ≠ 0)
    exact tkF_bad _ _ _ _ (tkF_bad _ _ _ _ (tkF_bad _ _ _ _ (takeF_bad _ _ _ h0)))
theorem end_yes {xs : List Int} (h : endF (rdL xs).2.1 (rdL xs).2.2 = 0) : xs.length = sz (xs.headD 0) ∧ rdQ xs = rqOf xs := by
  by_cases hl : sz (xs.headD 0) ≤ xs.length
  · obtain ⟨a, b, c⟩ := rd_full hl
    refine ⟨?_, a⟩
    rw [b, c] at h
    unfold endF at h
    rw [if_neg (by simp)] at h
    split at h
    · rename_i hd; have := congrArg List.length hd; rw [List.length_drop, List.length_nil] at this; omega
    · omega
  · have hb := rd_short (xs := xs) (by omega)
    unfold endF at h
    rw [if_pos hb] at h
    exact absurd h hb
theorem end_no {xs : List Int} (h : endF (rdL xs).2.1 (rdL xs).2.2 ≠ 0) : xs.length ≠ sz (xs.headD 0) := by
  intro hl
  obtain ⟨a, b, c⟩ := rd_full (xs := xs) (by omega)
  rw [b, c, ← hl, List.drop_length] at h
  exact h rfl
/-- Inside Get: the answer's box. -/
structure GtS (w wr : World) : Prop where
  ans : wr.heap[w.heap.size]? = some (.cells [Value.int .i64 0, .int .u32 0, .int .u32 0, .int .i64 0, .int .i64 0].toArray 25 (0, 0))
  gr : w.grownBy wr none
theorem GtS.grown {w wr wr' : World} (h : GtS w wr) (hg : wr.grownBy wr' none) : GtS w wr' := ⟨(hg.block _ (row_lt h.ans) (by simp)).trans h.ans, grown_trans h.gr hg⟩
theorem GtS.begin (w : World) : GtS w (w.alloc (.cells #[.int .i64 0, .int .u32 0, .int .u32 0, .int .i64 0, .int .i64 0] 25)) := ⟨heap_alloc_new w _, World.grownBy_alloc w _ none⟩
set_option maxRecDepth 20000 in
set_option maxHeartbeats 8000000 in
theorem get_any (xs : List Int) (hB : Byt xs) (ao : Option Addr) (n cap : Nat) (w : World) (hn : xs.length = n) (hat : At w ao xs) (hnil : ao = none → n = 0 ∧ cap = 0) :
    Calls Try.prog 17 #[.slice ao n cap] w fun r w' => r = .returned (.tuple #[rqV (getQ xs).1, .int .i64 (getQ xs).2]) ∧ w.grownBy w' none := by
  obtain ⟨res, hres⟩ : ∃ res, res = getQ xs := ⟨_, rfl⟩
  rw [← hres]
  have HX := hide (And.intro hB (And.intro hn (And.intro hat (And.intro hnil hres))))
  clear hB hat hres hnil
  have G0 := hide (GtS.begin w)
  by_cases h15 : n ≤ 15
  · have hle : (n : Int) ≤ 15 := by omega
    have qo := of_any ao n cap xs (w.alloc (.cells #[.int .i64 0, .int .u32 0, .int .u32 0, .int .i64 0, .int .i64 0] 25)) hn (HX.out.2.2.1.kept G0.out.gr (fun _ _ e => by cases e)) HX.out.2.2.2.1 (by omega)
    clear hn
    have qr := fun R w1 h => read_req R xs w1 h HX.out.1
    have HO : Hid (∀ q, (rdQ xs = q) → endF (rdL xs).2.1 (rdL xs).2.2 = 0 → q.Ok) := fun q h e => by rw [← h, (end_yes e).2]; exact rqOf_ok HX.out.1
    have HG : Hid (∀ q, (rdQ xs = q) → endF (rdL xs).2.1 (rdL xs).2.2 = 0 → res = if q.May then (q, 0) else (zRq, 200)) := fun q h e => by
      obtain ⟨a, b⟩ := end_yes e
      rw [HX.out.2.2.2.2, ← h, b]
      unfold getQ
      by_cases hm : (rqOf xs).May
      · rw [if_pos ⟨a, hm⟩, if_pos hm]
      · rw [if_neg (fun h => hm h.2), if_neg hm]
    have HN : Hid (endF (rdL xs).2.1 (rdL xs).2.2 ≠ 0 → res = (zRq, 200)) := fun e => by
      rw [HX.out.2.2.2.2]
      unfold getQ
      rw [if_neg (fun h => end_no e h.1)]
    obtain ⟨q, hq⟩ : ∃ q, rdQ xs = q := ⟨_, rfl⟩
    rw [hq] at qr
    have HQ := hide hq
    clear hq
    have HO := hide (HO.out q HQ.out)
    have HG := hide (HG.out q HQ.out)
    clear HQ
    generalize (rdL xs).2.1 = ys at *
    generalize (rdL xs).2.2 = er at *
    obtain ⟨k, t, i, s, u⟩ := q
    unfold rqV at qr
    dsimp only at qr
    have qe := fun R w1 h => end_any R ys er w1 h
    generalize endF ys er = ee at *
    clear h15
    go_enter Try.func17, Try.ntmps17
    go_wp2_with fail
    generalize (w.alloc (.cells #[.int .i64 0, .int .u32 0, .int .u32 0, .int .i64 0, .int .i64 0] 25)) = w1 at *
    refine qo.mono ?_
    clear qo
    rintro e w2 ⟨R, rfl, hRlo, hR, hg⟩
    have G1 := hide (G0.out.grown hg)
    have HR := hide (And.intro hRlo hR)
    have HS := hide G0.out.gr.size
    have HA := hide (row_lt G0.out.ans)
    clear hg G0 hRlo hR
    go_wp2_with fail
    refine (qr R w2 HR.out.2).mono ?_
    clear qr
    rintro e w3 ⟨rfl, hR, hg⟩
    have G2 : Hid (GtS w w3) := ⟨(hg.block _ (row_lt G1.out.ans) (by have := HR.out.1; have := HA.out; simp; omega)).trans G1.out.ans, grown_then G1.out.gr hg (fun j e => by cases e; exact Or.inl (Nat.le_trans HS.out HR.out.1))⟩
    have B4 := hide (heap_alloc_new w3 (.cells [Value.int .i64 k, .int .u32 t, .int .u32 i, .int .i64 s, .int .i64 u].toArray 25))
    have g4 := World.grownBy_alloc w3 (.cells #[.int .i64 k, .int .u32 t, .int .u32 i, .int .i64 s, .int .i64 u] 25) none
    have G4 := hide (G2.out.grown g4)
    have R4 := hide (hR.kept g4 (by simp) (NoBytes.none _))
    clear hR hg g4 G1 G2 HR HS HA
    obtain ⟨x0, x1, x2, x3, x4⟩ := box5 B4.out
    go_wp2_with fail
    generalize w3.alloc (.cells #[.int .i64 k, .int .u32 t, .int .u32 i, .int .i64 s, .int .i64 u] 25) = w4 at *
    generalize w3.heap.size = Y at *
    refine (qe R w4 R4.out).mono ?_
    clear qe
    rintro e wx ⟨rfl, hw⟩
    obtain rfl := hw.symm
    clear hw
    by_cases he : ee = 0
    · subst he
      have qc := check_any ⟨k, t, i, s, u⟩ (HO.out rfl) w4
      have HG := hide (HG.out rfl)
      unfold rqV at qc
      dsimp only at qc
      by_cases hm : (Rq.mk k t i s u).May
      · rw [show chk ⟨k, t, i, s, u⟩ = 0 from if_pos hm] at qc
        have HRR : Hid (res = (⟨k, t, i, s, u⟩, 0)) := by have := HG.out; rw [if_pos hm] at this; exact this
        clear hm
        go_wp2_with fail
        refine qc.mono ?_
        clear qc
        rintro e w5 ⟨rfl, hg⟩
        have G5 := hide (G4.out.grown hg)
        have B5 := hide ((hg.block _ (row_lt B4.out) (by simp)).trans B4.out)
        clear hg x0 x1 x2 x3 x4 G4 B4
        obtain ⟨x0, x1, x2, x3, x4⟩ := box5 B5.out
        obtain ⟨u0, u1, u2, u3, u4⟩ := box5 G5.out.ans
        have s0 := free_row G5.out.ans 0
        have s1 := free_row G5.out.ans 1
        have s2 := free_row G5.out.ans 2
        have s3 := free_row G5.out.ans 3
        have s4 := free_row G5.out.ans 4
        go_wp2
        obtain ⟨eb, eg⟩ := set5 G5.out.ans (.int .i64 k) (.int .u32 t) (.int .u32 i) (.int .i64 s) (.int .i64 u)
        clear u0 u1 u2 u3 u4 s0 s1 s2 s3 s4
        obtain ⟨e0, e1, e2, e3, e4⟩ := box5 eb
        have EG := hide (grown_then G5.out.gr eg (fun j e => by cases e; exact Or.inl (Nat.le_refl _)))
        clear eb eg
        generalize ((((w5.setCell ⟨w.heap.size, 0, none⟩ (.int .i64 k)).setCell ⟨w.heap.size, 1, none⟩ (.int .u32 t)).setCell ⟨w.heap.size, 2, none⟩ (.int .u32 i)).setCell ⟨w.heap.size, 3, none⟩ (.int .i64 s)).setCell ⟨w.heap.size, 4, none⟩ (.int .i64 u) = w9 at *
        refine bodyPost_ret (v := .tuple #[.agg #[.int .i64 k, .int .u32 t, .int .u32 i, .int .i64 s, .int .i64 u], .int .i64 0]) ?_ rfl ?_
        · rw [results_cell_tmp rfl]; go_simp
        exact ⟨by rw [HRR.out]; rfl, EG.out⟩
      · rw [show chk ⟨k, t, i, s, u⟩ = 200 from if_neg hm] at qc
        have HRR : Hid (res = (zRq, 200)) := by have := HG.out; rw [if_neg hm] at this; exact this
        clear hm
        go_wp2_with fail
        refine qc.mono ?_
        clear qc
        rintro e w5 ⟨rfl, hg⟩
        have G5 := hide (G4.out.grown hg)
        clear hg x0 x1 x2 x3 x4 G4 B4
        obtain ⟨u0, u1, u2, u3, u4⟩ := box5 G5.out.ans
        have s0 := free_row G5.out.ans 0
        have s1 := free_row G5.out.ans 1
        have s2 := free_row G5.out.ans 2
        have s3 := free_row G5.out.ans 3
        have s4 := free_row G5.out.ans 4
        go_wp2
        obtain ⟨eb, eg⟩ := set5 G5.out.ans (.int .i64 0) (.int .u32 0) (.int .u32 0) (.int .i64 0) (.int .i64 0)
        clear u0 u1 u2 u3 u4 s0 s1 s2 s3 s4
        obtain ⟨e0, e1, e2, e3, e4⟩ := box5 eb
        have EG := hide (grown_then G5.out.gr eg (fun j e => by cases e; exact Or.inl (Nat.le_refl _)))
        clear eb eg
        generalize ((((w5.setCell ⟨w.heap.size, 0, none⟩ (.int .i64 0)).setCell ⟨w.heap.size, 1, none⟩ (.int .u32 0)).setCell ⟨w.heap.size, 2, none⟩ (.int .u32 0)).setCell ⟨w.heap.size, 3, none⟩ (.int .i64 0)).setCell ⟨w.heap.size, 4, none⟩ (.int .i64 0) = w9 at *
        refine bodyPost_ret (v := .tuple #[.agg #[.int .i64 0, .int .u32 0, .int .u32 0, .int .i64 0, .int .i64 0], .int .i64 200]) ?_ rfl ?_
        · rw [results_cell_tmp rfl]; go_simp
        exact ⟨by rw [HRR.out]; rfl, EG.out⟩
    · have HRR : Hid (res = (zRq, 200)) := HN.out he
      have he1 : (ee == 0) = false := by simpa using he
      have he2 : (ee != 0) = true := by simpa using he
      have he3 : decide (ee = 0) = false := by simpa using he
      clear he
      obtain ⟨u0, u1, u2, u3, u4⟩ := box5 G4.out.ans
      have s0 := free_row G4.out.ans 0
      have s1 := free_row G4.out.ans 1
      have s2 := free_row G4.out.ans 2
      have s3 := free_row G4.out.ans 3
      have s4 := free_row G4.out.ans 4
      go_wp2
      obtain ⟨eb, eg⟩ := set5 G4.out.ans (.int .i64 0) (.int .u32 0) (.int .u32 0) (.int .i64 0) (.int .i64 0)
      clear u0 u1 u2 u3 u4 s0 s1 s2 s3 s4
      obtain ⟨e0, e1, e2, e3, e4⟩ := box5 eb
      have EG := hide (grown_then G4.out.gr eg (fun j e => by cases e; exact Or.inl (Nat.le_refl _)))
      clear eb eg
      generalize ((((w4.setCell ⟨w.heap.size, 0, none⟩ (.int .i64 0)).setCell ⟨w.heap.size, 1, none⟩ (.int .u32 0)).setCell ⟨w.heap.size, 2, none⟩ (.int .u32 0)).setCell ⟨w.heap.size, 3, none⟩ (.int .i64 0)).setCell ⟨w.heap.size, 4, none⟩ (.int .i64 0) = w9 at *
      refine bodyPost_ret (v := .tuple #[.agg #[.int .i64 0, .int .u32 0, .int .u32 0, .int .i64 0, .int .i64 0], .int .i64 200]) ?_ rfl ?_
      · rw [results_cell_tmp rfl]; go_simp
      exact ⟨by rw [HRR.out]; rfl, EG.out⟩
  · have hgt : (15 : Int) < (n : Int) := by omega
    have HRR : Hid (res = (zRq, 200)) := by
      rw [HX.out.2.2.2.2]
      unfold getQ
      rw [if_neg (fun h => by have := h.1; have := sz_le (xs.headD 0); omega)]
      exact rfl
    clear h15 hn
    go_enter Try.func17, Try.ntmps17
    go_wp2
    obtain ⟨e0, e1, e2, e3, e4⟩ := box5 G0.out.ans
    generalize (w.alloc (.cells #[.int .i64 0, .int .u32 0, .int .u32 0, .int .i64 0, .int .i64 0] 25)) = w1 at *
    refine bodyPost_ret (v := .tuple #[.agg #[.int .i64 0, .int .u32 0, .int .u32 0, .int .i64 0, .int .i64 0], .int .i64 200]) ?_ rfl ?_
    · rw [results_cell_tmp rfl]; go_simp
    exact ⟨by rw [HRR.out]; rfl, G0.out.gr⟩
end Go.Proofs.Ytkocmlfklokngaa
