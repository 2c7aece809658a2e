/- The document's requests: Get. -/
import Derived.Test.YtkocmlfklokngaaQn
import Derived.Deep.CutRange
namespace Go.Proofs.Ytkocmlfklokngaa
open Go.RowKit
attribute [local go_sem ↓] Go.wp_at_zero Go.wp_at_succ
def ifP (b : Bool) (n : Int) : Int := if b then n else 0
/-- What the document reads of bytes. -/
def rqD (xs : List Int) : Rq := ⟨prt xs 0 1, prt xs 1 4, ifP (hI (prt xs 0 1)) (prt xs 5 4), ifP (hS (prt xs 0 1)) (prt xs (5 + ifN (hI (prt xs 0 1)) 4) 2), i64of (ifP (hL (prt xs 0 1)) (prt xs (5 + ifN (hI (prt xs 0 1)) 4 + ifN (hS (prt xs 0 1)) 2) 8))⟩
theorem prt_range {xs : List Int} (a m : Nat) (M : Int) (hM : 0 < M) (h : 0 ≤ leV ((xs.drop a).take m) ∧ leV ((xs.drop a).take m) < M) : 0 ≤ prt xs a m ∧ prt xs a m < M := by
  unfold prt
  split
  · exact h
  · exact ⟨by decide, hM⟩
theorem ifP_range {b : Bool} {n M : Int} (h : 0 ≤ n ∧ n < M) : 0 ≤ ifP b n ∧ ifP b n < M := by
  cases b with
  | false => exact ⟨by unfold ifP; rw [if_neg (by decide)]; omega, by unfold ifP; rw [if_neg (by decide)]; omega⟩
  | true => exact h
theorem val1 {xs : List Int} (h : Byt xs) (n : Nat) : 0 ≤ leV ((xs.drop n).take 1) ∧ leV ((xs.drop n).take 1) < 256 := by
  obtain ⟨a, b⟩ := leV_bound _ ((h.drop n).take 1)
  refine ⟨a, Int.lt_of_lt_of_le b ?_⟩
  have : ((xs.drop n).take 1).length ≤ 1 := by rw [List.length_take]; omega
  generalize ((xs.drop n).take 1).length = m at *
  have h5 : m = 0 ∨ m = 1 := by omega
  rcases h5 with rfl | rfl <;> decide
theorem rqD_ok {xs : List Int} (h : Byt xs) : (rqD xs).Ok := by
  have a := prt_range (xs := xs) 0 1 256 (by decide) (val1 h 0)
  have b := prt_range (xs := xs) 1 4 4294967296 (by decide) (val4 h 1)
  have c := ifP_range (b := hI (prt xs 0 1)) (prt_range (xs := xs) 5 4 4294967296 (by decide) (val4 h 5))
  have d := ifP_range (b := hS (prt xs 0 1)) (prt_range (xs := xs) (5 + ifN (hI (prt xs 0 1)) 4) 2 65536 (by decide) (val2 h _))
  have e := ifP_range (b := hL (prt xs 0 1)) (prt_range (xs := xs) (5 + ifN (hI (prt xs 0 1)) 4 + ifN (hS (prt xs 0 1)) 2) 8 18446744073709551616 (by decide) (val8 h _))
  have f := i64of_range e.1 e.2
  unfold rqD
  exact ⟨by dsimp only; omega, by dsimp only; omega, b.1, b.2, c.1, c.2, by dsimp only; omega, by dsimp only; omega, f.1, f.2⟩
theorem prt_num (b : Bool) (xs : List Int) (a m : Nat) (h : a + ifN b m ≤ xs.length) : ifP b (prt xs a m) = num b xs a m := by
  cases b with
  | false => rfl
  | true => exact if_pos h
theorem rqD_of {xs : List Int} (h : xs.length = sz (xs.headD 0)) : rqD xs = rqOf xs := by
  have hz : sz (xs.headD 0) = 5 + (ifN (hI (xs.headD 0)) 4 + (ifN (hS (xs.headD 0)) 2 + ifN (hL (xs.headD 0)) 8)) := rfl
  have hk : prt xs 0 1 = xs.headD 0 := by
    unfold prt
    rw [if_pos (by omega)]
    cases xs with
    | nil => rw [List.length_nil] at h; omega
    | cons x r => simp [leV]
  have ht : prt xs 1 4 = leV ((xs.drop 1).take 4) := if_pos (by omega)
  unfold rqD rqOf
  rw [hk, ht, prt_num _ xs 5 4 (by omega), prt_num _ xs (5 + ifN (hI (xs.headD 0)) 4) 2 (by omega), prt_num _ xs (5 + ifN (hI (xs.headD 0)) 4 + ifN (hS (xs.headD 0)) 2) 8 (by omega), Nat.add_assoc]
theorem getQ_doc {xs : List Int} (h : Byt xs) : getQ xs = if (rqD xs).May ∧ (rqD xs).out = xs then (rqD xs, 0) else (zRq, 200) := by
  by_cases hc : (rqD xs).May ∧ (rqD xs).out = xs
  · rw [if_pos hc]
    have := getQ_out (rqD_ok h) hc.1
    rw [hc.2] at this
    exact this
  · rw [if_neg hc]
    rcases getQ_cases xs with ⟨_, _, c, d⟩ | ⟨a, b, _⟩
    · exfalso
      apply hc
      rw [rqD_of d]
      exact ⟨c, out_rqOf h c d⟩
    · rw [← a, ← b]
theorem str_ne {xs ys : List Int} (hx : Byt xs) (hy : Byt ys) (h : xs ≠ ys) : ((strOfNums xs).toList == (strOfNums ys).toList) = false := by
  apply beq_false_of_ne
  intro e
  apply h
  apply str_inj hx hy
  rw [Go.ByteArray.toList_eq, Go.ByteArray.toList_eq] at e
  have e2 : (strOfNums xs).data = (strOfNums ys).data := Array.toList_inj.1 e
  cases hs : strOfNums xs with
  | mk d => cases ht : strOfNums ys with
    | mk f => rw [hs, ht] at e2; exact congrArg ByteArray.mk e2
/-- Inside the document's Get: the answer's box, the request's. -/
structure RgS (w wr : World) (q : Rq) : Prop where
  ans : wr.heap[w.heap.size]? = some (.cells [Value.int .i64 0, .int .u32 0, .int .u32 0, .int .i64 0, .int .i64 0].toArray 25 (0, 0))
  rq : wr.heap[w.heap.size + 1]? = some (.cells (rqC q).toArray 25 (0, 0))
  gr : w.grownBy wr none
section
variable {w wr wr' : World} {q q' : Rq}
theorem RgS.new (h : RgS w wr q) (hg : wr.grownBy wr' none) : RgS w wr' q := ⟨(hg.block _ (row_lt h.ans) (by simp)).trans h.ans, (hg.block _ (row_lt h.rq) (by simp)).trans h.rq, grown_trans h.gr hg⟩
theorem RgS.set (h : RgS w wr q) (j : Nat) (v : Value) (hr : (rqC q).set j v = rqC q') : RgS w (wr.setCell ⟨w.heap.size + 1, j, none⟩ v) q' := by
  have hg := grown_setCell wr (w.heap.size + 1) j v
  refine ⟨(hg.block _ (row_lt h.ans) (by simp)).trans h.ans, ?_, grown_then h.gr hg (fun j e => by cases e; exact Or.inl (by omega))⟩
  have := row_setCell h.rq j v
  rw [hr] at this
  exact this
end
set_option maxRecDepth 20000 in
set_option maxHeartbeats 32000000 in
theorem rget_any (xs : List Int) (hB : Byt xs) (ao : Option Addr) (n cap : Nat) (w : World) (hn : xs.length = n) (hat : At w ao xs) (hnil : ao = none → n = 0 ∧ cap = 0) (hc : n ≤ cap) (hb : n ≤ 140737488351232) :
    Calls Try.prog 18 #[.slice ao n cap] w fun r w' => r = .returned (.tuple #[rqV (getQ xs).1, .int .i64 (getQ xs).2]) ∧ w.grownBy w' none := by
  obtain ⟨res, hres⟩ : ∃ res, res = getQ xs := ⟨_, rfl⟩
  rw [← hres]
  rw [getQ_doc hB] at hres
  have HX := hide (And.intro hB (And.intro hn (And.intro hat (And.intro hnil (And.intro hc hb)))))
  have HR := hide hres
  have HO := hide (rqD_ok hB)
  have qp := fun (a m : Nat) (A M : Int) (hA : A = (a : Int)) (hM : M = (m : Int)) (ha : a ≤ 100) (hm : m ≤ 8) w1 (hg : w.grownBy w1 none) => part_any ao n cap xs a m A M w1 hA hM hn (hat.kept hg (fun _ _ e => by cases e)) hB hc ha hm (by omega)
  have QP := hide qp
  have r0 := prt_range (xs := xs) 0 1 256 (by decide) (val1 hB 0)
  have r1 := prt_range (xs := xs) 1 4 4294967296 (by decide) (val4 hB 1)
  have W0 : IntKind.i64.wrap (prt xs 0 1) = prt xs 0 1 := by rw [IntKind.wrap_i64]; omega
  have W1 : IntKind.u32.wrap (prt xs 1 4) = prt xs 1 4 := by rw [IntKind.wrap_u32]; omega
  have hq : rqD xs = rqD xs := rfl
  conv at hq => rhs; unfold rqD
  clear hB hn hat hnil hc hres qp r0 r1 hb
  have q0 := QP.out 0 1 0 1 rfl rfl (by omega) (by omega) (w.alloc (.cells #[.int .i64 0, .int .u32 0, .int .u32 0, .int .i64 0, .int .i64 0] 25)) (World.grownBy_alloc w _ none)
  have q1 := QP.out 1 4 1 4 rfl rfl (by omega) (by omega) (w.alloc (.cells #[.int .i64 0, .int .u32 0, .int .u32 0, .int .i64 0, .int .i64 0] 25)) (World.grownBy_alloc w _ none)
  obtain ⟨k, hk⟩ : ∃ k, k = prt xs 0 1 := ⟨_, rfl⟩
  obtain ⟨t, ht⟩ : ∃ t, t = prt xs 1 4 := ⟨_, rfl⟩
  rw [← hk] at q0 W0 hq
  rw [← ht] at q1 W1 hq
  have HK := hide (And.intro hk ht)
  clear hk ht
  have qh := rhas_any k
  obtain ⟨bI, eI⟩ : ∃ b, hI k = b := ⟨_, rfl⟩
  obtain ⟨bS, eS⟩ : ∃ b, hS k = b := ⟨_, rfl⟩
  obtain ⟨bL, eL⟩ : ∃ b, hL k = b := ⟨_, rfl⟩
  rw [eI, eS, eL] at qh hq
  clear eI eS eL
  have HQ := hide hq
  clear hq
  have b0 := heap_alloc_new w (.cells [Value.int .i64 0, .int .u32 0, .int .u32 0, .int .i64 0, .int .i64 0].toArray 25)
  have g0 := World.grownBy_alloc w (.cells #[.int .i64 0, .int .u32 0, .int .u32 0, .int .i64 0, .int .i64 0] 25) none
  have B0 := hide (And.intro b0 g0)
  have hs0 : (w.alloc (.cells #[.int .i64 0, .int .u32 0, .int .u32 0, .int .i64 0, .int .i64 0] 25)).heap.size = w.heap.size + 1 := World.size_alloc ..
  have HS := hide hs0
  clear b0 g0 hs0
  go_enter Try.func18, Try.ntmps18
  go_wp2_with fail
  refine q0.mono ?_
  clear q0
  rintro e wx ⟨rfl, hw⟩
  obtain rfl := hw.symm
  clear hw
  go_wp2_with fail
  refine q1.mono ?_
  clear q1
  rintro e wx ⟨rfl, hw⟩
  obtain rfl := hw.symm
  clear hw
  have S0 : Hid (RgS w ((w.alloc (.cells #[.int .i64 0, .int .u32 0, .int .u32 0, .int .i64 0, .int .i64 0] 25)).alloc (.cells #[.int .i64 k, .int .u32 t, .int .u32 0, .int .i64 0, .int .i64 0] 25)) ⟨k, t, 0, 0, 0⟩) := by
    obtain ⟨ba, bb, bg⟩ := two_boxes w [Value.int .i64 0, .int .u32 0, .int .u32 0, .int .i64 0, .int .i64 0] (rqC ⟨k, t, 0, 0, 0⟩) 25 25
    exact ⟨ba, bb, bg⟩
  obtain ⟨c0, c1, c2, c3, c4⟩ := box5 S0.out.rq
  go_wp2_with fail
  generalize (w.alloc (.cells #[.int .i64 0, .int .u32 0, .int .u32 0, .int .i64 0, .int .i64 0] 25)).alloc (.cells #[.int .i64 k, .int .u32 t, .int .u32 0, .int .i64 0, .int .i64 0] 25) = m0 at *
  refine (qh m0).mono ?_
  clear qh c0 c1 c2 c3 c4 B0 HS
  rintro e wx ⟨rfl, hw⟩
  obtain rfl := hw.symm
  clear hw
  cases bI with
  | false =>
    cases bS with
    | false =>
      cases bL with
      | false =>
        have hq : rqD xs = ⟨k, t, 0, 0, 0⟩ := by
          refine HQ.out.trans ?_
          skip
          rfl
        rw [hq] at HR HO
        have qput := rput_req ⟨k, t, 0, 0, 0⟩ HO.out m0
        unfold rqV at qput
        dsimp only at qput
        obtain ⟨c0, c1, c2, c3, c4⟩ := box5 S0.out.rq
        have HRR := hide HR.out
        clear hq
        by_cases hm : (Rq.mk k t 0 0 0).May
        · rw [show chk ⟨k, t, 0, 0, 0⟩ = 0 from if_pos hm] at qput
          go_wp2_with fail
          refine qput.mono ?_
          clear qput c0 c1 c2 c3 c4
          rintro e wz ⟨vz, rfl, hp, hg⟩
          have SZ := hide (S0.out.new hg)
          rcases hp with ⟨_, hown⟩ | ⟨hx, _⟩
          case inr => exact absurd hm hx
          have hob := out_byt hm
          obtain ⟨az, cz, rfl, hlz, hcz, hmz, haz, hnz, _⟩ := own_at hown
          have v1 := conv_any (cap := cz) hlz hob haz (fun e => (hnz e).1)
          have v2 := conv_any (cap := cap) HX.out.2.1 HX.out.1 (HX.out.2.2.1.kept SZ.out.gr (fun _ _ e => by cases e)) (fun e => (HX.out.2.2.2.1 e).1)
          clear hown hcz hmz haz hnz hlz hg
          obtain ⟨c0, c1, c2, c3, c4⟩ := box5 SZ.out.rq
          by_cases heq : (Rq.mk k t 0 0 0).out = xs
          · have HZ : Hid (res = (⟨k, t, 0, 0, 0⟩, 0)) := by have := HRR.out; rw [if_pos ⟨hm, heq⟩] at this; exact this
            rw [heq] at v1
            clear heq hm hob
            generalize strOfNums xs = sv at *
            obtain ⟨u0, u1, u2, u3, u4⟩ := box5 SZ.out.ans
            have s0 := free_row SZ.out.ans 0
            have s1 := free_row SZ.out.ans 1
            have s2 := free_row SZ.out.ans 2
            have s3 := free_row SZ.out.ans 3
            have s4 := free_row SZ.out.ans 4
            go_wp2
            obtain ⟨eb, eg⟩ := set5 SZ.out.ans (.int .i64 k) (.int .u32 t) (.int .u32 0) (.int .i64 0) (.int .i64 0)
            clear u0 u1 u2 u3 u4 s0 s1 s2 s3 s4
            obtain ⟨e0, e1, e2, e3, e4⟩ := box5 eb
            have EG := hide (grown_then SZ.out.gr eg (fun j e => by cases e; exact Or.inl (Nat.le_refl _)))
            clear eb eg
            generalize ((((wz.setCell ⟨w.heap.size, 0, none⟩ (.int .i64 k)).setCell ⟨w.heap.size, 1, none⟩ (.int .u32 t)).setCell ⟨w.heap.size, 2, none⟩ (.int .u32 0)).setCell ⟨w.heap.size, 3, none⟩ (.int .i64 0)).setCell ⟨w.heap.size, 4, none⟩ (.int .i64 0) = w9 at *
            refine bodyPost_ret (v := .tuple #[.agg #[.int .i64 k, .int .u32 t, .int .u32 0, .int .i64 0, .int .i64 0], .int .i64 0]) ?_ rfl ?_
            · rw [results_cell_tmp rfl]; go_simp
            exact ⟨by rw [HZ.out]; rfl, EG.out⟩
          · have HZ : Hid (res = (zRq, 200)) := by have := HRR.out; rw [if_neg (fun h => heq h.2)] at this; exact this
            have hne : ((strOfNums (Rq.mk k t 0 0 0).out).toList == (strOfNums xs).toList) = false := str_ne hob HX.out.1 heq
            clear heq hm hob
            generalize strOfNums xs = sv at *
            generalize strOfNums (Rq.mk k t 0 0 0).out = su at *
            obtain ⟨u0, u1, u2, u3, u4⟩ := box5 SZ.out.ans
            have s0 := free_row SZ.out.ans 0
            have s1 := free_row SZ.out.ans 1
            have s2 := free_row SZ.out.ans 2
            have s3 := free_row SZ.out.ans 3
            have s4 := free_row SZ.out.ans 4
            go_wp2
            obtain ⟨eb, eg⟩ := set5 SZ.out.ans (.int .i64 0) (.int .u32 0) (.int .u32 0) (.int .i64 0) (.int .i64 0)
            clear u0 u1 u2 u3 u4 s0 s1 s2 s3 s4
            obtain ⟨e0, e1, e2, e3, e4⟩ := box5 eb
            have EG := hide (grown_then SZ.out.gr eg (fun j e => by cases e; exact Or.inl (Nat.le_refl _)))
            clear eb eg
            generalize ((((wz.setCell ⟨w.heap.size, 0, none⟩ (.int .i64 0)).setCell ⟨w.heap.size, 1, none⟩ (.int .u32 0)).setCell ⟨w.heap.size, 2, none⟩ (.int .u32 0)).setCell ⟨w.heap.size, 3, none⟩ (.int .i64 0)).setCell ⟨w.heap.size, 4, none⟩ (.int .i64 0) = w9 at *
            refine bodyPost_ret (v := .tuple #[.agg #[.int .i64 0, .int .u32 0, .int .u32 0, .int .i64 0, .int .i64 0], .int .i64 200]) ?_ rfl ?_
            · rw [results_cell_tmp rfl]; go_simp
            exact ⟨by rw [HZ.out]; rfl, EG.out⟩
        · rw [show chk ⟨k, t, 0, 0, 0⟩ = 200 from if_neg hm] at qput
          have HZ : Hid (res = (zRq, 200)) := by have := HRR.out; rw [if_neg (fun h => hm h.1)] at this; exact this
          go_wp2_with fail
          refine qput.mono ?_
          clear qput c0 c1 c2 c3 c4 hm
          rintro e wz ⟨vz, rfl, hp, hg⟩
          have SZ := hide (S0.out.new hg)
          clear hp hg
          obtain ⟨u0, u1, u2, u3, u4⟩ := box5 SZ.out.ans
          have s0 := free_row SZ.out.ans 0
          have s1 := free_row SZ.out.ans 1
          have s2 := free_row SZ.out.ans 2
          have s3 := free_row SZ.out.ans 3
          have s4 := free_row SZ.out.ans 4
          go_wp2
          obtain ⟨eb, eg⟩ := set5 SZ.out.ans (.int .i64 0) (.int .u32 0) (.int .u32 0) (.int .i64 0) (.int .i64 0)
          clear u0 u1 u2 u3 u4 s0 s1 s2 s3 s4
          obtain ⟨e0, e1, e2, e3, e4⟩ := box5 eb
          have EG := hide (grown_then SZ.out.gr eg (fun j e => by cases e; exact Or.inl (Nat.le_refl _)))
          clear eb eg
          generalize ((((wz.setCell ⟨w.heap.size, 0, none⟩ (.int .i64 0)).setCell ⟨w.heap.size, 1, none⟩ (.int .u32 0)).setCell ⟨w.heap.size, 2, none⟩ (.int .u32 0)).setCell ⟨w.heap.size, 3, none⟩ (.int .i64 0)).setCell ⟨w.heap.size, 4, none⟩ (.int .i64 0) = w9 at *
          refine bodyPost_ret (v := .tuple #[.agg #[.int .i64 0, .int .u32 0, .int .u32 0, .int .i64 0, .int .i64 0], .int .i64 200]) ?_ rfl ?_
          · rw [results_cell_tmp rfl]; go_simp
          exact ⟨by rw [HZ.out]; rfl, EG.out⟩
      | true =>
        have qv := QP.out 5 8 5 8 rfl rfl (by omega) (by omega) m0 S0.out.gr
        have rg := hide (prt_range (xs := xs) 5 8 18446744073709551616 (by decide) (val8 HX.out.1 5))
        obtain ⟨VL, hv⟩ : ∃ V, prt xs 5 8 = V := ⟨_, rfl⟩
        rw [hv] at qv rg
        have HvL := hide hv
        clear hv
        have WL : IntKind.i64.wrap VL = i64of VL := i64_wrap rg.out.1 rg.out.2
        clear rg
        go_wp2_with fail
        refine qv.mono ?_
        clear qv
        rintro e wx ⟨rfl, hw⟩
        obtain rfl := hw.symm
        clear hw
        have SL := hide (S0.out.set (q' := ⟨k, t, 0, 0, (i64of VL)⟩) 4 (.int .i64 (i64of VL)) rfl)
        obtain ⟨c0, c1, c2, c3, c4⟩ := box5 S0.out.rq
        have fr := free_row S0.out.rq 4
        go_upto_region 12 with fail
        clear c0 c1 c2 c3 c4 fr WL
        generalize m0.setCell ⟨w.heap.size + 1, 4, none⟩ (.int .i64 (i64of VL)) = mL at *
        have hq : rqD xs = ⟨k, t, 0, 0, (i64of VL)⟩ := by
          refine HQ.out.trans ?_
          rw [← HvL.out]
          rfl
        rw [hq] at HR HO
        have qput := rput_req ⟨k, t, 0, 0, (i64of VL)⟩ HO.out mL
        unfold rqV at qput
        dsimp only at qput
        obtain ⟨c0, c1, c2, c3, c4⟩ := box5 SL.out.rq
        have HRR := hide HR.out
        clear hq
        by_cases hm : (Rq.mk k t 0 0 (i64of VL)).May
        · rw [show chk ⟨k, t, 0, 0, (i64of VL)⟩ = 0 from if_pos hm] at qput
          go_wp2_with fail
          refine qput.mono ?_
          clear qput c0 c1 c2 c3 c4
          rintro e wz ⟨vz, rfl, hp, hg⟩
          have SZ := hide (SL.out.new hg)
          rcases hp with ⟨_, hown⟩ | ⟨hx, _⟩
          case inr => exact absurd hm hx
          have hob := out_byt hm
          obtain ⟨az, cz, rfl, hlz, hcz, hmz, haz, hnz, _⟩ := own_at hown
          have v1 := conv_any (cap := cz) hlz hob haz (fun e => (hnz e).1)
          have v2 := conv_any (cap := cap) HX.out.2.1 HX.out.1 (HX.out.2.2.1.kept SZ.out.gr (fun _ _ e => by cases e)) (fun e => (HX.out.2.2.2.1 e).1)
          clear hown hcz hmz haz hnz hlz hg
          obtain ⟨c0, c1, c2, c3, c4⟩ := box5 SZ.out.rq
          by_cases heq : (Rq.mk k t 0 0 (i64of VL)).out = xs
          · have HZ : Hid (res = (⟨k, t, 0, 0, (i64of VL)⟩, 0)) := by have := HRR.out; rw [if_pos ⟨hm, heq⟩] at this; exact this
            rw [heq] at v1
            clear heq hm hob
            generalize strOfNums xs = sv at *
            obtain ⟨u0, u1, u2, u3, u4⟩ := box5 SZ.out.ans
            have s0 := free_row SZ.out.ans 0
            have s1 := free_row SZ.out.ans 1
            have s2 := free_row SZ.out.ans 2
            have s3 := free_row SZ.out.ans 3
            have s4 := free_row SZ.out.ans 4
            go_wp2
            obtain ⟨eb, eg⟩ := set5 SZ.out.ans (.int .i64 k) (.int .u32 t) (.int .u32 0) (.int .i64 0) (.int .i64 (i64of VL))
            clear u0 u1 u2 u3 u4 s0 s1 s2 s3 s4
            obtain ⟨e0, e1, e2, e3, e4⟩ := box5 eb
            have EG := hide (grown_then SZ.out.gr eg (fun j e => by cases e; exact Or.inl (Nat.le_refl _)))
            clear eb eg
            generalize ((((wz.setCell ⟨w.heap.size, 0, none⟩ (.int .i64 k)).setCell ⟨w.heap.size, 1, none⟩ (.int .u32 t)).setCell ⟨w.heap.size, 2, none⟩ (.int .u32 0)).setCell ⟨w.heap.size, 3, none⟩ (.int .i64 0)).setCell ⟨w.heap.size, 4, none⟩ (.int .i64 (i64of VL)) = w9 at *
            refine bodyPost_ret (v := .tuple #[.agg #[.int .i64 k, .int .u32 t, .int .u32 0, .int .i64 0, .int .i64 (i64of VL)], .int .i64 0]) ?_ rfl ?_
            · rw [results_cell_tmp rfl]; go_simp
            exact ⟨by rw [HZ.out]; rfl, EG.out⟩
          · have HZ : Hid (res = (zRq, 200)) := by have := HRR.out; rw [if_neg (fun h => heq h.2)] at this; exact this
            have hne : ((strOfNums (Rq.mk k t 0 0 (i64of VL)).out).toList == (strOfNums xs).toList) = false := str_ne hob HX.out.1 heq
            clear heq hm hob
            generalize strOfNums xs = sv at *
            generalize strOfNums (Rq.mk k t 0 0 (i64of VL)).out = su at *
            obtain ⟨u0, u1, u2, u3, u4⟩ := box5 SZ.out.ans
            have s0 := free_row SZ.out.ans 0
            have s1 := free_row SZ.out.ans 1
            have s2 := free_row SZ.out.ans 2
            have s3 := free_row SZ.out.ans 3
            have s4 := free_row SZ.out.ans 4
            go_wp2
            obtain ⟨eb, eg⟩ := set5 SZ.out.ans (.int .i64 0) (.int .u32 0) (.int .u32 0) (.int .i64 0) (.int .i64 0)
            clear u0 u1 u2 u3 u4 s0 s1 s2 s3 s4
            obtain ⟨e0, e1, e2, e3, e4⟩ := box5 eb
            have EG := hide (grown_then SZ.out.gr eg (fun j e => by cases e; exact Or.inl (Nat.le_refl _)))
            clear eb eg
            generalize ((((wz.setCell ⟨w.heap.size, 0, none⟩ (.int .i64 0)).setCell ⟨w.heap.size, 1, none⟩ (.int .u32 0)).setCell ⟨w.heap.size, 2, none⟩ (.int .u32 0)).setCell ⟨w.heap.size, 3, none⟩ (.int .i64 0)).setCell ⟨w.heap.size, 4, none⟩ (.int .i64 0) = w9 at *
            refine bodyPost_ret (v := .tuple #[.agg #[.int .i64 0, .int .u32 0, .int .u32 0, .int .i64 0, .int .i64 0], .int .i64 200]) ?_ rfl ?_
            · rw [results_cell_tmp rfl]; go_simp
            exact ⟨by rw [HZ.out]; rfl, EG.out⟩
        · rw [show chk ⟨k, t, 0, 0, (i64of VL)⟩ = 200 from if_neg hm] at qput
          have HZ : Hid (res = (zRq, 200)) := by have := HRR.out; rw [if_neg (fun h => hm h.1)] at this; exact this
          go_wp2_with fail
          refine qput.mono ?_
          clear qput c0 c1 c2 c3 c4 hm
          rintro e wz ⟨vz, rfl, hp, hg⟩
          have SZ := hide (SL.out.new hg)
          clear hp hg
          obtain ⟨u0, u1, u2, u3, u4⟩ := box5 SZ.out.ans
          have s0 := free_row SZ.out.ans 0
          have s1 := free_row SZ.out.ans 1
          have s2 := free_row SZ.out.ans 2
          have s3 := free_row SZ.out.ans 3
          have s4 := free_row SZ.out.ans 4
          go_wp2
          obtain ⟨eb, eg⟩ := set5 SZ.out.ans (.int .i64 0) (.int .u32 0) (.int .u32 0) (.int .i64 0) (.int .i64 0)
          clear u0 u1 u2 u3 u4 s0 s1 s2 s3 s4
          obtain ⟨e0, e1, e2, e3, e4⟩ := box5 eb
          have EG := hide (grown_then SZ.out.gr eg (fun j e => by cases e; exact Or.inl (Nat.le_refl _)))
          clear eb eg
          generalize ((((wz.setCell ⟨w.heap.size, 0, none⟩ (.int .i64 0)).setCell ⟨w.heap.size, 1, none⟩ (.int .u32 0)).setCell ⟨w.heap.size, 2, none⟩ (.int .u32 0)).setCell ⟨w.heap.size, 3, none⟩ (.int .i64 0)).setCell ⟨w.heap.size, 4, none⟩ (.int .i64 0) = w9 at *
          refine bodyPost_ret (v := .tuple #[.agg #[.int .i64 0, .int .u32 0, .int .u32 0, .int .i64 0, .int .i64 0], .int .i64 200]) ?_ rfl ?_
          · rw [results_cell_tmp rfl]; go_simp
          exact ⟨by rw [HZ.out]; rfl, EG.out⟩
    | true =>
      have qv := QP.out 5 2 5 2 rfl rfl (by omega) (by omega) m0 S0.out.gr
      have rg := hide (prt_range (xs := xs) 5 2 65536 (by decide) (val2 HX.out.1 5))
      obtain ⟨VS, hv⟩ : ∃ V, prt xs 5 2 = V := ⟨_, rfl⟩
      rw [hv] at qv rg
      have HvS := hide hv
      clear hv
      have WS : IntKind.i64.wrap VS = VS := by rw [IntKind.wrap_i64]; have := rg.out; omega
      clear rg
      go_wp2_with fail
      refine qv.mono ?_
      clear qv
      rintro e wx ⟨rfl, hw⟩
      obtain rfl := hw.symm
      clear hw
      have SS := hide (S0.out.set (q' := ⟨k, t, 0, VS, 0⟩) 3 (.int .i64 (VS)) rfl)
      obtain ⟨c0, c1, c2, c3, c4⟩ := box5 S0.out.rq
      have fr := free_row S0.out.rq 3
      go_upto_region 10 with fail
      clear c0 c1 c2 c3 c4 fr WS
      generalize m0.setCell ⟨w.heap.size + 1, 3, none⟩ (.int .i64 (VS)) = mS at *
      cases bL with
      | false =>
        have hq : rqD xs = ⟨k, t, 0, VS, 0⟩ := by
          refine HQ.out.trans ?_
          rw [← HvS.out]
          rfl
        rw [hq] at HR HO
        have qput := rput_req ⟨k, t, 0, VS, 0⟩ HO.out mS
        unfold rqV at qput
        dsimp only at qput
        obtain ⟨c0, c1, c2, c3, c4⟩ := box5 SS.out.rq
        have HRR := hide HR.out
        clear hq
        by_cases hm : (Rq.mk k t 0 VS 0).May
        · rw [show chk ⟨k, t, 0, VS, 0⟩ = 0 from if_pos hm] at qput
          go_wp2_with fail
          refine qput.mono ?_
          clear qput c0 c1 c2 c3 c4
          rintro e wz ⟨vz, rfl, hp, hg⟩
          have SZ := hide (SS.out.new hg)
          rcases hp with ⟨_, hown⟩ | ⟨hx, _⟩
          case inr => exact absurd hm hx
          have hob := out_byt hm
          obtain ⟨az, cz, rfl, hlz, hcz, hmz, haz, hnz, _⟩ := own_at hown
          have v1 := conv_any (cap := cz) hlz hob haz (fun e => (hnz e).1)
          have v2 := conv_any (cap := cap) HX.out.2.1 HX.out.1 (HX.out.2.2.1.kept SZ.out.gr (fun _ _ e => by cases e)) (fun e => (HX.out.2.2.2.1 e).1)
          clear hown hcz hmz haz hnz hlz hg
          obtain ⟨c0, c1, c2, c3, c4⟩ := box5 SZ.out.rq
          by_cases heq : (Rq.mk k t 0 VS 0).out = xs
          · have HZ : Hid (res = (⟨k, t, 0, VS, 0⟩, 0)) := by have := HRR.out; rw [if_pos ⟨hm, heq⟩] at this; exact this
            rw [heq] at v1
            clear heq hm hob
            generalize strOfNums xs = sv at *
            obtain ⟨u0, u1, u2, u3, u4⟩ := box5 SZ.out.ans
            have s0 := free_row SZ.out.ans 0
            have s1 := free_row SZ.out.ans 1
            have s2 := free_row SZ.out.ans 2
            have s3 := free_row SZ.out.ans 3
            have s4 := free_row SZ.out.ans 4
            go_wp2
            obtain ⟨eb, eg⟩ := set5 SZ.out.ans (.int .i64 k) (.int .u32 t) (.int .u32 0) (.int .i64 VS) (.int .i64 0)
            clear u0 u1 u2 u3 u4 s0 s1 s2 s3 s4
            obtain ⟨e0, e1, e2, e3, e4⟩ := box5 eb
            have EG := hide (grown_then SZ.out.gr eg (fun j e => by cases e; exact Or.inl (Nat.le_refl _)))
            clear eb eg
            generalize ((((wz.setCell ⟨w.heap.size, 0, none⟩ (.int .i64 k)).setCell ⟨w.heap.size, 1, none⟩ (.int .u32 t)).setCell ⟨w.heap.size, 2, none⟩ (.int .u32 0)).setCell ⟨w.heap.size, 3, none⟩ (.int .i64 VS)).setCell ⟨w.heap.size, 4, none⟩ (.int .i64 0) = w9 at *
            refine bodyPost_ret (v := .tuple #[.agg #[.int .i64 k, .int .u32 t, .int .u32 0, .int .i64 VS, .int .i64 0], .int .i64 0]) ?_ rfl ?_
            · rw [results_cell_tmp rfl]; go_simp
            exact ⟨by rw [HZ.out]; rfl, EG.out⟩
          · have HZ : Hid (res = (zRq, 200)) := by have := HRR.out; rw [if_neg (fun h => heq h.2)] at this; exact this
            have hne : ((strOfNums (Rq.mk k t 0 VS 0).out).toList == (strOfNums xs).toList) = false := str_ne hob HX.out.1 heq
            clear heq hm hob
            generalize strOfNums xs = sv at *
            generalize strOfNums (Rq.mk k t 0 VS 0).out = su at *
            obtain ⟨u0, u1, u2, u3, u4⟩ := box5 SZ.out.ans
            have s0 := free_row SZ.out.ans 0
            have s1 := free_row SZ.out.ans 1
            have s2 := free_row SZ.out.ans 2
            have s3 := free_row SZ.out.ans 3
            have s4 := free_row SZ.out.ans 4
            go_wp2
            obtain ⟨eb, eg⟩ := set5 SZ.out.ans (.int .i64 0) (.int .u32 0) (.int .u32 0) (.int .i64 0) (.int .i64 0)
            clear u0 u1 u2 u3 u4 s0 s1 s2 s3 s4
            obtain ⟨e0, e1, e2, e3, e4⟩ := box5 eb
            have EG := hide (grown_then SZ.out.gr eg (fun j e => by cases e; exact Or.inl (Nat.le_refl _)))
            clear eb eg
            generalize ((((wz.setCell ⟨w.heap.size, 0, none⟩ (.int .i64 0)).setCell ⟨w.heap.size, 1, none⟩ (.int .u32 0)).setCell ⟨w.heap.size, 2, none⟩ (.int .u32 0)).setCell ⟨w.heap.size, 3, none⟩ (.int .i64 0)).setCell ⟨w.heap.size, 4, none⟩ (.int .i64 0) = w9 at *
            refine bodyPost_ret (v := .tuple #[.agg #[.int .i64 0, .int .u32 0, .int .u32 0, .int .i64 0, .int .i64 0], .int .i64 200]) ?_ rfl ?_
            · rw [results_cell_tmp rfl]; go_simp
            exact ⟨by rw [HZ.out]; rfl, EG.out⟩
        · rw [show chk ⟨k, t, 0, VS, 0⟩ = 200 from if_neg hm] at qput
          have HZ : Hid (res = (zRq, 200)) := by have := HRR.out; rw [if_neg (fun h => hm h.1)] at this; exact this
          go_wp2_with fail
          refine qput.mono ?_
          clear qput c0 c1 c2 c3 c4 hm
          rintro e wz ⟨vz, rfl, hp, hg⟩
          have SZ := hide (SS.out.new hg)
          clear hp hg
          obtain ⟨u0, u1, u2, u3, u4⟩ := box5 SZ.out.ans
          have s0 := free_row SZ.out.ans 0
          have s1 := free_row SZ.out.ans 1
          have s2 := free_row SZ.out.ans 2
          have s3 := free_row SZ.out.ans 3
          have s4 := free_row SZ.out.ans 4
          go_wp2
          obtain ⟨eb, eg⟩ := set5 SZ.out.ans (.int .i64 0) (.int .u32 0) (.int .u32 0) (.int .i64 0) (.int .i64 0)
          clear u0 u1 u2 u3 u4 s0 s1 s2 s3 s4
          obtain ⟨e0, e1, e2, e3, e4⟩ := box5 eb
          have EG := hide (grown_then SZ.out.gr eg (fun j e => by cases e; exact Or.inl (Nat.le_refl _)))
          clear eb eg
          generalize ((((wz.setCell ⟨w.heap.size, 0, none⟩ (.int .i64 0)).setCell ⟨w.heap.size, 1, none⟩ (.int .u32 0)).setCell ⟨w.heap.size, 2, none⟩ (.int .u32 0)).setCell ⟨w.heap.size, 3, none⟩ (.int .i64 0)).setCell ⟨w.heap.size, 4, none⟩ (.int .i64 0) = w9 at *
          refine bodyPost_ret (v := .tuple #[.agg #[.int .i64 0, .int .u32 0, .int .u32 0, .int .i64 0, .int .i64 0], .int .i64 200]) ?_ rfl ?_
          · rw [results_cell_tmp rfl]; go_simp
          exact ⟨by rw [HZ.out]; rfl, EG.out⟩
      | true =>
        have qv := QP.out 7 8 7 8 rfl rfl (by omega) (by omega) mS SS.out.gr
        have rg := hide (prt_range (xs := xs) 7 8 18446744073709551616 (by decide) (val8 HX.out.1 7))
        obtain ⟨VL, hv⟩ : ∃ V, prt xs 7 8 = V := ⟨_, rfl⟩
        rw [hv] at qv rg
        have HvL := hide hv
        clear hv
        have WL : IntKind.i64.wrap VL = i64of VL := i64_wrap rg.out.1 rg.out.2
        clear rg
        go_wp2_with fail
        refine qv.mono ?_
        clear qv
        rintro e wx ⟨rfl, hw⟩
        obtain rfl := hw.symm
        clear hw
        have SL := hide (SS.out.set (q' := ⟨k, t, 0, VS, (i64of VL)⟩) 4 (.int .i64 (i64of VL)) rfl)
        obtain ⟨c0, c1, c2, c3, c4⟩ := box5 SS.out.rq
        have fr := free_row SS.out.rq 4
        go_upto_region 12 with fail
        clear c0 c1 c2 c3 c4 fr WL
        generalize mS.setCell ⟨w.heap.size + 1, 4, none⟩ (.int .i64 (i64of VL)) = mL at *
        have hq : rqD xs = ⟨k, t, 0, VS, (i64of VL)⟩ := by
          refine HQ.out.trans ?_
          rw [← HvS.out]; rw [← HvL.out]
          rfl
        rw [hq] at HR HO
        have qput := rput_req ⟨k, t, 0, VS, (i64of VL)⟩ HO.out mL
        unfold rqV at qput
        dsimp only at qput
        obtain ⟨c0, c1, c2, c3, c4⟩ := box5 SL.out.rq
        have HRR := hide HR.out
        clear hq
        by_cases hm : (Rq.mk k t 0 VS (i64of VL)).May
        · rw [show chk ⟨k, t, 0, VS, (i64of VL)⟩ = 0 from if_pos hm] at qput
          go_wp2_with fail
          refine qput.mono ?_
          clear qput c0 c1 c2 c3 c4
          rintro e wz ⟨vz, rfl, hp, hg⟩
          have SZ := hide (SL.out.new hg)
          rcases hp with ⟨_, hown⟩ | ⟨hx, _⟩
          case inr => exact absurd hm hx
          have hob := out_byt hm
          obtain ⟨az, cz, rfl, hlz, hcz, hmz, haz, hnz, _⟩ := own_at hown
          have v1 := conv_any (cap := cz) hlz hob haz (fun e => (hnz e).1)
          have v2 := conv_any (cap := cap) HX.out.2.1 HX.out.1 (HX.out.2.2.1.kept SZ.out.gr (fun _ _ e => by cases e)) (fun e => (HX.out.2.2.2.1 e).1)
          clear hown hcz hmz haz hnz hlz hg
          obtain ⟨c0, c1, c2, c3, c4⟩ := box5 SZ.out.rq
          by_cases heq : (Rq.mk k t 0 VS (i64of VL)).out = xs
          · have HZ : Hid (res = (⟨k, t, 0, VS, (i64of VL)⟩, 0)) := by have := HRR.out; rw [if_pos ⟨hm, heq⟩] at this; exact this
            rw [heq] at v1
            clear heq hm hob
            generalize strOfNums xs = sv at *
            obtain ⟨u0, u1, u2, u3, u4⟩ := box5 SZ.out.ans
            have s0 := free_row SZ.out.ans 0
            have s1 := free_row SZ.out.ans 1
            have s2 := free_row SZ.out.ans 2
            have s3 := free_row SZ.out.ans 3
            have s4 := free_row SZ.out.ans 4
            go_wp2
            obtain ⟨eb, eg⟩ := set5 SZ.out.ans (.int .i64 k) (.int .u32 t) (.int .u32 0) (.int .i64 VS) (.int .i64 (i64of VL))
            clear u0 u1 u2 u3 u4 s0 s1 s2 s3 s4
            obtain ⟨e0, e1, e2, e3, e4⟩ := box5 eb
            have EG := hide (grown_then SZ.out.gr eg (fun j e => by cases e; exact Or.inl (Nat.le_refl _)))
            clear eb eg
            generalize ((((wz.setCell ⟨w.heap.size, 0, none⟩ (.int .i64 k)).setCell ⟨w.heap.size, 1, none⟩ (.int .u32 t)).setCell ⟨w.heap.size, 2, none⟩ (.int .u32 0)).setCell ⟨w.heap.size, 3, none⟩ (.int .i64 VS)).setCell ⟨w.heap.size, 4, none⟩ (.int .i64 (i64of VL)) = w9 at *
            refine bodyPost_ret (v := .tuple #[.agg #[.int .i64 k, .int .u32 t, .int .u32 0, .int .i64 VS, .int .i64 (i64of VL)], .int .i64 0]) ?_ rfl ?_
            · rw [results_cell_tmp rfl]; go_simp
            exact ⟨by rw [HZ.out]; rfl, EG.out⟩
          · have HZ : Hid (res = (zRq, 200)) := by have := HRR.out; rw [if_neg (fun h => heq h.2)] at this; exact this
            have hne : ((strOfNums (Rq.mk k t 0 VS (i64of VL)).out).toList == (strOfNums xs).toList) = false := str_ne hob HX.out.1 heq
            clear heq hm hob
            generalize strOfNums xs = sv at *
            generalize strOfNums (Rq.mk k t 0 VS (i64of VL)).out = su at *
            obtain ⟨u0, u1, u2, u3, u4⟩ := box5 SZ.out.ans
            have s0 := free_row SZ.out.ans 0
            have s1 := free_row SZ.out.ans 1
            have s2 := free_row SZ.out.ans 2
            have s3 := free_row SZ.out.ans 3
            have s4 := free_row SZ.out.ans 4
            go_wp2
            obtain ⟨eb, eg⟩ := set5 SZ.out.ans (.int .i64 0) (.int .u32 0) (.int .u32 0) (.int .i64 0) (.int .i64 0)
            clear u0 u1 u2 u3 u4 s0 s1 s2 s3 s4
            obtain ⟨e0, e1, e2, e3, e4⟩ := box5 eb
            have EG := hide (grown_then SZ.out.gr eg (fun j e => by cases e; exact Or.inl (Nat.le_refl _)))
            clear eb eg
            generalize ((((wz.setCell ⟨w.heap.size, 0, none⟩ (.int .i64 0)).setCell ⟨w.heap.size, 1, none⟩ (.int .u32 0)).setCell ⟨w.heap.size, 2, none⟩ (.int .u32 0)).setCell ⟨w.heap.size, 3, none⟩ (.int .i64 0)).setCell ⟨w.heap.size, 4, none⟩ (.int .i64 0) = w9 at *
            refine bodyPost_ret (v := .tuple #[.agg #[.int .i64 0, .int .u32 0, .int .u32 0, .int .i64 0, .int .i64 0], .int .i64 200]) ?_ rfl ?_
            · rw [results_cell_tmp rfl]; go_simp
            exact ⟨by rw [HZ.out]; rfl, EG.out⟩
        · rw [show chk ⟨k, t, 0, VS, (i64of VL)⟩ = 200 from if_neg hm] at qput
          have HZ : Hid (res = (zRq, 200)) := by have := HRR.out; rw [if_neg (fun h => hm h.1)] at this; exact this
          go_wp2_with fail
          refine qput.mono ?_
          clear qput c0 c1 c2 c3 c4 hm
          rintro e wz ⟨vz, rfl, hp, hg⟩
          have SZ := hide (SL.out.new hg)
          clear hp hg
          obtain ⟨u0, u1, u2, u3, u4⟩ := box5 SZ.out.ans
          have s0 := free_row SZ.out.ans 0
          have s1 := free_row SZ.out.ans 1
          have s2 := free_row SZ.out.ans 2
          have s3 := free_row SZ.out.ans 3
          have s4 := free_row SZ.out.ans 4
          go_wp2
          obtain ⟨eb, eg⟩ := set5 SZ.out.ans (.int .i64 0) (.int .u32 0) (.int .u32 0) (.int .i64 0) (.int .i64 0)
          clear u0 u1 u2 u3 u4 s0 s1 s2 s3 s4
          obtain ⟨e0, e1, e2, e3, e4⟩ := box5 eb
          have EG := hide (grown_then SZ.out.gr eg (fun j e => by cases e; exact Or.inl (Nat.le_refl _)))
          clear eb eg
          generalize ((((wz.setCell ⟨w.heap.size, 0, none⟩ (.int .i64 0)).setCell ⟨w.heap.size, 1, none⟩ (.int .u32 0)).setCell ⟨w.heap.size, 2, none⟩ (.int .u32 0)).setCell ⟨w.heap.size, 3, none⟩ (.int .i64 0)).setCell ⟨w.heap.size, 4, none⟩ (.int .i64 0) = w9 at *
          refine bodyPost_ret (v := .tuple #[.agg #[.int .i64 0, .int .u32 0, .int .u32 0, .int .i64 0, .int .i64 0], .int .i64 200]) ?_ rfl ?_
          · rw [results_cell_tmp rfl]; go_simp
          exact ⟨by rw [HZ.out]; rfl, EG.out⟩
  | true =>
    have qv := QP.out 5 4 5 4 rfl rfl (by omega) (by omega) m0 S0.out.gr
    have rg := hide (prt_range (xs := xs) 5 4 4294967296 (by decide) (val4 HX.out.1 5))
    obtain ⟨VI, hv⟩ : ∃ V, prt xs 5 4 = V := ⟨_, rfl⟩
    rw [hv] at qv rg
    have HvI := hide hv
    clear hv
    have WI : IntKind.u32.wrap VI = VI := by rw [IntKind.wrap_u32]; have := rg.out; omega
    clear rg
    go_wp2_with fail
    refine qv.mono ?_
    clear qv
    rintro e wx ⟨rfl, hw⟩
    obtain rfl := hw.symm
    clear hw
    have SI := hide (S0.out.set (q' := ⟨k, t, VI, 0, 0⟩) 2 (.int .u32 (VI)) rfl)
    obtain ⟨c0, c1, c2, c3, c4⟩ := box5 S0.out.rq
    have fr := free_row S0.out.rq 2
    go_upto_region 7 with fail
    clear c0 c1 c2 c3 c4 fr WI
    generalize m0.setCell ⟨w.heap.size + 1, 2, none⟩ (.int .u32 (VI)) = mI at *
    cases bS with
    | false =>
      cases bL with
      | false =>
        have hq : rqD xs = ⟨k, t, VI, 0, 0⟩ := by
          refine HQ.out.trans ?_
          rw [← HvI.out]
          rfl
        rw [hq] at HR HO
        have qput := rput_req ⟨k, t, VI, 0, 0⟩ HO.out mI
        unfold rqV at qput
        dsimp only at qput
        obtain ⟨c0, c1, c2, c3, c4⟩ := box5 SI.out.rq
        have HRR := hide HR.out
        clear hq
        by_cases hm : (Rq.mk k t VI 0 0).May
        · rw [show chk ⟨k, t, VI, 0, 0⟩ = 0 from if_pos hm] at qput
          go_wp2_with fail
          refine qput.mono ?_
          clear qput c0 c1 c2 c3 c4
          rintro e wz ⟨vz, rfl, hp, hg⟩
          have SZ := hide (SI.out.new hg)
          rcases hp with ⟨_, hown⟩ | ⟨hx, _⟩
          case inr => exact absurd hm hx
          have hob := out_byt hm
          obtain ⟨az, cz, rfl, hlz, hcz, hmz, haz, hnz, _⟩ := own_at hown
          have v1 := conv_any (cap := cz) hlz hob haz (fun e => (hnz e).1)
          have v2 := conv_any (cap := cap) HX.out.2.1 HX.out.1 (HX.out.2.2.1.kept SZ.out.gr (fun _ _ e => by cases e)) (fun e => (HX.out.2.2.2.1 e).1)
          clear hown hcz hmz haz hnz hlz hg
          obtain ⟨c0, c1, c2, c3, c4⟩ := box5 SZ.out.rq
          by_cases heq : (Rq.mk k t VI 0 0).out = xs
          · have HZ : Hid (res = (⟨k, t, VI, 0, 0⟩, 0)) := by have := HRR.out; rw [if_pos ⟨hm, heq⟩] at this; exact this
            rw [heq] at v1
            clear heq hm hob
            generalize strOfNums xs = sv at *
            obtain ⟨u0, u1, u2, u3, u4⟩ := box5 SZ.out.ans
            have s0 := free_row SZ.out.ans 0
            have s1 := free_row SZ.out.ans 1
            have s2 := free_row SZ.out.ans 2
            have s3 := free_row SZ.out.ans 3
            have s4 := free_row SZ.out.ans 4
            go_wp2
            obtain ⟨eb, eg⟩ := set5 SZ.out.ans (.int .i64 k) (.int .u32 t) (.int .u32 VI) (.int .i64 0) (.int .i64 0)
            clear u0 u1 u2 u3 u4 s0 s1 s2 s3 s4
            obtain ⟨e0, e1, e2, e3, e4⟩ := box5 eb
            have EG := hide (grown_then SZ.out.gr eg (fun j e => by cases e; exact Or.inl (Nat.le_refl _)))
            clear eb eg
            generalize ((((wz.setCell ⟨w.heap.size, 0, none⟩ (.int .i64 k)).setCell ⟨w.heap.size, 1, none⟩ (.int .u32 t)).setCell ⟨w.heap.size, 2, none⟩ (.int .u32 VI)).setCell ⟨w.heap.size, 3, none⟩ (.int .i64 0)).setCell ⟨w.heap.size, 4, none⟩ (.int .i64 0) = w9 at *
            refine bodyPost_ret (v := .tuple #[.agg #[.int .i64 k, .int .u32 t, .int .u32 VI, .int .i64 0, .int .i64 0], .int .i64 0]) ?_ rfl ?_
            · rw [results_cell_tmp rfl]; go_simp
            exact ⟨by rw [HZ.out]; rfl, EG.out⟩
          · have HZ : Hid (res = (zRq, 200)) := by have := HRR.out; rw [if_neg (fun h => heq h.2)] at this; exact this
            have hne : ((strOfNums (Rq.mk k t VI 0 0).out).toList == (strOfNums xs).toList) = false := str_ne hob HX.out.1 heq
            clear heq hm hob
            generalize strOfNums xs = sv at *
            generalize strOfNums (Rq.mk k t VI 0 0).out = su at *
            obtain ⟨u0, u1, u2, u3, u4⟩ := box5 SZ.out.ans
            have s0 := free_row SZ.out.ans 0
            have s1 := free_row SZ.out.ans 1
            have s2 := free_row SZ.out.ans 2
            have s3 := free_row SZ.out.ans 3
            have s4 := free_row SZ.out.ans 4
            go_wp2
            obtain ⟨eb, eg⟩ := set5 SZ.out.ans (.int .i64 0) (.int .u32 0) (.int .u32 0) (.int .i64 0) (.int .i64 0)
            clear u0 u1 u2 u3 u4 s0 s1 s2 s3 s4
            obtain ⟨e0, e1, e2, e3, e4⟩ := box5 eb
            have EG := hide (grown_then SZ.out.gr eg (fun j e => by cases e; exact Or.inl (Nat.le_refl _)))
            clear eb eg
            generalize ((((wz.setCell ⟨w.heap.size, 0, none⟩ (.int .i64 0)).setCell ⟨w.heap.size, 1, none⟩ (.int .u32 0)).setCell ⟨w.heap.size, 2, none⟩ (.int .u32 0)).setCell ⟨w.heap.size, 3, none⟩ (.int .i64 0)).setCell ⟨w.heap.size, 4, none⟩ (.int .i64 0) = w9 at *
            refine bodyPost_ret (v := .tuple #[.agg #[.int .i64 0, .int .u32 0, .int .u32 0, .int .i64 0, .int .i64 0], .int .i64 200]) ?_ rfl ?_
            · rw [results_cell_tmp rfl]; go_simp
            exact ⟨by rw [HZ.out]; rfl, EG.out⟩
        · rw [show chk ⟨k, t, VI, 0, 0⟩ = 200 from if_neg hm] at qput
          have HZ : Hid (res = (zRq, 200)) := by have := HRR.out; rw [if_neg (fun h => hm h.1)] at this; exact this
          go_wp2_with fail
          refine qput.mono ?_
          clear qput c0 c1 c2 c3 c4 hm
          rintro e wz ⟨vz, rfl, hp, hg⟩
          have SZ := hide (SI.out.new hg)
          clear hp hg
          obtain ⟨u0, u1, u2, u3, u4⟩ := box5 SZ.out.ans
          have s0 := free_row SZ.out.ans 0
          have s1 := free_row SZ.out.ans 1
          have s2 := free_row SZ.out.ans 2
          have s3 := free_row SZ.out.ans 3
          have s4 := free_row SZ.out.ans 4
          go_wp2
          obtain ⟨eb, eg⟩ := set5 SZ.out.ans (.int .i64 0) (.int .u32 0) (.int .u32 0) (.int .i64 0) (.int .i64 0)
          clear u0 u1 u2 u3 u4 s0 s1 s2 s3 s4
          obtain ⟨e0, e1, e2, e3, e4⟩ := box5 eb
          have EG := hide (grown_then SZ.out.gr eg (fun j e => by cases e; exact Or.inl (Nat.le_refl _)))
          clear eb eg
          generalize ((((wz.setCell ⟨w.heap.size, 0, none⟩ (.int .i64 0)).setCell ⟨w.heap.size, 1, none⟩ (.int .u32 0)).setCell ⟨w.heap.size, 2, none⟩ (.int .u32 0)).setCell ⟨w.heap.size, 3, none⟩ (.int .i64 0)).setCell ⟨w.heap.size, 4, none⟩ (.int .i64 0) = w9 at *
          refine bodyPost_ret (v := .tuple #[.agg #[.int .i64 0, .int .u32 0, .int .u32 0, .int .i64 0, .int .i64 0], .int .i64 200]) ?_ rfl ?_
          · rw [results_cell_tmp rfl]; go_simp
          exact ⟨by rw [HZ.out]; rfl, EG.out⟩
      | true =>
        have qv := QP.out 9 8 9 8 rfl rfl (by omega) (by omega) mI SI.out.gr
        have rg := hide (prt_range (xs := xs) 9 8 18446744073709551616 (by decide) (val8 HX.out.1 9))
        obtain ⟨VL, hv⟩ : ∃ V, prt xs 9 8 = V := ⟨_, rfl⟩
        rw [hv] at qv rg
        have HvL := hide hv
        clear hv
        have WL : IntKind.i64.wrap VL = i64of VL := i64_wrap rg.out.1 rg.out.2
        clear rg
        go_wp2_with fail
        refine qv.mono ?_
        clear qv
        rintro e wx ⟨rfl, hw⟩
        obtain rfl := hw.symm
        clear hw
        have SL := hide (SI.out.set (q' := ⟨k, t, VI, 0, (i64of VL)⟩) 4 (.int .i64 (i64of VL)) rfl)
        obtain ⟨c0, c1, c2, c3, c4⟩ := box5 SI.out.rq
        have fr := free_row SI.out.rq 4
        go_upto_region 12 with fail
        clear c0 c1 c2 c3 c4 fr WL
        generalize mI.setCell ⟨w.heap.size + 1, 4, none⟩ (.int .i64 (i64of VL)) = mL at *
        have hq : rqD xs = ⟨k, t, VI, 0, (i64of VL)⟩ := by
          refine HQ.out.trans ?_
          rw [← HvI.out]; rw [← HvL.out]
          rfl
        rw [hq] at HR HO
        have qput := rput_req ⟨k, t, VI, 0, (i64of VL)⟩ HO.out mL
        unfold rqV at qput
        dsimp only at qput
        obtain ⟨c0, c1, c2, c3, c4⟩ := box5 SL.out.rq
        have HRR := hide HR.out
        clear hq
        by_cases hm : (Rq.mk k t VI 0 (i64of VL)).May
        · rw [show chk ⟨k, t, VI, 0, (i64of VL)⟩ = 0 from if_pos hm] at qput
          go_wp2_with fail
          refine qput.mono ?_
          clear qput c0 c1 c2 c3 c4
          rintro e wz ⟨vz, rfl, hp, hg⟩
          have SZ := hide (SL.out.new hg)
          rcases hp with ⟨_, hown⟩ | ⟨hx, _⟩
          case inr => exact absurd hm hx
          have hob := out_byt hm
          obtain ⟨az, cz, rfl, hlz, hcz, hmz, haz, hnz, _⟩ := own_at hown
          have v1 := conv_any (cap := cz) hlz hob haz (fun e => (hnz e).1)
          have v2 := conv_any (cap := cap) HX.out.2.1 HX.out.1 (HX.out.2.2.1.kept SZ.out.gr (fun _ _ e => by cases e)) (fun e => (HX.out.2.2.2.1 e).1)
          clear hown hcz hmz haz hnz hlz hg
          obtain ⟨c0, c1, c2, c3, c4⟩ := box5 SZ.out.rq
          by_cases heq : (Rq.mk k t VI 0 (i64of VL)).out = xs
          · have HZ : Hid (res = (⟨k, t, VI, 0, (i64of VL)⟩, 0)) := by have := HRR.out; rw [if_pos ⟨hm, heq⟩] at this; exact this
            rw [heq] at v1
            clear heq hm hob
            generalize strOfNums xs = sv at *
            obtain ⟨u0, u1, u2, u3, u4⟩ := box5 SZ.out.ans
            have s0 := free_row SZ.out.ans 0
            have s1 := free_row SZ.out.ans 1
            have s2 := free_row SZ.out.ans 2
            have s3 := free_row SZ.out.ans 3
            have s4 := free_row SZ.out.ans 4
            go_wp2
            obtain ⟨eb, eg⟩ := set5 SZ.out.ans (.int .i64 k) (.int .u32 t) (.int .u32 VI) (.int .i64 0) (.int .i64 (i64of VL))
            clear u0 u1 u2 u3 u4 s0 s1 s2 s3 s4
            obtain ⟨e0, e1, e2, e3, e4⟩ := box5 eb
            have EG := hide (grown_then SZ.out.gr eg (fun j e => by cases e; exact Or.inl (Nat.le_refl _)))
            clear eb eg
            generalize ((((wz.setCell ⟨w.heap.size, 0, none⟩ (.int .i64 k)).setCell ⟨w.heap.size, 1, none⟩ (.int .u32 t)).setCell ⟨w.heap.size, 2, none⟩ (.int .u32 VI)).setCell ⟨w.heap.size, 3, none⟩ (.int .i64 0)).setCell ⟨w.heap.size, 4, none⟩ (.int .i64 (i64of VL)) = w9 at *
            refine bodyPost_ret (v := .tuple #[.agg #[.int .i64 k, .int .u32 t, .int .u32 VI, .int .i64 0, .int .i64 (i64of VL)], .int .i64 0]) ?_ rfl ?_
            · rw [results_cell_tmp rfl]; go_simp
            exact ⟨by rw [HZ.out]; rfl, EG.out⟩
          · have HZ : Hid (res = (zRq, 200)) := by have := HRR.out; rw [if_neg (fun h => heq h.2)] at this; exact this
            have hne : ((strOfNums (Rq.mk k t VI 0 (i64of VL)).out).toList == (strOfNums xs).toList) = false := str_ne hob HX.out.1 heq
            clear heq hm hob
            generalize strOfNums xs = sv at *
            generalize strOfNums (Rq.mk k t VI 0 (i64of VL)).out = su at *
            obtain ⟨u0, u1, u2, u3, u4⟩ := box5 SZ.out.ans
            have s0 := free_row SZ.out.ans 0
            have s1 := free_row SZ.out.ans 1
            have s2 := free_row SZ.out.ans 2
            have s3 := free_row SZ.out.ans 3
            have s4 := free_row SZ.out.ans 4
            go_wp2
            obtain ⟨eb, eg⟩ := set5 SZ.out.ans (.int .i64 0) (.int .u32 0) (.int .u32 0) (.int .i64 0) (.int .i64 0)
            clear u0 u1 u2 u3 u4 s0 s1 s2 s3 s4
            obtain ⟨e0, e1, e2, e3, e4⟩ := box5 eb
            have EG := hide (grown_then SZ.out.gr eg (fun j e => by cases e; exact Or.inl (Nat.le_refl _)))
            clear eb eg
            generalize ((((wz.setCell ⟨w.heap.size, 0, none⟩ (.int .i64 0)).setCell ⟨w.heap.size, 1, none⟩ (.int .u32 0)).setCell ⟨w.heap.size, 2, none⟩ (.int .u32 0)).setCell ⟨w.heap.size, 3, none⟩ (.int .i64 0)).setCell ⟨w.heap.size, 4, none⟩ (.int .i64 0) = w9 at *
            refine bodyPost_ret (v := .tuple #[.agg #[.int .i64 0, .int .u32 0, .int .u32 0, .int .i64 0, .int .i64 0], .int .i64 200]) ?_ rfl ?_
            · rw [results_cell_tmp rfl]; go_simp
            exact ⟨by rw [HZ.out]; rfl, EG.out⟩
        · rw [show chk ⟨k, t, VI, 0, (i64of VL)⟩ = 200 from if_neg hm] at qput
          have HZ : Hid (res = (zRq, 200)) := by have := HRR.out; rw [if_neg (fun h => hm h.1)] at this; exact this
          go_wp2_with fail
          refine qput.mono ?_
          clear qput c0 c1 c2 c3 c4 hm
          rintro e wz ⟨vz, rfl, hp, hg⟩
          have SZ := hide (SL.out.new hg)
          clear hp hg
          obtain ⟨u0, u1, u2, u3, u4⟩ := box5 SZ.out.ans
          have s0 := free_row SZ.out.ans 0
          have s1 := free_row SZ.out.ans 1
          have s2 := free_row SZ.out.ans 2
          have s3 := free_row SZ.out.ans 3
          have s4 := free_row SZ.out.ans 4
          go_wp2
          obtain ⟨eb, eg⟩ := set5 SZ.out.ans (.int .i64 0) (.int .u32 0) (.int .u32 0) (.int .i64 0) (.int .i64 0)
          clear u0 u1 u2 u3 u4 s0 s1 s2 s3 s4
          obtain ⟨e0, e1, e2, e3, e4⟩ := box5 eb
          have EG := hide (grown_then SZ.out.gr eg (fun j e => by cases e; exact Or.inl (Nat.le_refl _)))
          clear eb eg
          generalize ((((wz.setCell ⟨w.heap.size, 0, none⟩ (.int .i64 0)).setCell ⟨w.heap.size, 1, none⟩ (.int .u32 0)).setCell ⟨w.heap.size, 2, none⟩ (.int .u32 0)).setCell ⟨w.heap.size, 3, none⟩ (.int .i64 0)).setCell ⟨w.heap.size, 4, none⟩ (.int .i64 0) = w9 at *
          refine bodyPost_ret (v := .tuple #[.agg #[.int .i64 0, .int .u32 0, .int .u32 0, .int .i64 0, .int .i64 0], .int .i64 200]) ?_ rfl ?_
          · rw [results_cell_tmp rfl]; go_simp
          exact ⟨by rw [HZ.out]; rfl, EG.out⟩
    | true =>
      have qv := QP.out 9 2 9 2 rfl rfl (by omega) (by omega) mI SI.out.gr
      have rg := hide (prt_range (xs := xs) 9 2 65536 (by decide) (val2 HX.out.1 9))
      obtain ⟨VS, hv⟩ : ∃ V, prt xs 9 2 = V := ⟨_, rfl⟩
      rw [hv] at qv rg
      have HvS := hide hv
      clear hv
      have WS : IntKind.i64.wrap VS = VS := by rw [IntKind.wrap_i64]; have := rg.out; omega
      clear rg
      go_wp2_with fail
      refine qv.mono ?_
      clear qv
      rintro e wx ⟨rfl, hw⟩
      obtain rfl := hw.symm
      clear hw
      have SS := hide (SI.out.set (q' := ⟨k, t, VI, VS, 0⟩) 3 (.int .i64 (VS)) rfl)
      obtain ⟨c0, c1, c2, c3, c4⟩ := box5 SI.out.rq
      have fr := free_row SI.out.rq 3
      go_upto_region 10 with fail
      clear c0 c1 c2 c3 c4 fr WS
      generalize mI.setCell ⟨w.heap.size + 1, 3, none⟩ (.int .i64 (VS)) = mS at *
      cases bL with
      | false =>
        have hq : rqD xs = ⟨k, t, VI, VS, 0⟩ := by
          refine HQ.out.trans ?_
          rw [← HvI.out]; rw [← HvS.out]
          rfl
        rw [hq] at HR HO
        have qput := rput_req ⟨k, t, VI, VS, 0⟩ HO.out mS
        unfold rqV at qput
        dsimp only at qput
        obtain ⟨c0, c1, c2, c3, c4⟩ := box5 SS.out.rq
        have HRR := hide HR.out
        clear hq
        by_cases hm : (Rq.mk k t VI VS 0).May
        · rw [show chk ⟨k, t, VI, VS, 0⟩ = 0 from if_pos hm] at qput
          go_wp2_with fail
          refine qput.mono ?_
          clear qput c0 c1 c2 c3 c4
          rintro e wz ⟨vz, rfl, hp, hg⟩
          have SZ := hide (SS.out.new hg)
          rcases hp with ⟨_, hown⟩ | ⟨hx, _⟩
          case inr => exact absurd hm hx
          have hob := out_byt hm
          obtain ⟨az, cz, rfl, hlz, hcz, hmz, haz, hnz, _⟩ := own_at hown
          have v1 := conv_any (cap := cz) hlz hob haz (fun e => (hnz e).1)
          have v2 := conv_any (cap := cap) HX.out.2.1 HX.out.1 (HX.out.2.2.1.kept SZ.out.gr (fun _ _ e => by cases e)) (fun e => (HX.out.2.2.2.1 e).1)
          clear hown hcz hmz haz hnz hlz hg
          obtain ⟨c0, c1, c2, c3, c4⟩ := box5 SZ.out.rq
          by_cases heq : (Rq.mk k t VI VS 0).out = xs
          · have HZ : Hid (res = (⟨k, t, VI, VS, 0⟩, 0)) := by have := HRR.out; rw [if_pos ⟨hm, heq⟩] at this; exact this
            rw [heq] at v1
            clear heq hm hob
            generalize strOfNums xs = sv at *
            obtain ⟨u0, u1, u2, u3, u4⟩ := box5 SZ.out.ans
            have s0 := free_row SZ.out.ans 0
            have s1 := free_row SZ.out.ans 1
            have s2 := free_row SZ.out.ans 2
            have s3 := free_row SZ.out.ans 3
            have s4 := free_row SZ.out.ans 4
            go_wp2
            obtain ⟨eb, eg⟩ := set5 SZ.out.ans (.int .i64 k) (.int .u32 t) (.int .u32 VI) (.int .i64 VS) (.int .i64 0)
            clear u0 u1 u2 u3 u4 s0 s1 s2 s3 s4
            obtain ⟨e0, e1, e2, e3, e4⟩ := box5 eb
            have EG := hide (grown_then SZ.out.gr eg (fun j e => by cases e; exact Or.inl (Nat.le_refl _)))
            clear eb eg
            generalize ((((wz.setCell ⟨w.heap.size, 0, none⟩ (.int .i64 k)).setCell ⟨w.heap.size, 1, none⟩ (.int .u32 t)).setCell ⟨w.heap.size, 2, none⟩ (.int .u32 VI)).setCell ⟨w.heap.size, 3, none⟩ (.int .i64 VS)).setCell ⟨w.heap.size, 4, none⟩ (.int .i64 0) = w9 at *
            refine bodyPost_ret (v := .tuple #[.agg #[.int .i64 k, .int .u32 t, .int .u32 VI, .int .i64 VS, .int .i64 0], .int .i64 0]) ?_ rfl ?_
            · rw [results_cell_tmp rfl]; go_simp
            exact ⟨by rw [HZ.out]; rfl, EG.out⟩
          · have HZ : Hid (res = (zRq, 200)) := by have := HRR.out; rw [if_neg (fun h => heq h.2)] at this; exact this
            have hne : ((strOfNums (Rq.mk k t VI VS 0).out).toList == (strOfNums xs).toList) = false := str_ne hob HX.out.1 heq
            clear heq hm hob
            generalize strOfNums xs = sv at *
            generalize strOfNums (Rq.mk k t VI VS 0).out = su at *
            obtain ⟨u0, u1, u2, u3, u4⟩ := box5 SZ.out.ans
            have s0 := free_row SZ.out.ans 0
            have s1 := free_row SZ.out.ans 1
            have s2 := free_row SZ.out.ans 2
            have s3 := free_row SZ.out.ans 3
            have s4 := free_row SZ.out.ans 4
            go_wp2
            obtain ⟨eb, eg⟩ := set5 SZ.out.ans (.int .i64 0) (.int .u32 0) (.int .u32 0) (.int .i64 0) (.int .i64 0)
            clear u0 u1 u2 u3 u4 s0 s1 s2 s3 s4
            obtain ⟨e0, e1, e2, e3, e4⟩ := box5 eb
            have EG := hide (grown_then SZ.out.gr eg (fun j e => by cases e; exact Or.inl (Nat.le_refl _)))
            clear eb eg
            generalize ((((wz.setCell ⟨w.heap.size, 0, none⟩ (.int .i64 0)).setCell ⟨w.heap.size, 1, none⟩ (.int .u32 0)).setCell ⟨w.heap.size, 2, none⟩ (.int .u32 0)).setCell ⟨w.heap.size, 3, none⟩ (.int .i64 0)).setCell ⟨w.heap.size, 4, none⟩ (.int .i64 0) = w9 at *
            refine bodyPost_ret (v := .tuple #[.agg #[.int .i64 0, .int .u32 0, .int .u32 0, .int .i64 0, .int .i64 0], .int .i64 200]) ?_ rfl ?_
            · rw [results_cell_tmp rfl]; go_simp
            exact ⟨by rw [HZ.out]; rfl, EG.out⟩
        · rw [show chk ⟨k, t, VI, VS, 0⟩ = 200 from if_neg hm] at qput
          have HZ : Hid (res = (zRq, 200)) := by have := HRR.out; rw [if_neg (fun h => hm h.1)] at this; exact this
          go_wp2_with fail
          refine qput.mono ?_
          clear qput c0 c1 c2 c3 c4 hm
          rintro e wz ⟨vz, rfl, hp, hg⟩
          have SZ := hide (SS.out.new hg)
          clear hp hg
          obtain ⟨u0, u1, u2, u3, u4⟩ := box5 SZ.out.ans
          have s0 := free_row SZ.out.ans 0
          have s1 := free_row SZ.out.ans 1
          have s2 := free_row SZ.out.ans 2
          have s3 := free_row SZ.out.ans 3
          have s4 := free_row SZ.out.ans 4
          go_wp2
          obtain ⟨eb, eg⟩ := set5 SZ.out.ans (.int .i64 0) (.int .u32 0) (.int .u32 0) (.int .i64 0) (.int .i64 0)
          clear u0 u1 u2 u3 u4 s0 s1 s2 s3 s4
          obtain ⟨e0, e1, e2, e3, e4⟩ := box5 eb
          have EG := hide (grown_then SZ.out.gr eg (fun j e => by cases e; exact Or.inl (Nat.le_refl _)))
          clear eb eg
          generalize ((((wz.setCell ⟨w.heap.size, 0, none⟩ (.int .i64 0)).setCell ⟨w.heap.size, 1, none⟩ (.int .u32 0)).setCell ⟨w.heap.size, 2, none⟩ (.int .u32 0)).setCell ⟨w.heap.size, 3, none⟩ (.int .i64 0)).setCell ⟨w.heap.size, 4, none⟩ (.int .i64 0) = w9 at *
          refine bodyPost_ret (v := .tuple #[.agg #[.int .i64 0, .int .u32 0, .int .u32 0, .int .i64 0, .int .i64 0], .int .i64 200]) ?_ rfl ?_
          · rw [results_cell_tmp rfl]; go_simp
          exact ⟨by rw [HZ.out]; rfl, EG.out⟩
      | true =>
        have qv := QP.out 11 8 11 8 rfl rfl (by omega) (by omega) mS SS.out.gr
        have rg := hide (prt_range (xs := xs) 11 8 18446744073709551616 (by decide) (val8 HX.out.1 11))
        obtain ⟨VL, hv⟩ : ∃ V, prt xs 11 8 = V := ⟨_, rfl⟩
        rw [hv] at qv rg
        have HvL := hide hv
        clear hv
        have WL : IntKind.i64.wrap VL = i64of VL := i64_wrap rg.out.1 rg.out.2
        clear rg
        go_wp2_with fail
        refine qv.mono ?_
        clear qv
        rintro e wx ⟨rfl, hw⟩
        obtain rfl := hw.symm
        clear hw
        have SL := hide (SS.out.set (q' := ⟨k, t, VI, VS, (i64of VL)⟩) 4 (.int .i64 (i64of VL)) rfl)
        obtain ⟨c0, c1, c2, c3, c4⟩ := box5 SS.out.rq
        have fr := free_row SS.out.rq 4
        go_upto_region 12 with fail
        clear c0 c1 c2 c3 c4 fr WL
        generalize mS.setCell ⟨w.heap.size + 1, 4, none⟩ (.int .i64 (i64of VL)) = mL at *
        have hq : rqD xs = ⟨k, t, VI, VS, (i64of VL)⟩ := by
          refine HQ.out.trans ?_
          rw [← HvI.out]; rw [← HvS.out]; rw [← HvL.out]
          rfl
        rw [hq] at HR HO
        have qput := rput_req ⟨k, t, VI, VS, (i64of VL)⟩ HO.out mL
        unfold rqV at qput
        dsimp only at qput
        obtain ⟨c0, c1, c2, c3, c4⟩ := box5 SL.out.rq
        have HRR := hide HR.out
        clear hq
        by_cases hm : (Rq.mk k t VI VS (i64of VL)).May
        · rw [show chk ⟨k, t, VI, VS, (i64of VL)⟩ = 0 from if_pos hm] at qput
          go_wp2_with fail
          refine qput.mono ?_
          clear qput c0 c1 c2 c3 c4
          rintro e wz ⟨vz, rfl, hp, hg⟩
          have SZ := hide (SL.out.new hg)
          rcases hp with ⟨_, hown⟩ | ⟨hx, _⟩
          case inr => exact absurd hm hx
          have hob := out_byt hm
          obtain ⟨az, cz, rfl, hlz, hcz, hmz, haz, hnz, _⟩ := own_at hown
          have v1 := conv_any (cap := cz) hlz hob haz (fun e => (hnz e).1)
          have v2 := conv_any (cap := cap) HX.out.2.1 HX.out.1 (HX.out.2.2.1.kept SZ.out.gr (fun _ _ e => by cases e)) (fun e => (HX.out.2.2.2.1 e).1)
          clear hown hcz hmz haz hnz hlz hg
          obtain ⟨c0, c1, c2, c3, c4⟩ := box5 SZ.out.rq
          by_cases heq : (Rq.mk k t VI VS (i64of VL)).out = xs
          · have HZ : Hid (res = (⟨k, t, VI, VS, (i64of VL)⟩, 0)) := by have := HRR.out; rw [if_pos ⟨hm, heq⟩] at this; exact this
            rw [heq] at v1
            clear heq hm hob
            generalize strOfNums xs = sv at *
            obtain ⟨u0, u1, u2, u3, u4⟩ := box5 SZ.out.ans
            have s0 := free_row SZ.out.ans 0
            have s1 := free_row SZ.out.ans 1
            have s2 := free_row SZ.out.ans 2
            have s3 := free_row SZ.out.ans 3
            have s4 := free_row SZ.out.ans 4
            go_wp2
            obtain ⟨eb, eg⟩ := set5 SZ.out.ans (.int .i64 k) (.int .u32 t) (.int .u32 VI) (.int .i64 VS) (.int .i64 (i64of VL))
            clear u0 u1 u2 u3 u4 s0 s1 s2 s3 s4
            obtain ⟨e0, e1, e2, e3, e4⟩ := box5 eb
            have EG := hide (grown_then SZ.out.gr eg (fun j e => by cases e; exact Or.inl (Nat.le_refl _)))
            clear eb eg
            generalize ((((wz.setCell ⟨w.heap.size, 0, none⟩ (.int .i64 k)).setCell ⟨w.heap.size, 1, none⟩ (.int .u32 t)).setCell ⟨w.heap.size, 2, none⟩ (.int .u32 VI)).setCell ⟨w.heap.size, 3, none⟩ (.int .i64 VS)).setCell ⟨w.heap.size, 4, none⟩ (.int .i64 (i64of VL)) = w9 at *
            refine bodyPost_ret (v := .tuple #[.agg #[.int .i64 k, .int .u32 t, .int .u32 VI, .int .i64 VS, .int .i64 (i64of VL)], .int .i64 0]) ?_ rfl ?_
            · rw [results_cell_tmp rfl]; go_simp
            exact ⟨by rw [HZ.out]; rfl, EG.out⟩
          · have HZ : Hid (res = (zRq, 200)) := by have := HRR.out; rw [if_neg (fun h => heq h.2)] at this; exact this
            have hne : ((strOfNums (Rq.mk k t VI VS (i64of VL)).out).toList == (strOfNums xs).toList) = false := str_ne hob HX.out.1 heq
            clear heq hm hob
            generalize strOfNums xs = sv at *
            generalize strOfNums (Rq.mk k t VI VS (i64of VL)).out = su at *
            obtain ⟨u0, u1, u2, u3, u4⟩ := box5 SZ.out.ans
            have s0 := free_row SZ.out.ans 0
            have s1 := free_row SZ.out.ans 1
            have s2 := free_row SZ.out.ans 2
            have s3 := free_row SZ.out.ans 3
            have s4 := free_row SZ.out.ans 4
            go_wp2
            obtain ⟨eb, eg⟩ := set5 SZ.out.ans (.int .i64 0) (.int .u32 0) (.int .u32 0) (.int .i64 0) (.int .i64 0)
            clear u0 u1 u2 u3 u4 s0 s1 s2 s3 s4
            obtain ⟨e0, e1, e2, e3, e4⟩ := box5 eb
            have EG := hide (grown_then SZ.out.gr eg (fun j e => by cases e; exact Or.inl (Nat.le_refl _)))
            clear eb eg
            generalize ((((wz.setCell ⟨w.heap.size, 0, none⟩ (.int .i64 0)).setCell ⟨w.heap.size, 1, none⟩ (.int .u32 0)).setCell ⟨w.heap.size, 2, none⟩ (.int .u32 0)).setCell ⟨w.heap.size, 3, none⟩ (.int .i64 0)).setCell ⟨w.heap.size, 4, none⟩ (.int .i64 0) = w9 at *
            refine bodyPost_ret (v := .tuple #[.agg #[.int .i64 0, .int .u32 0, .int .u32 0, .int .i64 0, .int .i64 0], .int .i64 200]) ?_ rfl ?_
            · rw [results_cell_tmp rfl]; go_simp
            exact ⟨by rw [HZ.out]; rfl, EG.out⟩
        · rw [show chk ⟨k, t, VI, VS, (i64of VL)⟩ = 200 from if_neg hm] at qput
          have HZ : Hid (res = (zRq, 200)) := by have := HRR.out; rw [if_neg (fun h => hm h.1)] at this; exact this
          go_wp2_with fail
          refine qput.mono ?_
          clear qput c0 c1 c2 c3 c4 hm
          rintro e wz ⟨vz, rfl, hp, hg⟩
          have SZ := hide (SL.out.new hg)
          clear hp hg
          obtain ⟨u0, u1, u2, u3, u4⟩ := box5 SZ.out.ans
          have s0 := free_row SZ.out.ans 0
          have s1 := free_row SZ.out.ans 1
          have s2 := free_row SZ.out.ans 2
          have s3 := free_row SZ.out.ans 3
          have s4 := free_row SZ.out.ans 4
          go_wp2
          obtain ⟨eb, eg⟩ := set5 SZ.out.ans (.int .i64 0) (.int .u32 0) (.int .u32 0) (.int .i64 0) (.int .i64 0)
          clear u0 u1 u2 u3 u4 s0 s1 s2 s3 s4
          obtain ⟨e0, e1, e2, e3, e4⟩ := box5 eb
          have EG := hide (grown_then SZ.out.gr eg (fun j e => by cases e; exact Or.inl (Nat.le_refl _)))
          clear eb eg
          generalize ((((wz.setCell ⟨w.heap.size, 0, none⟩ (.int .i64 0)).setCell ⟨w.heap.size, 1, none⟩ (.int .u32 0)).setCell ⟨w.heap.size, 2, none⟩ (.int .u32 0)).setCell ⟨w.heap.size, 3, none⟩ (.int .i64 0)).setCell ⟨w.heap.size, 4, none⟩ (.int .i64 0) = w9 at *
          refine bodyPost_ret (v := .tuple #[.agg #[.int .i64 0, .int .u32 0, .int .u32 0, .int .i64 0, .int .i64 0], .int .i64 200]) ?_ rfl ?_
          · rw [results_cell_tmp rfl]; go_simp
          exact ⟨by rw [HZ.out]; rfl, EG.out⟩
end Go.Proofs.Ytkocmlfklokngaa
