/- The document's replies: Get. -/
import Derived.Test.YtoflohjlmagjpaaDoorYo
import Derived.Test.YtoflohjlmagjpaaDoorYr
import Derived.Deep.CutRange
import Derived.Deep.DeepCutAuto
import Derived.Deep.RegionHeld3
namespace Go.Proofs.YtoflohjlmagjpaaDoor
open Go.RowKit
attribute [local go_sem ↓] Go.wp_at_zero Go.wp_at_succ
/-- Inside the document's Get: the answer's box, the reply's. -/
structure RgS (w wr : World) (q : Ry) : Prop where
  ans : wr.heap[w.heap.size]? = some (.cells [Value.int .u32 0, .int .i64 0, .int .i64 0, .int .u32 0, .int .i64 0, .int .i64 0, .int .i64 0].toArray 26 (0, 0))
  rq : wr.heap[w.heap.size + 1]? = some (.cells (ryC q).toArray 26 (0, 0))
  gr : w.grownBy wr none
theorem RgS.new {w wr wr' : World} {q : Ry} (h : RgS w wr q) (hg : wr.grownBy wr' none) : RgS w wr' q := ⟨box_new h.ans hg, box_new h.rq hg, grown_trans h.gr hg⟩
theorem RgS.set {w wr : World} {q q' : Ry} (h : RgS w wr q) (j : Nat) (v : Value) (hr : (ryC q).set j v = ryC q') : RgS w (wr.setCell ⟨w.heap.size + 1, j, none⟩ v) q' := by
  have hg := grown_setCell wr (w.heap.size + 1) j v
  refine ⟨(hg.block _ (row_lt h.ans) (by simp)).trans h.ans, ?_, grown_then h.gr hg (fun j e => by cases e; exact Or.inl (by omega))⟩
  have := row_setCell h.rq j v
  rw [hr] at this
  exact this
/-- Which fields are there, in a box. -/
def Fbx (w : World) (F : Nat) (bI bS bU bC : Bool) : Prop := w.heap[F]? = some (.cells [.bool bI, .bool bS, .bool bU, .bool bC].toArray 54 (0, 0))
set_option maxRecDepth 20000 in
set_option maxHeartbeats 32000000 in
theorem rget_any (xs : List Int) (hB : Byt xs) (ao : Option Addr) (n cap : Nat) (w : World) (hn : xs.length = n) (hat : At w ao xs) (hb : n ≤ 140737488351232) :
    Calls Tryd.prog 17 #[.slice ao n cap] w fun r w' => r = .returned (.tuple #[ryV (getY xs).1, .int .i64 (getY xs).2]) ∧ w.grownBy w' none := by
  obtain ⟨res, hres⟩ : ∃ res, res = getY xs := ⟨_, rfl⟩
  rw [← hres]
  have HR : Hid (res = if (ryOf xs).May ∧ (ryOf xs).out = xs then (ryOf xs, 0) else (zRy, 210)) := hres.trans (getY_doc hB)
  have HO := hide (ryOf_ok hB)
  have HX := hide (And.intro hB (And.intro hn (And.intro hat hb)))
  have QN := hide (fun (a m : Nat) (A M : Int) (hA : A = (a : Int)) (hM : M = (m : Int)) (ha : a ≤ 100) (hm : m ≤ 8) (h1 : 1 ≤ m) (wz : World) (G : w.grownBy wz none) => rnumber_any ao n cap xs a m A M wz hA hM hn (hat.kept G (fun _ _ e => by cases e)) hB ha hm h1 (by omega))
  have hb' := hB
  clear hres hn hat hb hB
  have q0 := fun wz G => QN.out 0 4 0 4 rfl rfl (by omega) (by omega) (by omega) wz G
  have q1 := fun wz G => QN.out 4 1 4 1 rfl rfl (by omega) (by omega) (by omega) wz G
  have q2 := fun wz G => QN.out 5 2 5 2 rfl rfl (by omega) (by omega) (by omega) wz G
  rw [List.drop_zero] at q0
  rw [show leV ((xs.drop 4).take 1) = kO xs from rfl] at q1
  rw [show leV ((xs.drop 5).take 2) = eO xs from rfl] at q2
  have r0 := val4 hb' 0
  rw [List.drop_zero] at r0
  have r1 : 0 ≤ kO xs ∧ kO xs < 256 := val1 hb' 4
  have r2 : 0 ≤ eO xs ∧ eO xs < 65536 := val2 hb' 5
  have HY : Hid (ryOf xs = ⟨leV (xs.take 4), kO xs, eO xs, num (hI (kO xs) (eO xs)) xs 7 4, num (hS (kO xs) (eO xs)) xs (aS (kO xs) (eO xs)) 2, i64of (num (hU (kO xs) (eO xs)) xs (aU (kO xs) (eO xs)) 8), num (hC (kO xs) (eO xs)) xs (aC (kO xs) (eO xs)) 2⟩) := rfl
  obtain ⟨t, ht⟩ : ∃ t, leV (xs.take 4) = t := ⟨_, rfl⟩
  obtain ⟨k, hk⟩ : ∃ t, kO xs = t := ⟨_, rfl⟩
  obtain ⟨e, he⟩ : ∃ t, eO xs = t := ⟨_, rfl⟩
  rw [ht] at q0 r0
  rw [hk] at q1 r1
  rw [he] at q2 r2
  have HY : Hid (ryOf xs = ⟨t, k, e, num (hI k e) xs 7 4, num (hS k e) xs (aS k e) 2, i64of (num (hU k e) xs (aU k e) 8), num (hC k e) xs (aC k e) 2⟩) := by rw [HY.out, ht, hk, he]; exact rfl
  have W0 : IntKind.u32.wrap t = t := by rw [IntKind.wrap_u32]; omega
  have W1 : IntKind.i64.wrap k = k := by rw [IntKind.wrap_i64]; omega
  have W2 : IntKind.i64.wrap e = e := by rw [IntKind.wrap_i64]; omega
  clear r0 r1 r2 ht hk he
  generalize ryOf xs = Y at *
  have qf := rfields_any k
  have G0 := hide (World.grownBy_alloc w (.cells #[.int .u32 0, .int .i64 0, .int .i64 0, .int .u32 0, .int .i64 0, .int .i64 0, .int .i64 0] 26) none)
  have q0 := q0 _ G0.out
  have q1 := q1 _ G0.out
  have q2 := q2 _ G0.out
  have S0 : Hid (RgS w ((w.alloc (.cells #[.int .u32 0, .int .i64 0, .int .i64 0, .int .u32 0, .int .i64 0, .int .i64 0, .int .i64 0] 26)).alloc (.cells #[.int .u32 t, .int .i64 k, .int .i64 e, .int .u32 0, .int .i64 0, .int .i64 0, .int .i64 0] 26)) ⟨t, k, e, 0, 0, 0, 0⟩) := by
    obtain ⟨ba, bb, bg⟩ := two_boxes w [Value.int .u32 0, .int .i64 0, .int .i64 0, .int .u32 0, .int .i64 0, .int .i64 0, .int .i64 0] (ryC ⟨t, k, e, 0, 0, 0, 0⟩) 26 26
    exact ⟨ba, bb, bg⟩
  have hs0 : (w.alloc (.cells #[.int .u32 0, .int .i64 0, .int .i64 0, .int .u32 0, .int .i64 0, .int .i64 0, .int .i64 0] 26)).heap.size = w.heap.size + 1 := World.size_alloc ..
  have HS := hide hs0
  clear hs0
  go_enter Tryd.func17, Tryd.ntmps17
  go_wp2_with fail
  refine q0.mono ?_
  clear q0
  rintro r wx ⟨rfl, hw⟩
  obtain rfl := hw.symm
  clear hw
  go_wp2_with fail
  refine q1.mono ?_
  clear q1
  rintro r wx ⟨rfl, hw⟩
  obtain rfl := hw.symm
  clear hw
  go_wp2_with fail
  refine q2.mono ?_
  clear q2
  rintro r wx ⟨rfl, hw⟩
  obtain rfl := hw.symm
  clear hw
  obtain ⟨c0, c1, c2, c3, c4, c5, c6⟩ := box7 S0.out.rq
  have qf := qf ((w.alloc (.cells #[.int .u32 0, .int .i64 0, .int .i64 0, .int .u32 0, .int .i64 0, .int .i64 0, .int .i64 0] 26)).alloc (.cells #[.int .u32 t, .int .i64 k, .int .i64 e, .int .u32 0, .int .i64 0, .int .i64 0, .int .i64 0] 26))
  go_wp2_with fail
  generalize (w.alloc (.cells #[.int .u32 0, .int .i64 0, .int .i64 0, .int .u32 0, .int .i64 0, .int .i64 0, .int .i64 0] 26)).alloc (.cells #[.int .u32 t, .int .i64 k, .int .i64 e, .int .u32 0, .int .i64 0, .int .i64 0, .int .i64 0] 26) = m0 at *
  refine qf.mono ?_
  clear qf c0 c1 c2 c3 c4 c5 c6 HS G0
  have HF := hide (fv_cases k 0)
  have HE0 := hide (fun (h : e = 0) => show hI k e = hI k 0 ∧ hS k e = hS k 0 ∧ hU k e = hU k 0 ∧ hC k e = hC k 0 by subst h; exact ⟨rfl, rfl, rfl, rfl⟩)
  generalize hI k 0 = bI at *
  generalize hS k 0 = bS at *
  generalize hU k 0 = bU at *
  generalize hC k 0 = bC at *
  rintro r m1 ⟨rfl, hg⟩
  have g2 := World.grownBy_alloc m1 (.cells #[.bool bI, .bool bS, .bool bU, .bool bC] 54) none
  have S1 := hide ((S0.out.new hg).new g2)
  have F1 : Hid (Fbx (m1.alloc (.cells #[.bool bI, .bool bS, .bool bU, .bool bC] 54)) m1.heap.size bI bS bU bC ∧ w.heap.size + 1 < m1.heap.size) := ⟨heap_alloc_new m1 _, Nat.lt_of_lt_of_le (row_lt S0.out.rq) hg.size⟩
  clear hg g2 S0
  generalize decide (1 ≤ k ∧ k ≤ 10) = okk at *
  obtain ⟨c0, c1, c2, c3, c4, c5, c6⟩ := box7 S1.out.rq
  dsimp only at c0 c1 c2 c3 c4 c5 c6
  go_upto_region 4 with fail
  generalize m1.alloc (.cells #[.bool bI, .bool bS, .bool bU, .bool bC] 54) = m2 at *
  generalize m1.heap.size = F at *
  by_cases e0 : e = 0
  case neg =>
    have u4 : (e == 0) = false := by simpa using e0
    have u5 : (e != 0) = true := by simpa using e0
    have u6 : decide (e = 0) = false := by simpa using e0
    have hY : Y = ⟨t, k, e, 0, 0, 0, 0⟩ := by
      rw [HY.out]
      obtain ⟨a, b, c, d⟩ := has_e (k := k) e0
      rw [a, b, c, d]
      rfl
    clear HY e0 HE0
    subst hY
    have qput := rput_ry ⟨t, k, e, 0, 0, 0, 0⟩ HO.out m2
    unfold ryV at qput
    dsimp only at qput
    obtain ⟨c0, c1, c2, c3, c4, c5, c6⟩ := box7 S1.out.rq
    dsimp only at c0 c1 c2 c3 c4 c5 c6
    by_cases hm : (Ry.mk t k e 0 0 0 0).May
    case neg =>
      rw [show chk ⟨t, k, e, 0, 0, 0, 0⟩ = 210 from if_neg hm] at qput
      have HZ : Hid (res = (zRy, 210)) := by have := HR.out; rw [if_neg (fun h => hm h.1)] at this; exact this
      go_wp2_with fail
      refine qput.mono ?_
      clear qput c0 c1 c2 c3 c4 c5 c6 hm
      rintro r wz ⟨vz, rfl, hp, hg⟩
      have SZ := hide (S1.out.new hg)
      clear hp hg
      obtain ⟨u0, u1, u2, u3, u4, u5, u6⟩ := box7 SZ.out.ans
      have s0 := free_row SZ.out.ans 0
      have s1 := free_row SZ.out.ans 1
      have s2 := free_row SZ.out.ans 2
      have s3 := free_row SZ.out.ans 3
      have s4 := free_row SZ.out.ans 4
      have s5 := free_row SZ.out.ans 5
      have s6 := free_row SZ.out.ans 6
      go_wp2
      obtain ⟨eb, eg⟩ := set7 SZ.out.ans (.int .u32 0) (.int .i64 0) (.int .i64 0) (.int .u32 0) (.int .i64 0) (.int .i64 0) (.int .i64 0)
      clear u0 u1 u2 u3 u4 u5 u6 s0 s1 s2 s3 s4 s5 s6
      obtain ⟨e0, e1, e2, e3, e4, e5, e6⟩ := box7 eb
      have EG := hide (grown_then SZ.out.gr eg (fun j e => by cases e; exact Or.inl (Nat.le_refl _)))
      clear eb eg
      generalize (((((((wz.setCell ⟨w.heap.size, 0, none⟩ (.int .u32 0)).setCell ⟨w.heap.size, 1, none⟩ (.int .i64 0)).setCell ⟨w.heap.size, 2, none⟩ (.int .i64 0)).setCell ⟨w.heap.size, 3, none⟩ (.int .u32 0)).setCell ⟨w.heap.size, 4, none⟩ (.int .i64 0)).setCell ⟨w.heap.size, 5, none⟩ (.int .i64 0)).setCell ⟨w.heap.size, 6, none⟩ (.int .i64 0)) = w9 at *
      refine bodyPost_ret (v := .tuple #[.agg #[.int .u32 0, .int .i64 0, .int .i64 0, .int .u32 0, .int .i64 0, .int .i64 0, .int .i64 0], .int .i64 210]) ?_ rfl ?_
      · rw [results_cell_tmp rfl]; go_simp
      exact ⟨by rw [HZ.out]; rfl, EG.out⟩
    rw [show chk ⟨t, k, e, 0, 0, 0, 0⟩ = 0 from if_pos hm] at qput
    go_wp2_with fail
    refine qput.mono ?_
    clear qput c0 c1 c2 c3 c4 c5 c6
    rintro r wz ⟨vz, rfl, hp, hg⟩
    have SZ := hide (S1.out.new hg)
    rcases hp with ⟨_, hown⟩ | ⟨hx, _⟩
    case inr => exact absurd hm hx
    have HOL := out_length (Ry.mk t k e 0 0 0 0)
    dsimp only at HOL hown
    obtain ⟨L, hL⟩ : ∃ L, L = sz k e := ⟨_, rfl⟩
    rw [← hL] at HOL hown
    have hLs : L ≤ 19 := by rw [hL]; exact (sz_le _ _).2
    obtain ⟨az, cz, rfl, hlz, hcz, hmz, haz, hnz, _⟩ := own_at hown
    have HA := hide (And.intro haz hlz)
    have HXZ := hide (HX.out.2.2.1.kept SZ.out.gr (fun _ _ e => by cases e))
    clear hown hcz hmz haz hnz hlz hg hL HOL
    by_cases hln : L = n
    case neg =>
      have HZ : Hid (res = (zRy, 210)) := by
        have := HR.out
        rw [if_neg (fun h => hln (by rw [← HA.out.2, h.2, HX.out.2.1]))] at this
        exact this
      have d1 : ((L : Int) == (n : Int)) = false := by simp; omega
      have d2 : ((L : Int) != (n : Int)) = true := by simp; omega
      have d3 : decide ((L : Int) = (n : Int)) = false := decide_eq_false (by omega)
      have d4 : decide (L = n) = false := decide_eq_false hln
      have d5 : (L == n) = false := by simpa using hln
      have d6 : (L != n) = true := by simpa using hln
      clear hln hm
      obtain ⟨u0, u1, u2, u3, u4, u5, u6⟩ := box7 SZ.out.ans
      have s0 := free_row SZ.out.ans 0
      have s1 := free_row SZ.out.ans 1
      have s2 := free_row SZ.out.ans 2
      have s3 := free_row SZ.out.ans 3
      have s4 := free_row SZ.out.ans 4
      have s5 := free_row SZ.out.ans 5
      have s6 := free_row SZ.out.ans 6
      go_wp2
      obtain ⟨eb, eg⟩ := set7 SZ.out.ans (.int .u32 0) (.int .i64 0) (.int .i64 0) (.int .u32 0) (.int .i64 0) (.int .i64 0) (.int .i64 0)
      clear u0 u1 u2 u3 u4 u5 u6 s0 s1 s2 s3 s4 s5 s6
      obtain ⟨e0, e1, e2, e3, e4, e5, e6⟩ := box7 eb
      have EG := hide (grown_then SZ.out.gr eg (fun j e => by cases e; exact Or.inl (Nat.le_refl _)))
      clear eb eg
      generalize (((((((wz.setCell ⟨w.heap.size, 0, none⟩ (.int .u32 0)).setCell ⟨w.heap.size, 1, none⟩ (.int .i64 0)).setCell ⟨w.heap.size, 2, none⟩ (.int .i64 0)).setCell ⟨w.heap.size, 3, none⟩ (.int .u32 0)).setCell ⟨w.heap.size, 4, none⟩ (.int .i64 0)).setCell ⟨w.heap.size, 5, none⟩ (.int .i64 0)).setCell ⟨w.heap.size, 6, none⟩ (.int .i64 0)) = w9 at *
      refine bodyPost_ret (v := .tuple #[.agg #[.int .u32 0, .int .i64 0, .int .i64 0, .int .u32 0, .int .i64 0, .int .i64 0, .int .i64 0], .int .i64 210]) ?_ rfl ?_
      · rw [results_cell_tmp rfl]; go_simp
      exact ⟨by rw [HZ.out]; rfl, EG.out⟩
    subst hln
    by_cases heq : (Ry.mk t k e 0 0 0 0).out = xs
    case neg =>
      have HZ : Hid (res = (zRy, 210)) := by have := HR.out; rw [if_neg (fun h => heq h.2)] at this; exact this
      obtain ⟨J, hJ, hJ1, hJ2⟩ := first_unlike _ xs (by rw [HA.out.2, HX.out.2.1]) heq
      have HJ := hide (And.intro hJ (And.intro @hJ1 hJ2))
      clear hJ hJ1 hJ2 heq hm
      go_wp2
      go_loopg [10] L (fun k i wr => ∃ j : Nat, k + j = L ∧ j ≤ J ∧ i = .int .i64 j ∧ wz.grownBy wr none)
      case atStart => exact ⟨0, by omega, by omega, rfl, grown_refl _ _⟩
      case round =>
        obtain ⟨j, hkj, hjJ, rfl, hg⟩ := hrel
        have hj : j < (Ry.mk t k e 0 0 0 0).out.length := by have := HJ.out.1; omega
        have hjL : j < L := by rw [← HA.out.2]; exact hj
        have hj2 : j < xs.length := by rw [HX.out.2.1]; exact hjL
        obtain ⟨a, rfl, hca⟩ := HA.out.1 j ((Ry.mk t k e 0 0 0 0).out.getD j 0) (by simp [hj, List.getD_eq_getElem?_getD])
        obtain ⟨b, rfl, hcb⟩ := HXZ.out j (xs.getD j 0) (by simp [hj2, List.getD_eq_getElem?_getD])
        have hca' := hg.cell hca (by simp)
        have hcb' := hg.cell hcb (by simp)
        have h1 : (0 : Int) ≤ (j : Int) := by omega
        have h2 : (j : Int) < (L : Int) := by omega
        by_cases hjl : j < J
        · have he := HJ.out.2.1 j hjl
          rw [← he] at hcb'
          have hkk : 0 < gk := by omega
          generalize (Ry.mk t k e 0 0 0 0).out.getD j 0 = x at *
          clear hca hcb hj hj2 he
          go_wp2
          go_region_held3 (fun w' => w'.cell? (a.add j) = some (.int .u8 x) ∧ w'.cell? (b.add j) = some (.int .u8 x)) (go_keep) (fail)
          go_wp2
          go_roundg (gk - 1)
          case measure => omega
          case rel => exact ⟨j + 1, by omega, by omega, by go_num, grown_trans hg (grown_drew _ _)⟩
        · obtain rfl : j = J := by omega
          have hJ2 := HJ.out.2.2
          generalize (Ry.mk t k e 0 0 0 0).out.getD j 0 = x at *
          generalize xs.getD j 0 = y at *
          have e1 : (x == y) = false := by simpa using hJ2
          have e2 : (x != y) = true := by simpa using hJ2
          have e3 : decide (x = y) = false := by simpa using hJ2
          have SD := hide (SZ.out.new (grown_trans hg (grown_drew wr none)))
          clear hca hcb hj hj2 hJ2 hg hjJ hjl hkj
          go_wp2
          go_region_held3 (fun w' => w'.cell? (a.add j) = some (.int .u8 x) ∧ w'.cell? (b.add j) = some (.int .u8 y)) (go_keep) (fail)
          generalize wr.drew = wd at *
          obtain ⟨u0, u1, u2, u3, u4, u5, u6⟩ := box7 SD.out.ans
          have s0 := free_row SD.out.ans 0
          have s1 := free_row SD.out.ans 1
          have s2 := free_row SD.out.ans 2
          have s3 := free_row SD.out.ans 3
          have s4 := free_row SD.out.ans 4
          have s5 := free_row SD.out.ans 5
          have s6 := free_row SD.out.ans 6
          go_wp2
          obtain ⟨eb, eg⟩ := set7 SD.out.ans (.int .u32 0) (.int .i64 0) (.int .i64 0) (.int .u32 0) (.int .i64 0) (.int .i64 0) (.int .i64 0)
          clear u0 u1 u2 u3 u4 u5 u6 s0 s1 s2 s3 s4 s5 s6
          obtain ⟨e0, e1, e2, e3, e4, e5, e6⟩ := box7 eb
          have EG := hide (grown_then SD.out.gr eg (fun j e => by cases e; exact Or.inl (Nat.le_refl _)))
          clear eb eg
          generalize (((((((wd.setCell ⟨w.heap.size, 0, none⟩ (.int .u32 0)).setCell ⟨w.heap.size, 1, none⟩ (.int .i64 0)).setCell ⟨w.heap.size, 2, none⟩ (.int .i64 0)).setCell ⟨w.heap.size, 3, none⟩ (.int .u32 0)).setCell ⟨w.heap.size, 4, none⟩ (.int .i64 0)).setCell ⟨w.heap.size, 5, none⟩ (.int .i64 0)).setCell ⟨w.heap.size, 6, none⟩ (.int .i64 0)) = w9 at *
          refine bodyPost_ret (v := .tuple #[.agg #[.int .u32 0, .int .i64 0, .int .i64 0, .int .u32 0, .int .i64 0, .int .i64 0, .int .i64 0], .int .i64 210]) ?_ rfl ?_
          · rw [results_cell_tmp rfl]; go_simp
          exact ⟨by rw [HZ.out]; rfl, EG.out⟩
    have HZ : Hid (res = (⟨t, k, e, 0, 0, 0, 0⟩, 0)) := by have := HR.out; rw [if_pos ⟨hm, heq⟩] at this; exact this
    rw [heq] at HA
    clear heq hm
    go_wp2
    go_loopg [10] L (fun k i wr => ∃ j : Nat, k + j = L ∧ i = .int .i64 j ∧ wz.grownBy wr none)
    case atStart => exact ⟨0, by omega, rfl, grown_refl _ _⟩
    case round =>
      obtain ⟨j, hkj, rfl, hg⟩ := hrel
      by_cases hk : 0 < gk
      · have hj2 : j < xs.length := by rw [HX.out.2.1]; omega
        obtain ⟨a, rfl, hca⟩ := HA.out.1 j (xs.getD j 0) (by simp [hj2, List.getD_eq_getElem?_getD])
        obtain ⟨b, rfl, hcb⟩ := HXZ.out j (xs.getD j 0) (by simp [hj2, List.getD_eq_getElem?_getD])
        have hca' := hg.cell hca (by simp)
        have hcb' := hg.cell hcb (by simp)
        have h1 : (0 : Int) ≤ (j : Int) := by omega
        have h2 : (j : Int) < (L : Int) := by omega
        generalize xs.getD j 0 = x at *
        clear hca hcb hj2
        go_wp2
        go_region_held3 (fun w' => w'.cell? (a.add j) = some (.int .u8 x) ∧ w'.cell? (b.add j) = some (.int .u8 x)) (go_keep) (fail)
        go_wp2
        go_roundg (gk - 1)
        case measure => omega
        case rel => exact ⟨j + 1, by omega, by go_num, grown_trans hg (grown_drew _ _)⟩
      · obtain rfl : j = L := by omega
        have SD := hide (SZ.out.new hg)
        clear hg hkj hk
        obtain ⟨c0, c1, c2, c3, c4, c5, c6⟩ := box7 SD.out.rq
        dsimp only at c0 c1 c2 c3 c4 c5 c6
        obtain ⟨u0, u1, u2, u3, u4, u5, u6⟩ := box7 SD.out.ans
        have s0 := free_row SD.out.ans 0
        have s1 := free_row SD.out.ans 1
        have s2 := free_row SD.out.ans 2
        have s3 := free_row SD.out.ans 3
        have s4 := free_row SD.out.ans 4
        have s5 := free_row SD.out.ans 5
        have s6 := free_row SD.out.ans 6
        go_wp2
        obtain ⟨eb, eg⟩ := set7 SD.out.ans (.int .u32 t) (.int .i64 k) (.int .i64 e) (.int .u32 0) (.int .i64 0) (.int .i64 0) (.int .i64 0)
        clear u0 u1 u2 u3 u4 u5 u6 s0 s1 s2 s3 s4 s5 s6
        obtain ⟨e0, e1, e2, e3, e4, e5, e6⟩ := box7 eb
        have EG := hide (grown_then SD.out.gr eg (fun j e => by cases e; exact Or.inl (Nat.le_refl _)))
        clear eb eg
        generalize (((((((wr.setCell ⟨w.heap.size, 0, none⟩ (.int .u32 t)).setCell ⟨w.heap.size, 1, none⟩ (.int .i64 k)).setCell ⟨w.heap.size, 2, none⟩ (.int .i64 e)).setCell ⟨w.heap.size, 3, none⟩ (.int .u32 0)).setCell ⟨w.heap.size, 4, none⟩ (.int .i64 0)).setCell ⟨w.heap.size, 5, none⟩ (.int .i64 0)).setCell ⟨w.heap.size, 6, none⟩ (.int .i64 0)) = w9 at *
        refine bodyPost_ret (v := .tuple #[.agg #[.int .u32 t, .int .i64 k, .int .i64 e, .int .u32 0, .int .i64 0, .int .i64 0, .int .i64 0], .int .i64 0]) ?_ rfl ?_
        · rw [results_cell_tmp rfl]; go_simp
        exact ⟨by rw [HZ.out]; rfl, EG.out⟩
  have HE1 := hide (HE0.out e0)
  subst e0
  rcases HF.out with ⟨_, rfl, rfl, rfl, rfl⟩ | ⟨_, rfl, rfl, rfl, rfl⟩ | ⟨_, rfl, rfl, rfl, rfl⟩ | ⟨_, rfl, rfl, rfl, rfl⟩ | ⟨_, rfl, rfl, rfl, rfl⟩ | ⟨_, rfl, rfl, rfl, rfl⟩
  · have hY : Y = ⟨t, k, 0, num false xs 7 4, num false xs 7 2, i64of (num false xs 7 8), num false xs 7 2⟩ := by
      rw [HY.out]
      unfold aC aU aS
      obtain ⟨a, b, c, d⟩ := HE1.out
      rw [a, b, c, d]
      rfl
    clear HY HE0 HE1
    have hY : Y = ⟨t, k, 0, 0, 0, 0, 0⟩ := hY
    obtain ⟨f0, f1, f2, f3⟩ : _ ∧ _ ∧ _ ∧ _ := ⟨cell_row F1.out.1 0, cell_row F1.out.1 1, cell_row F1.out.1 2, cell_row F1.out.1 3⟩
    subst hY
    have qput := rput_ry ⟨t, k, 0, 0, 0, 0, 0⟩ HO.out m2
    unfold ryV at qput
    dsimp only at qput
    obtain ⟨c0, c1, c2, c3, c4, c5, c6⟩ := box7 S1.out.rq
    dsimp only at c0 c1 c2 c3 c4 c5 c6
    by_cases hm : (Ry.mk t k 0 0 0 0 0).May
    case neg =>
      rw [show chk ⟨t, k, 0, 0, 0, 0, 0⟩ = 210 from if_neg hm] at qput
      have HZ : Hid (res = (zRy, 210)) := by have := HR.out; rw [if_neg (fun h => hm h.1)] at this; exact this
      go_wp2_with fail
      refine qput.mono ?_
      clear qput c0 c1 c2 c3 c4 c5 c6 hm
      rintro r wz ⟨vz, rfl, hp, hg⟩
      have SZ := hide (S1.out.new hg)
      clear hp hg
      obtain ⟨u0, u1, u2, u3, u4, u5, u6⟩ := box7 SZ.out.ans
      have s0 := free_row SZ.out.ans 0
      have s1 := free_row SZ.out.ans 1
      have s2 := free_row SZ.out.ans 2
      have s3 := free_row SZ.out.ans 3
      have s4 := free_row SZ.out.ans 4
      have s5 := free_row SZ.out.ans 5
      have s6 := free_row SZ.out.ans 6
      go_wp2
      obtain ⟨eb, eg⟩ := set7 SZ.out.ans (.int .u32 0) (.int .i64 0) (.int .i64 0) (.int .u32 0) (.int .i64 0) (.int .i64 0) (.int .i64 0)
      clear u0 u1 u2 u3 u4 u5 u6 s0 s1 s2 s3 s4 s5 s6
      obtain ⟨e0, e1, e2, e3, e4, e5, e6⟩ := box7 eb
      have EG := hide (grown_then SZ.out.gr eg (fun j e => by cases e; exact Or.inl (Nat.le_refl _)))
      clear eb eg
      generalize (((((((wz.setCell ⟨w.heap.size, 0, none⟩ (.int .u32 0)).setCell ⟨w.heap.size, 1, none⟩ (.int .i64 0)).setCell ⟨w.heap.size, 2, none⟩ (.int .i64 0)).setCell ⟨w.heap.size, 3, none⟩ (.int .u32 0)).setCell ⟨w.heap.size, 4, none⟩ (.int .i64 0)).setCell ⟨w.heap.size, 5, none⟩ (.int .i64 0)).setCell ⟨w.heap.size, 6, none⟩ (.int .i64 0)) = w9 at *
      refine bodyPost_ret (v := .tuple #[.agg #[.int .u32 0, .int .i64 0, .int .i64 0, .int .u32 0, .int .i64 0, .int .i64 0, .int .i64 0], .int .i64 210]) ?_ rfl ?_
      · rw [results_cell_tmp rfl]; go_simp
      exact ⟨by rw [HZ.out]; rfl, EG.out⟩
    rw [show chk ⟨t, k, 0, 0, 0, 0, 0⟩ = 0 from if_pos hm] at qput
    go_wp2_with fail
    refine qput.mono ?_
    clear qput c0 c1 c2 c3 c4 c5 c6
    rintro r wz ⟨vz, rfl, hp, hg⟩
    have SZ := hide (S1.out.new hg)
    rcases hp with ⟨_, hown⟩ | ⟨hx, _⟩
    case inr => exact absurd hm hx
    have HOL := out_length (Ry.mk t k 0 0 0 0 0)
    dsimp only at HOL hown
    obtain ⟨L, hL⟩ : ∃ L, L = sz k 0 := ⟨_, rfl⟩
    rw [← hL] at HOL hown
    have hLs : L ≤ 19 := by rw [hL]; exact (sz_le _ _).2
    obtain ⟨az, cz, rfl, hlz, hcz, hmz, haz, hnz, _⟩ := own_at hown
    have HA := hide (And.intro haz hlz)
    have HXZ := hide (HX.out.2.2.1.kept SZ.out.gr (fun _ _ e => by cases e))
    clear hown hcz hmz haz hnz hlz hg hL HOL
    by_cases hln : L = n
    case neg =>
      have HZ : Hid (res = (zRy, 210)) := by
        have := HR.out
        rw [if_neg (fun h => hln (by rw [← HA.out.2, h.2, HX.out.2.1]))] at this
        exact this
      have d1 : ((L : Int) == (n : Int)) = false := by simp; omega
      have d2 : ((L : Int) != (n : Int)) = true := by simp; omega
      have d3 : decide ((L : Int) = (n : Int)) = false := decide_eq_false (by omega)
      have d4 : decide (L = n) = false := decide_eq_false hln
      have d5 : (L == n) = false := by simpa using hln
      have d6 : (L != n) = true := by simpa using hln
      clear hln hm
      obtain ⟨u0, u1, u2, u3, u4, u5, u6⟩ := box7 SZ.out.ans
      have s0 := free_row SZ.out.ans 0
      have s1 := free_row SZ.out.ans 1
      have s2 := free_row SZ.out.ans 2
      have s3 := free_row SZ.out.ans 3
      have s4 := free_row SZ.out.ans 4
      have s5 := free_row SZ.out.ans 5
      have s6 := free_row SZ.out.ans 6
      go_wp2
      obtain ⟨eb, eg⟩ := set7 SZ.out.ans (.int .u32 0) (.int .i64 0) (.int .i64 0) (.int .u32 0) (.int .i64 0) (.int .i64 0) (.int .i64 0)
      clear u0 u1 u2 u3 u4 u5 u6 s0 s1 s2 s3 s4 s5 s6
      obtain ⟨e0, e1, e2, e3, e4, e5, e6⟩ := box7 eb
      have EG := hide (grown_then SZ.out.gr eg (fun j e => by cases e; exact Or.inl (Nat.le_refl _)))
      clear eb eg
      generalize (((((((wz.setCell ⟨w.heap.size, 0, none⟩ (.int .u32 0)).setCell ⟨w.heap.size, 1, none⟩ (.int .i64 0)).setCell ⟨w.heap.size, 2, none⟩ (.int .i64 0)).setCell ⟨w.heap.size, 3, none⟩ (.int .u32 0)).setCell ⟨w.heap.size, 4, none⟩ (.int .i64 0)).setCell ⟨w.heap.size, 5, none⟩ (.int .i64 0)).setCell ⟨w.heap.size, 6, none⟩ (.int .i64 0)) = w9 at *
      refine bodyPost_ret (v := .tuple #[.agg #[.int .u32 0, .int .i64 0, .int .i64 0, .int .u32 0, .int .i64 0, .int .i64 0, .int .i64 0], .int .i64 210]) ?_ rfl ?_
      · rw [results_cell_tmp rfl]; go_simp
      exact ⟨by rw [HZ.out]; rfl, EG.out⟩
    subst hln
    by_cases heq : (Ry.mk t k 0 0 0 0 0).out = xs
    case neg =>
      have HZ : Hid (res = (zRy, 210)) := by have := HR.out; rw [if_neg (fun h => heq h.2)] at this; exact this
      obtain ⟨J, hJ, hJ1, hJ2⟩ := first_unlike _ xs (by rw [HA.out.2, HX.out.2.1]) heq
      have HJ := hide (And.intro hJ (And.intro @hJ1 hJ2))
      clear hJ hJ1 hJ2 heq hm
      go_wp2
      go_loopg [10] L (fun k i wr => ∃ j : Nat, k + j = L ∧ j ≤ J ∧ i = .int .i64 j ∧ wz.grownBy wr none)
      case atStart => exact ⟨0, by omega, by omega, rfl, grown_refl _ _⟩
      case round =>
        obtain ⟨j, hkj, hjJ, rfl, hg⟩ := hrel
        have hj : j < (Ry.mk t k 0 0 0 0 0).out.length := by have := HJ.out.1; omega
        have hjL : j < L := by rw [← HA.out.2]; exact hj
        have hj2 : j < xs.length := by rw [HX.out.2.1]; exact hjL
        obtain ⟨a, rfl, hca⟩ := HA.out.1 j ((Ry.mk t k 0 0 0 0 0).out.getD j 0) (by simp [hj, List.getD_eq_getElem?_getD])
        obtain ⟨b, rfl, hcb⟩ := HXZ.out j (xs.getD j 0) (by simp [hj2, List.getD_eq_getElem?_getD])
        have hca' := hg.cell hca (by simp)
        have hcb' := hg.cell hcb (by simp)
        have h1 : (0 : Int) ≤ (j : Int) := by omega
        have h2 : (j : Int) < (L : Int) := by omega
        by_cases hjl : j < J
        · have he := HJ.out.2.1 j hjl
          rw [← he] at hcb'
          have hkk : 0 < gk := by omega
          generalize (Ry.mk t k 0 0 0 0 0).out.getD j 0 = x at *
          clear hca hcb hj hj2 he
          go_wp2
          go_region_held3 (fun w' => w'.cell? (a.add j) = some (.int .u8 x) ∧ w'.cell? (b.add j) = some (.int .u8 x)) (go_keep) (fail)
          go_wp2
          go_roundg (gk - 1)
          case measure => omega
          case rel => exact ⟨j + 1, by omega, by omega, by go_num, grown_trans hg (grown_drew _ _)⟩
        · obtain rfl : j = J := by omega
          have hJ2 := HJ.out.2.2
          generalize (Ry.mk t k 0 0 0 0 0).out.getD j 0 = x at *
          generalize xs.getD j 0 = y at *
          have e1 : (x == y) = false := by simpa using hJ2
          have e2 : (x != y) = true := by simpa using hJ2
          have e3 : decide (x = y) = false := by simpa using hJ2
          have SD := hide (SZ.out.new (grown_trans hg (grown_drew wr none)))
          clear hca hcb hj hj2 hJ2 hg hjJ hjl hkj
          go_wp2
          go_region_held3 (fun w' => w'.cell? (a.add j) = some (.int .u8 x) ∧ w'.cell? (b.add j) = some (.int .u8 y)) (go_keep) (fail)
          generalize wr.drew = wd at *
          obtain ⟨u0, u1, u2, u3, u4, u5, u6⟩ := box7 SD.out.ans
          have s0 := free_row SD.out.ans 0
          have s1 := free_row SD.out.ans 1
          have s2 := free_row SD.out.ans 2
          have s3 := free_row SD.out.ans 3
          have s4 := free_row SD.out.ans 4
          have s5 := free_row SD.out.ans 5
          have s6 := free_row SD.out.ans 6
          go_wp2
          obtain ⟨eb, eg⟩ := set7 SD.out.ans (.int .u32 0) (.int .i64 0) (.int .i64 0) (.int .u32 0) (.int .i64 0) (.int .i64 0) (.int .i64 0)
          clear u0 u1 u2 u3 u4 u5 u6 s0 s1 s2 s3 s4 s5 s6
          obtain ⟨e0, e1, e2, e3, e4, e5, e6⟩ := box7 eb
          have EG := hide (grown_then SD.out.gr eg (fun j e => by cases e; exact Or.inl (Nat.le_refl _)))
          clear eb eg
          generalize (((((((wd.setCell ⟨w.heap.size, 0, none⟩ (.int .u32 0)).setCell ⟨w.heap.size, 1, none⟩ (.int .i64 0)).setCell ⟨w.heap.size, 2, none⟩ (.int .i64 0)).setCell ⟨w.heap.size, 3, none⟩ (.int .u32 0)).setCell ⟨w.heap.size, 4, none⟩ (.int .i64 0)).setCell ⟨w.heap.size, 5, none⟩ (.int .i64 0)).setCell ⟨w.heap.size, 6, none⟩ (.int .i64 0)) = w9 at *
          refine bodyPost_ret (v := .tuple #[.agg #[.int .u32 0, .int .i64 0, .int .i64 0, .int .u32 0, .int .i64 0, .int .i64 0, .int .i64 0], .int .i64 210]) ?_ rfl ?_
          · rw [results_cell_tmp rfl]; go_simp
          exact ⟨by rw [HZ.out]; rfl, EG.out⟩
    have HZ : Hid (res = (⟨t, k, 0, 0, 0, 0, 0⟩, 0)) := by have := HR.out; rw [if_pos ⟨hm, heq⟩] at this; exact this
    rw [heq] at HA
    clear heq hm
    go_wp2
    go_loopg [10] L (fun k i wr => ∃ j : Nat, k + j = L ∧ i = .int .i64 j ∧ wz.grownBy wr none)
    case atStart => exact ⟨0, by omega, rfl, grown_refl _ _⟩
    case round =>
      obtain ⟨j, hkj, rfl, hg⟩ := hrel
      by_cases hk : 0 < gk
      · have hj2 : j < xs.length := by rw [HX.out.2.1]; omega
        obtain ⟨a, rfl, hca⟩ := HA.out.1 j (xs.getD j 0) (by simp [hj2, List.getD_eq_getElem?_getD])
        obtain ⟨b, rfl, hcb⟩ := HXZ.out j (xs.getD j 0) (by simp [hj2, List.getD_eq_getElem?_getD])
        have hca' := hg.cell hca (by simp)
        have hcb' := hg.cell hcb (by simp)
        have h1 : (0 : Int) ≤ (j : Int) := by omega
        have h2 : (j : Int) < (L : Int) := by omega
        generalize xs.getD j 0 = x at *
        clear hca hcb hj2
        go_wp2
        go_region_held3 (fun w' => w'.cell? (a.add j) = some (.int .u8 x) ∧ w'.cell? (b.add j) = some (.int .u8 x)) (go_keep) (fail)
        go_wp2
        go_roundg (gk - 1)
        case measure => omega
        case rel => exact ⟨j + 1, by omega, by go_num, grown_trans hg (grown_drew _ _)⟩
      · obtain rfl : j = L := by omega
        have SD := hide (SZ.out.new hg)
        clear hg hkj hk
        obtain ⟨c0, c1, c2, c3, c4, c5, c6⟩ := box7 SD.out.rq
        dsimp only at c0 c1 c2 c3 c4 c5 c6
        obtain ⟨u0, u1, u2, u3, u4, u5, u6⟩ := box7 SD.out.ans
        have s0 := free_row SD.out.ans 0
        have s1 := free_row SD.out.ans 1
        have s2 := free_row SD.out.ans 2
        have s3 := free_row SD.out.ans 3
        have s4 := free_row SD.out.ans 4
        have s5 := free_row SD.out.ans 5
        have s6 := free_row SD.out.ans 6
        go_wp2
        obtain ⟨eb, eg⟩ := set7 SD.out.ans (.int .u32 t) (.int .i64 k) (.int .i64 0) (.int .u32 0) (.int .i64 0) (.int .i64 0) (.int .i64 0)
        clear u0 u1 u2 u3 u4 u5 u6 s0 s1 s2 s3 s4 s5 s6
        obtain ⟨e0, e1, e2, e3, e4, e5, e6⟩ := box7 eb
        have EG := hide (grown_then SD.out.gr eg (fun j e => by cases e; exact Or.inl (Nat.le_refl _)))
        clear eb eg
        generalize (((((((wr.setCell ⟨w.heap.size, 0, none⟩ (.int .u32 t)).setCell ⟨w.heap.size, 1, none⟩ (.int .i64 k)).setCell ⟨w.heap.size, 2, none⟩ (.int .i64 0)).setCell ⟨w.heap.size, 3, none⟩ (.int .u32 0)).setCell ⟨w.heap.size, 4, none⟩ (.int .i64 0)).setCell ⟨w.heap.size, 5, none⟩ (.int .i64 0)).setCell ⟨w.heap.size, 6, none⟩ (.int .i64 0)) = w9 at *
        refine bodyPost_ret (v := .tuple #[.agg #[.int .u32 t, .int .i64 k, .int .i64 0, .int .u32 0, .int .i64 0, .int .i64 0, .int .i64 0], .int .i64 0]) ?_ rfl ?_
        · rw [results_cell_tmp rfl]; go_simp
        exact ⟨by rw [HZ.out]; rfl, EG.out⟩
  · have hY : Y = ⟨t, k, 0, num true xs 7 4, num false xs 11 2, i64of (num true xs 11 8), num false xs 19 2⟩ := by
      rw [HY.out]
      unfold aC aU aS
      obtain ⟨a, b, c, d⟩ := HE1.out
      rw [a, b, c, d]
      rfl
    clear HY HE0 HE1
    have qv := QN.out 7 4 7 4 rfl rfl (by omega) (by omega) (by omega) m2 S1.out.gr
    have rg := val4 HX.out.1 7
    have hnum : num true xs 7 4 = leV ((xs.drop 7).take 4) := rfl
    rw [hnum] at hY
    obtain ⟨VI, hv⟩ : ∃ V, leV ((xs.drop 7).take 4) = V := ⟨_, rfl⟩
    rw [hv] at qv rg hY
    have WX : IntKind.u32.wrap VI = VI := by rw [IntKind.wrap_u32]; omega
    clear rg hv hnum
    obtain ⟨c0, c1, c2, c3, c4, c5, c6⟩ := box7 S1.out.rq
    dsimp only at c0 c1 c2 c3 c4 c5 c6
    obtain ⟨f0, f1, f2, f3⟩ : _ ∧ _ ∧ _ ∧ _ := ⟨cell_row F1.out.1 0, cell_row F1.out.1 1, cell_row F1.out.1 2, cell_row F1.out.1 3⟩
    go_wp2_with fail
    refine qv.mono ?_
    clear qv
    rintro r wx ⟨rfl, hw⟩
    obtain rfl := hw.symm
    clear hw
    have AI := hide (S1.out.set (q' := ⟨t, k, 0, VI, 0, 0, 0⟩) 3 (.int .u32 VI) rfl)
    have F2 : Hid (Fbx (m2.setCell ⟨w.heap.size + 1, 3, none⟩ (.int .u32 VI)) F true false true false ∧ w.heap.size + 1 < F) := ⟨((grown_setCell m2 (w.heap.size + 1) 3 (.int .u32 VI)).block _ (row_lt F1.out.1) (by have := F1.out.2; simp; omega)).trans F1.out.1, F1.out.2⟩
    have fr := free_row S1.out.rq 3
    go_upto_region 7 with fail
    clear c0 c1 c2 c3 c4 c5 c6 fr WX f0 f1 f2 f3 S1
    generalize m2.setCell ⟨w.heap.size + 1, 3, none⟩ (.int .u32 VI) = zI at *
    have F1 := hide F2.out
    clear F2
    have qv := QN.out 11 8 11 8 rfl rfl (by omega) (by omega) (by omega) zI AI.out.gr
    have rg := val8 HX.out.1 11
    have hnum : num true xs 11 8 = leV ((xs.drop 11).take 8) := rfl
    rw [hnum] at hY
    obtain ⟨VU, hv⟩ : ∃ V, leV ((xs.drop 11).take 8) = V := ⟨_, rfl⟩
    rw [hv] at qv rg hY
    have WX : IntKind.i64.wrap VU = i64of VU := i64_wrap rg.1 rg.2
    clear rg hv hnum
    obtain ⟨c0, c1, c2, c3, c4, c5, c6⟩ := box7 AI.out.rq
    dsimp only at c0 c1 c2 c3 c4 c5 c6
    obtain ⟨f0, f1, f2, f3⟩ : _ ∧ _ ∧ _ ∧ _ := ⟨cell_row F1.out.1 0, cell_row F1.out.1 1, cell_row F1.out.1 2, cell_row F1.out.1 3⟩
    go_wp2_with fail
    refine qv.mono ?_
    clear qv
    rintro r wx ⟨rfl, hw⟩
    obtain rfl := hw.symm
    clear hw
    have AU := hide (AI.out.set (q' := ⟨t, k, 0, VI, 0, (i64of VU), 0⟩) 5 (.int .i64 (i64of VU)) rfl)
    have F2 : Hid (Fbx (zI.setCell ⟨w.heap.size + 1, 5, none⟩ (.int .i64 (i64of VU))) F true false true false ∧ w.heap.size + 1 < F) := ⟨((grown_setCell zI (w.heap.size + 1) 5 (.int .i64 (i64of VU))).block _ (row_lt F1.out.1) (by have := F1.out.2; simp; omega)).trans F1.out.1, F1.out.2⟩
    have fr := free_row AI.out.rq 5
    go_upto_region 13 with fail
    clear c0 c1 c2 c3 c4 c5 c6 fr WX f0 f1 f2 f3 AI
    generalize zI.setCell ⟨w.heap.size + 1, 5, none⟩ (.int .i64 (i64of VU)) = zU at *
    have F1 := hide F2.out
    clear F2
    have hY : Y = ⟨t, k, 0, VI, 0, (i64of VU), 0⟩ := hY
    obtain ⟨f0, f1, f2, f3⟩ : _ ∧ _ ∧ _ ∧ _ := ⟨cell_row F1.out.1 0, cell_row F1.out.1 1, cell_row F1.out.1 2, cell_row F1.out.1 3⟩
    subst hY
    have qput := rput_ry ⟨t, k, 0, VI, 0, (i64of VU), 0⟩ HO.out zU
    unfold ryV at qput
    dsimp only at qput
    obtain ⟨c0, c1, c2, c3, c4, c5, c6⟩ := box7 AU.out.rq
    dsimp only at c0 c1 c2 c3 c4 c5 c6
    by_cases hm : (Ry.mk t k 0 VI 0 (i64of VU) 0).May
    case neg =>
      rw [show chk ⟨t, k, 0, VI, 0, (i64of VU), 0⟩ = 210 from if_neg hm] at qput
      have HZ : Hid (res = (zRy, 210)) := by have := HR.out; rw [if_neg (fun h => hm h.1)] at this; exact this
      go_wp2_with fail
      refine qput.mono ?_
      clear qput c0 c1 c2 c3 c4 c5 c6 hm
      rintro r wz ⟨vz, rfl, hp, hg⟩
      have SZ := hide (AU.out.new hg)
      clear hp hg
      obtain ⟨u0, u1, u2, u3, u4, u5, u6⟩ := box7 SZ.out.ans
      have s0 := free_row SZ.out.ans 0
      have s1 := free_row SZ.out.ans 1
      have s2 := free_row SZ.out.ans 2
      have s3 := free_row SZ.out.ans 3
      have s4 := free_row SZ.out.ans 4
      have s5 := free_row SZ.out.ans 5
      have s6 := free_row SZ.out.ans 6
      go_wp2
      obtain ⟨eb, eg⟩ := set7 SZ.out.ans (.int .u32 0) (.int .i64 0) (.int .i64 0) (.int .u32 0) (.int .i64 0) (.int .i64 0) (.int .i64 0)
      clear u0 u1 u2 u3 u4 u5 u6 s0 s1 s2 s3 s4 s5 s6
      obtain ⟨e0, e1, e2, e3, e4, e5, e6⟩ := box7 eb
      have EG := hide (grown_then SZ.out.gr eg (fun j e => by cases e; exact Or.inl (Nat.le_refl _)))
      clear eb eg
      generalize (((((((wz.setCell ⟨w.heap.size, 0, none⟩ (.int .u32 0)).setCell ⟨w.heap.size, 1, none⟩ (.int .i64 0)).setCell ⟨w.heap.size, 2, none⟩ (.int .i64 0)).setCell ⟨w.heap.size, 3, none⟩ (.int .u32 0)).setCell ⟨w.heap.size, 4, none⟩ (.int .i64 0)).setCell ⟨w.heap.size, 5, none⟩ (.int .i64 0)).setCell ⟨w.heap.size, 6, none⟩ (.int .i64 0)) = w9 at *
      refine bodyPost_ret (v := .tuple #[.agg #[.int .u32 0, .int .i64 0, .int .i64 0, .int .u32 0, .int .i64 0, .int .i64 0, .int .i64 0], .int .i64 210]) ?_ rfl ?_
      · rw [results_cell_tmp rfl]; go_simp
      exact ⟨by rw [HZ.out]; rfl, EG.out⟩
    rw [show chk ⟨t, k, 0, VI, 0, (i64of VU), 0⟩ = 0 from if_pos hm] at qput
    go_wp2_with fail
    refine qput.mono ?_
    clear qput c0 c1 c2 c3 c4 c5 c6
    rintro r wz ⟨vz, rfl, hp, hg⟩
    have SZ := hide (AU.out.new hg)
    rcases hp with ⟨_, hown⟩ | ⟨hx, _⟩
    case inr => exact absurd hm hx
    have HOL := out_length (Ry.mk t k 0 VI 0 (i64of VU) 0)
    dsimp only at HOL hown
    obtain ⟨L, hL⟩ : ∃ L, L = sz k 0 := ⟨_, rfl⟩
    rw [← hL] at HOL hown
    have hLs : L ≤ 19 := by rw [hL]; exact (sz_le _ _).2
    obtain ⟨az, cz, rfl, hlz, hcz, hmz, haz, hnz, _⟩ := own_at hown
    have HA := hide (And.intro haz hlz)
    have HXZ := hide (HX.out.2.2.1.kept SZ.out.gr (fun _ _ e => by cases e))
    clear hown hcz hmz haz hnz hlz hg hL HOL
    by_cases hln : L = n
    case neg =>
      have HZ : Hid (res = (zRy, 210)) := by
        have := HR.out
        rw [if_neg (fun h => hln (by rw [← HA.out.2, h.2, HX.out.2.1]))] at this
        exact this
      have d1 : ((L : Int) == (n : Int)) = false := by simp; omega
      have d2 : ((L : Int) != (n : Int)) = true := by simp; omega
      have d3 : decide ((L : Int) = (n : Int)) = false := decide_eq_false (by omega)
      have d4 : decide (L = n) = false := decide_eq_false hln
      have d5 : (L == n) = false := by simpa using hln
      have d6 : (L != n) = true := by simpa using hln
      clear hln hm
      obtain ⟨u0, u1, u2, u3, u4, u5, u6⟩ := box7 SZ.out.ans
      have s0 := free_row SZ.out.ans 0
      have s1 := free_row SZ.out.ans 1
      have s2 := free_row SZ.out.ans 2
      have s3 := free_row SZ.out.ans 3
      have s4 := free_row SZ.out.ans 4
      have s5 := free_row SZ.out.ans 5
      have s6 := free_row SZ.out.ans 6
      go_wp2
      obtain ⟨eb, eg⟩ := set7 SZ.out.ans (.int .u32 0) (.int .i64 0) (.int .i64 0) (.int .u32 0) (.int .i64 0) (.int .i64 0) (.int .i64 0)
      clear u0 u1 u2 u3 u4 u5 u6 s0 s1 s2 s3 s4 s5 s6
      obtain ⟨e0, e1, e2, e3, e4, e5, e6⟩ := box7 eb
      have EG := hide (grown_then SZ.out.gr eg (fun j e => by cases e; exact Or.inl (Nat.le_refl _)))
      clear eb eg
      generalize (((((((wz.setCell ⟨w.heap.size, 0, none⟩ (.int .u32 0)).setCell ⟨w.heap.size, 1, none⟩ (.int .i64 0)).setCell ⟨w.heap.size, 2, none⟩ (.int .i64 0)).setCell ⟨w.heap.size, 3, none⟩ (.int .u32 0)).setCell ⟨w.heap.size, 4, none⟩ (.int .i64 0)).setCell ⟨w.heap.size, 5, none⟩ (.int .i64 0)).setCell ⟨w.heap.size, 6, none⟩ (.int .i64 0)) = w9 at *
      refine bodyPost_ret (v := .tuple #[.agg #[.int .u32 0, .int .i64 0, .int .i64 0, .int .u32 0, .int .i64 0, .int .i64 0, .int .i64 0], .int .i64 210]) ?_ rfl ?_
      · rw [results_cell_tmp rfl]; go_simp
      exact ⟨by rw [HZ.out]; rfl, EG.out⟩
    subst hln
    by_cases heq : (Ry.mk t k 0 VI 0 (i64of VU) 0).out = xs
    case neg =>
      have HZ : Hid (res = (zRy, 210)) := by have := HR.out; rw [if_neg (fun h => heq h.2)] at this; exact this
      obtain ⟨J, hJ, hJ1, hJ2⟩ := first_unlike _ xs (by rw [HA.out.2, HX.out.2.1]) heq
      have HJ := hide (And.intro hJ (And.intro @hJ1 hJ2))
      clear hJ hJ1 hJ2 heq hm
      go_wp2
      go_loopg [10] L (fun k i wr => ∃ j : Nat, k + j = L ∧ j ≤ J ∧ i = .int .i64 j ∧ wz.grownBy wr none)
      case atStart => exact ⟨0, by omega, by omega, rfl, grown_refl _ _⟩
      case round =>
        obtain ⟨j, hkj, hjJ, rfl, hg⟩ := hrel
        have hj : j < (Ry.mk t k 0 VI 0 (i64of VU) 0).out.length := by have := HJ.out.1; omega
        have hjL : j < L := by rw [← HA.out.2]; exact hj
        have hj2 : j < xs.length := by rw [HX.out.2.1]; exact hjL
        obtain ⟨a, rfl, hca⟩ := HA.out.1 j ((Ry.mk t k 0 VI 0 (i64of VU) 0).out.getD j 0) (by simp [hj, List.getD_eq_getElem?_getD])
        obtain ⟨b, rfl, hcb⟩ := HXZ.out j (xs.getD j 0) (by simp [hj2, List.getD_eq_getElem?_getD])
        have hca' := hg.cell hca (by simp)
        have hcb' := hg.cell hcb (by simp)
        have h1 : (0 : Int) ≤ (j : Int) := by omega
        have h2 : (j : Int) < (L : Int) := by omega
        by_cases hjl : j < J
        · have he := HJ.out.2.1 j hjl
          rw [← he] at hcb'
          have hkk : 0 < gk := by omega
          generalize (Ry.mk t k 0 VI 0 (i64of VU) 0).out.getD j 0 = x at *
          clear hca hcb hj hj2 he
          go_wp2
          go_region_held3 (fun w' => w'.cell? (a.add j) = some (.int .u8 x) ∧ w'.cell? (b.add j) = some (.int .u8 x)) (go_keep) (fail)
          go_wp2
          go_roundg (gk - 1)
          case measure => omega
          case rel => exact ⟨j + 1, by omega, by omega, by go_num, grown_trans hg (grown_drew _ _)⟩
        · obtain rfl : j = J := by omega
          have hJ2 := HJ.out.2.2
          generalize (Ry.mk t k 0 VI 0 (i64of VU) 0).out.getD j 0 = x at *
          generalize xs.getD j 0 = y at *
          have e1 : (x == y) = false := by simpa using hJ2
          have e2 : (x != y) = true := by simpa using hJ2
          have e3 : decide (x = y) = false := by simpa using hJ2
          have SD := hide (SZ.out.new (grown_trans hg (grown_drew wr none)))
          clear hca hcb hj hj2 hJ2 hg hjJ hjl hkj
          go_wp2
          go_region_held3 (fun w' => w'.cell? (a.add j) = some (.int .u8 x) ∧ w'.cell? (b.add j) = some (.int .u8 y)) (go_keep) (fail)
          generalize wr.drew = wd at *
          obtain ⟨u0, u1, u2, u3, u4, u5, u6⟩ := box7 SD.out.ans
          have s0 := free_row SD.out.ans 0
          have s1 := free_row SD.out.ans 1
          have s2 := free_row SD.out.ans 2
          have s3 := free_row SD.out.ans 3
          have s4 := free_row SD.out.ans 4
          have s5 := free_row SD.out.ans 5
          have s6 := free_row SD.out.ans 6
          go_wp2
          obtain ⟨eb, eg⟩ := set7 SD.out.ans (.int .u32 0) (.int .i64 0) (.int .i64 0) (.int .u32 0) (.int .i64 0) (.int .i64 0) (.int .i64 0)
          clear u0 u1 u2 u3 u4 u5 u6 s0 s1 s2 s3 s4 s5 s6
          obtain ⟨e0, e1, e2, e3, e4, e5, e6⟩ := box7 eb
          have EG := hide (grown_then SD.out.gr eg (fun j e => by cases e; exact Or.inl (Nat.le_refl _)))
          clear eb eg
          generalize (((((((wd.setCell ⟨w.heap.size, 0, none⟩ (.int .u32 0)).setCell ⟨w.heap.size, 1, none⟩ (.int .i64 0)).setCell ⟨w.heap.size, 2, none⟩ (.int .i64 0)).setCell ⟨w.heap.size, 3, none⟩ (.int .u32 0)).setCell ⟨w.heap.size, 4, none⟩ (.int .i64 0)).setCell ⟨w.heap.size, 5, none⟩ (.int .i64 0)).setCell ⟨w.heap.size, 6, none⟩ (.int .i64 0)) = w9 at *
          refine bodyPost_ret (v := .tuple #[.agg #[.int .u32 0, .int .i64 0, .int .i64 0, .int .u32 0, .int .i64 0, .int .i64 0, .int .i64 0], .int .i64 210]) ?_ rfl ?_
          · rw [results_cell_tmp rfl]; go_simp
          exact ⟨by rw [HZ.out]; rfl, EG.out⟩
    have HZ : Hid (res = (⟨t, k, 0, VI, 0, (i64of VU), 0⟩, 0)) := by have := HR.out; rw [if_pos ⟨hm, heq⟩] at this; exact this
    rw [heq] at HA
    clear heq hm
    go_wp2
    go_loopg [10] L (fun k i wr => ∃ j : Nat, k + j = L ∧ i = .int .i64 j ∧ wz.grownBy wr none)
    case atStart => exact ⟨0, by omega, rfl, grown_refl _ _⟩
    case round =>
      obtain ⟨j, hkj, rfl, hg⟩ := hrel
      by_cases hk : 0 < gk
      · have hj2 : j < xs.length := by rw [HX.out.2.1]; omega
        obtain ⟨a, rfl, hca⟩ := HA.out.1 j (xs.getD j 0) (by simp [hj2, List.getD_eq_getElem?_getD])
        obtain ⟨b, rfl, hcb⟩ := HXZ.out j (xs.getD j 0) (by simp [hj2, List.getD_eq_getElem?_getD])
        have hca' := hg.cell hca (by simp)
        have hcb' := hg.cell hcb (by simp)
        have h1 : (0 : Int) ≤ (j : Int) := by omega
        have h2 : (j : Int) < (L : Int) := by omega
        generalize xs.getD j 0 = x at *
        clear hca hcb hj2
        go_wp2
        go_region_held3 (fun w' => w'.cell? (a.add j) = some (.int .u8 x) ∧ w'.cell? (b.add j) = some (.int .u8 x)) (go_keep) (fail)
        go_wp2
        go_roundg (gk - 1)
        case measure => omega
        case rel => exact ⟨j + 1, by omega, by go_num, grown_trans hg (grown_drew _ _)⟩
      · obtain rfl : j = L := by omega
        have SD := hide (SZ.out.new hg)
        clear hg hkj hk
        obtain ⟨c0, c1, c2, c3, c4, c5, c6⟩ := box7 SD.out.rq
        dsimp only at c0 c1 c2 c3 c4 c5 c6
        obtain ⟨u0, u1, u2, u3, u4, u5, u6⟩ := box7 SD.out.ans
        have s0 := free_row SD.out.ans 0
        have s1 := free_row SD.out.ans 1
        have s2 := free_row SD.out.ans 2
        have s3 := free_row SD.out.ans 3
        have s4 := free_row SD.out.ans 4
        have s5 := free_row SD.out.ans 5
        have s6 := free_row SD.out.ans 6
        go_wp2
        obtain ⟨eb, eg⟩ := set7 SD.out.ans (.int .u32 t) (.int .i64 k) (.int .i64 0) (.int .u32 VI) (.int .i64 0) (.int .i64 (i64of VU)) (.int .i64 0)
        clear u0 u1 u2 u3 u4 u5 u6 s0 s1 s2 s3 s4 s5 s6
        obtain ⟨e0, e1, e2, e3, e4, e5, e6⟩ := box7 eb
        have EG := hide (grown_then SD.out.gr eg (fun j e => by cases e; exact Or.inl (Nat.le_refl _)))
        clear eb eg
        generalize (((((((wr.setCell ⟨w.heap.size, 0, none⟩ (.int .u32 t)).setCell ⟨w.heap.size, 1, none⟩ (.int .i64 k)).setCell ⟨w.heap.size, 2, none⟩ (.int .i64 0)).setCell ⟨w.heap.size, 3, none⟩ (.int .u32 VI)).setCell ⟨w.heap.size, 4, none⟩ (.int .i64 0)).setCell ⟨w.heap.size, 5, none⟩ (.int .i64 (i64of VU))).setCell ⟨w.heap.size, 6, none⟩ (.int .i64 0)) = w9 at *
        refine bodyPost_ret (v := .tuple #[.agg #[.int .u32 t, .int .i64 k, .int .i64 0, .int .u32 VI, .int .i64 0, .int .i64 (i64of VU), .int .i64 0], .int .i64 0]) ?_ rfl ?_
        · rw [results_cell_tmp rfl]; go_simp
        exact ⟨by rw [HZ.out]; rfl, EG.out⟩
  · have hY : Y = ⟨t, k, 0, num false xs 7 4, num true xs 7 2, i64of (num false xs 9 8), num false xs 9 2⟩ := by
      rw [HY.out]
      unfold aC aU aS
      obtain ⟨a, b, c, d⟩ := HE1.out
      rw [a, b, c, d]
      rfl
    clear HY HE0 HE1
    have qv := QN.out 7 2 7 2 rfl rfl (by omega) (by omega) (by omega) m2 S1.out.gr
    have rg := val2 HX.out.1 7
    have hnum : num true xs 7 2 = leV ((xs.drop 7).take 2) := rfl
    rw [hnum] at hY
    obtain ⟨VS, hv⟩ : ∃ V, leV ((xs.drop 7).take 2) = V := ⟨_, rfl⟩
    rw [hv] at qv rg hY
    have WX : IntKind.i64.wrap VS = VS := by rw [IntKind.wrap_i64]; omega
    clear rg hv hnum
    obtain ⟨c0, c1, c2, c3, c4, c5, c6⟩ := box7 S1.out.rq
    dsimp only at c0 c1 c2 c3 c4 c5 c6
    obtain ⟨f0, f1, f2, f3⟩ : _ ∧ _ ∧ _ ∧ _ := ⟨cell_row F1.out.1 0, cell_row F1.out.1 1, cell_row F1.out.1 2, cell_row F1.out.1 3⟩
    go_wp2_with fail
    refine qv.mono ?_
    clear qv
    rintro r wx ⟨rfl, hw⟩
    obtain rfl := hw.symm
    clear hw
    have AS := hide (S1.out.set (q' := ⟨t, k, 0, 0, VS, 0, 0⟩) 4 (.int .i64 VS) rfl)
    have F2 : Hid (Fbx (m2.setCell ⟨w.heap.size + 1, 4, none⟩ (.int .i64 VS)) F false true false false ∧ w.heap.size + 1 < F) := ⟨((grown_setCell m2 (w.heap.size + 1) 4 (.int .i64 VS)).block _ (row_lt F1.out.1) (by have := F1.out.2; simp; omega)).trans F1.out.1, F1.out.2⟩
    have fr := free_row S1.out.rq 4
    go_upto_region 10 with fail
    clear c0 c1 c2 c3 c4 c5 c6 fr WX f0 f1 f2 f3 S1
    generalize m2.setCell ⟨w.heap.size + 1, 4, none⟩ (.int .i64 VS) = zS at *
    have F1 := hide F2.out
    clear F2
    have hY : Y = ⟨t, k, 0, 0, VS, 0, 0⟩ := hY
    obtain ⟨f0, f1, f2, f3⟩ : _ ∧ _ ∧ _ ∧ _ := ⟨cell_row F1.out.1 0, cell_row F1.out.1 1, cell_row F1.out.1 2, cell_row F1.out.1 3⟩
    subst hY
    have qput := rput_ry ⟨t, k, 0, 0, VS, 0, 0⟩ HO.out zS
    unfold ryV at qput
    dsimp only at qput
    obtain ⟨c0, c1, c2, c3, c4, c5, c6⟩ := box7 AS.out.rq
    dsimp only at c0 c1 c2 c3 c4 c5 c6
    by_cases hm : (Ry.mk t k 0 0 VS 0 0).May
    case neg =>
      rw [show chk ⟨t, k, 0, 0, VS, 0, 0⟩ = 210 from if_neg hm] at qput
      have HZ : Hid (res = (zRy, 210)) := by have := HR.out; rw [if_neg (fun h => hm h.1)] at this; exact this
      go_wp2_with fail
      refine qput.mono ?_
      clear qput c0 c1 c2 c3 c4 c5 c6 hm
      rintro r wz ⟨vz, rfl, hp, hg⟩
      have SZ := hide (AS.out.new hg)
      clear hp hg
      obtain ⟨u0, u1, u2, u3, u4, u5, u6⟩ := box7 SZ.out.ans
      have s0 := free_row SZ.out.ans 0
      have s1 := free_row SZ.out.ans 1
      have s2 := free_row SZ.out.ans 2
      have s3 := free_row SZ.out.ans 3
      have s4 := free_row SZ.out.ans 4
      have s5 := free_row SZ.out.ans 5
      have s6 := free_row SZ.out.ans 6
      go_wp2
      obtain ⟨eb, eg⟩ := set7 SZ.out.ans (.int .u32 0) (.int .i64 0) (.int .i64 0) (.int .u32 0) (.int .i64 0) (.int .i64 0) (.int .i64 0)
      clear u0 u1 u2 u3 u4 u5 u6 s0 s1 s2 s3 s4 s5 s6
      obtain ⟨e0, e1, e2, e3, e4, e5, e6⟩ := box7 eb
      have EG := hide (grown_then SZ.out.gr eg (fun j e => by cases e; exact Or.inl (Nat.le_refl _)))
      clear eb eg
      generalize (((((((wz.setCell ⟨w.heap.size, 0, none⟩ (.int .u32 0)).setCell ⟨w.heap.size, 1, none⟩ (.int .i64 0)).setCell ⟨w.heap.size, 2, none⟩ (.int .i64 0)).setCell ⟨w.heap.size, 3, none⟩ (.int .u32 0)).setCell ⟨w.heap.size, 4, none⟩ (.int .i64 0)).setCell ⟨w.heap.size, 5, none⟩ (.int .i64 0)).setCell ⟨w.heap.size, 6, none⟩ (.int .i64 0)) = w9 at *
      refine bodyPost_ret (v := .tuple #[.agg #[.int .u32 0, .int .i64 0, .int .i64 0, .int .u32 0, .int .i64 0, .int .i64 0, .int .i64 0], .int .i64 210]) ?_ rfl ?_
      · rw [results_cell_tmp rfl]; go_simp
      exact ⟨by rw [HZ.out]; rfl, EG.out⟩
    rw [show chk ⟨t, k, 0, 0, VS, 0, 0⟩ = 0 from if_pos hm] at qput
    go_wp2_with fail
    refine qput.mono ?_
    clear qput c0 c1 c2 c3 c4 c5 c6
    rintro r wz ⟨vz, rfl, hp, hg⟩
    have SZ := hide (AS.out.new hg)
    rcases hp with ⟨_, hown⟩ | ⟨hx, _⟩
    case inr => exact absurd hm hx
    have HOL := out_length (Ry.mk t k 0 0 VS 0 0)
    dsimp only at HOL hown
    obtain ⟨L, hL⟩ : ∃ L, L = sz k 0 := ⟨_, rfl⟩
    rw [← hL] at HOL hown
    have hLs : L ≤ 19 := by rw [hL]; exact (sz_le _ _).2
    obtain ⟨az, cz, rfl, hlz, hcz, hmz, haz, hnz, _⟩ := own_at hown
    have HA := hide (And.intro haz hlz)
    have HXZ := hide (HX.out.2.2.1.kept SZ.out.gr (fun _ _ e => by cases e))
    clear hown hcz hmz haz hnz hlz hg hL HOL
    by_cases hln : L = n
    case neg =>
      have HZ : Hid (res = (zRy, 210)) := by
        have := HR.out
        rw [if_neg (fun h => hln (by rw [← HA.out.2, h.2, HX.out.2.1]))] at this
        exact this
      have d1 : ((L : Int) == (n : Int)) = false := by simp; omega
      have d2 : ((L : Int) != (n : Int)) = true := by simp; omega
      have d3 : decide ((L : Int) = (n : Int)) = false := decide_eq_false (by omega)
      have d4 : decide (L = n) = false := decide_eq_false hln
      have d5 : (L == n) = false := by simpa using hln
      have d6 : (L != n) = true := by simpa using hln
      clear hln hm
      obtain ⟨u0, u1, u2, u3, u4, u5, u6⟩ := box7 SZ.out.ans
      have s0 := free_row SZ.out.ans 0
      have s1 := free_row SZ.out.ans 1
      have s2 := free_row SZ.out.ans 2
      have s3 := free_row SZ.out.ans 3
      have s4 := free_row SZ.out.ans 4
      have s5 := free_row SZ.out.ans 5
      have s6 := free_row SZ.out.ans 6
      go_wp2
      obtain ⟨eb, eg⟩ := set7 SZ.out.ans (.int .u32 0) (.int .i64 0) (.int .i64 0) (.int .u32 0) (.int .i64 0) (.int .i64 0) (.int .i64 0)
      clear u0 u1 u2 u3 u4 u5 u6 s0 s1 s2 s3 s4 s5 s6
      obtain ⟨e0, e1, e2, e3, e4, e5, e6⟩ := box7 eb
      have EG := hide (grown_then SZ.out.gr eg (fun j e => by cases e; exact Or.inl (Nat.le_refl _)))
      clear eb eg
      generalize (((((((wz.setCell ⟨w.heap.size, 0, none⟩ (.int .u32 0)).setCell ⟨w.heap.size, 1, none⟩ (.int .i64 0)).setCell ⟨w.heap.size, 2, none⟩ (.int .i64 0)).setCell ⟨w.heap.size, 3, none⟩ (.int .u32 0)).setCell ⟨w.heap.size, 4, none⟩ (.int .i64 0)).setCell ⟨w.heap.size, 5, none⟩ (.int .i64 0)).setCell ⟨w.heap.size, 6, none⟩ (.int .i64 0)) = w9 at *
      refine bodyPost_ret (v := .tuple #[.agg #[.int .u32 0, .int .i64 0, .int .i64 0, .int .u32 0, .int .i64 0, .int .i64 0, .int .i64 0], .int .i64 210]) ?_ rfl ?_
      · rw [results_cell_tmp rfl]; go_simp
      exact ⟨by rw [HZ.out]; rfl, EG.out⟩
    subst hln
    by_cases heq : (Ry.mk t k 0 0 VS 0 0).out = xs
    case neg =>
      have HZ : Hid (res = (zRy, 210)) := by have := HR.out; rw [if_neg (fun h => heq h.2)] at this; exact this
      obtain ⟨J, hJ, hJ1, hJ2⟩ := first_unlike _ xs (by rw [HA.out.2, HX.out.2.1]) heq
      have HJ := hide (And.intro hJ (And.intro @hJ1 hJ2))
      clear hJ hJ1 hJ2 heq hm
      go_wp2
      go_loopg [10] L (fun k i wr => ∃ j : Nat, k + j = L ∧ j ≤ J ∧ i = .int .i64 j ∧ wz.grownBy wr none)
      case atStart => exact ⟨0, by omega, by omega, rfl, grown_refl _ _⟩
      case round =>
        obtain ⟨j, hkj, hjJ, rfl, hg⟩ := hrel
        have hj : j < (Ry.mk t k 0 0 VS 0 0).out.length := by have := HJ.out.1; omega
        have hjL : j < L := by rw [← HA.out.2]; exact hj
        have hj2 : j < xs.length := by rw [HX.out.2.1]; exact hjL
        obtain ⟨a, rfl, hca⟩ := HA.out.1 j ((Ry.mk t k 0 0 VS 0 0).out.getD j 0) (by simp [hj, List.getD_eq_getElem?_getD])
        obtain ⟨b, rfl, hcb⟩ := HXZ.out j (xs.getD j 0) (by simp [hj2, List.getD_eq_getElem?_getD])
        have hca' := hg.cell hca (by simp)
        have hcb' := hg.cell hcb (by simp)
        have h1 : (0 : Int) ≤ (j : Int) := by omega
        have h2 : (j : Int) < (L : Int) := by omega
        by_cases hjl : j < J
        · have he := HJ.out.2.1 j hjl
          rw [← he] at hcb'
          have hkk : 0 < gk := by omega
          generalize (Ry.mk t k 0 0 VS 0 0).out.getD j 0 = x at *
          clear hca hcb hj hj2 he
          go_wp2
          go_region_held3 (fun w' => w'.cell? (a.add j) = some (.int .u8 x) ∧ w'.cell? (b.add j) = some (.int .u8 x)) (go_keep) (fail)
          go_wp2
          go_roundg (gk - 1)
          case measure => omega
          case rel => exact ⟨j + 1, by omega, by omega, by go_num, grown_trans hg (grown_drew _ _)⟩
        · obtain rfl : j = J := by omega
          have hJ2 := HJ.out.2.2
          generalize (Ry.mk t k 0 0 VS 0 0).out.getD j 0 = x at *
          generalize xs.getD j 0 = y at *
          have e1 : (x == y) = false := by simpa using hJ2
          have e2 : (x != y) = true := by simpa using hJ2
          have e3 : decide (x = y) = false := by simpa using hJ2
          have SD := hide (SZ.out.new (grown_trans hg (grown_drew wr none)))
          clear hca hcb hj hj2 hJ2 hg hjJ hjl hkj
          go_wp2
          go_region_held3 (fun w' => w'.cell? (a.add j) = some (.int .u8 x) ∧ w'.cell? (b.add j) = some (.int .u8 y)) (go_keep) (fail)
          generalize wr.drew = wd at *
          obtain ⟨u0, u1, u2, u3, u4, u5, u6⟩ := box7 SD.out.ans
          have s0 := free_row SD.out.ans 0
          have s1 := free_row SD.out.ans 1
          have s2 := free_row SD.out.ans 2
          have s3 := free_row SD.out.ans 3
          have s4 := free_row SD.out.ans 4
          have s5 := free_row SD.out.ans 5
          have s6 := free_row SD.out.ans 6
          go_wp2
          obtain ⟨eb, eg⟩ := set7 SD.out.ans (.int .u32 0) (.int .i64 0) (.int .i64 0) (.int .u32 0) (.int .i64 0) (.int .i64 0) (.int .i64 0)
          clear u0 u1 u2 u3 u4 u5 u6 s0 s1 s2 s3 s4 s5 s6
          obtain ⟨e0, e1, e2, e3, e4, e5, e6⟩ := box7 eb
          have EG := hide (grown_then SD.out.gr eg (fun j e => by cases e; exact Or.inl (Nat.le_refl _)))
          clear eb eg
          generalize (((((((wd.setCell ⟨w.heap.size, 0, none⟩ (.int .u32 0)).setCell ⟨w.heap.size, 1, none⟩ (.int .i64 0)).setCell ⟨w.heap.size, 2, none⟩ (.int .i64 0)).setCell ⟨w.heap.size, 3, none⟩ (.int .u32 0)).setCell ⟨w.heap.size, 4, none⟩ (.int .i64 0)).setCell ⟨w.heap.size, 5, none⟩ (.int .i64 0)).setCell ⟨w.heap.size, 6, none⟩ (.int .i64 0)) = w9 at *
          refine bodyPost_ret (v := .tuple #[.agg #[.int .u32 0, .int .i64 0, .int .i64 0, .int .u32 0, .int .i64 0, .int .i64 0, .int .i64 0], .int .i64 210]) ?_ rfl ?_
          · rw [results_cell_tmp rfl]; go_simp
          exact ⟨by rw [HZ.out]; rfl, EG.out⟩
    have HZ : Hid (res = (⟨t, k, 0, 0, VS, 0, 0⟩, 0)) := by have := HR.out; rw [if_pos ⟨hm, heq⟩] at this; exact this
    rw [heq] at HA
    clear heq hm
    go_wp2
    go_loopg [10] L (fun k i wr => ∃ j : Nat, k + j = L ∧ i = .int .i64 j ∧ wz.grownBy wr none)
    case atStart => exact ⟨0, by omega, rfl, grown_refl _ _⟩
    case round =>
      obtain ⟨j, hkj, rfl, hg⟩ := hrel
      by_cases hk : 0 < gk
      · have hj2 : j < xs.length := by rw [HX.out.2.1]; omega
        obtain ⟨a, rfl, hca⟩ := HA.out.1 j (xs.getD j 0) (by simp [hj2, List.getD_eq_getElem?_getD])
        obtain ⟨b, rfl, hcb⟩ := HXZ.out j (xs.getD j 0) (by simp [hj2, List.getD_eq_getElem?_getD])
        have hca' := hg.cell hca (by simp)
        have hcb' := hg.cell hcb (by simp)
        have h1 : (0 : Int) ≤ (j : Int) := by omega
        have h2 : (j : Int) < (L : Int) := by omega
        generalize xs.getD j 0 = x at *
        clear hca hcb hj2
        go_wp2
        go_region_held3 (fun w' => w'.cell? (a.add j) = some (.int .u8 x) ∧ w'.cell? (b.add j) = some (.int .u8 x)) (go_keep) (fail)
        go_wp2
        go_roundg (gk - 1)
        case measure => omega
        case rel => exact ⟨j + 1, by omega, by go_num, grown_trans hg (grown_drew _ _)⟩
      · obtain rfl : j = L := by omega
        have SD := hide (SZ.out.new hg)
        clear hg hkj hk
        obtain ⟨c0, c1, c2, c3, c4, c5, c6⟩ := box7 SD.out.rq
        dsimp only at c0 c1 c2 c3 c4 c5 c6
        obtain ⟨u0, u1, u2, u3, u4, u5, u6⟩ := box7 SD.out.ans
        have s0 := free_row SD.out.ans 0
        have s1 := free_row SD.out.ans 1
        have s2 := free_row SD.out.ans 2
        have s3 := free_row SD.out.ans 3
        have s4 := free_row SD.out.ans 4
        have s5 := free_row SD.out.ans 5
        have s6 := free_row SD.out.ans 6
        go_wp2
        obtain ⟨eb, eg⟩ := set7 SD.out.ans (.int .u32 t) (.int .i64 k) (.int .i64 0) (.int .u32 0) (.int .i64 VS) (.int .i64 0) (.int .i64 0)
        clear u0 u1 u2 u3 u4 u5 u6 s0 s1 s2 s3 s4 s5 s6
        obtain ⟨e0, e1, e2, e3, e4, e5, e6⟩ := box7 eb
        have EG := hide (grown_then SD.out.gr eg (fun j e => by cases e; exact Or.inl (Nat.le_refl _)))
        clear eb eg
        generalize (((((((wr.setCell ⟨w.heap.size, 0, none⟩ (.int .u32 t)).setCell ⟨w.heap.size, 1, none⟩ (.int .i64 k)).setCell ⟨w.heap.size, 2, none⟩ (.int .i64 0)).setCell ⟨w.heap.size, 3, none⟩ (.int .u32 0)).setCell ⟨w.heap.size, 4, none⟩ (.int .i64 VS)).setCell ⟨w.heap.size, 5, none⟩ (.int .i64 0)).setCell ⟨w.heap.size, 6, none⟩ (.int .i64 0)) = w9 at *
        refine bodyPost_ret (v := .tuple #[.agg #[.int .u32 t, .int .i64 k, .int .i64 0, .int .u32 0, .int .i64 VS, .int .i64 0, .int .i64 0], .int .i64 0]) ?_ rfl ?_
        · rw [results_cell_tmp rfl]; go_simp
        exact ⟨by rw [HZ.out]; rfl, EG.out⟩
  · have hY : Y = ⟨t, k, 0, num false xs 7 4, num true xs 7 2, i64of (num true xs 9 8), num false xs 17 2⟩ := by
      rw [HY.out]
      unfold aC aU aS
      obtain ⟨a, b, c, d⟩ := HE1.out
      rw [a, b, c, d]
      rfl
    clear HY HE0 HE1
    have qv := QN.out 7 2 7 2 rfl rfl (by omega) (by omega) (by omega) m2 S1.out.gr
    have rg := val2 HX.out.1 7
    have hnum : num true xs 7 2 = leV ((xs.drop 7).take 2) := rfl
    rw [hnum] at hY
    obtain ⟨VS, hv⟩ : ∃ V, leV ((xs.drop 7).take 2) = V := ⟨_, rfl⟩
    rw [hv] at qv rg hY
    have WX : IntKind.i64.wrap VS = VS := by rw [IntKind.wrap_i64]; omega
    clear rg hv hnum
    obtain ⟨c0, c1, c2, c3, c4, c5, c6⟩ := box7 S1.out.rq
    dsimp only at c0 c1 c2 c3 c4 c5 c6
    obtain ⟨f0, f1, f2, f3⟩ : _ ∧ _ ∧ _ ∧ _ := ⟨cell_row F1.out.1 0, cell_row F1.out.1 1, cell_row F1.out.1 2, cell_row F1.out.1 3⟩
    go_wp2_with fail
    refine qv.mono ?_
    clear qv
    rintro r wx ⟨rfl, hw⟩
    obtain rfl := hw.symm
    clear hw
    have AS := hide (S1.out.set (q' := ⟨t, k, 0, 0, VS, 0, 0⟩) 4 (.int .i64 VS) rfl)
    have F2 : Hid (Fbx (m2.setCell ⟨w.heap.size + 1, 4, none⟩ (.int .i64 VS)) F false true true false ∧ w.heap.size + 1 < F) := ⟨((grown_setCell m2 (w.heap.size + 1) 4 (.int .i64 VS)).block _ (row_lt F1.out.1) (by have := F1.out.2; simp; omega)).trans F1.out.1, F1.out.2⟩
    have fr := free_row S1.out.rq 4
    go_upto_region 10 with fail
    clear c0 c1 c2 c3 c4 c5 c6 fr WX f0 f1 f2 f3 S1
    generalize m2.setCell ⟨w.heap.size + 1, 4, none⟩ (.int .i64 VS) = zS at *
    have F1 := hide F2.out
    clear F2
    have qv := QN.out 9 8 9 8 rfl rfl (by omega) (by omega) (by omega) zS AS.out.gr
    have rg := val8 HX.out.1 9
    have hnum : num true xs 9 8 = leV ((xs.drop 9).take 8) := rfl
    rw [hnum] at hY
    obtain ⟨VU, hv⟩ : ∃ V, leV ((xs.drop 9).take 8) = V := ⟨_, rfl⟩
    rw [hv] at qv rg hY
    have WX : IntKind.i64.wrap VU = i64of VU := i64_wrap rg.1 rg.2
    clear rg hv hnum
    obtain ⟨c0, c1, c2, c3, c4, c5, c6⟩ := box7 AS.out.rq
    dsimp only at c0 c1 c2 c3 c4 c5 c6
    obtain ⟨f0, f1, f2, f3⟩ : _ ∧ _ ∧ _ ∧ _ := ⟨cell_row F1.out.1 0, cell_row F1.out.1 1, cell_row F1.out.1 2, cell_row F1.out.1 3⟩
    go_wp2_with fail
    refine qv.mono ?_
    clear qv
    rintro r wx ⟨rfl, hw⟩
    obtain rfl := hw.symm
    clear hw
    have AU := hide (AS.out.set (q' := ⟨t, k, 0, 0, VS, (i64of VU), 0⟩) 5 (.int .i64 (i64of VU)) rfl)
    have F2 : Hid (Fbx (zS.setCell ⟨w.heap.size + 1, 5, none⟩ (.int .i64 (i64of VU))) F false true true false ∧ w.heap.size + 1 < F) := ⟨((grown_setCell zS (w.heap.size + 1) 5 (.int .i64 (i64of VU))).block _ (row_lt F1.out.1) (by have := F1.out.2; simp; omega)).trans F1.out.1, F1.out.2⟩
    have fr := free_row AS.out.rq 5
    go_upto_region 13 with fail
    clear c0 c1 c2 c3 c4 c5 c6 fr WX f0 f1 f2 f3 AS
    generalize zS.setCell ⟨w.heap.size + 1, 5, none⟩ (.int .i64 (i64of VU)) = zU at *
    have F1 := hide F2.out
    clear F2
    have hY : Y = ⟨t, k, 0, 0, VS, (i64of VU), 0⟩ := hY
    obtain ⟨f0, f1, f2, f3⟩ : _ ∧ _ ∧ _ ∧ _ := ⟨cell_row F1.out.1 0, cell_row F1.out.1 1, cell_row F1.out.1 2, cell_row F1.out.1 3⟩
    subst hY
    have qput := rput_ry ⟨t, k, 0, 0, VS, (i64of VU), 0⟩ HO.out zU
    unfold ryV at qput
    dsimp only at qput
    obtain ⟨c0, c1, c2, c3, c4, c5, c6⟩ := box7 AU.out.rq
    dsimp only at c0 c1 c2 c3 c4 c5 c6
    by_cases hm : (Ry.mk t k 0 0 VS (i64of VU) 0).May
    case neg =>
      rw [show chk ⟨t, k, 0, 0, VS, (i64of VU), 0⟩ = 210 from if_neg hm] at qput
      have HZ : Hid (res = (zRy, 210)) := by have := HR.out; rw [if_neg (fun h => hm h.1)] at this; exact this
      go_wp2_with fail
      refine qput.mono ?_
      clear qput c0 c1 c2 c3 c4 c5 c6 hm
      rintro r wz ⟨vz, rfl, hp, hg⟩
      have SZ := hide (AU.out.new hg)
      clear hp hg
      obtain ⟨u0, u1, u2, u3, u4, u5, u6⟩ := box7 SZ.out.ans
      have s0 := free_row SZ.out.ans 0
      have s1 := free_row SZ.out.ans 1
      have s2 := free_row SZ.out.ans 2
      have s3 := free_row SZ.out.ans 3
      have s4 := free_row SZ.out.ans 4
      have s5 := free_row SZ.out.ans 5
      have s6 := free_row SZ.out.ans 6
      go_wp2
      obtain ⟨eb, eg⟩ := set7 SZ.out.ans (.int .u32 0) (.int .i64 0) (.int .i64 0) (.int .u32 0) (.int .i64 0) (.int .i64 0) (.int .i64 0)
      clear u0 u1 u2 u3 u4 u5 u6 s0 s1 s2 s3 s4 s5 s6
      obtain ⟨e0, e1, e2, e3, e4, e5, e6⟩ := box7 eb
      have EG := hide (grown_then SZ.out.gr eg (fun j e => by cases e; exact Or.inl (Nat.le_refl _)))
      clear eb eg
      generalize (((((((wz.setCell ⟨w.heap.size, 0, none⟩ (.int .u32 0)).setCell ⟨w.heap.size, 1, none⟩ (.int .i64 0)).setCell ⟨w.heap.size, 2, none⟩ (.int .i64 0)).setCell ⟨w.heap.size, 3, none⟩ (.int .u32 0)).setCell ⟨w.heap.size, 4, none⟩ (.int .i64 0)).setCell ⟨w.heap.size, 5, none⟩ (.int .i64 0)).setCell ⟨w.heap.size, 6, none⟩ (.int .i64 0)) = w9 at *
      refine bodyPost_ret (v := .tuple #[.agg #[.int .u32 0, .int .i64 0, .int .i64 0, .int .u32 0, .int .i64 0, .int .i64 0, .int .i64 0], .int .i64 210]) ?_ rfl ?_
      · rw [results_cell_tmp rfl]; go_simp
      exact ⟨by rw [HZ.out]; rfl, EG.out⟩
    rw [show chk ⟨t, k, 0, 0, VS, (i64of VU), 0⟩ = 0 from if_pos hm] at qput
    go_wp2_with fail
    refine qput.mono ?_
    clear qput c0 c1 c2 c3 c4 c5 c6
    rintro r wz ⟨vz, rfl, hp, hg⟩
    have SZ := hide (AU.out.new hg)
    rcases hp with ⟨_, hown⟩ | ⟨hx, _⟩
    case inr => exact absurd hm hx
    have HOL := out_length (Ry.mk t k 0 0 VS (i64of VU) 0)
    dsimp only at HOL hown
    obtain ⟨L, hL⟩ : ∃ L, L = sz k 0 := ⟨_, rfl⟩
    rw [← hL] at HOL hown
    have hLs : L ≤ 19 := by rw [hL]; exact (sz_le _ _).2
    obtain ⟨az, cz, rfl, hlz, hcz, hmz, haz, hnz, _⟩ := own_at hown
    have HA := hide (And.intro haz hlz)
    have HXZ := hide (HX.out.2.2.1.kept SZ.out.gr (fun _ _ e => by cases e))
    clear hown hcz hmz haz hnz hlz hg hL HOL
    by_cases hln : L = n
    case neg =>
      have HZ : Hid (res = (zRy, 210)) := by
        have := HR.out
        rw [if_neg (fun h => hln (by rw [← HA.out.2, h.2, HX.out.2.1]))] at this
        exact this
      have d1 : ((L : Int) == (n : Int)) = false := by simp; omega
      have d2 : ((L : Int) != (n : Int)) = true := by simp; omega
      have d3 : decide ((L : Int) = (n : Int)) = false := decide_eq_false (by omega)
      have d4 : decide (L = n) = false := decide_eq_false hln
      have d5 : (L == n) = false := by simpa using hln
      have d6 : (L != n) = true := by simpa using hln
      clear hln hm
      obtain ⟨u0, u1, u2, u3, u4, u5, u6⟩ := box7 SZ.out.ans
      have s0 := free_row SZ.out.ans 0
      have s1 := free_row SZ.out.ans 1
      have s2 := free_row SZ.out.ans 2
      have s3 := free_row SZ.out.ans 3
      have s4 := free_row SZ.out.ans 4
      have s5 := free_row SZ.out.ans 5
      have s6 := free_row SZ.out.ans 6
      go_wp2
      obtain ⟨eb, eg⟩ := set7 SZ.out.ans (.int .u32 0) (.int .i64 0) (.int .i64 0) (.int .u32 0) (.int .i64 0) (.int .i64 0) (.int .i64 0)
      clear u0 u1 u2 u3 u4 u5 u6 s0 s1 s2 s3 s4 s5 s6
      obtain ⟨e0, e1, e2, e3, e4, e5, e6⟩ := box7 eb
      have EG := hide (grown_then SZ.out.gr eg (fun j e => by cases e; exact Or.inl (Nat.le_refl _)))
      clear eb eg
      generalize (((((((wz.setCell ⟨w.heap.size, 0, none⟩ (.int .u32 0)).setCell ⟨w.heap.size, 1, none⟩ (.int .i64 0)).setCell ⟨w.heap.size, 2, none⟩ (.int .i64 0)).setCell ⟨w.heap.size, 3, none⟩ (.int .u32 0)).setCell ⟨w.heap.size, 4, none⟩ (.int .i64 0)).setCell ⟨w.heap.size, 5, none⟩ (.int .i64 0)).setCell ⟨w.heap.size, 6, none⟩ (.int .i64 0)) = w9 at *
      refine bodyPost_ret (v := .tuple #[.agg #[.int .u32 0, .int .i64 0, .int .i64 0, .int .u32 0, .int .i64 0, .int .i64 0, .int .i64 0], .int .i64 210]) ?_ rfl ?_
      · rw [results_cell_tmp rfl]; go_simp
      exact ⟨by rw [HZ.out]; rfl, EG.out⟩
    subst hln
    by_cases heq : (Ry.mk t k 0 0 VS (i64of VU) 0).out = xs
    case neg =>
      have HZ : Hid (res = (zRy, 210)) := by have := HR.out; rw [if_neg (fun h => heq h.2)] at this; exact this
      obtain ⟨J, hJ, hJ1, hJ2⟩ := first_unlike _ xs (by rw [HA.out.2, HX.out.2.1]) heq
      have HJ := hide (And.intro hJ (And.intro @hJ1 hJ2))
      clear hJ hJ1 hJ2 heq hm
      go_wp2
      go_loopg [10] L (fun k i wr => ∃ j : Nat, k + j = L ∧ j ≤ J ∧ i = .int .i64 j ∧ wz.grownBy wr none)
      case atStart => exact ⟨0, by omega, by omega, rfl, grown_refl _ _⟩
      case round =>
        obtain ⟨j, hkj, hjJ, rfl, hg⟩ := hrel
        have hj : j < (Ry.mk t k 0 0 VS (i64of VU) 0).out.length := by have := HJ.out.1; omega
        have hjL : j < L := by rw [← HA.out.2]; exact hj
        have hj2 : j < xs.length := by rw [HX.out.2.1]; exact hjL
        obtain ⟨a, rfl, hca⟩ := HA.out.1 j ((Ry.mk t k 0 0 VS (i64of VU) 0).out.getD j 0) (by simp [hj, List.getD_eq_getElem?_getD])
        obtain ⟨b, rfl, hcb⟩ := HXZ.out j (xs.getD j 0) (by simp [hj2, List.getD_eq_getElem?_getD])
        have hca' := hg.cell hca (by simp)
        have hcb' := hg.cell hcb (by simp)
        have h1 : (0 : Int) ≤ (j : Int) := by omega
        have h2 : (j : Int) < (L : Int) := by omega
        by_cases hjl : j < J
        · have he := HJ.out.2.1 j hjl
          rw [← he] at hcb'
          have hkk : 0 < gk := by omega
          generalize (Ry.mk t k 0 0 VS (i64of VU) 0).out.getD j 0 = x at *
          clear hca hcb hj hj2 he
          go_wp2
          go_region_held3 (fun w' => w'.cell? (a.add j) = some (.int .u8 x) ∧ w'.cell? (b.add j) = some (.int .u8 x)) (go_keep) (fail)
          go_wp2
          go_roundg (gk - 1)
          case measure => omega
          case rel => exact ⟨j + 1, by omega, by omega, by go_num, grown_trans hg (grown_drew _ _)⟩
        · obtain rfl : j = J := by omega
          have hJ2 := HJ.out.2.2
          generalize (Ry.mk t k 0 0 VS (i64of VU) 0).out.getD j 0 = x at *
          generalize xs.getD j 0 = y at *
          have e1 : (x == y) = false := by simpa using hJ2
          have e2 : (x != y) = true := by simpa using hJ2
          have e3 : decide (x = y) = false := by simpa using hJ2
          have SD := hide (SZ.out.new (grown_trans hg (grown_drew wr none)))
          clear hca hcb hj hj2 hJ2 hg hjJ hjl hkj
          go_wp2
          go_region_held3 (fun w' => w'.cell? (a.add j) = some (.int .u8 x) ∧ w'.cell? (b.add j) = some (.int .u8 y)) (go_keep) (fail)
          generalize wr.drew = wd at *
          obtain ⟨u0, u1, u2, u3, u4, u5, u6⟩ := box7 SD.out.ans
          have s0 := free_row SD.out.ans 0
          have s1 := free_row SD.out.ans 1
          have s2 := free_row SD.out.ans 2
          have s3 := free_row SD.out.ans 3
          have s4 := free_row SD.out.ans 4
          have s5 := free_row SD.out.ans 5
          have s6 := free_row SD.out.ans 6
          go_wp2
          obtain ⟨eb, eg⟩ := set7 SD.out.ans (.int .u32 0) (.int .i64 0) (.int .i64 0) (.int .u32 0) (.int .i64 0) (.int .i64 0) (.int .i64 0)
          clear u0 u1 u2 u3 u4 u5 u6 s0 s1 s2 s3 s4 s5 s6
          obtain ⟨e0, e1, e2, e3, e4, e5, e6⟩ := box7 eb
          have EG := hide (grown_then SD.out.gr eg (fun j e => by cases e; exact Or.inl (Nat.le_refl _)))
          clear eb eg
          generalize (((((((wd.setCell ⟨w.heap.size, 0, none⟩ (.int .u32 0)).setCell ⟨w.heap.size, 1, none⟩ (.int .i64 0)).setCell ⟨w.heap.size, 2, none⟩ (.int .i64 0)).setCell ⟨w.heap.size, 3, none⟩ (.int .u32 0)).setCell ⟨w.heap.size, 4, none⟩ (.int .i64 0)).setCell ⟨w.heap.size, 5, none⟩ (.int .i64 0)).setCell ⟨w.heap.size, 6, none⟩ (.int .i64 0)) = w9 at *
          refine bodyPost_ret (v := .tuple #[.agg #[.int .u32 0, .int .i64 0, .int .i64 0, .int .u32 0, .int .i64 0, .int .i64 0, .int .i64 0], .int .i64 210]) ?_ rfl ?_
          · rw [results_cell_tmp rfl]; go_simp
          exact ⟨by rw [HZ.out]; rfl, EG.out⟩
    have HZ : Hid (res = (⟨t, k, 0, 0, VS, (i64of VU), 0⟩, 0)) := by have := HR.out; rw [if_pos ⟨hm, heq⟩] at this; exact this
    rw [heq] at HA
    clear heq hm
    go_wp2
    go_loopg [10] L (fun k i wr => ∃ j : Nat, k + j = L ∧ i = .int .i64 j ∧ wz.grownBy wr none)
    case atStart => exact ⟨0, by omega, rfl, grown_refl _ _⟩
    case round =>
      obtain ⟨j, hkj, rfl, hg⟩ := hrel
      by_cases hk : 0 < gk
      · have hj2 : j < xs.length := by rw [HX.out.2.1]; omega
        obtain ⟨a, rfl, hca⟩ := HA.out.1 j (xs.getD j 0) (by simp [hj2, List.getD_eq_getElem?_getD])
        obtain ⟨b, rfl, hcb⟩ := HXZ.out j (xs.getD j 0) (by simp [hj2, List.getD_eq_getElem?_getD])
        have hca' := hg.cell hca (by simp)
        have hcb' := hg.cell hcb (by simp)
        have h1 : (0 : Int) ≤ (j : Int) := by omega
        have h2 : (j : Int) < (L : Int) := by omega
        generalize xs.getD j 0 = x at *
        clear hca hcb hj2
        go_wp2
        go_region_held3 (fun w' => w'.cell? (a.add j) = some (.int .u8 x) ∧ w'.cell? (b.add j) = some (.int .u8 x)) (go_keep) (fail)
        go_wp2
        go_roundg (gk - 1)
        case measure => omega
        case rel => exact ⟨j + 1, by omega, by go_num, grown_trans hg (grown_drew _ _)⟩
      · obtain rfl : j = L := by omega
        have SD := hide (SZ.out.new hg)
        clear hg hkj hk
        obtain ⟨c0, c1, c2, c3, c4, c5, c6⟩ := box7 SD.out.rq
        dsimp only at c0 c1 c2 c3 c4 c5 c6
        obtain ⟨u0, u1, u2, u3, u4, u5, u6⟩ := box7 SD.out.ans
        have s0 := free_row SD.out.ans 0
        have s1 := free_row SD.out.ans 1
        have s2 := free_row SD.out.ans 2
        have s3 := free_row SD.out.ans 3
        have s4 := free_row SD.out.ans 4
        have s5 := free_row SD.out.ans 5
        have s6 := free_row SD.out.ans 6
        go_wp2
        obtain ⟨eb, eg⟩ := set7 SD.out.ans (.int .u32 t) (.int .i64 k) (.int .i64 0) (.int .u32 0) (.int .i64 VS) (.int .i64 (i64of VU)) (.int .i64 0)
        clear u0 u1 u2 u3 u4 u5 u6 s0 s1 s2 s3 s4 s5 s6
        obtain ⟨e0, e1, e2, e3, e4, e5, e6⟩ := box7 eb
        have EG := hide (grown_then SD.out.gr eg (fun j e => by cases e; exact Or.inl (Nat.le_refl _)))
        clear eb eg
        generalize (((((((wr.setCell ⟨w.heap.size, 0, none⟩ (.int .u32 t)).setCell ⟨w.heap.size, 1, none⟩ (.int .i64 k)).setCell ⟨w.heap.size, 2, none⟩ (.int .i64 0)).setCell ⟨w.heap.size, 3, none⟩ (.int .u32 0)).setCell ⟨w.heap.size, 4, none⟩ (.int .i64 VS)).setCell ⟨w.heap.size, 5, none⟩ (.int .i64 (i64of VU))).setCell ⟨w.heap.size, 6, none⟩ (.int .i64 0)) = w9 at *
        refine bodyPost_ret (v := .tuple #[.agg #[.int .u32 t, .int .i64 k, .int .i64 0, .int .u32 0, .int .i64 VS, .int .i64 (i64of VU), .int .i64 0], .int .i64 0]) ?_ rfl ?_
        · rw [results_cell_tmp rfl]; go_simp
        exact ⟨by rw [HZ.out]; rfl, EG.out⟩
  · have hY : Y = ⟨t, k, 0, num false xs 7 4, num false xs 7 2, i64of (num true xs 7 8), num false xs 15 2⟩ := by
      rw [HY.out]
      unfold aC aU aS
      obtain ⟨a, b, c, d⟩ := HE1.out
      rw [a, b, c, d]
      rfl
    clear HY HE0 HE1
    have qv := QN.out 7 8 7 8 rfl rfl (by omega) (by omega) (by omega) m2 S1.out.gr
    have rg := val8 HX.out.1 7
    have hnum : num true xs 7 8 = leV ((xs.drop 7).take 8) := rfl
    rw [hnum] at hY
    obtain ⟨VU, hv⟩ : ∃ V, leV ((xs.drop 7).take 8) = V := ⟨_, rfl⟩
    rw [hv] at qv rg hY
    have WX : IntKind.i64.wrap VU = i64of VU := i64_wrap rg.1 rg.2
    clear rg hv hnum
    obtain ⟨c0, c1, c2, c3, c4, c5, c6⟩ := box7 S1.out.rq
    dsimp only at c0 c1 c2 c3 c4 c5 c6
    obtain ⟨f0, f1, f2, f3⟩ : _ ∧ _ ∧ _ ∧ _ := ⟨cell_row F1.out.1 0, cell_row F1.out.1 1, cell_row F1.out.1 2, cell_row F1.out.1 3⟩
    go_wp2_with fail
    refine qv.mono ?_
    clear qv
    rintro r wx ⟨rfl, hw⟩
    obtain rfl := hw.symm
    clear hw
    have AU := hide (S1.out.set (q' := ⟨t, k, 0, 0, 0, (i64of VU), 0⟩) 5 (.int .i64 (i64of VU)) rfl)
    have F2 : Hid (Fbx (m2.setCell ⟨w.heap.size + 1, 5, none⟩ (.int .i64 (i64of VU))) F false false true false ∧ w.heap.size + 1 < F) := ⟨((grown_setCell m2 (w.heap.size + 1) 5 (.int .i64 (i64of VU))).block _ (row_lt F1.out.1) (by have := F1.out.2; simp; omega)).trans F1.out.1, F1.out.2⟩
    have fr := free_row S1.out.rq 5
    go_upto_region 13 with fail
    clear c0 c1 c2 c3 c4 c5 c6 fr WX f0 f1 f2 f3 S1
    generalize m2.setCell ⟨w.heap.size + 1, 5, none⟩ (.int .i64 (i64of VU)) = zU at *
    have F1 := hide F2.out
    clear F2
    have hY : Y = ⟨t, k, 0, 0, 0, (i64of VU), 0⟩ := hY
    obtain ⟨f0, f1, f2, f3⟩ : _ ∧ _ ∧ _ ∧ _ := ⟨cell_row F1.out.1 0, cell_row F1.out.1 1, cell_row F1.out.1 2, cell_row F1.out.1 3⟩
    subst hY
    have qput := rput_ry ⟨t, k, 0, 0, 0, (i64of VU), 0⟩ HO.out zU
    unfold ryV at qput
    dsimp only at qput
    obtain ⟨c0, c1, c2, c3, c4, c5, c6⟩ := box7 AU.out.rq
    dsimp only at c0 c1 c2 c3 c4 c5 c6
    by_cases hm : (Ry.mk t k 0 0 0 (i64of VU) 0).May
    case neg =>
      rw [show chk ⟨t, k, 0, 0, 0, (i64of VU), 0⟩ = 210 from if_neg hm] at qput
      have HZ : Hid (res = (zRy, 210)) := by have := HR.out; rw [if_neg (fun h => hm h.1)] at this; exact this
      go_wp2_with fail
      refine qput.mono ?_
      clear qput c0 c1 c2 c3 c4 c5 c6 hm
      rintro r wz ⟨vz, rfl, hp, hg⟩
      have SZ := hide (AU.out.new hg)
      clear hp hg
      obtain ⟨u0, u1, u2, u3, u4, u5, u6⟩ := box7 SZ.out.ans
      have s0 := free_row SZ.out.ans 0
      have s1 := free_row SZ.out.ans 1
      have s2 := free_row SZ.out.ans 2
      have s3 := free_row SZ.out.ans 3
      have s4 := free_row SZ.out.ans 4
      have s5 := free_row SZ.out.ans 5
      have s6 := free_row SZ.out.ans 6
      go_wp2
      obtain ⟨eb, eg⟩ := set7 SZ.out.ans (.int .u32 0) (.int .i64 0) (.int .i64 0) (.int .u32 0) (.int .i64 0) (.int .i64 0) (.int .i64 0)
      clear u0 u1 u2 u3 u4 u5 u6 s0 s1 s2 s3 s4 s5 s6
      obtain ⟨e0, e1, e2, e3, e4, e5, e6⟩ := box7 eb
      have EG := hide (grown_then SZ.out.gr eg (fun j e => by cases e; exact Or.inl (Nat.le_refl _)))
      clear eb eg
      generalize (((((((wz.setCell ⟨w.heap.size, 0, none⟩ (.int .u32 0)).setCell ⟨w.heap.size, 1, none⟩ (.int .i64 0)).setCell ⟨w.heap.size, 2, none⟩ (.int .i64 0)).setCell ⟨w.heap.size, 3, none⟩ (.int .u32 0)).setCell ⟨w.heap.size, 4, none⟩ (.int .i64 0)).setCell ⟨w.heap.size, 5, none⟩ (.int .i64 0)).setCell ⟨w.heap.size, 6, none⟩ (.int .i64 0)) = w9 at *
      refine bodyPost_ret (v := .tuple #[.agg #[.int .u32 0, .int .i64 0, .int .i64 0, .int .u32 0, .int .i64 0, .int .i64 0, .int .i64 0], .int .i64 210]) ?_ rfl ?_
      · rw [results_cell_tmp rfl]; go_simp
      exact ⟨by rw [HZ.out]; rfl, EG.out⟩
    rw [show chk ⟨t, k, 0, 0, 0, (i64of VU), 0⟩ = 0 from if_pos hm] at qput
    go_wp2_with fail
    refine qput.mono ?_
    clear qput c0 c1 c2 c3 c4 c5 c6
    rintro r wz ⟨vz, rfl, hp, hg⟩
    have SZ := hide (AU.out.new hg)
    rcases hp with ⟨_, hown⟩ | ⟨hx, _⟩
    case inr => exact absurd hm hx
    have HOL := out_length (Ry.mk t k 0 0 0 (i64of VU) 0)
    dsimp only at HOL hown
    obtain ⟨L, hL⟩ : ∃ L, L = sz k 0 := ⟨_, rfl⟩
    rw [← hL] at HOL hown
    have hLs : L ≤ 19 := by rw [hL]; exact (sz_le _ _).2
    obtain ⟨az, cz, rfl, hlz, hcz, hmz, haz, hnz, _⟩ := own_at hown
    have HA := hide (And.intro haz hlz)
    have HXZ := hide (HX.out.2.2.1.kept SZ.out.gr (fun _ _ e => by cases e))
    clear hown hcz hmz haz hnz hlz hg hL HOL
    by_cases hln : L = n
    case neg =>
      have HZ : Hid (res = (zRy, 210)) := by
        have := HR.out
        rw [if_neg (fun h => hln (by rw [← HA.out.2, h.2, HX.out.2.1]))] at this
        exact this
      have d1 : ((L : Int) == (n : Int)) = false := by simp; omega
      have d2 : ((L : Int) != (n : Int)) = true := by simp; omega
      have d3 : decide ((L : Int) = (n : Int)) = false := decide_eq_false (by omega)
      have d4 : decide (L = n) = false := decide_eq_false hln
      have d5 : (L == n) = false := by simpa using hln
      have d6 : (L != n) = true := by simpa using hln
      clear hln hm
      obtain ⟨u0, u1, u2, u3, u4, u5, u6⟩ := box7 SZ.out.ans
      have s0 := free_row SZ.out.ans 0
      have s1 := free_row SZ.out.ans 1
      have s2 := free_row SZ.out.ans 2
      have s3 := free_row SZ.out.ans 3
      have s4 := free_row SZ.out.ans 4
      have s5 := free_row SZ.out.ans 5
      have s6 := free_row SZ.out.ans 6
      go_wp2
      obtain ⟨eb, eg⟩ := set7 SZ.out.ans (.int .u32 0) (.int .i64 0) (.int .i64 0) (.int .u32 0) (.int .i64 0) (.int .i64 0) (.int .i64 0)
      clear u0 u1 u2 u3 u4 u5 u6 s0 s1 s2 s3 s4 s5 s6
      obtain ⟨e0, e1, e2, e3, e4, e5, e6⟩ := box7 eb
      have EG := hide (grown_then SZ.out.gr eg (fun j e => by cases e; exact Or.inl (Nat.le_refl _)))
      clear eb eg
      generalize (((((((wz.setCell ⟨w.heap.size, 0, none⟩ (.int .u32 0)).setCell ⟨w.heap.size, 1, none⟩ (.int .i64 0)).setCell ⟨w.heap.size, 2, none⟩ (.int .i64 0)).setCell ⟨w.heap.size, 3, none⟩ (.int .u32 0)).setCell ⟨w.heap.size, 4, none⟩ (.int .i64 0)).setCell ⟨w.heap.size, 5, none⟩ (.int .i64 0)).setCell ⟨w.heap.size, 6, none⟩ (.int .i64 0)) = w9 at *
      refine bodyPost_ret (v := .tuple #[.agg #[.int .u32 0, .int .i64 0, .int .i64 0, .int .u32 0, .int .i64 0, .int .i64 0, .int .i64 0], .int .i64 210]) ?_ rfl ?_
      · rw [results_cell_tmp rfl]; go_simp
      exact ⟨by rw [HZ.out]; rfl, EG.out⟩
    subst hln
    by_cases heq : (Ry.mk t k 0 0 0 (i64of VU) 0).out = xs
    case neg =>
      have HZ : Hid (res = (zRy, 210)) := by have := HR.out; rw [if_neg (fun h => heq h.2)] at this; exact this
      obtain ⟨J, hJ, hJ1, hJ2⟩ := first_unlike _ xs (by rw [HA.out.2, HX.out.2.1]) heq
      have HJ := hide (And.intro hJ (And.intro @hJ1 hJ2))
      clear hJ hJ1 hJ2 heq hm
      go_wp2
      go_loopg [10] L (fun k i wr => ∃ j : Nat, k + j = L ∧ j ≤ J ∧ i = .int .i64 j ∧ wz.grownBy wr none)
      case atStart => exact ⟨0, by omega, by omega, rfl, grown_refl _ _⟩
      case round =>
        obtain ⟨j, hkj, hjJ, rfl, hg⟩ := hrel
        have hj : j < (Ry.mk t k 0 0 0 (i64of VU) 0).out.length := by have := HJ.out.1; omega
        have hjL : j < L := by rw [← HA.out.2]; exact hj
        have hj2 : j < xs.length := by rw [HX.out.2.1]; exact hjL
        obtain ⟨a, rfl, hca⟩ := HA.out.1 j ((Ry.mk t k 0 0 0 (i64of VU) 0).out.getD j 0) (by simp [hj, List.getD_eq_getElem?_getD])
        obtain ⟨b, rfl, hcb⟩ := HXZ.out j (xs.getD j 0) (by simp [hj2, List.getD_eq_getElem?_getD])
        have hca' := hg.cell hca (by simp)
        have hcb' := hg.cell hcb (by simp)
        have h1 : (0 : Int) ≤ (j : Int) := by omega
        have h2 : (j : Int) < (L : Int) := by omega
        by_cases hjl : j < J
        · have he := HJ.out.2.1 j hjl
          rw [← he] at hcb'
          have hkk : 0 < gk := by omega
          generalize (Ry.mk t k 0 0 0 (i64of VU) 0).out.getD j 0 = x at *
          clear hca hcb hj hj2 he
          go_wp2
          go_region_held3 (fun w' => w'.cell? (a.add j) = some (.int .u8 x) ∧ w'.cell? (b.add j) = some (.int .u8 x)) (go_keep) (fail)
          go_wp2
          go_roundg (gk - 1)
          case measure => omega
          case rel => exact ⟨j + 1, by omega, by omega, by go_num, grown_trans hg (grown_drew _ _)⟩
        · obtain rfl : j = J := by omega
          have hJ2 := HJ.out.2.2
          generalize (Ry.mk t k 0 0 0 (i64of VU) 0).out.getD j 0 = x at *
          generalize xs.getD j 0 = y at *
          have e1 : (x == y) = false := by simpa using hJ2
          have e2 : (x != y) = true := by simpa using hJ2
          have e3 : decide (x = y) = false := by simpa using hJ2
          have SD := hide (SZ.out.new (grown_trans hg (grown_drew wr none)))
          clear hca hcb hj hj2 hJ2 hg hjJ hjl hkj
          go_wp2
          go_region_held3 (fun w' => w'.cell? (a.add j) = some (.int .u8 x) ∧ w'.cell? (b.add j) = some (.int .u8 y)) (go_keep) (fail)
          generalize wr.drew = wd at *
          obtain ⟨u0, u1, u2, u3, u4, u5, u6⟩ := box7 SD.out.ans
          have s0 := free_row SD.out.ans 0
          have s1 := free_row SD.out.ans 1
          have s2 := free_row SD.out.ans 2
          have s3 := free_row SD.out.ans 3
          have s4 := free_row SD.out.ans 4
          have s5 := free_row SD.out.ans 5
          have s6 := free_row SD.out.ans 6
          go_wp2
          obtain ⟨eb, eg⟩ := set7 SD.out.ans (.int .u32 0) (.int .i64 0) (.int .i64 0) (.int .u32 0) (.int .i64 0) (.int .i64 0) (.int .i64 0)
          clear u0 u1 u2 u3 u4 u5 u6 s0 s1 s2 s3 s4 s5 s6
          obtain ⟨e0, e1, e2, e3, e4, e5, e6⟩ := box7 eb
          have EG := hide (grown_then SD.out.gr eg (fun j e => by cases e; exact Or.inl (Nat.le_refl _)))
          clear eb eg
          generalize (((((((wd.setCell ⟨w.heap.size, 0, none⟩ (.int .u32 0)).setCell ⟨w.heap.size, 1, none⟩ (.int .i64 0)).setCell ⟨w.heap.size, 2, none⟩ (.int .i64 0)).setCell ⟨w.heap.size, 3, none⟩ (.int .u32 0)).setCell ⟨w.heap.size, 4, none⟩ (.int .i64 0)).setCell ⟨w.heap.size, 5, none⟩ (.int .i64 0)).setCell ⟨w.heap.size, 6, none⟩ (.int .i64 0)) = w9 at *
          refine bodyPost_ret (v := .tuple #[.agg #[.int .u32 0, .int .i64 0, .int .i64 0, .int .u32 0, .int .i64 0, .int .i64 0, .int .i64 0], .int .i64 210]) ?_ rfl ?_
          · rw [results_cell_tmp rfl]; go_simp
          exact ⟨by rw [HZ.out]; rfl, EG.out⟩
    have HZ : Hid (res = (⟨t, k, 0, 0, 0, (i64of VU), 0⟩, 0)) := by have := HR.out; rw [if_pos ⟨hm, heq⟩] at this; exact this
    rw [heq] at HA
    clear heq hm
    go_wp2
    go_loopg [10] L (fun k i wr => ∃ j : Nat, k + j = L ∧ i = .int .i64 j ∧ wz.grownBy wr none)
    case atStart => exact ⟨0, by omega, rfl, grown_refl _ _⟩
    case round =>
      obtain ⟨j, hkj, rfl, hg⟩ := hrel
      by_cases hk : 0 < gk
      · have hj2 : j < xs.length := by rw [HX.out.2.1]; omega
        obtain ⟨a, rfl, hca⟩ := HA.out.1 j (xs.getD j 0) (by simp [hj2, List.getD_eq_getElem?_getD])
        obtain ⟨b, rfl, hcb⟩ := HXZ.out j (xs.getD j 0) (by simp [hj2, List.getD_eq_getElem?_getD])
        have hca' := hg.cell hca (by simp)
        have hcb' := hg.cell hcb (by simp)
        have h1 : (0 : Int) ≤ (j : Int) := by omega
        have h2 : (j : Int) < (L : Int) := by omega
        generalize xs.getD j 0 = x at *
        clear hca hcb hj2
        go_wp2
        go_region_held3 (fun w' => w'.cell? (a.add j) = some (.int .u8 x) ∧ w'.cell? (b.add j) = some (.int .u8 x)) (go_keep) (fail)
        go_wp2
        go_roundg (gk - 1)
        case measure => omega
        case rel => exact ⟨j + 1, by omega, by go_num, grown_trans hg (grown_drew _ _)⟩
      · obtain rfl : j = L := by omega
        have SD := hide (SZ.out.new hg)
        clear hg hkj hk
        obtain ⟨c0, c1, c2, c3, c4, c5, c6⟩ := box7 SD.out.rq
        dsimp only at c0 c1 c2 c3 c4 c5 c6
        obtain ⟨u0, u1, u2, u3, u4, u5, u6⟩ := box7 SD.out.ans
        have s0 := free_row SD.out.ans 0
        have s1 := free_row SD.out.ans 1
        have s2 := free_row SD.out.ans 2
        have s3 := free_row SD.out.ans 3
        have s4 := free_row SD.out.ans 4
        have s5 := free_row SD.out.ans 5
        have s6 := free_row SD.out.ans 6
        go_wp2
        obtain ⟨eb, eg⟩ := set7 SD.out.ans (.int .u32 t) (.int .i64 k) (.int .i64 0) (.int .u32 0) (.int .i64 0) (.int .i64 (i64of VU)) (.int .i64 0)
        clear u0 u1 u2 u3 u4 u5 u6 s0 s1 s2 s3 s4 s5 s6
        obtain ⟨e0, e1, e2, e3, e4, e5, e6⟩ := box7 eb
        have EG := hide (grown_then SD.out.gr eg (fun j e => by cases e; exact Or.inl (Nat.le_refl _)))
        clear eb eg
        generalize (((((((wr.setCell ⟨w.heap.size, 0, none⟩ (.int .u32 t)).setCell ⟨w.heap.size, 1, none⟩ (.int .i64 k)).setCell ⟨w.heap.size, 2, none⟩ (.int .i64 0)).setCell ⟨w.heap.size, 3, none⟩ (.int .u32 0)).setCell ⟨w.heap.size, 4, none⟩ (.int .i64 0)).setCell ⟨w.heap.size, 5, none⟩ (.int .i64 (i64of VU))).setCell ⟨w.heap.size, 6, none⟩ (.int .i64 0)) = w9 at *
        refine bodyPost_ret (v := .tuple #[.agg #[.int .u32 t, .int .i64 k, .int .i64 0, .int .u32 0, .int .i64 0, .int .i64 (i64of VU), .int .i64 0], .int .i64 0]) ?_ rfl ?_
        · rw [results_cell_tmp rfl]; go_simp
        exact ⟨by rw [HZ.out]; rfl, EG.out⟩
  · have hY : Y = ⟨t, k, 0, num false xs 7 4, num false xs 7 2, i64of (num false xs 7 8), num true xs 7 2⟩ := by
      rw [HY.out]
      unfold aC aU aS
      obtain ⟨a, b, c, d⟩ := HE1.out
      rw [a, b, c, d]
      rfl
    clear HY HE0 HE1
    have qv := QN.out 7 2 7 2 rfl rfl (by omega) (by omega) (by omega) m2 S1.out.gr
    have rg := val2 HX.out.1 7
    have hnum : num true xs 7 2 = leV ((xs.drop 7).take 2) := rfl
    rw [hnum] at hY
    obtain ⟨VC, hv⟩ : ∃ V, leV ((xs.drop 7).take 2) = V := ⟨_, rfl⟩
    rw [hv] at qv rg hY
    have WX : IntKind.i64.wrap VC = VC := by rw [IntKind.wrap_i64]; omega
    clear rg hv hnum
    obtain ⟨c0, c1, c2, c3, c4, c5, c6⟩ := box7 S1.out.rq
    dsimp only at c0 c1 c2 c3 c4 c5 c6
    obtain ⟨f0, f1, f2, f3⟩ : _ ∧ _ ∧ _ ∧ _ := ⟨cell_row F1.out.1 0, cell_row F1.out.1 1, cell_row F1.out.1 2, cell_row F1.out.1 3⟩
    go_wp2_with fail
    refine qv.mono ?_
    clear qv
    rintro r wx ⟨rfl, hw⟩
    obtain rfl := hw.symm
    clear hw
    have AC := hide (S1.out.set (q' := ⟨t, k, 0, 0, 0, 0, VC⟩) 6 (.int .i64 VC) rfl)
    have F2 : Hid (Fbx (m2.setCell ⟨w.heap.size + 1, 6, none⟩ (.int .i64 VC)) F false false false true ∧ w.heap.size + 1 < F) := ⟨((grown_setCell m2 (w.heap.size + 1) 6 (.int .i64 VC)).block _ (row_lt F1.out.1) (by have := F1.out.2; simp; omega)).trans F1.out.1, F1.out.2⟩
    have fr := free_row S1.out.rq 6
    go_upto_region 15 with fail
    clear c0 c1 c2 c3 c4 c5 c6 fr WX f0 f1 f2 f3 S1
    generalize m2.setCell ⟨w.heap.size + 1, 6, none⟩ (.int .i64 VC) = zC at *
    have F1 := hide F2.out
    clear F2
    have hY : Y = ⟨t, k, 0, 0, 0, 0, VC⟩ := hY
    obtain ⟨f0, f1, f2, f3⟩ : _ ∧ _ ∧ _ ∧ _ := ⟨cell_row F1.out.1 0, cell_row F1.out.1 1, cell_row F1.out.1 2, cell_row F1.out.1 3⟩
    subst hY
    have qput := rput_ry ⟨t, k, 0, 0, 0, 0, VC⟩ HO.out zC
    unfold ryV at qput
    dsimp only at qput
    obtain ⟨c0, c1, c2, c3, c4, c5, c6⟩ := box7 AC.out.rq
    dsimp only at c0 c1 c2 c3 c4 c5 c6
    by_cases hm : (Ry.mk t k 0 0 0 0 VC).May
    case neg =>
      rw [show chk ⟨t, k, 0, 0, 0, 0, VC⟩ = 210 from if_neg hm] at qput
      have HZ : Hid (res = (zRy, 210)) := by have := HR.out; rw [if_neg (fun h => hm h.1)] at this; exact this
      go_wp2_with fail
      refine qput.mono ?_
      clear qput c0 c1 c2 c3 c4 c5 c6 hm
      rintro r wz ⟨vz, rfl, hp, hg⟩
      have SZ := hide (AC.out.new hg)
      clear hp hg
      obtain ⟨u0, u1, u2, u3, u4, u5, u6⟩ := box7 SZ.out.ans
      have s0 := free_row SZ.out.ans 0
      have s1 := free_row SZ.out.ans 1
      have s2 := free_row SZ.out.ans 2
      have s3 := free_row SZ.out.ans 3
      have s4 := free_row SZ.out.ans 4
      have s5 := free_row SZ.out.ans 5
      have s6 := free_row SZ.out.ans 6
      go_wp2
      obtain ⟨eb, eg⟩ := set7 SZ.out.ans (.int .u32 0) (.int .i64 0) (.int .i64 0) (.int .u32 0) (.int .i64 0) (.int .i64 0) (.int .i64 0)
      clear u0 u1 u2 u3 u4 u5 u6 s0 s1 s2 s3 s4 s5 s6
      obtain ⟨e0, e1, e2, e3, e4, e5, e6⟩ := box7 eb
      have EG := hide (grown_then SZ.out.gr eg (fun j e => by cases e; exact Or.inl (Nat.le_refl _)))
      clear eb eg
      generalize (((((((wz.setCell ⟨w.heap.size, 0, none⟩ (.int .u32 0)).setCell ⟨w.heap.size, 1, none⟩ (.int .i64 0)).setCell ⟨w.heap.size, 2, none⟩ (.int .i64 0)).setCell ⟨w.heap.size, 3, none⟩ (.int .u32 0)).setCell ⟨w.heap.size, 4, none⟩ (.int .i64 0)).setCell ⟨w.heap.size, 5, none⟩ (.int .i64 0)).setCell ⟨w.heap.size, 6, none⟩ (.int .i64 0)) = w9 at *
      refine bodyPost_ret (v := .tuple #[.agg #[.int .u32 0, .int .i64 0, .int .i64 0, .int .u32 0, .int .i64 0, .int .i64 0, .int .i64 0], .int .i64 210]) ?_ rfl ?_
      · rw [results_cell_tmp rfl]; go_simp
      exact ⟨by rw [HZ.out]; rfl, EG.out⟩
    rw [show chk ⟨t, k, 0, 0, 0, 0, VC⟩ = 0 from if_pos hm] at qput
    go_wp2_with fail
    refine qput.mono ?_
    clear qput c0 c1 c2 c3 c4 c5 c6
    rintro r wz ⟨vz, rfl, hp, hg⟩
    have SZ := hide (AC.out.new hg)
    rcases hp with ⟨_, hown⟩ | ⟨hx, _⟩
    case inr => exact absurd hm hx
    have HOL := out_length (Ry.mk t k 0 0 0 0 VC)
    dsimp only at HOL hown
    obtain ⟨L, hL⟩ : ∃ L, L = sz k 0 := ⟨_, rfl⟩
    rw [← hL] at HOL hown
    have hLs : L ≤ 19 := by rw [hL]; exact (sz_le _ _).2
    obtain ⟨az, cz, rfl, hlz, hcz, hmz, haz, hnz, _⟩ := own_at hown
    have HA := hide (And.intro haz hlz)
    have HXZ := hide (HX.out.2.2.1.kept SZ.out.gr (fun _ _ e => by cases e))
    clear hown hcz hmz haz hnz hlz hg hL HOL
    by_cases hln : L = n
    case neg =>
      have HZ : Hid (res = (zRy, 210)) := by
        have := HR.out
        rw [if_neg (fun h => hln (by rw [← HA.out.2, h.2, HX.out.2.1]))] at this
        exact this
      have d1 : ((L : Int) == (n : Int)) = false := by simp; omega
      have d2 : ((L : Int) != (n : Int)) = true := by simp; omega
      have d3 : decide ((L : Int) = (n : Int)) = false := decide_eq_false (by omega)
      have d4 : decide (L = n) = false := decide_eq_false hln
      have d5 : (L == n) = false := by simpa using hln
      have d6 : (L != n) = true := by simpa using hln
      clear hln hm
      obtain ⟨u0, u1, u2, u3, u4, u5, u6⟩ := box7 SZ.out.ans
      have s0 := free_row SZ.out.ans 0
      have s1 := free_row SZ.out.ans 1
      have s2 := free_row SZ.out.ans 2
      have s3 := free_row SZ.out.ans 3
      have s4 := free_row SZ.out.ans 4
      have s5 := free_row SZ.out.ans 5
      have s6 := free_row SZ.out.ans 6
      go_wp2
      obtain ⟨eb, eg⟩ := set7 SZ.out.ans (.int .u32 0) (.int .i64 0) (.int .i64 0) (.int .u32 0) (.int .i64 0) (.int .i64 0) (.int .i64 0)
      clear u0 u1 u2 u3 u4 u5 u6 s0 s1 s2 s3 s4 s5 s6
      obtain ⟨e0, e1, e2, e3, e4, e5, e6⟩ := box7 eb
      have EG := hide (grown_then SZ.out.gr eg (fun j e => by cases e; exact Or.inl (Nat.le_refl _)))
      clear eb eg
      generalize (((((((wz.setCell ⟨w.heap.size, 0, none⟩ (.int .u32 0)).setCell ⟨w.heap.size, 1, none⟩ (.int .i64 0)).setCell ⟨w.heap.size, 2, none⟩ (.int .i64 0)).setCell ⟨w.heap.size, 3, none⟩ (.int .u32 0)).setCell ⟨w.heap.size, 4, none⟩ (.int .i64 0)).setCell ⟨w.heap.size, 5, none⟩ (.int .i64 0)).setCell ⟨w.heap.size, 6, none⟩ (.int .i64 0)) = w9 at *
      refine bodyPost_ret (v := .tuple #[.agg #[.int .u32 0, .int .i64 0, .int .i64 0, .int .u32 0, .int .i64 0, .int .i64 0, .int .i64 0], .int .i64 210]) ?_ rfl ?_
      · rw [results_cell_tmp rfl]; go_simp
      exact ⟨by rw [HZ.out]; rfl, EG.out⟩
    subst hln
    by_cases heq : (Ry.mk t k 0 0 0 0 VC).out = xs
    case neg =>
      have HZ : Hid (res = (zRy, 210)) := by have := HR.out; rw [if_neg (fun h => heq h.2)] at this; exact this
      obtain ⟨J, hJ, hJ1, hJ2⟩ := first_unlike _ xs (by rw [HA.out.2, HX.out.2.1]) heq
      have HJ := hide (And.intro hJ (And.intro @hJ1 hJ2))
      clear hJ hJ1 hJ2 heq hm
      go_wp2
      go_loopg [10] L (fun k i wr => ∃ j : Nat, k + j = L ∧ j ≤ J ∧ i = .int .i64 j ∧ wz.grownBy wr none)
      case atStart => exact ⟨0, by omega, by omega, rfl, grown_refl _ _⟩
      case round =>
        obtain ⟨j, hkj, hjJ, rfl, hg⟩ := hrel
        have hj : j < (Ry.mk t k 0 0 0 0 VC).out.length := by have := HJ.out.1; omega
        have hjL : j < L := by rw [← HA.out.2]; exact hj
        have hj2 : j < xs.length := by rw [HX.out.2.1]; exact hjL
        obtain ⟨a, rfl, hca⟩ := HA.out.1 j ((Ry.mk t k 0 0 0 0 VC).out.getD j 0) (by simp [hj, List.getD_eq_getElem?_getD])
        obtain ⟨b, rfl, hcb⟩ := HXZ.out j (xs.getD j 0) (by simp [hj2, List.getD_eq_getElem?_getD])
        have hca' := hg.cell hca (by simp)
        have hcb' := hg.cell hcb (by simp)
        have h1 : (0 : Int) ≤ (j : Int) := by omega
        have h2 : (j : Int) < (L : Int) := by omega
        by_cases hjl : j < J
        · have he := HJ.out.2.1 j hjl
          rw [← he] at hcb'
          have hkk : 0 < gk := by omega
          generalize (Ry.mk t k 0 0 0 0 VC).out.getD j 0 = x at *
          clear hca hcb hj hj2 he
          go_wp2
          go_region_held3 (fun w' => w'.cell? (a.add j) = some (.int .u8 x) ∧ w'.cell? (b.add j) = some (.int .u8 x)) (go_keep) (fail)
          go_wp2
          go_roundg (gk - 1)
          case measure => omega
          case rel => exact ⟨j + 1, by omega, by omega, by go_num, grown_trans hg (grown_drew _ _)⟩
        · obtain rfl : j = J := by omega
          have hJ2 := HJ.out.2.2
          generalize (Ry.mk t k 0 0 0 0 VC).out.getD j 0 = x at *
          generalize xs.getD j 0 = y at *
          have e1 : (x == y) = false := by simpa using hJ2
          have e2 : (x != y) = true := by simpa using hJ2
          have e3 : decide (x = y) = false := by simpa using hJ2
          have SD := hide (SZ.out.new (grown_trans hg (grown_drew wr none)))
          clear hca hcb hj hj2 hJ2 hg hjJ hjl hkj
          go_wp2
          go_region_held3 (fun w' => w'.cell? (a.add j) = some (.int .u8 x) ∧ w'.cell? (b.add j) = some (.int .u8 y)) (go_keep) (fail)
          generalize wr.drew = wd at *
          obtain ⟨u0, u1, u2, u3, u4, u5, u6⟩ := box7 SD.out.ans
          have s0 := free_row SD.out.ans 0
          have s1 := free_row SD.out.ans 1
          have s2 := free_row SD.out.ans 2
          have s3 := free_row SD.out.ans 3
          have s4 := free_row SD.out.ans 4
          have s5 := free_row SD.out.ans 5
          have s6 := free_row SD.out.ans 6
          go_wp2
          obtain ⟨eb, eg⟩ := set7 SD.out.ans (.int .u32 0) (.int .i64 0) (.int .i64 0) (.int .u32 0) (.int .i64 0) (.int .i64 0) (.int .i64 0)
          clear u0 u1 u2 u3 u4 u5 u6 s0 s1 s2 s3 s4 s5 s6
          obtain ⟨e0, e1, e2, e3, e4, e5, e6⟩ := box7 eb
          have EG := hide (grown_then SD.out.gr eg (fun j e => by cases e; exact Or.inl (Nat.le_refl _)))
          clear eb eg
          generalize (((((((wd.setCell ⟨w.heap.size, 0, none⟩ (.int .u32 0)).setCell ⟨w.heap.size, 1, none⟩ (.int .i64 0)).setCell ⟨w.heap.size, 2, none⟩ (.int .i64 0)).setCell ⟨w.heap.size, 3, none⟩ (.int .u32 0)).setCell ⟨w.heap.size, 4, none⟩ (.int .i64 0)).setCell ⟨w.heap.size, 5, none⟩ (.int .i64 0)).setCell ⟨w.heap.size, 6, none⟩ (.int .i64 0)) = w9 at *
          refine bodyPost_ret (v := .tuple #[.agg #[.int .u32 0, .int .i64 0, .int .i64 0, .int .u32 0, .int .i64 0, .int .i64 0, .int .i64 0], .int .i64 210]) ?_ rfl ?_
          · rw [results_cell_tmp rfl]; go_simp
          exact ⟨by rw [HZ.out]; rfl, EG.out⟩
    have HZ : Hid (res = (⟨t, k, 0, 0, 0, 0, VC⟩, 0)) := by have := HR.out; rw [if_pos ⟨hm, heq⟩] at this; exact this
    rw [heq] at HA
    clear heq hm
    go_wp2
    go_loopg [10] L (fun k i wr => ∃ j : Nat, k + j = L ∧ i = .int .i64 j ∧ wz.grownBy wr none)
    case atStart => exact ⟨0, by omega, rfl, grown_refl _ _⟩
    case round =>
      obtain ⟨j, hkj, rfl, hg⟩ := hrel
      by_cases hk : 0 < gk
      · have hj2 : j < xs.length := by rw [HX.out.2.1]; omega
        obtain ⟨a, rfl, hca⟩ := HA.out.1 j (xs.getD j 0) (by simp [hj2, List.getD_eq_getElem?_getD])
        obtain ⟨b, rfl, hcb⟩ := HXZ.out j (xs.getD j 0) (by simp [hj2, List.getD_eq_getElem?_getD])
        have hca' := hg.cell hca (by simp)
        have hcb' := hg.cell hcb (by simp)
        have h1 : (0 : Int) ≤ (j : Int) := by omega
        have h2 : (j : Int) < (L : Int) := by omega
        generalize xs.getD j 0 = x at *
        clear hca hcb hj2
        go_wp2
        go_region_held3 (fun w' => w'.cell? (a.add j) = some (.int .u8 x) ∧ w'.cell? (b.add j) = some (.int .u8 x)) (go_keep) (fail)
        go_wp2
        go_roundg (gk - 1)
        case measure => omega
        case rel => exact ⟨j + 1, by omega, by go_num, grown_trans hg (grown_drew _ _)⟩
      · obtain rfl : j = L := by omega
        have SD := hide (SZ.out.new hg)
        clear hg hkj hk
        obtain ⟨c0, c1, c2, c3, c4, c5, c6⟩ := box7 SD.out.rq
        dsimp only at c0 c1 c2 c3 c4 c5 c6
        obtain ⟨u0, u1, u2, u3, u4, u5, u6⟩ := box7 SD.out.ans
        have s0 := free_row SD.out.ans 0
        have s1 := free_row SD.out.ans 1
        have s2 := free_row SD.out.ans 2
        have s3 := free_row SD.out.ans 3
        have s4 := free_row SD.out.ans 4
        have s5 := free_row SD.out.ans 5
        have s6 := free_row SD.out.ans 6
        go_wp2
        obtain ⟨eb, eg⟩ := set7 SD.out.ans (.int .u32 t) (.int .i64 k) (.int .i64 0) (.int .u32 0) (.int .i64 0) (.int .i64 0) (.int .i64 VC)
        clear u0 u1 u2 u3 u4 u5 u6 s0 s1 s2 s3 s4 s5 s6
        obtain ⟨e0, e1, e2, e3, e4, e5, e6⟩ := box7 eb
        have EG := hide (grown_then SD.out.gr eg (fun j e => by cases e; exact Or.inl (Nat.le_refl _)))
        clear eb eg
        generalize (((((((wr.setCell ⟨w.heap.size, 0, none⟩ (.int .u32 t)).setCell ⟨w.heap.size, 1, none⟩ (.int .i64 k)).setCell ⟨w.heap.size, 2, none⟩ (.int .i64 0)).setCell ⟨w.heap.size, 3, none⟩ (.int .u32 0)).setCell ⟨w.heap.size, 4, none⟩ (.int .i64 0)).setCell ⟨w.heap.size, 5, none⟩ (.int .i64 0)).setCell ⟨w.heap.size, 6, none⟩ (.int .i64 VC)) = w9 at *
        refine bodyPost_ret (v := .tuple #[.agg #[.int .u32 t, .int .i64 k, .int .i64 0, .int .u32 0, .int .i64 0, .int .i64 0, .int .i64 VC], .int .i64 0]) ?_ rfl ?_
        · rw [results_cell_tmp rfl]; go_simp
        exact ⟨by rw [HZ.out]; rfl, EG.out⟩
end Go.Proofs.YtoflohjlmagjpaaDoor
