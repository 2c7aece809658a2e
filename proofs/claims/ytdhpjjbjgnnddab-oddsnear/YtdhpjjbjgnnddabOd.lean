/- The contract of withOneMore. -/
import Derived.Test.YtdhpjjbjgnnddabOc
namespace Go.Proofs.Ytdhpjjbjgnnddab
open Go.RowKit
attribute [local go_sem ↓] Go.wp_at_zero Go.wp_at_succ
attribute [local go_sem] run_store_float

/-- The row of one more, made down to place j: from there on as it is to be, up to there as it was. -/
def Md (p : Nat) (q : List Nat) (j : Nat) (L : List Nat) : Prop := L.length = q.length + 1 ∧ ∀ i, i ≤ q.length → L.getD i 0 = if i ≤ j then q.getD i 0 else st p (q.getD i 0) (if i = 0 then 0 else q.getD (i - 1) 0)
theorem getD_set (L : List Nat) (j u i : Nat) (hj : j < L.length) : (L.set j u).getD i 0 = if i = j then u else L.getD i 0 := by
  rw [List.getD_eq_getElem?_getD, List.getElem?_set, List.getD_eq_getElem?_getD]
  by_cases h : j = i
  · subst h; simp [hj]
  · rw [if_neg h, if_neg (fun e => h e.symm)]
theorem Md.start (p : Nat) (q : List Nat) : Md p q q.length (q ++ [0]) := by
  refine ⟨by simp, fun i hi => ?_⟩
  rw [if_pos hi, List.getD_eq_getElem?_getD, List.getD_eq_getElem?_getD, List.getElem?_append]
  split
  · rfl
  · have : i = q.length := by omega
    subst this; simp
theorem Md.step {p : Nat} {q : List Nat} {j : Nat} {L : List Nat} (h : Md p q (j + 1) L) (hj : j + 1 ≤ q.length) : Md p q j (L.set (j + 1) (st p (q.getD (j + 1) 0) (q.getD j 0))) := by
  obtain ⟨hl, h⟩ := h
  refine ⟨by rw [List.length_set]; exact hl, fun i hi => ?_⟩
  rw [getD_set _ _ _ _ (by omega)]
  by_cases he : i = j + 1
  · subst he
    rw [if_pos rfl, if_neg (by omega), if_neg (by omega), Nat.add_sub_cancel]
  · rw [if_neg he, h i hi]
    by_cases h2 : i ≤ j
    · rw [if_pos (by omega), if_pos h2]
    · rw [if_neg (by omega), if_neg h2]
theorem Md.last {p : Nat} {q : List Nat} {L : List Nat} (h : Md p q 0 L) : L.set 0 (st p (q.getD 0 0) 0) = nx p q := by
  obtain ⟨hl, h⟩ := h
  apply List.ext_getElem?
  intro i
  by_cases hi : i ≤ q.length
  · rw [nx_get p q i hi]
    have h1 := getD_set L 0 (st p (q.getD 0 0) 0) i (by omega)
    have hlt : i < (L.set 0 (st p (q.getD 0 0) 0)).length := by rw [List.length_set]; omega
    rw [List.getD_eq_getElem?_getD, List.getElem?_eq_getElem hlt, Option.getD_some] at h1
    rw [List.getElem?_eq_getElem hlt, h1]
    by_cases he : i = 0
    · subst he; rw [if_pos rfl, if_pos rfl]
    · rw [if_neg he, h i hi, if_neg (by omega)]
  · rw [List.getElem?_eq_none (by rw [List.length_set]; omega), List.getElem?_eq_none (by rw [nx_length]; omega)]

theorem cell_one_new (w : World) (v : Value) (t : TypeId) : ∀ j u, [v][j]? = some u → (w.alloc (.cells #[v] t)).cell? ((⟨w.heap.size, 0, none⟩ : Addr).add j) = some u := by
  intro j u hu
  rw [Addr.add_lit, Nat.zero_add, cell_of_row _ _ j #[v] t (0, 0) (heap_alloc_new w _)]
  simpa using hu

/-- What is told of the row of one more: it lies in a block of its own behind W0. -/
def More (W0 : World) (L : List Nat) (e : Ending) (w' : World) : Prop :=
  ∃ v' g' c', e = .returned v' ∧ Row w' W0.heap.size v' g' c' L ∧ W0.grownBy w' none

set_option maxHeartbeats 1000000 in
theorem more_any (W0 : World) (v : Value) (g cap p : Nat) (q : List Nat) (w : World) (hrow : Row w W0.heap.size v g cap q) (hg : W0.grownBy w none) (hq : Low q) (h1 : 1 ≤ q.length) (hl : q.length ≤ 8000) (hp : lik p = true) :
    Calls Try.prog 22 #[v, .float .f64 p] w (More W0 (nx (p % 2 ^ 63) q)) := by
  obtain ⟨hpl, hpz⟩ := lik_rung hp
  have hsub := run_sub (sub_lik hp)
  have HP := hide hp
  have HQ := hide (And.intro hq hpl)
  obtain ⟨n, hn⟩ : ∃ n, n = q.length := ⟨_, rfl⟩
  have HN := hide hn
  obtain ⟨i0, hi, hz0, hz1, hz2⟩ := info_parts Try.info27
  have HI := hide (And.intro hi (And.intro hz0 (And.intro hz1 hz2)))
  obtain rfl := hrow.val
  rw [← hn] at h1 hl hrow ⊢
  have hown := hrow.own
  rw [← hn] at hown
  have hgs := row_lt (hrow.heap.choose_spec.1)
  have HR := hide (And.intro hown (And.intro hg (And.intro hrow.low hgs)))
  clear hi hz0 hz1 hz2 hrow hg hq hp hpl hpz hn hown hgs
  have HRR := hide (fun a => st_zero (p % 2 ^ 63) a)
  have HST : Hid (∀ a b, st (p % 2 ^ 63) a b = rnd (val (rnd (val a * val (rr (p % 2 ^ 63))) 1074) + val (rnd (val b * val (p % 2 ^ 63)) 1074)) 0) := fun a b => rfl
  have HRL := hide (rr_le (p % 2 ^ 63))
  generalize rr (p % 2 ^ 63) = r at *
  have hw1 : IntKind.i64.wrap (((n + 1 : Nat) : Int) - 1) = (n : Int) := by rw [IntKind.wrap_i64]; omega
  go_enter Try.func22, Try.ntmps22
  go_wp2_with (at_builtin; refine wpList_append_own _ rfl (.tmp 9) (.tmp 10) 23 rfl W0.heap.size 27 i0 (.float .f64 0) 1 8 Try.underlying23 HI.out.1 HI.out.2.1 HI.out.2.2.1 HI.out.2.2.2 rfl (by decide) _ _ _ rfl (HR.out.1.alloc _) ⟨w.heap.size, 0, none⟩ 1 1 [.float .f64 0] rfl rfl (cell_one_new _ _ _) (by simp [Value.oneCell']) (by unfold maxLen; omega) (by omega) (by have := HR.out.2.1.size; simp; omega) ?_)
  intro v' w1 hown' hgrow _
  have HN1 : Hid ((∃ g' c', Row w1 W0.heap.size v' g' c' (q ++ [0])) ∧ W0.grownBy w1 none) := by
    refine ⟨row_of (n := n + 1) (by rw [fv_append]; exact hown') (by simp), grown_then (grown_trans HR.out.2.1 (World.grownBy_alloc w _ none)) hgrow (fun k e => ?_)⟩
    simp [Value.ownBlock] at e
    exact Or.inl (by rw [← e]; exact HR.out.2.2.1)
  clear hown' hgrow
  obtain ⟨⟨g', c', hrow'⟩, hg1⟩ := HN1.out
  have hlen : (q ++ [0]).length = n + 1 := by rw [List.length_append, ← HN.out]; rfl
  obtain ⟨-⟩ : True := trivial
  have hv := hrow'.val
  rw [hlen] at hv
  subst hv
  have HM := hide (And.intro hrow' (And.intro hg1 (Md.start (p % 2 ^ 63) q)))
  rw [← HN.out] at HM
  clear hrow' hg1 HN1 HR
  go_wp2
  go_loopg [6] n (fun k i wr => ∃ (j : Nat) (L : List Nat), k = j ∧ j ≤ n ∧ i = .int .i64 (j : Int) ∧ Hid (Row wr W0.heap.size (.slice (some ⟨g', 0, none⟩) (n + 1) c') g' c' L ∧ W0.grownBy wr none ∧ Md (p % 2 ^ 63) q j L))
  case atStart => exact ⟨n, q ++ [0], rfl, Nat.le_refl _, rfl, HM⟩
  case round =>
    obtain ⟨j, L, rfl, hjn, rfl, HL⟩ := hrel
    have hLl : L.length = n + 1 := by rw [HL.out.2.2.1, ← HN.out]
    by_cases hk : 0 < gk
    · obtain ⟨m, hm⟩ : ∃ m, gk = m + 1 := ⟨gk - 1, by omega⟩
      have hc1 := HL.out.1.cell gk (by omega)
      have hc2 := HL.out.1.cell m (by omega)
      have hfr := HL.out.1.free gk
      have hNN := HN.out
      rw [HL.out.2.2.2 gk (by omega), if_pos (Nat.le_refl _)] at hc1
      rw [HL.out.2.2.2 m (by omega), if_pos (by omega)] at hc2
      have hx := HQ.out.1.getD gk
      have hy := HQ.out.1.getD m
      have hstl := st_le HQ.out.2 hx hy
      have HS := hide (show Md (p % 2 ^ 63) q m (L.set gk (st (p % 2 ^ 63) (q.getD gk 0) (q.getD m 0))) by have := HL.out.2.2; rw [hm] at this ⊢; exact this.step (by omega))
      have hm1 := run_mul (mul_low hx HRL.out)
      have hm2 := run_mul (mul_lik hy HP.out)
      have ha := HST.out (q.getD gk 0) (q.getD m 0)
      generalize hxx : q.getD gk 0 = x at *
      generalize hyy : q.getD m 0 = y at *
      generalize hzz : st (p % 2 ^ 63) x y = z at *
      have ha1 := prod_le_one hx HRL.out
      have hadd := run_add (add_lik ha1 hy HP.out (by rw [← ha]; exact low_fin hstl))
      rw [← ha] at hadd
      clear ha hxx hyy hzz hx hy hstl hNN
      generalize rnd (val x * val r) 1074 = a1 at *
      generalize mw y p = a2 at *
      have HG := hide hm
      have hwm : IntKind.i64.wrap ((gk : Int) - 1) = (m : Int) := by rw [IntKind.wrap_i64]; omega
      have hm0 : (m : Int) < (n : Int) + 1 := by omega
      have hg0 : (gk : Int) < (n : Int) + 1 := by omega
      have hgz : (0 : Int) ≤ (gk : Int) := by omega
      have hmz : (0 : Int) ≤ (m : Int) := by omega
      have hgp : (0 : Int) < (gk : Int) := by omega
      clear hm ha1 hLl
      go_wp2
      go_region
      go_wp2
      go_roundg m
      case measure => have := HG.out; omega
      case rel =>
        have hL := HL.out
        have hset := hL.1.set gk z (by rw [hL.2.2.1]; have := HN.out; omega)
        exact ⟨m, L.set gk z, rfl, by have := HG.out; omega, rfl, hset.kept (grown_drew _ none) (by simp), grown_then hL.2.1 (grown_trans (grown_setCell _ _ _ _) (grown_drew _ _)) (fun k e => by cases e; exact Or.inl hL.1.low), HS.out⟩
    · obtain rfl : gk = 0 := by omega
      have hc1 := HL.out.1.cell 0 (by omega)
      have hfr := HL.out.1.free 0
      rw [HL.out.2.2.2 0 (by omega), if_pos (Nat.le_refl _)] at hc1
      have hx := HQ.out.1.getD 0
      have HS := hide HL.out.2.2.last
      have hm1 := run_mul (mul_low hx HRL.out)
      rw [← HRR.out] at hm1
      generalize hxx : q.getD 0 0 = x at *
      generalize hzz : st (p % 2 ^ 63) x 0 = z at *
      clear hxx hzz hx hLl
      have hg0 : (0 : Int) < (n : Int) + 1 := by omega
      go_wp2
      trace_state
      go_ret
      have hL := HL.out
      have hset := hL.1.set 0 z (by rw [hL.2.2.1]; have := HN.out; omega)
      rw [HS.out] at hset
      exact ⟨_, _, _, rfl, hset, grown_then hL.2.1 (grown_setCell _ _ _ _) (fun k e => by cases e; exact Or.inl hL.1.low)⟩
end Go.Proofs.Ytdhpjjbjgnnddab
