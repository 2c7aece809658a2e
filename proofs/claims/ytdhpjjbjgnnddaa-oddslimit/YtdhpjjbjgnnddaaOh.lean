/- Contracts of the document's row of one more, its Shows, Above. -/
import Derived.Test.YtdhpjjbjgnnddaaOg
namespace Go.Proofs.Ytdhpjjbjgnnddaa
open Go.RowKit
attribute [local go_sem ↓] Go.wp_at_zero Go.wp_at_succ
attribute [local go_sem] run_store_float

/-- The float of a number in a row; 0, where there is none. -/
def atq (q : List Nat) (k : Int) : Nat := if k < 0 then 0 else q.getD k.toNat 0

set_option maxHeartbeats 1000000 in
theorem at_any (ao : Option Addr) (n c : Nat) (q : List Nat) (k : Int) (w : World) (hat : At w ao q) (hn : n = q.length) :
    Calls Try.prog 36 #[.slice ao n c, .int .i64 k] w fun e w' => e = .returned (.float .f64 (atq q k)) ∧ w' = w := by
  by_cases h0 : k < 0
  · have hr : atq q k = 0 := by unfold atq; rw [if_pos h0]
    rw [hr]
    clear hr hat hn
    go_enter Try.func36, Try.ntmps36
    go_wp2
    go_ret
    exact ⟨rfl, rfl⟩
  · by_cases h1 : (n : Int) ≤ k
    · have hr : atq q k = 0 := by
        unfold atq; rw [if_neg h0, List.getD_eq_getElem?_getD, List.getElem?_eq_none (by omega)]; rfl
      rw [hr]
      clear hr hat hn
      have h2 : 0 ≤ k := by omega
      go_enter Try.func36, Try.ntmps36
      go_wp2
      go_ret
      exact ⟨rfl, rfl⟩
    · obtain ⟨m, rfl⟩ : ∃ m : Nat, k = (m : Int) := ⟨k.toNat, by omega⟩
      have hmn : m < q.length := by omega
      have hr : atq q (m : Int) = q.getD m 0 := by unfold atq; rw [if_neg h0]; rfl
      rw [hr]
      obtain ⟨a, rfl, hc⟩ := hat m (q.getD m 0) (by rw [List.getD_eq_getElem?_getD, List.getElem?_eq_getElem hmn]; rfl)
      have h2 : (m : Int) < (n : Int) := by omega
      clear hr hat hn
      generalize q.getD m 0 = x at *
      clear hmn
      go_enter Try.func36, Try.ntmps36
      go_wp2
      go_ret
      exact ⟨rfl, rfl⟩

theorem atq_cast (q : List Nat) (m : Nat) : atq q (m : Int) = q.getD m 0 := by
  unfold atq; rw [if_neg (by omega)]; rfl
theorem atq_pred (q : List Nat) (m : Nat) : atq q ((m : Int) - 1) = if m = 0 then 0 else q.getD (m - 1) 0 := by
  unfold atq
  by_cases h : m = 0
  · subst h; rfl
  · rw [if_neg (by omega), if_neg h]; congr 1; omega
theorem nx_take (p : Nat) (q : List Nat) (j : Nat) (h : j ≤ q.length) : (nx p q).take (j + 1) = (nx p q).take j ++ [st p (q.getD j 0) (if j = 0 then 0 else q.getD (j - 1) 0)] := by
  rw [List.take_add_one, nx_get p q j h]; rfl
theorem Low.at {q : List Nat} (h : Low q) (k : Int) : atq q k ≤ 4607182418800017408 := by
  unfold atq
  split
  · omega
  · exact h.getD _

theorem own_low {w : World} {base n k : Nat} {v : Value} {xs : List Value} (h : w.ownsRow base 26 1 v n xs) (e : some k = v.ownBlock ∨ v.ownBlock = some k) : base ≤ k := by
  obtain ⟨-, h⟩ := h
  rcases h with ⟨rfl, -⟩ | ⟨g, cap, cur, rfl, hb, -⟩
  · simp [Value.ownBlock] at e
  · simp [Value.ownBlock] at e; omega

set_option maxHeartbeats 1000000 in
theorem next_any (W0 : World) (ao : Option Addr) (cap p n : Nat) (q : List Nat) (w : World) (hat : At w ao q) (hg : W0.grownBy w none) (hn : n = q.length) (hq : Low q) (hl : n ≤ 8000) (hp : lik p = true) :
    Calls Try.prog 32 #[.slice ao n cap, .float .f64 p] w (More W0 (nx (p % 2 ^ 63) q)) := by
  obtain ⟨i0, hi, hz0, hz1, hz2⟩ := info_parts Try.info26
  obtain ⟨w1, hmk, hown, hg1⟩ := run_make_own (P := Try.prog) w w.heap.size 22 26 i0 (.float .f64 0) 1 Try.underlying22 hi hz0 hz1 .i64 .i64 (n + 1) (by rw [hz2]; omega) (by unfold maxLen; omega) (Nat.le_refl _)
  have e : ((n + 1 : Nat) : Int) = (n : Int) + 1 := by omega
  rw [e] at hmk
  clear e
  have hw1 : IntKind.i64.wrap ((n : Int) + 1) = (n : Int) + 1 := by rw [IntKind.wrap_i64]; omega
  have HI := hide (And.intro hi (And.intro hz0 (And.intro hz1 hz2)))
  have HR := hide (And.intro hown hg1)
  have HP := hide (And.intro hp (lik_rung hp).1)
  have HQ := hide (And.intro hat (And.intro hg (And.intro hn hq)))
  have hsub := run_sub (sub_lik hp)
  have HST : Hid (∀ a b, st (p % 2 ^ 63) a b = rnd (val (rnd (val a * val (rr (p % 2 ^ 63))) 1074) + val (rnd (val b * val (p % 2 ^ 63)) 1074)) 0) := fun a b => rfl
  have HRL := hide (rr_le (p % 2 ^ 63))
  clear hi hz0 hz1 hz2 hown hg1 hat hg hn hq hp
  generalize rr (p % 2 ^ 63) = r at *
  go_enter Try.func32, Try.ntmps32
  go_wp2
  go_loopg [6, 7] (n + 1) (fun k v i wr => ∃ j : Nat, k + j = n + 1 ∧ i = .int .i64 (j : Int) ∧ Hid (wr.ownsRow w.heap.size 26 1 v j (fv ((nx (p % 2 ^ 63) q).take j)) ∧ w.grownBy wr none))
  case atStart => exact ⟨0, rfl, rfl, HR.out.1, HR.out.2⟩
  case round =>
    obtain ⟨j, hkj, rfl, HL⟩ := hrel
    by_cases hk : 0 < gk
    · have h1 : (j : Int) ≤ (n : Int) := by omega
      have hw : IntKind.i64.wrap ((j : Int) + 1) = (j : Int) + 1 := by rw [IntKind.wrap_i64]; omega
      have hw2 : IntKind.i64.wrap ((j : Int) - 1) = (j : Int) - 1 := by rw [IntKind.wrap_i64]; omega
      have C1 := hide (at_any ao n cap q (j : Int) wr (HQ.out.1.grown HL.out.2) HQ.out.2.2.1)
      have C2 := hide (at_any ao n cap q ((j : Int) - 1) wr (HQ.out.1.grown HL.out.2) HQ.out.2.2.1)
      have hx := HQ.out.2.2.2.at (j : Int)
      have hy := HQ.out.2.2.2.at ((j : Int) - 1)
      have hm1 := run_mul (mul_low hx HRL.out)
      have hm2 := run_mul (mul_lik hy HP.out.1)
      have hstl := st_le HP.out.2 hx hy
      have ha := HST.out (atq q (j : Int)) (atq q ((j : Int) - 1))
      have ha1 := prod_le_one hx HRL.out
      have hadd := run_add (add_lik ha1 hy HP.out.1 (by rw [← ha]; exact low_fin hstl))
      rw [← ha] at hadd
      have HT := hide (show (nx (p % 2 ^ 63) q).take (j + 1) = (nx (p % 2 ^ 63) q).take j ++ [st (p % 2 ^ 63) (atq q (j : Int)) (atq q ((j : Int) - 1))] by
        rw [atq_cast, atq_pred]; exact nx_take _ _ _ (by have := HQ.out.2.2.1; omega))
      clear ha hx hy hstl ha1
      generalize atq q (j : Int) = x at *
      generalize atq q ((j : Int) - 1) = y at *
      generalize st (p % 2 ^ 63) x y = z at *
      generalize rnd (val x * val r) 1074 = a1 at *
      generalize mw y p = a2 at *
      go_wp2_with fail
      refine C1.out.mono ?_
      rintro e wa ⟨rfl, hwa⟩
      obtain rfl := hwa.symm
      clear hwa
      go_wp2_with fail
      refine C2.out.mono ?_
      rintro e wa ⟨rfl, hwa⟩
      obtain rfl := hwa.symm
      clear hwa
      go_wp2_with (at_builtin; refine wpList_append_own _ rfl (.tmp 33) (.tmp 37) 22 rfl w.heap.size 26 i0 (.float .f64 0) 1 8 Try.underlying22 HI.out.1 HI.out.2.1 HI.out.2.2.1 HI.out.2.2.2 rfl (by decide) _ _ _ rfl (HL.out.1.alloc _) ⟨wr.heap.size, 0, none⟩ 1 1 [.float .f64 z] rfl rfl (cell_one_new _ _ _) (by simp [Value.oneCell']) (by unfold maxLen; omega) (by omega) (by have := HL.out.2.size; simp; omega) ?_)
      intro v' w2 hown' hgrow _
      have HN : Hid (w2.ownsRow w.heap.size 26 1 v' (j + 1) (fv ((nx (p % 2 ^ 63) q).take (j + 1))) ∧ w.grownBy w2 none) := by
        refine ⟨?_, grown_then (grown_trans HL.out.2 (World.grownBy_alloc wr _ none)) hgrow (fun k e => ?_)⟩
        · rw [HT.out, fv_append]; exact hown'
        · exact Or.inl (own_low HL.out.1 (Or.inr e))
      clear hown' hgrow HL C1 C2
      go_wp2
      go_roundg (gk - 1)
      case measure => omega
      case rel => exact ⟨j + 1, by omega, by go_num, HN⟩
    · obtain rfl : j = n + 1 := by omega
      go_wp2
      go_ret
      have hlen : (nx (p % 2 ^ 63) q).length = n + 1 := by rw [nx_length]; have := HQ.out.2.2.1; omega
      have ho := HL.out.1
      rw [List.take_of_length_le (by omega)] at ho
      obtain ⟨g, c, hrow⟩ := row_of ho (by omega)
      have hgg := HQ.out.2.1
      exact ⟨_, g, c, rfl, ⟨hrow.val, Nat.le_trans hgg.size hrow.low, own_base (by rw [hlen]; exact ho) hgg.size⟩, grown_trans hgg HL.out.2⟩
end Go.Proofs.Ytdhpjjbjgnnddaa
