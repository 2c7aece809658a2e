/- Contracts of odds' small functions: a likelihood, a sum, the row of one more. -/
import Derived.Test.YtdhpjjbjgnnddabOb
namespace Go.Proofs.Ytdhpjjbjgnnddab
open Go.RowKit
attribute [local go_sem ↓] Go.wp_at_zero Go.wp_at_succ

theorem lik_no {p : Nat} (h : ¬ (FloatKind.f64.format.order p 0 = some Ordering.gt ∨ FloatKind.f64.format.order p 0 = some Ordering.eq)) : lik p = false := by
  have : ge0 p = false := by
    unfold ge0
    simpa using h
  unfold lik; rw [this]; rfl

theorem isL_any (p : Nat) (w : World) : Calls Try.prog 13 #[.float .f64 p] w fun e w' => e = .returned (.bool (lik p)) ∧ w' = w := by
  go_enter Try.func13, Try.ntmps13
  go_wp2
  · go_ret
    exact ⟨rfl, rfl⟩
  · rename_i h
    rw [lik_no h]
    go_ret
    exact ⟨rfl, rfl⟩
/-- Where the sum begins. -/
def pl (place : Int) : Nat := (place + 1).toNat
theorem run_add {s q r : Nat} (h : floatBits .add .f64 s q = some r) (w : World) : (binOp .add 27 (.float .f64 s) (.float .f64 q)).run Try.prog w = .ok (.float .f64 r) w := run_float_arith w _ _ _ _ _ _ h
theorem run_mul {s q r : Nat} (h : floatBits .mul .f64 s q = some r) (w : World) : (binOp .mul 27 (.float .f64 s) (.float .f64 q)).run Try.prog w = .ok (.float .f64 r) w := run_float_arith w _ _ _ _ _ _ h
theorem run_sub {s q r : Nat} (h : floatBits .sub .f64 s q = some r) (w : World) : (binOp .sub 27 (.float .f64 s) (.float .f64 q)).run Try.prog w = .ok (.float .f64 r) w := run_float_arith w _ _ _ _ _ _ h

set_option maxHeartbeats 1000000 in
theorem sum_any (ao : Option Addr) (c : Nat) (q : List Nat) (place : Int) (w : World) (hat : At w ao q) (hq : Low q) (hl : q.length ≤ 8192) (hp1 : -9223372036854775808 ≤ place) (hp2 : place ≤ 9223372036854775807) :
    Calls Try.prog 23 #[.slice ao q.length c, .int .i64 place] w fun e w' => e = .returned (.float .f64 (sm q (pl place))) ∧ w' = w := by
  have HQ := hide (And.intro hat (And.intro hq hl))
  have hn : ∃ n, n = q.length := ⟨_, rfl⟩
  obtain ⟨n, hn⟩ := hn
  have HN := hide hn
  rw [← hn]
  have hw1 : IntKind.i64.wrap ((n : Int) - 1) = (n : Int) - 1 := by rw [IntKind.wrap_i64]; omega
  clear hat hq
  rw [← hn] at hl
  clear hn
  go_enter Try.func23, Try.ntmps23
  go_wp2
  go_loopg [5, 6] n (fun k s i wr => ∃ m : Nat, k = m ∧ m ≤ n ∧ i = .int .i64 ((m : Int) - 1) ∧ s = .float .f64 (sm q m) ∧ (place < m ∨ m = n) ∧ wr = w)
  case atStart => exact ⟨n, rfl, Nat.le_refl _, rfl, by rw [sm_end q n (by rw [HN.out]; omega)], Or.inr rfl, rfl⟩
  case round =>
    obtain ⟨m, rfl, hm, rfl, rfl, hpm, rfl⟩ := hrel
    by_cases hgo : 0 < gk ∧ place < (gk : Int) - 1
    · obtain ⟨h0, h1⟩ := hgo
      have h2 : (0 : Int) ≤ (gk : Int) - 1 := by omega
      obtain ⟨m, rfl⟩ : ∃ m, gk = m + 1 := ⟨gk - 1, by omega⟩
      have e1 : ((m + 1 : Nat) : Int) - 1 = (m : Int) := by omega
      rw [e1] at h1 h2 ⊢
      have hlt : (m : Int) < (n : Int) := by omega
      have hmn : m < q.length := by rw [← HN.out]; omega
      obtain ⟨a, rfl, hc⟩ := HQ.out.1 m (q.getD m 0) (by rw [List.getD_eq_getElem?_getD, List.getElem?_eq_getElem hmn]; rfl)
      have hs := sm_step q m hmn
      have hadd := add_low (sm_fin HQ.out.2.1 HQ.out.2.2 (m + 1)) (low_fin (HQ.out.2.1.getD m)) (by rw [← hs]; exact sm_fin HQ.out.2.1 HQ.out.2.2 m)
      rw [← hs] at hadd
      have hr := run_add hadd
      have hw2 : IntKind.i64.wrap ((m : Int) - 1) = (m : Int) - 1 := by rw [IntKind.wrap_i64]; omega
      have HP := hide h1
      clear hadd hs e1 hpm h0
      generalize q.getD m 0 = x at *
      generalize hsm : sm q (m + 1) = s1 at *
      generalize hsm2 : sm q m = s2 at *
      have HS := hide hsm2
      clear hsm2 hsm
      go_wp2
      go_roundg m
      case measure => omega
      case rel => exact ⟨m, rfl, by omega, rfl, by rw [HS.out], Or.inl (by have := HP.out; omega), rfl⟩
    · have hres : sm q (pl place) = sm q gk := by
        unfold pl
        have hnl := HN.out
        by_cases h0 : gk = 0
        · subst h0
          rcases hpm with h | h
          · have : (place + 1).toNat = 0 := by omega
            rw [this]
          · have : q.length = 0 := by omega
            rw [sm_end q _ (by omega), sm_end q _ (by omega)]
        · rcases hpm with h | h
          · have : (place + 1).toNat = gk := by omega
            rw [this]
          · rw [sm_end q _ (by omega), sm_end q _ (by omega)]
      have HR := hide hgo
      have HRES := hide hres
      by_cases h0 : 0 < gk
      · have h1 : (gk : Int) - 1 ≤ place := by have := HR.out; omega
        have h2 : (0 : Int) ≤ (gk : Int) - 1 := by omega
        clear hgo hpm hres
        generalize sm q gk = s at *
        generalize (gk : Int) - 1 = kk at *
        have hdec : decide (place < kk) = false := by simpa using h1
        go_wp2
        go_ret
        exact ⟨by rw [HRES.out]; rfl, rfl⟩
      · have : gk = 0 := by omega
        subst this
        clear hgo hpm hres h0
        generalize sm q 0 = s at *
        go_wp2
        go_ret
        exact ⟨by rw [HRES.out]; rfl, rfl⟩
end Go.Proofs.Ytdhpjjbjgnnddab
