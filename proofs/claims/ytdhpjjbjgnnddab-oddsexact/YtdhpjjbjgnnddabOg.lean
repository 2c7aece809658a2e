/- The contract of Limit. -/
import Derived.Test.YtdhpjjbjgnnddabOf
import Derived.Deep.CutRange
import Derived.Deep.DeepCutAuto
namespace Go.Proofs.Ytdhpjjbjgnnddab
open Go.RowKit
attribute [local go_sem ↓] Go.wp_at_zero Go.wp_at_succ
attribute [local go_sem] run_store_float

/-- How many are looked at, at most. -/
def lst (s : Nat) : Nat := min 4096 (4 * s + 16)
/-- Which number Limit tells: of s seats, a likelihood's and a risk's rung. -/
def Lm (s p risk N : Nat) : Prop := s ≤ N ∧ N ≤ lst s ∧ (∀ m, s < m → m ≤ N → ¬ risk < sm (rw' p m) (s + 1)) ∧ (N = lst s ∨ risk < sm (rw' p (N + 1)) (s + 1))
theorem lm_one {s p risk N M : Nat} (h : Lm s p risk N) (k : Lm s p risk M) : N = M := by
  obtain ⟨h1, h2, h3, h4⟩ := h
  obtain ⟨k1, k2, k3, k4⟩ := k
  apply Classical.byContradiction
  intro hne
  rcases Nat.lt_or_ge N M with hl | hl
  · rcases h4 with h4 | h4
    · omega
    · exact k3 (N + 1) (by omega) (by omega) h4
  · rcases k4 with k4 | k4
    · omega
    · exact h3 (M + 1) (by omega) (by omega) k4

theorem limit_arg (n : Int) (p r : Nat) (w : World) (hn : n < 0 ∨ 1024 < n) : Calls Try.prog 16 #[.int .i64 n, .float .f64 p, .float .f64 r] w fun e w' => e = .returned (.tuple #[.int .i64 0, .int .i64 2]) ∧ w' = w := by
  rcases hn with h | h
  · go_enter Try.func16, Try.ntmps16
    go_wp2
    go_ret2
    exact ⟨rfl, rfl⟩
  · have h0 : ¬ n < 0 := by omega
    go_enter Try.func16, Try.ntmps16
    go_wp2
    go_ret2
    exact ⟨rfl, rfl⟩
theorem limit_real (n : Int) (p r : Nat) (w : World) (hn : ¬ (n < 0 ∨ 1024 < n)) (hp : lik p = false ∨ lik r = false) : Calls Try.prog 16 #[.int .i64 n, .float .f64 p, .float .f64 r] w fun e w' => e = .returned (.tuple #[.int .i64 0, .int .i64 250]) ∧ w' = w := by
  have h0 : ¬ n < 0 := by omega
  have h1 : ¬ 1024 < n := by omega
  have C := hide (fun w => isL_any p w)
  have D := hide (fun w => isL_any r w)
  by_cases hpp : lik p = false
  · rw [hpp] at C
    clear hp hn hpp
    go_enter Try.func16, Try.ntmps16
    go_wp2_with fail
    refine (C.out _).mono ?_
    rintro e w1 ⟨rfl, rfl⟩
    go_wp2
    go_ret2
    exact ⟨rfl, rfl⟩
  · have hr : lik r = false := by
      rcases hp with h | h
      · exact absurd h hpp
      · exact h
    have hpt : lik p = true := by simpa using hpp
    rw [hpt] at C
    rw [hr] at D
    clear hp hn hpp hr hpt
    go_enter Try.func16, Try.ntmps16
    go_wp2_with fail
    refine (C.out _).mono ?_
    rintro e w1 ⟨rfl, rfl⟩
    go_wp2_with fail
    refine (D.out _).mono ?_
    rintro e w1 ⟨rfl, rfl⟩
    go_wp2
    go_ret2
    exact ⟨rfl, rfl⟩

/-- What Limit tells. -/
def Lt (s p risk : Nat) (e : Ending) : Prop := ∃ N : Nat, e = .returned (.tuple #[.int .i64 (N : Int), .int .i64 0]) ∧ Lm s (p % 2 ^ 63) (risk % 2 ^ 63) N

set_option maxHeartbeats 1000000 in
theorem limit_any (s p risk : Nat) (w : World) (hs : s ≤ 1024) (hp : lik p = true) (hr : lik risk = true) :
    Calls Try.prog 16 #[.int .i64 (s : Int), .float .f64 p, .float .f64 risk] w fun e w' => Lt s p risk e ∧ w.grownBy w' none := by
  have h0 : ¬ (s : Int) < 0 := by omega
  have h1 : ¬ 1024 < (s : Int) := by omega
  have C := hide (fun w => isL_any p w)
  have D := hide (fun w => isL_any risk w)
  rw [hp] at C
  rw [hr] at D
  have HP := hide (And.intro hp (And.intro hr (lik_rung hp).1))
  clear hp hr
  have hw1 : IntKind.i64.wrap (4 * (s : Int)) = ((4 * s : Nat) : Int) := by rw [IntKind.wrap_i64]; omega
  have hw2 : IntKind.i64.wrap (((4 * s : Nat) : Int) + 16) = ((4 * s + 16 : Nat) : Int) := by rw [IntKind.wrap_i64]; omega
  obtain ⟨u, hu⟩ : ∃ u, u = 4 * s + 16 := ⟨_, rfl⟩
  rw [← hu] at hw2
  obtain ⟨t, ht⟩ : ∃ t, t = 4 * s := ⟨_, rfl⟩
  rw [← ht] at hw1 hw2
  have hls : lst s = min 4096 u := by unfold lst; rw [hu]
  have HU := hide (And.intro hls (And.intro hu ht))
  have hub : u ≤ 5000 := by omega
  clear hls hu ht
  go_enter Try.func16, Try.ntmps16
  go_wp2_with fail
  refine (C.out _).mono ?_
  rintro e w1 ⟨rfl, rfl⟩
  go_wp2_with fail
  refine (D.out _).mono ?_
  rintro e w1 ⟨rfl, rfl⟩
  go_upto_region 5 with fail
  go_cut [8] from 25 to 28 (fun v wx => v = .int .i64 ((lst s : Nat) : Int) ∧ wx = w1)
  case first =>
    rcases Nat.lt_or_ge u 4096 with hm | hm
    · have hm' : (u : Int) < 4096 := by omega
      have hmm : ((lst s : Nat) : Int) = (u : Int) := by rw [HU.out.1]; omega
      have HMM := hide hmm
      clear hmm hm hub
      go_wp2
      go_meet
      case rel => exact ⟨by rw [HMM.out], rfl⟩
    · have hm' : (4096 : Int) ≤ (u : Int) := by omega
      have hmm : ((lst s : Nat) : Int) = 4096 := by rw [HU.out.1]; omega
      have HMM := hide hmm
      clear hmm hm hub
      go_wp2
      go_meet
      case rel => exact ⟨by rw [HMM.out], rfl⟩
  case rest =>
  obtain ⟨rfl, hw⟩ := hcut
  obtain rfl := hw.symm
  clear hw C D
  have hlo : s ≤ lst s := by rw [HU.out.1, HU.out.2.1]; omega
  have hhi : lst s ≤ 4096 := by rw [HU.out.1]; omega
  clear HU hw1 hw2 hub
  generalize hla : lst s = la at *
  have HLA := hide hla
  clear hla
  go_wp2_with fail
  refine (nobody_any w1 la w1 hhi (grown_refl _ _)).mono ?_
  rintro e w2 ⟨v2, g2, c2, rfl, hrow2, hg2⟩
  go_wp2_with fail
  refine (withMore_any w1 v2 g2 c2 s p w2 hrow2 hg2 (by omega) HP.out.1).mono ?_
  rintro e w3 ⟨v3, g3, c3, rfl, hrow3, hg3⟩
  have HR := hide (And.intro hrow3 hg3)
  obtain rfl := hrow2.val
  obtain rfl := hrow3.val
  clear hrow2 hg2 hrow3 hg3
  go_wp2
  go_loopg [9, 10] (la - s) (fun k v i wr => ∃ (j g c : Nat), k + j = la ∧ s ≤ j ∧ i = .int .i64 (j : Int) ∧ Hid (Row wr w1.heap.size v g c (rw' (p % 2 ^ 63) j) ∧ w1.grownBy wr none ∧ ∀ m, s < m → m ≤ j → ¬ risk % 2 ^ 63 < sm (rw' (p % 2 ^ 63) m) (s + 1)))
  case atStart => exact ⟨s, g3, c3, by omega, Nat.le_refl _, rfl, HR.out.1, HR.out.2, fun m h1 h2 => by omega⟩
  case round =>
    obtain ⟨j, g, c, hkj, hsj, rfl, HL⟩ := hrel
    by_cases hk : 0 < gk
    · have hj : (j : Int) < (la : Int) := by omega
      have hw : IntKind.i64.wrap ((j : Int) + 1) = ((j + 1 : Nat) : Int) := by rw [IntKind.wrap_i64]; omega
      have hlen := row_length (p % 2 ^ 63) j
      have hlen2 := row_length (p % 2 ^ 63) (j + 1)
      have HC := hide (more_any w1 _ g c p (rw' (p % 2 ^ 63) j) wr HL.out.1 HL.out.2.1 (row_low HP.out.2.2 j) (by omega) (by omega) HP.out.1)
      have HQ := hide (And.intro (row_low HP.out.2.2 (j + 1)) (show (rw' (p % 2 ^ 63) (j + 1)).length ≤ 8192 by omega))
      have HS := hide (sm_fin HQ.out.1 HQ.out.2 (s + 1))
      have hps : pl (s : Int) = s + 1 := by unfold pl; omega
      have hgt := gt_lik HS.out HP.out.2.1
      have HJ := hide (fun (h : ¬ risk % 2 ^ 63 < sm (rw' (p % 2 ^ 63) (j + 1)) (s + 1)) m (h1 : s < m) (h2 : m ≤ j + 1) => show ¬ risk % 2 ^ 63 < sm (rw' (p % 2 ^ 63) m) (s + 1) by
        by_cases he : m = j + 1
        · subst he; exact h
        · exact HL.out.2.2 m h1 (by omega))
      have HF := hide (And.intro hsj (And.intro (show j ≤ la by omega) HL.out.2.2))
      rw [show nx (p % 2 ^ 63) (rw' (p % 2 ^ 63) j) = rw' (p % 2 ^ 63) (j + 1) from rfl] at HC
      clear hlen hlen2
      generalize hqq : rw' (p % 2 ^ 63) (j + 1) = q at *
      have HQQ := hide hqq
      clear hqq
      go_wp2_with fail
      refine HC.out.mono ?_
      rintro e w4 ⟨v4, g4, c4, rfl, hrow4, hg4⟩
      obtain ⟨ao, cap, e1, h1, h2, h3, hat, -⟩ := hrow4.own |> own_at
      have HM := hide (And.intro hrow4 hg4)
      have HA := hide hat
      obtain rfl := e1
      clear hrow4 hg4 HC hat h1 h2 h3
      go_wp2_with fail
      refine (sum_any ao cap q s w4 HA.out HQ.out.1 HQ.out.2 (by omega) (by omega)).mono ?_
      rintro e w5 ⟨rfl, hw5⟩
      obtain rfl := hw5.symm
      clear hw5
      rw [hps]
      by_cases hgo : risk % 2 ^ 63 < sm q (s + 1)
      · rw [decide_eq_true hgo] at hgt
        have HGO := hide hgo
        generalize hz : sm q (s + 1) = z at *
        have HZ := hide hz
        clear hgo hz
        go_wp2
        go_ret2
        refine ⟨⟨j, rfl, HF.out.1, by rw [HLA.out]; exact HF.out.2.1, HF.out.2.2, Or.inr ?_⟩, HM.out.2⟩
        rw [HQQ.out, HZ.out]; exact HGO.out
      · rw [decide_eq_false hgo] at hgt
        have HGO := hide (HJ.out hgo)
        generalize sm q (s + 1) = z at *
        clear hgo
        go_wp2
        go_roundg (gk - 1)
        case measure => omega
        case rel => exact ⟨j + 1, g4, c4, by omega, by omega, by go_num, by rw [HQQ.out]; exact HM.out.1, HM.out.2, HGO.out⟩
    · obtain rfl : j = la := by omega
      go_wp2
      go_ret2
      exact ⟨⟨j, rfl, by omega, by rw [HLA.out]; exact Nat.le_refl _, HL.out.2.2, Or.inl HLA.out.symm⟩, HL.out.2.1⟩
end Go.Proofs.Ytdhpjjbjgnnddab
