/- Shows and Limit of any numbers, both ways; OddsShows, OddsLimits walked. -/
import Derived.Test.YtdhpjjbjgnnddaaOn
namespace Go.Proofs.Ytdhpjjbjgnnddaa
open Go.RowKit
attribute [local go_sem ↓] Go.wp_at_zero Go.wp_at_succ
attribute [local go_sem] run_store_float

/-- The row that is told of any numbers. -/
def rX (n : Int) (p : Nat) : List Nat := if n < 0 ∨ 4096 < n then [] else if lik p = true then rw' (p % 2 ^ 63) n.toNat else []
theorem rX_length (n : Int) (p : Nat) : (rX n p).length ≤ 4097 := by
  unfold rX
  split
  · simp
  · split
    · rw [row_length]; omega
    · simp
/-- What Shows tells of any numbers. -/
def ShX (W0 : World) (n : Int) (p : Nat) (e : Ending) (w' : World) : Prop :=
  ∃ ao cap len, e = .returned (.tuple #[.slice ao len cap, .int .i64 (aE n p)]) ∧ len = (rX n p).length ∧ At w' ao (rX n p) ∧ W0.grownBy w' none
theorem shx_no {n : Int} {p : Nat} {w : World} {e : Ending} (h : rX n p = []) (he : e = .returned (.tuple #[.slice none 0 0, .int .i64 (aE n p)])) : ShX w n p e w :=
  ⟨none, 0, 0, he, by rw [h]; rfl, by rw [h]; exact At.nil _ _, grown_refl _ _⟩
theorem shx_yes {n : Nat} {p : Nat} {W0 w' : World} {e : Ending} (hn : n ≤ 4096) (hp : lik p = true) (h : Sh W0 p n e w') : ShX W0 (n : Int) p e w' := by
  obtain ⟨v, g, c, rfl, hrow, hg⟩ := h
  have e1 : rX (n : Int) p = rw' (p % 2 ^ 63) n := by unfold rX; rw [if_neg (by omega), if_pos hp]; rfl
  have e2 : aE (n : Int) p = 0 := by unfold aE; rw [if_neg (by omega), if_pos hp]
  obtain ⟨ao, cap, rfl, h1, h2, h3, hat, -⟩ := own_at hrow.own
  exact ⟨ao, cap, _, by rw [e2], by rw [e1], by rw [e1]; exact hat, hg⟩
theorem shows_all (n : Int) (p : Nat) (w : World) : Calls Try.prog 9 #[.int .i64 n, .float .f64 p] w (ShX w n p) := by
  by_cases hn : n < 0 ∨ 4096 < n
  · have e1 : rX n p = [] := by unfold rX; rw [if_pos hn]
    have e2 : aE n p = 2 := by unfold aE; rw [if_pos hn]
    refine (shows_arg n p w hn).mono ?_
    rintro e w' ⟨rfl, rfl⟩
    exact shx_no e1 (by rw [e2])
  · by_cases hp : lik p = true
    · obtain ⟨m, rfl⟩ : ∃ m : Nat, n = (m : Int) := ⟨n.toNat, by omega⟩
      exact (shows_any w m p w (grown_refl _ _) (by omega) hp).mono fun e w' h => shx_yes (by omega) hp h
    · have e1 : rX n p = [] := by unfold rX; rw [if_neg hn, if_neg hp]
      have e2 : aE n p = 250 := by unfold aE; rw [if_neg hn, if_neg hp]
      refine (shows_real n p w hn (by simpa using hp)).mono ?_
      rintro e w' ⟨rfl, rfl⟩
      exact shx_no e1 (by rw [e2])
theorem rshows_all (n : Int) (p : Nat) (w : World) : Calls Try.prog 16 #[.int .i64 n, .float .f64 p] w (ShX w n p) := by
  by_cases hn : n < 0 ∨ 4096 < n
  · have e1 : rX n p = [] := by unfold rX; rw [if_pos hn]
    have e2 : aE n p = 2 := by unfold aE; rw [if_pos hn]
    refine (rshows_arg n p w hn).mono ?_
    rintro e w' ⟨rfl, rfl⟩
    exact shx_no e1 (by rw [e2])
  · by_cases hp : lik p = true
    · obtain ⟨m, rfl⟩ : ∃ m : Nat, n = (m : Int) := ⟨n.toNat, by omega⟩
      exact (rshows_any w m p w (grown_refl _ _) (by omega) hp).mono fun e w' h => shx_yes (by omega) hp h
    · have e1 : rX n p = [] := by unfold rX; rw [if_neg hn, if_neg hp]
      have e2 : aE n p = 250 := by unfold aE; rw [if_neg hn, if_neg hp]
      refine (rshows_real n p w hn (by simpa using hp)).mono ?_
      rintro e w' ⟨rfl, rfl⟩
      exact shx_no e1 (by rw [e2])

/-- What Limit tells of any numbers. -/
def LtX (n : Int) (p r : Nat) (N er : Int) : Prop :=
  (n < 0 ∨ 1024 < n → N = 0 ∧ er = 2) ∧ (¬ (n < 0 ∨ 1024 < n) → lik p = false ∨ lik r = false → N = 0 ∧ er = 250) ∧
  (¬ (n < 0 ∨ 1024 < n) → lik p = true → lik r = true → er = 0 ∧ 0 ≤ N ∧ Lm n.toNat (p % 2 ^ 63) (r % 2 ^ 63) N.toNat)
theorem ltx_one {n : Int} {p r : Nat} {N M a b : Int} (h : LtX n p r N a) (k : LtX n p r M b) : N = M ∧ a = b := by
  obtain ⟨h1, h2, h3⟩ := h
  obtain ⟨k1, k2, k3⟩ := k
  by_cases hn : n < 0 ∨ 1024 < n
  · have := h1 hn; have := k1 hn; omega
  · by_cases hp : lik p = true
    · by_cases hr : lik r = true
      · obtain ⟨a1, a2, a3⟩ := h3 hn hp hr
        obtain ⟨b1, b2, b3⟩ := k3 hn hp hr
        have := lm_one a3 b3
        omega
      · have := h2 hn (Or.inr (by simpa using hr)); have := k2 hn (Or.inr (by simpa using hr)); omega
    · have := h2 hn (Or.inl (by simpa using hp)); have := k2 hn (Or.inl (by simpa using hp)); omega
theorem limit_all (n : Int) (p r : Nat) (w : World) : Calls Try.prog 12 #[.int .i64 n, .float .f64 p, .float .f64 r] w fun e w' => ∃ N er, e = .returned (.tuple #[.int .i64 N, .int .i64 er]) ∧ LtX n p r N er ∧ w.grownBy w' none := by
  by_cases hn : n < 0 ∨ 1024 < n
  · refine (limit_arg n p r w hn).mono ?_
    rintro e w' ⟨rfl, rfl⟩
    exact ⟨0, 2, rfl, ⟨fun _ => ⟨rfl, rfl⟩, fun h => absurd hn h, fun h => absurd hn h⟩, grown_refl _ _⟩
  · by_cases hp : lik p = true ∧ lik r = true
    · obtain ⟨m, rfl⟩ : ∃ m : Nat, n = (m : Int) := ⟨n.toNat, by omega⟩
      refine (limit_any m p r w (by omega) hp.1 hp.2).mono ?_
      rintro e w' ⟨⟨N, rfl, hN⟩, hg⟩
      exact ⟨N, 0, rfl, ⟨fun h => absurd h hn, fun _ h => by rw [hp.1, hp.2] at h; simp at h, fun _ _ _ => ⟨rfl, by omega, hN⟩⟩, hg⟩
    · have hbad : lik p = false ∨ lik r = false := by
        cases h1 : lik p <;> cases h2 : lik r <;> simp_all
      refine (limit_real n p r w hn hbad).mono ?_
      rintro e w' ⟨rfl, rfl⟩
      exact ⟨0, 250, rfl, ⟨fun h => absurd h hn, fun _ _ => ⟨rfl, rfl⟩, fun _ h1 h2 => absurd ⟨h1, h2⟩ hp⟩, grown_refl _ _⟩
theorem rlimit_all (n : Int) (p r : Nat) (w : World) : Calls Try.prog 19 #[.int .i64 n, .float .f64 p, .float .f64 r] w fun e w' => ∃ N er, e = .returned (.tuple #[.int .i64 N, .int .i64 er]) ∧ LtX n p r N er ∧ w.grownBy w' none := by
  by_cases hn : n < 0 ∨ 1024 < n
  · refine (rlimit_arg n p r w hn).mono ?_
    rintro e w' ⟨rfl, rfl⟩
    exact ⟨0, 2, rfl, ⟨fun _ => ⟨rfl, rfl⟩, fun h => absurd hn h, fun h => absurd hn h⟩, grown_refl _ _⟩
  · by_cases hp : lik p = true ∧ lik r = true
    · obtain ⟨m, rfl⟩ : ∃ m : Nat, n = (m : Int) := ⟨n.toNat, by omega⟩
      refine (rlimit_any m p r w (by omega) hp.1 hp.2).mono ?_
      rintro e w' ⟨⟨N, rfl, hN⟩, hg⟩
      exact ⟨N, 0, rfl, ⟨fun h => absurd h hn, fun _ h => by rw [hp.1, hp.2] at h; simp at h, fun _ _ _ => ⟨rfl, by omega, hN⟩⟩, hg⟩
    · have hbad : lik p = false ∨ lik r = false := by
        cases h1 : lik p <;> cases h2 : lik r <;> simp_all
      refine (rlimit_real n p r w hn hbad).mono ?_
      rintro e w' ⟨rfl, rfl⟩
      exact ⟨0, 250, rfl, ⟨fun h => absurd h hn, fun _ _ => ⟨rfl, rfl⟩, fun _ h1 h2 => absurd ⟨h1, h2⟩ hp⟩, grown_refl _ _⟩

set_option maxHeartbeats 1000000 in
theorem oddsLimits_any (n : Int) (p r : Nat) (w : World) : Calls Try.prog 5 #[.int .i64 n, .float .f64 p, .float .f64 r] w fun e w' => e = .returned (.bool true) ∧ w.grownBy w' none := by
  go_enter Try.func5, Try.ntmps5
  go_upto_region 1 with fail
  go_cut [16] from 11 to 16 (fun v wx => ∃ b : Bool, v = .bool b ∧ wx = w)
  case first =>
    by_cases h1 : 60 < n
    · by_cases h2 : n ≤ 1024
      · go_wp2
        go_meet
        case rel => exact ⟨_, rfl, rfl⟩
      · go_wp2
        go_meet
        case rel => exact ⟨_, rfl, rfl⟩
    · go_wp2
      go_meet
      case rel => exact ⟨_, rfl, rfl⟩
  case rest =>
  obtain ⟨b, rfl, hw⟩ := hcut
  obtain rfl := hw.symm
  clear hw
  go_upto_if 16 with fail
  go_cut [0] from 17 to 18 (fun v wx => ∃ m : Int, v = .int .i64 m ∧ wx = w)
  case first =>
    cases b
    · go_wp2
      go_meet
      case rel => exact ⟨_, rfl, rfl⟩
    · go_wp2
      go_meet
      case rel => exact ⟨_, rfl, rfl⟩
  case rest =>
  obtain ⟨m, rfl, hw⟩ := hcut
  obtain rfl := hw.symm
  clear hw
  go_wp2_with fail
  refine (limit_all m p r w).mono ?_
  rintro e w1 ⟨N, er, rfl, hN, hg1⟩
  go_wp2_with fail
  refine (rlimit_all m p r w1).mono ?_
  rintro e w2 ⟨M, er2, rfl, hM, hg2⟩
  obtain ⟨rfl, rfl⟩ := ltx_one hN hM
  have HG := hide (grown_trans hg1 hg2)
  clear hN hM hg1 hg2
  go_wp2_with fail
  refine (awake_any w2).mono ?_
  rintro e w3 ⟨rfl, hg3⟩
  have HG3 := hide (grown_trans HG.out hg3)
  clear hg3 HG
  go_wp2
  go_ret
  exact ⟨rfl, HG3.out⟩
end Go.Proofs.Ytdhpjjbjgnnddaa
