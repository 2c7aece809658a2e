/- Numbers alone: rows of likelihoods, their sums, as rungs. -/
import Derived.Test.YtbebblhnhpdpjaaFz
namespace Go.Proofs.Ytbebblhnhpdpjaa
open Ieee

/-- A power of two, not reckoned. -/
def pw (n : Nat) : Nat := 2 ^ n
theorem pw_pos (n : Nat) : 0 < pw n := Nat.two_pow_pos n
theorem pw_add (a b : Nat) : pw (a + b) = pw a * pw b := Nat.pow_add ..
theorem pw_le {a b : Nat} (h : a ≤ b) : pw a ≤ pw b := Nat.pow_le_pow_right (Nat.le_succ 1) h
theorem pw_lt {a b : Nat} (h : a < b) : pw a < pw b := Nat.pow_lt_pow_right (Nat.lt_succ_self 1) h
theorem rnd_le_pw {X s r : Nat} (h : X ≤ val r * pw s) : rnd X s ≤ r := rnd_le h
theorem rnd_eq_pw {X s r : Nat} (h : X = val r * pw s) : rnd X s = r := rnd_eq h
theorem val_rnd_pw {m e : Nat} (h : m ≤ 2 ^ 53) : val (rnd (m * pw e) 0) = m * pw e := val_rnd h
theorem log2_pw {X n : Nat} (h : X ≠ 0) : X.log2 = n ↔ pw n ≤ X ∧ X < pw (n + 1) := Nat.log2_eq_iff h
theorem log2_lt_pw {X n : Nat} (h : X ≠ 0) : X.log2 < n ↔ X < pw n := Nat.log2_lt h
theorem val_hi (q : Nat) (f : Nat) (hq : 1 ≤ q) (hf : f < 2 ^ 52) : val (q * 2 ^ 52 + f) = (2 ^ 52 + f) * pw (q - 1) := by
  unfold val
  rw [if_neg (by omega)]
  have e1 : (q * 2 ^ 52 + f) % 2 ^ 52 = f := by omega
  have e2 : (q * 2 ^ 52 + f) / 2 ^ 52 = q := by omega
  rw [e1, e2]; rfl
theorem pw52 : pw 52 = 2 ^ 52 := rfl
theorem pw0 : pw 0 = 1 := rfl
theorem pw1 : pw 1 = 2 := rfl
theorem pw2 : pw 2 = 4 := rfl
theorem pw13 : (8192 : Nat) = pw 13 := rfl
theorem rhe_pw (n d : Nat) : rhe n d = n / pw d + (if pw d < 2 * (n % pw d) ∨ (pw d = 2 * (n % pw d) ∧ n / pw d % 2 = 1) then 1 else 0) := rfl

theorem val_one : val 4607182418800017408 = pw 1074 := by
  have h := val_hi 1023 0 (by omega) (by omega)
  rw [Nat.add_zero, Nat.add_zero, ← pw52, ← pw_add] at h
  exact h

theorem val_dk {d k : Nat} (h : (d = 0 ∧ k < 2 ^ 53) ∨ (2 ^ 52 ≤ k ∧ k ≤ 2 ^ 53)) : val (d * 2 ^ 52 + k) = k * 2 ^ d := by
  unfold val
  by_cases h1 : d * 2 ^ 52 + k < 2 ^ 52
  · have : d = 0 := by omega
    subst this
    rw [if_pos h1]; simp
  · rw [if_neg h1]
    by_cases h2 : k = 2 ^ 53
    · subst h2
      have e1 : (d * 2 ^ 52 + 2 ^ 53) % 2 ^ 52 = 0 := by omega
      have e2 : (d * 2 ^ 52 + 2 ^ 53) / 2 ^ 52 - 1 = d + 1 := by omega
      rw [e1, e2, Nat.pow_succ]; omega
    · have e1 : (d * 2 ^ 52 + k) % 2 ^ 52 = k - 2 ^ 52 := by omega
      have e2 : (d * 2 ^ 52 + k) / 2 ^ 52 - 1 = d := by omega
      rw [e1, e2]
      have : 2 ^ 52 + (k - 2 ^ 52) = k := by omega
      rw [this]

theorem rhe_double (X d : Nat) : 2 * (rhe X d * pw d) ≤ 2 * X + pw d := by
  show 2 * (rhe X d * 2 ^ d) ≤ 2 * X + 2 ^ d
  unfold rhe
  have hp : 0 < 2 ^ d := Nat.two_pow_pos d
  generalize 2 ^ d = g at *
  have e := Nat.div_add_mod X g
  have hm := Nat.mod_lt X hp
  generalize X / g = q at *
  generalize X % g = r at *
  have hc : q * g = g * q := Nat.mul_comm ..
  rw [Nat.add_mul]
  split
  · rename_i h
    rw [Nat.one_mul]
    omega
  · rw [Nat.zero_mul]
    omega

theorem val_rnd_eq (X : Nat) : val (rnd X 0) = rhe X (X.log2 - 52) * pw (X.log2 - 52) := by
  unfold rnd
  have h0 : max (X.log2 - 52) 0 = X.log2 - 52 := by omega
  rw [h0, Nat.sub_zero]
  apply val_dk
  by_cases hX : X = 0
  · subst hX
    left; rw [rhe_zero]; exact ⟨rfl, by omega⟩
  by_cases hl : X.log2 < 53
  · left
    refine ⟨by omega, ?_⟩
    have : X.log2 - 52 = 0 := by omega
    rw [this]
    have h1 : rhe X 0 = X := by have := rhe_exact X 0; simpa using this
    rw [h1]
    exact (Nat.log2_lt hX).1 hl
  · right
    exact ⟨rhe_lo hX (Nat.le_refl _) (by omega), rhe_hi (Nat.le_refl _)⟩

/-- 1 - p and p, summed, is not above 1. -/
theorem rp_le {p : Nat} (hp : p ≤ 4607182418800017408) : rnd (val (rnd (pw 1074 - val p) 0) + val p) 0 ≤ 4607182418800017408 := by
  have hv : val p ≤ pw 1074 := by rw [← val_one]; exact val_le_iff.2 hp
  by_cases h0 : val p = 0
  · rw [h0, Nat.sub_zero, ← val_one, rnd_val, Nat.add_zero, rnd_val]; exact Nat.le_refl _
  have h1 := rhe_double (pw 1074 - val p) ((pw 1074 - val p).log2 - 52)
  rw [← val_rnd_eq] at h1
  have hd : pw ((pw 1074 - val p).log2 - 52) ≤ pw 1021 := by
    apply pw_le
    by_cases hz : pw 1074 - val p = 0
    · rw [hz]; decide
    · have : (pw 1074 - val p).log2 < 1074 := (log2_lt_pw hz).2 (by omega)
      omega
  have e1 : pw 1021 = 2 * pw 1020 := by rw [show (1021 : Nat) = 1 + 1020 from rfl, pw_add, pw1]
  have e2 : pw 1074 = 2 ^ 52 * pw 1022 := by rw [← pw52, ← pw_add]
  have e3 : pw 1022 = 4 * pw 1020 := by rw [show (1022 : Nat) = 2 + 1020 from rfl, pw_add, pw2]
  have hle : val (rnd (pw 1074 - val p) 0) + val p ≤ pw 1074 + pw 1020 := by
    generalize pw 1074 = a at *
    generalize pw 1020 = t at *
    omega
  refine Nat.le_trans (rnd_mono hle) ?_
  have hlog : (pw 1074 + pw 1020).log2 = 1074 := by
    rw [log2_pw (by have := pw_pos 1074; omega)]
    refine ⟨by omega, ?_⟩
    have : pw (1074 + 1) = pw 1074 + pw 1074 := by rw [pw_add, pw1, Nat.mul_two]
    rw [this]
    have : pw 1020 < pw 1074 := pw_lt (by omega)
    omega
  unfold rnd
  rw [hlog]
  have hm : max (1074 - 52) 0 = 1022 := by decide
  rw [hm]
  have hr : rhe (pw 1074 + pw 1020) 1022 = 2 ^ 52 := by
    rw [rhe_pw]
    have hp : 0 < pw 1020 := pw_pos _
    rw [e2, e3]
    generalize pw 1020 = t at *
    have hdiv : (2 ^ 52 * (4 * t) + t) / (4 * t) = 2 ^ 52 := by
      rw [Nat.mul_comm, Nat.mul_add_div (by omega), Nat.div_eq_of_lt (by omega)]
    have hmod : (2 ^ 52 * (4 * t) + t) % (4 * t) = t := by
      rw [Nat.mul_comm, Nat.mul_add_mod, Nat.mod_eq_of_lt (by omega)]
    rw [hdiv, hmod, if_neg (by omega)]
  rw [hr]; decide

/-- 1 - p, of p a rung up to 1. -/
def rr (p : Nat) : Nat := rnd (pw 1074 - val p) 0
/-- A float of the row of one more: of those at the place and ahead of it. -/
def st (p a b : Nat) : Nat := rnd (val (rnd (val a * val (rr p)) 1074) + val (rnd (val b * val p) 1074)) 0

theorem val_le_one {p : Nat} (hp : p ≤ 4607182418800017408) : val p ≤ pw 1074 := by rw [← val_one]; exact val_le_iff.2 hp
theorem rr_le (p : Nat) : rr p ≤ 4607182418800017408 := rnd_le_pw (by rw [val_one]; rw [pw0, Nat.mul_one]; exact Nat.sub_le ..)
theorem prod_le {a b : Nat} (ha : a ≤ 4607182418800017408) : rnd (val a * val b) 1074 ≤ b :=
  rnd_le_pw (by rw [Nat.mul_comm]; exact Nat.mul_le_mul_left _ (val_le_one ha))
theorem prod_le_one {a b : Nat} (ha : a ≤ 4607182418800017408) (hb : b ≤ 4607182418800017408) : rnd (val a * val b) 1074 ≤ 4607182418800017408 := Nat.le_trans (prod_le ha) hb
theorem st_le {p a b : Nat} (hp : p ≤ 4607182418800017408) (ha : a ≤ 4607182418800017408) (hb : b ≤ 4607182418800017408) : st p a b ≤ 4607182418800017408 := by
  unfold st
  have h1 : rnd (val a * val (rr p)) 1074 ≤ rr p := prod_le ha
  have h2 : rnd (val b * val p) 1074 ≤ p := prod_le hb
  refine Nat.le_trans (rnd_mono (Nat.add_le_add (val_le_iff.2 h1) (val_le_iff.2 h2))) ?_
  exact rp_le hp
theorem st_zero (p a : Nat) : st p a 0 = rnd (val a * val (rr p)) 1074 := by
  unfold st
  rw [val_zero, Nat.zero_mul, rnd_zero, val_zero, Nat.add_zero, rnd_val]

/-- The row of one more. -/
def nx (p : Nat) (q : List Nat) : List Nat := (List.range (q.length + 1)).map fun k => st p (q.getD k 0) (if k = 0 then 0 else q.getD (k - 1) 0)
/-- The row of n people. -/
def rw' (p : Nat) : Nat → List Nat
  | 0 => [4607182418800017408]
  | n + 1 => nx p (rw' p n)
theorem nx_length (p : Nat) (q : List Nat) : (nx p q).length = q.length + 1 := by simp [nx]
theorem row_length (p n : Nat) : (rw' p n).length = n + 1 := by
  induction n with
  | zero => rfl
  | succ n ih => rw [rw', nx_length, ih]
theorem nx_get (p : Nat) (q : List Nat) (k : Nat) (h : k ≤ q.length) : (nx p q)[k]? = some (st p (q.getD k 0) (if k = 0 then 0 else q.getD (k - 1) 0)) := by
  unfold nx
  rw [List.getElem?_map, List.getElem?_range (by omega)]; rfl
/-- All floats of a row are 0 to 1. -/
def Low (q : List Nat) : Prop := ∀ x ∈ q, x ≤ 4607182418800017408
theorem Low.getD {q : List Nat} (h : Low q) (k : Nat) : q.getD k 0 ≤ 4607182418800017408 := by
  rw [List.getD_eq_getElem?_getD]
  cases hk : q[k]? with
  | none => simp
  | some x => exact h x (List.mem_of_getElem? hk)
theorem Low.nx {q : List Nat} {p : Nat} (hp : p ≤ 4607182418800017408) (h : Low q) : Low (nx p q) := by
  intro x hx
  unfold Go.Proofs.Ytbebblhnhpdpjaa.nx at hx
  rw [List.mem_map] at hx
  obtain ⟨k, _, rfl⟩ := hx
  refine st_le hp (h.getD k) ?_
  split
  · omega
  · exact h.getD _
theorem row_low {p : Nat} (hp : p ≤ 4607182418800017408) (n : Nat) : Low (rw' p n) := by
  induction n with
  | zero => intro x hx; simp [rw'] at hx; omega
  | succ n ih => exact ih.nx hp

/-- One more summand. -/
def ad (s q : Nat) : Nat := rnd (val s + val q) 0
/-- The sum of what stands from j on, the last first. -/
def sm (q : List Nat) (j : Nat) : Nat := (q.drop j).foldr (fun x s => ad s x) 0
theorem sm_end (q : List Nat) (j : Nat) (h : q.length ≤ j) : sm q j = 0 := by unfold sm; rw [List.drop_eq_nil_of_le h]; rfl
theorem sm_step (q : List Nat) (j : Nat) (h : j < q.length) : sm q j = ad (sm q (j + 1)) (q.getD j 0) := by
  unfold sm
  rw [List.drop_eq_getElem_cons h, List.foldr_cons, List.getD_eq_getElem?_getD, List.getElem?_eq_getElem h]; rfl
theorem ad_le {s q j : Nat} (hj : j + 1 ≤ 2 ^ 53) (hs : val s ≤ j * pw 1074) (hq : q ≤ 4607182418800017408) : val (ad s q) ≤ (j + 1) * pw 1074 := by
  have h1 := val_le_one hq
  have h2 : val s + val q ≤ (j + 1) * pw 1074 := by rw [Nat.add_mul, Nat.one_mul]; omega
  have h3 := val_le_iff.2 (rnd_mono (s := 0) h2)
  rw [val_rnd_pw hj] at h3
  exact h3
theorem sm_le {q : List Nat} (hq : Low q) (hl : q.length ≤ 8192) : ∀ (k j : Nat), k + j = q.length → val (sm q j) ≤ k * pw 1074 := by
  intro k
  induction k with
  | zero => intro j h; rw [sm_end q j (by omega)]; simp [val_zero]
  | succ k ih =>
    intro j h
    rw [sm_step q j (by omega)]
    exact ad_le (by omega) (ih (j + 1) (by omega)) (hq.getD j)
theorem val_big : 8192 * pw 1074 < val (2047 * 2 ^ 52) := by
  have h := val_hi 2047 0 (by omega) (by omega)
  rw [Nat.add_zero, Nat.add_zero, ← pw52, ← pw_add] at h
  rw [← pw52, h, pw13, ← pw_add]
  exact pw_lt (by omega)
theorem sm_fin {q : List Nat} (hq : Low q) (hl : q.length ≤ 8192) (j : Nat) : sm q j < 2047 * 2 ^ 52 := by
  apply val_lt_iff.1
  refine Nat.lt_of_le_of_lt ?_ val_big
  by_cases hj : j ≤ q.length
  · refine Nat.le_trans (sm_le hq hl (q.length - j) j (by omega)) ?_
    exact Nat.mul_le_mul_right _ (by omega)
  · rw [sm_end q j (by omega), val_zero]; exact Nat.zero_le _
end Go.Proofs.Ytbebblhnhpdpjaa
