/- Numbers alone: how near the nearest whole number is; the other sign. -/
import Derived.Test.YtdhpjjbjgnnddabFq
namespace Go.Proofs.Ytdhpjjbjgnnddab
open Ieee

theorem near_facts (x : Nat) : ∃ D : Nat, (sv x - NN x * (pw 1074 : Int)).natAbs = D ∧ D ≤ pw 1073 ∧ val (rnd D 0) = D ∧ (D = pw 1073 → NN x % 2 = 0) := by
  have hT := Nat.div_add_mod (mg x) (pw 1074)
  have hlt := Nat.mod_lt (mg x) (pw_pos 1074)
  obtain ⟨d, k, hd, hf, ⟨hk, hdk⟩, hsm⟩ := frac_parts x
  have hh := pw_half
  have hp := pw_pos 1073
  have hrhe := rhe_pw (mg x) 1074
  have hex : val (rnd (mg x % pw 1074) 0) = mg x % pw 1074 := by rw [hf]; exact val_rnd_pw hd
  have hex2 : pw 1073 ≤ mg x → val (rnd (pw 1074 - mg x % pw 1074) 0) = pw 1074 - mg x % pw 1074 := by
    intro h
    have hk2 : ¬ k < 1021 := fun hk2 => by have := hsm hk2; omega
    have e : pw 1074 - mg x % pw 1074 = (pw (1074 - k) - d) * pw k := by
      rw [hf, Nat.sub_mul, ← pw_add, Nat.sub_add_cancel hk]
    rw [e]
    apply val_rnd_pw
    have : pw (1074 - k) ≤ pw 53 := pw_le (by omega)
    have h53 : pw 53 = 2 ^ 53 := rfl
    omega
  have hT' : ((mg x : Nat) : Int) = ((mg x / pw 1074 : Nat) : Int) * (pw 1074 : Int) + ((mg x % pw 1074 : Nat) : Int) := by
    rw [← Int.natCast_mul, ← Int.natCast_add, Nat.mul_comm]; exact congrArg _ hT.symm
  have hle : mg x % pw 1074 ≤ mg x := Nat.mod_le ..
  have hsgn : ∀ R : Nat, (NN x = if sg x then -((R : Nat) : Int) else ((R : Nat) : Int)) → (sv x - NN x * (pw 1074 : Int)).natAbs = (((mg x : Nat) : Int) - (R : Int) * (pw 1074 : Int)).natAbs ∧ (R % 2 = 0 → NN x % 2 = 0) := by
    intro R hR
    rw [hR, sv_eq]
    cases sg x
    · exact ⟨rfl, fun h => by simp only [Bool.false_eq_true, if_false]; omega⟩
    · simp only [if_true]
      rw [Int.neg_mul]
      generalize (R : Int) * (pw 1074 : Int) = q
      exact ⟨by omega, fun h => by omega⟩
  have hNe := NN_eq x
  clear hT hf hsm hdk hk hd
  generalize mg x % pw 1074 = f at *
  generalize mg x / pw 1074 = T at *
  have hrhe2 : rhe (mg x) 1074 = T + (if pw 1073 < f ∨ (pw 1073 = f ∧ T % 2 = 1) then 1 else 0) := by
    have e1 : (2 * pw 1073 < 2 * f) ↔ pw 1073 < f := by omega
    have e2 : (2 * pw 1073 = 2 * f) ↔ pw 1073 = f := by omega
    rw [hrhe, hh]
    simp only [e1, e2]
  clear hrhe
  generalize rhe (mg x) 1074 = R at *
  obtain ⟨h1, h2⟩ := hsgn _ hNe
  have hN := h2
  clear h2 hsgn hNe
  generalize sv x - NN x * (pw 1074 : Int) = dd at *
  by_cases hinc : pw 1073 < f ∨ (pw 1073 = f ∧ T % 2 = 1)
  · rw [if_pos hinc] at hrhe2
    have hq : ((R : Nat) : Int) * (pw 1074 : Int) = (T : Int) * (pw 1074 : Int) + (pw 1074 : Int) := by
      rw [hrhe2, Int.natCast_add, Int.add_mul]; simp
    rw [hq, hT'] at h1
    refine ⟨pw 1074 - f, ?_, ?_, hex2 (by omega), fun h => hN ?_⟩
    · rw [h1]; omega
    · omega
    · omega
  · rw [if_neg hinc, Nat.add_zero] at hrhe2
    subst hrhe2
    rw [hT'] at h1
    refine ⟨f, ?_, ?_, hex, fun h => hN ?_⟩
    · rw [h1]; omega
    · omega
    · omega

/-- The word with the other sign. -/
def ng (x : Nat) : Nat := x ^^^ 2 ^ 63
theorem ng_mod (x : Nat) : ng x % 2 ^ 63 = x % 2 ^ 63 := by
  unfold ng
  rw [Nat.xor_mod_two_pow, Nat.mod_self, Nat.xor_zero]
theorem ng_sg (x : Nat) : sg (ng x) = !sg x := by
  unfold sg ng
  have h : (x ^^^ 2 ^ 63) / 2 ^ 63 = (x / 2 ^ 63) ^^^ 1 := by
    rw [Nat.xor_div_two_pow]
  rw [h]
  generalize x / 2 ^ 63 = y
  have h2 : (y ^^^ 1) % 2 = (y % 2) ^^^ 1 := by
    have := Nat.xor_mod_two_pow (a := y) (b := 1) (n := 1)
    simpa using this
  rw [h2]
  have : y % 2 = 0 ∨ y % 2 = 1 := by omega
  rcases this with h | h <;> rw [h] <;> rfl
theorem ng_mg (x : Nat) : mg (ng x) = mg x := by unfold mg; rw [ng_mod]
theorem ng_NN (x : Nat) : NN (ng x) = -NN x := by
  rw [NN_eq, NN_eq, ng_sg, ng_mg]
  cases sg x <;> simp
theorem ng_near {x : Nat} (hx : Fin64 x) (h : (NN x).natAbs ≤ 4503599627370497) : nV (ng x) = -NN x ∧ nE (ng x) = 0 := by
  have hm := ng_mod x
  have hn := ng_NN x
  unfold Fin64 at hx
  unfold nV nE
  rw [hm, hn]
  rw [if_pos ⟨hx, by omega, by omega⟩, if_pos ⟨hx, by omega, by omega⟩]
  exact ⟨rfl, rfl⟩
theorem whole_near {n : Int} (h : n.natAbs ≤ 4503599627370497) : nV (FloatKind.f64.nearest n) = n ∧ nE (FloatKind.f64.nearest n) = 0 := by
  obtain ⟨h1, h2, h3⟩ := of_int (n := n) (by omega)
  have hN : NN (FloatKind.f64.nearest n) = n := by
    rw [NN_eq, h2, h3, rhe_exact_pw]
    by_cases hn : n < 0
    · rw [decide_eq_true hn, if_pos rfl]; omega
    · rw [decide_eq_false hn, if_neg (by simp)]; omega
  unfold Fin64 at h1
  unfold nV nE
  rw [hN, if_pos ⟨h1, by omega, by omega⟩, if_pos ⟨h1, by omega, by omega⟩]
  exact ⟨rfl, rfl⟩
end Go.Proofs.Ytdhpjjbjgnnddab
