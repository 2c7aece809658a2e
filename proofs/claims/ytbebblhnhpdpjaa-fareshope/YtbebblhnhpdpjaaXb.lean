/- Numbers alone: whole numbers as floats; the chances that few makes. -/
import Derived.Test.YtbebblhnhpdpjaaXa
namespace Go.Proofs.Ytbebblhnhpdpjaa
open Ieee

def fw (n : Nat) : Nat := FloatKind.f64.nearest (n : Int)
theorem fw_nn {n : Nat} (h : n ≤ 2 ^ 53) : Nn (fw n) ∧ val (ru (fw n)) = n * U1 := by
  obtain ⟨f1, f2, f3⟩ := of_int (n := (n : Int)) (by omega)
  have hsg : sg (fw n) = false := by unfold fw; rw [f2]; simp
  exact ⟨⟨f1, fun e => by rw [hsg] at e; cases e⟩, f3⟩
theorem sub_price {p P n : Nat} (hp : Nn p) (hv : val (ru p) = P * U1) (hn : n < P) (hP : P ≤ 1000) :
    ∃ r, floatBits .sub .f64 p (fw n) = some r ∧ Nn r ∧ val (ru r) = (P - n) * U1 := by
  have hle : P - n ≤ pw 10 := Nat.le_trans (Nat.sub_le P n) (Nat.le_trans hP (show 1000 ≤ 2 ^ 10 by decide))
  obtain ⟨f1, f2⟩ := fw_nn (n := n) (by omega)
  have hX : val (rnd ((P - n) * U1) 0) = (P - n) * U1 := by unfold U1; exact val_rnd_pw (by omega)
  have hlow : rnd ((P - n) * U1) 0 < 2047 * 2 ^ 52 := by
    refine bd_fin (n := 10) ?_ (by omega)
    rw [hX, Nat.add_comm 1074 10, pw_add]
    unfold U1
    exact Nat.mul_le_mul_right (pw 1074) hle
  refine ⟨rnd ((P - n) * U1) 0, ?_, (nn_low hlow).1, ((congrArg val (nn_low hlow).2).trans hX)⟩
  show double.sub p (fw n) = _
  rw [sub_fin hp.fin f1.fin, hp.sv_eq, f1.sv_eq, hv, f2]
  have hpos : 0 < (P - n) * U1 := Nat.mul_pos (by omega) u1_pos
  have he : (P - n) * U1 + n * U1 = P * U1 := by rw [← Nat.add_mul, Nat.sub_add_cancel (Nat.le_of_lt hn)]
  generalize (P - n) * U1 = A at *
  generalize P * U1 = B at *
  generalize n * U1 = C at *
  have hna : (((B : Nat) : Int) - ((C : Nat) : Int)).natAbs = A := by omega
  have hneg : (if ((B : Nat) : Int) - ((C : Nat) : Int) = 0 then (sg p && !sg (fw n)) else decide (((B : Nat) : Int) - ((C : Nat) : Int) < 0)) = false := by
    rw [if_neg (by omega)]; simp; omega
  rw [hna, hneg, put_low hlow]
theorem val_1000 : Nn 4652007308841189376 ∧ val (ru 4652007308841189376) = 1000 * U1 := by
  obtain ⟨h1, h2⟩ := fw_nn (n := 1000) (by omega)
  have e : fw 1000 = 4652007308841189376 := by decide +kernel
  rw [e] at h1 h2
  exact ⟨h1, h2⟩
theorem fw_add : ∀ a, a < 25 → ∀ b, b < 9 → floatBits .add .f64 (fw a) (fw b) = some (fw (a + b)) := by decide +kernel
theorem fw_zero : fw 0 = 0 := by decide +kernel
theorem fw_pos : ∀ s, s < 33 → (FloatKind.f64.format.order (fw s) 0 == some .gt) = decide (0 < s) ∧ (FloatKind.f64.format.order (fw s) 0 == some .eq) = decide (s = 0) := by decide +kernel
/-- A part of a whole. -/
def qq (w s : Nat) : Nat := (floatBits .quo .f64 (fw w) (fw s)).getD 0
def quoOk (w s : Nat) : Bool := floatBits .quo .f64 (fw w) (fw s) == some (qq w s) && lik (qq w s) && decide (val (ru (qq w s)) * s * pw 53 ≤ w * U1 * pw 53 + w * U1) && decide (w * U1 * pw 53 ≤ val (ru (qq w s)) * s * pw 53 + w * U1)
theorem quo_table : ∀ s, s < 33 → ∀ w, w < 9 → (s = 0 ∨ s < w ∨ quoOk w s = true) := by decide +kernel
structure Qt (q w s : Nat) : Prop where
  lk : lik q = true
  up : val (ru q) * s * pw 53 ≤ w * U1 * pw 53 + w * U1
  dn : w * U1 * pw 53 ≤ val (ru q) * s * pw 53 + w * U1
theorem quo_facts {w s : Nat} (hs : s < 33) (hw : w < 9) (h0 : 0 < s) (hws : w ≤ s) : floatBits .quo .f64 (fw w) (fw s) = some (qq w s) ∧ Qt (qq w s) w s := by
  have h := quo_table s hs w hw
  have h2 : quoOk w s = true := by rcases h with h | h | h <;> first | omega | exact h
  unfold quoOk at h2
  simp only [Bool.and_eq_true, decide_eq_true_eq, beq_iff_eq] at h2
  obtain ⟨⟨⟨a, b⟩, c⟩, d⟩ := h2
  exact ⟨a, b, c, d⟩
theorem within_low {x lo hi : Nat} (hx : x < 2047 * 2 ^ 52) (hl : lo < 2047 * 2 ^ 52) (hh : hi < 2047 * 2 ^ 52) (h1 : lo ≤ x) (h2 : x ≤ hi) : within x lo hi = true := by
  unfold within
  rw [order_low hx hl, order_low hx hh]
  simp only [some_beq, gt_iff, lt_iff, eq_iff, Bool.and_eq_true, Bool.or_eq_true, decide_eq_true_eq]
  omega
theorem tol_words : val 4607182409792818153 + 8 * R1 ≤ U1 ∧ U1 + 8 * R1 ≤ val 4607182423303617035 := by decide +kernel
theorem four_sum {w0 w1 w2 w3 s va vb vc vd U T K : Nat} (hT : T * K = U) (hK : 0 < K) (hs : w0 + w1 + w2 + w3 = s) (hs0 : 0 < s)
    (u0 : va * s * K ≤ w0 * U * K + w0 * U) (d0 : w0 * U * K ≤ va * s * K + w0 * U) (u1 : vb * s * K ≤ w1 * U * K + w1 * U) (d1 : w1 * U * K ≤ vb * s * K + w1 * U)
    (u2 : vc * s * K ≤ w2 * U * K + w2 * U) (d2 : w2 * U * K ≤ vc * s * K + w2 * U) (u3 : vd * s * K ≤ w3 * U * K + w3 * U) (d3 : w3 * U * K ≤ vd * s * K + w3 * U) :
    va + vb + vc + vd ≤ U + T ∧ U ≤ va + vb + vc + vd + T := by
  have k1 : (va + vb + vc + vd) * s * K ≤ s * U * K + s * U := by
    rw [← hs]
    simp only [Nat.add_mul] at *
    rw [hs]
    omega
  have k2 : s * U * K ≤ (va + vb + vc + vd) * s * K + s * U := by
    rw [← hs]
    simp only [Nat.add_mul] at *
    rw [hs]
    omega
  clear u0 u1 u2 u3 d0 d1 d2 d3
  generalize va + vb + vc + vd = V at *
  have e1 : V * s * K = (V * K) * s := Nat.mul_right_comm ..
  have e3 : s * U * K = (U * K) * s := by rw [Nat.mul_comm s U, Nat.mul_right_comm U s]
  have e2 : s * U * K + s * U = (U * K + U) * s := by rw [Nat.add_mul, e3, Nat.mul_comm s U]
  have e4 : V * s * K + s * U = (V * K + U) * s := by rw [e1, Nat.add_mul, Nat.mul_comm s U]
  rw [e1, e2] at k1
  rw [e3, e4] at k2
  have k1' := Nat.le_of_mul_le_mul_right k1 hs0
  have k2' := Nat.le_of_mul_le_mul_right k2 hs0
  have j1 : V * K ≤ (U + T) * K := by rw [Nat.add_mul, hT]; exact k1'
  have j2 : U * K ≤ (V + T) * K := by rw [Nat.add_mul, hT]; exact k2'
  exact ⟨Nat.le_of_mul_le_mul_right j1 hK, Nat.le_of_mul_le_mul_right j2 hK⟩
theorem t_u : pw 1021 * pw 53 = U1 := by rw [← pw_add]
theorem ch_four {a b c d w0 w1 w2 w3 s : Nat} (h0 : Qt a w0 s) (h1 : Qt b w1 s) (h2 : Qt c w2 s) (h3 : Qt d w3 s) (hs : w0 + w1 + w2 + w3 = s) (hs0 : 0 < s) : Ch [a, b, c, d] := by
  have ll : ∀ j, j < [a, b, c, d].length → lik ([a, b, c, d].getD j 0) = true := by
    intro j hj
    match j, hj with
    | 0, _ => exact h0.lk
    | 1, _ => exact h1.lk
    | 2, _ => exact h2.lk
    | 3, _ => exact h3.lk
  have hcc : cc [a, b, c, d] [a, b, c, d].length = 0 + val (ru a) + val (ru b) + val (ru c) + val (ru d) := rfl
  have hcu : cu [a, b, c, d] [a, b, c, d].length = ad (ad (ad (ad 0 (ru a)) (ru b)) (ru c)) (ru d) := rfl
  have q0 := lik_ru h0.lk
  have q1 := lik_ru h1.lk
  have q2 := lik_ru h2.lk
  have q3 := lik_ru h3.lk
  have u0 := h0.up; have d0 := h0.dn
  have u1 := h1.up; have d1 := h1.dn
  have u2 := h2.up; have d2 := h2.dn
  have u3 := h3.up; have d3 := h3.dn
  have hfin := cu_fin (cs := [a, b, c, d]) 4 (by omega) ll
  have hsum : val (ru a) + val (ru b) + val (ru c) + val (ru d) ≤ U1 + pw 1021 ∧ U1 ≤ val (ru a) + val (ru b) + val (ru c) + val (ru d) + pw 1021 := four_sum t_u (pw_pos 53) hs hs0 u0 d0 u1 d1 u2 d2 u3 d3
  have hp : pw 1021 ≤ R1 := pw_le (by omega)
  have hru := r_small
  have h92 : 1024 * U1 ≤ pw 1092 := by
    rw [show (1024 : Nat) = pw 10 from rfl, ← pw_add]; exact pw_le (by omega)
  refine ⟨?_, Nat.le_refl 4, ?_⟩
  · rw [chOk_end (by show 1 ≤ 4; omega) (by show 4 ≤ 256; omega) ll]
    have a0 : ad 0 (ru a) = ru a := ad_zero_left _
    rw [hcu, a0]
    rw [show (4 : Nat) = [a, b, c, d].length from rfl, hcu, a0] at hfin
    have a1 := ad_err (s := ru a) (q := ru b) (by omega)
    have a2 := ad_err (s := ad (ru a) (ru b)) (q := ru c) (by omega)
    have a3 := ad_err (s := ad (ad (ru a) (ru b)) (ru c)) (q := ru d) (by omega)
    obtain ⟨t1, t2⟩ := tol_words
    refine within_low hfin (by decide) (by decide) (val_le_iff.1 ?_) (val_le_iff.1 ?_)
    · omega
    · omega
  · rw [hcc]
    have : pw 1021 ≤ pw 1024 := pw_le (by omega)
    omega
theorem cc_one (a : Nat) : cc [a] [a].length = 0 + val (ru a) := rfl
theorem cc_two (a b : Nat) : cc [a, b] [a, b].length = 0 + val (ru a) + val (ru b) := rfl
theorem ch_one : Ch [4607182418800017408] := ⟨ch_un 0 (by omega), by show 1 ≤ 4; omega, by
  rw [cc_one, one_words.2.2.2.1, val_one, Nat.zero_add]; unfold U1; exact Nat.le_add_right (pw 1074) (pw 1024)⟩
theorem ch_two : Ch [0, 4607182418800017408] := ⟨ch_un 1 (by omega), by show 2 ≤ 4; omega, by
  rw [cc_two, one_words.2.2.2.1, one_words.2.2.2.2, val_one, val_zero, Nat.zero_add]; unfold U1; exact Nat.le_add_right (pw 1074) (pw 1024)⟩
end Go.Proofs.Ytbebblhnhpdpjaa
