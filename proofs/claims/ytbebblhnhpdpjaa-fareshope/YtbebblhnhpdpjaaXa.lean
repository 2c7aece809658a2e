/- Numbers alone: how far rounding leads; one more seat. -/
import Derived.Test.YtbebblhnhpdpjaaVo
namespace Go.Proofs.Ytbebblhnhpdpjaa
open Ieee

theorem rhe_double2 (X d : Nat) : 2 * X ≤ 2 * (rhe X d * pw d) + pw d := by
  show 2 * X ≤ 2 * (rhe X d * 2 ^ d) + 2 ^ d
  unfold rhe
  have hp : 0 < 2 ^ d := Nat.two_pow_pos d
  generalize 2 ^ d = g at *
  have e := Nat.div_add_mod X g
  have hm := Nat.mod_lt X hp
  generalize X / g = q at *
  generalize X % g = r at *
  have hc : q * g = g * q := Nat.mul_comm ..
  rw [Nat.add_mul]
  split
  · rw [Nat.one_mul]
    omega
  · rename_i h
    rw [Nat.zero_mul]
    omega
theorem val_rnd_s (X s : Nat) : val (rnd X s) = rhe X (max (X.log2 - 52) s) * pw (max (X.log2 - 52) s - s) := by
  unfold rnd
  apply val_dk
  by_cases h : X.log2 - 52 ≤ s
  · have hm : max (X.log2 - 52) s = s := by omega
    rw [hm]
    have := rhe_hi (X := X) (d := s) h
    by_cases h2 : rhe X s < 2 ^ 53
    · left; exact ⟨by omega, h2⟩
    · right; omega
  · have hm : max (X.log2 - 52) s = X.log2 - 52 := by omega
    rw [hm]
    have hX : X ≠ 0 := by rintro rfl; simp at h
    right
    exact ⟨rhe_lo hX (Nat.le_refl _) (by omega), rhe_hi (Nat.le_refl _)⟩
theorem rnd_err {X s e : Nat} (h : X ≤ pw (e + 53 + s)) : val (rnd X s) * pw s ≤ X + pw (e + s) ∧ X ≤ val (rnd X s) * pw s + pw (e + s) := by
  have hd : max (X.log2 - 52) s ≤ e + 1 + s := by
    by_cases hX : X = 0
    · subst hX; simp
    · have h1 := log2_mono hX h
      have h2 : (pw (e + 53 + s)).log2 = e + 53 + s := (log2_pw (by have := pw_pos (e + 53 + s); omega)).2 ⟨Nat.le_refl _, pw_lt (by omega)⟩
      omega
  have he : val (rnd X s) * pw s = rhe X (max (X.log2 - 52) s) * pw (max (X.log2 - 52) s) := by
    rw [val_rnd_s, Nat.mul_assoc, ← pw_add]
    congr 2
    omega
  have h1 := rhe_double X (max (X.log2 - 52) s)
  have h2 := rhe_double2 X (max (X.log2 - 52) s)
  have h3 : pw (max (X.log2 - 52) s) ≤ pw (e + s) + pw (e + s) := by rw [pw_two]; exact pw_le (by omega)
  rw [he]
  omega
/-- One; a rounding's error. -/
theorem pw_u : pw (1039 + 1074) = pw 1039 * pw 1074 := pw_add 1039 1074
abbrev U1 : Nat := pw 1074
abbrev R1 : Nat := pw 1039
theorem ad_err {s q : Nat} (h : val s + val q ≤ pw 1092) : val (ad s q) ≤ val s + val q + R1 ∧ val s + val q ≤ val (ad s q) + R1 := by
  have := rnd_err (X := val s + val q) (s := 0) (e := 1039) h
  rw [pw0, Nat.mul_one] at this
  exact this
theorem tn_err {c b : Nat} (h : val (ru c) * val b ≤ pw 2166) : val (tn c b) * U1 ≤ val (ru c) * val b + R1 * U1 ∧ val (ru c) * val b ≤ val (tn c b) * U1 + R1 * U1 := by
  have h' : val (ru c) * val b ≤ pw (1039 + 53 + 1074) := by rw [show 1039 + 53 + 1074 = 2166 from rfl]; exact h
  have e := pw_u
  obtain ⟨k1, k2⟩ := rnd_err h'
  rw [e] at k1 k2
  have ht : tn c b = rnd (val (ru c) * val b) 1074 := rfl
  rw [ht]
  unfold U1 R1
  exact ⟨k1, k2⟩
theorem ad_mono {a a' b b' : Nat} (h : a ≤ a') (k : b ≤ b') : ad a b ≤ ad a' b' := rnd_mono (Nat.add_le_add (val_le_iff.2 h) (val_le_iff.2 k))
theorem tn_mono {c b b' : Nat} (h : b ≤ b') : tn c b ≤ tn c b' := rnd_mono (Nat.mul_le_mul_left _ (val_le_iff.2 h))
theorem cd_mono {q u a a' : Nat} (h : a ≤ a') : cd q u a ≤ cd q u a' := ad_mono (Nat.le_refl _) h
theorem bt_up (q : Nat) (ws : List Nat) (x k : Nat) : bt q ws x k ≤ bt q ws x (k + 1) := by
  conv => { rhs; unfold bt }
  split
  · exact Nat.le_max_left ..
  · exact Nat.le_refl _
theorem cd_le_bt {q : Nat} {ws : List Nat} {x k : Nat} (h : k ≤ x) : cd q k (ws.getD (x - k) 0) ≤ bt q ws x k := by
  cases k with
  | zero => rw [cd_zero]; exact Nat.le_refl _
  | succ k =>
    conv => { rhs; unfold bt }
    rw [if_pos h]
    exact Nat.le_max_right ..
/-- Amounts that rise; that rise by no more than D a seat. -/
def Mo (ws : List Nat) (s : Nat) : Prop := ∀ i, i < s → ws.getD i 0 ≤ ws.getD (i + 1) 0
def Ic (ws : List Nat) (s D : Nat) : Prop := ∀ i, i < s → val (ws.getD (i + 1) 0) ≤ val (ws.getD i 0) + D
theorem bt_mono {q : Nat} {ws : List Nat} {s x : Nat} (h : Mo ws s) (hx : x < s) : ∀ k, bt q ws x k ≤ bt q ws (x + 1) k := by
  intro k
  induction k with
  | zero => exact h x hx
  | succ k ih =>
    by_cases hk : k + 1 ≤ x
    · conv => { lhs; unfold bt }
      conv => { rhs; unfold bt }
      rw [if_pos hk, if_pos (by omega)]
      have h1 : ws.getD (x - (k + 1)) 0 ≤ ws.getD (x + 1 - (k + 1)) 0 := by
        have := h (x - (k + 1)) (by omega)
        rwa [show x - (k + 1) + 1 = x + 1 - (k + 1) by omega] at this
      have := cd_mono (q := q) (u := k + 1) h1
      omega
    · conv => { lhs; unfold bt }
      rw [if_neg hk]
      exact Nat.le_trans ih (bt_up ..)
theorem su_mono {q : Nat} {ws cs : List Nat} {s x : Nat} (h : Mo ws s) (hx : x < s) : ∀ k, su q ws cs x k ≤ su q ws cs (x + 1) k := by
  intro k
  induction k with
  | zero => exact Nat.le_refl _
  | succ k ih => exact ad_mono ih (tn_mono (bt_mono h hx k))
theorem Mo.nv {q : Nat} {ws cs : List Nat} {s : Nat} (h : Mo ws s) (hl : ws.length = s + 1) : Mo (nv q cs ws) s := by
  intro i hi
  rw [nv_get _ _ _ _ (by omega), nv_get _ _ _ _ (by omega)]
  exact su_mono h hi _
theorem su_none {q : Nat} {ws cs : List Nat} (h0 : ws.getD 0 0 = 0) : ∀ k, su q ws cs 0 k = 0 := by
  have hb : ∀ k, bt q ws 0 k = 0 := by
    intro k
    induction k with
    | zero => exact h0
    | succ k ih => unfold bt; rw [if_neg (by omega)]; exact ih
  intro k
  induction k with
  | zero => rfl
  | succ k ih =>
    show ad (su q ws cs 0 k) (tn _ (bt q ws 0 k)) = 0
    rw [ih, hb, ad_zero_left]
    unfold tn; rw [val_zero, Nat.mul_zero, rnd_zero]
theorem u1_pos : 0 < U1 := pw_pos _
theorem pw_mul_u (a : Nat) (n : Nat) (h : a ≤ 2 ^ n) : a * U1 ≤ pw (n + 1074) := by
  rw [pw_add]; exact Nat.mul_le_mul_right _ h
theorem tm_val {u q P : Nat} (hq : val q = P * U1) (h : u * P ≤ 2 ^ 53) : val (tm u q) = u * P * U1 := by
  unfold tm
  rw [hq, ← Nat.mul_assoc]
  exact val_rnd_pw h
/-- The sum of the first so many chances, as numbers. -/
def cc (cs : List Nat) : Nat → Nat
  | 0 => 0
  | k + 1 => cc cs k + val (ru (cs.getD k 0))
structure Ch (cs : List Nat) : Prop where
  ok : chOk cs = true
  few : cs.length ≤ 4
  sum : cc cs cs.length ≤ U1 + pw 1024
section
variable {q P s D : Nat} {ws cs : List Nat}
theorem Ic.le (h : Ic ws s D) (h0 : ws.getD 0 0 = 0) : ∀ i, i ≤ s → val (ws.getD i 0) ≤ i * D := by
  intro i
  induction i with
  | zero => intro _; rw [h0, val_zero]; exact Nat.zero_le _
  | succ i ih =>
    intro hi
    have h1 := ih (by omega)
    have h2 := h i (by omega)
    rw [Nat.add_mul, Nat.one_mul]; omega
theorem ws_le (h : Ic ws s D) (h0 : ws.getD 0 0 = 0) (hs : s ≤ 4) (hD : D ≤ 1002 * U1) (i : Nat) (hi : i ≤ s) : val (ws.getD i 0) ≤ 4008 * U1 := by
  have h1 := h.le h0 i hi
  have h2 : i * D ≤ 4 * (1002 * U1) := Nat.mul_le_mul (by omega) hD
  omega
theorem tm_le (hq : val q = P * U1) (hP : P ≤ 1000) {u : Nat} (hu : u ≤ 4) : val (tm u q) ≤ 4000 * U1 := by
  have h : u * P ≤ 4 * 1000 := Nat.mul_le_mul hu hP
  rw [tm_val hq (by omega)]
  exact Nat.mul_le_mul_right _ h
theorem u_8192 : 8192 * U1 = pw 1087 := by rw [show (8192 : Nat) = pw 13 from rfl, ← pw_add]
theorem r_small : R1 ≤ U1 := pw_le (by omega)
theorem bt_le (hq : val q = P * U1) (hP : P ≤ 1000) (h : Ic ws s D) (h0 : ws.getD 0 0 = 0) (hs : s ≤ 4) (hD : D ≤ 1002 * U1) {x : Nat} (hx : x ≤ s) : ∀ k, k ≤ 4 → val (bt q ws x k) ≤ 8192 * U1 := by
  intro k
  have hu := u1_pos
  induction k with
  | zero => intro _; have := ws_le h h0 hs hD x hx; show val (ws.getD x 0) ≤ _; omega
  | succ k ih =>
    intro hk
    unfold bt
    split
    · refine val_max (ih (by omega)) ?_
      have h1 := tm_le hq hP hk
      have h2 := ws_le h h0 hs hD (x - (k + 1)) (by omega)
      have h3 := u_8192
      have h4 := (ad_err (s := tm (k + 1) q) (q := ws.getD (x - (k + 1)) 0) (by have := pw_le (show 1087 ≤ 1092 by omega); omega)).1
      have h5 := r_small
      show val (ad _ _) ≤ _
      omega
    · exact ih (by omega)
/-- One more seat: the best of k people brings no more than D more. -/
theorem bt_more (hq : val q = P * U1) (hP : P ≤ 1000) (hPD : P * U1 ≤ D) (h : Ic ws s D) (h0 : ws.getD 0 0 = 0) (hs : s ≤ 4) (hD : D ≤ 1002 * U1) {x : Nat} (hx : x < s) :
    ∀ k, k ≤ 4 → val (bt q ws (x + 1) k) ≤ val (bt q ws x k) + (D + 2 * R1) := by
  intro k
  have hpp := pw_le (show 1087 ≤ 1092 by omega)
  have h8 := u_8192
  induction k with
  | zero => intro _; have := h x hx; show val (ws.getD (x + 1) 0) ≤ val (ws.getD x 0) + _; omega
  | succ k ih =>
    intro hk
    have h1 := ih (by omega)
    have h2 := val_le_iff.2 (bt_up q ws x k)
    by_cases hkx : k + 1 ≤ x + 1
    · conv => { lhs; unfold bt }
      rw [if_pos hkx]
      refine val_max (by omega) ?_
      by_cases hk2 : k + 1 ≤ x
      · have h3 := val_le_iff.2 (cd_le_bt (q := q) (ws := ws) hk2)
        have e1 : x + 1 - (k + 1) = x - (k + 1) + 1 := by omega
        rw [e1]
        have h4 := h (x - (k + 1)) (by omega)
        have t1 := tm_le hq hP hk
        have w1 := ws_le h h0 hs hD (x - (k + 1)) (by omega)
        have w2 := ws_le h h0 hs hD (x - (k + 1) + 1) (by omega)
        have a1 := (ad_err (s := tm (k + 1) q) (q := ws.getD (x - (k + 1) + 1) 0) (by omega)).1
        have a2 := (ad_err (s := tm (k + 1) q) (q := ws.getD (x - (k + 1)) 0) (by omega)).2
        show val (ad _ _) ≤ _
        have h3' : val (ad (tm (k + 1) q) (ws.getD (x - (k + 1)) 0)) ≤ val (bt q ws x (k + 1)) := h3
        omega
      · have hkx2 : k = x := by omega
        subst hkx2
        have h3 := val_le_iff.2 (cd_le_bt (q := q) (ws := ws) (Nat.le_refl k))
        rw [Nat.sub_self] at h3 ⊢
        rw [h0] at h3 ⊢
        have e1 : ∀ u, cd q u 0 = tm u q := fun u => by unfold cd; exact ad_zero_right _
        rw [e1] at h3 ⊢
        have m1 : k * P ≤ 4 * 1000 := Nat.mul_le_mul (by omega) hP
        have m2 : (k + 1) * P ≤ 4 * 1000 := Nat.mul_le_mul hk hP
        rw [tm_val hq (by omega)] at h3 ⊢
        rw [Nat.add_mul, Nat.one_mul, Nat.add_mul]
        omega
    · conv => { lhs; unfold bt }
      rw [if_neg hkx]
      omega
theorem su_le (hq : val q = P * U1) (hP : P ≤ 1000) (h : Ic ws s D) (h0 : ws.getD 0 0 = 0) (hs : s ≤ 4) (hD : D ≤ 1002 * U1) (hc : chOk cs = true) {x : Nat} (hx : x ≤ s) : ∀ k, k ≤ 4 → val (su q ws cs x k) ≤ k * pw 1089 ∧ val (tn (cs.getD k 0) (bt q ws x k)) ≤ pw 1087 := by
  have ht : ∀ k, k ≤ 4 → val (tn (cs.getD k 0) (bt q ws x k)) ≤ pw 1087 := fun k hk => tn_bd (ch_le hc k) (by rw [← u_8192]; exact bt_le hq hP h h0 hs hD hx k hk)
  intro k
  induction k with
  | zero => intro _; exact ⟨Nat.zero_le _, ht 0 (by omega)⟩
  | succ k ih =>
    intro hk
    obtain ⟨i1, i2⟩ := ih (by omega)
    refine ⟨?_, ht (k + 1) hk⟩
    have e1 : pw 1089 + pw 1089 = pw 1090 := pw_two 1089
    have e2 : pw 1090 + pw 1090 = pw 1091 := pw_two 1090
    have e3 : pw 1091 + pw 1091 = pw 1092 := pw_two 1091
    have e4 : pw 1087 + pw 1087 = pw 1088 := pw_two 1087
    have e5 : pw 1088 + pw 1088 = pw 1089 := pw_two 1088
    have e6 : R1 ≤ pw 1087 := pw_le (by omega)
    have hk3 : k * pw 1089 ≤ 3 * pw 1089 := Nat.mul_le_mul_right _ (by omega)
    have := (ad_err (s := su q ws cs x k) (q := tn (cs.getD k 0) (bt q ws x k)) (by omega)).1
    show val (ad _ _) ≤ _
    rw [Nat.add_mul, Nat.one_mul]
    omega
theorem su_more (hq : val q = P * U1) (hP : P ≤ 1000) (hPD : P * U1 ≤ D) (h : Ic ws s D) (h0 : ws.getD 0 0 = 0) (hs : s ≤ 4) (hD : D ≤ 1002 * U1) (hc : chOk cs = true) {x : Nat} (hx : x < s) :
    ∀ k, k ≤ 4 → val (su q ws cs (x + 1) k) * U1 ≤ val (su q ws cs x k) * U1 + cc cs k * (D + 2 * R1) + 4 * k * (R1 * U1) := by
  intro k
  induction k with
  | zero => intro _; show val 0 * U1 ≤ _; rw [val_zero, Nat.zero_mul]; exact Nat.zero_le _
  | succ k ih =>
    intro hk
    have i1 := ih (by omega)
    obtain ⟨a1, a2⟩ := su_le hq hP h h0 hs hD hc (x := x + 1) (by omega) k (by omega)
    obtain ⟨b1, b2⟩ := su_le hq hP h h0 hs hD hc (x := x) (by omega) k (by omega)
    have e1 : pw 1089 + pw 1089 = pw 1090 := pw_two 1089
    have e2 : pw 1090 + pw 1090 = pw 1091 := pw_two 1090
    have e3 : pw 1091 + pw 1091 = pw 1092 := pw_two 1091
    have e7 : pw 1087 ≤ pw 1089 := pw_le (by omega)
    have hk3 : k * pw 1089 ≤ 3 * pw 1089 := Nat.mul_le_mul_right _ (by omega)
    have s1 := (ad_err (s := su q ws cs (x + 1) k) (q := tn (cs.getD k 0) (bt q ws (x + 1) k)) (by omega)).1
    have s2 := (ad_err (s := su q ws cs x k) (q := tn (cs.getD k 0) (bt q ws x k)) (by omega)).2
    have hcl := ch_le hc k
    have bb : ∀ y, y ≤ s → val (ru (cs.getD k 0)) * val (bt q ws y k) ≤ pw 2166 := fun y hy => by
      have := bt_le hq hP h h0 hs hD hy k (by omega)
      rw [u_8192] at this
      refine Nat.le_trans (Nat.mul_le_mul hcl this) ?_
      rw [← pw_add]; exact pw_le (by omega)
    have t1 := (tn_err (bb (x + 1) (by omega))).1
    have t2 := (tn_err (bb x (by omega))).2
    have hbm := bt_more hq hP hPD h h0 hs hD hx k (by omega)
    have m1 := Nat.mul_le_mul_left (val (ru (cs.getD k 0))) hbm
    rw [Nat.mul_add] at m1
    have s1' := Nat.mul_le_mul_right U1 s1
    have s2' := Nat.mul_le_mul_right U1 s2
    rw [Nat.add_mul, Nat.add_mul] at s1'
    rw [Nat.add_mul, Nat.add_mul] at s2'
    show val (ad _ _) * U1 ≤ val (ad _ _) * U1 + (cc cs k + val (ru (cs.getD k 0))) * (D + 2 * R1) + _
    rw [Nat.add_mul (cc cs k)]
    have e9 : 4 * (k + 1) * (R1 * U1) = 4 * k * (R1 * U1) + 4 * (R1 * U1) := by rw [Nat.mul_add, Nat.add_mul, Nat.mul_one]
    rw [e9]
    generalize val (ru (cs.getD k 0)) = C at *
    generalize D + 2 * R1 = DD at *
    generalize R1 * U1 = RU at *
    generalize U1 = U at *
    omega
abbrev F1 : Nat := pw 1044
theorem Ic.nv (hq : val q = P * U1) (hP : P ≤ 1000) (hPD : P * U1 ≤ D) (h : Ic ws s D) (h0 : ws.getD 0 0 = 0) (hl : ws.length = s + 1) (hs : s ≤ 4) (hD : D ≤ 1002 * U1) (hc : Ch cs) : Ic (nv q cs ws) s (D + F1) := by
  intro x hx
  rw [nv_get _ _ _ _ (by omega), nv_get _ _ _ _ (by omega)]
  have h1 := su_more hq hP hPD h h0 hs hD hc.ok hx cs.length hc.few
  have h2 := Nat.mul_le_mul_right (D + 2 * R1) hc.sum
  have h3 : pw 1024 * (D + 2 * R1) ≤ pw 1034 * U1 := by
    have k1 : D + 2 * R1 ≤ pw 1084 := by
      have k2 : 1024 * U1 = pw 1084 := by rw [show (1024 : Nat) = pw 10 from rfl, ← pw_add]
      have k3 := r_small
      omega
    refine Nat.le_trans (Nat.mul_le_mul_left _ k1) ?_
    rw [← pw_add, ← pw_add]; exact Nat.le_refl _
  have h4 : 4 * cs.length * (R1 * U1) ≤ 16 * (R1 * U1) := Nat.mul_le_mul_right _ (by have := hc.few; omega)
  have h5 : val (su q ws cs (x + 1) cs.length) * U1 ≤ (val (su q ws cs x cs.length) + (D + 2 * R1) + pw 1034 + 16 * R1) * U1 := by
    rw [Nat.add_mul, Nat.add_mul, Nat.add_mul, Nat.mul_assoc 16]
    rw [Nat.add_mul] at h2
    have e : U1 * (D + 2 * R1) = (D + 2 * R1) * U1 := Nat.mul_comm ..
    rw [e] at h2
    generalize R1 * U1 = RU at *
    omega
  have h6 := Nat.le_of_mul_le_mul_right h5 u1_pos
  have h7 : 32 * R1 = F1 := by rw [show (32 : Nat) = pw 5 from rfl, ← pw_add]
  have h8 : pw 1034 ≤ R1 := pw_le (by omega)
  omega
end
end Go.Proofs.Ytbebblhnhpdpjaa
