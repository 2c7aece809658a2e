/- Seats' texts by bytes alone: written, read, no two alike. -/
import Derived.Test.YtomoclicbjkpoabDoorCx
namespace Go.Proofs.YtomoclicbjkpoabDoor.Cx
open Go.Lib

/-- Digits of a number below 100. -/
def dg (n : Nat) : List UInt8 := if n < 10 then [UInt8.ofNat (48 + n)] else [UInt8.ofNat (48 + n / 10), UInt8.ofNat (48 + n % 10)]
theorem dg_dec {n : Nat} (h : n < 100) : decDigits n = dg n := by
  unfold dg
  by_cases h1 : n < 10
  · rw [if_pos h1, decDigits_one h1]
  · rw [if_neg h1, decDigits_two h1 h]
/-- A column's letter. -/
def lt (c : Nat) : UInt8 := if c < 8 then UInt8.ofNat (65 + c) else UInt8.ofNat (66 + c)
/-- A seat's text. -/
def txt (W s : Nat) : List UInt8 := dg (s / W + 1) ++ [lt (s % W)]
theorem atoi_dg : ∀ n : Fin 65, 1 ≤ n.1 → atoiAll (dg n.1) = .ok (n.1 : Int) := by decide +kernel
theorem dg_inj {a b : Nat} (ha : a < 65) (hb : b < 65) (ha1 : 1 ≤ a) (hb1 : 1 ≤ b) (h : dg a = dg b) : a = b := by
  have h1 := atoi_dg ⟨a, ha⟩ ha1
  have h2 := atoi_dg ⟨b, hb⟩ hb1
  simp only at h1 h2
  rw [h, h2] at h1
  injection h1 with h1
  omega
theorem lt_inj : ∀ a b : Fin 16, lt a.1 = lt b.1 → a = b := by decide +kernel
theorem lt_letter : ∀ a : Fin 16, 65 ≤ (lt a.1).toNat ∧ (lt a.1).toNat ≤ 81 ∧ (lt a.1).toNat ≠ 73 := by decide +kernel
theorem dg_len (n : Nat) : 1 ≤ (dg n).length ∧ (dg n).length ≤ 2 := by unfold dg; split <;> simp
theorem txt_len (W s : Nat) : 2 ≤ (txt W s).length ∧ (txt W s).length ≤ 3 := by
  have := dg_len (s / W + 1)
  unfold txt; simp; omega
theorem row_lt {R W s : Nat} (_hW : 1 ≤ W) (h : s < R * W) : s / W < R := (Nat.div_lt_iff_lt_mul (by omega)).2 h
theorem txt_inj {R W s t : Nat} (hW : 1 ≤ W) (hW2 : W ≤ 16) (hR : R ≤ 64) (hs : s < R * W) (ht : t < R * W) (h : txt W s = txt W t) : s = t := by
  unfold txt at h
  have h1 := List.append_inj' h (by simp)
  have ra := row_lt hW hs
  have rb := row_lt hW ht
  have h2 := dg_inj (by omega) (by omega) (Nat.le_add_left 1 _) (Nat.le_add_left 1 _) h1.1
  have ma := Nat.mod_lt s (show W > 0 by omega)
  have mb := Nat.mod_lt t (show W > 0 by omega)
  have h4 : lt (s % W) = lt (t % W) := by have := h1.2; simpa using this
  have h3 := lt_inj ⟨s % W, by omega⟩ ⟨t % W, by omega⟩ h4
  have h5 : s % W = t % W := congrArg Fin.val h3
  have e1 := Nat.div_add_mod s W
  have e2 := Nat.div_add_mod t W
  have e3 : s / W = t / W := by omega
  rw [← e1, ← e2, e3, h5]
/-- The seat that has a text. -/
def prs (R W : Nat) (l : List UInt8) : Option Nat := (List.range (R * W)).find? fun s => txt W s == l
theorem prs_some {R W s : Nat} (hW : 1 ≤ W) (hW2 : W ≤ 16) (hR : R ≤ 64) (hs : s < R * W) : prs R W (txt W s) = some s := by
  unfold prs
  cases h : (List.range (R * W)).find? (fun t => txt W t == txt W s) with
  | none =>
    rw [List.find?_eq_none] at h
    exact absurd (by simp) (h s (List.mem_range.2 hs))
  | some t =>
    have h1 := List.find?_some h
    have h2 := List.mem_range.1 (List.mem_of_find?_eq_some h)
    rw [txt_inj hW hW2 hR h2 hs (by simpa using h1)]
theorem prs_none {R W : Nat} {l : List UInt8} (h : ∀ s, s < R * W → txt W s ≠ l) : prs R W l = none := by
  unfold prs
  rw [List.find?_eq_none]
  intro s hs
  simpa using h s (List.mem_range.1 hs)
theorem prs_nil (R W : Nat) : prs R W [] = none := prs_none fun s _ h => by have := txt_len W s; rw [h] at this; simp at this
/-- The row that digits name. -/
def rowN (R : Nat) (l : List UInt8) : Option Nat := (List.range R).find? fun r => dg (r + 1) == l
theorem rowN_some {R r : Nat} (hR : R ≤ 64) (hr : r < R) : rowN R (dg (r + 1)) = some r := by
  unfold rowN
  cases h : (List.range R).find? (fun t => dg (t + 1) == dg (r + 1)) with
  | none =>
    rw [List.find?_eq_none] at h
    exact absurd (by simp) (h r (List.mem_range.2 hr))
  | some t =>
    have h1 := List.find?_some h
    have h2 := List.mem_range.1 (List.mem_of_find?_eq_some h)
    have := dg_inj (a := t + 1) (b := r + 1) (by omega) (by omega) (by omega) (by omega) (by simpa using h1)
    rw [show t = r by omega]
theorem rowN_none {R : Nat} {l : List UInt8} (h : ∀ r, r < R → dg (r + 1) ≠ l) : rowN R l = none := by
  unfold rowN
  rw [List.find?_eq_none]
  intro s hs
  simpa using h s (List.mem_range.1 hs)
theorem rowN_of {R r : Nat} {l : List UInt8} (h : rowN R l = some r) : r < R ∧ l = dg (r + 1) := by
  unfold rowN at h
  have h1 := List.find?_some h
  have h2 := List.mem_range.1 (List.mem_of_find?_eq_some h)
  exact ⟨h2, by simpa using (by simpa using h1 : dg (r + 1) = l).symm⟩
/-- What cannot be read as a number names no row. -/
theorem rowN_bad {R : Nat} (hR : R ≤ 64) {l : List UInt8} (h : ∀ v, atoiAll l ≠ .ok v) : rowN R l = none :=
  rowN_none fun r hr e => h ((r + 1 : Nat) : Int) (by rw [← e]; exact atoi_dg ⟨r + 1, by omega⟩ (by simp))
theorem rowN_out {R : Nat} (hR : R ≤ 64) {l : List UInt8} {v : Int} (h : atoiAll l = .ok v) (hv : v < 1 ∨ (R : Int) < v) : rowN R l = none :=
  rowN_none fun r hr e => by
    have h1 := atoi_dg ⟨r + 1, by omega⟩ (by simp)
    simp only at h1
    rw [e, h] at h1
    injection h1 with h1
    omega
theorem rowN_unlike {R : Nat} (hR : R ≤ 64) {l : List UInt8} {n : Nat} (h : atoiAll l = .ok (n : Int)) (hn : dg n ≠ l) : rowN R l = none :=
  rowN_none fun r hr e => by
    have h1 := atoi_dg ⟨r + 1, by omega⟩ (by simp)
    simp only at h1
    rw [e, h] at h1
    injection h1 with h1
    have : n = r + 1 := by omega
    rw [this] at hn
    exact hn e
/-- The letters of the first W columns. -/
def lets (W : Nat) : List UInt8 := (List.range W).map lt
/-- The column that a letter names. -/
def colN (W : Nat) (x : UInt8) : Option Nat := (List.range W).find? fun c => lt c == x
theorem colN_of {W c : Nat} {x : UInt8} (h : colN W x = some c) : c < W ∧ x = lt c := by
  unfold colN at h
  have h1 := List.find?_some h
  have h2 := List.mem_range.1 (List.mem_of_find?_eq_some h)
  exact ⟨h2, by simpa using (by simpa using h1 : lt c = x).symm⟩
theorem colN_some {W c : Nat} (hW : W ≤ 16) (hc : c < W) : colN W (lt c) = some c := by
  unfold colN
  cases h : (List.range W).find? (fun t => lt t == lt c) with
  | none =>
    rw [List.find?_eq_none] at h
    exact absurd (by simp) (h c (List.mem_range.2 hc))
  | some t =>
    have h1 := List.find?_some h
    have h2 := List.mem_range.1 (List.mem_of_find?_eq_some h)
    have h3 := lt_inj ⟨t, by omega⟩ ⟨c, by omega⟩ (by simpa using h1)
    have h4 : t = c := congrArg Fin.val h3
    rw [h4]
def colI (W : Nat) (x : UInt8) : Int := match colN W x with | some c => (c : Int) | none => -1
theorem index_lets : ∀ (W : Fin 17) (x : UInt8), indexByte (lets W.1) x = colI W.1 x := by
  have h : ∀ (W : Fin 17) (n : Fin 256), indexByte (lets W.1) (UInt8.ofNat n.1) = colI W.1 (UInt8.ofNat n.1) := by decide +kernel
  intro W x
  have := h W ⟨x.toNat, x.toNat_lt⟩
  simpa using this
/-- A text, read by its parts. -/
theorem prs_parts {R W : Nat} (hW : 1 ≤ W) (hW2 : W ≤ 16) (hR : R ≤ 64) (d : List UInt8) (x : UInt8) :
    prs R W (d ++ [x]) = match rowN R d, colN W x with | some r, some c => some (r * W + c) | _, _ => none := by
  cases hr : rowN R d with
  | none =>
    show _ = none
    refine prs_none fun s hs e => ?_
    unfold txt at e
    have h1 := List.append_inj' e (by simp)
    have := rowN_some hR (row_lt hW hs)
    rw [h1.1, hr] at this
    cases this
  | some r =>
    obtain ⟨h1, h2⟩ := rowN_of hr
    cases hc : colN W x with
    | none =>
      show _ = none
      refine prs_none fun s hs e => ?_
      unfold txt at e
      have h1 := List.append_inj' e (by simp)
      have := colN_some hW2 (Nat.mod_lt s (show W > 0 by omega))
      rw [show lt (s % W) = x by simpa using h1.2, hc] at this
      cases this
    | some c =>
      obtain ⟨h3, h4⟩ := colN_of hc
      have hlt : r * W + c < R * W := by
        have : (r + 1) * W ≤ R * W := Nat.mul_le_mul_right W h1
        rw [Nat.add_mul] at this; omega
      have e1 : (r * W + c) / W = r := by rw [Nat.mul_comm, Nat.mul_add_div (by omega), Nat.div_eq_of_lt h3]; omega
      have e2 : (r * W + c) % W = c := by rw [Nat.mul_comm, Nat.mul_add_mod, Nat.mod_eq_of_lt h3]
      have := prs_some hW hW2 hR hlt
      unfold txt at this
      rw [e1, e2, ← h2, ← h4] at this
      exact this
end Go.Proofs.YtomoclicbjkpoabDoor.Cx
