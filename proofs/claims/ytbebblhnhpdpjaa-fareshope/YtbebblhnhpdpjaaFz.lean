/- Numbers alone: words of binary64 as rungs; what is nearest. -/
import Derived.Laws.FloatArith

namespace Go.Proofs.Ytbebblhnhpdpjaa
open Ieee

/-- n / 2^d, to the nearest, of two as near the even one. -/
def rhe (n d : Nat) : Nat := n / 2 ^ d + (if 2 ^ d < 2 * (n % 2 ^ d) ∨ (2 ^ d = 2 * (n % 2 ^ d) ∧ n / 2 ^ d % 2 = 1) then 1 else 0)

theorem bool_if (P : Prop) [Decidable P] (b : Bool) (h : b = true ↔ P) : b.toNat = if P then 1 else 0 := by
  by_cases hp : P
  · simp [hp, h.2 hp]
  · have : b = false := by
      cases b
      · rfl
      · exact absurd (h.1 rfl) hp
    simp [hp, this]

theorem cut_even (s : Bool) (n d : Nat) : Toward.even.cut s n d = rhe n d := by
  unfold Toward.cut rhe
  have hlt : n < 2 ^ (n.log2 + 1) := Nat.lt_log2_self
  by_cases hd : d ≤ n.log2 + 2
  · rw [Nat.min_eq_left hd, Nat.one_shiftLeft]
    dsimp only
    congr 1
    apply bool_if
    simp
  · have hd' : n.log2 + 2 < d := by omega
    rw [Nat.min_eq_right (by omega), Nat.one_shiftLeft]
    dsimp only
    have e2 : (2 : Nat) ^ (n.log2 + 2) = 2 * 2 ^ (n.log2 + 1) := by rw [Nat.pow_succ]; omega
    have hle : (2 : Nat) ^ (n.log2 + 2) ≤ 2 ^ d := Nat.pow_le_pow_right (by omega) (by omega)
    have h1 : n < 2 ^ (n.log2 + 2) := by omega
    have h2 : n < 2 ^ d := by omega
    rw [Nat.div_eq_of_lt h1, Nat.mod_eq_of_lt h1, Nat.div_eq_of_lt h2, Nat.mod_eq_of_lt h2]
    rw [if_neg (by omega)]
    have hb : (decide (2 ^ (n.log2 + 2) < 2 * n) || (2 ^ (n.log2 + 2) == 2 * n && 0 % 2 == 1)) = false := by
      simp; omega
    rw [hb]; rfl

theorem rhe_mono {n m d : Nat} (h : n ≤ m) : rhe n d ≤ rhe m d := by
  unfold rhe
  have hp : 0 < 2 ^ d := Nat.two_pow_pos d
  generalize 2 ^ d = g at *
  have h1 : n / g ≤ m / g := Nat.div_le_div_right h
  have e1 := Nat.div_add_mod n g
  have e2 := Nat.div_add_mod m g
  by_cases he : n / g = m / g
  · rw [he] at e1 ⊢
    have : n % g ≤ m % g := by omega
    split <;> split <;> omega
  · split <;> split <;> omega

theorem rhe_exact (k d : Nat) : rhe (k * 2 ^ d) d = k := by
  unfold rhe
  have hp : 0 < 2 ^ d := Nat.two_pow_pos d
  rw [Nat.mul_div_cancel _ hp, Nat.mul_mod_left]
  rw [if_neg (by omega)]; rfl

theorem rhe_scale (n d s : Nat) : rhe (n * 2 ^ s) (d + s) = rhe n d := by
  unfold rhe
  have hs : 0 < 2 ^ s := Nat.two_pow_pos s
  rw [Nat.pow_add, Nat.mul_div_mul_right _ _ hs, Nat.mul_mod_mul_right]
  congr 1
  have e1 : (2 ^ d * 2 ^ s < 2 * (n % 2 ^ d * 2 ^ s)) ↔ (2 ^ d < 2 * (n % 2 ^ d)) := by
    rw [← Nat.mul_assoc]; exact Nat.mul_lt_mul_right hs
  have e2 : (2 ^ d * 2 ^ s = 2 * (n % 2 ^ d * 2 ^ s)) ↔ (2 ^ d = 2 * (n % 2 ^ d)) := by
    rw [← Nat.mul_assoc]; exact Nat.mul_left_inj (by omega)
  simp only [e1, e2]

theorem rhe_le {n d k : Nat} (h : n ≤ k * 2 ^ d) : rhe n d ≤ k := by
  have := rhe_mono (d := d) h
  rwa [rhe_exact] at this

theorem le_rhe {n d k : Nat} (h : k * 2 ^ d ≤ n) : k ≤ rhe n d := by
  have := rhe_mono (d := d) h
  rwa [rhe_exact] at this

/-- The rung nearest to X * 2^(-1074 - s). -/
def rnd (X s : Nat) : Nat := (max (X.log2 - 52) s - s) * 2 ^ 52 + rhe X (max (X.log2 - 52) s)

theorem rhe_zero (d : Nat) : rhe 0 d = 0 := by
  have := rhe_exact 0 d
  rwa [Nat.zero_mul] at this

theorem rnd_zero (s : Nat) : rnd 0 s = 0 := by
  unfold rnd; rw [rhe_zero]; simp

theorem log2_mul (X t : Nat) (h : X ≠ 0) : (X * 2 ^ t).log2 = X.log2 + t := by
  have hp : 0 < 2 ^ t := Nat.two_pow_pos t
  rw [Nat.log2_eq_iff (by exact Nat.mul_ne_zero h (by omega))]
  have h1 := Nat.log2_self_le h
  have h2 : X < 2 ^ (X.log2 + 1) := Nat.lt_log2_self
  constructor
  · rw [Nat.pow_add]; exact Nat.mul_le_mul_right _ h1
  · have : X.log2 + t + 1 = X.log2 + 1 + t := by omega
    rw [this, Nat.pow_add]; exact (Nat.mul_lt_mul_right hp).2 h2

theorem rnd_scale (X s t : Nat) : rnd (X * 2 ^ t) (s + t) = rnd X s := by
  by_cases h : X = 0
  · subst h; rw [Nat.zero_mul, rnd_zero, rnd_zero]
  unfold rnd
  rw [log2_mul X t h]
  by_cases h2 : X.log2 - 52 ≤ s
  · rw [Nat.max_eq_right (a := X.log2 + t - 52) (by omega), Nat.max_eq_right h2, rhe_scale]; simp
  · rw [Nat.max_eq_left (a := X.log2 + t - 52) (by omega), Nat.max_eq_left (a := X.log2 - 52) (by omega)]
    have : X.log2 + t - 52 = X.log2 - 52 + t := by omega
    rw [this, rhe_scale]
    have : X.log2 - 52 + t - (s + t) = X.log2 - 52 - s := by omega
    rw [this]

theorem rhe_lo {X d : Nat} (hX : X ≠ 0) (h : d ≤ X.log2 - 52) (h2 : 52 ≤ X.log2) : 2 ^ 52 ≤ rhe X d := by
  apply le_rhe
  have := Nat.log2_self_le hX
  refine Nat.le_trans ?_ this
  rw [← Nat.pow_add]
  exact Nat.pow_le_pow_right (by omega) (by omega)

theorem rhe_hi {X d : Nat} (h : X.log2 - 52 ≤ d) : rhe X d ≤ 2 ^ 53 := by
  apply rhe_le
  have : X < 2 ^ (X.log2 + 1) := Nat.lt_log2_self
  refine Nat.le_trans (Nat.le_of_lt this) ?_
  rw [← Nat.pow_add]
  exact Nat.pow_le_pow_right (by omega) (by omega)

theorem log2_mono {X Y : Nat} (hX : X ≠ 0) (h : X ≤ Y) : X.log2 ≤ Y.log2 := by
  rw [Nat.le_log2 (by omega)]
  exact Nat.le_trans (Nat.log2_self_le hX) h

theorem rnd_mono {X Y s : Nat} (h : X ≤ Y) : rnd X s ≤ rnd Y s := by
  by_cases hX : X = 0
  · subst hX; rw [rnd_zero]; omega
  have hl := log2_mono hX h
  unfold rnd
  by_cases he : max (X.log2 - 52) s = max (Y.log2 - 52) s
  · rw [he]; have := rhe_mono (d := max (Y.log2 - 52) s) h; omega
  · have h1 := rhe_hi (X := X) (d := max (X.log2 - 52) s) (by omega)
    have h2 := rhe_lo (X := Y) (d := max (Y.log2 - 52) s) (by omega) (by omega) (by omega)
    generalize rhe X (max (X.log2 - 52) s) = a at *
    generalize rhe Y (max (Y.log2 - 52) s) = b at *
    omega

/-- The number of a rung, in units of 2^-1074. -/
def val (r : Nat) : Nat := if r < 2 ^ 52 then r else (2 ^ 52 + r % 2 ^ 52) * 2 ^ (r / 2 ^ 52 - 1)

theorem rnd_small {X : Nat} (h : X < 2 ^ 53) : rnd X 0 = X := by
  unfold rnd
  have hl : X.log2 - 52 = 0 := by
    by_cases hX : X = 0
    · subst hX; rfl
    · have : X.log2 < 53 := (Nat.log2_lt hX).2 h
      omega
  rw [hl]
  have := rhe_exact X 0
  simp at this ⊢; exact this

theorem rnd_val (r : Nat) : rnd (val r) 0 = r := by
  unfold val
  split
  · rename_i h; exact rnd_small (by omega)
  · rename_i h
    have e := Nat.div_add_mod r (2 ^ 52)
    have hf : r % 2 ^ 52 < 2 ^ 52 := Nat.mod_lt _ (by omega)
    have h1 : 1 ≤ r / 2 ^ 52 := by omega
    generalize r / 2 ^ 52 = q at *
    generalize r % 2 ^ 52 = f at *
    have hlog : (2 ^ 52 + f).log2 = 52 := by
      rw [Nat.log2_eq_iff (by omega)]; omega
    unfold rnd
    rw [log2_mul _ _ (by omega), hlog]
    have : max (52 + (q - 1) - 52) 0 = q - 1 := by omega
    rw [this, rhe_exact]
    omega

theorem rnd_le {X s r : Nat} (h : X ≤ val r * 2 ^ s) : rnd X s ≤ r := by
  have := rnd_mono (s := s) h
  have e := rnd_scale (val r) 0 s
  rw [Nat.zero_add] at e
  rwa [e, rnd_val] at this

theorem le_rnd {X s r : Nat} (h : val r * 2 ^ s ≤ X) : r ≤ rnd X s := by
  have := rnd_mono (s := s) h
  have e := rnd_scale (val r) 0 s
  rw [Nat.zero_add] at e
  rwa [e, rnd_val] at this

theorem rnd_eq {X s r : Nat} (h : X = val r * 2 ^ s) : rnd X s = r :=
  Nat.le_antisymm (rnd_le (Nat.le_of_eq h)) (le_rnd (Nat.le_of_eq h.symm))

theorem val_le_iff {a b : Nat} : val a ≤ val b ↔ a ≤ b := by
  constructor
  · intro h
    have := rnd_mono (s := 0) h
    rwa [rnd_val, rnd_val] at this
  · intro h
    apply Classical.byContradiction
    intro hn
    have h1 := rnd_mono (s := 0) (Nat.le_of_lt (Nat.lt_of_not_le hn))
    rw [rnd_val, rnd_val] at h1
    have : a = b := by omega
    subst this; omega

theorem val_inj {a b : Nat} (h : val a = val b) : a = b :=
  Nat.le_antisymm (val_le_iff.1 (Nat.le_of_eq h)) (val_le_iff.1 (Nat.le_of_eq h.symm))

theorem val_lt_iff {a b : Nat} : val a < val b ↔ a < b := by
  have := val_le_iff (a := b) (b := a)
  omega

theorem val_zero : val 0 = 0 := rfl

/-- What may be held in 53 binary digits is a rung. -/
theorem val_rnd {m e : Nat} (h : m ≤ 2 ^ 53) : val (rnd (m * 2 ^ e) 0) = m * 2 ^ e := by
  by_cases h0 : m = 0
  · subst h0; rw [Nat.zero_mul, rnd_zero]; rfl
  by_cases h53 : m = 2 ^ 53
  · subst h53
    have hv : (2 : Nat) ^ 53 * 2 ^ e = val ((e + 2) * 2 ^ 52) := by
      unfold val
      rw [if_neg (by omega), Nat.mul_mod_left, Nat.mul_div_cancel _ (by omega)]
      have : e + 2 - 1 = e + 1 := by omega
      rw [this, Nat.pow_succ]; omega
    rw [hv, rnd_val]
  have hm : m < 2 ^ 53 := by omega
  have hl : m.log2 < 53 := (Nat.log2_lt h0).2 hm
  have hself := Nat.log2_self_le h0
  have hlt : m < 2 ^ (m.log2 + 1) := Nat.lt_log2_self
  by_cases hs : m.log2 + e < 52
  · have : m * 2 ^ e < 2 ^ 52 := by
      calc m * 2 ^ e < 2 ^ (m.log2 + 1) * 2 ^ e := (Nat.mul_lt_mul_right (Nat.two_pow_pos e)).2 hlt
        _ = 2 ^ (m.log2 + 1 + e) := by rw [← Nat.pow_add]
        _ ≤ 2 ^ 52 := Nat.pow_le_pow_right (by omega) (by omega)
    rw [rnd_small (by omega)]
    unfold val; rw [if_pos this]
  · -- d = log2 + e - 52
    have hd : ∃ c d, m * 2 ^ e = c * 2 ^ d ∧ 2 ^ 52 ≤ c ∧ c < 2 ^ 53 := by
      by_cases hk : 52 - m.log2 ≤ e
      · refine ⟨m * 2 ^ (52 - m.log2), e - (52 - m.log2), ?_, ?_, ?_⟩
        · rw [Nat.mul_assoc, ← Nat.pow_add]; congr 2; omega
        · calc 2 ^ 52 = 2 ^ m.log2 * 2 ^ (52 - m.log2) := by rw [← Nat.pow_add]; congr 1; omega
            _ ≤ m * 2 ^ (52 - m.log2) := Nat.mul_le_mul_right _ hself
        · calc m * 2 ^ (52 - m.log2) < 2 ^ (m.log2 + 1) * 2 ^ (52 - m.log2) := (Nat.mul_lt_mul_right (Nat.two_pow_pos _)).2 hlt
            _ = 2 ^ 53 := by rw [← Nat.pow_add]; congr 1; omega
      · omega
    obtain ⟨c, d, he, hc1, hc2⟩ := hd
    have hv : c * 2 ^ d = val ((d + 1) * 2 ^ 52 + (c - 2 ^ 52)) := by
      unfold val
      rw [if_neg (by omega)]
      have h1 : ((d + 1) * 2 ^ 52 + (c - 2 ^ 52)) % 2 ^ 52 = c - 2 ^ 52 := by omega
      have h2 : ((d + 1) * 2 ^ 52 + (c - 2 ^ 52)) / 2 ^ 52 = d + 1 := by omega
      rw [h1, h2]
      have h3 : 2 ^ 52 + (c - 2 ^ 52) = c := by omega
      rw [h3]; rfl
    rw [he, hv, rnd_val]

theorem least_place : double.leastPlace = -1074 := by decide
theorem binade_eq : double.binade = 2 ^ 52 := by decide
theorem inf_eq : double.infRung = 2047 * 2 ^ 52 := by decide
theorem sign_eq : double.signWeight = 2 ^ 63 := by decide

theorem nearest_dn (neg : Bool) (mag s : Nat) : double.nearest neg mag (-1074 - (s : Int)) = double.word neg (min (rnd mag s) double.infRung) := by
  unfold Format.nearest
  by_cases h0 : mag = 0
  · subst h0; rw [if_pos rfl, rnd_zero]; simp
  rw [if_neg h0, least_place]
  dsimp only
  rw [cut_even]
  have e52 : (double.fractionBits : Int) = 52 := by decide
  rw [e52, binade_eq]
  have hmax : max (-1074 - (s : Int) + (mag.log2 : Int) - 52) (-1074) = -1074 - (s : Int) + (max (mag.log2 - 52) s : Nat) := by omega
  rw [hmax]
  have h1 : (-1074 - (s : Int) - (-1074 - (s : Int) + (max (mag.log2 - 52) s : Nat))).toNat = 0 := by omega
  have h2 : (-1074 - (s : Int) + (max (mag.log2 - 52) s : Nat) - (-1074 - (s : Int))).toNat = max (mag.log2 - 52) s := by omega
  have h3 : (-1074 - (s : Int) + (max (mag.log2 - 52) s : Nat) - -1074).toNat = max (mag.log2 - 52) s - s := by omega
  rw [h1, h2, h3, Nat.shiftLeft_zero]
  rfl

theorem nearest_up (neg : Bool) (mag k : Nat) : double.nearest neg mag (-1074 + (k : Int)) = double.word neg (min (rnd (mag * 2 ^ k) 0) double.infRung) := by
  unfold Format.nearest
  by_cases h0 : mag = 0
  · subst h0; rw [if_pos rfl, Nat.zero_mul, rnd_zero]; simp
  rw [if_neg h0, least_place]
  dsimp only
  rw [cut_even]
  have e52 : (double.fractionBits : Int) = 52 := by decide
  rw [e52, binade_eq]
  have hmax : max (-1074 + (k : Int) + (mag.log2 : Int) - 52) (-1074) = -1074 + ((mag.log2 + k - 52 : Nat) : Int) := by omega
  rw [hmax]
  unfold rnd
  rw [log2_mul _ _ h0, Nat.shiftLeft_eq]
  have h3 : (-1074 + ((mag.log2 + k - 52 : Nat) : Int) - -1074).toNat = mag.log2 + k - 52 := by omega
  rw [h3]
  have h4 : max (mag.log2 + k - 52) 0 = mag.log2 + k - 52 := by omega
  rw [h4]
  congr 2
  congr 1
  by_cases hk : mag.log2 < 52
  · have h1 : (-1074 + (k : Int) - (-1074 + ((mag.log2 + k - 52 : Nat) : Int))).toNat = k - (mag.log2 + k - 52) := by omega
    have h2 : (-1074 + ((mag.log2 + k - 52 : Nat) : Int) - (-1074 + (k : Int))).toNat = 0 := by omega
    rw [h1, h2]
    have := rhe_scale (mag * 2 ^ (k - (mag.log2 + k - 52))) 0 (mag.log2 + k - 52)
    rw [Nat.mul_assoc, ← Nat.pow_add, Nat.zero_add] at this
    have h5 : k - (mag.log2 + k - 52) + (mag.log2 + k - 52) = k := by omega
    rw [h5] at this
    exact this.symm
  · have h1 : (-1074 + (k : Int) - (-1074 + ((mag.log2 + k - 52 : Nat) : Int))).toNat = 0 := by omega
    have h2 : (-1074 + ((mag.log2 + k - 52 : Nat) : Int) - (-1074 + (k : Int))).toNat = mag.log2 - 52 := by omega
    rw [h1, h2]
    have h5 : mag.log2 + k - 52 = mag.log2 - 52 + k := by omega
    rw [h5, rhe_scale]; simp

/-- Any place: what is written is the rung of the number, in units of 2^(-1074 - s). -/
theorem nearest_any (neg : Bool) (mag : Nat) (place : Int) (s k : Nat) (h : place + 1074 + s = k) : double.nearest neg mag place = double.word neg (min (rnd (mag * 2 ^ k) s) double.infRung) := by
  by_cases hp : -1074 ≤ place
  · obtain ⟨j, hj⟩ : ∃ j : Nat, place = -1074 + (j : Int) := ⟨(place + 1074).toNat, by omega⟩
    subst hj
    have : k = j + s := by omega
    subst this
    rw [nearest_up, Nat.pow_add, ← Nat.mul_assoc]
    have := rnd_scale (mag * 2 ^ j) 0 s
    rw [Nat.zero_add] at this
    rw [this]
  · obtain ⟨j, hj⟩ : ∃ j : Nat, place = -1074 - (j : Int) := ⟨(-1074 - place).toNat, by omega⟩
    subst hj
    have : s = j + k := by omega
    subst this
    rw [nearest_dn, rnd_scale]

/-- A word of a finite number: its size, in units of 2^-1074. -/
def mg (w : Nat) : Nat := val (w % 2 ^ 63)

/-- Is the sign's bit set? -/
def sg (w : Nat) : Bool := w / 2 ^ 63 % 2 == 1

/-- A word of a finite number. -/
def Fin64 (w : Nat) : Prop := w % 2 ^ 63 < 2047 * 2 ^ 52

theorem read_fin {w : Nat} (h : Fin64 w) : ∃ m k, double.read w = .number (sg w) m (-1074 + (k : Nat)) ∧ m * 2 ^ k = mg w := by
  unfold Format.read mg val sg Fin64 at *
  rw [sign_eq, binade_eq, inf_eq, least_place]
  dsimp only
  by_cases hs : w % 2 ^ 63 < 2 ^ 52
  · rw [if_pos hs, if_pos hs]; exact ⟨w % 2 ^ 63, 0, by simp, by simp⟩
  · rw [if_neg hs, if_neg hs, if_pos h]; exact ⟨_, _, rfl, rfl⟩

/-- The number with its sign. -/
def sv (w : Nat) : Int := if sg w then -(mg w : Int) else mg w

theorem signed_eq (neg : Bool) (m u : Nat) : signed neg m u = if neg then -((m * 2 ^ u : Nat) : Int) else ((m * 2 ^ u : Nat) : Int) := by
  unfold signed; rw [Nat.shiftLeft_eq]

theorem signed_sv {w m k b : Nat} {s : Bool} (hb : b ≤ k) (hs : s = sg w) (hm : m * 2 ^ k = mg w) : signed s m (-1074 + (k : Int) - (-1074 + (b : Int))).toNat * 2 ^ b = sv w := by
  have : (-1074 + (k : Int) - (-1074 + (b : Int))).toNat = k - b := by omega
  rw [this, signed_eq]
  unfold sv
  have e : m * 2 ^ (k - b) * 2 ^ b = mg w := by
    rw [Nat.mul_assoc, ← Nat.pow_add, Nat.sub_add_cancel hb, hm]
  have e' : (m * 2 ^ (k - b) : Nat) * (2 : Int) ^ b = (mg w : Int) := by
    rw [← e]; simp
  subst hs
  cases sg w
  · simpa using e'
  · simp only [if_true, Int.neg_mul]
    rw [e']

theorem min_int (k l : Nat) : min (-1074 + (k : Int)) (-1074 + (l : Int)) = -1074 + ((min k l : Nat) : Int) := by omega

theorem compare_mul (a b : Int) (c : Nat) : compare (a * 2 ^ c) (b * 2 ^ c) = compare a b := by
  have hc : (0 : Int) < 2 ^ c := Int.pow_pos (by omega)
  have h1 : a * 2 ^ c < b * 2 ^ c ↔ a < b := Int.mul_lt_mul_right hc
  have h2 : a * 2 ^ c = b * 2 ^ c ↔ a = b := Int.mul_eq_mul_right_iff (by omega)
  simp only [compare, compareOfLessAndEq, h1, h2]

theorem order_fin {x y : Nat} (hx : Fin64 x) (hy : Fin64 y) : double.order x y = some (compare (sv x) (sv y)) := by
  obtain ⟨m, k, ex, hm⟩ := read_fin hx
  obtain ⟨n, l, ey, hn⟩ := read_fin hy
  unfold Format.order
  rw [ex, ey]
  unfold Datum.order
  dsimp only
  rw [min_int]
  rw [← compare_mul _ _ (min k l), signed_sv (by omega) rfl hm, signed_sv (by omega) rfl hn]

/-- A signed number, written. -/
def put (neg : Bool) (X s : Nat) : Nat := double.word neg (min (rnd X s) (2047 * 2 ^ 52))

theorem add_fin {x y : Nat} (hx : Fin64 x) (hy : Fin64 y) : double.add x y = some (put (if sv x + sv y = 0 then sg x && sg y else decide (sv x + sv y < 0)) (sv x + sv y).natAbs 0) := by
  obtain ⟨m, k, ex, hm⟩ := read_fin hx
  obtain ⟨n, l, ey, hn⟩ := read_fin hy
  unfold Format.add
  rw [ex, ey]
  unfold Datum.sum
  dsimp only
  rw [min_int]
  have e1 := signed_sv (b := min k l) (by omega) (rfl : sg x = sg x) hm
  have e2 := signed_sv (b := min k l) (by omega) (rfl : sg y = sg y) hn
  generalize signed (sg x) m (-1074 + (k : Int) - (-1074 + ((min k l : Nat) : Int))).toNat = a at *
  generalize signed (sg y) n (-1074 + (l : Int) - (-1074 + ((min k l : Nat) : Int))).toNat = b at *
  have e : (a + b) * 2 ^ (min k l) = sv x + sv y := by rw [Int.add_mul, e1, e2]
  have hc : (0 : Int) < 2 ^ (min k l) := Int.pow_pos (by omega)
  have hz : a + b = 0 ↔ sv x + sv y = 0 := by
    rw [← e]
    constructor
    · intro h; rw [h, Int.zero_mul]
    · intro h
      rcases Int.mul_eq_zero.1 h with h | h
      · exact h
      · omega
  have hl : a + b < 0 ↔ sv x + sv y < 0 := by
    rw [← e]
    have : (a + b) * 2 ^ (min k l) < 0 * 2 ^ (min k l) ↔ a + b < 0 := Int.mul_lt_mul_right hc
    rw [Int.zero_mul] at this
    exact this.symm
  have hn : (sv x + sv y).natAbs = (a + b).natAbs * 2 ^ (min k l) := by
    rw [← e, Int.natAbs_mul, Int.natAbs_pow]; rfl
  simp only [Option.map_some, Format.write, hz, hl]
  rw [nearest_up, hn]
  rfl

theorem mul_fin {x y : Nat} (hx : Fin64 x) (hy : Fin64 y) : double.mul x y = some (put (sg x ^^ sg y) (mg x * mg y) 1074) := by
  obtain ⟨m, k, ex, hm⟩ := read_fin hx
  obtain ⟨n, l, ey, hn⟩ := read_fin hy
  unfold Format.mul
  rw [ex, ey]
  unfold Datum.product
  simp only [Option.map_some, Format.write]
  rw [nearest_any _ _ _ 1074 (k + l) (by omega), ← hm, ← hn]
  unfold put
  congr 4
  rw [Nat.pow_add, Nat.mul_mul_mul_comm]

end Go.Proofs.Ytbebblhnhpdpjaa
