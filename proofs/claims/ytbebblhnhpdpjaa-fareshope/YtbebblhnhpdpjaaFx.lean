/- Likelihoods as words; what the operations on them give. -/
import Derived.Test.YtbebblhnhpdpjaaFw
namespace Go.Proofs.Ytbebblhnhpdpjaa
open Ieee

/-- Not below 0; not above 1. -/
def ge0 (p : Nat) : Bool := FloatKind.f64.format.order p 0 == some .gt || FloatKind.f64.format.order p 0 == some .eq
def le1 (p : Nat) : Bool := FloatKind.f64.format.order p 4607182418800017408 == some .lt || FloatKind.f64.format.order p 4607182418800017408 == some .eq
def lik (p : Nat) : Bool := ge0 p && le1 p
theorem f64_double : FloatKind.f64.format = double := rfl

theorem mg_of {x : Nat} (h : x < 2047 * 2 ^ 52) : mg x = val x := by
  unfold mg; rw [Nat.mod_eq_of_lt (by omega)]
theorem sg_of {x : Nat} (h : x < 2047 * 2 ^ 52) : sg x = false := by
  unfold sg; rw [Nat.div_eq_of_lt (by omega)]; rfl
theorem fin_of {x : Nat} (h : x < 2047 * 2 ^ 52) : Fin64 x := by
  unfold Fin64; rw [Nat.mod_eq_of_lt (by omega)]; exact h
theorem sv_of {x : Nat} (h : x < 2047 * 2 ^ 52) : sv x = (val x : Int) := by
  unfold sv; rw [sg_of h, mg_of h]; rfl

theorem one_fin : (4607182418800017408 : Nat) < 2047 * 2 ^ 52 := by decide
theorem low_fin {x : Nat} (h : x ≤ 4607182418800017408) : x < 2047 * 2 ^ 52 := by omega
theorem sv_one : sv 4607182418800017408 = (pw 1074 : Nat) := by rw [sv_of one_fin, val_one]
theorem sv_zero : sv 0 = 0 := by rw [sv_of (by omega), val_zero]; rfl

theorem order_low {x y : Nat} (hx : x < 2047 * 2 ^ 52) (hy : y < 2047 * 2 ^ 52) : FloatKind.f64.format.order x y = some (compare x y) := by
  rw [f64_double, order_fin (fin_of hx) (fin_of hy), sv_of hx, sv_of hy]
  congr 1
  have h1 : ((val x : Nat) : Int) < ((val y : Nat) : Int) ↔ x < y := by rw [Int.ofNat_lt]; exact val_lt_iff
  have h2 : ((val x : Nat) : Int) = ((val y : Nat) : Int) ↔ x = y := by
    rw [Int.ofNat_inj]
    exact ⟨val_inj, fun h => by rw [h]⟩
  simp only [compare, compareOfLessAndEq, h1, h2]

theorem gt_iff {a b : Nat} : compare a b = .gt ↔ b < a := Nat.compare_eq_gt
theorem lt_iff {a b : Nat} : compare a b = .lt ↔ a < b := Nat.compare_eq_lt
theorem eq_iff {a b : Nat} : compare a b = .eq ↔ a = b := Nat.compare_eq_eq

theorem some_beq (a b : Ordering) : (some a == some b) = decide (a = b) := by cases a <;> cases b <;> rfl

theorem read_big {p : Nat} (h : ¬ Fin64 p) : double.read p = .infinity (sg p) ∨ ∃ t, double.read p = .nan (sg p) t := by
  unfold Format.read Fin64 sg at *
  rw [sign_eq, binade_eq, inf_eq]
  dsimp only
  rw [if_neg (by omega), if_neg (by omega)]
  by_cases h2 : p % 2 ^ 63 = 2047 * 2 ^ 52
  · rw [if_pos h2]; exact Or.inl rfl
  · rw [if_neg h2]; exact Or.inr ⟨_, rfl⟩

theorem lik_fin {p : Nat} (h : lik p = true) : Fin64 p := by
  apply Classical.byContradiction
  intro hn
  unfold lik ge0 le1 at h
  rw [f64_double] at h
  obtain ⟨m0, k0, e0, -⟩ := read_fin (fin_of (x := 0) (by omega))
  obtain ⟨m1, k1, e1, -⟩ := read_fin (fin_of one_fin)
  unfold Format.order at h
  rw [e0, e1] at h
  rcases read_big hn with hr | ⟨t, hr⟩
  · rw [hr] at h
    unfold Datum.order at h
    cases hs : sg p <;> rw [hs] at h <;> simp at h
  · rw [hr] at h
    unfold Datum.order at h
    simp at h

theorem comp_int (a b : Int) : (compare a b = .gt ↔ b < a) ∧ (compare a b = .lt ↔ a < b) ∧ (compare a b = .eq ↔ a = b) := by
  simp only [compare, compareOfLessAndEq]
  refine ⟨?_, ?_, ?_⟩ <;> (split <;> try split) <;> simp <;> omega

/-- A likelihood's rung; below 0 is none. -/
theorem lik_rung {p : Nat} (h : lik p = true) : p % 2 ^ 63 ≤ 4607182418800017408 ∧ (sg p = true → p % 2 ^ 63 = 0) := by
  have hf := lik_fin h
  unfold lik ge0 le1 at h
  rw [f64_double, order_fin hf (fin_of (by omega)), order_fin hf (fin_of one_fin), sv_zero, sv_one] at h
  simp only [some_beq, Bool.and_eq_true, Bool.or_eq_true, decide_eq_true_eq, comp_int] at h
  obtain ⟨h1, h2⟩ := h
  have hv : sv p = if sg p then -((mg p : Nat) : Int) else ((mg p : Nat) : Int) := rfl
  rw [hv] at h1 h2
  have hone := val_one
  generalize pw 1074 = u at *
  have hz : ∀ r, val r = 0 → r = 0 := fun r hr => val_inj (hr.trans val_zero.symm)
  unfold mg at *
  generalize hr : p % 2 ^ 63 = r at *
  cases hs : sg p
  · rw [hs] at h1 h2
    simp only [Bool.false_eq_true, if_false] at h1 h2
    refine ⟨val_le_iff.1 (by omega), fun e => by cases e⟩
  · rw [hs] at h1 h2
    simp only [if_true] at h1 h2
    have h0 : r = 0 := hz r (by omega)
    exact ⟨by omega, fun _ => h0⟩

/-- How words of small numbers are written. -/
theorem put_low {X s : Nat} (h : rnd X s < 2047 * 2 ^ 52) : put false X s = rnd X s := by
  unfold put Format.word
  rw [Nat.min_eq_left (by omega)]; rfl

theorem mul_low {a b : Nat} (ha : a ≤ 4607182418800017408) (hb : b ≤ 4607182418800017408) : floatBits .mul .f64 a b = some (rnd (val a * val b) 1074) := by
  show double.mul a b = _
  rw [mul_fin (fin_of (low_fin ha)) (fin_of (low_fin hb)), sg_of (low_fin ha), sg_of (low_fin hb), mg_of (low_fin ha), mg_of (low_fin hb)]
  rw [show (false ^^ false) = false from rfl, put_low (low_fin (prod_le_one ha hb))]

/-- A product with a likelihood: -0, if it is -0. -/
def mw (b p : Nat) : Nat := if sg p then 2 ^ 63 else rnd (val b * val (p % 2 ^ 63)) 1074
theorem mul_lik {b p : Nat} (hb : b ≤ 4607182418800017408) (hp : lik p = true) : floatBits .mul .f64 b p = some (mw b p) := by
  show double.mul b p = _
  obtain ⟨h1, h2⟩ := lik_rung hp
  rw [mul_fin (fin_of (low_fin hb)) (lik_fin hp), sg_of (low_fin hb), mg_of (low_fin hb)]
  unfold mw mg
  cases hs : sg p
  · rw [show (false ^^ false) = false from rfl, put_low (low_fin (prod_le_one hb h1))]; rfl
  · rw [h2 hs, val_zero, Nat.mul_zero]
    unfold put; rw [rnd_zero]; rfl
theorem mw_fin {b p : Nat} (hb : b ≤ 4607182418800017408) (hp : lik p = true) : Fin64 (mw b p) ∧ sv (mw b p) = (val (rnd (val b * val (p % 2 ^ 63)) 1074) : Nat) := by
  obtain ⟨h1, h2⟩ := lik_rung hp
  unfold mw
  cases hs : sg p
  · have := low_fin (prod_le_one hb h1)
    exact ⟨fin_of this, sv_of this⟩
  · rw [h2 hs, val_zero, Nat.mul_zero, rnd_zero]
    rw [if_pos rfl, val_zero]
    refine ⟨?_, by decide⟩
    unfold Fin64; decide
theorem add_lik {a b p : Nat} (ha : a ≤ 4607182418800017408) (hb : b ≤ 4607182418800017408) (hp : lik p = true) (hs : rnd (val a + val (rnd (val b * val (p % 2 ^ 63)) 1074)) 0 < 2047 * 2 ^ 52) :
    floatBits .add .f64 a (mw b p) = some (rnd (val a + val (rnd (val b * val (p % 2 ^ 63)) 1074)) 0) := by
  show double.add a (mw b p) = _
  obtain ⟨h1, h2⟩ := mw_fin hb hp
  rw [add_fin (fin_of (low_fin ha)) h1, h2, sv_of (low_fin ha), sg_of (low_fin ha)]
  generalize val (rnd (val b * val (p % 2 ^ 63)) 1074) = y at *
  generalize val a = x at *
  have hn : (((x : Nat) : Int) + ((y : Nat) : Int)).natAbs = x + y := by omega
  have hneg : (if ((x : Nat) : Int) + ((y : Nat) : Int) = 0 then (false && sg (mw b p)) else decide (((x : Nat) : Int) + ((y : Nat) : Int) < 0)) = false := by
    split
    · rfl
    · simp; omega
  rw [hn, hneg, put_low hs]
theorem add_low {s q : Nat} (h1 : s < 2047 * 2 ^ 52) (h2 : q < 2047 * 2 ^ 52) (hs : ad s q < 2047 * 2 ^ 52) : floatBits .add .f64 s q = some (ad s q) := by
  show double.add s q = _
  rw [add_fin (fin_of h1) (fin_of h2), sv_of h1, sv_of h2, sg_of h1, sg_of h2]
  have hn : (((val s : Nat) : Int) + ((val q : Nat) : Int)).natAbs = val s + val q := by omega
  have hneg : (if ((val s : Nat) : Int) + ((val q : Nat) : Int) = 0 then (false && false) else decide (((val s : Nat) : Int) + ((val q : Nat) : Int) < 0)) = false := by
    split
    · rfl
    · simp; omega
  rw [hn, hneg, put_low hs]; rfl

theorem signed_not (s : Bool) (m u : Nat) : signed (!s) m u = - signed s m u := by
  rw [signed_eq, signed_eq]
  cases s <;> simp

theorem sub_fin {x y : Nat} (hx : Fin64 x) (hy : Fin64 y) : double.sub x y = some (put (if sv x - sv y = 0 then sg x && !sg y else decide (sv x - sv y < 0)) (sv x - sv y).natAbs 0) := by
  obtain ⟨m, k, ex, hm⟩ := read_fin hx
  obtain ⟨n, l, ey, hn⟩ := read_fin hy
  unfold Format.sub
  rw [ex, ey]
  unfold Datum.opposite Datum.sum
  dsimp only
  rw [min_int, signed_not]
  have e1 := signed_sv (b := min k l) (by omega) (rfl : sg x = sg x) hm
  have e2 := signed_sv (b := min k l) (by omega) (rfl : sg y = sg y) hn
  generalize signed (sg x) m (-1074 + (k : Int) - (-1074 + ((min k l : Nat) : Int))).toNat = a at *
  generalize signed (sg y) n (-1074 + (l : Int) - (-1074 + ((min k l : Nat) : Int))).toNat = b at *
  have e : (a + -b) * 2 ^ (min k l) = sv x - sv y := by rw [Int.add_mul, Int.neg_mul, e1, e2]; omega
  have hc : (0 : Int) < 2 ^ (min k l) := Int.pow_pos (by omega)
  have hz : a + -b = 0 ↔ sv x - sv y = 0 := by
    rw [← e]
    constructor
    · intro h; rw [h, Int.zero_mul]
    · intro h
      rcases Int.mul_eq_zero.1 h with h | h
      · exact h
      · omega
  have hl : a + -b < 0 ↔ sv x - sv y < 0 := by
    rw [← e]
    have : (a + -b) * 2 ^ (min k l) < 0 * 2 ^ (min k l) ↔ a + -b < 0 := Int.mul_lt_mul_right hc
    rw [Int.zero_mul] at this
    exact this.symm
  have hn : (sv x - sv y).natAbs = (a + -b).natAbs * 2 ^ (min k l) := by
    rw [← e, Int.natAbs_mul, Int.natAbs_pow]; rfl
  simp only [Option.map_some, Format.write, hz, hl]
  rw [nearest_up, hn]
  rfl

theorem sub_lik {p : Nat} (hp : lik p = true) : floatBits .sub .f64 4607182418800017408 p = some (rr (p % 2 ^ 63)) := by
  show double.sub 4607182418800017408 p = _
  obtain ⟨h1, h2⟩ := lik_rung hp
  have hle := val_le_one h1
  have hv : sv p = ((val (p % 2 ^ 63) : Nat) : Int) := by
    unfold sv mg
    cases hs : sg p
    · rfl
    · rw [h2 hs, val_zero]; rfl
  have hr := rr_le (p % 2 ^ 63)
  unfold rr at hr
  rw [sub_fin (fin_of one_fin) (lik_fin hp), hv, sv_one, sg_of one_fin]
  unfold rr
  generalize val (p % 2 ^ 63) = v at *
  generalize pw 1074 = u at *
  have hn : (((u : Nat) : Int) - ((v : Nat) : Int)).natAbs = u - v := by omega
  have hneg : (if ((u : Nat) : Int) - ((v : Nat) : Int) = 0 then (false && !sg p) else decide (((u : Nat) : Int) - ((v : Nat) : Int) < 0)) = false := by
    split
    · rfl
    · simp; omega
  rw [hn, hneg, put_low (low_fin hr)]

/-- A sum above a risk? -/
theorem gt_lik {s p : Nat} (hs : s < 2047 * 2 ^ 52) (hp : lik p = true) : (FloatKind.f64.format.order s p == some .gt) = decide (p % 2 ^ 63 < s) := by
  obtain ⟨h1, h2⟩ := lik_rung hp
  have hv : sv p = ((val (p % 2 ^ 63) : Nat) : Int) := by
    unfold sv mg
    cases hs : sg p
    · rfl
    · rw [h2 hs, val_zero]; rfl
  rw [f64_double, order_fin (fin_of hs) (lik_fin hp), hv, sv_of hs, some_beq]
  have := val_lt_iff (a := p % 2 ^ 63) (b := s)
  by_cases h : p % 2 ^ 63 < s
  · rw [decide_eq_true h, decide_eq_true]
    rw [(comp_int _ _).1]; omega
  · rw [decide_eq_false h, decide_eq_false]
    rw [(comp_int _ _).1]; omega
end Go.Proofs.Ytbebblhnhpdpjaa
