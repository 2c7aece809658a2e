/- Numbers alone: which shapes and sizes may be, how many pieces hold so many bytes. -/
namespace Go.Proofs.Ytmjecgdamkkpaaa.Gx

/-- A shape that may be. -/
def OkS (a b c : Int) : Prop := 1 ≤ a ∧ a ≤ 1024 ∧ 1 ≤ b ∧ b ≤ 4096 ∧ 1 ≤ c ∧ c ≤ 64
instance (a b c : Int) : Decidable (OkS a b c) := by unfold OkS; infer_instance
/-- A size that may be. -/
def OkZ (s : Int) : Prop := s = 64 ∨ s = 128 ∨ s = 256 ∨ s = 512 ∨ s = 1024 ∨ s = 2048 ∨ s = 4096
instance (s : Int) : Decidable (OkZ s) := by unfold OkZ; infer_instance
/-- A disk that may be. -/
def OkD (n s : Int) : Prop := 1 ≤ n ∧ n ≤ 65536 ∧ OkZ s ∧ n * s ≤ 67108864
instance (n s : Int) : Decidable (OkD n s) := by unfold OkD; infer_instance
/-- The lesser of two. -/
def lo (a b : Int) : Int := if a ≤ b then a else b
/-- An image's most bytes. -/
def img (a b : Int) : Int := 20 + 14 * lo a b
/-- How many pieces of s bytes hold b bytes. -/
def hold (b s : Int) : Int := (b + s - 1) / s
/-- A slot's sectors. -/
def slot (a b s : Int) : Int := 1 + hold (img a b) s
/-- What is needed. -/
def need (a b s : Int) : Int := 2 * slot a b s + hold 54 s

theorem lo_bounds {a b c : Int} (h : OkS a b c) : 1 ≤ lo a b ∧ lo a b ≤ 1024 := by
  unfold OkS at h; unfold lo; split <;> omega
theorem img_bounds {a b c : Int} (h : OkS a b c) : 34 ≤ img a b ∧ img a b ≤ 14356 := by
  have := lo_bounds h; unfold img; omega
theorem okz_bounds {s : Int} (h : OkZ s) : 64 ≤ s ∧ s ≤ 4096 := by unfold OkZ at h; omega
/-- What hold is. -/
theorem hold_spec {b s : Int} (hs : 0 < s) (hb : 0 < b) : b ≤ hold b s * s ∧ (hold b s - 1) * s < b ∧ 1 ≤ hold b s := by
  unfold hold
  have h1 := Int.emod_add_mul_ediv (b + s - 1) s
  have h2 := Int.emod_nonneg (b + s - 1) (by omega : s ≠ 0)
  have h3 := Int.emod_lt_of_pos (b + s - 1) hs
  generalize (b + s - 1) % s = r at *
  have h4 : 1 ≤ (b + s - 1) / s := by
    rw [Int.le_ediv_iff_mul_le hs]; omega
  generalize (b + s - 1) / s = q at *
  rw [Int.sub_mul, Int.mul_comm q s]
  omega
/-- And nothing else. -/
theorem hold_of {b s k : Int} (hs : 0 < s) (hb : 0 < b) (h1 : b ≤ k * s) (h2 : (k - 1) * s < b) : k = hold b s := by
  obtain ⟨g1, g2, _⟩ := hold_spec hs hb
  generalize hold b s = q at *
  have l1 : (k - 1) * s < q * s := by omega
  have l2 : (q - 1) * s < k * s := by omega
  have m1 := Int.lt_of_mul_lt_mul_right l1 (by omega)
  have m2 := Int.lt_of_mul_lt_mul_right l2 (by omega)
  omega
theorem hold_54 {s : Int} (h : OkZ s) : hold 54 s = 1 := by
  have hb := okz_bounds h
  exact (hold_of (by omega) (by omega) (by omega) (by omega)).symm
theorem hold_bounds {b s : Int} (h : OkZ s) (h1 : 0 < b) (h2 : b ≤ 14356) : 1 ≤ hold b s ∧ hold b s ≤ 225 := by
  have hb := okz_bounds h
  obtain ⟨g1, g2, g3⟩ := hold_spec (s := s) (b := b) (by omega) h1
  refine ⟨g3, ?_⟩
  generalize hold b s = q at *
  have : (q - 1) * 64 ≤ (q - 1) * s := Int.mul_le_mul_of_nonneg_left hb.1 (by omega)
  omega
theorem slot_bounds {a b c s : Int} (h : OkS a b c) (hz : OkZ s) : 2 ≤ slot a b s ∧ slot a b s ≤ 226 := by
  have := hold_bounds hz (b := img a b) (by have := img_bounds h; omega) (img_bounds h).2
  unfold slot; omega
theorem need_eq {a b s : Int} (hz : OkZ s) : need a b s = 2 * slot a b s + 1 := by
  unfold need; rw [hold_54 hz]
theorem need_bounds {a b c s : Int} (h : OkS a b c) (hz : OkZ s) : 5 ≤ need a b s ∧ need a b s ≤ 453 := by
  have := slot_bounds h hz
  rw [need_eq hz]; omega
theorem hold_mono {x y s : Int} (hs : 0 < s) (h : x ≤ y) : hold x s ≤ hold y s := by
  unfold hold; exact Int.ediv_le_ediv hs (by omega)
theorem need_mono {a b a' b' s : Int} (hs : 0 < s) (ha : a ≤ a') (hb : b ≤ b') : need a b s ≤ need a' b' s := by
  have : img a b ≤ img a' b' := by unfold img lo; split <;> split <;> omega
  have := hold_mono hs this
  unfold need slot; omega

def bitT (n : Nat) : Bool := n < 64 || 4097 ≤ n || (((n &&& (n - 1)) == 0) == (n == 64 || n == 128 || n == 256 || n == 512 || n == 1024 || n == 2048 || n == 4096))
theorem one_bit0 : ∀ a : Fin 65, ∀ b : Fin 64, bitT (64 * a.1 + b.1) = true := by decide +kernel
/-- The numbers with one bit among 64 .. 4096. -/
theorem one_bit (n : Nat) (h : n < 4097) (h6 : 64 ≤ n) : (n &&& (n - 1)) = 0 ↔ (n = 64 ∨ n = 128 ∨ n = 256 ∨ n = 512 ∨ n = 1024 ∨ n = 2048 ∨ n = 4096) := by
  have e : 64 * (n / 64) + n % 64 = n := Nat.div_add_mod n 64
  have := one_bit0 ⟨n / 64, by omega⟩ ⟨n % 64, by omega⟩
  simp only [e] at this
  unfold bitT at this
  simp only [Bool.or_eq_true, decide_eq_true_eq, Bool.beq_eq_decide_eq] at this
  rcases this with (h1 | h1) | h1
  · omega
  · omega
  · have h2 := Bool.eq_iff_iff.1 h1
    simp only [decide_eq_true_eq, Bool.or_eq_true] at h2
    rw [h2]; omega
end Go.Proofs.Ytmjecgdamkkpaaa.Gx
