/- Steps, products and sums of crc, as arithmetic of numbers alone. -/
namespace Go.Proofs.YtoeehajdmdmemabDoor.Cr.Poly

def step (r : Nat) : Nat := if r % 2 = 1 then r / 2 ^^^ 3988292384 else r / 2

theorem xor_mod2 (a b : Nat) : (a ^^^ b) % 2 = (a + b) % 2 := by
  have h := @Nat.xor_mod_two_eq_one a b
  have h2 := Nat.mod_two_eq_zero_or_one (a ^^^ b)
  rcases Nat.mod_two_eq_zero_or_one a with ha | ha <;> rcases Nat.mod_two_eq_zero_or_one b with hb | hb <;> rw [ha, hb] at h <;> generalize (a ^^^ b) % 2 = c at * <;> omega

theorem xor_div2 (a b : Nat) : (a ^^^ b) / 2 = a / 2 ^^^ b / 2 := Nat.xor_div_two

theorem xor_swap (a b c : Nat) : a ^^^ b ^^^ c = a ^^^ c ^^^ b := by rw [Nat.xor_assoc, Nat.xor_comm b, ← Nat.xor_assoc]

theorem step_xor (a b : Nat) : step (a ^^^ b) = step a ^^^ step b := by
  unfold step
  rw [xor_mod2, xor_div2]
  rcases Nat.mod_two_eq_zero_or_one a with ha | ha <;> rcases Nat.mod_two_eq_zero_or_one b with hb | hb
  · rw [if_neg (by omega), if_neg (by omega), if_neg (by omega)]
  · rw [if_pos (by omega), if_neg (by omega), if_pos (by omega), Nat.xor_assoc]
  · rw [if_pos (by omega), if_pos (by omega), if_neg (by omega), xor_swap]
  · rw [if_neg (by omega), if_pos (by omega), if_pos (by omega), xor_swap (a / 2), ← Nat.xor_assoc, Nat.xor_assoc (a / 2 ^^^ b / 2), Nat.xor_self, Nat.xor_zero]

theorem xor_lt32 {a b : Nat} (ha : a < 4294967296) (hb : b < 4294967296) : a ^^^ b < 4294967296 := by
  have := @Nat.xor_lt_two_pow a b 32 (by simpa using ha) (by simpa using hb); simpa using this

theorem step_lt {r : Nat} (h : r < 4294967296) : step r < 4294967296 := by
  unfold step; split
  · exact xor_lt32 (by omega) (by decide)
  · omega

theorem step_zero : step 0 = 0 := by decide

def steps : Nat → Nat → Nat
  | 0, r => r
  | k + 1, r => steps k (step r)

theorem steps_xor (k a b : Nat) : steps k (a ^^^ b) = steps k a ^^^ steps k b := by
  induction k generalizing a b with
  | zero => rfl
  | succ k ih => rw [steps, steps, steps, step_xor, ih]

theorem steps_lt (k : Nat) {r : Nat} (h : r < 4294967296) : steps k r < 4294967296 := by
  induction k generalizing r with
  | zero => exact h
  | succ k ih => exact ih (step_lt h)

theorem steps_zero (k : Nat) : steps k 0 = 0 := by
  induction k with
  | zero => rfl
  | succ k ih => rw [steps, step_zero, ih]

theorem steps_add (j k r : Nat) : steps (j + k) r = steps j (steps k r) := by
  induction k generalizing r with
  | zero => rfl
  | succ k ih => rw [Nat.add_succ, steps, steps, ih]

theorem steps_step (k r : Nat) : steps k (step r) = step (steps k r) := by
  have h1 : steps k (step r) = steps (k + 1) r := rfl
  rw [h1, Nat.add_comm, steps_add]; rfl

/-- a number whose lowest bits are nought is only shifted -/
theorem steps_mul (k c : Nat) : steps k (c * 2 ^ k) = c := by
  induction k with
  | zero => simp [steps]
  | succ k ih =>
    have : step (c * 2 ^ (k + 1)) = c * 2 ^ k := by
      unfold step
      rw [Nat.pow_succ, ← Nat.mul_assoc]; rw [if_neg (by omega)]; omega
    rw [steps, this, ih]

theorem low_high (r k : Nat) : (r / 2 ^ k * 2 ^ k) ^^^ (r % 2 ^ k) = r := by
  apply Nat.eq_of_testBit_eq
  intro i
  rw [Nat.testBit_xor, Nat.testBit_mul_two_pow, Nat.testBit_mod_two_pow, Nat.testBit_div_two_pow]
  by_cases h : k ≤ i
  · rw [decide_eq_true h, decide_eq_false (by omega : ¬ i < k)]; simp; congr 1; omega
  · rw [decide_eq_false h, decide_eq_true (by omega : i < k)]; simp

/-- many steps at once: the lowest bits' by themselves -/
theorem steps_split (k r : Nat) : steps k r = r / 2 ^ k ^^^ steps k (r % 2 ^ k) := by
  conv => lhs; rw [← low_high r k]
  rw [steps_xor, steps_mul]

/-! products -/

def mulAcc : Nat → Nat → Nat → Nat → Nat
  | 0, _, _, p => p
  | n + 1, a, b, p => mulAcc n (a * 2 % 4294967296) (step b) (if 2147483648 ≤ a then p ^^^ b else p)

def mul (a b : Nat) : Nat := mulAcc 32 a b 0

theorem mulAcc_nil (n b p : Nat) : mulAcc n 0 b p = p := by
  induction n generalizing b p with
  | zero => rfl
  | succ n ih => rw [mulAcc, if_neg (by decide)]; exact ih _ _

theorem mulAcc_step (n a b p : Nat) : mulAcc n a (step b) (step p) = step (mulAcc n a b p) := by
  induction n generalizing a b p with
  | zero => rfl
  | succ n ih =>
    rw [mulAcc, mulAcc, ← ih]; congr 1
    split
    · rw [step_xor]
    · rfl

theorem mul_step (a b : Nat) : mul a (step b) = step (mul a b) := by
  unfold mul; rw [← mulAcc_step, step_zero]

theorem mulAcc_lt (n a : Nat) {b p : Nat} (hb : b < 4294967296) (hp : p < 4294967296) : mulAcc n a b p < 4294967296 := by
  induction n generalizing a b p with
  | zero => exact hp
  | succ n ih =>
    rw [mulAcc]; apply ih _ (step_lt hb)
    split
    · exact xor_lt32 hp hb
    · exact hp

theorem mul_lt (a : Nat) {b : Nat} (hb : b < 4294967296) : mul a b < 4294967296 := mulAcc_lt 32 a hb (by decide)

theorem mulAcc_one (n c p : Nat) (hn : n ≤ 32) (hc : c < 2 ^ n) : mulAcc n (c * 2 ^ (32 - n)) (2 ^ (n - 1)) p = p ^^^ c := by
  induction n generalizing c p with
  | zero => have : c = 0 := by simpa using hc
            rw [this]; simp [mulAcc]
  | succ n ih =>
    rw [mulAcc]
    have e1 : 32 - n = (32 - (n + 1)) + 1 := by omega
    have e2 : c * 2 ^ (32 - (n + 1)) * 2 % 4294967296 = (c % 2 ^ n) * 2 ^ (32 - n) := by
      have h32 : (4294967296 : Nat) = 2 ^ n * 2 ^ (32 - n) := by rw [← Nat.pow_add]; rw [show n + (32 - n) = 32 by omega]
      rw [Nat.mul_assoc, ← Nat.pow_succ, ← Nat.succ_eq_add_one, Nat.succ_eq_add_one, ← e1, h32, Nat.mul_mod_mul_right]
    have e3 : (2147483648 ≤ c * 2 ^ (32 - (n + 1))) ↔ 2 ^ n ≤ c := by
      have h31 : (2147483648 : Nat) = 2 ^ n * 2 ^ (32 - (n + 1)) := by rw [← Nat.pow_add]; rw [show n + (32 - (n + 1)) = 31 by omega]
      rw [h31]; exact ⟨fun h => Nat.le_of_mul_le_mul_right h (Nat.two_pow_pos _), fun h => Nat.mul_le_mul_right _ h⟩
    have hx : c = (if 2 ^ n ≤ c then 2 ^ n else 0) ^^^ (c % 2 ^ n) := by
      conv => lhs; rw [← low_high c n]
      congr 1
      have hlt : c / 2 ^ n < 2 := by rw [Nat.div_lt_iff_lt_mul (Nat.two_pow_pos n)]; rw [Nat.pow_succ] at hc; omega
      split
      · rename_i h
        have : 0 < c / 2 ^ n := Nat.div_pos h (Nat.two_pow_pos n)
        rw [show c / 2 ^ n = 1 by omega, Nat.one_mul]
      · rename_i h
        rw [Nat.div_eq_of_lt (by omega), Nat.zero_mul]
    cases n with
    | zero =>
      rw [mulAcc]
      have hc2 : c < 2 := by simpa using hc
      have : c = 0 ∨ c = 1 := by omega
      rcases this with rfl | rfl
      · simp
      · simp
    | succ m =>
      have e4 : step (2 ^ (m + 1 + 1 - 1)) = 2 ^ (m + 1 - 1) := by
        have := steps_mul 1 (2 ^ m)
        simp only [steps, Nat.pow_one] at this
        rw [show m + 1 + 1 - 1 = m + 1 by omega, show m + 1 - 1 = m by omega, Nat.pow_succ]; exact this
      rw [e2, e4, ih (c % 2 ^ (m + 1)) _ (by omega) (Nat.mod_lt _ (Nat.two_pow_pos _))]
      conv => rhs; rw [hx]
      simp only [e3]
      rw [show m + 1 + 1 - 1 = m + 1 by omega]
      split
      · rw [Nat.xor_assoc]
      · rw [Nat.zero_xor]

theorem mul_one (a : Nat) (ha : a < 4294967296) : mul a 2147483648 = a := by
  have := mulAcc_one 32 a 0 (by decide) (by simpa using ha)
  simpa [mul] using this

theorem mul_steps (k a : Nat) (ha : a < 4294967296) : mul a (steps k 2147483648) = steps k a := by
  induction k with
  | zero => exact mul_one a ha
  | succ k ih => rw [steps, steps_step, mul_step, ih, steps, steps_step]

/-! back -/

def unstep (r : Nat) : Nat := if 2147483648 ≤ r then ((r ^^^ 3988292384) * 2 + 1) % 4294967296 else r * 2

theorem testBit_31 (r : Nat) (h : r < 4294967296) : r.testBit 31 = decide (2147483648 ≤ r) := by
  have h1 : r / 2147483648 < 2 := by omega
  rw [Nat.testBit_eq_decide_div_mod_eq, show (2 : Nat) ^ 31 = 2147483648 by decide]
  congr 1; apply propext; omega

theorem lt31 {r : Nat} (h : r < 4294967296) : r < 2147483648 ↔ r.testBit 31 = false := by
  rw [testBit_31 r h, decide_eq_false_iff_not]; omega

theorem unstep_lt {r : Nat} (h : r < 4294967296) : unstep r < 4294967296 := by
  unfold unstep; split <;> omega

theorem step_unstep {r : Nat} (h : r < 4294967296) : step (unstep r) = r := by
  unfold unstep; split
  · rename_i h1
    have hx : r ^^^ 3988292384 < 4294967296 := xor_lt32 h (by decide)
    have h2 : r ^^^ 3988292384 < 2147483648 := by
      rw [lt31 hx, Nat.testBit_xor, testBit_31 r h, decide_eq_true h1]; decide
    unfold step
    rw [if_pos (by omega), show ((r ^^^ 3988292384) * 2 + 1) % 4294967296 / 2 = r ^^^ 3988292384 by omega, Nat.xor_assoc, Nat.xor_self, Nat.xor_zero]
  · unfold step; rw [if_neg (by omega)]; omega

theorem unstep_step {r : Nat} (h : r < 4294967296) : unstep (step r) = r := by
  unfold step; split
  · rename_i h1
    have hx : r / 2 ^^^ 3988292384 < 4294967296 := xor_lt32 (by omega) (by decide)
    have h2 : 2147483648 ≤ r / 2 ^^^ 3988292384 := by
      have h3 : (r / 2).testBit 31 = false := (lt31 (by omega)).1 (by omega)
      have : ¬ (r / 2 ^^^ 3988292384) < 2147483648 := by
        rw [lt31 hx, Nat.testBit_xor, h3]; decide
      omega
    unfold unstep; rw [if_pos h2, Nat.xor_assoc, Nat.xor_self, Nat.xor_zero]; omega
  · unfold unstep; rw [if_neg (by omega)]; omega

theorem unstep_xor {a b : Nat} (ha : a < 4294967296) (hb : b < 4294967296) : unstep (a ^^^ b) = unstep a ^^^ unstep b := by
  have := unstep_step (xor_lt32 (unstep_lt ha) (unstep_lt hb))
  rw [step_xor, step_unstep ha, step_unstep hb] at this
  exact this

def unsteps : Nat → Nat → Nat
  | 0, r => r
  | k + 1, r => unsteps k (unstep r)

theorem unsteps_lt (k : Nat) {r : Nat} (h : r < 4294967296) : unsteps k r < 4294967296 := by
  induction k generalizing r with
  | zero => exact h
  | succ k ih => exact ih (unstep_lt h)

theorem unsteps_add (j k r : Nat) : unsteps (j + k) r = unsteps j (unsteps k r) := by
  induction k generalizing r with
  | zero => rfl
  | succ k ih => rw [Nat.add_succ, unsteps, unsteps, ih]

theorem unsteps_unstep (k r : Nat) : unsteps k (unstep r) = unstep (unsteps k r) := by
  have h1 : unsteps k (unstep r) = unsteps (k + 1) r := rfl
  rw [h1, Nat.add_comm, unsteps_add]; rfl

theorem unsteps_xor (k : Nat) {a b : Nat} (ha : a < 4294967296) (hb : b < 4294967296) : unsteps k (a ^^^ b) = unsteps k a ^^^ unsteps k b := by
  induction k generalizing a b with
  | zero => rfl
  | succ k ih => rw [unsteps, unsteps, unsteps, unstep_xor ha hb, ih (unstep_lt ha) (unstep_lt hb)]

theorem unsteps_steps (k : Nat) {r : Nat} (h : r < 4294967296) : unsteps k (steps k r) = r := by
  induction k generalizing r with
  | zero => rfl
  | succ k ih => rw [steps, steps_step, unsteps, unstep_step (steps_lt k h), ih h]

theorem steps_unsteps (k : Nat) {r : Nat} (h : r < 4294967296) : steps k (unsteps k r) = r := by
  induction k generalizing r with
  | zero => rfl
  | succ k ih => rw [unsteps, steps, steps_step, ih (unstep_lt h), step_unstep h]

theorem mul_unstep (a : Nat) {b : Nat} (hb : b < 4294967296) : mul a (unstep b) = unstep (mul a b) := by
  have := mul_step a (unstep b)
  rw [step_unstep hb] at this
  rw [this, unstep_step (mul_lt a (unstep_lt hb))]

theorem mul_unsteps (k a : Nat) (ha : a < 4294967296) : mul a (unsteps k 2147483648) = unsteps k a := by
  induction k with
  | zero => exact mul_one a ha
  | succ k ih => rw [unsteps, unsteps_unstep, mul_unstep a (unsteps_lt k (by decide)), ih, unsteps, unsteps_unstep]

theorem ahead : steps 8 2147483648 = 8388608 := by decide
theorem behind : unsteps 8 2147483648 = 1701301141 := by decide

end Go.Proofs.YtoeehajdmdmemabDoor.Cr.Poly
