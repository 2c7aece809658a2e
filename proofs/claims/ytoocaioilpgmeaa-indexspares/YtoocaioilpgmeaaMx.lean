/- Numbers of 64 bits mixed, and back: plain lemmas, without the program. -/
namespace Go.Proofs.Ytoocaioilpgmeaa.Mx

def fold (k x : Nat) : Nat := x ^^^ x / 2 ^ k
def unf (k y : Nat) : Nat := y ^^^ y / 2 ^ k ^^^ y / 2 ^ (2 * k)

theorem lt64 {n : Nat} : n < 18446744073709551616 ↔ n < 2 ^ 64 := by rw [show (2 : Nat) ^ 64 = 18446744073709551616 by decide]
theorem xor_lt {a b : Nat} (ha : a < 18446744073709551616) (hb : b < 18446744073709551616) : a ^^^ b < 18446744073709551616 := lt64.2 (Nat.xor_lt_two_pow (lt64.1 ha) (lt64.1 hb))
theorem div_lt {x : Nat} (k : Nat) (h : x < 18446744073709551616) : x / 2 ^ k < 18446744073709551616 := Nat.lt_of_le_of_lt (Nat.div_le_self _ _) h
theorem fold_lt (k : Nat) {x : Nat} (h : x < 18446744073709551616) : fold k x < 18446744073709551616 := xor_lt h (div_lt k h)
theorem unf_lt (k : Nat) {x : Nat} (h : x < 18446744073709551616) : unf k x < 18446744073709551616 := xor_lt (xor_lt h (div_lt k h)) (div_lt _ h)
theorem xor_div (a b k : Nat) : (a ^^^ b) / 2 ^ k = a / 2 ^ k ^^^ b / 2 ^ k := by
  rw [← Nat.shiftRight_eq_div_pow, ← Nat.shiftRight_eq_div_pow, ← Nat.shiftRight_eq_div_pow, Nat.shiftRight_xor_distrib]
theorem div_pow_pow (y j k : Nat) : y / 2 ^ j / 2 ^ k = y / 2 ^ (j + k) := by rw [Nat.div_div_eq_div_mul, ← Nat.pow_add]
theorem div_out {y : Nat} (m : Nat) (h : y < 18446744073709551616) (hm : 64 ≤ m) : y / 2 ^ m = 0 := by
  apply Nat.div_eq_of_lt
  exact Nat.lt_of_lt_of_le (lt64.1 h) (Nat.pow_le_pow_right (by decide) hm)
theorem cancel (y a b : Nat) : y ^^^ a ^^^ b ^^^ (a ^^^ b ^^^ 0) = y := by
  apply Nat.eq_of_testBit_eq; intro i
  simp only [Nat.testBit_xor, Nat.zero_testBit]
  cases y.testBit i <;> cases a.testBit i <;> cases b.testBit i <;> rfl
theorem cancel2 (y a b : Nat) : y ^^^ a ^^^ (a ^^^ b) ^^^ (b ^^^ 0) = y := by
  apply Nat.eq_of_testBit_eq; intro i
  simp only [Nat.testBit_xor, Nat.zero_testBit]
  cases y.testBit i <;> cases a.testBit i <;> cases b.testBit i <;> rfl
theorem fold_unf {k y : Nat} (hk : 22 ≤ k) (h : y < 18446744073709551616) : fold k (unf k y) = y := by
  unfold fold unf
  rw [xor_div, xor_div, div_pow_pow, div_pow_pow, div_out (2 * k + k) h (by omega), show k + k = 2 * k by omega, cancel]
theorem unf_fold {k x : Nat} (hk : 22 ≤ k) (h : x < 18446744073709551616) : unf k (fold k x) = x := by
  unfold fold unf
  rw [xor_div, xor_div, div_pow_pow, div_pow_pow, div_out (k + 2 * k) h (by omega), show k + k = 2 * k by omega, cancel2]

/-- A product that is undone. -/
theorem mul_undone {x M N : Nat} (hx : x < 18446744073709551616) (h : M * N % 18446744073709551616 = 1) : x * M % 18446744073709551616 * N % 18446744073709551616 = x := by
  rw [Nat.mul_mod, Nat.mod_mod, ← Nat.mul_mod, Nat.mul_assoc, Nat.mul_mod, h, Nat.mul_one, Nat.mod_mod, Nat.mod_eq_of_lt hx]

/-- A product of numbers of 64 bits. -/
def mul (a b : Nat) : Nat := a * b % 18446744073709551616
def M1 : Nat := 13787848793156543929
def N1 : Nat := 10871156337175269513
def M2 : Nat := 10723151780598845931
def N2 : Nat := 3573116690164977347
def G : Nat := 11400714819323198485
def hash (x : Nat) : Nat := fold 31 (fold 27 (fold 30 x * M1 % 18446744073709551616) * M2 % 18446744073709551616)
def back (y : Nat) : Nat := unf 30 (unf 27 (unf 31 y * N2 % 18446744073709551616) * N1 % 18446744073709551616)
theorem m64 (n : Nat) : n % 18446744073709551616 < 18446744073709551616 := Nat.mod_lt _ (by decide)
theorem mul_lt (a b : Nat) : mul a b < 18446744073709551616 := m64 _
theorem hash_eq (x : Nat) : hash x = fold 31 (mul (fold 27 (mul (fold 30 x) 13787848793156543929)) 10723151780598845931) := rfl
theorem back_eq (y : Nat) : back y = unf 30 (mul (unf 27 (mul (unf 31 y) 3573116690164977347)) 10871156337175269513) := rfl
theorem hash_lt (x : Nat) : hash x < 18446744073709551616 := fold_lt 31 (m64 _)
theorem back_lt (x : Nat) : back x < 18446744073709551616 := unf_lt 30 (m64 _)
theorem one1 : M1 * N1 % 18446744073709551616 = 1 := by decide
theorem one2 : M2 * N2 % 18446744073709551616 = 1 := by decide
theorem one1' : N1 * M1 % 18446744073709551616 = 1 := by decide
theorem one2' : N2 * M2 % 18446744073709551616 = 1 := by decide
theorem mul_mul1 {x : Nat} (h : x < 18446744073709551616) : mul (mul x 10871156337175269513) 13787848793156543929 = x := mul_undone h one1'
theorem mul_mul2 {x : Nat} (h : x < 18446744073709551616) : mul (mul x 3573116690164977347) 10723151780598845931 = x := mul_undone h one2'
theorem back_hash {x : Nat} (h : x < 18446744073709551616) : back (hash x) = x := by
  unfold back hash
  rw [unf_fold (by decide) (m64 _), mul_undone (fold_lt _ (m64 _)) one2, unf_fold (by decide) (m64 _), mul_undone (fold_lt _ h) one1, unf_fold (by decide) h]
theorem hash_back {y : Nat} (h : y < 18446744073709551616) : hash (back y) = y := by
  unfold back hash
  rw [fold_unf (by decide) (m64 _), mul_undone (unf_lt _ (m64 _)) one1', fold_unf (by decide) (m64 _), mul_undone (unf_lt _ h) one2', fold_unf (by decide) h]
theorem hash_inj {x y : Nat} (hx : x < 18446744073709551616) (hy : y < 18446744073709551616) (h : hash x = hash y) : x = y := by
  rw [← back_hash hx, h, back_hash hy]
theorem back_inj {x y : Nat} (hx : x < 18446744073709551616) (hy : y < 18446744073709551616) (h : back x = back y) : x = y := by
  rw [← hash_back hx, h, hash_back hy]

/-- Bits from the highest on: what is known of u when g of them are not. -/
def top (u g : Nat) : Nat := u / 2 ^ g * 2 ^ g
theorem top_zero (u : Nat) : top u 0 = u := by simp [top]
theorem top_all {u : Nat} (h : u < 18446744073709551616) : top u 64 = 0 := by unfold top; rw [div_out 64 h (Nat.le_refl _), Nat.zero_mul]
theorem top_lt {u : Nat} (g : Nat) (h : u < 18446744073709551616) : top u g < 18446744073709551616 := Nat.lt_of_le_of_lt (Nat.div_mul_le_self _ _) h
theorem top_div (u g m : Nat) (h : g ≤ m) : top u g / 2 ^ m = u / 2 ^ m := by
  obtain ⟨d, rfl⟩ := Nat.exists_eq_add_of_le h
  unfold top
  rw [← div_pow_pow, Nat.mul_div_cancel _ (Nat.two_pow_pos g), div_pow_pow]
theorem xor_mod2 (a b : Nat) : (a ^^^ b) % 2 = (a % 2) ^^^ (b % 2) := by
  have := Nat.xor_mod_two_pow (a := a) (b := b) (n := 1)
  simpa using this
theorem under_bit {u k g : Nat} (hk : 1 ≤ k) : fold k u / 2 ^ g % 2 ^^^ top u (g + 1) / 2 ^ (g + k) % 2 = u / 2 ^ g % 2 := by
  rw [top_div _ _ _ (by omega), fold, xor_div, div_pow_pow, xor_mod2, Nat.add_comm k g, Nat.xor_assoc, Nat.xor_self, Nat.xor_zero]
theorem under_bit0 {u k g : Nat} (hu : u < 18446744073709551616) (h : 64 ≤ g + k) : fold k u / 2 ^ g % 2 = u / 2 ^ g % 2 := by
  rw [fold, xor_div, div_pow_pow, div_out (k + g) hu (by omega), Nat.xor_zero]
theorem top_or (u g : Nat) : top u (g + 1) ||| (u / 2 ^ g % 2) * 2 ^ g = top u g := by
  have hl : (u / 2 ^ g % 2) * 2 ^ g < 2 ^ (g + 1) := by
    rw [Nat.pow_succ, Nat.mul_comm]
    exact Nat.mul_lt_mul_of_pos_left (Nat.mod_lt _ (by decide)) (Nat.two_pow_pos g)
  unfold top
  rw [Nat.mul_comm (u / 2 ^ (g + 1)), ← Nat.two_pow_add_eq_or_of_lt hl, ← div_pow_pow u g 1, Nat.pow_succ 2 g, Nat.mul_assoc, Nat.mul_comm _ (2 ^ g), Nat.mul_comm (u / 2 ^ g) (2 ^ g), ← Nat.mul_add]
  congr 1
  exact Nat.div_add_mod _ _

/-- Bits from the lowest on, of a product. -/
theorem over_bit {v o g : Nat} (ho : o % 2 = 1) (hg : g < 64) : (2 ^ g * (v / 2 ^ g) * o) % 18446744073709551616 / 2 ^ g % 2 = v / 2 ^ g % 2 := by
  have e : (18446744073709551616 : Nat) = 2 ^ g * 2 ^ (64 - g) := by rw [← Nat.pow_add, show g + (64 - g) = 64 by omega]
  rw [e, Nat.mul_assoc, Nat.mul_mod_mul_left, Nat.mul_div_cancel_left _ (Nat.two_pow_pos g), Nat.mod_mod_of_dvd _ (show 2 ∣ 2 ^ (64 - g) from ⟨2 ^ (64 - g - 1), by rw [← Nat.pow_succ', show (64 - g - 1).succ = 64 - g by omega]⟩), Nat.mul_mod, ho, Nat.mul_one, Nat.mod_mod]
theorem over_rest {v o y g : Nat} (h : v * o % 18446744073709551616 = y) : ((y : Int) - (v % 2 ^ g * o % 18446744073709551616 : Nat)) % 18446744073709551616 = ((2 ^ g * (v / 2 ^ g) * o % 18446744073709551616 : Nat) : Int) := by
  have e : v * o = 2 ^ g * (v / 2 ^ g) * o + v % 2 ^ g * o := by rw [← Nat.add_mul, Nat.div_add_mod]
  rw [e] at h
  generalize 2 ^ g * (v / 2 ^ g) * o = A at *
  generalize v % 2 ^ g * o = B at *
  omega
theorem low_or (v g : Nat) (h : v / 2 ^ g % 2 = 1) : v % 2 ^ g ||| 2 ^ g = v % 2 ^ (g + 1) := by
  have h2 := Nat.two_pow_add_eq_or_of_lt (Nat.mod_lt v (Nat.two_pow_pos g)) 1
  rw [Nat.mul_one] at h2
  rw [Nat.or_comm, ← h2, Nat.pow_succ, Nat.mod_mul, h, Nat.mul_one, Nat.add_comm]
theorem low_no (v g : Nat) (h : v / 2 ^ g % 2 = 0) : v % 2 ^ g = v % 2 ^ (g + 1) := by
  rw [Nat.pow_succ, Nat.mod_mul, h, Nat.mul_zero, Nat.add_zero]

/-- Texts. -/
def tstep (t b : Nat) : Nat := (t ^^^ b) * 1099511628211 % 18446744073709551616
def text (t : Nat) (xs : List Nat) : Nat := xs.foldl tstep t
theorem text_take {xs : List Nat} {j : Nat} (hj : j < xs.length) (t : Nat) : text t (xs.take (j + 1)) = tstep (text t (xs.take j)) xs[j] := by
  rw [List.take_succ_eq_append_getElem hj, text, text, List.foldl_append, List.foldl_cons, List.foldl_nil]
theorem text_lt {t : Nat} (xs : List Nat) (h : t < 18446744073709551616) : text t xs < 18446744073709551616 := by
  induction xs generalizing t with
  | nil => exact h
  | cons x r ih => exact ih (m64 _)

/-- Words: the i-th from 1 on. -/
def seedAt (s i : Nat) : Nat := (s + i * G) % 18446744073709551616
def word (s i : Nat) : Nat := hash (seedAt s i)
def words (s n : Nat) : List Nat := (List.range n).map fun i => word s (i + 1)
theorem words_length (s n : Nat) : (words s n).length = n := by simp [words]
theorem words_get {s n i : Nat} (h : i < n) : (words s n)[i]? = some (word s (i + 1)) := by simp [words, h]
theorem words_succ (s n : Nat) : words s (n + 1) = words s n ++ [word s (n + 1)] := by simp [words, List.range_succ]
theorem word_lt (s i : Nat) : word s i < 18446744073709551616 := hash_lt _
theorem words_lt (s n : Nat) : ∀ x ∈ words s n, x < 18446744073709551616 := by
  intro x hx
  simp only [words, List.mem_map] at hx
  obtain ⟨i, _, rfl⟩ := hx
  exact word_lt _ _
theorem seedAt_lt (s i : Nat) : seedAt s i < 18446744073709551616 := m64 _
theorem seedAt_zero {s : Nat} (h : s < 18446744073709551616) : seedAt s 0 = s := by unfold seedAt; rw [Nat.zero_mul, Nat.add_zero, Nat.mod_eq_of_lt h]
theorem seedAt_succ (s i : Nat) : (seedAt s i + G) % 18446744073709551616 = seedAt s (i + 1) := by
  unfold seedAt
  rw [Nat.add_mul, Nat.one_mul]
  generalize i * G = A
  omega
theorem seedAt_next (s i : Nat) : seedAt ((s + G) % 18446744073709551616) i = seedAt s (i + 1) := by
  unfold seedAt
  rw [Nat.add_mul, Nat.one_mul]
  generalize i * G = A
  omega
theorem words_take (s n m : Nat) (h : m ≤ n) : (words s n).take m = words s m := by
  simp [words, ← List.map_take, List.take_range, Nat.min_eq_left h]
theorem words_drop (s n : Nat) : (words s (n + 1)).drop 1 = words ((s + G) % 18446744073709551616) n := by
  apply List.ext_getElem?
  intro i
  by_cases hi : i < n
  · rw [List.getElem?_drop, words_get (by omega), words_get hi, word, word, seedAt_next, Nat.add_comm 1 i]
  · rw [List.getElem?_eq_none (by simp [words_length]; omega), List.getElem?_eq_none (by rw [words_length]; omega)]
/-- G is odd: two places below 2^64 have unlike numbers. -/
theorem seedAt_inj {s i k : Nat} (hi : i < 18446744073709551616) (hk : k < 18446744073709551616) (h : seedAt s i = seedAt s k) : i = k := by
  have e : i * G % 18446744073709551616 = k * G % 18446744073709551616 := by
    unfold seedAt at h
    generalize i * G = A at *
    generalize k * G = B at *
    omega
  have hG : G * 17428512612931826493 % 18446744073709551616 = 1 := by decide
  rw [← mul_undone hi hG, e, mul_undone hk hG]
theorem word_inj {s i k : Nat} (hi : i < 18446744073709551616) (hk : k < 18446744073709551616) (h : word s i = word s k) : i = k :=
  seedAt_inj hi hk (hash_inj (seedAt_lt _ _) (seedAt_lt _ _) h)
end Go.Proofs.Ytoocaioilpgmeaa.Mx
