/- OnesCount64 counts: its reckoning by fields, as arithmetic of numbers alone. -/
namespace Go.Proofs.YtajdgkbeenalkaaDoor.Pop

/-- digits, the lowest first -/
def E (B : Nat) : List Nat → Nat
  | [] => 0
  | d :: ds => d + B * E B ds

def M (k : Nat) : Nat → Nat
  | 0 => 0
  | n + 1 => (2 ^ k - 1) + 2 ^ (2 * k) * M k n

def digs (k : Nat) : Nat → Nat → List Nat
  | 0, _ => []
  | n + 1, x => (x % 2 ^ k + x / 2 ^ k % 2 ^ k) :: digs k n (x / 2 ^ (2 * k))

theorem and_split (m u v X Y : Nat) (hu : u < 2 ^ m) (hv : v < 2 ^ m) :
    (u + 2 ^ m * X) &&& (v + 2 ^ m * Y) = (u &&& v) + 2 ^ m * (X &&& Y) := by
  have huv : u &&& v < 2 ^ m := Nat.and_lt_two_pow _ hv
  apply Nat.eq_of_testBit_eq
  intro i
  rw [Nat.testBit_and, Nat.add_comm u, Nat.add_comm v, Nat.add_comm (u &&& v), Nat.testBit_two_pow_mul_add _ hu, Nat.testBit_two_pow_mul_add _ hv, Nat.testBit_two_pow_mul_add _ huv]
  split
  · rw [Nat.testBit_and]
  · rw [Nat.testBit_and]

theorem low_and (k u : Nat) (_ : u < 2 ^ (2 * k)) : u &&& (2 ^ k - 1) = u % 2 ^ k := Nat.and_two_pow_sub_one_eq_mod u k

theorem M_lt (k n : Nat) : M k n < 2 ^ (2 * k * n) := by
  induction n with
  | zero => simp [M]
  | succ n ih =>
    have e : 2 * k * (n + 1) = 2 * k + 2 * k * n := by rw [Nat.mul_add]; omega
    rw [M, e, Nat.pow_add]
    have h1 : 2 ^ k ≤ 2 ^ (2 * k) := Nat.pow_le_pow_right (by decide) (by omega)
    have h0 : 0 < 2 ^ k := Nat.two_pow_pos k
    have : 2 ^ (2 * k) * M k n + 2 ^ (2 * k) ≤ 2 ^ (2 * k) * 2 ^ (2 * k * n) := by
      rw [← Nat.mul_succ]; exact Nat.mul_le_mul_left _ ih
    omega

theorem mask_even (k n x : Nat) : x &&& M k n = E (2 ^ (2 * k)) ((List.range n).map fun j => x / 2 ^ (2 * k * j) % 2 ^ k) := by
  induction n generalizing x with
  | zero => simp [M, E]
  | succ n ih =>
    have hp : 0 < 2 ^ (2 * k) := Nat.two_pow_pos _
    have h1 : 2 ^ k ≤ 2 ^ (2 * k) := Nat.pow_le_pow_right (by decide) (by omega)
    have h0 : 0 < 2 ^ k := Nat.two_pow_pos k
    have hx : x = x % 2 ^ (2 * k) + 2 ^ (2 * k) * (x / 2 ^ (2 * k)) := (Nat.mod_add_div x _).symm
    have := and_split (2 * k) (x % 2 ^ (2 * k)) (2 ^ k - 1) (x / 2 ^ (2 * k)) (M k n) (Nat.mod_lt _ hp) (by omega)
    rw [← hx] at this
    rw [M, this, ih, Nat.and_two_pow_sub_one_eq_mod, List.range_succ_eq_map]
    simp only [List.map_cons, List.map_map, E, Nat.mul_zero, Nat.pow_zero, Nat.div_one]
    congr 1
    · rw [Nat.mod_mod_of_dvd]; exact Nat.pow_dvd_pow 2 (by omega)
    · congr 2
      apply List.map_congr_left
      intro j _
      simp only [Function.comp_apply]
      rw [Nat.div_div_eq_div_mul, ← Nat.pow_add]
      congr 3
      rw [Nat.mul_succ]; omega


/-- as many digits as n, of f -/
def F (B n : Nat) (f : Nat → Nat) : Nat := E B ((List.range n).map f)

theorem F_zero (B : Nat) (f : Nat → Nat) : F B 0 f = 0 := by simp [F, E]

theorem F_succ (B n : Nat) (f : Nat → Nat) : F B (n + 1) f = f 0 + B * F B n (fun j => f (j + 1)) := by
  simp only [F, List.range_succ_eq_map, List.map_cons, List.map_map, E]
  rfl

theorem F_add (B n : Nat) (f g : Nat → Nat) : F B n f + F B n g = F B n (fun j => f j + g j) := by
  induction n generalizing f g with
  | zero => simp [F_zero]
  | succ n ih =>
    rw [F_succ, F_succ, F_succ, ← ih, Nat.mul_add]
    omega

theorem F_congr (B n : Nat) (f g : Nat → Nat) (h : ∀ j, j < n → f j = g j) : F B n f = F B n g := by
  unfold F
  congr 1
  exact List.map_congr_left (fun j hj => h j (List.mem_range.1 hj))

theorem F_digit (B n : Nat) (f : Nat → Nat) (hf : ∀ j, j < n → f j < B) (j : Nat) (hj : j < n) : F B n f / B ^ j % B = f j := by
  induction n generalizing f j with
  | zero => omega
  | succ n ih =>
    have h0 := hf 0 (by omega)
    rw [F_succ]
    cases j with
    | zero => rw [Nat.pow_zero, Nat.div_one, Nat.add_mul_mod_self_left, Nat.mod_eq_of_lt h0]
    | succ j =>
      have hB : 0 < B := by omega
      rw [Nat.pow_succ, Nat.mul_comm (B ^ j), ← Nat.div_div_eq_div_mul, Nat.add_mul_div_left _ _ hB, Nat.div_eq_of_lt h0, Nat.zero_add]
      exact ih (fun j => f (j + 1)) (fun j hj => hf (j + 1) (by omega)) j (by omega)

/-- the halves of the fields of 2k bits, added -/
theorem step (k n x : Nat) : (x / 2 ^ k &&& M k n) + (x &&& M k n) = F (2 ^ (2 * k)) n (fun j => x / 2 ^ (2 * k * j) % 2 ^ k + x / 2 ^ (2 * k * j + k) % 2 ^ k) := by
  rw [mask_even, mask_even, Nat.add_comm]
  have := F_add (2 ^ (2 * k)) n (fun j => x / 2 ^ (2 * k * j) % 2 ^ k) (fun j => x / 2 ^ k / 2 ^ (2 * k * j) % 2 ^ k)
  unfold F at this
  rw [this]
  unfold F
  congr 1
  apply List.map_congr_left
  intro j _
  rw [Nat.div_div_eq_div_mul, ← Nat.pow_add, Nat.add_comm k]

def bit (x i : Nat) : Nat := x / 2 ^ i % 2

/-- how many of the first n bits are set -/
def pop (x : Nat) : Nat → Nat
  | 0 => 0
  | n + 1 => pop x n + bit x n

def y1 (x : Nat) : Nat := (x / 2 &&& 6148914691236517205) + (x &&& 6148914691236517205)
def y2 (x : Nat) : Nat := (x / 4 &&& 3689348814741910323) + (x &&& 3689348814741910323)
def y3 (x : Nat) : Nat := (x / 16 + x) &&& 1085102592571150095

theorem M1 : M 1 32 = 6148914691236517205 := by decide
theorem M2 : M 2 16 = 3689348814741910323 := by decide
theorem M4 : M 4 8 = 1085102592571150095 := by decide

theorem bit_lt (x i : Nat) : bit x i < 2 := Nat.mod_lt _ (by decide)

def f1 (x j : Nat) : Nat := bit x (2 * j) + bit x (2 * j + 1)
def f2 (x j : Nat) : Nat := f1 x (2 * j) + f1 x (2 * j + 1)
theorem f1_le (x j : Nat) : f1 x j ≤ 2 := by have := bit_lt x (2 * j); have := bit_lt x (2 * j + 1); unfold f1; omega
theorem f2_le (x j : Nat) : f2 x j ≤ 4 := by have := f1_le x (2 * j); have := f1_le x (2 * j + 1); unfold f2; omega

theorem y1_eq (x : Nat) : y1 x = F 4 32 (f1 x) := by
  have := step 1 32 x
  rw [M1] at this
  exact this

theorem y2_eq (x : Nat) : y2 (y1 x) = F 16 16 (f2 x) := by
  have h := step 2 16 (y1 x)
  rw [M2] at h
  refine h.trans (F_congr _ _ _ _ fun j hj => ?_)
  have a := F_digit 4 32 (f1 x) (fun j _ => by have := f1_le x j; omega) (2 * j) (by omega)
  have b := F_digit 4 32 (f1 x) (fun j _ => by have := f1_le x j; omega) (2 * j + 1) (by omega)
  rw [← y1_eq] at a b
  have ea : (4 : Nat) ^ (2 * j) = 2 ^ (2 * 2 * j) := by rw [Nat.mul_assoc, Nat.pow_mul 2 2]
  have eb : (4 : Nat) ^ (2 * j + 1) = 2 ^ (2 * 2 * j + 2) := by
    rw [Nat.pow_succ, ea, Nat.pow_add]
  rw [ea] at a; rw [eb] at b
  show y1 x / 2 ^ (2 * 2 * j) % 4 + y1 x / 2 ^ (2 * 2 * j + 2) % 4 = f2 x j
  rw [a, b]; rfl

theorem F_more (B n : Nat) (f : Nat → Nat) (h : f n = 0) : F B (n + 1) f = F B n f := by
  induction n generalizing f with
  | zero => rw [F_succ, F_zero, F_zero, h]; omega
  | succ n ih => rw [F_succ, ih _ h, F_succ]

theorem F_div1 (B n : Nat) (f : Nat → Nat) (h0 : f 0 < B) (h : f n = 0) : F B n f / B = F B n (fun j => f (j + 1)) := by
  rw [← F_more B n f h, F_succ, Nat.add_mul_div_left _ _ (by omega), Nat.div_eq_of_lt h0, Nat.zero_add]

theorem F_div (B n k : Nat) (f : Nat → Nat) (hf : ∀ j, f j < B) (h : ∀ j, n ≤ j → f j = 0) : F B n f / B ^ k = F B n (fun j => f (j + k)) := by
  induction k with
  | zero => rw [Nat.pow_zero, Nat.div_one]; rfl
  | succ k ih =>
    rw [Nat.pow_succ, ← Nat.div_div_eq_div_mul, ih, F_div1 B n (fun j => f (j + k)) (hf _) (h _ (by omega))]
    exact F_congr _ _ _ _ fun j _ => by rw [Nat.add_assoc, Nat.add_comm 1 k]

theorem F_lt (B n : Nat) (f : Nat → Nat) (hf : ∀ j, f j < B) : F B n f < B ^ n := by
  induction n generalizing f with
  | zero => simp [F_zero]
  | succ n ih =>
    have := ih (fun j => f (j + 1)) (fun j => hf (j + 1))
    have h0 := hf 0
    rw [F_succ, Nat.pow_succ, Nat.mul_comm _ B]
    have : B * F B n (fun j => f (j + 1)) + B ≤ B * B ^ n := by rw [← Nat.mul_succ]; exact Nat.mul_le_mul_left _ this
    omega

theorem F_le (B n m : Nat) (f : Nat → Nat) (hf : ∀ j, f j ≤ m) (hm : m < B) : F B (n + 1) f < (m + 1) * B ^ n := by
  induction n generalizing f with
  | zero => have := hf 0; rw [F_succ, F_zero]; simp; omega
  | succ n ih =>
    have h := ih (fun j => f (j + 1)) (fun j => hf (j + 1))
    have h0 := hf 0
    rw [F_succ, Nat.pow_succ, ← Nat.mul_assoc, Nat.mul_comm _ B]
    have : B * F B (n + 1) (fun j => f (j + 1)) + B ≤ B * ((m + 1) * B ^ n) := by rw [← Nat.mul_succ]; exact Nat.mul_le_mul_left _ h
    omega

/-- a number and itself, shifted by k digits -/
theorem F_fold (B n k : Nat) (f : Nat → Nat) (m : Nat) (hf : ∀ j, f j ≤ m) (hm : m + m < B) (h : ∀ j, n ≤ j → f j = 0) :
    F B n f + F B n f / B ^ k = F B n (fun j => f j + f (j + k)) ∧ F B n f + F B n f / B ^ k < B ^ n := by
  have e : F B n f + F B n f / B ^ k = F B n (fun j => f j + f (j + k)) := by
    rw [F_div B n k f (fun j => by have := hf j; omega) h, F_add]
  refine ⟨e, ?_⟩
  rw [e]
  exact F_lt B n _ fun j => by have := hf j; have := hf (j + k); omega

/-- f below n, nought from there on -/
def upto (n : Nat) (f : Nat → Nat) (j : Nat) : Nat := if j < n then f j else 0

theorem F_upto (B n : Nat) (f : Nat → Nat) : F B n f = F B n (upto n f) := F_congr _ _ _ _ fun j hj => by simp [upto, hj]

theorem upto_le (n m : Nat) (f : Nat → Nat) (h : ∀ j, f j ≤ m) (j : Nat) : upto n f j ≤ m := by
  unfold upto; split
  · exact h j
  · omega

theorem upto_nought (n : Nat) (f : Nat → Nat) (j : Nat) (h : n ≤ j) : upto n f j = 0 := by simp [upto]; omega

theorem y3_eq (z : Nat) (g : Nat → Nat) (hg : ∀ j, g j ≤ 4) (hz : z = F 16 16 g) : z + z / 16 < 18446744073709551616 ∧ y3 z = F 256 8 (fun j => g (2 * j) + g (2 * j + 1)) := by
  rw [F_upto] at hz
  have hf := F_fold 16 16 1 (upto 16 g) 4 (upto_le _ _ _ hg) (by decide) (upto_nought _ _)
  rw [← hz] at hf
  have h := mask_even 4 8 (z / 16 + z)
  rw [M4] at h
  refine ⟨hf.2, h.trans ?_⟩
  have hs : z / 16 + z = F 16 16 (fun j => upto 16 g j + upto 16 g (j + 1)) := by rw [Nat.add_comm]; exact hf.1
  refine F_congr 256 8 _ _ fun j hj => ?_
  have d := F_digit 16 16 (fun j => upto 16 g j + upto 16 g (j + 1)) (fun j _ => by have := upto_le 16 4 g hg j; have := upto_le 16 4 g hg (j + 1); omega) (2 * j) (by omega)
  rw [← hs] at d
  have e : (16 : Nat) ^ (2 * j) = 2 ^ (2 * 4 * j) := by
    rw [Nat.mul_assoc, Nat.mul_comm 4, ← Nat.mul_assoc, Nat.mul_comm (2 * j), Nat.pow_mul 2 4]
  rw [e] at d
  refine d.trans ?_
  have h1 : 2 * j < 16 := by omega
  have h2 : 2 * j + 1 < 16 := by omega
  simp [upto, h1, h2]

theorem tail (e : Nat → Nat) (he : ∀ j, e j ≤ 8) (a b c d : Nat) (ha : a = F 256 8 e) (hb : b = (a + a / 256) % 18446744073709551616) (hc : c = (b + b / 65536) % 18446744073709551616) (hd : d = (c + c / 4294967296) % 18446744073709551616) :
    d % 128 = e 0 + e 1 + e 2 + e 3 + e 4 + e 5 + e 6 + e 7 ∧ d < 9223372036854775808 := by
  rw [F_upto] at ha
  have u := upto_le 8 8 e he
  have v := upto_nought 8 e
  have h1 := F_fold 256 8 1 (upto 8 e) 8 u (by decide) v
  rw [← ha] at h1
  have hb' := hb.trans (Nat.mod_eq_of_lt h1.2)
  have hb2 := hb'.trans h1.1
  have h2 := F_fold 256 8 2 (fun j => upto 8 e j + upto 8 e (j + 1)) 16 (fun j => by have := u j; have := u (j + 1); omega) (by decide) (fun j hj => by rw [v j hj, v (j + 1) (by omega)])
  rw [← hb2] at h2
  have hc2 := (hc.trans (Nat.mod_eq_of_lt h2.2)).trans h2.1
  have h3 := F_fold 256 8 4 (fun j => upto 8 e j + upto 8 e (j + 1) + (upto 8 e (j + 2) + upto 8 e (j + 2 + 1))) 32 (fun j => by have := u j; have := u (j + 1); have := u (j + 2); have := u (j + 2 + 1); omega) (by decide) (fun j hj => by rw [v j hj, v (j + 1) (by omega), v (j + 2) (by omega), v (j + 2 + 1) (by omega)])
  rw [← hc2] at h3
  have hd2 := (hd.trans (Nat.mod_eq_of_lt h3.2)).trans h3.1
  have hlt := F_le 256 7 64 _ (fun j => (by have := u j; have := u (j + 1); have := u (j + 2); have := u (j + 2 + 1); have := u (j + 4); have := u (j + 4 + 1); have := u (j + 4 + 2); have := u (j + 4 + 2 + 1); omega : upto 8 e j + upto 8 e (j + 1) + (upto 8 e (j + 2) + upto 8 e (j + 2 + 1)) + (upto 8 e (j + 4) + upto 8 e (j + 4 + 1) + (upto 8 e (j + 4 + 2) + upto 8 e (j + 4 + 2 + 1))) ≤ 64)) (by decide)
  rw [← hd2] at hlt
  refine ⟨?_, Nat.lt_trans hlt (by decide)⟩
  rw [hd2, F_succ]
  simp only [upto, Nat.zero_add, Nat.reduceAdd, Nat.reduceLT, if_true]
  have h0 := he 0; have h1 := he 1; have h2 := he 2; have h3 := he 3; have h4 := he 4; have h5 := he 5; have h6 := he 6; have h7 := he 7
  omega

theorem pop64 (x : Nat) : pop x 64 = f2 x 0 + f2 x 1 + f2 x 2 + f2 x 3 + f2 x 4 + f2 x 5 + f2 x 6 + f2 x 7 + f2 x 8 + f2 x 9 + f2 x 10 + f2 x 11 + f2 x 12 + f2 x 13 + f2 x 14 + f2 x 15 := by
  simp only [pop, f2, f1, Nat.reduceMul, Nat.reduceAdd]
  omega

/-- **math/bits.OnesCount64's reckoning is the number of set bits.** -/
theorem count (x a b c d : Nat) (ha : a = y3 (y2 (y1 x))) (hb : b = (a + a / 256) % 18446744073709551616) (hc : c = (b + b / 65536) % 18446744073709551616) (hd : d = (c + c / 4294967296) % 18446744073709551616) :
    d % 128 = pop x 64 ∧ d < 9223372036854775808 := by
  have h3 := (y3_eq (y2 (y1 x)) (f2 x) (f2_le x) (y2_eq x)).2
  have := tail (fun j => f2 x (2 * j) + f2 x (2 * j + 1)) (fun j => by have := f2_le x (2 * j); have := f2_le x (2 * j + 1); omega) a b c d (ha.trans h3) hb hc hd
  refine ⟨?_, this.2⟩
  rw [this.1, pop64]
  simp only [Nat.reduceMul, Nat.reduceAdd, Nat.mul_zero, Nat.zero_add]
  omega

end Go.Proofs.YtajdgkbeenalkaaDoor.Pop
