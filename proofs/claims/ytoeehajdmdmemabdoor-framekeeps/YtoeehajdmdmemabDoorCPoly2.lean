import Derived.Test.YtoeehajdmdmemabDoorCPoly
/- Sums of rows of bytes, as arithmetic of numbers alone: a row is one great number, its bits in order. -/
namespace Go.Proofs.YtoeehajdmdmemabDoor.Cr.Poly

theorem nib (r : Nat) : r / 16 ^^^ steps 4 (r % 16) = steps 4 r := (steps_split 4 r).symm

def byteStep (r b : Nat) : Nat := steps 8 (r ^^^ b)
def run (r : Nat) (l : List Nat) : Nat := l.foldl byteStep r
def more (s : Nat) (l : List Nat) : Nat := run (4294967295 ^^^ s) l ^^^ 4294967295

theorem run_nil (r : Nat) : run r [] = r := rfl
theorem run_cons (r b : Nat) (l : List Nat) : run r (b :: l) = run (byteStep r b) l := rfl
theorem run_append (r : Nat) (l m : List Nat) : run r (l ++ m) = run (run r l) m := List.foldl_append ..

theorem xor_lt_byte {a b : Nat} (ha : a < 256) (hb : b < 256) : a ^^^ b < 256 := by
  have := @Nat.xor_lt_two_pow a b 8 (by simpa using ha) (by simpa using hb); simpa using this

theorem run_lt (l : List Nat) {r : Nat} (hr : r < 4294967296) (h : ∀ x ∈ l, x < 256) : run r l < 4294967296 := by
  induction l generalizing r with
  | nil => exact hr
  | cons b l ih =>
    rw [run_cons]
    exact ih (steps_lt 8 (xor_lt32 hr (by have := h b (by simp); omega))) (fun x hx => h x (by simp [hx]))

theorem more_lt {s : Nat} (l : List Nat) (hs : s < 4294967296) (h : ∀ x ∈ l, x < 256) : more s l < 4294967296 :=
  xor_lt32 (run_lt l (xor_lt32 (by decide) hs) h) (by decide)

/-- the row's bits in order, as one number -/
def LE : List Nat → Nat
  | [] => 0
  | b :: l => b ^^^ LE l * 256

theorem run_eq (l : List Nat) (r : Nat) : run r l = steps (8 * l.length) (r ^^^ LE l) := by
  induction l generalizing r with
  | nil => simp [run_nil, LE, steps]
  | cons b l ih =>
    have h : steps 8 (LE l * 256) = LE l := steps_mul 8 _
    rw [run_cons, ih, List.length_cons, Nat.mul_add, Nat.mul_one, steps_add, LE, ← Nat.xor_assoc, steps_xor 8, h]; rfl

theorem xor_cancel (a b : Nat) : a ^^^ b ^^^ b = a := by rw [Nat.xor_assoc, Nat.xor_self, Nat.xor_zero]
theorem xor_cancel' (a b : Nat) : b ^^^ (b ^^^ a) = a := by rw [← Nat.xor_assoc, Nat.xor_self, Nat.zero_xor]

theorem xor_mul_pow (a b k : Nat) : (a ^^^ b) * 2 ^ k = a * 2 ^ k ^^^ b * 2 ^ k := by
  apply Nat.eq_of_testBit_eq; intro i
  simp only [Nat.testBit_xor, Nat.testBit_mul_two_pow]
  by_cases h : k ≤ i <;> simp [h]

theorem xor_mul256 (a b : Nat) : (a ^^^ b) * 256 = a * 256 ^^^ b * 256 := xor_mul_pow a b 8

/-- bits that are turned in one byte are turned in the row's number -/
theorem LE_set (l : List Nat) (i v : Nat) (hi : i < l.length) : LE (l.set i (l.getD i 0 ^^^ v)) = LE l ^^^ v * 2 ^ (8 * i) := by
  induction l generalizing i with
  | nil => exact absurd hi (by simp)
  | cons b l ih =>
    cases i with
    | zero => simp only [List.set_cons_zero, List.getD_cons_zero, LE, Nat.mul_zero, Nat.pow_zero, Nat.mul_one]; rw [xor_swap]
    | succ i =>
      simp only [List.length_cons] at hi
      simp only [List.set_cons_succ, List.getD_cons_succ, LE]
      rw [ih i (by omega), xor_mul256, Nat.xor_assoc, Nat.mul_add, Nat.mul_one, Nat.pow_add, Nat.mul_assoc]

theorem LE_inj {l m : List Nat} (hl : ∀ x ∈ l, x < 256) (hm : ∀ x ∈ m, x < 256) (hn : l.length = m.length) (h : LE l = LE m) : l = m := by
  induction l generalizing m with
  | nil => exact (List.length_eq_zero_iff.1 hn.symm).symm
  | cons b l ih =>
    cases m with
    | nil => simp at hn
    | cons c m =>
      simp only [LE] at h
      have hb := hl b (by simp)
      have hc := hm c (by simp)
      have e : ∀ (x k : Nat), x < 256 → (x ^^^ k * 256) = k * 256 + x := by
        intro x k hx
        have h1 := low_high (k * 256 + x) 8
        rw [show (2 : Nat) ^ 8 = 256 by decide, show (k * 256 + x) / 256 * 256 = k * 256 by omega, show (k * 256 + x) % 256 = x by omega] at h1
        rw [Nat.xor_comm]; exact h1
      rw [e b _ hb, e c _ hc] at h
      have h1 : b = c := by omega
      have h2 : LE l = LE m := by omega
      simp only [List.length_cons] at hn
      rw [h1, ih (fun x hx => hl x (by simp [hx])) (fun x hx => hm x (by simp [hx])) (by omega) h2]

theorem LE_append (l m : List Nat) : LE (l ++ m) = LE l ^^^ LE m * 2 ^ (8 * l.length) := by
  induction l with
  | nil => simp [LE]
  | cons b l ih =>
    simp only [List.cons_append, LE, List.length_cons]
    rw [ih, xor_mul256, ← Nat.xor_assoc, Nat.mul_add, Nat.mul_one, Nat.pow_add, Nat.mul_assoc]

/-- the numbers of steps that turned bits still go -/
theorem steps_shift (n k d : Nat) (h : k ≤ n) : steps n (d * 2 ^ k) = steps (n - k) d := by
  have : n = (n - k) + k := by omega
  conv => lhs; rw [this]
  rw [steps_add, steps_mul]

/-- what turned bits do to a sum -/
theorem more_turned (s : Nat) (l m : List Nat) (d k : Nat) (hn : m.length = l.length) (hk : k ≤ 8 * l.length) (h : LE m = LE l ^^^ d * 2 ^ k) :
    more s m = more s l ^^^ steps (8 * l.length - k) d := by
  unfold more
  rw [run_eq, run_eq, hn, h, ← Nat.xor_assoc, steps_xor, steps_shift _ _ _ hk, xor_swap]

theorem steps_inj (k : Nat) {a b : Nat} (ha : a < 4294967296) (hb : b < 4294967296) (h : steps k a = steps k b) : a = b := by
  rw [← unsteps_steps k ha, h, unsteps_steps k hb]

theorem steps_ne (k : Nat) {a : Nat} (ha : a < 4294967296) (h : a ≠ 0) : steps k a ≠ 0 := by
  intro e
  exact h (steps_inj k ha (by decide) (by rw [e, steps_zero]))

/-- P3.4: rows that are unlike within 32 bits in order have unlike sums -/
theorem more_tells (s : Nat) (l m : List Nat) (d k : Nat) (hn : m.length = l.length) (hk : k ≤ 8 * l.length) (h : LE m = LE l ^^^ d * 2 ^ k) (hd : d < 4294967296) (h0 : d ≠ 0) :
    more s l ≠ more s m := by
  rw [more_turned s l m d k hn hk h]
  intro e
  have : more s l ^^^ more s l = more s l ^^^ (more s l ^^^ steps (8 * l.length - k) d) := by rw [← e]
  rw [Nat.xor_self, xor_cancel'] at this
  exact steps_ne _ hd h0 this.symm

/-- what Patch turns -/
def turnOf (l : List Nat) (at' want : Nat) : Nat := unsteps (8 * (l.length - at')) (more 0 l ^^^ want)

theorem turnOf_lt {l : List Nat} {at' want : Nat} (hl : ∀ x ∈ l, x < 256) (hw : want < 4294967296) : turnOf l at' want < 4294967296 :=
  unsteps_lt _ (xor_lt32 (more_lt l (by decide) hl) hw)

theorem more_mended (l m : List Nat) (at' want : Nat) (hl : ∀ x ∈ l, x < 256) (hw : want < 4294967296) (hn : m.length = l.length) (hk : at' ≤ l.length)
    (h : LE m = LE l ^^^ turnOf l at' want * 2 ^ (8 * at')) : more 0 m = want := by
  rw [more_turned 0 l m _ _ hn (by omega) h, turnOf, ← Nat.mul_sub, steps_unsteps _ (xor_lt32 (more_lt l (by decide) hl) hw), xor_cancel']

theorem turnOf_back (l m : List Nat) (at' want : Nat) (hn : m.length = l.length) (hm : more 0 m = want) : turnOf m at' (more 0 l) = turnOf l at' want := by
  unfold turnOf; rw [hn, hm, Nat.xor_comm]

/-- P3.4: one row behind the other -/
theorem more_along (l m : List Nat) : more (more 0 l) m = more 0 (l ++ m) := by
  unfold more
  rw [run_append, Nat.xor_comm 4294967295 (_ ^^^ _), xor_cancel]

theorem run_affine (r d : Nat) (l : List Nat) : run (r ^^^ d) l = run r l ^^^ steps (8 * l.length) d := by
  rw [run_eq, run_eq, xor_swap, steps_xor]

theorem join_along (l m : List Nat) : steps (8 * m.length) (more 0 l) ^^^ more 0 m = more 0 (l ++ m) := by
  have h : run (4294967295 ^^^ 0) (l ++ m) = run (4294967295 ^^^ 0) m ^^^ steps (8 * m.length) (more 0 l) := by
    rw [run_append, ← run_affine]; congr 1
    unfold more
    rw [Nat.xor_zero, Nat.xor_comm (run _ _), xor_cancel']
  show steps (8 * m.length) (more 0 l) ^^^ (run (4294967295 ^^^ 0) m ^^^ 4294967295) = run (4294967295 ^^^ 0) (l ++ m) ^^^ 4294967295
  rw [h, Nat.xor_comm (steps _ _), xor_swap]

/-- rows turned into one another, byte by byte -/
def xors (l m : List Nat) : List Nat := List.zipWith (· ^^^ ·) l m

theorem LE_xors (l m : List Nat) (h : l.length = m.length) : LE (xors l m) = LE l ^^^ LE m := by
  unfold xors
  induction l generalizing m with
  | nil => cases m with
    | nil => rfl
    | cons _ _ => simp at h
  | cons b l ih => cases m with
    | nil => simp at h
    | cons c m =>
      simp only [List.length_cons] at h
      simp only [List.zipWith_cons_cons, LE]
      rw [ih m (by omega), xor_mul256, Nat.xor_assoc, Nat.xor_assoc]; congr 1
      rw [← Nat.xor_assoc, ← Nat.xor_assoc, Nat.xor_comm c]

theorem xors_length (l m : List Nat) (h : l.length = m.length) : (xors l m).length = l.length := by
  simp [xors, h]

/-- P3.4: three rows turned into one -/
theorem more_linear (s : Nat) (l m k : List Nat) (h1 : l.length = m.length) (h2 : l.length = k.length) : more s (xors (xors l m) k) = more s l ^^^ more s m ^^^ more s k := by
  have e1 : (xors l m).length = l.length := xors_length l m h1
  have e2 : (xors (xors l m) k).length = l.length := by rw [xors_length _ _ (by omega), e1]
  unfold more
  rw [run_eq, run_eq, run_eq, run_eq, e2, ← h1, ← h2, LE_xors _ _ (by omega), LE_xors _ _ h1]
  generalize 4294967295 ^^^ s = r
  generalize LE l = x; generalize LE m = y; generalize LE k = z; generalize 8 * l.length = n
  have : r ^^^ (x ^^^ y ^^^ z) = (r ^^^ x) ^^^ (r ^^^ y) ^^^ (r ^^^ z) := by
    have : (r ^^^ x) ^^^ (r ^^^ y) = x ^^^ y := by rw [← Nat.xor_assoc, xor_swap r x r, Nat.xor_self, Nat.zero_xor]
    rw [this, ← Nat.xor_assoc (x ^^^ y), Nat.xor_comm (x ^^^ y) r, Nat.xor_assoc r]
  rw [this, steps_xor, steps_xor]
  generalize steps n (r ^^^ x) = a; generalize steps n (r ^^^ y) = b; generalize steps n (r ^^^ z) = c; generalize 4294967295 = f
  have h3 : a ^^^ f ^^^ (b ^^^ f) = a ^^^ b := by rw [← Nat.xor_assoc, xor_swap a f b, xor_cancel]
  rw [h3, Nat.xor_assoc]

/-- the bits of a number, the lowest ones first, one by one -/
theorem mod_succ (x i : Nat) : x % 2 ^ (i + 1) = x % 2 ^ i ^^^ (if x / 2 ^ i % 2 = 1 then 2 ^ i else 0) := by
  apply Nat.eq_of_testBit_eq; intro j
  rw [Nat.testBit_xor, Nat.testBit_mod_two_pow, Nat.testBit_mod_two_pow]
  have hb : x.testBit i = decide (x / 2 ^ i % 2 = 1) := Nat.testBit_eq_decide_div_mod_eq
  split
  · rename_i h
    rw [Nat.testBit_two_pow]
    rcases Nat.lt_trichotomy j i with hj | hj | hj
    · simp [hj, show j < i + 1 by omega, show i ≠ j by omega]
    · subst hj; simp [hb, h]
    · simp [show ¬ j < i by omega, show ¬ j < i + 1 by omega, show i ≠ j by omega]
  · rename_i h
    rw [Nat.zero_testBit, Bool.xor_false]
    rcases Nat.lt_trichotomy j i with hj | hj | hj
    · simp [hj, show j < i + 1 by omega]
    · subst hj; simp [hb, h]
    · simp [show ¬ j < i by omega, show ¬ j < i + 1 by omega]

/-- the bytes of a number, the lowest ones first, one by one -/
theorem mod_byte (x i : Nat) : x % 2 ^ (8 * (i + 1)) = x % 2 ^ (8 * i) ^^^ (x / 2 ^ (8 * i) % 256) * 2 ^ (8 * i) := by
  have h := low_high (x % 2 ^ (8 * (i + 1))) (8 * i)
  rw [← h, Nat.xor_comm]
  have e : (2 : Nat) ^ (8 * (i + 1)) = 2 ^ (8 * i) * 256 := by rw [Nat.mul_add, Nat.pow_add]
  congr 1
  · exact Nat.mod_mod_of_dvd _ ⟨256, e⟩
  · rw [e, Nat.mod_mul_right_div_self]

end Go.Proofs.YtoeehajdmdmemabDoor.Cr.Poly
