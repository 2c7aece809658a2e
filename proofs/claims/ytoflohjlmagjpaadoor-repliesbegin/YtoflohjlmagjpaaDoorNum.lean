/- Numbers as bytes: plain arithmetic, without the program. -/
import Derived.Laws.BitsAllLaws
namespace Go.Proofs.YtoflohjlmagjpaaDoor

/-- What bytes say, the lowest first. -/
def leV : List Int → Int
  | [] => 0
  | x :: r => x + 256 * leV r
/-- Bytes. -/
def Byt (xs : List Int) : Prop := ∀ x ∈ xs, 0 ≤ x ∧ x < 256
/-- The lowest k bytes of N, the lowest first. -/
def leB (N : Int) (k : Nat) : List Int := (List.range k).map fun j => N / 2 ^ (8 * j) % 256
theorem leB_length (N : Int) (k : Nat) : (leB N k).length = k := by simp [leB]

theorem Byt.tail {x : Int} {r : List Int} (h : Byt (x :: r)) : Byt r := fun y hy => h y (List.mem_cons_of_mem _ hy)
theorem Byt.take {xs : List Int} (h : Byt xs) (n : Nat) : Byt (xs.take n) := fun y hy => h y (List.mem_of_mem_take hy)
theorem Byt.drop {xs : List Int} (h : Byt xs) (n : Nat) : Byt (xs.drop n) := fun y hy => h y (List.mem_of_mem_drop hy)
theorem Byt.append {xs ys : List Int} (h : Byt xs) (k : Byt ys) : Byt (xs ++ ys) := fun y hy => (List.mem_append.1 hy).elim (h y) (k y)
theorem byt_leB (N : Int) (k : Nat) : Byt (leB N k) := by
  intro x hx
  simp only [leB, List.mem_map] at hx
  obtain ⟨j, _, rfl⟩ := hx
  omega

theorem pow_succ8 (n : Nat) : (2 : Int) ^ (8 * (n + 1)) = 256 * 2 ^ (8 * n) := by
  rw [show 8 * (n + 1) = 8 * n + 8 from by omega, Int.pow_add]
  omega

theorem leV_bound : ∀ (xs : List Int), Byt xs → 0 ≤ leV xs ∧ leV xs < 2 ^ (8 * xs.length)
  | [], _ => by simp [leV]
  | x :: r, h => by
    have ih := leV_bound r h.tail
    have hx := h x (List.mem_cons_self ..)
    rw [List.length_cons, pow_succ8]
    simp only [leV]
    omega

theorem leV_snoc : ∀ (xs : List Int) (y : Int), leV (xs ++ [y]) = leV xs + 2 ^ (8 * xs.length) * y
  | [], y => by simp [leV]
  | x :: r, y => by
    simp only [List.cons_append, leV, leV_snoc r y, List.length_cons, pow_succ8]
    rw [Int.mul_add, Int.mul_assoc]
    omega

theorem or_step (xs : List Int) (y : Int) (h : Byt xs) (hy : 0 ≤ y ∧ y < 256) (hl : xs.length < 8) :
    bits .or .u64 (leV xs) (IntKind.u64.wrap (y * 2 ^ (8 * xs.length))) = leV (xs ++ [y]) := by
  obtain ⟨h0, h1⟩ := leV_bound xs h
  obtain ⟨A, hA⟩ := Int.eq_ofNat_of_zero_le h0
  obtain ⟨Y, rfl⟩ := Int.eq_ofNat_of_zero_le hy.1
  have e2 : (2 : Int) ^ (8 * xs.length) = ((2 ^ (8 * xs.length) : Nat) : Int) := by simp
  have hP : 2 ^ (8 * xs.length) * 256 ≤ 18446744073709551616 := by
    have : 2 ^ (8 * xs.length) * 256 = 2 ^ (8 * xs.length + 8) := by rw [Nat.pow_add]
    rw [this]
    exact Nat.pow_le_pow_right (by omega) (show 8 * xs.length + 8 ≤ 64 by omega)
  have hY : Y < 256 := by omega
  have hAlt : A < 2 ^ (8 * xs.length) := by rw [hA, e2] at h1; omega
  have hm : 2 ^ (8 * xs.length) * Y < 18446744073709551616 := by
    have : 2 ^ (8 * xs.length) * Y ≤ 2 ^ (8 * xs.length) * 255 := Nat.mul_le_mul_left _ (by omega)
    omega
  rw [leV_snoc, hA, e2, IntKind.wrap_u64]
  generalize hPd : 2 ^ (8 * xs.length) = p at *
  have e3 : (Y : Int) * (p : Int) = ((p * Y : Nat) : Int) := by rw [Nat.mul_comm]; simp
  rw [e3, Int.emod_eq_of_lt (by omega) (by omega)]
  rw [u64_or _ _ (by omega) (by omega) (by omega) (by omega)]
  have e4 : p * Y + A = p * Y ||| A := by rw [← hPd]; exact Nat.two_pow_add_eq_or_of_lt (by rw [hPd]; exact hAlt) Y
  rw [Int.toNat_natCast, Int.toNat_natCast, Nat.or_comm, ← e4]
  simp
  omega

theorem leB_succ (N : Int) (k : Nat) : leB N (k + 1) = leB N k ++ [N / 2 ^ (8 * k) % 256] := by simp [leB, List.range_succ]

theorem leV_leB (N : Int) (h : 0 ≤ N) : ∀ k, leV (leB N k) = N % 2 ^ (8 * k)
  | 0 => by simp [leB, leV]
  | k + 1 => by
    rw [leB_succ, leV_snoc, leV_leB N h k, leB_length, pow_succ8]
    have hp : (0 : Int) < 2 ^ (8 * k) := Int.pow_pos (by omega)
    generalize (2 : Int) ^ (8 * k) = p at *
    have := Int.emod_add_mul_ediv N (256 * p)
    have e : N / (256 * p) = N / p / 256 := by rw [Int.mul_comm, Int.ediv_ediv_of_nonneg (by omega)]
    have h1 := Int.emod_add_mul_ediv N p
    have h2 := Int.emod_add_mul_ediv (N / p) 256
    have h3 : p * (N / p) = p * (N / p % 256) + p * 256 * (N / p / 256) := by
      have := congrArg (p * ·) h2
      simp only [Int.mul_add, ← Int.mul_assoc] at this
      omega
    rw [e] at this
    have h4 : 256 * p * (N / p / 256) = p * 256 * (N / p / 256) := by rw [Int.mul_comm 256 p]
    omega
end Go.Proofs.YtoflohjlmagjpaaDoor
