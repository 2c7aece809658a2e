/- Texts joined: GePr, IxMx. -/
import Derived.Test.YtcbiloomnkbalaaGreatDoorJoAa
import Derived.Test.YtcbiloomnkbalaaGreatDoorChecked
import Derived.Deep.LoopGhost
import Derived.Deep.RegionHeld3
import Derived.Deep.DrawnRows
import Derived.Deep.QuietTactic
import Derived.Deep.RegionWith
import Derived.BigQuiet
import Derived.Deep.OwnRows
import Derived.Laws.Rows
import Derived.Laws.ResultCell
/- The contracts of the program's functions: shapes, sizes. -/
namespace Go.Proofs.YtcbiloomnkbalaaGreatDoor.Ge
open Go.RowKit
attribute [local go_sem ↓] Go.wp_at_zero Go.wp_at_succ

/-- A shape as a value. -/
def shV (a b c : Int) : Value := .agg #[.int .i64 a, .int .i64 b, .int .i64 c]
/-- The number of 1 .. m next to n. -/
def near (n m : Int) : Int := if n < 1 then 1 else if n ≤ m then n else m

theorem near_eq (n m : Int) (_hm : 1 ≤ m) : near n m = n ↔ 1 ≤ n ∧ n ≤ m := by unfold near; split <;> (try split) <;> omega

set_option maxHeartbeats 400000 in
theorem nearestTo_any (n m : Int) (hm : 1 ≤ m) (w : World) : Calls Tryz.prog 94 #[.int .i64 n, .int .i64 m] w fun e w' => e = .returned (.int .i64 (near n m)) ∧ w' = w := by
  unfold near
  by_cases h1 : n < 1
  · rw [if_pos h1]
    have h2 : n ≤ m := by omega
    have h3 : ¬ m < n := by omega
    go_enter Tryz.func94, Tryz.ntmps94
    go_wp2
    all_goals first | (go_ret; exact ⟨rfl, rfl⟩) | (exfalso; rw [if_neg h3] at *; omega)
  · rw [if_neg h1]
    by_cases h2 : n ≤ m
    · rw [if_pos h2]
      have h3 : ¬ m < n := by omega
      by_cases h4 : n = 1
      · subst h4
        go_enter Tryz.func94, Tryz.ntmps94
        go_wp2
        all_goals first | (go_ret; exact ⟨rfl, rfl⟩) | (exfalso; omega)
      · have h5 : 1 < n := by omega
        go_enter Tryz.func94, Tryz.ntmps94
        go_wp2
        all_goals first | (go_ret; exact ⟨rfl, rfl⟩) | (exfalso; rw [if_neg h3] at *; omega)
    · rw [if_neg h2]
      have h3 : m < n := by omega
      by_cases h4 : m = 1
      · subst h4
        go_enter Tryz.func94, Tryz.ntmps94
        go_wp2
        all_goals first | (go_ret; exact ⟨rfl, rfl⟩) | (exfalso; omega)
      · have h5 : 1 < m := by omega
        go_enter Tryz.func94, Tryz.ntmps94
        go_wp2
        all_goals first | (go_ret; exact ⟨rfl, rfl⟩) | (exfalso; rw [if_pos h3] at *; omega)

theorem and_nat (n : Nat) (h : n < 4097) (h6 : 64 ≤ n) : bits .and .i64 (n : Int) ((n : Int) - 1) = ((n &&& (n - 1) : Nat) : Int) := by
  have hx : n &&& (n - 1) < 2 ^ 13 := Nat.and_lt_two_pow _ (by omega)
  have e : (n : Int) - 1 = ((n - 1 : Nat) : Int) := by omega
  rw [e]
  show IntKind.i64.wrap ((BitVec.ofInt 64 (n : Int) &&& BitVec.ofInt 64 ((n - 1 : Nat) : Int)).toNat : Int) = _
  rw [BitVec.toNat_and, BitVec.ofInt_natCast, BitVec.ofInt_natCast, BitVec.toNat_ofNat, BitVec.toNat_ofNat, Nat.mod_eq_of_lt (by omega : n < 2 ^ 64), Nat.mod_eq_of_lt (by omega : n - 1 < 2 ^ 64)]
  generalize n &&& (n - 1) = k at *
  have hk : k < 8192 := hx
  exact IntWalk.i64_in _ (by omega)
theorem size_bit (s : Int) (h1 : 64 ≤ s) (h2 : s ≤ 4096) : (bits .and .i64 s (s - 1) == 0) = decide (Gx.OkZ s) := by
  obtain ⟨n, rfl⟩ : ∃ n : Nat, s = (n : Int) := ⟨s.toNat, by omega⟩
  rw [and_nat n (by omega) (by omega), Bool.eq_iff_iff]
  have h3 := Gx.one_bit n (by omega) (by omega)
  rw [beq_iff_eq, decide_eq_true_eq, Int.natCast_eq_zero, h3]
  unfold Gx.OkZ
  omega

theorem alloc_size (w : World) (o : Obj) : (w.alloc o).heap.size = w.heap.size + 1 := Array.size_push _
theorem alloc2_new (w : World) (o o' : Obj) : ((w.alloc o).alloc o').heap[w.heap.size + 1]? = some o' := by
  have h := heap_alloc_new (w.alloc o) o'
  rwa [alloc_size] at h
set_option maxHeartbeats 1000000 in
theorem nearest_any (a b c : Int) (w : World) : Calls Tryz.prog 65 #[shV a b c] w fun e w' => e = .returned (shV (near a 1024) (near b 4096) (near c 64)) ∧ w.grownBy w' none := by
  have C := hide nearestTo_any
  have G : ∀ o o', w.grownBy ((w.alloc o).alloc o').drew none := fun o o' => grown_trans (grown_trans (grown_alloc _ _) (grown_alloc _ _)) (grown_drew _ _)
  unfold shV
  go_enter Tryz.func65, Tryz.ntmps65
  go_wp2_with fail
  go_region_with (go_at_call 94; refine (C.out _ _ (by decide) _).mono ?_; rintro e w2 ⟨rfl, rfl⟩)
  all_goals go_wp2
  all_goals refine bodyPost_ret (results_cell_row rfl _ _ (w.heap.size + 1) 23 #[.int .i64 (near a 1024), .int .i64 (near b 4096), .int .i64 (near c 64)] (0, 0) _ rfl ?_ Tryz.underlying23 rfl (by kernel_rfl)) rfl ⟨rfl, G _ _⟩
  all_goals exact alloc2_new w _ _

theorem near_all (a b c : Int) : (near a 1024 = a ∧ near b 4096 = b ∧ near c 64 = c) ↔ Gx.OkS a b c := by
  rw [near_eq a 1024 (by decide), near_eq b 4096 (by decide), near_eq c 64 (by decide)]; unfold Gx.OkS
  constructor <;> intro h <;> omega

/-- A box of the call's own is there behind what only makes memory. -/
theorem box_kept {w w2 : World} {o : Obj} (h : (w.alloc o).grownBy w2 none) : w2.heap[w.heap.size]? = some o :=
  (h.block _ (by rw [alloc_size]; omega) (fun e => by cases e)).trans (heap_alloc_new w o)
theorem box_keptd {w w2 : World} {o : Obj} (h : (w.alloc o).drew.grownBy w2 none) : w2.heap[w.heap.size]? = some o :=
  box_kept (grown_trans (grown_drew _ _) h)
theorem grown_box {w w2 : World} {o : Obj} (h : (w.alloc o).grownBy w2 none) : w.grownBy w2 none := grown_trans (grown_alloc _ _) h
theorem grown_boxd {w w2 : World} {o : Obj} (h : (w.alloc o).drew.grownBy w2 none) : w.grownBy w2 none := grown_box (grown_trans (grown_drew _ _) h)

theorem cell3 {w : World} {g : Nat} {u v x : Value} {t : TypeId} (h : w.heap[g]? = some (.cells #[u, v, x] t)) (j : Nat) : w.cell? ⟨g, j, none⟩ = [u, v, x][j]? := cell_row (l := [u, v, x]) h j
theorem getElem?_v0 (u v x : Value) : [u, v, x][0]? = some u := rfl
theorem getElem?_v1 (u v x : Value) : [u, v, x][1]? = some v := rfl
theorem getElem?_v2 (u v x : Value) : [u, v, x][2]? = some x := rfl
set_option maxHeartbeats 1000000 in
theorem check_ok (a b c : Int) (h : Gx.OkS a b c) (w : World) : Calls Tryz.prog 39 #[shV a b c] w fun e w' => e = .returned (.int .i64 0) ∧ w.grownBy w' none := by
  obtain ⟨e1, e2, e3⟩ := (near_all a b c).2 h
  have C := hide (nearest_any a b c)
  rw [e1, e2, e3] at C
  clear e1 e2 e3
  unfold shV at *
  go_enter Tryz.func39, Tryz.ntmps39
  go_wp2_with fail
  go_region_with (go_at_call 65; refine (C.out _).mono ?_; rintro e w2 ⟨rfl, hg⟩; have hb := box_keptd hg; have G := hide (grown_boxd hg); clear hg; have c0 := cell3 hb 0; have c1 := cell3 hb 1; have c2 := cell3 hb 2; simp only [getElem?_v0, getElem?_v1, getElem?_v2] at c0 c1 c2)
  all_goals go_wp2
  all_goals go_ret
  all_goals exact ⟨rfl, G.out⟩

set_option maxHeartbeats 1000000 in
theorem check_no (a b c : Int) (h : ¬ Gx.OkS a b c) (w : World) : Calls Tryz.prog 39 #[shV a b c] w fun e w' => e = .returned (.int .i64 90) ∧ w.grownBy w' none := by
  have hn := mt (near_all a b c).1 h
  have C := hide (nearest_any a b c)
  generalize near a 1024 = x at *
  generalize near b 4096 = y at *
  generalize near c 64 = z at *
  clear h
  unfold shV at *
  by_cases h1 : x = a
  · subst h1
    by_cases h2 : y = b
    · subst h2
      have h3 : ¬ z = c := fun e => hn ⟨rfl, rfl, e⟩
      clear hn
      go_enter Tryz.func39, Tryz.ntmps39
      go_wp2_with fail
      go_region_with (go_at_call 65; refine (C.out _).mono ?_; rintro e w2 ⟨rfl, hg⟩; have hb := box_keptd hg; have G := hide (grown_boxd hg); clear hg; have c0 := cell3 hb 0; have c1 := cell3 hb 1; have c2 := cell3 hb 2; simp only [getElem?_v0, getElem?_v1, getElem?_v2] at c0 c1 c2)
      all_goals go_wp2
      all_goals go_ret
      all_goals exact ⟨rfl, G.out⟩
    · clear hn
      go_enter Tryz.func39, Tryz.ntmps39
      go_wp2_with fail
      go_region_with (go_at_call 65; refine (C.out _).mono ?_; rintro e w2 ⟨rfl, hg⟩; have hb := box_keptd hg; have G := hide (grown_boxd hg); clear hg; have c0 := cell3 hb 0; have c1 := cell3 hb 1; have c2 := cell3 hb 2; simp only [getElem?_v0, getElem?_v1, getElem?_v2] at c0 c1 c2)
      all_goals go_wp2
      all_goals go_ret
      all_goals exact ⟨rfl, G.out⟩
  · clear hn
    go_enter Tryz.func39, Tryz.ntmps39
    go_wp2_with fail
    go_region_with (go_at_call 65; refine (C.out _).mono ?_; rintro e w2 ⟨rfl, hg⟩; have hb := box_keptd hg; have G := hide (grown_boxd hg); clear hg; have c0 := cell3 hb 0; have c1 := cell3 hb 1; have c2 := cell3 hb 2; simp only [getElem?_v0, getElem?_v1, getElem?_v2] at c0 c1 c2)
    all_goals go_wp2
    all_goals go_ret
    all_goals exact ⟨rfl, G.out⟩
end Go.Proofs.YtcbiloomnkbalaaGreatDoor.Ge
/- Numbers of 64 bits mixed, and back: plain lemmas, without the program. -/
namespace Go.Proofs.YtcbiloomnkbalaaGreatDoor.Mx

def fold (k x : Nat) : Nat := x ^^^ x / 2 ^ k
def unf (k y : Nat) : Nat := y ^^^ y / 2 ^ k ^^^ y / 2 ^ (2 * k)

theorem lt64 {n : Nat} : n < 18446744073709551616 ↔ n < 2 ^ 64 := by rw [show (2 : Nat) ^ 64 = 18446744073709551616 by decide]
theorem xor_lt {a b : Nat} (ha : a < 18446744073709551616) (hb : b < 18446744073709551616) : a ^^^ b < 18446744073709551616 := lt64.2 (Nat.xor_lt_two_pow (lt64.1 ha) (lt64.1 hb))
theorem div_lt {x : Nat} (k : Nat) (h : x < 18446744073709551616) : x / 2 ^ k < 18446744073709551616 := Nat.lt_of_le_of_lt (Nat.div_le_self _ _) h
theorem fold_lt (k : Nat) {x : Nat} (h : x < 18446744073709551616) : fold k x < 18446744073709551616 := xor_lt h (div_lt k h)
theorem unf_lt (k : Nat) {x : Nat} (h : x < 18446744073709551616) : unf k x < 18446744073709551616 := xor_lt (xor_lt h (div_lt k h)) (div_lt _ h)
theorem xor_div (a b k : Nat) : (a ^^^ b) / 2 ^ k = a / 2 ^ k ^^^ b / 2 ^ k := by
  rw [← Nat.shiftRight_eq_div_pow, ← Nat.shiftRight_eq_div_pow, ← Nat.shiftRight_eq_div_pow, Nat.shiftRight_xor_distrib]
theorem div_pow_pow (y j k : Nat) : y / 2 ^ j / 2 ^ k = y / 2 ^ (j + k) := by rw [Nat.div_div_eq_div_mul, ← Nat.pow_add]
theorem div_out {y : Nat} (m : Nat) (h : y < 18446744073709551616) (hm : 64 ≤ m) : y / 2 ^ m = 0 := by
  apply Nat.div_eq_of_lt
  exact Nat.lt_of_lt_of_le (lt64.1 h) (Nat.pow_le_pow_right (by decide) hm)
theorem cancel (y a b : Nat) : y ^^^ a ^^^ b ^^^ (a ^^^ b ^^^ 0) = y := by
  apply Nat.eq_of_testBit_eq; intro i
  simp only [Nat.testBit_xor, Nat.zero_testBit]
  cases y.testBit i <;> cases a.testBit i <;> cases b.testBit i <;> rfl
theorem cancel2 (y a b : Nat) : y ^^^ a ^^^ (a ^^^ b) ^^^ (b ^^^ 0) = y := by
  apply Nat.eq_of_testBit_eq; intro i
  simp only [Nat.testBit_xor, Nat.zero_testBit]
  cases y.testBit i <;> cases a.testBit i <;> cases b.testBit i <;> rfl
theorem fold_unf {k y : Nat} (hk : 22 ≤ k) (h : y < 18446744073709551616) : fold k (unf k y) = y := by
  unfold fold unf
  rw [xor_div, xor_div, div_pow_pow, div_pow_pow, div_out (2 * k + k) h (by omega), show k + k = 2 * k by omega, cancel]
theorem unf_fold {k x : Nat} (hk : 22 ≤ k) (h : x < 18446744073709551616) : unf k (fold k x) = x := by
  unfold fold unf
  rw [xor_div, xor_div, div_pow_pow, div_pow_pow, div_out (k + 2 * k) h (by omega), show k + k = 2 * k by omega, cancel2]

/-- A product that is undone. -/
theorem mul_undone {x M N : Nat} (hx : x < 18446744073709551616) (h : M * N % 18446744073709551616 = 1) : x * M % 18446744073709551616 * N % 18446744073709551616 = x := by
  rw [Nat.mul_mod, Nat.mod_mod, ← Nat.mul_mod, Nat.mul_assoc, Nat.mul_mod, h, Nat.mul_one, Nat.mod_mod, Nat.mod_eq_of_lt hx]

/-- A product of numbers of 64 bits. -/
def mul (a b : Nat) : Nat := a * b % 18446744073709551616
def M1 : Nat := 13787848793156543929
def N1 : Nat := 10871156337175269513
def M2 : Nat := 10723151780598845931
def N2 : Nat := 3573116690164977347
def G : Nat := 11400714819323198485
def hash (x : Nat) : Nat := fold 31 (fold 27 (fold 30 x * M1 % 18446744073709551616) * M2 % 18446744073709551616)
def back (y : Nat) : Nat := unf 30 (unf 27 (unf 31 y * N2 % 18446744073709551616) * N1 % 18446744073709551616)
theorem m64 (n : Nat) : n % 18446744073709551616 < 18446744073709551616 := Nat.mod_lt _ (by decide)
theorem mul_lt (a b : Nat) : mul a b < 18446744073709551616 := m64 _
theorem hash_eq (x : Nat) : hash x = fold 31 (mul (fold 27 (mul (fold 30 x) 13787848793156543929)) 10723151780598845931) := rfl
theorem back_eq (y : Nat) : back y = unf 30 (mul (unf 27 (mul (unf 31 y) 3573116690164977347)) 10871156337175269513) := rfl
theorem hash_lt (x : Nat) : hash x < 18446744073709551616 := fold_lt 31 (m64 _)
theorem back_lt (x : Nat) : back x < 18446744073709551616 := unf_lt 30 (m64 _)
theorem one1 : M1 * N1 % 18446744073709551616 = 1 := by decide
theorem one2 : M2 * N2 % 18446744073709551616 = 1 := by decide
theorem one1' : N1 * M1 % 18446744073709551616 = 1 := by decide
theorem one2' : N2 * M2 % 18446744073709551616 = 1 := by decide
theorem mul_mul1 {x : Nat} (h : x < 18446744073709551616) : mul (mul x 10871156337175269513) 13787848793156543929 = x := mul_undone h one1'
theorem mul_mul2 {x : Nat} (h : x < 18446744073709551616) : mul (mul x 3573116690164977347) 10723151780598845931 = x := mul_undone h one2'
theorem back_hash {x : Nat} (h : x < 18446744073709551616) : back (hash x) = x := by
  unfold back hash
  rw [unf_fold (by decide) (m64 _), mul_undone (fold_lt _ (m64 _)) one2, unf_fold (by decide) (m64 _), mul_undone (fold_lt _ h) one1, unf_fold (by decide) h]
theorem hash_back {y : Nat} (h : y < 18446744073709551616) : hash (back y) = y := by
  unfold back hash
  rw [fold_unf (by decide) (m64 _), mul_undone (unf_lt _ (m64 _)) one1', fold_unf (by decide) (m64 _), mul_undone (unf_lt _ h) one2', fold_unf (by decide) h]
theorem hash_inj {x y : Nat} (hx : x < 18446744073709551616) (hy : y < 18446744073709551616) (h : hash x = hash y) : x = y := by
  rw [← back_hash hx, h, back_hash hy]
theorem back_inj {x y : Nat} (hx : x < 18446744073709551616) (hy : y < 18446744073709551616) (h : back x = back y) : x = y := by
  rw [← hash_back hx, h, hash_back hy]

/-- Bits from the highest on: what is known of u when g of them are not. -/
def top (u g : Nat) : Nat := u / 2 ^ g * 2 ^ g
theorem top_zero (u : Nat) : top u 0 = u := by simp [top]
theorem top_all {u : Nat} (h : u < 18446744073709551616) : top u 64 = 0 := by unfold top; rw [div_out 64 h (Nat.le_refl _), Nat.zero_mul]
theorem top_lt {u : Nat} (g : Nat) (h : u < 18446744073709551616) : top u g < 18446744073709551616 := Nat.lt_of_le_of_lt (Nat.div_mul_le_self _ _) h
theorem top_div (u g m : Nat) (h : g ≤ m) : top u g / 2 ^ m = u / 2 ^ m := by
  obtain ⟨d, rfl⟩ := Nat.exists_eq_add_of_le h
  unfold top
  rw [← div_pow_pow, Nat.mul_div_cancel _ (Nat.two_pow_pos g), div_pow_pow]
theorem xor_mod2 (a b : Nat) : (a ^^^ b) % 2 = (a % 2) ^^^ (b % 2) := by
  have := Nat.xor_mod_two_pow (a := a) (b := b) (n := 1)
  simpa using this
theorem under_bit {u k g : Nat} (hk : 1 ≤ k) : fold k u / 2 ^ g % 2 ^^^ top u (g + 1) / 2 ^ (g + k) % 2 = u / 2 ^ g % 2 := by
  rw [top_div _ _ _ (by omega), fold, xor_div, div_pow_pow, xor_mod2, Nat.add_comm k g, Nat.xor_assoc, Nat.xor_self, Nat.xor_zero]
theorem under_bit0 {u k g : Nat} (hu : u < 18446744073709551616) (h : 64 ≤ g + k) : fold k u / 2 ^ g % 2 = u / 2 ^ g % 2 := by
  rw [fold, xor_div, div_pow_pow, div_out (k + g) hu (by omega), Nat.xor_zero]
theorem top_or (u g : Nat) : top u (g + 1) ||| (u / 2 ^ g % 2) * 2 ^ g = top u g := by
  have hl : (u / 2 ^ g % 2) * 2 ^ g < 2 ^ (g + 1) := by
    rw [Nat.pow_succ, Nat.mul_comm]
    exact Nat.mul_lt_mul_of_pos_left (Nat.mod_lt _ (by decide)) (Nat.two_pow_pos g)
  unfold top
  rw [Nat.mul_comm (u / 2 ^ (g + 1)), ← Nat.two_pow_add_eq_or_of_lt hl, ← div_pow_pow u g 1, Nat.pow_succ 2 g, Nat.mul_assoc, Nat.mul_comm _ (2 ^ g), Nat.mul_comm (u / 2 ^ g) (2 ^ g), ← Nat.mul_add]
  congr 1
  exact Nat.div_add_mod _ _

/-- Bits from the lowest on, of a product. -/
theorem over_bit {v o g : Nat} (ho : o % 2 = 1) (hg : g < 64) : (2 ^ g * (v / 2 ^ g) * o) % 18446744073709551616 / 2 ^ g % 2 = v / 2 ^ g % 2 := by
  have e : (18446744073709551616 : Nat) = 2 ^ g * 2 ^ (64 - g) := by rw [← Nat.pow_add, show g + (64 - g) = 64 by omega]
  rw [e, Nat.mul_assoc, Nat.mul_mod_mul_left, Nat.mul_div_cancel_left _ (Nat.two_pow_pos g), Nat.mod_mod_of_dvd _ (show 2 ∣ 2 ^ (64 - g) from ⟨2 ^ (64 - g - 1), by rw [← Nat.pow_succ', show (64 - g - 1).succ = 64 - g by omega]⟩), Nat.mul_mod, ho, Nat.mul_one, Nat.mod_mod]
theorem over_rest {v o y g : Nat} (h : v * o % 18446744073709551616 = y) : ((y : Int) - (v % 2 ^ g * o % 18446744073709551616 : Nat)) % 18446744073709551616 = ((2 ^ g * (v / 2 ^ g) * o % 18446744073709551616 : Nat) : Int) := by
  have e : v * o = 2 ^ g * (v / 2 ^ g) * o + v % 2 ^ g * o := by rw [← Nat.add_mul, Nat.div_add_mod]
  rw [e] at h
  generalize 2 ^ g * (v / 2 ^ g) * o = A at *
  generalize v % 2 ^ g * o = B at *
  omega
theorem low_or (v g : Nat) (h : v / 2 ^ g % 2 = 1) : v % 2 ^ g ||| 2 ^ g = v % 2 ^ (g + 1) := by
  have h2 := Nat.two_pow_add_eq_or_of_lt (Nat.mod_lt v (Nat.two_pow_pos g)) 1
  rw [Nat.mul_one] at h2
  rw [Nat.or_comm, ← h2, Nat.pow_succ, Nat.mod_mul, h, Nat.mul_one, Nat.add_comm]
theorem low_no (v g : Nat) (h : v / 2 ^ g % 2 = 0) : v % 2 ^ g = v % 2 ^ (g + 1) := by
  rw [Nat.pow_succ, Nat.mod_mul, h, Nat.mul_zero, Nat.add_zero]

/-- Texts. -/
def tstep (t b : Nat) : Nat := (t ^^^ b) * 1099511628211 % 18446744073709551616
def text (t : Nat) (xs : List Nat) : Nat := xs.foldl tstep t
theorem text_take {xs : List Nat} {j : Nat} (hj : j < xs.length) (t : Nat) : text t (xs.take (j + 1)) = tstep (text t (xs.take j)) xs[j] := by
  rw [List.take_succ_eq_append_getElem hj, text, text, List.foldl_append, List.foldl_cons, List.foldl_nil]
theorem text_lt {t : Nat} (xs : List Nat) (h : t < 18446744073709551616) : text t xs < 18446744073709551616 := by
  induction xs generalizing t with
  | nil => exact h
  | cons x r ih => exact ih (m64 _)

/-- Words: the i-th from 1 on. -/
def seedAt (s i : Nat) : Nat := (s + i * G) % 18446744073709551616
def word (s i : Nat) : Nat := hash (seedAt s i)
def words (s n : Nat) : List Nat := (List.range n).map fun i => word s (i + 1)
theorem words_length (s n : Nat) : (words s n).length = n := by simp [words]
theorem words_get {s n i : Nat} (h : i < n) : (words s n)[i]? = some (word s (i + 1)) := by simp [words, h]
theorem words_succ (s n : Nat) : words s (n + 1) = words s n ++ [word s (n + 1)] := by simp [words, List.range_succ]
theorem word_lt (s i : Nat) : word s i < 18446744073709551616 := hash_lt _
theorem words_lt (s n : Nat) : ∀ x ∈ words s n, x < 18446744073709551616 := by
  intro x hx
  simp only [words, List.mem_map] at hx
  obtain ⟨i, _, rfl⟩ := hx
  exact word_lt _ _
theorem seedAt_lt (s i : Nat) : seedAt s i < 18446744073709551616 := m64 _
theorem seedAt_zero {s : Nat} (h : s < 18446744073709551616) : seedAt s 0 = s := by unfold seedAt; rw [Nat.zero_mul, Nat.add_zero, Nat.mod_eq_of_lt h]
theorem seedAt_succ (s i : Nat) : (seedAt s i + G) % 18446744073709551616 = seedAt s (i + 1) := by
  unfold seedAt
  rw [Nat.add_mul, Nat.one_mul]
  generalize i * G = A
  omega
theorem seedAt_next (s i : Nat) : seedAt ((s + G) % 18446744073709551616) i = seedAt s (i + 1) := by
  unfold seedAt
  rw [Nat.add_mul, Nat.one_mul]
  generalize i * G = A
  omega
theorem words_take (s n m : Nat) (h : m ≤ n) : (words s n).take m = words s m := by
  simp [words, ← List.map_take, List.take_range, Nat.min_eq_left h]
theorem words_drop (s n : Nat) : (words s (n + 1)).drop 1 = words ((s + G) % 18446744073709551616) n := by
  apply List.ext_getElem?
  intro i
  by_cases hi : i < n
  · rw [List.getElem?_drop, words_get (by omega), words_get hi, word, word, seedAt_next, Nat.add_comm 1 i]
  · rw [List.getElem?_eq_none (by simp [words_length]; omega), List.getElem?_eq_none (by rw [words_length]; omega)]
/-- G is odd: two places below 2^64 have unlike numbers. -/
theorem seedAt_inj {s i k : Nat} (hi : i < 18446744073709551616) (hk : k < 18446744073709551616) (h : seedAt s i = seedAt s k) : i = k := by
  have e : i * G % 18446744073709551616 = k * G % 18446744073709551616 := by
    unfold seedAt at h
    generalize i * G = A at *
    generalize k * G = B at *
    omega
  have hG : G * 17428512612931826493 % 18446744073709551616 = 1 := by decide
  rw [← mul_undone hi hG, e, mul_undone hk hG]
theorem word_inj {s i k : Nat} (hi : i < 18446744073709551616) (hk : k < 18446744073709551616) (h : word s i = word s k) : i = k :=
  seedAt_inj hi hk (hash_inj (seedAt_lt _ _) (seedAt_lt _ _) h)
end Go.Proofs.YtcbiloomnkbalaaGreatDoor.Mx
