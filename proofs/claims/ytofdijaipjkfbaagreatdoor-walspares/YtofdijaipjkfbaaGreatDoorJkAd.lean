/- Texts joined: FCPoly2, FCBase, FCStep, FCMore. -/
import Derived.Test.YtofdijaipjkfbaaGreatDoorJkAc
import Derived.WalkKit
import Derived.WalkSpells
import Derived.WalkLawsBesides
import Derived.Laws.CopyOwn
import Derived.Laws.Bits64b
import Derived.Laws.Bits64
import Derived.Deep.MidRow
import Derived.Test.YtofdijaipjkfbaaGreatDoorChecked
import Derived.Deep.LoopGhost
import Derived.Deep.RegionHeld3
import Derived.Deep.DrawnRows
import Derived.Deep.QuietTactic
import Derived.Deep.RegionWith
import Derived.BigQuiet
import Derived.Deep.OwnRows
/- Sums of rows of bytes, as arithmetic of numbers alone: a row is one great number, its bits in order. -/
namespace Go.Proofs.YtofdijaipjkfbaaGreatDoor.Fm.Cr.Poly

theorem nib (r : Nat) : r / 16 ^^^ steps 4 (r % 16) = steps 4 r := (steps_split 4 r).symm

def byteStep (r b : Nat) : Nat := steps 8 (r ^^^ b)
def run (r : Nat) (l : List Nat) : Nat := l.foldl byteStep r
def more (s : Nat) (l : List Nat) : Nat := run (4294967295 ^^^ s) l ^^^ 4294967295

theorem run_nil (r : Nat) : run r [] = r := rfl
theorem run_cons (r b : Nat) (l : List Nat) : run r (b :: l) = run (byteStep r b) l := rfl
theorem run_append (r : Nat) (l m : List Nat) : run r (l ++ m) = run (run r l) m := List.foldl_append ..

theorem xor_lt_byte {a b : Nat} (ha : a < 256) (hb : b < 256) : a ^^^ b < 256 := by
  have := @Nat.xor_lt_two_pow a b 8 (by simpa using ha) (by simpa using hb); simpa using this

theorem run_lt (l : List Nat) {r : Nat} (hr : r < 4294967296) (h : ∀ x ∈ l, x < 256) : run r l < 4294967296 := by
  induction l generalizing r with
  | nil => exact hr
  | cons b l ih =>
    rw [run_cons]
    exact ih (steps_lt 8 (xor_lt32 hr (by have := h b (by simp); omega))) (fun x hx => h x (by simp [hx]))

theorem more_lt {s : Nat} (l : List Nat) (hs : s < 4294967296) (h : ∀ x ∈ l, x < 256) : more s l < 4294967296 :=
  xor_lt32 (run_lt l (xor_lt32 (by decide) hs) h) (by decide)

/-- the row's bits in order, as one number -/
def LE : List Nat → Nat
  | [] => 0
  | b :: l => b ^^^ LE l * 256

theorem run_eq (l : List Nat) (r : Nat) : run r l = steps (8 * l.length) (r ^^^ LE l) := by
  induction l generalizing r with
  | nil => simp [run_nil, LE, steps]
  | cons b l ih =>
    have h : steps 8 (LE l * 256) = LE l := steps_mul 8 _
    rw [run_cons, ih, List.length_cons, Nat.mul_add, Nat.mul_one, steps_add, LE, ← Nat.xor_assoc, steps_xor 8, h]; rfl

theorem xor_cancel (a b : Nat) : a ^^^ b ^^^ b = a := by rw [Nat.xor_assoc, Nat.xor_self, Nat.xor_zero]
theorem xor_cancel' (a b : Nat) : b ^^^ (b ^^^ a) = a := by rw [← Nat.xor_assoc, Nat.xor_self, Nat.zero_xor]

theorem xor_mul_pow (a b k : Nat) : (a ^^^ b) * 2 ^ k = a * 2 ^ k ^^^ b * 2 ^ k := by
  apply Nat.eq_of_testBit_eq; intro i
  simp only [Nat.testBit_xor, Nat.testBit_mul_two_pow]
  by_cases h : k ≤ i <;> simp [h]

theorem xor_mul256 (a b : Nat) : (a ^^^ b) * 256 = a * 256 ^^^ b * 256 := xor_mul_pow a b 8

/-- bits that are turned in one byte are turned in the row's number -/
theorem LE_set (l : List Nat) (i v : Nat) (hi : i < l.length) : LE (l.set i (l.getD i 0 ^^^ v)) = LE l ^^^ v * 2 ^ (8 * i) := by
  induction l generalizing i with
  | nil => exact absurd hi (by simp)
  | cons b l ih =>
    cases i with
    | zero => simp only [List.set_cons_zero, List.getD_cons_zero, LE, Nat.mul_zero, Nat.pow_zero, Nat.mul_one]; rw [xor_swap]
    | succ i =>
      simp only [List.length_cons] at hi
      simp only [List.set_cons_succ, List.getD_cons_succ, LE]
      rw [ih i (by omega), xor_mul256, Nat.xor_assoc, Nat.mul_add, Nat.mul_one, Nat.pow_add, Nat.mul_assoc]

theorem LE_inj {l m : List Nat} (hl : ∀ x ∈ l, x < 256) (hm : ∀ x ∈ m, x < 256) (hn : l.length = m.length) (h : LE l = LE m) : l = m := by
  induction l generalizing m with
  | nil => exact (List.length_eq_zero_iff.1 hn.symm).symm
  | cons b l ih =>
    cases m with
    | nil => simp at hn
    | cons c m =>
      simp only [LE] at h
      have hb := hl b (by simp)
      have hc := hm c (by simp)
      have e : ∀ (x k : Nat), x < 256 → (x ^^^ k * 256) = k * 256 + x := by
        intro x k hx
        have h1 := low_high (k * 256 + x) 8
        rw [show (2 : Nat) ^ 8 = 256 by decide, show (k * 256 + x) / 256 * 256 = k * 256 by omega, show (k * 256 + x) % 256 = x by omega] at h1
        rw [Nat.xor_comm]; exact h1
      rw [e b _ hb, e c _ hc] at h
      have h1 : b = c := by omega
      have h2 : LE l = LE m := by omega
      simp only [List.length_cons] at hn
      rw [h1, ih (fun x hx => hl x (by simp [hx])) (fun x hx => hm x (by simp [hx])) (by omega) h2]

theorem LE_append (l m : List Nat) : LE (l ++ m) = LE l ^^^ LE m * 2 ^ (8 * l.length) := by
  induction l with
  | nil => simp [LE]
  | cons b l ih =>
    simp only [List.cons_append, LE, List.length_cons]
    rw [ih, xor_mul256, ← Nat.xor_assoc, Nat.mul_add, Nat.mul_one, Nat.pow_add, Nat.mul_assoc]

/-- the numbers of steps that turned bits still go -/
theorem steps_shift (n k d : Nat) (h : k ≤ n) : steps n (d * 2 ^ k) = steps (n - k) d := by
  have : n = (n - k) + k := by omega
  conv => lhs; rw [this]
  rw [steps_add, steps_mul]

/-- what turned bits do to a sum -/
theorem more_turned (s : Nat) (l m : List Nat) (d k : Nat) (hn : m.length = l.length) (hk : k ≤ 8 * l.length) (h : LE m = LE l ^^^ d * 2 ^ k) :
    more s m = more s l ^^^ steps (8 * l.length - k) d := by
  unfold more
  rw [run_eq, run_eq, hn, h, ← Nat.xor_assoc, steps_xor, steps_shift _ _ _ hk, xor_swap]

theorem steps_inj (k : Nat) {a b : Nat} (ha : a < 4294967296) (hb : b < 4294967296) (h : steps k a = steps k b) : a = b := by
  rw [← unsteps_steps k ha, h, unsteps_steps k hb]

theorem steps_ne (k : Nat) {a : Nat} (ha : a < 4294967296) (h : a ≠ 0) : steps k a ≠ 0 := by
  intro e
  exact h (steps_inj k ha (by decide) (by rw [e, steps_zero]))

/-- P3.4: rows that are unlike within 32 bits in order have unlike sums -/
theorem more_tells (s : Nat) (l m : List Nat) (d k : Nat) (hn : m.length = l.length) (hk : k ≤ 8 * l.length) (h : LE m = LE l ^^^ d * 2 ^ k) (hd : d < 4294967296) (h0 : d ≠ 0) :
    more s l ≠ more s m := by
  rw [more_turned s l m d k hn hk h]
  intro e
  have : more s l ^^^ more s l = more s l ^^^ (more s l ^^^ steps (8 * l.length - k) d) := by rw [← e]
  rw [Nat.xor_self, xor_cancel'] at this
  exact steps_ne _ hd h0 this.symm

/-- what Patch turns -/
def turnOf (l : List Nat) (at' want : Nat) : Nat := unsteps (8 * (l.length - at')) (more 0 l ^^^ want)

theorem turnOf_lt {l : List Nat} {at' want : Nat} (hl : ∀ x ∈ l, x < 256) (hw : want < 4294967296) : turnOf l at' want < 4294967296 :=
  unsteps_lt _ (xor_lt32 (more_lt l (by decide) hl) hw)

theorem more_mended (l m : List Nat) (at' want : Nat) (hl : ∀ x ∈ l, x < 256) (hw : want < 4294967296) (hn : m.length = l.length) (hk : at' ≤ l.length)
    (h : LE m = LE l ^^^ turnOf l at' want * 2 ^ (8 * at')) : more 0 m = want := by
  rw [more_turned 0 l m _ _ hn (by omega) h, turnOf, ← Nat.mul_sub, steps_unsteps _ (xor_lt32 (more_lt l (by decide) hl) hw), xor_cancel']

theorem turnOf_back (l m : List Nat) (at' want : Nat) (hn : m.length = l.length) (hm : more 0 m = want) : turnOf m at' (more 0 l) = turnOf l at' want := by
  unfold turnOf; rw [hn, hm, Nat.xor_comm]

/-- P3.4: one row behind the other -/
theorem more_along (l m : List Nat) : more (more 0 l) m = more 0 (l ++ m) := by
  unfold more
  rw [run_append, Nat.xor_comm 4294967295 (_ ^^^ _), xor_cancel]

theorem run_affine (r d : Nat) (l : List Nat) : run (r ^^^ d) l = run r l ^^^ steps (8 * l.length) d := by
  rw [run_eq, run_eq, xor_swap, steps_xor]

theorem join_along (l m : List Nat) : steps (8 * m.length) (more 0 l) ^^^ more 0 m = more 0 (l ++ m) := by
  have h : run (4294967295 ^^^ 0) (l ++ m) = run (4294967295 ^^^ 0) m ^^^ steps (8 * m.length) (more 0 l) := by
    rw [run_append, ← run_affine]; congr 1
    unfold more
    rw [Nat.xor_zero, Nat.xor_comm (run _ _), xor_cancel']
  show steps (8 * m.length) (more 0 l) ^^^ (run (4294967295 ^^^ 0) m ^^^ 4294967295) = run (4294967295 ^^^ 0) (l ++ m) ^^^ 4294967295
  rw [h, Nat.xor_comm (steps _ _), xor_swap]

/-- rows turned into one another, byte by byte -/
def xors (l m : List Nat) : List Nat := List.zipWith (· ^^^ ·) l m

theorem LE_xors (l m : List Nat) (h : l.length = m.length) : LE (xors l m) = LE l ^^^ LE m := by
  unfold xors
  induction l generalizing m with
  | nil => cases m with
    | nil => rfl
    | cons _ _ => simp at h
  | cons b l ih => cases m with
    | nil => simp at h
    | cons c m =>
      simp only [List.length_cons] at h
      simp only [List.zipWith_cons_cons, LE]
      rw [ih m (by omega), xor_mul256, Nat.xor_assoc, Nat.xor_assoc]; congr 1
      rw [← Nat.xor_assoc, ← Nat.xor_assoc, Nat.xor_comm c]

theorem xors_length (l m : List Nat) (h : l.length = m.length) : (xors l m).length = l.length := by
  simp [xors, h]

/-- P3.4: three rows turned into one -/
theorem more_linear (s : Nat) (l m k : List Nat) (h1 : l.length = m.length) (h2 : l.length = k.length) : more s (xors (xors l m) k) = more s l ^^^ more s m ^^^ more s k := by
  have e1 : (xors l m).length = l.length := xors_length l m h1
  have e2 : (xors (xors l m) k).length = l.length := by rw [xors_length _ _ (by omega), e1]
  unfold more
  rw [run_eq, run_eq, run_eq, run_eq, e2, ← h1, ← h2, LE_xors _ _ (by omega), LE_xors _ _ h1]
  generalize 4294967295 ^^^ s = r
  generalize LE l = x; generalize LE m = y; generalize LE k = z; generalize 8 * l.length = n
  have : r ^^^ (x ^^^ y ^^^ z) = (r ^^^ x) ^^^ (r ^^^ y) ^^^ (r ^^^ z) := by
    have : (r ^^^ x) ^^^ (r ^^^ y) = x ^^^ y := by rw [← Nat.xor_assoc, xor_swap r x r, Nat.xor_self, Nat.zero_xor]
    rw [this, ← Nat.xor_assoc (x ^^^ y), Nat.xor_comm (x ^^^ y) r, Nat.xor_assoc r]
  rw [this, steps_xor, steps_xor]
  generalize steps n (r ^^^ x) = a; generalize steps n (r ^^^ y) = b; generalize steps n (r ^^^ z) = c; generalize 4294967295 = f
  have h3 : a ^^^ f ^^^ (b ^^^ f) = a ^^^ b := by rw [← Nat.xor_assoc, xor_swap a f b, xor_cancel]
  rw [h3, Nat.xor_assoc]

/-- the bits of a number, the lowest ones first, one by one -/
theorem mod_succ (x i : Nat) : x % 2 ^ (i + 1) = x % 2 ^ i ^^^ (if x / 2 ^ i % 2 = 1 then 2 ^ i else 0) := by
  apply Nat.eq_of_testBit_eq; intro j
  rw [Nat.testBit_xor, Nat.testBit_mod_two_pow, Nat.testBit_mod_two_pow]
  have hb : x.testBit i = decide (x / 2 ^ i % 2 = 1) := Nat.testBit_eq_decide_div_mod_eq
  split
  · rename_i h
    rw [Nat.testBit_two_pow]
    rcases Nat.lt_trichotomy j i with hj | hj | hj
    · simp [hj, show j < i + 1 by omega, show i ≠ j by omega]
    · subst hj; simp [hb, h]
    · simp [show ¬ j < i by omega, show ¬ j < i + 1 by omega, show i ≠ j by omega]
  · rename_i h
    rw [Nat.zero_testBit, Bool.xor_false]
    rcases Nat.lt_trichotomy j i with hj | hj | hj
    · simp [hj, show j < i + 1 by omega]
    · subst hj; simp [hb, h]
    · simp [show ¬ j < i by omega, show ¬ j < i + 1 by omega]

/-- the bytes of a number, the lowest ones first, one by one -/
theorem mod_byte (x i : Nat) : x % 2 ^ (8 * (i + 1)) = x % 2 ^ (8 * i) ^^^ (x / 2 ^ (8 * i) % 256) * 2 ^ (8 * i) := by
  have h := low_high (x % 2 ^ (8 * (i + 1))) (8 * i)
  rw [← h, Nat.xor_comm]
  have e : (2 : Nat) ^ (8 * (i + 1)) = 2 ^ (8 * i) * 256 := by rw [Nat.mul_add, Nat.pow_add]
  congr 1
  · exact Nat.mod_mod_of_dvd _ ⟨256, e⟩
  · rw [e, Nat.mod_mul_right_div_self]

end Go.Proofs.YtofdijaipjkfbaaGreatDoor.Fm.Cr.Poly
/- Worlds, rows and bits: plain lemmas, without the program. -/
namespace Go.Proofs.YtofdijaipjkfbaaGreatDoor.Fm.Cr
open Go.RowKit

theorem hide {p : Prop} (h : p) : Hid p := h

theorem grown_then {a b c : World} {row row' : Option Nat} (h : a.grownBy b row) (k : b.grownBy c row') (hr : ∀ j, row' = some j → a.heap.size ≤ j ∨ row = some j) : a.grownBy c row :=
  ⟨k.os.trans h.os, k.tape.trans h.tape, k.output.trans h.output, Nat.le_trans h.size k.size, fun i hi hne =>
    (k.block i (Nat.lt_of_lt_of_le hi h.size) (fun e => by
      rcases hr i e.symm with h1 | h1
      · omega
      · exact hne h1.symm)).trans (h.block i hi hne)⟩
theorem grown_trans {a b c : World} {row : Option Nat} (h : a.grownBy b row) (k : b.grownBy c row) : a.grownBy c row := grown_then h k (fun _ e => Or.inr e)
theorem grown_refl (w : World) (row : Option Nat) : w.grownBy w row := ⟨rfl, rfl, rfl, Nat.le_refl _, fun _ _ _ => rfl⟩
theorem grown_drew (w : World) (row : Option Nat) : w.grownBy w.drew row := ⟨rfl, rfl, rfl, Nat.le_refl _, fun _ _ _ => rfl⟩
theorem grown_none {a b : World} (h : a.grownBy b none) (row : Option Nat) : a.grownBy b row := grown_then (grown_refl a row) h (fun _ e => by cases e)
theorem grown_setCell (w : World) (g j : Nat) (u : Value) : w.grownBy (w.setCell ⟨g, j, none⟩ u) (some g) :=
  ⟨rfl, rfl, rfl, by simp [World.setCell], fun k _ hne => Below.heap_setCell _ _ _ _ (by intro e; exact hne (by simp [e]))⟩
theorem grown_below {a b : World} (h : a.grownBy b none) : Below a.heap.size a b := ⟨h.os, h.tape, h.output, h.size, fun k hk => h.block k hk (fun e => by cases e)⟩
theorem below_grown {a b : World} (h : Below a.heap.size a b) : a.grownBy b none := ⟨h.os, h.tape, h.output, h.size, fun k hk _ => h.block k hk⟩

theorem cell_row {w : World} {g : Nat} {l : List Value} {t : TypeId} {fr : Nat × Nat} (h : w.heap[g]? = some (.cells l.toArray t fr)) (j : Nat) : w.cell? ⟨g, j, none⟩ = l[j]? := by
  rw [cell_of_row w g j l.toArray t fr h]; simp
theorem free_row {w : World} {g : Nat} {c : Array Value} {t : TypeId} (h : w.heap[g]? = some (.cells c t (0, 0))) (j : Nat) : w.frozen? ⟨g, j, none⟩ = false := by
  simp [World.frozen?, h]
theorem row_setCell {w : World} {g : Nat} {l : List Value} {t : TypeId} {fr : Nat × Nat} (h : w.heap[g]? = some (.cells l.toArray t fr)) (j : Nat) (u : Value) : (w.setCell ⟨g, j, none⟩ u).heap[g]? = some (.cells (l.set j u).toArray t fr) := by
  simp [World.setCell, Array.getElem?_modify, h]
theorem row_lt {w : World} {g : Nat} {o : Obj} (h : w.heap[g]? = some o) : g < w.heap.size := (Array.getElem?_eq_some_iff.1 h).1


theorem wrap_u32 (n : Int) : IntKind.u32.wrap n = n % 4294967296 := by simp [IntKind.wrap, IntKind.bits, IntKind.signed]
theorem wrap_u8 (n : Int) : IntKind.u8.wrap n = n % 256 := by simp [IntKind.wrap, IntKind.bits, IntKind.signed]
theorem bits_xor_u32 (a b : Nat) (ha : a < 4294967296) (hb : b < 4294967296) : bits .xor .u32 (a : Int) (b : Int) = ((a ^^^ b : Nat) : Int) := by
  have hx : a ^^^ b < 2 ^ 32 := Nat.xor_lt_two_pow (by omega) (by omega)
  have h1 : (BitVec.ofInt 32 (a : Int)).toNat = a := by
    rw [BitVec.ofInt_natCast, BitVec.toNat_ofNat]; exact Nat.mod_eq_of_lt (by omega)
  have h2 : (BitVec.ofInt 32 (b : Int)).toNat = b := by
    rw [BitVec.ofInt_natCast, BitVec.toNat_ofNat]; exact Nat.mod_eq_of_lt (by omega)
  show IntKind.u32.wrap ((BitVec.ofInt 32 (a : Int) ^^^ BitVec.ofInt 32 (b : Int)).toNat : Int) = _
  rw [BitVec.toNat_xor, h1, h2, wrap_u32]
  omega
theorem bits_and_u32 (a b : Nat) (ha : a < 4294967296) (hb : b < 4294967296) : bits .and .u32 (a : Int) (b : Int) = ((a &&& b : Nat) : Int) := by
  have hx : a &&& b < 2 ^ 32 := Nat.and_lt_two_pow _ (by omega)
  have h1 : (BitVec.ofInt 32 (a : Int)).toNat = a := by
    rw [BitVec.ofInt_natCast, BitVec.toNat_ofNat]; exact Nat.mod_eq_of_lt (by omega)
  have h2 : (BitVec.ofInt 32 (b : Int)).toNat = b := by
    rw [BitVec.ofInt_natCast, BitVec.toNat_ofNat]; exact Nat.mod_eq_of_lt (by omega)
  show IntKind.u32.wrap ((BitVec.ofInt 32 (a : Int) &&& BitVec.ofInt 32 (b : Int)).toNat : Int) = _
  rw [BitVec.toNat_and, h1, h2, wrap_u32]
  omega
theorem bits_xor_u8 (a b : Nat) (ha : a < 256) (hb : b < 256) : bits .xor .u8 (a : Int) (b : Int) = ((a ^^^ b : Nat) : Int) := by
  have hx : a ^^^ b < 2 ^ 8 := Nat.xor_lt_two_pow (by omega) (by omega)
  have h1 : (BitVec.ofInt 8 (a : Int)).toNat = a := by
    rw [BitVec.ofInt_natCast, BitVec.toNat_ofNat]; exact Nat.mod_eq_of_lt (by omega)
  have h2 : (BitVec.ofInt 8 (b : Int)).toNat = b := by
    rw [BitVec.ofInt_natCast, BitVec.toNat_ofNat]; exact Nat.mod_eq_of_lt (by omega)
  show IntKind.u8.wrap ((BitVec.ofInt 8 (a : Int) ^^^ BitVec.ofInt 8 (b : Int)).toNat : Int) = _
  rw [BitVec.toNat_xor, h1, h2, wrap_u8]
  omega
theorem and_one (r : Nat) : r &&& 1 = r % 2 := Nat.and_one_is_mod r
theorem and_15 (r : Nat) : r &&& 15 = r % 16 := Nat.and_two_pow_sub_one_eq_mod r 4
theorem and_top (r : Nat) (h : r < 4294967296) : (r &&& 2147483648 = 0) ↔ r < 2147483648 := by
  have h31 : (2147483648 : Nat) = 2 ^ 31 := by decide
  rw [Poly.lt31 h]
  constructor
  · intro e
    have : (r &&& 2 ^ 31).testBit 31 = false := by rw [← h31, e]; rfl
    rw [Nat.testBit_and, Nat.testBit_two_pow_self, Bool.and_true] at this
    exact this
  · intro e
    apply Nat.eq_of_testBit_eq; intro i
    rw [h31, Nat.testBit_and, Nat.testBit_two_pow, Nat.zero_testBit]
    by_cases hi : 31 = i
    · subst hi; simp [e]
    · simp [hi]

/-- What becomes of four bits in four steps: the package's table lies at the first place of memory. -/
def Tab (w : World) : Prop := ∀ j, j < 16 → w.cell? ⟨0, j, none⟩ = some (.int .u32 ((Poly.steps 4 j : Nat) : Int))
theorem Tab.kept {w w' : World} {row : Option Nat} (h : Tab w) (hg : w.grownBy w' row) (hr : row ≠ some 0) : Tab w' := fun j hj => hg.cell (h j hj) (fun e => hr e.symm)
theorem Tab.grown {w w' : World} (h : Tab w) (hg : w.grownBy w' none) : Tab w' := h.kept hg (by simp)

end Go.Proofs.YtofdijaipjkfbaaGreatDoor.Fm.Cr
/- The contracts of crc's step, times, moved, Join. -/
namespace Go.Proofs.YtofdijaipjkfbaaGreatDoor.Fm.Cr
open Go.RowKit
attribute [local go_sem ↓] Go.wp_at_zero Go.wp_at_succ

/-- Twice a number of 32 bits, its highest bit lost. -/
theorem shl_u32 (a : Nat) : IntKind.u32.wrap ((a : Int) * 2) = ((a * 2 % 4294967296 : Nat) : Int) := by rw [wrap_u32]; omega

set_option maxHeartbeats 400000 in
theorem step_any (r : Nat) (hr : r < 4294967296) (w : World) : Calls Tryz.prog 233 #[.int .u32 (r : Int)] w fun e w' => e = .returned (.int .u32 ((Poly.step r : Nat) : Int)) ∧ w' = w := by
  have hand := bits_and_u32 r 1 hr (by decide)
  rw [and_one] at hand
  have hxor : bits .xor .u32 ((r : Int) / 2) 3988292384 = ((r / 2 ^^^ 3988292384 : Nat) : Int) := bits_xor_u32 (r / 2) 3988292384 (by omega) (by decide)
  by_cases h : r % 2 = 1
  · rw [show Poly.step r = r / 2 ^^^ 3988292384 by simp [Poly.step, h]]
    generalize r / 2 ^^^ 3988292384 = y at *
    have hand : bits .and .u32 (r : Int) 1 = 1 := by rw [h] at hand; exact hand
    clear h
    go_enter Tryz.func233, Tryz.ntmps233
    go_wp2
    go_ret
    exact ⟨rfl, rfl⟩
  · rw [show Poly.step r = r / 2 by simp [Poly.step, h]]
    have hand : bits .and .u32 (r : Int) 1 = 0 := by rw [show r % 2 = 0 by omega] at hand; exact hand
    clear h hxor
    go_enter Tryz.func233, Tryz.ntmps233
    go_wp2
    go_ret
    exact ⟨rfl, rfl⟩

theorem bits_and_i64 (a b : Nat) (ha : a < 9223372036854775808) (hb : b < 9223372036854775808) : bits .and .i64 (a : Int) (b : Int) = ((a &&& b : Nat) : Int) := by
  have hx : a &&& b < 2 ^ 63 := Nat.and_lt_two_pow _ (by omega)
  have h1 : (BitVec.ofInt 64 (a : Int)).toNat = a := by
    rw [BitVec.ofInt_natCast, BitVec.toNat_ofNat]; exact Nat.mod_eq_of_lt (by omega)
  have h2 : (BitVec.ofInt 64 (b : Int)).toNat = b := by
    rw [BitVec.ofInt_natCast, BitVec.toNat_ofNat]; exact Nat.mod_eq_of_lt (by omega)
  show IntKind.i64.wrap ((BitVec.ofInt 64 (a : Int) &&& BitVec.ofInt 64 (b : Int)).toNat : Int) = _
  rw [BitVec.toNat_and, h1, h2, IntKind.wrap_i64]
  omega

/-- Many steps at once, ahead or back: what a product with a number does. -/
structure Goes (F : Nat → Nat → Nat) : Prop where
  zero : ∀ r, F 0 r = r
  add : ∀ j k r, F (j + k) r = F j (F k r)
  lt : ∀ k r, r < 4294967296 → F k r < 4294967296
  mul : ∀ k r, r < 4294967296 → Poly.mul r (F k 2147483648) = F k r
theorem goes_ahead : Goes Poly.steps := ⟨fun _ => rfl, Poly.steps_add, fun k _ h => Poly.steps_lt k h, Poly.mul_steps⟩
theorem goes_back : Goes Poly.unsteps := ⟨fun _ => rfl, Poly.unsteps_add, fun k _ h => Poly.unsteps_lt k h, Poly.mul_unsteps⟩

/-- What Join answers. -/
def joinN (a b : Nat) (n : Int) : Nat := Poly.steps (8 * n.toNat) a ^^^ b
theorem joinN_lt {a b : Nat} (n : Int) (ha : a < 4294967296) (hb : b < 4294967296) : joinN a b n < 4294967296 := Poly.xor_lt32 (Poly.steps_lt _ ha) hb
end Go.Proofs.YtofdijaipjkfbaaGreatDoor.Fm.Cr
/- The contracts of crc's More and Sum. -/
namespace Go.Proofs.YtofdijaipjkfbaaGreatDoor.Fm.Cr
open Go.RowKit
attribute [local go_sem ↓] Go.wp_at_zero Go.wp_at_succ

/-- The bytes xs lie where ao leads. -/
def At (w : World) (ao : Option Addr) (xs : List Nat) : Prop := ∀ j u, xs[j]? = some u → ∃ a, ao = some a ∧ w.cell? (a.add j) = some (.int .u8 ((u : Nat) : Int))
theorem addr_add_block (a : Addr) (j : Nat) : (a.add j).block = a.block := by unfold Addr.add; split <;> rfl
theorem At.nil (w : World) (ao : Option Addr) : At w ao [] := fun j u h => by simp at h
theorem At.kept {w w' : World} {ao : Option Addr} {xs : List Nat} {row : Option Nat} (h : At w ao xs) (hg : w.grownBy w' row) (hr : ∀ a, ao = some a → some a.block ≠ row) : At w' ao xs := by
  intro j u hu
  obtain ⟨a, ha, hcell⟩ := h j u hu
  exact ⟨a, ha, hg.cell hcell (by rw [addr_add_block]; exact hr a ha)⟩
theorem At.grown {w w' : World} {ao : Option Addr} {xs : List Nat} (h : At w ao xs) (hg : w.grownBy w' none) : At w' ao xs := h.kept hg (by simp)
/-- They are bytes. -/
def Bytes (xs : List Nat) : Prop := ∀ x ∈ xs, x < 256

theorem run_take {xs : List Nat} {j : Nat} (hj : j < xs.length) (r : Nat) : Poly.run r (xs.take (j + 1)) = Poly.byteStep (Poly.run r (xs.take j)) xs[j] := by
  rw [List.take_succ_eq_append_getElem hj, Poly.run_append]; rfl
theorem Bytes.take {xs : List Nat} (h : Bytes xs) (j : Nat) : Bytes (xs.take j) := fun x hx => h x (List.mem_of_mem_take hx)
theorem byteStep_nib (r x : Nat) : Poly.byteStep r x = Poly.steps 4 (Poly.steps 4 (r ^^^ x)) := Poly.steps_add 4 4 _

set_option maxHeartbeats 1000000 in
theorem more_any (s : Nat) (ao : Option Addr) (n c : Nat) (xs : List Nat) (w : World) (hs : s < 4294967296) (hn : xs.length = n) (hx : Bytes xs) (hat : At w ao xs) (hT : Tab w) (hm : n ≤ 4611686018427387904) :
    Calls Tryz.prog 151 #[.int .u32 (s : Int), .slice ao n c] w fun e w' => e = .returned (.int .u32 ((Poly.more s xs : Nat) : Int)) ∧ w' = w := by
  have hinv : bits .xor .u32 IntKind.u32.max (s : Int) = ((4294967295 ^^^ s : Nat) : Int) := bits_xor_u32 4294967295 s (by decide) hs
  have hrl : 4294967295 ^^^ s < 4294967296 := Poly.xor_lt32 (by decide) hs
  have hM : Poly.more s xs = 4294967295 ^^^ Poly.run (4294967295 ^^^ s) xs := by rw [Poly.more, Nat.xor_comm]
  obtain ⟨M, hM2⟩ : ∃ M, M = Poly.more s xs := ⟨_, rfl⟩
  rw [← hM2]
  rw [← hM2] at hM
  generalize 4294967295 ^^^ s = r0 at *
  have HM := hide hM
  clear hM hM2
  have HA := hide (And.intro hn (And.intro hx (And.intro hat hT)))
  clear hn hx hat hT
  go_enter Tryz.func151, Tryz.ntmps151
  go_wp2
  go_loopg [5, 7, 12] n (fun k r y i wr => ∃ j : Nat, k + j = n ∧ i = .int .i64 j ∧ r = .int .u32 ((Poly.run r0 (xs.take j) : Nat) : Int) ∧ wr = w)
  case atStart => exact ⟨0, by omega, rfl, rfl, rfl⟩
  case round =>
    obtain ⟨j, hkj, rfl, rfl, rfl⟩ := hrel
    obtain ⟨hn, hx, hat, hT⟩ := HA.out
    have hR := Poly.run_lt (xs.take j) hrl (hx.take j)
    by_cases hk : 0 < gk
    · have hj : j < xs.length := by omega
      obtain ⟨a, rfl, hca⟩ := hat j xs[j] (by simp [hj])
      have hb := hx xs[j] (List.getElem_mem hj)
      have HR := hide (run_take hj r0)
      rw [byteStep_nib] at HR
      generalize xs[j] = x at *
      generalize Poly.run r0 (xs.take j) = R at *
      have h1 := bits_xor_u32 R x hR (by omega)
      have hl1 := Poly.xor_lt32 hR (show x < 4294967296 by omega)
      generalize R ^^^ x = R1 at *
      have h2 : bits .and .u32 (R1 : Int) 15 = ((R1 % 16 : Nat) : Int) := by have := bits_and_u32 R1 15 hl1 (by decide); rw [and_15] at this; exact this
      have hc1 := hT (R1 % 16) (by omega)
      have h3 : bits .xor .u32 ((R1 : Int) / 16) ((Poly.steps 4 (R1 % 16) : Nat) : Int) = ((Poly.steps 4 R1 : Nat) : Int) := by
        rw [← Poly.nib R1]; exact bits_xor_u32 (R1 / 16) _ (by omega) (Poly.steps_lt 4 (by omega))
      have hl2 := Poly.steps_lt 4 hl1
      have hi1 : ((R1 % 16 : Nat) : Int) < 16 := by omega
      generalize Poly.steps 4 (R1 % 16) = t1 at *
      generalize R1 % 16 = i1 at *
      generalize Poly.steps 4 R1 = R2 at *
      have h4 : bits .and .u32 (R2 : Int) 15 = ((R2 % 16 : Nat) : Int) := by have := bits_and_u32 R2 15 hl2 (by decide); rw [and_15] at this; exact this
      have hc2 := hT (R2 % 16) (by omega)
      have h5 : bits .xor .u32 ((R2 : Int) / 16) ((Poly.steps 4 (R2 % 16) : Nat) : Int) = ((Poly.steps 4 R2 : Nat) : Int) := by
        rw [← Poly.nib R2]; exact bits_xor_u32 (R2 / 16) _ (by omega) (Poly.steps_lt 4 (by omega))
      have hi2 : ((R2 % 16 : Nat) : Int) < 16 := by omega
      generalize Poly.steps 4 (R2 % 16) = t2 at *
      generalize R2 % 16 = i2 at *
      generalize Poly.steps 4 R2 = R3 at *
      have hj1 : (j : Int) < (n : Int) := by omega
      clear hn hx hat hT HA hj
      go_wp2
      go_roundg (gk - 1)
      case measure => omega
      case rel => exact ⟨j + 1, by omega, by go_num, by rw [HR.out], rfl⟩
    · have hj : j = n := by omega
      subst hj
      rw [List.take_of_length_le (by omega)] at hR ⊢
      have h1 : bits .xor .u32 IntKind.u32.max ((Poly.run r0 xs : Nat) : Int) = (M : Int) := by rw [HM.out]; exact bits_xor_u32 4294967295 _ (by decide) hR
      clear HM
      generalize Poly.run r0 xs = z at *
      clear hn hx hat hT HA
      go_wp2
      go_ret
      exact ⟨rfl, rfl⟩

set_option maxHeartbeats 400000 in
theorem sum_any (ao : Option Addr) (n c : Nat) (xs : List Nat) (w : World) (hn : xs.length = n) (hx : Bytes xs) (hat : At w ao xs) (hT : Tab w) (hm : n ≤ 4611686018427387904) :
    Calls Tryz.prog 107 #[.slice ao n c] w fun e w' => e = .returned (.int .u32 ((Poly.more 0 xs : Nat) : Int)) ∧ w' = w := by
  have HM := hide (more_any 0 ao n c xs w (by decide) hn hx hat hT hm)
  generalize Poly.more 0 xs = M at *
  clear hn hx hat hT hm
  go_enter Tryz.func107, Tryz.ntmps107
  go_wp2_with fail
  refine HM.out.mono ?_
  rintro e w' ⟨rfl, rfl⟩
  go_wp2
  go_ret
  exact ⟨rfl, rfl⟩
end Go.Proofs.YtofdijaipjkfbaaGreatDoor.Fm.Cr
