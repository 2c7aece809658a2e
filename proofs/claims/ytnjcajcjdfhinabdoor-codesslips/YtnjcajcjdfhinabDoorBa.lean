/- Worlds, bits, arrays: plain lemmas, without the program. -/
import Derived.WalkKit
import Derived.WalkSpells
import Derived.WalkLawsBesides
import Derived.Laws.CopyOwn
import Derived.Laws.Bits64b
import Derived.Laws.Bits64
import Derived.Laws.Rows
import Derived.Deep.MidRow
import Derived.Test.YtnjcajcjdfhinabDoorCn
namespace Go.Proofs.YtnjcajcjdfhinabDoor
open Go.RowKit

theorem hide {p : Prop} (h : p) : Hid p := h

/-- Two steps, one behind the other. -/
theorem grown_then {a b c : World} {row row' : Option Nat} (h : a.grownBy b row) (k : b.grownBy c row') (hr : ∀ j, row' = some j → a.heap.size ≤ j ∨ row = some j) : a.grownBy c row :=
  ⟨k.os.trans h.os, k.tape.trans h.tape, k.output.trans h.output, Nat.le_trans h.size k.size, fun i hi hne =>
    (k.block i (Nat.lt_of_lt_of_le hi h.size) (fun e => by
      rcases hr i e.symm with h1 | h1
      · omega
      · exact hne h1.symm)).trans (h.block i hi hne)⟩
theorem grown_trans {a b c : World} {row : Option Nat} (h : a.grownBy b row) (k : b.grownBy c row) : a.grownBy c row := grown_then h k (fun _ e => Or.inr e)
theorem grown_refl (w : World) (row : Option Nat) : w.grownBy w row := ⟨rfl, rfl, rfl, Nat.le_refl _, fun _ _ _ => rfl⟩
theorem grown_drew (w : World) (row : Option Nat) : w.grownBy w.drew row := ⟨rfl, rfl, rfl, Nat.le_refl _, fun _ _ _ => rfl⟩
theorem grown_drewN (w : World) (n : Nat) (row : Option Nat) : w.grownBy (w.drewN n) row := ⟨rfl, rfl, rfl, Nat.le_refl _, fun _ _ _ => rfl⟩
theorem grown_none {a b : World} (h : a.grownBy b none) (row : Option Nat) : a.grownBy b row := grown_then (grown_refl a row) h (fun _ e => by cases e)
theorem grown_alloc (w : World) (o : Obj) : w.grownBy (w.alloc o) none := World.grownBy_alloc w o none
theorem grown_setCell (w : World) (g j : Nat) (u : Value) : w.grownBy (w.setCell ⟨g, j, none⟩ u) (some g) :=
  ⟨rfl, rfl, rfl, by simp [World.setCell], fun k _ hne => Below.heap_setCell _ _ _ _ (by intro e; exact hne (by simp [e]))⟩
theorem grown_setRow (w : World) (g : Nat) (cs : Array Value) : w.grownBy (w.setRow g cs) (some g) :=
  ⟨rfl, rfl, rfl, by simp [World.setRow], fun k _ hne => setRow_other w g k cs (by intro e; exact hne (by simp [e]))⟩
theorem grown_below {a b : World} (h : a.grownBy b none) : Below a.heap.size a b := ⟨h.os, h.tape, h.output, h.size, fun k hk => h.block k hk (fun e => by cases e)⟩
theorem below_grown {a b : World} (h : Below a.heap.size a b) : a.grownBy b none := ⟨h.os, h.tape, h.output, h.size, fun k hk _ => h.block k hk⟩
/-- What writes only a block that is new to the caller. -/
theorem grown_new {a b c : World} {g : Nat} (h : a.grownBy b none) (k : b.grownBy c (some g)) (hg : a.heap.size ≤ g) : a.grownBy c none :=
  grown_then h k (fun j e => by cases e; exact Or.inl hg)

theorem cell_row {w : World} {g : Nat} {l : List Value} {t : TypeId} {fr : Nat × Nat} (h : w.heap[g]? = some (.cells l.toArray t fr)) (j : Nat) : w.cell? ⟨g, j, none⟩ = l[j]? := by
  rw [cell_of_row w g j l.toArray t fr h]; simp
theorem free_row {w : World} {g : Nat} {c : Array Value} {t : TypeId} (h : w.heap[g]? = some (.cells c t (0, 0))) (j : Nat) : w.frozen? ⟨g, j, none⟩ = false := by
  simp [World.frozen?, h]
theorem row_setCell {w : World} {g : Nat} {l : List Value} {t : TypeId} {fr : Nat × Nat} (h : w.heap[g]? = some (.cells l.toArray t fr)) (j : Nat) (u : Value) : (w.setCell ⟨g, j, none⟩ u).heap[g]? = some (.cells (l.set j u).toArray t fr) := by
  simp [World.setCell, Array.getElem?_modify, h]
theorem row_lt {w : World} {g : Nat} {o : Obj} (h : w.heap[g]? = some o) : g < w.heap.size := (Array.getElem?_eq_some_iff.1 h).1
theorem alloc_size (w : World) (o : Obj) : (w.alloc o).heap.size = w.heap.size + 1 := Array.size_push _
theorem heap_kept {w w' : World} {g : Nat} {o : Obj} {row : Option Nat} (h : w.heap[g]? = some o) (hg : w.grownBy w' row) (hne : some g ≠ row) : w'.heap[g]? = some o := (hg.block g (row_lt h) hne).trans h
theorem box_kept {w w2 : World} {o : Obj} (h : (w.alloc o).grownBy w2 none) : w2.heap[w.heap.size]? = some o :=
  (h.block _ (by rw [alloc_size]; omega) (fun e => by cases e)).trans (heap_alloc_new w o)

theorem wrap_u32 (n : Int) : IntKind.u32.wrap n = n % 4294967296 := by simp [IntKind.wrap, IntKind.bits, IntKind.signed]
theorem wrap_u8 (n : Int) : IntKind.u8.wrap n = n % 256 := by simp [IntKind.wrap, IntKind.bits, IntKind.signed]
theorem bits_xor_u8 (a b : Nat) (ha : a < 256) (hb : b < 256) : bits .xor .u8 (a : Int) (b : Int) = ((a ^^^ b : Nat) : Int) := by
  have hx : a ^^^ b < 2 ^ 8 := Nat.xor_lt_two_pow (by omega) (by omega)
  have h1 : (BitVec.ofInt 8 (a : Int)).toNat = a := by
    rw [BitVec.ofInt_natCast, BitVec.toNat_ofNat]; exact Nat.mod_eq_of_lt (by omega)
  have h2 : (BitVec.ofInt 8 (b : Int)).toNat = b := by
    rw [BitVec.ofInt_natCast, BitVec.toNat_ofNat]; exact Nat.mod_eq_of_lt (by omega)
  show IntKind.u8.wrap ((BitVec.ofInt 8 (a : Int) ^^^ BitVec.ofInt 8 (b : Int)).toNat : Int) = _
  rw [BitVec.toNat_xor, h1, h2, wrap_u8]
  omega
/-- What lies in n cells from offset o of block b on; that they are there; an address' block and offset. -/
def rangeOf (w : World) (b o n : Nat) : List Value := (List.range n).map fun j => (w.cell? ⟨b, o + j, none⟩).getD undef
def rangeOk (w : World) (b o n : Nat) : Prop := ∀ j, j < n → (w.cell? ⟨b, o + j, none⟩).isSome = true
def blkOf : Value → Nat | .pointer (some a) => a.block | _ => 0
def offOf : Value → Nat | .pointer (some a) => a.off | _ => 0
def isPtr : Value → Bool | .pointer (some ⟨_, _, none⟩) => true | _ => false
theorem blkOf_ptr (b o : Nat) : blkOf (.pointer (some ⟨b, o, none⟩)) = b := rfl
theorem offOf_ptr (b o : Nat) : offOf (.pointer (some ⟨b, o, none⟩)) = o := rfl
theorem isPtr_ptr (b o : Nat) : isPtr (.pointer (some ⟨b, o, none⟩)) = true := rfl
theorem ptr_of {v : Value} (h : isPtr v = true) : v = .pointer (some ⟨blkOf v, offOf v, none⟩) := by
  unfold isPtr at h; split at h
  · rfl
  · cases h
theorem rangeOk.at {w : World} {b o n : Nat} (h : rangeOk w b o n) : w.rangeAt b o (rangeOf w b o n) := by
  intro j v hv
  unfold rangeOf at hv
  rw [List.getElem?_map] at hv
  cases hj : (List.range n)[j]? with
  | none => simp [hj] at hv
  | some k =>
    have hk := List.getElem?_eq_some_iff.1 hj
    obtain ⟨hlt, he⟩ := hk
    simp at he hlt
    subst he
    simp [hj] at hv
    have := h j hlt
    cases hc : w.cell? ⟨b, o + j, none⟩ with
    | none => simp [hc] at this
    | some x => simp [hc] at hv; rw [hv]
theorem rangeOf_length (w : World) (b o n : Nat) : (rangeOf w b o n).length = n := by simp [rangeOf]
theorem rangeOf_eq {w : World} {b o n : Nat} {l : List Value} (h : w.rangeAt b o l) (hl : l.length = n) : rangeOf w b o n = l := by
  apply List.ext_getElem?
  intro j
  unfold rangeOf
  rw [List.getElem?_map]
  by_cases hj : j < n
  · have hjl : j < l.length := by omega
    rw [List.getElem?_eq_getElem hjl, List.getElem?_range hj]
    simp [h j _ (List.getElem?_eq_getElem hjl)]
  · rw [List.getElem?_eq_none (by simp; omega), List.getElem?_eq_none (by omega)]; rfl
theorem rangeOk_of {w : World} {b o n : Nat} {l : List Value} (h : w.rangeAt b o l) (hl : l.length = n) : rangeOk w b o n := by
  intro j hj
  have hjl : j < l.length := by omega
  rw [h j _ (List.getElem?_eq_getElem hjl)]; rfl
/-- A load of a long array, as an equation. -/
theorem wp_load_range {P : Program} {op : Oper} {a : Act} {w : World} {K : Act → World → Prop} {Q : Exit → Act → World → Prop} (ty : TypeId) (x : Operand) (ho : op.op = .load ty x) (d : TypeDesc) (n : Nat)
    (hu : P.underlying ty = some d) (hd : d.isRow = true) (hi : (P.info? ty).map (·.size) = some n) (hx : isPtr (a.eval x) = true) (hr : rangeOk w (blkOf (a.eval x)) (offOf (a.eval x)) n) :
    op.wp P a w K Q = K (a.put op.dst (.agg (rangeOf w (blkOf (a.eval x)) (offOf (a.eval x)) n).toArray)) w := by
  unfold Oper.wp execOp
  rw [ho]
  have hp := ptr_of hx
  have hl := run_loadVar_mid (P := P) w (blkOf (a.eval x)) (offOf (a.eval x)) ty _ d hr.at hu hd (by rw [rangeOf_length]; exact hi)
  simp only [Instr.loadAt]
  rw [hp]
  simp only [Instr.sureAddr, Sem.run_bind, Sem.run_pure, Result.andThen_ok, blkOf_ptr, offOf_ptr, hl]
  rfl

/-- The package's doubled worths lie at the first place of memory. -/
def Tab (w : World) : Prop := ∀ j, j < 32 → w.cell? ⟨0, j, none⟩ = some (.int .u8 ((Cn.dbl j : Nat) : Int))
theorem Tab.grown {w w' : World} (h : Tab w) (hg : w.grownBy w' none) : Tab w' := fun j hj => hg.cell (h j hj) (by simp)
/-- Eight worths as cells, as a value. -/
def cs (l : List Nat) : List Value := l.map fun (n : Nat) => Value.int .u8 (n : Int)
theorem cs_len (l : List Nat) : (cs l).length = l.length := by simp [cs]
theorem cs_get (l : List Nat) {i : Nat} (h : i < l.length) : (cs l)[i]? = some (.int .u8 (l[i] : Int)) := by simp [cs, h]
theorem cs_set (l : List Nat) (i n : Nat) : (cs l).set i (.int .u8 (n : Int)) = cs (l.set i n) := by simp [cs, List.map_set]
theorem cs_one (l : List Nat) : ((cs l).toArray.all (·.oneCell')) = true := by
  rw [List.all_toArray, List.all_eq_true]
  intro v hv
  unfold cs at hv
  rw [List.mem_map] at hv
  obtain ⟨i, _, rfl⟩ := hv
  rfl
def arr (l : List Nat) : Value := .agg (cs l).toArray
theorem below_setRow {B : Nat} {w w' : World} (h : Below B w w') {g : Nat} (hg : B ≤ g) (cs : Array Value) : Below B w (w'.setRow g cs) :=
  ⟨h.os, h.tape, h.output, by simp [World.setRow]; exact h.size, fun k hk => (setRow_other w' g k cs (by omega)).trans (h.block k hk)⟩
theorem alloc2 (w : World) (o1 o2 : Obj) : ((w.alloc o1).alloc o2).heap[w.heap.size]? = some o1 ∧ ((w.alloc o1).alloc o2).heap[w.heap.size + 1]? = some o2 ∧ w.grownBy ((w.alloc o1).alloc o2) none := by
  have h2 := heap_alloc_new (w.alloc o1) o2
  rw [alloc_size] at h2
  exact ⟨heap_kept (heap_alloc_new w o1) (grown_alloc _ _) (by simp), h2, grown_trans (grown_alloc _ _) (grown_alloc _ _)⟩
/-- A text of these bytes. -/
def str (l : List UInt8) : Value := .string ⟨l.toArray⟩
theorem size_str (l : List UInt8) : (⟨l.toArray⟩ : ByteArray).size = l.length := by show l.toArray.size = _; simp
theorem bytes_of (s : ByteArray) : s = ⟨s.data.toList.toArray⟩ := by cases s; simp
theorem app_str (a b : List UInt8) : (⟨a.toArray⟩ : ByteArray) ++ ⟨b.toArray⟩ = ⟨(a ++ b).toArray⟩ := by
  cases h : (⟨a.toArray⟩ : ByteArray) ++ ⟨b.toArray⟩ with
  | mk d =>
    have := congrArg ByteArray.data h
    simp at this
    rw [← this]
theorem str_ne {a b : List UInt8} (h : a ≠ b) : ((⟨a.toArray⟩ : ByteArray).toList == (⟨b.toArray⟩ : ByteArray).toList) = false := by
  rw [beq_eq_false_iff_ne]
  rw [ByteArray.toList_eq, ByteArray.toList_eq]
  simpa using h
theorem str_eq (a : List UInt8) : ((⟨a.toArray⟩ : ByteArray).toList == (⟨a.toArray⟩ : ByteArray).toList) = true := by rw [beq_iff_eq]
end Go.Proofs.YtnjcajcjdfhinabDoor
