/- Rows of bytes, and the marks of places: shared by the texts on lists that lie apart. -/
import Derived.WalkKit
import Derived.WalkSpells
import Derived.WalkLawsBesides
import Derived.Laws.CopyOwn
import Derived.Laws.Bits64b
import Derived.Laws.Bits64
import Derived.Deep.MidRow
import Derived.Test.YtbebblhnhpdpjaaOb
import Derived.Test.YtbebblhnhpdpjaaFq
import Derived.Deep.LoopGhost
import Derived.Deep.RegionHeld3
import Derived.Deep.DrawnRows
import Derived.Deep.QuietTactic
import Derived.Deep.RegionWith
import Derived.BigQuiet
import Derived.Deep.OwnRows
import Derived.Laws.AppendOwnNone
import Derived.Laws.BitsAllLaws
import Derived.Laws.OwnMore
import Derived.ArgAppend
namespace Go.Proofs.Ytbebblhnhpdpjaa.Al
open Go.RowKit

theorem hide {p : Prop} (h : p) : Hid p := h

theorem grown_then {a b c : World} {row row' : Option Nat} (h : a.grownBy b row) (k : b.grownBy c row') (hr : ∀ j, row' = some j → a.heap.size ≤ j ∨ row = some j) : a.grownBy c row :=
  ⟨k.os.trans h.os, k.tape.trans h.tape, k.output.trans h.output, Nat.le_trans h.size k.size, fun i hi hne =>
    (k.block i (Nat.lt_of_lt_of_le hi h.size) (fun e => by
      rcases hr i e.symm with h1 | h1
      · omega
      · exact hne h1.symm)).trans (h.block i hi hne)⟩
theorem grown_trans {a b c : World} {row : Option Nat} (h : a.grownBy b row) (k : b.grownBy c row) : a.grownBy c row := grown_then h k (fun _ e => Or.inr e)
theorem grown_refl (w : World) (row : Option Nat) : w.grownBy w row := ⟨rfl, rfl, rfl, Nat.le_refl _, fun _ _ _ => rfl⟩
theorem grown_drew (w : World) (row : Option Nat) : w.grownBy w.drew row := ⟨rfl, rfl, rfl, Nat.le_refl _, fun _ _ _ => rfl⟩
theorem grown_none {a b : World} (h : a.grownBy b none) (row : Option Nat) : a.grownBy b row := grown_then (grown_refl a row) h (fun _ e => by cases e)
theorem grown_setCell (w : World) (g j : Nat) (u : Value) : w.grownBy (w.setCell ⟨g, j, none⟩ u) (some g) :=
  ⟨rfl, rfl, rfl, by simp [World.setCell], fun k _ hne => Below.heap_setCell _ _ _ _ (by intro e; exact hne (by simp [e]))⟩
theorem grown_below {a b : World} (h : a.grownBy b none) : Below a.heap.size a b := ⟨h.os, h.tape, h.output, h.size, fun k hk => h.block k hk (fun e => by cases e)⟩
theorem below_grown {a b : World} (h : Below a.heap.size a b) : a.grownBy b none := ⟨h.os, h.tape, h.output, h.size, fun k hk _ => h.block k hk⟩

theorem cell_row {w : World} {g : Nat} {l : List Value} {t : TypeId} {fr : Nat × Nat} (h : w.heap[g]? = some (.cells l.toArray t fr)) (j : Nat) : w.cell? ⟨g, j, none⟩ = l[j]? := by
  rw [cell_of_row w g j l.toArray t fr h]; simp
theorem free_row {w : World} {g : Nat} {c : Array Value} {t : TypeId} (h : w.heap[g]? = some (.cells c t (0, 0))) (j : Nat) : w.frozen? ⟨g, j, none⟩ = false := by
  simp [World.frozen?, h]
theorem row_setCell {w : World} {g : Nat} {l : List Value} {t : TypeId} {fr : Nat × Nat} (h : w.heap[g]? = some (.cells l.toArray t fr)) (j : Nat) (u : Value) : (w.setCell ⟨g, j, none⟩ u).heap[g]? = some (.cells (l.set j u).toArray t fr) := by
  simp [World.setCell, Array.getElem?_modify, h]
theorem row_lt {w : World} {g : Nat} {o : Obj} (h : w.heap[g]? = some o) : g < w.heap.size := (Array.getElem?_eq_some_iff.1 h).1


/-- The bytes xs lie where ao leads. -/
def At (w : World) (ao : Option Addr) (xs : List Nat) : Prop := ∀ j u, xs[j]? = some u → ∃ a, ao = some a ∧ w.cell? (a.add j) = some (.float .f64 u)
theorem addr_add_block (a : Addr) (j : Nat) : (a.add j).block = a.block := by unfold Addr.add; split <;> rfl
theorem At.nil (w : World) (ao : Option Addr) : At w ao [] := fun j u h => by simp at h
theorem At.kept {w w' : World} {ao : Option Addr} {xs : List Nat} {row : Option Nat} (h : At w ao xs) (hg : w.grownBy w' row) (hr : ∀ a, ao = some a → some a.block ≠ row) : At w' ao xs := by
  intro j u hu
  obtain ⟨a, ha, hcell⟩ := h j u hu
  exact ⟨a, ha, hg.cell hcell (by rw [addr_add_block]; exact hr a ha)⟩
theorem At.grown {w w' : World} {ao : Option Addr} {xs : List Nat} (h : At w ao xs) (hg : w.grownBy w' none) : At w' ao xs := h.kept hg (by simp)
/-- They are bytes. -/
def Bytes (xs : List Nat) : Prop := ∀ x ∈ xs, x < 256

theorem Try.info33 : (Try.prog.info? 33).map (fun i => (i.zero, i.size, i.bytes)) = some (some (.float .f64 0), 1, 8) := by kernel_rfl

/-- Bytes as they lie in cells. -/
def bv (xs : List Nat) : List Value := xs.map fun (x : Nat) => Value.float .f64 x
theorem bv_length (xs : List Nat) : (bv xs).length = xs.length := by simp [bv]
theorem bv_append (xs ys : List Nat) : bv (xs ++ ys) = bv xs ++ bv ys := by simp [bv]
theorem bv_get (xs : List Nat) (j u : Nat) (h : xs[j]? = some u) : (bv xs)[j]? = some (.float .f64 u) := by simp [bv, h]
theorem bv_set (xs : List Nat) (j u : Nat) : bv (xs.set j u) = (bv xs).set j (.float .f64 u) := by simp [bv, List.map_set]
theorem At.take {w : World} {ao : Option Addr} {xs : List Nat} (h : At w ao xs) (j : Nat) : At w ao (xs.take j) := by
  intro i u hu
  rw [List.getElem?_take] at hu
  split at hu
  · exact h i u hu
  · cases hu
theorem at_row {w : World} {A : Nat} {xs : List Nat} {t : TypeId} {fr : Nat × Nat} (h : w.heap[A]? = some (.cells (bv xs).toArray t fr)) : At w (some ⟨A, 0, none⟩) xs := by
  intro j u hu
  refine ⟨_, rfl, ?_⟩
  rw [Addr.add_lit, Nat.zero_add, cell_row h, bv_get xs j u hu]
theorem at_new (w : World) (xs : List Nat) (C : Array Value) (hC : C = (bv xs).toArray) (t : TypeId) : At (w.alloc (.cells C t)) (some ⟨w.heap.size, 0, none⟩) xs := by
  subst hC; exact at_row (heap_alloc_new w _)
/-- append(s, x...), s the call's own, x bytes that lie somewhere (or nil). -/
theorem wpList_append_at {w : World} {ops : Array Oper} {rest : List Oper} {o : Oper} {a : Act} {Q : Exit → Act → World → Prop} (hgd : o.guard = none) (s x : Operand)
    (ho : o.op = .call { callee := .builtin .append, args := #[s, x], argTypes := #[27, 27] }) (base : Nat) (v : Value) (n : Nat) (xs : List Nat) (hs : a.eval s = v) (hown : w.ownsRow base 33 1 v n (bv xs))
    (ao : Option Addr) (m c : Nat) (ys : List Nat) (hx : a.eval x = .slice ao m c) (hm : ys.length = m) (hat : At w ao ys) (hnil : ao = none → m = 0 ∧ c = 0)
    (hbytes : n + m ≤ 17592186044416) (hbase : base ≤ w.heap.size)
    (h : ∀ v' w', w'.ownsRow base 33 1 v' (n + m) (bv (xs ++ ys)) → w.grownBy w' v.ownBlock → wpList Try.prog ops Q rest (a.put o.dst v') w') : wpList Try.prog ops Q (o :: rest) a w := by
  obtain ⟨i0, hi, hz0, hz1, hz2⟩ := info_parts Try.info33
  cases ao with
  | none =>
    obtain ⟨rfl, rfl⟩ := hnil rfl
    refine wpList_append_own_none hgd s x 27 ho base 33 i0 1 Try.underlying27 hi v n (bv xs) hs hown hx (h v w ?_ (grown_refl w _))
    have : ys = [] := List.eq_nil_of_length_eq_zero hm
    subst this
    simpa using hown
  | some ad =>
    refine wpList_append_own _ hgd s x 27 ho base 33 i0 (.float .f64 0) 1 8 Try.underlying27 hi hz0 hz1 hz2 rfl (by decide) v n (bv xs) hs hown ad m c (bv ys) hx (by simp [bv_length, hm]) ?_ ?_ (by unfold maxLen; omega) (by omega) hbase (fun v' w' h1 h2 _ => h v' w' (by rw [bv_append]; exact h1) h2)
    · intro j u hu
      rw [bv, List.getElem?_map] at hu
      cases hj : ys[j]? with
      | none => simp [hj] at hu
      | some y =>
        simp [hj] at hu
        obtain ⟨a', ha', hc'⟩ := hat j y hj
        cases ha'
        rw [← hu]; exact hc'
    · intro u hu; rw [bv, List.mem_map] at hu; obtain ⟨y, _, rfl⟩ := hu; rfl

/-- An owned row of bytes, as bytes that lie somewhere. -/
theorem own_at {w : World} {base n : Nat} {v : Value} {xs : List Nat} (h : w.ownsRow base 33 1 v n (bv xs)) :
    ∃ ao cap, v = .slice ao n cap ∧ xs.length = n ∧ n ≤ cap ∧ cap ≤ maxLen ∧ At w ao xs ∧ (ao = none → n = 0 ∧ cap = 0) ∧ (∀ a, ao = some a → a = ⟨a.block, 0, none⟩ ∧ base ≤ a.block ∧ a.block < w.heap.size) := by
  obtain ⟨hl, h⟩ := h
  simp [bv_length] at hl
  rcases h with ⟨rfl, rfl⟩ | ⟨g, cap, cur, rfl, hb, hg, hn, hm, hs, ht⟩
  · have : xs = [] := List.eq_nil_of_length_eq_zero hl
    subst this
    exact ⟨none, 0, rfl, rfl, Nat.le_refl _, Nat.zero_le _, At.nil _ _, fun _ => ⟨rfl, rfl⟩, fun a e => by cases e⟩
  · refine ⟨some ⟨g, 0, none⟩, cap, rfl, hl, hn, hm, ?_, (fun e => by cases e), fun a e => by cases e; exact ⟨rfl, hb, row_lt hg⟩⟩
    intro j u hu
    refine ⟨_, rfl, ?_⟩
    rw [Addr.add_lit, Nat.zero_add, cell_of_row w g j cur 33 (0, 0) hg]
    have h1 : (cur.toList.take (n * 1))[j]? = some (Value.float .f64 u) := by rw [ht]; exact bv_get xs j u hu
    rw [List.getElem?_take] at h1
    split at h1
    · simpa using h1
    · cases h1

theorem grown_drewN (w : World) (n : Nat) (row : Option Nat) : w.grownBy (w.drewN n) row := ⟨rfl, rfl, rfl, Nat.le_refl _, fun _ _ _ => rfl⟩
attribute [local go_sem ↓] Go.wp_at_zero Go.wp_at_succ
attribute [local go_sem] run_store_float

/-- The mark of a place. -/
def markB (k i : Int) : Int := 1000003 * (k + 7) + i
set_option maxHeartbeats 400000 in
theorem mark_any (k i : Int) (w : World) (_hk0 : 0 ≤ k) (_hk : k ≤ 1000000) (_hi0 : 0 ≤ i) (_hi : i ≤ 1000000000000000000) :
    Calls Try.prog 56 #[.int .i64 k, .int .i64 i] w fun e w' => e = .returned (.int .i64 (markB k i)) ∧ w' = w := by
  go_enter Try.func56, Try.ntmps56
  go_wp2
  go_ret
  exact ⟨rfl, rfl⟩

/-- The mark of a place, as a word. -/
def mkN (k : Int) (i : Nat) : Nat := floatOfInt .f64 (markB k (i : Int))
theorem mkN_word (k : Int) (i : Nat) : floatOfInt .f64 (markB k (i : Int)) = mkN k i := rfl
theorem near_fin {n : Int} (h : n.natAbs ≤ 9223372036854775808) : Fin64 (floatOfInt .f64 n) := by
  have h0 : (-1074 + ((1074 : Nat) : Int)) = 0 := by decide
  have e : floatOfInt .f64 n = Ieee.double.word (decide (n < 0)) (min (rnd (n.natAbs * pw 1074) 0) Ieee.double.infRung) := by
    rw [← nearest_up_pw, h0]; rfl
  have h63 : val 4890909195324358656 = 9223372036854775808 * pw 1074 := by
    have := val_hi 1086 0 (by omega) (by omega)
    rw [Nat.add_zero, Nat.add_zero, ← pw52, ← pw_add] at this
    rw [show (9223372036854775808 : Nat) = pw 63 from rfl, ← pw_add]
    exact this
  have hr : rnd (n.natAbs * pw 1074) 0 ≤ 4890909195324358656 := rnd_le_pw (by rw [h63, pw0, Nat.mul_one]; exact Nat.mul_le_mul_right _ h)
  rw [e, inf_eq, Nat.min_eq_left (by omega)]
  exact word_fin (by omega) _
theorem mkN_same (k : Int) (i : Nat) (hk0 : 0 ≤ k) (hk : k ≤ 1000000) (hi : i ≤ 1000000000000000000) : (FloatKind.f64.format.order (mkN k i) (mkN k i) == some .eq) = true := by
  refine order_self (near_fin ?_)
  unfold markB
  omega
def marks (k : Int) (j : Nat) : List Nat := (List.range j).map fun (i : Nat) => mkN k i
theorem marks_length (k : Int) (j : Nat) : (marks k j).length = j := by simp [marks]
theorem marks_succ (k : Int) (j : Nat) : marks k (j + 1) = marks k j ++ [mkN k j] := by simp [marks, List.range_succ]
theorem marks_get (k : Int) (j i : Nat) (h : i < j) : (marks k j)[i]? = some (mkN k i) := by simp [marks, h]
theorem markN_any (k : Int) (i : Nat) (w : World) (hk0 : 0 ≤ k) (hk : k ≤ 1000000) (hi : i ≤ 1000000000000000000) :
    Calls Try.prog 56 #[.int .i64 k, .int .i64 (i : Int)] w fun e w' => e = .returned (.int .i64 (markB k (i : Int))) ∧ w' = w := mark_any k (i : Int) w hk0 hk (by omega) (by omega)

theorem made_zrow (n : Nat) : madeCells #[.float .f64 0] n = (List.replicate n (Value.float .f64 0)).toArray := by
  apply Array.ext'
  rw [toList_madeCells_one]
def zrow (n : Nat) : List Value := List.replicate n (.float .f64 0)
theorem cell_new (w : World) (v : Value) (t : TypeId) : (w.alloc (.cells #[v] t)).cell? ⟨w.heap.size, 0, none⟩ = some v := by
  rw [cell_of_row _ _ 0 #[v] t (0, 0) (heap_alloc_new w _)]; rfl

end Go.Proofs.Ytbebblhnhpdpjaa.Al
