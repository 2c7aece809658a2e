/- Texts joined: FBase, FBehind, FNum. -/
import Derived.WalkKit
import Derived.WalkSpells
import Derived.WalkLawsBesides
import Derived.Laws.CopyOwn
import Derived.Deep.MidRow
import Derived.Test.YtonokaelbpfjnaaGreatDoorProg
import Derived.Deep.LoopGhost
import Derived.Deep.RegionHeld3
import Derived.Deep.DrawnRows
import Derived.Laws.BitsAllLaws
/- What a Writer, a Reader and rows of bytes are in memory, and which steps keep them: plain lemmas, without the program. -/
namespace Go.Proofs.YtonokaelbpfjnaaGreatDoor.Fm
open Go.RowKit

theorem hide {p : Prop} (h : p) : Hid p := h

/-- xs lies, byte by byte, where ao leads. -/
def At (w : World) (ao : Option Addr) (xs : List Int) : Prop := ∀ j u, xs[j]? = some u → ∃ a, ao = some a ∧ w.cell? (a.add j) = some (.int .u8 u)
/-- A slice's address behind '[n:]'. -/
def cutA (ao : Option Addr) (n cap : Nat) : Option Addr := if cap = n then ao else ao.map (fun x => x.add n)
/-- The slice does not lie in block g. -/
def Off (ao : Option Addr) (g : Nat) : Prop := ∀ a, ao = some a → a.block ≠ g

theorem Off.cut {ao : Option Addr} {g : Nat} (h : Off ao g) (n cap : Nat) : Off (cutA ao n cap) g := by
  intro a ha
  unfold cutA at ha
  split at ha
  · exact h a ha
  · cases ao with
    | none => simp at ha
    | some x =>
      simp at ha
      have := h x rfl
      rw [← ha]; unfold Addr.add; split <;> simp_all

theorem At.nil (w : World) (ao : Option Addr) : At w ao [] := fun j u h => by simp at h

theorem addr_add_block (a : Addr) (j : Nat) : (a.add j).block = a.block := by unfold Addr.add; split <;> rfl

theorem At.cut {w : World} {ao : Option Addr} {xs : List Int} (h : At w ao xs) (n cap : Nat) (hc : xs.length ≤ cap) : At w (cutA ao n cap) (xs.drop n) := by
  intro j u hu
  rw [List.getElem?_drop] at hu
  obtain ⟨a, ha, hcell⟩ := h _ _ hu
  unfold cutA
  split
  · rename_i e
    have := (List.getElem?_eq_some_iff.1 hu).1
    omega
  · refine ⟨a.add n, by simp [ha], ?_⟩
    rw [Addr.add_add]; exact hcell

theorem At.take {w : World} {ao : Option Addr} {xs : List Int} (h : At w ao xs) (n : Nat) : At w ao (xs.take n) := by
  intro j u hu
  rw [List.getElem?_take] at hu
  split at hu
  · exact h j u hu
  · cases hu

theorem At.kept {w w' : World} {ao : Option Addr} {xs : List Int} {row : Option Nat} (h : At w ao xs) (hg : w.grownBy w' row) (hr : ∀ a, ao = some a → some a.block ≠ row) : At w' ao xs := by
  intro j u hu
  obtain ⟨a, ha, hcell⟩ := h j u hu
  exact ⟨a, ha, hg.cell hcell (by rw [addr_add_block]; exact hr a ha)⟩

theorem Off.ne {ao : Option Addr} {g : Nat} (h : Off ao g) : ∀ a, ao = some a → some a.block ≠ some g := fun a ha e => h a ha (by simpa using e)

/-- Two steps, one behind the other. -/
theorem grown_then {a b c : World} {row row' : Option Nat} (h : a.grownBy b row) (k : b.grownBy c row') (hr : ∀ j, row' = some j → a.heap.size ≤ j ∨ row = some j) : a.grownBy c row :=
  ⟨k.os.trans h.os, k.tape.trans h.tape, k.output.trans h.output, Nat.le_trans h.size k.size, fun i hi hne =>
    (k.block i (Nat.lt_of_lt_of_le hi h.size) (fun e => by
      rcases hr i e.symm with h1 | h1
      · omega
      · exact hne h1.symm)).trans (h.block i hi hne)⟩
theorem grown_trans {a b c : World} {row : Option Nat} (h : a.grownBy b row) (k : b.grownBy c row) : a.grownBy c row := grown_then h k (fun _ e => Or.inr e)
theorem grown_refl (w : World) (row : Option Nat) : w.grownBy w row := ⟨rfl, rfl, rfl, Nat.le_refl _, fun _ _ _ => rfl⟩
theorem grown_drew (w : World) (row : Option Nat) : w.grownBy w.drew row := ⟨rfl, rfl, rfl, Nat.le_refl _, fun _ _ _ => rfl⟩
theorem grown_none {a b : World} (h : a.grownBy b none) (row : Option Nat) : a.grownBy b row := grown_then (grown_refl a row) h (fun _ e => by cases e)
theorem grown_setCell (w : World) (g j : Nat) (u : Value) : w.grownBy (w.setCell ⟨g, j, none⟩ u) (some g) :=
  ⟨rfl, rfl, rfl, by simp [World.setCell], fun k _ hne => Below.heap_setCell _ _ _ _ (by intro e; exact hne (by simp [e]))⟩
theorem grown_setRow (w : World) (g : Nat) (cs : Array Value) : w.grownBy (w.setRow g cs) (some g) :=
  ⟨rfl, rfl, rfl, by simp [World.setRow], fun k _ hne => setRow_other w g k cs (by intro e; exact hne (by simp [e]))⟩

/-- copy as one step of a region that draws its order: the row behind it, and that no other block has turned. -/
theorem step_copy_grown {P : Program} {ops : Array Oper} {o : Oper} {a : Act} {w : World} {K : Act → World → Prop} {Q : Exit → Act → World → Prop} {E : Prop} (hgd : o.guard = none) (d s : Operand) (dT sT : TypeId)
    (ho : o.op = .call { callee := .builtin .copy, args := #[d, s], argTypes := #[dT, sT] }) (elem : TypeId) (hu : P.underlying dT = some (.slice elem)) (hsz : (P.info? elem).map (·.size) = some 1)
    (dp sp : Option Addr) (dLen dCap sLen sCap : Nat) (hd : a.eval d = .slice dp dLen dCap) (hs : a.eval s = .slice sp sLen sCap)
    (g off : Nat) (cur : List Value) (t : TypeId) (hg : w.heap[g]? = some (.cells cur.toArray t (0, 0))) (cs : List Value) (hn : cs.length = Nat.min sLen dLen)
    (hpos : 0 < cs.length → dp = some ⟨g, off, none⟩ ∧ ∃ ad, sp = some ad ∧ ∀ j v, cs[j]? = some v → w.cell? (ad.add j) = some v)
    (hfit : off + cs.length ≤ cur.length) (h1 : ∀ v ∈ cs, v.oneCell' = true)
    (h : ∀ w', Hid (w'.heap[g]? = some (.cells (splice cur off cs).toArray t (0, 0))) → w.grownBy w' (some g) → K (a.put o.dst (goInt cs.length)) w') :
    if Region.wanted o (yielded ops a.tmps) = true then Oper.wp P o a w K Q else E := by
  have hw : Region.wanted o (yielded ops a.tmps) = true := by simp [Region.wanted, hgd]
  rw [if_pos hw]
  by_cases h0 : cs.length = 0
  · obtain rfl : cs = [] := List.eq_nil_of_length_eq_zero h0
    have hrun := run_copy_none (P := P) w dT sT o.type elem dp sp dLen dCap sLen sCap hu hsz (by simpa using hn.symm)
    unfold Oper.wp
    simp [execOp, ho, resolve, invoke, builtin, hd, hs, hrun, Result.andThen]
    exact h w (show _ = _ by simpa [splice] using hg) (grown_refl w _)
  · obtain ⟨rfl, ad, rfl, hsrc⟩ := hpos (by omega)
    have hrun := run_copy_row (P := P) w dT sT o.type elem g off dLen dCap ad sLen sCap cur.toArray t cs hu hsz hg hn hsrc (by simpa using hfit) h1
    unfold Oper.wp
    simp [execOp, ho, resolve, invoke, builtin, hd, hs, hrun, Result.andThen]
    exact h _ (show _ = _ by simpa [splice] using setRow_heap w g _ _ t _ hg) (grown_setRow w g _)

/-- What lies in n cells from offset o of block b on; that they are there; an address' block and offset. -/
def rangeOf (w : World) (b o n : Nat) : List Value := (List.range n).map fun j => (w.cell? ⟨b, o + j, none⟩).getD undef
def rangeOk (w : World) (b o n : Nat) : Prop := ∀ j, j < n → (w.cell? ⟨b, o + j, none⟩).isSome = true
def blkOf : Value → Nat | .pointer (some a) => a.block | _ => 0
def offOf : Value → Nat | .pointer (some a) => a.off | _ => 0
def isPtr : Value → Bool | .pointer (some ⟨_, _, none⟩) => true | _ => false
theorem blkOf_ptr (b o : Nat) : blkOf (.pointer (some ⟨b, o, none⟩)) = b := rfl
theorem offOf_ptr (b o : Nat) : offOf (.pointer (some ⟨b, o, none⟩)) = o := rfl
theorem isPtr_ptr (b o : Nat) : isPtr (.pointer (some ⟨b, o, none⟩)) = true := rfl
theorem ptr_of {v : Value} (h : isPtr v = true) : v = .pointer (some ⟨blkOf v, offOf v, none⟩) := by
  unfold isPtr at h; split at h
  · rfl
  · cases h
theorem rangeOk.at {w : World} {b o n : Nat} (h : rangeOk w b o n) : w.rangeAt b o (rangeOf w b o n) := by
  intro j v hv
  unfold rangeOf at hv
  rw [List.getElem?_map] at hv
  cases hj : (List.range n)[j]? with
  | none => simp [hj] at hv
  | some k =>
    have hk := List.getElem?_eq_some_iff.1 hj
    obtain ⟨hlt, he⟩ := hk
    simp at he hlt
    subst he
    simp [hj] at hv
    have := h j hlt
    cases hc : w.cell? ⟨b, o + j, none⟩ with
    | none => simp [hc] at this
    | some x => simp [hc] at hv; rw [hv]
theorem rangeOf_length (w : World) (b o n : Nat) : (rangeOf w b o n).length = n := by simp [rangeOf]
theorem rangeOf_eq {w : World} {b o n : Nat} {l : List Value} (h : w.rangeAt b o l) (hl : l.length = n) : rangeOf w b o n = l := by
  apply List.ext_getElem?
  intro j
  unfold rangeOf
  rw [List.getElem?_map]
  by_cases hj : j < n
  · have hjl : j < l.length := by omega
    rw [List.getElem?_eq_getElem hjl, List.getElem?_range hj]
    simp [h j _ (List.getElem?_eq_getElem hjl)]
  · rw [List.getElem?_eq_none (by simp; omega), List.getElem?_eq_none (by omega)]; rfl
theorem rangeOk_of {w : World} {b o n : Nat} {l : List Value} (h : w.rangeAt b o l) (hl : l.length = n) : rangeOk w b o n := by
  intro j hj
  have hjl : j < l.length := by omega
  rw [h j _ (List.getElem?_eq_getElem hjl)]; rfl
/-- A load of a long array, as an equation. -/
theorem wp_load_range {P : Program} {op : Oper} {a : Act} {w : World} {K : Act → World → Prop} {Q : Exit → Act → World → Prop} (ty : TypeId) (x : Operand) (ho : op.op = .load ty x) (d : TypeDesc) (n : Nat)
    (hu : P.underlying ty = some d) (hd : d.isRow = true) (hi : (P.info? ty).map (·.size) = some n) (hx : isPtr (a.eval x) = true) (hr : rangeOk w (blkOf (a.eval x)) (offOf (a.eval x)) n) :
    op.wp P a w K Q = K (a.put op.dst (.agg (rangeOf w (blkOf (a.eval x)) (offOf (a.eval x)) n).toArray)) w := by
  unfold Oper.wp execOp
  rw [ho]
  have hp := ptr_of hx
  have hl := run_loadVar_mid (P := P) w (blkOf (a.eval x)) (offOf (a.eval x)) ty _ d hr.at hu hd (by rw [rangeOf_length]; exact hi)
  simp only [Instr.loadAt]
  rw [hp]
  simp only [Instr.sureAddr, Sem.run_bind, Sem.run_pure, Result.andThen_ok, blkOf_ptr, offOf_ptr, hl]
  rfl

/-- The cells of a Writer: what is sealed, the open bytes, the length. -/
def wrow (v : Value) (op : List Int) (L : Nat) : List Value := v :: (op.map (Value.int .u8) ++ [.int .i64 (L : Int)])
theorem wrow_length (v : Value) (op : List Int) (L : Nat) : (wrow v op L).length = op.length + 2 := by simp [wrow]
theorem wrow_zero (v : Value) (op : List Int) (L : Nat) : (wrow v op L)[0]? = some v := rfl
theorem wrow_last (v : Value) (op : List Int) (L : Nat) (h : op.length = 64) : (wrow v op L)[65]? = some (.int .i64 (L : Int)) := by
  simp [wrow, h]
theorem wrow_open (v : Value) (op : List Int) (L j : Nat) (h : j < op.length) : (wrow v op L)[1 + j]? = some (.int .u8 op[j]) := by
  rw [Nat.add_comm]; simp [wrow, List.getElem?_append, h]
theorem wrow_set_last (v : Value) (op : List Int) (L M : Nat) (h : op.length = 64) : (wrow v op L).set 65 (.int .i64 (M : Int)) = wrow v op M := by
  simp [wrow, h]
theorem wrow_set_zero (v v' : Value) (op : List Int) (L : Nat) : (wrow v op L).set 0 v' = wrow v' op L := rfl
theorem wrow_splice (v : Value) (op xs : List Int) (L r : Nat) (h : r + xs.length ≤ op.length) : splice (wrow v op L) (1 + r) (xs.map (Value.int .u8)) = wrow v (splice op r xs) L := by
  have e0 : 1 + r = r + 1 := by omega
  have e : r + 1 + xs.length = (r + xs.length) + 1 := by omega
  have h2 : r + xs.length - op.length = 0 := by omega
  have h3 : r - op.length = 0 := by omega
  simp only [splice, wrow, List.length_map, e0, e]
  simp [List.take_append, List.drop_append, h2, h3]

theorem cell_row {w : World} {g : Nat} {l : List Value} {t : TypeId} {fr : Nat × Nat} (h : w.heap[g]? = some (.cells l.toArray t fr)) (j : Nat) : w.cell? ⟨g, j, none⟩ = l[j]? := by
  rw [cell_of_row w g j l.toArray t fr h]; simp
theorem free_row {w : World} {g : Nat} {c : Array Value} {t : TypeId} (h : w.heap[g]? = some (.cells c t (0, 0))) (j : Nat) : w.frozen? ⟨g, j, none⟩ = false := by
  simp [World.frozen?, h]
theorem row_setCell {w : World} {g : Nat} {l : List Value} {t : TypeId} {fr : Nat × Nat} (h : w.heap[g]? = some (.cells l.toArray t fr)) (j : Nat) (u : Value) : (w.setCell ⟨g, j, none⟩ u).heap[g]? = some (.cells (l.set j u).toArray t fr) := by
  simp [World.setCell, Array.getElem?_modify, h]
theorem row_lt {w : World} {g : Nat} {o : Obj} (h : w.heap[g]? = some o) : g < w.heap.size := (Array.getElem?_eq_some_iff.1 h).1

theorem fold_set (l : List Value) : ∀ (k : Nat) (A : Array Value), 1 + k + l.length ≤ A.size →
    (List.foldl (fun (cs : Array Value) (x : Value × Nat) => cs.setIfInBounds (1 + x.snd) x.fst) A (l.zipIdx k)).toList = A.toList.take (1 + k) ++ l ++ A.toList.drop (1 + k + l.length) := by
  induction l with
  | nil => intro k A _; simp
  | cons y l ih =>
    intro k A h
    simp only [List.length_cons] at h
    rw [List.zipIdx_cons, List.foldl_cons, ih (k + 1) _ (by simp; omega)]
    have hk : 1 + k < A.toList.length := by simp; omega
    have e1 : (A.setIfInBounds (1 + k) y).toList = A.toList.set (1 + k) y := by simp
    have e2 : 1 + (k + 1) = 1 + k + 1 := by omega
    have e3 : 1 + k + 1 + l.length = 1 + k + (l.length + 1) := by omega
    rw [e1, e2, List.take_succ_eq_append_getElem (by simpa using hk), List.length_cons, e3]
    simp [List.take_set_of_le, List.drop_set]

theorem fold_block (z : Array Value) (p : Value) (l : List Value) (hz : z.size = 65) (hl : l.length = 64) :
    List.foldl (fun (cs : Array Value) (x : Value × Nat) => cs.setIfInBounds (1 + x.snd) x.fst) (z.setIfInBounds 0 p) l.zipIdx = (p :: l).toArray := by
  apply Array.ext'
  rw [show l.zipIdx = l.zipIdx 0 from rfl, fold_set l 0 _ (by simp; omega)]
  have h1 : z.toList.length = 65 := by simpa using hz
  obtain ⟨a, t, ht⟩ : ∃ a t, z.toList = a :: t := by
    cases h : z.toList with
    | nil => rw [h] at h1; cases h1
    | cons a t => exact ⟨a, t, rfl⟩
  have ht2 : t.length = 64 := by rw [ht] at h1; simpa using h1
  have e1 : (z.setIfInBounds 0 p).toList = p :: t := by simp [ht]
  rw [e1, hl]
  simp [ht2]

/-- The sealed blocks, the newest first. -/
def Chain (w : World) : Value → List (List Int) → Prop
  | v, [] => v = .pointer none
  | v, c :: cs => ∃ g v', v = .pointer (some ⟨g, 0, none⟩) ∧ w.heap[g]? = some (.cells (v' :: c.map (Value.int .u8)).toArray 155 (0, 0)) ∧ c.length = 64 ∧ Chain w v' cs

/-- The row that may be written is no sealed block. -/
def NoBlock (w : World) (row : Option Nat) : Prop := ∀ k c fr, row = some k → w.heap[k]? ≠ some (.cells c 155 fr)

theorem Chain.kept {w w' : World} {row : Option Nat} (hg : w.grownBy w' row) (hr : NoBlock w row) : ∀ (cs : List (List Int)) (v : Value), Chain w v cs → Chain w' v cs
  | [], _, h => h
  | _ :: cs, _, ⟨g, v', hv, hb, hl, hc⟩ => ⟨g, v', hv, (hg.block g (row_lt hb) (fun e => hr g _ _ e.symm hb)).trans hb, hl, Chain.kept hg hr cs v' hc⟩

theorem Chain.ptr {w : World} {v : Value} {cs : List (List Int)} (h : Chain w v cs) : ∃ u, v = .pointer u := by
  cases cs with
  | nil => exact ⟨_, h⟩
  | cons c cs => obtain ⟨g, v', hv, _⟩ := h; exact ⟨_, hv⟩

theorem NoBlock.none (w : World) : NoBlock w none := fun _ _ _ e => by cases e
theorem NoBlock.of {w : World} {g : Nat} {c : Array Value} {t : TypeId} {fr : Nat × Nat} (h : w.heap[g]? = some (.cells c t fr)) (ht : t ≠ 155) : NoBlock w (some g) := by
  intro k c' fr' e h'
  cases e
  rw [h] at h'
  simp at h'
  exact ht h'.2.1

/-- The Writer at the head of block g holds the bytes bs. -/
def WrAt (w : World) (g : Nat) (bs : List Int) : Prop :=
  ∃ v cs op, w.heap[g]? = some (.cells (wrow v op bs.length).toArray 97 (0, 0)) ∧ op.length = 64 ∧ Chain w v cs ∧ bs = cs.reverse.flatten ++ op.take (bs.length % 64)

theorem WrAt.kept {w w' : World} {g : Nat} {bs : List Int} {row : Option Nat} (h : WrAt w g bs) (hg : w.grownBy w' row) (hne : row ≠ some g) (hr : NoBlock w row) : WrAt w' g bs := by
  obtain ⟨v, cs, op, hb, hl, hc, he⟩ := h
  exact ⟨v, cs, op, (hg.block g (row_lt hb) (fun e => hne e.symm)).trans hb, hl, Chain.kept hg hr cs v hc, he⟩
theorem WrAt.lt {w : World} {g : Nat} {bs : List Int} (h : WrAt w g bs) : g < w.heap.size := by obtain ⟨v, cs, op, hb, _⟩ := h; exact row_lt hb
theorem WrAt.noBlock {w : World} {g : Nat} {bs : List Int} (h : WrAt w g bs) : NoBlock w (some g) := by obtain ⟨v, cs, op, hb, _⟩ := h; exact NoBlock.of hb (by decide)

theorem take_splice {α : Type} (op X : List α) (r : Nat) (h : r + X.length ≤ op.length) : (splice op r X).take (r + X.length) = op.take r ++ X := by
  have hr : (op.take r).length = r := by simp; omega
  rw [splice, ← List.append_assoc, List.take_append_of_le_length (by simp; omega)]
  exact List.take_of_length_le (by simp; omega)

/-- A round that leaves the open block open. -/
theorem wr_more {w' : World} {g M : Nat} {bs X op : List Int} {v : Value} {cs : List (List Int)} (hl : op.length = 64) (he : bs = cs.reverse.flatten ++ op.take (bs.length % 64)) (hc : Chain w' v cs)
    (hlt : bs.length % 64 + X.length < 64) (hb : w'.heap[g]? = some (.cells (wrow v (splice op (bs.length % 64) X) M).toArray 97 (0, 0))) (hM : M = bs.length + X.length) : WrAt w' g (bs ++ X) := by
  subst hM
  refine ⟨v, cs, splice op (bs.length % 64) X, by simpa using hb, by rw [length_splice _ _ _ (by omega)]; exact hl, hc, ?_⟩
  have e : (bs ++ X).length % 64 = bs.length % 64 + X.length := by simp; omega
  rw [e, take_splice _ _ _ (by omega), ← List.append_assoc, ← he]

/-- A round that seals it. -/
theorem wr_seal {w' : World} {g h M : Nat} {bs X op : List Int} {v : Value} {cs : List (List Int)} (hl : op.length = 64) (he : bs = cs.reverse.flatten ++ op.take (bs.length % 64)) (hc : Chain w' v cs)
    (hlt : bs.length % 64 + X.length = 64) (hb : w'.heap[g]? = some (.cells (wrow (.pointer (some ⟨h, 0, none⟩)) (splice op (bs.length % 64) X) M).toArray 97 (0, 0)))
    (hs : w'.heap[h]? = some (.cells (v :: (splice op (bs.length % 64) X).map (Value.int .u8)).toArray 155 (0, 0))) (hM : M = bs.length + X.length) : WrAt w' g (bs ++ X) := by
  subst hM
  have hl' : (splice op (bs.length % 64) X).length = 64 := by rw [length_splice _ _ _ (by omega)]; exact hl
  refine ⟨_, splice op (bs.length % 64) X :: cs, splice op (bs.length % 64) X, by simpa using hb, hl', ⟨h, v, rfl, hs, hl', hc⟩, ?_⟩
  have e : (bs ++ X).length % 64 = 0 := by simp; omega
  have e2 : splice op (bs.length % 64) X = op.take (bs.length % 64) ++ X := by
    rw [← take_splice _ _ _ (by omega)]
    exact (List.take_of_length_le (by rw [hl']; omega)).symm
  rw [e, e2]
  simp only [List.reverse_cons, List.flatten_append, List.flatten_cons, List.flatten_nil, List.take_zero, List.append_nil]
  rw [← List.append_assoc, ← he]

/-- A round's end: what is still to be put, what has been. -/
theorem round_end {w wr w4 : World} {g n m gk q cap cap' : Nat} {ao' : Option Addr} {xs ys bs bs' X : List Int} (hkm : gk + m = n) (hys : ys = xs.drop m) (hbs' : bs' = bs ++ xs.take m) (hX : X = ys.take q) (hq1 : q ≤ gk)
    (hyl : ys.length = gk) (hkc : gk ≤ cap') (hcc : cap' ≤ cap) (hat : At wr ao' ys) (ho : Off ao' g) (hgr : w.grownBy wr (some g)) (hg4 : wr.grownBy w4 (some g)) (hwr : WrAt w4 g (bs' ++ X)) :
    ∃ m' ao1 cap1, gk - q + m' = n ∧ Value.slice (cutA ao' q cap') (gk - q) (cap' - q) = Value.slice ao1 (gk - q) cap1 ∧ gk - q ≤ cap1 ∧ cap1 ≤ cap ∧ Off ao1 g ∧ At w4 ao1 (xs.drop m') ∧ WrAt w4 g (bs ++ xs.take m') ∧ w.grownBy w4 (some g) := by
  refine ⟨m + q, cutA ao' q cap', cap' - q, by omega, rfl, by omega, by omega, ho.cut q cap', ?_, ?_, grown_trans hgr hg4⟩
  · have h1 := (hat.kept hg4 ho.ne).cut q cap' (by omega)
    rw [hys, List.drop_drop] at h1
    exact h1
  · rw [hbs', hX, hys] at hwr
    rw [List.take_add, ← List.append_assoc]
    exact hwr

/-- The world behind a sealing: the new block lies there, the Writer leads to it. -/
theorem seal_world {w3 : World} {g s : Nat} {u : Option Addr} {op : List Int} {L : Nat} {F : Array Value} (h3 : w3.heap[g]? = some (.cells (wrow (.pointer u) op L).toArray 97 (0, 0))) (hs : w3.heap.size = s)
    (hF : F = (.pointer u :: op.map (Value.int .u8)).toArray) :
    (((w3.alloc (.cells F 155)).setCell ⟨g, 0, none⟩ (.pointer (some ⟨s, 0, none⟩))).drew).heap[g]? = some (.cells (wrow (.pointer (some ⟨s, 0, none⟩)) op L).toArray 97 (0, 0)) ∧
    (((w3.alloc (.cells F 155)).setCell ⟨g, 0, none⟩ (.pointer (some ⟨s, 0, none⟩))).drew).heap[s]? = some (.cells (.pointer u :: op.map (Value.int .u8)).toArray 155 (0, 0)) ∧
    w3.grownBy (((w3.alloc (.cells F 155)).setCell ⟨g, 0, none⟩ (.pointer (some ⟨s, 0, none⟩))).drew) (some g) := by
  have hlt := row_lt h3
  have h4 : (w3.alloc (.cells F 155)).heap[g]? = some (.cells (wrow (.pointer u) op L).toArray 97 (0, 0)) := (Below.heap_alloc _ _ _ hlt).trans h3
  refine ⟨?_, ?_, ?_⟩
  · have := row_setCell h4 0 (.pointer (some ⟨s, 0, none⟩))
    rw [wrow_set_zero] at this
    exact this
  · show ((w3.alloc (.cells F 155)).setCell ⟨g, 0, none⟩ (.pointer (some ⟨s, 0, none⟩))).heap[s]? = _
    rw [Below.heap_setCell _ _ _ _ (by simp; omega), ← hs, ← hF]
    exact heap_alloc_new w3 _
  · exact grown_trans (grown_trans (World.grownBy_alloc w3 _ _) (grown_setCell _ g 0 _)) (grown_drew _ _)

end Go.Proofs.YtonokaelbpfjnaaGreatDoor.Fm
/- The contract of a Writer's inner function that puts a row of bytes behind what is there. -/
namespace Go.Proofs.YtonokaelbpfjnaaGreatDoor.Fm
open Go.RowKit
attribute [local go_sem ↓] Go.wp_at_zero Go.wp_at_succ
theorem Tryz.size5 : (Tryz.prog.info? 5).map (·.size) = some 1 := by kernel_rfl
theorem Tryz.size95 : (Tryz.prog.info? 95).map (·.size) = some 64 := by kernel_rfl
theorem sliceAt_open (g r : Nat) (h : r < 64) (w : World) : (Instr.sliceAt 95 (.pointer (some ⟨g, 1, none⟩)) (some (.int .i64 (r : Int))) none none).run Tryz.prog w = .ok (.slice (some ⟨g, 1 + r, none⟩) (64 - r) (64 - r)) w := by
  have hc : r ≤ 64 := by omega
  have hne : ¬ (64 = r) := by omega
  simp [Instr.sliceAt, Instr.sureAddr, run_underlying Tryz.underlying95, Instr.sliceBounds, Instr.sliceBound, asIntOf, hc, hne, Addr.add_mid]
theorem slice_from (ao : Option Addr) (len cap n : Nat) (h : n ≤ len) (w : World) : (Instr.slice 36 (.slice ao len cap) (some (.int .i64 (n : Int))) none none).run Tryz.prog w = .ok (.slice (cutA ao n cap) (len - n) (cap - n)) w := by
  simp [Instr.slice, run_underlying Tryz.underlying36, Instr.sliceBounds, Instr.sliceBound, asIntOf, h, cutA]

theorem zero75 : Tryz.zeroCells155.size = 65 := by kernel_rfl
theorem wp_load51 {x : Operand} {dst : Option Tmp} {ty : TypeId} {pos : String} {A : Array Edge} {gd : Option (Nat × Bool)} {a : Act} {w : World} {K : Act → World → Prop} {Q : Exit → Act → World → Prop} (hx : isPtr (a.eval x) = true) (hr : rangeOk w (blkOf (a.eval x)) (offOf (a.eval x)) 64) :
    Oper.wp Tryz.prog { dst := dst, op := .load 95 x, type := ty, pos := pos, after := A, guard := gd } a w K Q = K (a.put dst (.agg (rangeOf w (blkOf (a.eval x)) (offOf (a.eval x)) 64).toArray)) w :=
  wp_load_range 95 x rfl _ 64 Tryz.underlying95 rfl Tryz.size95 hx hr
attribute [local go_sem ↓] wp_load51
attribute [local go_sem] blkOf_ptr offOf_ptr isPtr_ptr

set_option maxHeartbeats 1000000 in
set_option maxRecDepth 100000 in
theorem behind_any (g n : Nat) (bs xs : List Int) (ao : Option Addr) (cap : Nat) (w : World) (hW : WrAt w g bs) (hn : xs.length = n) (hs : At w ao xs) (hoff : Off ao g) (hnc : n ≤ cap) (hcm : cap ≤ maxLen) (hL : bs.length + n ≤ 4611686018427387904) :
    Calls Tryz.prog 105 #[.pointer (some ⟨g, 0, none⟩), .slice ao n cap] w fun e w' => e = .returned (.tuple #[]) ∧ WrAt w' g (bs ++ xs) ∧ w.grownBy w' (some g) := by
  unfold maxLen at hcm
  go_enter Tryz.func105, Tryz.ntmps105
  go_wp2
  go_loopg [1] n (fun k row wr => ∃ m ao' cap', k + m = n ∧ row = .slice ao' k cap' ∧ k ≤ cap' ∧ cap' ≤ cap ∧ Off ao' g ∧ At wr ao' (xs.drop m) ∧ WrAt wr g (bs ++ xs.take m) ∧ w.grownBy wr (some g))
  case atStart => exact ⟨0, ao, cap, by omega, rfl, hnc, Nat.le_refl _, hoff, by simpa using hs, by simpa using hW, grown_refl _ _⟩
  case round =>
    obtain ⟨m, ao', cap', hkm, rfl, hkc, hcc, ho, hat, hwr, hgr⟩ := hrel
    clear hW hs hoff
    by_cases hk : 0 < gk
    · obtain ⟨ys, hys⟩ : ∃ ys, ys = xs.drop m := ⟨_, rfl⟩
      obtain ⟨bs', hbs'⟩ : ∃ b, b = bs ++ xs.take m := ⟨_, rfl⟩
      have hyl : ys.length = gk := by rw [hys]; simp; omega
      have hbl : bs'.length + gk ≤ 4611686018427387904 := by rw [hbs']; simp; omega
      rw [← hys] at hat
      rw [← hbs'] at hwr
      have HY : Hid (ys = xs.drop m ∧ bs' = bs ++ xs.take m) := ⟨hys, hbs'⟩
      clear hys hbs'
      obtain ⟨v, cs, op, hb, hl, hc, he⟩ := hwr
      obtain ⟨u, rfl⟩ := hc.ptr
      obtain ⟨L, hLe⟩ : ∃ L, L = bs'.length := ⟨_, rfl⟩
      obtain ⟨r, hrL⟩ : ∃ r, r = L % 64 := ⟨_, rfl⟩
      have hr64 : r < 64 := by omega
      have hr1 : (L : Int) % 64 = (r : Int) := by rw [hrL]; simp
      have hr2 : (L : Int).tmod 64 = (r : Int) := by rw [hrL]; simp [Int.tmod_eq_emod_of_nonneg]
      have hLm : (L : Int) ≤ 4611686018427387904 := by omega
      obtain ⟨q, hq⟩ : ∃ q, q = Nat.min gk (64 - r) := ⟨_, rfl⟩
      have hq1 : q ≤ gk := by rw [hq]; exact Nat.min_le_left _ _
      have hq2 : q ≤ 64 - r := by rw [hq]; exact Nat.min_le_right _ _
      have hq0 : 0 < q := by rw [hq]; simp only [Nat.min_def]; split <;> omega
      obtain ⟨X, hX⟩ : ∃ X, X = ys.take q := ⟨_, rfl⟩
      have hXl : X.length = q := by rw [hX]; simp; omega
      have hXa : At wr ao' X := by rw [hX]; exact hat.take q
      obtain ⟨XV, hXV⟩ : ∃ XV, XV = X.map (Value.int .u8) := ⟨_, rfl⟩
      have hXVl : XV.length = q := by rw [hXV]; simp [hXl]
      have hXp : 0 < XV.length → ∃ ad, ao' = some ad ∧ ∀ j u, XV[j]? = some u → wr.drew.cell? (ad.add j) = some u := by
        intro hp
        have hx0 : 0 < X.length := by omega
        obtain ⟨a, ha, _⟩ := hXa 0 X[0] (by simp [hx0])
        refine ⟨a, ha, fun j u hu => ?_⟩
        rw [hXV, List.getElem?_map] at hu
        cases hj : X[j]? with
        | none => simp [hj] at hu
        | some x =>
          simp [hj] at hu
          obtain ⟨a', ha', hc'⟩ := hXa j x hj
          rw [ha] at ha'; cases ha'
          rw [← hu]; simpa using hc'
      have hX1 : ∀ u ∈ XV, u.oneCell' = true := by
        intro u hu; rw [hXV] at hu; simp at hu; obtain ⟨x, _, rfl⟩ := hu; rfl
      have hmin : XV.length = Nat.min gk (64 - r) := by rw [hXVl, hq]
      have hfit : 1 + r + XV.length ≤ (wrow (.pointer u) op L).length := by rw [wrow_length, hl, hXVl]; omega
      have hbD : wr.drew.heap[g]? = some (.cells (wrow (.pointer u) op L).toArray 97 (0, 0)) := by rw [hLe]; exact hb
      have c65 : wr.cell? ⟨g, 65, none⟩ = some (.int .i64 L) := by rw [cell_row hb, wrow_last _ _ _ hl, hLe]
      have hsl : ∀ w, (Instr.sliceAt 95 (.pointer (some ⟨g, 1, none⟩)) (some (.int .i64 (r : Int))) none none).run Tryz.prog w = .ok (.slice (some ⟨g, 1 + r, none⟩) (64 - r) (64 - r)) w := sliceAt_open g r hr64
      have hcut : ∀ w, (Instr.slice 36 (.slice ao' gk cap') (some (.int .i64 (q : Int))) none none).run Tryz.prog w = .ok (.slice (cutA ao' q cap') (gk - q) (cap' - q)) w := slice_from ao' gk cap' q hq1
      have HB : Hid (L = bs'.length ∧ r = L % 64 ∧ q = Nat.min gk (64 - r) ∧ X = ys.take q ∧ XV = X.map (Value.int .u8) ∧ X.length = q ∧ bs' = cs.reverse.flatten ++ op.take (bs'.length % 64)) := ⟨hLe, hrL, hq, hX, hXV, hXl, he⟩
      have HXl : Hid (XV.length = q) := hXVl
      have HK : Hid (∀ w2 : World, w2.heap[g]? = some (.cells (splice (wrow (.pointer u) op L) (1 + r) XV).toArray 97 (0, 0)) → w2.heap[g]? = some (.cells (wrow (.pointer u) (splice op r X) L).toArray 97 (0, 0)) ∧ w2.cell? ⟨g, 65, none⟩ = some (.int .i64 L) ∧ w2.frozen? ⟨g, 65, none⟩ = false) := by
        intro w2 h2
        rw [hXV, wrow_splice _ _ _ _ _ (by omega)] at h2
        exact ⟨h2, by rw [cell_row h2, wrow_last _ _ _ (by rw [length_splice _ _ _ (by omega)]; exact hl)], free_row h2 _⟩
      have Hmin : Hid (XV.length = Nat.min gk (64 - r)) := hmin
      have Hfit : Hid (1 + r + XV.length ≤ (wrow (.pointer u) op L).length) := hfit
      have HbD : Hid (wr.drew.heap[g]? = some (.cells (wrow (.pointer u) op L).toArray 97 (0, 0))) := hbD
      have HXp : Hid (0 < XV.length → ∃ ad, ao' = some ad ∧ ∀ j u, XV[j]? = some u → wr.drew.cell? (ad.add j) = some u) := hXp
      have HX1 : Hid (∀ u ∈ XV, u.oneCell' = true) := hX1
      have Hc : Hid (Chain wr (.pointer u) cs) := hc
      have Hat : Hid (At wr ao' ys ∧ Off ao' g ∧ w.grownBy wr (some g) ∧ ys.length = gk ∧ op.length = 64) := ⟨hat, ho, hgr, hyl, hl⟩
      have Hb : Hid (wr.heap[g]? = some (.cells (wrow (.pointer u) op bs'.length).toArray 97 (0, 0))) := hb
      have hk' : (0 : Int) < (gk : Int) := by omega
      clear hLe hrL hq hX hXV hXl he hXVl hmin hfit hbD hXp hX1 hc hat ho hgr hyl hXa hl hb hn
      go_wp2
      go_region_held3 (fun w' => w'.cell? ⟨g, 65, none⟩ = some (.int .i64 L)) (go_keep) ((refine step_copy_grown rfl (.tmp 18) (.tmp 19) 36 36 rfl 5 Tryz.underlying36 Tryz.size5 _ _ _ _ _ _ (by rfl) (by rfl) g (1 + r) (wrow (.pointer u) op L) 97 HbD.out XV Hmin.out (fun hp => ⟨rfl, HXp.out hp⟩) Hfit.out HX1.out ?_; rw [HXl.out]; intro w2 H2 hg2; obtain ⟨H2', c65', f65⟩ := HK.out w2 H2.out; clear H2; have H2 := hide H2'; clear H2'))
      by_cases hS : r + q = 64
      · have hM : ((L : Int) + (q : Int)) % 64 = 0 := by omega
        obtain ⟨OV, hOV⟩ : ∃ OV, OV = (splice op r X).map (Value.int .u8) := ⟨_, rfl⟩
        have hOVl : OV.length = 64 := by obtain ⟨_, _, _, _, _, hx, _⟩ := HB.out; obtain ⟨_, _, _, _, ho⟩ := Hat.out; rw [hOV, List.length_map, length_splice _ _ _ (by omega)]; exact ho
        have hOV1 : ∀ u ∈ OV, u.oneCell' = true := by
          intro u hu; rw [hOV] at hu; simp at hu; obtain ⟨x, _, rfl⟩ := hu; rfl
        have h3 : (w2.setCell ⟨g, 65, none⟩ (.int .i64 ((L : Int) + (q : Int)))).heap[g]? = some (.cells (wrow (.pointer u) (splice op r X) (L + q)).toArray 97 (0, 0)) := by
          rw [row_setCell H2.out, ← Int.natCast_add, wrow_set_last]
          rw [hOV] at hOVl; simpa using hOVl
        have d0 : (w2.setCell ⟨g, 65, none⟩ (.int .i64 ((L : Int) + (q : Int)))).cell? ⟨g, 0, none⟩ = some (.pointer u) := by rw [cell_row h3, wrow_zero]
        have f0 : (w2.setCell ⟨g, 65, none⟩ (.int .i64 ((L : Int) + (q : Int)))).frozen? ⟨g, 0, none⟩ = false := free_row h3 _
        have rng : (w2.setCell ⟨g, 65, none⟩ (.int .i64 ((L : Int) + (q : Int)))).rangeAt g 1 OV := by
          intro j y hy
          rw [cell_row h3]
          rw [hOV, List.getElem?_map] at hy
          cases hj : (splice op r X)[j]? with
          | none => simp [hj] at hy
          | some x =>
            simp [hj] at hy
            obtain ⟨hlt, hx⟩ := List.getElem?_eq_some_iff.1 hj
            rw [wrow_open _ _ _ _ hlt, ← hy, hx]
        have k0 : ∀ o, ((w2.setCell ⟨g, 65, none⟩ (.int .i64 ((L : Int) + (q : Int)))).alloc o).cell? ⟨g, 0, none⟩ = some (.pointer u) := fun o => by
          rw [World.cell?_alloc_lt _ _ _ (row_lt h3)]; exact d0
        have kf : ∀ o, ((w2.setCell ⟨g, 65, none⟩ (.int .i64 ((L : Int) + (q : Int)))).alloc o).frozen? ⟨g, 0, none⟩ = false := fun o => by
          rw [World.frozen?_alloc_old _ _ _ (Nat.ne_of_lt (row_lt h3))]; exact f0
        have HOV : Hid (OV = (splice op r X).map (Value.int .u8)) := hOV
        have H3 := hide h3
        clear hOV h3
        go_wp2
        have rok : rangeOk (w2.setCell ⟨g, 65, none⟩ (.int .i64 ((L : Int) + (q : Int)))).drew g 1 64 := rangeOk_of (w := (w2.setCell ⟨g, 65, none⟩ (.int .i64 ((L : Int) + (q : Int)))).drew) rng hOVl
        have rof : rangeOf (w2.setCell ⟨g, 65, none⟩ (.int .i64 ((L : Int) + (q : Int)))).drew g 1 64 = OV := rangeOf_eq (w := (w2.setCell ⟨g, 65, none⟩ (.int .i64 ((L : Int) + (q : Int)))).drew) rng hOVl
        clear rng
        go_region_law (fail)
        all_goals
          go_wp2
          go_roundg (gk - q)
          case measure => omega
          case rel =>
            obtain ⟨hys, hbs'⟩ := HY.out
            obtain ⟨hLe, hrL, hq, hX, hXV, hXl, he⟩ := HB.out
            obtain ⟨hat, ho, hgr, hyl, hl⟩ := Hat.out
            subst hLe; subst hrL
            have hF := fold_block Tryz.zeroCells155 (.pointer u) OV zero75 hOVl
            obtain ⟨e1, e2, e3⟩ := seal_world H3.out (s := w2.heap.size) (by simp [World.setCell]) (hF.trans (by rw [HOV.out]))
            have hg4 := grown_trans (grown_trans (grown_trans (grown_drew wr (some g)) hg2) (grown_setCell w2 g 65 (.int .i64 (((bs'.length : Nat) : Int) + (q : Int))))) e3
            refine round_end hkm hys hbs' hX hq1 hyl hkc hcc hat ho hgr hg4 ?_
            exact wr_seal hl he (Chain.kept hg4 (NoBlock.of Hb.out (by decide)) cs _ Hc.out) (by omega) e1 e2 (by omega)
      · have hM : (((L : Int) + (q : Int)) % 64 == 0) = false := by rw [beq_eq_false_iff_ne]; omega
        go_wp2
        go_roundg (gk - q)
        case measure => omega
        case rel =>
          obtain ⟨hys, hbs'⟩ := HY.out
          obtain ⟨hLe, hrL, hq, hX, hXV, hXl, he⟩ := HB.out
          obtain ⟨hat, ho, hgr, hyl, hl⟩ := Hat.out
          subst hLe; subst hrL
          have hg4 := grown_trans (grown_trans (grown_drew wr (some g)) hg2) (grown_setCell w2 g 65 (.int .i64 (((bs'.length : Nat) : Int) + (q : Int))))
          refine round_end hkm hys hbs' hX hq1 hyl hkc hcc hat ho hgr hg4 ?_
          have e1 := row_setCell H2.out 65 (.int .i64 (((bs'.length : Nat) : Int) + (q : Int)))
          rw [← Int.natCast_add, wrow_set_last _ _ _ _ (by rw [length_splice _ _ _ (by omega)]; exact hl)] at e1
          rw [← Int.natCast_add] at hg4 ⊢
          exact wr_more hl he (Chain.kept hg4 (NoBlock.of Hb.out (by decide)) cs _ Hc.out) (by omega) e1 (by omega)
    · have h0 : gk = 0 := by omega
      subst h0
      go_wp2
      go_end0
      have hm : m = n := by omega
      refine ⟨rfl, ?_, hgr⟩
      rw [hm, ← hn, List.take_length] at hwr
      exact hwr
end Go.Proofs.YtonokaelbpfjnaaGreatDoor.Fm
/- Numbers as bytes: plain arithmetic, without the program. -/
namespace Go.Proofs.YtonokaelbpfjnaaGreatDoor.Fm

/-- What bytes say, the lowest first. -/
def leV : List Int → Int
  | [] => 0
  | x :: r => x + 256 * leV r
/-- Bytes. -/
def Byt (xs : List Int) : Prop := ∀ x ∈ xs, 0 ≤ x ∧ x < 256
/-- The lowest k bytes of N, the lowest first. -/
def leB (N : Int) (k : Nat) : List Int := (List.range k).map fun j => N / 2 ^ (8 * j) % 256
theorem leB_length (N : Int) (k : Nat) : (leB N k).length = k := by simp [leB]

theorem Byt.tail {x : Int} {r : List Int} (h : Byt (x :: r)) : Byt r := fun y hy => h y (List.mem_cons_of_mem _ hy)
theorem Byt.take {xs : List Int} (h : Byt xs) (n : Nat) : Byt (xs.take n) := fun y hy => h y (List.mem_of_mem_take hy)
theorem Byt.drop {xs : List Int} (h : Byt xs) (n : Nat) : Byt (xs.drop n) := fun y hy => h y (List.mem_of_mem_drop hy)
theorem Byt.append {xs ys : List Int} (h : Byt xs) (k : Byt ys) : Byt (xs ++ ys) := fun y hy => (List.mem_append.1 hy).elim (h y) (k y)
theorem byt_leB (N : Int) (k : Nat) : Byt (leB N k) := by
  intro x hx
  simp only [leB, List.mem_map] at hx
  obtain ⟨j, _, rfl⟩ := hx
  omega

theorem pow_succ8 (n : Nat) : (2 : Int) ^ (8 * (n + 1)) = 256 * 2 ^ (8 * n) := by
  rw [show 8 * (n + 1) = 8 * n + 8 from by omega, Int.pow_add]
  omega

theorem leV_bound : ∀ (xs : List Int), Byt xs → 0 ≤ leV xs ∧ leV xs < 2 ^ (8 * xs.length)
  | [], _ => by simp [leV]
  | x :: r, h => by
    have ih := leV_bound r h.tail
    have hx := h x (List.mem_cons_self ..)
    rw [List.length_cons, pow_succ8]
    simp only [leV]
    omega

theorem leV_snoc : ∀ (xs : List Int) (y : Int), leV (xs ++ [y]) = leV xs + 2 ^ (8 * xs.length) * y
  | [], y => by simp [leV]
  | x :: r, y => by
    simp only [List.cons_append, leV, leV_snoc r y, List.length_cons, pow_succ8]
    rw [Int.mul_add, Int.mul_assoc]
    omega

theorem or_step (xs : List Int) (y : Int) (h : Byt xs) (hy : 0 ≤ y ∧ y < 256) (hl : xs.length < 8) :
    bits .or .u64 (leV xs) (IntKind.u64.wrap (y * 2 ^ (8 * xs.length))) = leV (xs ++ [y]) := by
  obtain ⟨h0, h1⟩ := leV_bound xs h
  obtain ⟨A, hA⟩ := Int.eq_ofNat_of_zero_le h0
  obtain ⟨Y, rfl⟩ := Int.eq_ofNat_of_zero_le hy.1
  have e2 : (2 : Int) ^ (8 * xs.length) = ((2 ^ (8 * xs.length) : Nat) : Int) := by simp
  have hP : 2 ^ (8 * xs.length) * 256 ≤ 18446744073709551616 := by
    have : 2 ^ (8 * xs.length) * 256 = 2 ^ (8 * xs.length + 8) := by rw [Nat.pow_add]
    rw [this]
    exact Nat.pow_le_pow_right (by omega) (show 8 * xs.length + 8 ≤ 64 by omega)
  have hY : Y < 256 := by omega
  have hAlt : A < 2 ^ (8 * xs.length) := by rw [hA, e2] at h1; omega
  have hm : 2 ^ (8 * xs.length) * Y < 18446744073709551616 := by
    have : 2 ^ (8 * xs.length) * Y ≤ 2 ^ (8 * xs.length) * 255 := Nat.mul_le_mul_left _ (by omega)
    omega
  rw [leV_snoc, hA, e2, IntKind.wrap_u64]
  generalize hPd : 2 ^ (8 * xs.length) = p at *
  have e3 : (Y : Int) * (p : Int) = ((p * Y : Nat) : Int) := by rw [Nat.mul_comm]; simp
  rw [e3, Int.emod_eq_of_lt (by omega) (by omega)]
  rw [u64_or _ _ (by omega) (by omega) (by omega) (by omega)]
  have e4 : p * Y + A = p * Y ||| A := by rw [← hPd]; exact Nat.two_pow_add_eq_or_of_lt (by rw [hPd]; exact hAlt) Y
  rw [Int.toNat_natCast, Int.toNat_natCast, Nat.or_comm, ← e4]
  simp
  omega

theorem leB_succ (N : Int) (k : Nat) : leB N (k + 1) = leB N k ++ [N / 2 ^ (8 * k) % 256] := by simp [leB, List.range_succ]

theorem leV_leB (N : Int) (h : 0 ≤ N) : ∀ k, leV (leB N k) = N % 2 ^ (8 * k)
  | 0 => by simp [leB, leV]
  | k + 1 => by
    rw [leB_succ, leV_snoc, leV_leB N h k, leB_length, pow_succ8]
    have hp : (0 : Int) < 2 ^ (8 * k) := Int.pow_pos (by omega)
    generalize (2 : Int) ^ (8 * k) = p at *
    have := Int.emod_add_mul_ediv N (256 * p)
    have e : N / (256 * p) = N / p / 256 := by rw [Int.mul_comm, Int.ediv_ediv_of_nonneg (by omega)]
    have h1 := Int.emod_add_mul_ediv N p
    have h2 := Int.emod_add_mul_ediv (N / p) 256
    have h3 : p * (N / p) = p * (N / p % 256) + p * 256 * (N / p / 256) := by
      have := congrArg (p * ·) h2
      simp only [Int.mul_add, ← Int.mul_assoc] at this
      omega
    rw [e] at this
    have h4 : 256 * p * (N / p / 256) = p * 256 * (N / p / 256) := by rw [Int.mul_comm 256 p]
    omega
end Go.Proofs.YtonokaelbpfjnaaGreatDoor.Fm
