/- What a Writer, a Reader and rows of bytes are in memory, and which steps keep them: plain lemmas, without the program. -/
import Derived.WalkKit
import Derived.WalkSpells
import Derived.WalkLawsBesides
import Derived.Laws.CopyOwn
import Derived.Deep.MidRow
namespace Go.Proofs.YtoflohjlmagjpaaDoor
open Go.RowKit

theorem hide {p : Prop} (h : p) : Hid p := h

/-- xs lies, byte by byte, where ao leads. -/
def At (w : World) (ao : Option Addr) (xs : List Int) : Prop := ∀ j u, xs[j]? = some u → ∃ a, ao = some a ∧ w.cell? (a.add j) = some (.int .u8 u)
/-- A slice's address behind '[n:]'. -/
def cutA (ao : Option Addr) (n cap : Nat) : Option Addr := if cap = n then ao else ao.map (fun x => x.add n)
/-- The slice does not lie in block g. -/
def Off (ao : Option Addr) (g : Nat) : Prop := ∀ a, ao = some a → a.block ≠ g

theorem Off.cut {ao : Option Addr} {g : Nat} (h : Off ao g) (n cap : Nat) : Off (cutA ao n cap) g := by
  intro a ha
  unfold cutA at ha
  split at ha
  · exact h a ha
  · cases ao with
    | none => simp at ha
    | some x =>
      simp at ha
      have := h x rfl
      rw [← ha]; unfold Addr.add; split <;> simp_all

theorem At.nil (w : World) (ao : Option Addr) : At w ao [] := fun j u h => by simp at h

theorem addr_add_block (a : Addr) (j : Nat) : (a.add j).block = a.block := by unfold Addr.add; split <;> rfl

theorem At.cut {w : World} {ao : Option Addr} {xs : List Int} (h : At w ao xs) (n cap : Nat) (hc : xs.length ≤ cap) : At w (cutA ao n cap) (xs.drop n) := by
  intro j u hu
  rw [List.getElem?_drop] at hu
  obtain ⟨a, ha, hcell⟩ := h _ _ hu
  unfold cutA
  split
  · rename_i e
    have := (List.getElem?_eq_some_iff.1 hu).1
    omega
  · refine ⟨a.add n, by simp [ha], ?_⟩
    rw [Addr.add_add]; exact hcell

theorem At.take {w : World} {ao : Option Addr} {xs : List Int} (h : At w ao xs) (n : Nat) : At w ao (xs.take n) := by
  intro j u hu
  rw [List.getElem?_take] at hu
  split at hu
  · exact h j u hu
  · cases hu

theorem At.kept {w w' : World} {ao : Option Addr} {xs : List Int} {row : Option Nat} (h : At w ao xs) (hg : w.grownBy w' row) (hr : ∀ a, ao = some a → some a.block ≠ row) : At w' ao xs := by
  intro j u hu
  obtain ⟨a, ha, hcell⟩ := h j u hu
  exact ⟨a, ha, hg.cell hcell (by rw [addr_add_block]; exact hr a ha)⟩

theorem Off.ne {ao : Option Addr} {g : Nat} (h : Off ao g) : ∀ a, ao = some a → some a.block ≠ some g := fun a ha e => h a ha (by simpa using e)

/-- Two steps, one behind the other. -/
theorem grown_then {a b c : World} {row row' : Option Nat} (h : a.grownBy b row) (k : b.grownBy c row') (hr : ∀ j, row' = some j → a.heap.size ≤ j ∨ row = some j) : a.grownBy c row :=
  ⟨k.os.trans h.os, k.tape.trans h.tape, k.output.trans h.output, Nat.le_trans h.size k.size, fun i hi hne =>
    (k.block i (Nat.lt_of_lt_of_le hi h.size) (fun e => by
      rcases hr i e.symm with h1 | h1
      · omega
      · exact hne h1.symm)).trans (h.block i hi hne)⟩
theorem grown_trans {a b c : World} {row : Option Nat} (h : a.grownBy b row) (k : b.grownBy c row) : a.grownBy c row := grown_then h k (fun _ e => Or.inr e)
theorem grown_refl (w : World) (row : Option Nat) : w.grownBy w row := ⟨rfl, rfl, rfl, Nat.le_refl _, fun _ _ _ => rfl⟩
theorem grown_drew (w : World) (row : Option Nat) : w.grownBy w.drew row := ⟨rfl, rfl, rfl, Nat.le_refl _, fun _ _ _ => rfl⟩
theorem grown_none {a b : World} (h : a.grownBy b none) (row : Option Nat) : a.grownBy b row := grown_then (grown_refl a row) h (fun _ e => by cases e)
theorem grown_setCell (w : World) (g j : Nat) (u : Value) : w.grownBy (w.setCell ⟨g, j, none⟩ u) (some g) :=
  ⟨rfl, rfl, rfl, by simp [World.setCell], fun k _ hne => Below.heap_setCell _ _ _ _ (by intro e; exact hne (by simp [e]))⟩
theorem grown_setRow (w : World) (g : Nat) (cs : Array Value) : w.grownBy (w.setRow g cs) (some g) :=
  ⟨rfl, rfl, rfl, by simp [World.setRow], fun k _ hne => setRow_other w g k cs (by intro e; exact hne (by simp [e]))⟩

/-- copy as one step of a region that draws its order: the row behind it, and that no other block has turned. -/
theorem step_copy_grown {P : Program} {ops : Array Oper} {o : Oper} {a : Act} {w : World} {K : Act → World → Prop} {Q : Exit → Act → World → Prop} {E : Prop} (hgd : o.guard = none) (d s : Operand) (dT sT : TypeId)
    (ho : o.op = .call { callee := .builtin .copy, args := #[d, s], argTypes := #[dT, sT] }) (elem : TypeId) (hu : P.underlying dT = some (.slice elem)) (hsz : (P.info? elem).map (·.size) = some 1)
    (dp sp : Option Addr) (dLen dCap sLen sCap : Nat) (hd : a.eval d = .slice dp dLen dCap) (hs : a.eval s = .slice sp sLen sCap)
    (g off : Nat) (cur : List Value) (t : TypeId) (hg : w.heap[g]? = some (.cells cur.toArray t (0, 0))) (cs : List Value) (hn : cs.length = Nat.min sLen dLen)
    (hpos : 0 < cs.length → dp = some ⟨g, off, none⟩ ∧ ∃ ad, sp = some ad ∧ ∀ j v, cs[j]? = some v → w.cell? (ad.add j) = some v)
    (hfit : off + cs.length ≤ cur.length) (h1 : ∀ v ∈ cs, v.oneCell' = true)
    (h : ∀ w', Hid (w'.heap[g]? = some (.cells (splice cur off cs).toArray t (0, 0))) → w.grownBy w' (some g) → K (a.put o.dst (goInt cs.length)) w') :
    if Region.wanted o (yielded ops a.tmps) = true then Oper.wp P o a w K Q else E := by
  have hw : Region.wanted o (yielded ops a.tmps) = true := by simp [Region.wanted, hgd]
  rw [if_pos hw]
  by_cases h0 : cs.length = 0
  · obtain rfl : cs = [] := List.eq_nil_of_length_eq_zero h0
    have hrun := run_copy_none (P := P) w dT sT o.type elem dp sp dLen dCap sLen sCap hu hsz (by simpa using hn.symm)
    unfold Oper.wp
    simp [execOp, ho, resolve, invoke, builtin, hd, hs, hrun, Result.andThen]
    exact h w (show _ = _ by simpa [splice] using hg) (grown_refl w _)
  · obtain ⟨rfl, ad, rfl, hsrc⟩ := hpos (by omega)
    have hrun := run_copy_row (P := P) w dT sT o.type elem g off dLen dCap ad sLen sCap cur.toArray t cs hu hsz hg hn hsrc (by simpa using hfit) h1
    unfold Oper.wp
    simp [execOp, ho, resolve, invoke, builtin, hd, hs, hrun, Result.andThen]
    exact h _ (show _ = _ by simpa [splice] using setRow_heap w g _ _ t _ hg) (grown_setRow w g _)

/-- What lies in n cells from offset o of block b on; that they are there; an address' block and offset. -/
def rangeOf (w : World) (b o n : Nat) : List Value := (List.range n).map fun j => (w.cell? ⟨b, o + j, none⟩).getD undef
def rangeOk (w : World) (b o n : Nat) : Prop := ∀ j, j < n → (w.cell? ⟨b, o + j, none⟩).isSome = true
def blkOf : Value → Nat | .pointer (some a) => a.block | _ => 0
def offOf : Value → Nat | .pointer (some a) => a.off | _ => 0
def isPtr : Value → Bool | .pointer (some ⟨_, _, none⟩) => true | _ => false
theorem blkOf_ptr (b o : Nat) : blkOf (.pointer (some ⟨b, o, none⟩)) = b := rfl
theorem offOf_ptr (b o : Nat) : offOf (.pointer (some ⟨b, o, none⟩)) = o := rfl
theorem isPtr_ptr (b o : Nat) : isPtr (.pointer (some ⟨b, o, none⟩)) = true := rfl
theorem ptr_of {v : Value} (h : isPtr v = true) : v = .pointer (some ⟨blkOf v, offOf v, none⟩) := by
  unfold isPtr at h; split at h
  · rfl
  · cases h
theorem rangeOk.at {w : World} {b o n : Nat} (h : rangeOk w b o n) : w.rangeAt b o (rangeOf w b o n) := by
  intro j v hv
  unfold rangeOf at hv
  rw [List.getElem?_map] at hv
  cases hj : (List.range n)[j]? with
  | none => simp [hj] at hv
  | some k =>
    have hk := List.getElem?_eq_some_iff.1 hj
    obtain ⟨hlt, he⟩ := hk
    simp at he hlt
    subst he
    simp [hj] at hv
    have := h j hlt
    cases hc : w.cell? ⟨b, o + j, none⟩ with
    | none => simp [hc] at this
    | some x => simp [hc] at hv; rw [hv]
theorem rangeOf_length (w : World) (b o n : Nat) : (rangeOf w b o n).length = n := by simp [rangeOf]
theorem rangeOf_eq {w : World} {b o n : Nat} {l : List Value} (h : w.rangeAt b o l) (hl : l.length = n) : rangeOf w b o n = l := by
  apply List.ext_getElem?
  intro j
  unfold rangeOf
  rw [List.getElem?_map]
  by_cases hj : j < n
  · have hjl : j < l.length := by omega
    rw [List.getElem?_eq_getElem hjl, List.getElem?_range hj]
    simp [h j _ (List.getElem?_eq_getElem hjl)]
  · rw [List.getElem?_eq_none (by simp; omega), List.getElem?_eq_none (by omega)]; rfl
theorem rangeOk_of {w : World} {b o n : Nat} {l : List Value} (h : w.rangeAt b o l) (hl : l.length = n) : rangeOk w b o n := by
  intro j hj
  have hjl : j < l.length := by omega
  rw [h j _ (List.getElem?_eq_getElem hjl)]; rfl
/-- A load of a long array, as an equation. -/
theorem wp_load_range {P : Program} {op : Oper} {a : Act} {w : World} {K : Act → World → Prop} {Q : Exit → Act → World → Prop} (ty : TypeId) (x : Operand) (ho : op.op = .load ty x) (d : TypeDesc) (n : Nat)
    (hu : P.underlying ty = some d) (hd : d.isRow = true) (hi : (P.info? ty).map (·.size) = some n) (hx : isPtr (a.eval x) = true) (hr : rangeOk w (blkOf (a.eval x)) (offOf (a.eval x)) n) :
    op.wp P a w K Q = K (a.put op.dst (.agg (rangeOf w (blkOf (a.eval x)) (offOf (a.eval x)) n).toArray)) w := by
  unfold Oper.wp execOp
  rw [ho]
  have hp := ptr_of hx
  have hl := run_loadVar_mid (P := P) w (blkOf (a.eval x)) (offOf (a.eval x)) ty _ d hr.at hu hd (by rw [rangeOf_length]; exact hi)
  simp only [Instr.loadAt]
  rw [hp]
  simp only [Instr.sureAddr, Sem.run_bind, Sem.run_pure, Result.andThen_ok, blkOf_ptr, offOf_ptr, hl]
  rfl

/-- The cells of a Writer: what is sealed, the open bytes, the length. -/
def wrow (v : Value) (op : List Int) (L : Nat) : List Value := v :: (op.map (Value.int .u8) ++ [.int .i64 (L : Int)])
theorem wrow_length (v : Value) (op : List Int) (L : Nat) : (wrow v op L).length = op.length + 2 := by simp [wrow]
theorem wrow_zero (v : Value) (op : List Int) (L : Nat) : (wrow v op L)[0]? = some v := rfl
theorem wrow_last (v : Value) (op : List Int) (L : Nat) (h : op.length = 64) : (wrow v op L)[65]? = some (.int .i64 (L : Int)) := by
  simp [wrow, h]
theorem wrow_open (v : Value) (op : List Int) (L j : Nat) (h : j < op.length) : (wrow v op L)[1 + j]? = some (.int .u8 op[j]) := by
  rw [Nat.add_comm]; simp [wrow, List.getElem?_append, h]
theorem wrow_set_last (v : Value) (op : List Int) (L M : Nat) (h : op.length = 64) : (wrow v op L).set 65 (.int .i64 (M : Int)) = wrow v op M := by
  simp [wrow, h]
theorem wrow_set_zero (v v' : Value) (op : List Int) (L : Nat) : (wrow v op L).set 0 v' = wrow v' op L := rfl
theorem wrow_splice (v : Value) (op xs : List Int) (L r : Nat) (h : r + xs.length ≤ op.length) : splice (wrow v op L) (1 + r) (xs.map (Value.int .u8)) = wrow v (splice op r xs) L := by
  have e0 : 1 + r = r + 1 := by omega
  have e : r + 1 + xs.length = (r + xs.length) + 1 := by omega
  have h2 : r + xs.length - op.length = 0 := by omega
  have h3 : r - op.length = 0 := by omega
  simp only [splice, wrow, List.length_map, e0, e]
  simp [List.take_append, List.drop_append, h2, h3]

theorem cell_row {w : World} {g : Nat} {l : List Value} {t : TypeId} {fr : Nat × Nat} (h : w.heap[g]? = some (.cells l.toArray t fr)) (j : Nat) : w.cell? ⟨g, j, none⟩ = l[j]? := by
  rw [cell_of_row w g j l.toArray t fr h]; simp
theorem free_row {w : World} {g : Nat} {c : Array Value} {t : TypeId} (h : w.heap[g]? = some (.cells c t (0, 0))) (j : Nat) : w.frozen? ⟨g, j, none⟩ = false := by
  simp [World.frozen?, h]
theorem row_setCell {w : World} {g : Nat} {l : List Value} {t : TypeId} {fr : Nat × Nat} (h : w.heap[g]? = some (.cells l.toArray t fr)) (j : Nat) (u : Value) : (w.setCell ⟨g, j, none⟩ u).heap[g]? = some (.cells (l.set j u).toArray t fr) := by
  simp [World.setCell, Array.getElem?_modify, h]
theorem row_lt {w : World} {g : Nat} {o : Obj} (h : w.heap[g]? = some o) : g < w.heap.size := (Array.getElem?_eq_some_iff.1 h).1

theorem fold_set (l : List Value) : ∀ (k : Nat) (A : Array Value), 1 + k + l.length ≤ A.size →
    (List.foldl (fun (cs : Array Value) (x : Value × Nat) => cs.setIfInBounds (1 + x.snd) x.fst) A (l.zipIdx k)).toList = A.toList.take (1 + k) ++ l ++ A.toList.drop (1 + k + l.length) := by
  induction l with
  | nil => intro k A _; simp
  | cons y l ih =>
    intro k A h
    simp only [List.length_cons] at h
    rw [List.zipIdx_cons, List.foldl_cons, ih (k + 1) _ (by simp; omega)]
    have hk : 1 + k < A.toList.length := by simp; omega
    have e1 : (A.setIfInBounds (1 + k) y).toList = A.toList.set (1 + k) y := by simp
    have e2 : 1 + (k + 1) = 1 + k + 1 := by omega
    have e3 : 1 + k + 1 + l.length = 1 + k + (l.length + 1) := by omega
    rw [e1, e2, List.take_succ_eq_append_getElem (by simpa using hk), List.length_cons, e3]
    simp [List.take_set_of_le, List.drop_set]

theorem fold_block (z : Array Value) (p : Value) (l : List Value) (hz : z.size = 65) (hl : l.length = 64) :
    List.foldl (fun (cs : Array Value) (x : Value × Nat) => cs.setIfInBounds (1 + x.snd) x.fst) (z.setIfInBounds 0 p) l.zipIdx = (p :: l).toArray := by
  apply Array.ext'
  rw [show l.zipIdx = l.zipIdx 0 from rfl, fold_set l 0 _ (by simp; omega)]
  have h1 : z.toList.length = 65 := by simpa using hz
  obtain ⟨a, t, ht⟩ : ∃ a t, z.toList = a :: t := by
    cases h : z.toList with
    | nil => rw [h] at h1; cases h1
    | cons a t => exact ⟨a, t, rfl⟩
  have ht2 : t.length = 64 := by rw [ht] at h1; simpa using h1
  have e1 : (z.setIfInBounds 0 p).toList = p :: t := by simp [ht]
  rw [e1, hl]
  simp [ht2]

/-- The sealed blocks, the newest first. -/
def Chain (w : World) : Value → List (List Int) → Prop
  | v, [] => v = .pointer none
  | v, c :: cs => ∃ g v', v = .pointer (some ⟨g, 0, none⟩) ∧ w.heap[g]? = some (.cells (v' :: c.map (Value.int .u8)).toArray 94 (0, 0)) ∧ c.length = 64 ∧ Chain w v' cs

/-- The row that may be written is no sealed block. -/
def NoBlock (w : World) (row : Option Nat) : Prop := ∀ k c fr, row = some k → w.heap[k]? ≠ some (.cells c 94 fr)

theorem Chain.kept {w w' : World} {row : Option Nat} (hg : w.grownBy w' row) (hr : NoBlock w row) : ∀ (cs : List (List Int)) (v : Value), Chain w v cs → Chain w' v cs
  | [], _, h => h
  | _ :: cs, _, ⟨g, v', hv, hb, hl, hc⟩ => ⟨g, v', hv, (hg.block g (row_lt hb) (fun e => hr g _ _ e.symm hb)).trans hb, hl, Chain.kept hg hr cs v' hc⟩

theorem Chain.ptr {w : World} {v : Value} {cs : List (List Int)} (h : Chain w v cs) : ∃ u, v = .pointer u := by
  cases cs with
  | nil => exact ⟨_, h⟩
  | cons c cs => obtain ⟨g, v', hv, _⟩ := h; exact ⟨_, hv⟩

theorem NoBlock.none (w : World) : NoBlock w none := fun _ _ _ e => by cases e
theorem NoBlock.of {w : World} {g : Nat} {c : Array Value} {t : TypeId} {fr : Nat × Nat} (h : w.heap[g]? = some (.cells c t fr)) (ht : t ≠ 94) : NoBlock w (some g) := by
  intro k c' fr' e h'
  cases e
  rw [h] at h'
  simp at h'
  exact ht h'.2.1

/-- The Writer at the head of block g holds the bytes bs. -/
def WrAt (w : World) (g : Nat) (bs : List Int) : Prop :=
  ∃ v cs op, w.heap[g]? = some (.cells (wrow v op bs.length).toArray 46 (0, 0)) ∧ op.length = 64 ∧ Chain w v cs ∧ bs = cs.reverse.flatten ++ op.take (bs.length % 64)

theorem WrAt.kept {w w' : World} {g : Nat} {bs : List Int} {row : Option Nat} (h : WrAt w g bs) (hg : w.grownBy w' row) (hne : row ≠ some g) (hr : NoBlock w row) : WrAt w' g bs := by
  obtain ⟨v, cs, op, hb, hl, hc, he⟩ := h
  exact ⟨v, cs, op, (hg.block g (row_lt hb) (fun e => hne e.symm)).trans hb, hl, Chain.kept hg hr cs v hc, he⟩
theorem WrAt.lt {w : World} {g : Nat} {bs : List Int} (h : WrAt w g bs) : g < w.heap.size := by obtain ⟨v, cs, op, hb, _⟩ := h; exact row_lt hb
theorem WrAt.noBlock {w : World} {g : Nat} {bs : List Int} (h : WrAt w g bs) : NoBlock w (some g) := by obtain ⟨v, cs, op, hb, _⟩ := h; exact NoBlock.of hb (by decide)

theorem take_splice {α : Type} (op X : List α) (r : Nat) (h : r + X.length ≤ op.length) : (splice op r X).take (r + X.length) = op.take r ++ X := by
  have hr : (op.take r).length = r := by simp; omega
  rw [splice, ← List.append_assoc, List.take_append_of_le_length (by simp; omega)]
  exact List.take_of_length_le (by simp; omega)

/-- A round that leaves the open block open. -/
theorem wr_more {w' : World} {g M : Nat} {bs X op : List Int} {v : Value} {cs : List (List Int)} (hl : op.length = 64) (he : bs = cs.reverse.flatten ++ op.take (bs.length % 64)) (hc : Chain w' v cs)
    (hlt : bs.length % 64 + X.length < 64) (hb : w'.heap[g]? = some (.cells (wrow v (splice op (bs.length % 64) X) M).toArray 46 (0, 0))) (hM : M = bs.length + X.length) : WrAt w' g (bs ++ X) := by
  subst hM
  refine ⟨v, cs, splice op (bs.length % 64) X, by simpa using hb, by rw [length_splice _ _ _ (by omega)]; exact hl, hc, ?_⟩
  have e : (bs ++ X).length % 64 = bs.length % 64 + X.length := by simp; omega
  rw [e, take_splice _ _ _ (by omega), ← List.append_assoc, ← he]

/-- A round that seals it. -/
theorem wr_seal {w' : World} {g h M : Nat} {bs X op : List Int} {v : Value} {cs : List (List Int)} (hl : op.length = 64) (he : bs = cs.reverse.flatten ++ op.take (bs.length % 64)) (hc : Chain w' v cs)
    (hlt : bs.length % 64 + X.length = 64) (hb : w'.heap[g]? = some (.cells (wrow (.pointer (some ⟨h, 0, none⟩)) (splice op (bs.length % 64) X) M).toArray 46 (0, 0)))
    (hs : w'.heap[h]? = some (.cells (v :: (splice op (bs.length % 64) X).map (Value.int .u8)).toArray 94 (0, 0))) (hM : M = bs.length + X.length) : WrAt w' g (bs ++ X) := by
  subst hM
  have hl' : (splice op (bs.length % 64) X).length = 64 := by rw [length_splice _ _ _ (by omega)]; exact hl
  refine ⟨_, splice op (bs.length % 64) X :: cs, splice op (bs.length % 64) X, by simpa using hb, hl', ⟨h, v, rfl, hs, hl', hc⟩, ?_⟩
  have e : (bs ++ X).length % 64 = 0 := by simp; omega
  have e2 : splice op (bs.length % 64) X = op.take (bs.length % 64) ++ X := by
    rw [← take_splice _ _ _ (by omega)]
    exact (List.take_of_length_le (by rw [hl']; omega)).symm
  rw [e, e2]
  simp only [List.reverse_cons, List.flatten_append, List.flatten_cons, List.flatten_nil, List.take_zero, List.append_nil]
  rw [← List.append_assoc, ← he]

/-- A round's end: what is still to be put, what has been. -/
theorem round_end {w wr w4 : World} {g n m gk q cap cap' : Nat} {ao' : Option Addr} {xs ys bs bs' X : List Int} (hkm : gk + m = n) (hys : ys = xs.drop m) (hbs' : bs' = bs ++ xs.take m) (hX : X = ys.take q) (hq1 : q ≤ gk)
    (hyl : ys.length = gk) (hkc : gk ≤ cap') (hcc : cap' ≤ cap) (hat : At wr ao' ys) (ho : Off ao' g) (hgr : w.grownBy wr (some g)) (hg4 : wr.grownBy w4 (some g)) (hwr : WrAt w4 g (bs' ++ X)) :
    ∃ m' ao1 cap1, gk - q + m' = n ∧ Value.slice (cutA ao' q cap') (gk - q) (cap' - q) = Value.slice ao1 (gk - q) cap1 ∧ gk - q ≤ cap1 ∧ cap1 ≤ cap ∧ Off ao1 g ∧ At w4 ao1 (xs.drop m') ∧ WrAt w4 g (bs ++ xs.take m') ∧ w.grownBy w4 (some g) := by
  refine ⟨m + q, cutA ao' q cap', cap' - q, by omega, rfl, by omega, by omega, ho.cut q cap', ?_, ?_, grown_trans hgr hg4⟩
  · have h1 := (hat.kept hg4 ho.ne).cut q cap' (by omega)
    rw [hys, List.drop_drop] at h1
    exact h1
  · rw [hbs', hX, hys] at hwr
    rw [List.take_add, ← List.append_assoc]
    exact hwr

/-- The world behind a sealing: the new block lies there, the Writer leads to it. -/
theorem seal_world {w3 : World} {g s : Nat} {u : Option Addr} {op : List Int} {L : Nat} {F : Array Value} (h3 : w3.heap[g]? = some (.cells (wrow (.pointer u) op L).toArray 46 (0, 0))) (hs : w3.heap.size = s)
    (hF : F = (.pointer u :: op.map (Value.int .u8)).toArray) :
    (((w3.alloc (.cells F 94)).setCell ⟨g, 0, none⟩ (.pointer (some ⟨s, 0, none⟩))).drew).heap[g]? = some (.cells (wrow (.pointer (some ⟨s, 0, none⟩)) op L).toArray 46 (0, 0)) ∧
    (((w3.alloc (.cells F 94)).setCell ⟨g, 0, none⟩ (.pointer (some ⟨s, 0, none⟩))).drew).heap[s]? = some (.cells (.pointer u :: op.map (Value.int .u8)).toArray 94 (0, 0)) ∧
    w3.grownBy (((w3.alloc (.cells F 94)).setCell ⟨g, 0, none⟩ (.pointer (some ⟨s, 0, none⟩))).drew) (some g) := by
  have hlt := row_lt h3
  have h4 : (w3.alloc (.cells F 94)).heap[g]? = some (.cells (wrow (.pointer u) op L).toArray 46 (0, 0)) := (Below.heap_alloc _ _ _ hlt).trans h3
  refine ⟨?_, ?_, ?_⟩
  · have := row_setCell h4 0 (.pointer (some ⟨s, 0, none⟩))
    rw [wrow_set_zero] at this
    exact this
  · show ((w3.alloc (.cells F 94)).setCell ⟨g, 0, none⟩ (.pointer (some ⟨s, 0, none⟩))).heap[s]? = _
    rw [Below.heap_setCell _ _ _ _ (by simp; omega), ← hs, ← hF]
    exact heap_alloc_new w3 _
  · exact grown_trans (grown_trans (World.grownBy_alloc w3 _ _) (grown_setCell _ g 0 _)) (grown_drew _ _)

end Go.Proofs.YtoflohjlmagjpaaDoor
