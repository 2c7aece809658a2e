/- A disk of package disk in memory, and which steps keep it: plain lemmas. -/
import Derived.Test.YtaopcidkgcekdaaK0
import Derived.Test.YtaopcidkgcekdaaMap
import Derived.Maps.AppendAt
import Derived.Lib.SliceRun
namespace Go.Proofs.Ytaopcidkgcekdaa
open Go.RowKit Ap

/-- All blocks but those of S are as they were; there may be new ones. -/
structure Kept (w w' : World) (S : Nat → Prop) : Prop where
  os : w'.os = w.os
  tape : w'.tape = w.tape
  output : w'.output = w.output
  size : w.heap.size ≤ w'.heap.size
  block : ∀ i, i < w.heap.size → ¬ S i → w'.heap[i]? = w.heap[i]?
theorem Kept.of {w w' : World} {row : Option Nat} (h : w.grownBy w' row) {S : Nat → Prop} (hS : ∀ j, row = some j → j < w.heap.size → S j) : Kept w w' S :=
  ⟨h.os, h.tape, h.output, h.size, fun i hi hn => h.block i hi (fun e => hn (hS i e.symm hi))⟩
theorem Kept.new {w w' : World} (h : w.grownBy w' none) (S : Nat → Prop) : Kept w w' S := Kept.of h (fun _ e => by cases e)
theorem Kept.refl (w : World) (S : Nat → Prop) : Kept w w S := ⟨rfl, rfl, rfl, Nat.le_refl _, fun _ _ _ => rfl⟩
theorem Kept.trans {a b c : World} {S S' : Nat → Prop} (h : Kept a b S) (k : Kept b c S') (hS : ∀ i, i < a.heap.size → S' i → S i) : Kept a c S :=
  ⟨k.os.trans h.os, k.tape.trans h.tape, k.output.trans h.output, Nat.le_trans h.size k.size, fun i hi hn =>
    (k.block i (Nat.lt_of_lt_of_le hi h.size) (fun e => hn (hS i hi e))).trans (h.block i hi hn)⟩
theorem Kept.mono {a b : World} {S S' : Nat → Prop} (h : Kept a b S) (hS : ∀ i, i < a.heap.size → S i → S' i) : Kept a b S' :=
  ⟨h.os, h.tape, h.output, h.size, fun i hi hn => h.block i hi (fun e => hn (hS i hi e))⟩
theorem Kept.grown {a b : World} {S : Nat → Prop} (h : Kept a b S) (hS : ∀ i, i < a.heap.size → ¬ S i) : a.grownBy b none :=
  ⟨h.os, h.tape, h.output, h.size, fun i hi _ => h.block i hi (hS i hi)⟩
theorem Kept.at {a b : World} {S : Nat → Prop} (h : Kept a b S) {i : Nat} {o : Obj} (ho : a.heap[i]? = some o) (hS : ¬ S i) : b.heap[i]? = some o := (h.block i (row_lt ho) hS).trans ho

/-- A write that waits: its sector, the block of its bytes, these. -/
structure Wt where
  sec : Nat
  blk : Nat
  xs : List Nat
/-- Where a disk lies: its own block, its durable bytes', what waits, the map. -/
structure Dk where
  d : Nat
  db : Nat
  vw : Value
  mb : Nat
def Dk.own (k : Dk) (i : Nat) : Prop := i = k.d ∨ i = k.db ∨ k.vw.ownBlock = some i ∨ i = k.mb
def bsl (g size : Nat) : Value := .slice (some ⟨g, 0, none⟩) size size
def wcells (size : Nat) (W : List Wt) : List Value := W.flatMap fun x => [.int .i64 (x.sec : Int), bsl x.blk size]
theorem wcells_length (size : Nat) (W : List Wt) : (wcells size W).length = W.length * 2 := by
  induction W with
  | nil => rfl
  | cons x r ih => simp [wcells] at ih ⊢; omega
theorem wcells_snoc (size : Nat) (W : List Wt) (x : Wt) : wcells size (W ++ [x]) = wcells size W ++ [.int .i64 (x.sec : Int), bsl x.blk size] := by simp [wcells]
theorem wcells_get (size : Nat) (W : List Wt) (i : Nat) (x : Wt) (h : W[i]? = some x) : (wcells size W)[2 * i]? = some (.int .i64 (x.sec : Int)) ∧ (wcells size W)[2 * i + 1]? = some (bsl x.blk size) := by
  induction W generalizing i with
  | nil => simp at h
  | cons y r ih =>
    cases i with
    | zero => simp at h; subst h; simp [wcells]
    | succ i =>
      have := ih i (by simpa using h)
      have e : wcells size (y :: r) = .int .i64 (y.sec : Int) :: bsl y.blk size :: wcells size r := by simp [wcells]
      rw [e, show 2 * (i + 1) = 2 * i + 2 by omega, show 2 * i + 2 + 1 = (2 * i + 1) + 2 by omega]
      simpa using this
/-- What the map answers. -/
def newest (size : Nat) (W : List Wt) : Int → Option Value := W.foldl (fun f x => fun y => if y = (x.sec : Int) then some (bsl x.blk size) else f y) (fun _ => none)
theorem newest_snoc (size : Nat) (W : List Wt) (x : Wt) : newest size (W ++ [x]) = fun y => if y = (x.sec : Int) then some (bsl x.blk size) else newest size W y := by simp [newest]
/-- The last write of a sector that waits. -/
def lastOf (W : List Wt) (s : Nat) : Option Wt := W.foldl (fun r x => if s = x.sec then some x else r) none
theorem lastOf_snoc (W : List Wt) (x : Wt) (s : Nat) : lastOf (W ++ [x]) s = if s = x.sec then some x else lastOf W s := by simp [lastOf]
theorem snoc_ind {α : Type} {p : List α → Prop} (h0 : p []) (h1 : ∀ l x, p l → p (l ++ [x])) (l : List α) : p l := by
  have : ∀ r : List α, p r.reverse := fun r => by
    induction r with
    | nil => exact h0
    | cons x r ih => rw [List.reverse_cons]; exact h1 _ _ ih
  simpa using this l.reverse
theorem newest_last (size : Nat) (W : List Wt) (s : Nat) : newest size W (s : Int) = (lastOf W s).map (fun x => bsl x.blk size) := by
  induction W using snoc_ind with
  | h0 => rfl
  | h1 l x ih =>
    rw [newest_snoc, lastOf_snoc]
    by_cases h : s = x.sec
    · subst h; simp
    · rw [if_neg h]; show (if (s : Int) = (x.sec : Int) then _ else _) = _; rw [if_neg (by omega)]; exact ih
theorem lastOf_mem {W : List Wt} {s : Nat} {x : Wt} (h : lastOf W s = some x) : x ∈ W ∧ x.sec = s := by
  induction W using snoc_ind with
  | h0 => simp [lastOf] at h
  | h1 l y ih =>
    rw [lastOf_snoc] at h
    split at h
    · cases h; simp; symm; assumption
    · have := ih h; exact ⟨by simp [this.1], this.2⟩

structure Shape (n size : Nat) : Prop where
  s0 : 64 ≤ size
  s1 : size ≤ 4096
  n0 : 1 ≤ n
  n1 : n ≤ 65536
  all : n * size ≤ 67108864

/-- A disk of n sectors lies there: D its durable bytes, W what waits. -/
structure DiskAt (w : World) (k : Dk) (n size : Nat) (D : List Nat) (W : List Wt) : Prop where
  shape : Shape n size
  head : w.heap[k.d]? = some (.cells #[.bool true, .int .i64 (size : Int), .slice (some ⟨k.db, 0, none⟩) (n * size) (n * size), k.vw, .map (some k.mb)] 32 (0, 0))
  dur : w.heap[k.db]? = some (.cells (bv D).toArray 5 (0, 0))
  len : D.length = n * size
  row : w.ownsRow 0 71 2 k.vw W.length (wcells size W)
  map : MapAt w Try.prog 3 k.mb W.length (newest size W)
  waits : ∀ x ∈ W, x.sec < n ∧ x.xs.length = size ∧ x.blk ≠ k.db ∧ w.heap[x.blk]? = some (.cells (bv x.xs).toArray 5 (0, 0))
  few : W.length ≤ 1000000

theorem row_same {w w' : World} {e : TypeId} {size : Nat} {v : Value} {n : Nat} {xs : List Value} (h : w.ownsRow 0 e size v n xs) (hb : ∀ g, v.ownBlock = some g → w'.heap[g]? = w.heap[g]?) : w'.ownsRow 0 e size v n xs := by
  obtain ⟨h1, h⟩ := h
  refine ⟨h1, ?_⟩
  rcases h with h | ⟨g, cap, cur, rfl, h2, h3, h4⟩
  · exact Or.inl h
  · exact Or.inr ⟨g, cap, cur, rfl, h2, (hb g rfl).trans h3, h4⟩

/-- All that a disk reads lies in these blocks. -/
def foot (k : Dk) (W : List Wt) (i : Nat) : Prop := k.own i ∨ ∃ x ∈ W, x.blk = i
theorem DiskAt.lt {w : World} {k : Dk} {n size : Nat} {D : List Nat} {W : List Wt} (h : DiskAt w k n size D W) : ∀ i, foot k W i → i < w.heap.size := by
  rintro i ((rfl | rfl | hi | rfl) | ⟨x, hx, rfl⟩)
  · exact row_lt h.head
  · exact row_lt h.dur
  · exact (h.row.lt i hi).2
  · exact h.map.lt
  · exact row_lt (h.waits x hx).2.2.2
theorem DiskAt.same {w w' : World} {k : Dk} {n size : Nat} {D : List Nat} {W : List Wt} (h : DiskAt w k n size D W) (hb : ∀ i, foot k W i → w'.heap[i]? = w.heap[i]?) : DiskAt w' k n size D W := by
  refine ⟨h.shape, (hb _ (.inl (.inl rfl))).trans h.head, (hb _ (.inl (.inr (.inl rfl)))).trans h.dur, h.len, row_same h.row (fun g hg => hb _ (.inl (.inr (.inr (.inl hg))))), h.map.same (hb _ (.inl (.inr (.inr (.inr rfl))))), ?_, h.few⟩
  intro x hx
  obtain ⟨h1, h2, h3, h4⟩ := h.waits x hx
  exact ⟨h1, h2, h3, (hb _ (.inr ⟨x, hx, rfl⟩)).trans h4⟩
theorem DiskAt.kept {w w' : World} {k : Dk} {n size : Nat} {D : List Nat} {W : List Wt} {S : Nat → Prop} (h : DiskAt w k n size D W) (hk : Kept w w' S) (hS : ∀ i, foot k W i → ¬ S i) : DiskAt w' k n size D W :=
  h.same fun i hi => hk.block i (h.lt i hi) (hS i hi)
theorem DiskAt.grown {w w' : World} {k : Dk} {n size : Nat} {D : List Nat} {W : List Wt} (h : DiskAt w k n size D W) (hk : w.grownBy w' none) : DiskAt w' k n size D W :=
  h.same fun i hi => hk.block i (h.lt i hi) (by simp)

section
variable {w : World} {k : Dk} {n size : Nat} {D : List Nat} {W : List Wt}
theorem DiskAt.c0 (h : DiskAt w k n size D W) : w.cell? ⟨k.d, 0, none⟩ = some (.bool true) := by simp [World.cell?, h.head]
theorem DiskAt.c1 (h : DiskAt w k n size D W) : w.cell? ⟨k.d, 1, none⟩ = some (.int .i64 (size : Int)) := by simp [World.cell?, h.head]
theorem DiskAt.c2 (h : DiskAt w k n size D W) : w.cell? ⟨k.d, 2, none⟩ = some (.slice (some ⟨k.db, 0, none⟩) (n * size) (n * size)) := by simp [World.cell?, h.head]
theorem DiskAt.c3 (h : DiskAt w k n size D W) : w.cell? ⟨k.d, 3, none⟩ = some k.vw := by simp [World.cell?, h.head]
theorem DiskAt.c4 (h : DiskAt w k n size D W) : w.cell? ⟨k.d, 4, none⟩ = some (.map (some k.mb)) := by simp [World.cell?, h.head]
theorem DiskAt.free (h : DiskAt w k n size D W) (j : Nat) : w.frozen? ⟨k.d, j, none⟩ = false := free_row h.head j
/-- The waiting's value. -/
theorem DiskAt.vw_form (h : DiskAt w k n size D W) : ∃ ao cap, k.vw = .slice ao W.length cap ∧ (ao = none → W.length = 0) ∧ ∀ a, ao = some a → a = ⟨a.block, 0, none⟩ := by
  obtain ⟨h1, h⟩ := h.row
  rcases h with ⟨h, h0⟩ | ⟨g, cap, cur, h, h2, h3, h4⟩
  · exact ⟨none, 0, by rw [h, h0], fun _ => h0, fun a e => by cases e⟩
  · exact ⟨some ⟨g, 0, none⟩, cap, h, (fun e => by cases e), (fun a e => by cases e; rfl)⟩
theorem DiskAt.vw_ne (h : DiskAt w k n size D W) : k.vw.ownBlock ≠ some k.d ∧ k.vw.ownBlock ≠ some k.db ∧ k.vw.ownBlock ≠ some k.mb ∧ k.d ≠ k.db ∧ k.d ≠ k.mb ∧ k.db ≠ k.mb := by
  have hm := h.map.block
  obtain ⟨es, cl, hm⟩ := hm
  have e1 : k.d ≠ k.db := fun e => by have := h.head; rw [e, h.dur] at this; simp at this
  have e2 : k.d ≠ k.mb := fun e => by have := h.head; rw [e, hm] at this; simp at this
  have e3 : k.db ≠ k.mb := fun e => by have := h.dur; rw [e, hm] at this; simp at this
  obtain ⟨h1, hr⟩ := h.row
  rcases hr with ⟨hr, h0⟩ | ⟨g, cap, cur, hr, h2, h3, h4⟩
  · rw [hr]; simp [Value.ownBlock]; exact ⟨e1, e2, e3⟩
  · rw [hr]
    refine ⟨?_, ?_, ?_, e1, e2, e3⟩
    · intro e; cases e; rw [h.head] at h3; simp at h3
    · intro e; cases e; rw [h.dur] at h3; simp at h3
    · intro e; cases e; rw [hm] at h3; simp at h3
theorem DiskAt.blk_ne (h : DiskAt w k n size D W) {x : Wt} (hx : x ∈ W) : ¬ k.own x.blk := by
  obtain ⟨_, _, h3, h4⟩ := h.waits x hx
  obtain ⟨es, cl, hm⟩ := h.map.block
  rintro (e | e | e | e)
  · rw [e, h.head] at h4; simp at h4
  · exact h3 e
  · obtain ⟨h1, hr⟩ := h.row
    rcases hr with ⟨hr, h0⟩ | ⟨g, cap, cur, hr, h2, h3, _⟩
    · rw [hr] at e; simp [Value.ownBlock] at e
    · rw [hr] at e; simp only [Value.ownBlock, Option.some.injEq] at e; subst e; rw [h4] at h3; simp at h3
  · rw [e, hm] at h4; simp at h4
end

/-- copy as one step of a region that draws its order: the row behind it, and that no other block has turned. -/
theorem grown_setRow (w : World) (g : Nat) (cs : Array Value) : w.grownBy (w.setRow g cs) (some g) :=
  ⟨rfl, rfl, rfl, by simp [World.setRow], fun k _ hne => setRow_other w g k cs (by intro e; exact hne (by simp [e]))⟩
theorem Try.size5 : (Try.prog.info? 5).map (·.size) = some 1 := by kernel_rfl
/-- copy(dst, src), dst somewhere in a row of bytes, src bytes that lie elsewhere: its run. -/
theorem run_copy_any (w : World) (g off n cap : Nat) (co : Option Addr) (m d : Nat) (cur : List Nat) (zs : List Nat) (hcur : w.heap[g]? = some (.cells (bv cur).toArray 5 (0, 0))) (hz : zs.length = Nat.min m n) (hzn : off + zs.length ≤ cur.length)
    (hat : At w co zs) :
    ∃ W, (Builtin.copy_ #[22, 22] 3 #[.slice (some ⟨g, off, none⟩) n cap, .slice co m d]).run Try.prog w = .ok (goInt zs.length) W ∧ W.heap[g]? = some (.cells (bv (splice cur off zs)).toArray 5 (0, 0)) ∧ w.grownBy W (some g) := by
  have hsp : bv (splice cur off zs) = splice (bv cur) off (bv zs) := by simp [splice, bv, List.map_take, List.map_drop]
  by_cases h0 : zs.length = 0
  · have hzs : zs = [] := List.eq_nil_of_length_eq_zero h0
    subst hzs
    exact ⟨w, run_copy_none w 22 22 3 5 _ co n cap m d Try.underlying22 Try.size5 hz.symm, by simpa [splice, bv] using hcur, grown_refl _ _⟩
  · obtain ⟨a, rfl, _⟩ := hat 0 (zs[0]'(by omega)) (by simp)
    have hrun := run_copy_row (P := Try.prog) w 22 22 3 5 g off n cap a m d (bv cur).toArray 5 (bv zs) Try.underlying22 Try.size5 hcur (by rw [bv_length]; exact hz) ?_ (by rw [bv_length]; simpa [bv_length] using hzn) ?_
    · rw [bv_length] at hrun
      refine ⟨_, hrun, ?_, grown_setRow w g _⟩
      have := setRow_heap w g (bv cur).toArray (splice (bv cur) off (bv zs)).toArray 5 (0, 0) hcur
      rw [hsp]
      simpa [splice, bv_length] using this
    · intro j v hv
      rw [bv, List.getElem?_map] at hv
      cases hj : zs[j]? with
      | none => simp [hj] at hv
      | some y =>
        simp [hj] at hv
        obtain ⟨a', ea', hc'⟩ := hat j y hj
        cases ea'
        rw [← hv]; exact hc'
    · intro v hv
      rw [bv, List.mem_map] at hv
      obtain ⟨y, _, rfl⟩ := hv
      rfl
end Go.Proofs.Ytaopcidkgcekdaa
