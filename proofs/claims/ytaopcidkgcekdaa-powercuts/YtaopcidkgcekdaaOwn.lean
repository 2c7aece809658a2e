/- A disk that the call itself has made: its contracts once more. -/
import Derived.Test.YtaopcidkgcekdaaSec
import Derived.Deep.AppendLies
namespace Go.Proofs.Ytaopcidkgcekdaa
open Go.RowKit Ap

/-- A disk, all of whose blocks are new since w0; no elder block has turned. -/
structure DkS (w0 w : World) (k : Dk) (n size : Nat) (D : List Nat) (W : List Wt) : Prop where
  disk : DiskAt w k n size D W
  own : ∀ i, k.own i → w0.heap.size ≤ i
  grown : w0.grownBy w none

section
variable {w0 w : World} {k : Dk} {n size : Nat} {D : List Nat} {W : List Wt}
theorem DkS.then (h : DkS w0 w k n size D W) {w' : World} (hg : w.grownBy w' none) : DkS w0 w' k n size D W := ⟨h.disk.grown hg, h.own, grown_trans h.grown hg⟩
theorem DkS.of (h : DiskAt w k n size D W) (ho : ∀ i, k.own i → w0.heap.size ≤ i) (hg : w0.grownBy w none) : DkS w0 w k n size D W := ⟨h, ho, hg⟩
theorem kept_new (h : w0.grownBy w none) {w' : World} {S : Nat → Prop} (hk : Kept w w' S) (hS : ∀ i, S i → w0.heap.size ≤ i) : w0.grownBy w' none :=
  ((Kept.new h S).trans hk (fun _ _ e => e)).grown (fun i hi e => by have := hS i e; omega)
theorem DkS.wrote (h : DkS w0 w k n size D W) {w' : World} {k' : Dk} {s : Nat} {xs : List Nat} (hw : Wrote w w' k k' n size D W s xs) : DkS w0 w' k' n size D (W ++ [⟨s, w.heap.size, xs⟩]) := by
  refine ⟨hw.disk, ?_, kept_new h.grown hw.kept ?_⟩
  · rintro i (e | e | e | e)
    · rw [hw.d] at e; exact h.own i (.inl e)
    · rw [hw.db] at e; exact h.own i (.inr (.inl e))
    · rcases hw.vw i e with e | e
      · exact h.own i (.inr (.inr (.inl e)))
      · exact Nat.le_trans h.grown.size e
    · rw [hw.mb] at e; exact h.own i (.inr (.inr (.inr e)))
  · rintro i (e | e | e)
    · exact h.own i (.inl e)
    · exact h.own i (.inr (.inr (.inl e)))
    · exact h.own i (.inr (.inr (.inr e)))
theorem DkS.calm (h : DkS w0 w k n size D W) {w' : World} {D' : List Nat} (hd : DiskAt w' k.calm n size D' []) (hk : Kept w w' (fun i => i = k.d ∨ i = k.db ∨ i = k.mb)) : DkS w0 w' k.calm n size D' [] := by
  refine ⟨hd, ?_, kept_new h.grown hk ?_⟩
  · rintro i (e | e | e | e)
    · exact h.own i (.inl e)
    · exact h.own i (.inr (.inl e))
    · simp [Dk.calm, Value.ownBlock] at e
    · exact h.own i (.inr (.inr (.inr e)))
  · rintro i (e | e | e)
    · exact h.own i (.inl e)
    · exact h.own i (.inr (.inl e))
    · exact h.own i (.inr (.inr (.inr e)))
/-- A row of bytes is no block of the disk's but its durable one. -/
theorem DiskAt.bytes_off (h : DiskAt w k n size D W) {A : Nat} {c : Array Value} {fr : Nat × Nat} (hA : w.heap[A]? = some (.cells c 5 fr)) (hne : A ≠ k.db) : ¬ k.own A := by
  obtain ⟨es, cl, hm⟩ := h.map.block
  rintro (e | e | e | e)
  · rw [e, h.head] at hA; simp at hA
  · exact hne e
  · rcases h.row.2 with ⟨hr, h0⟩ | ⟨g, cap, cur, hr, h2, h3, _⟩
    · rw [hr] at e; simp [Value.ownBlock] at e
    · rw [hr] at e; simp only [Value.ownBlock, Option.some.injEq] at e; subst e; rw [hA] at h3; simp at h3
  · rw [e, hm] at hA; simp at hA
theorem Wrote.bytes {w' : World} {k' : Dk} {s : Nat} {xs : List Nat} (hw : Wrote w w' k k' n size D W s xs) (h : DiskAt w k n size D W) {A : Nat} {c : Array Value} {fr : Nat × Nat} (hA : w.heap[A]? = some (.cells c 5 fr)) : w'.heap[A]? = some (.cells c 5 fr) := by
  obtain ⟨e1, e2, e3, e4, e5, e6⟩ := h.vw_ne
  refine hw.kept.at hA ?_
  by_cases hd : A = k.db
  · subst hd
    rintro (e | e | e)
    · exact e4 e.symm
    · exact e2 e
    · exact e6 e
  · have := h.bytes_off hA hd
    rintro (e | e | e)
    · exact this (.inl e)
    · exact this (.inr (.inr (.inl e)))
    · exact this (.inr (.inr (.inr e)))
theorem calm_bytes {w' : World} (h : DiskAt w k n size D W) (hk : Kept w w' (fun i => i = k.d ∨ i = k.db ∨ i = k.mb)) {A : Nat} {c : Array Value} {fr : Nat × Nat} (hA : w.heap[A]? = some (.cells c 5 fr)) (hd : A ≠ k.db) : w'.heap[A]? = some (.cells c 5 fr) := by
  have := h.bytes_off hA hd
  refine hk.at hA ?_
  rintro (e | e | e)
  · exact this (.inl e)
  · exact this (.inr (.inl e))
  · exact this (.inr (.inr (.inr e)))
/-- Cells of another type are none of the disk's. -/
theorem DiskAt.other_off (h : DiskAt w k n size D W) {A : Nat} {c : Array Value} {t : TypeId} {fr : Nat × Nat} (hA : w.heap[A]? = some (.cells c t fr)) (h1 : t ≠ 32) (h2 : t ≠ 5) (h3 : t ≠ 71) : ¬ k.own A := by
  obtain ⟨es, cl, hm⟩ := h.map.block
  rintro (e | e | e | e)
  · rw [e, h.head] at hA; simp at hA; exact h1 hA.2.1.symm
  · rw [e, h.dur] at hA; simp at hA; exact h2 hA.2.1.symm
  · rcases h.row.2 with ⟨hr, h0⟩ | ⟨g, cap, cur, hr, _, h4, _⟩
    · rw [hr] at e; simp [Value.ownBlock] at e
    · rw [hr] at e; simp only [Value.ownBlock, Option.some.injEq] at e; subst e; rw [hA] at h4; simp at h4; exact h3 h4.2.1
  · rw [e, hm] at hA; simp at hA
theorem Wrote.other {w' : World} {k' : Dk} {s : Nat} {xs : List Nat} (hw : Wrote w w' k k' n size D W s xs) {A : Nat} {o : Obj} (hA : w.heap[A]? = some o) (hn : ¬ k.own A) : w'.heap[A]? = some o := by
  refine hw.kept.at hA ?_
  rintro (e | e | e)
  · exact hn (.inl e)
  · exact hn (.inr (.inr (.inl e)))
  · exact hn (.inr (.inr (.inr e)))
theorem calm_other {w' : World} (hk : Kept w w' (fun i => i = k.d ∨ i = k.db ∨ i = k.mb)) {A : Nat} {o : Obj} (hA : w.heap[A]? = some o) (hn : ¬ k.own A) : w'.heap[A]? = some o := by
  refine hk.at hA ?_
  rintro (e | e | e)
  · exact hn (.inl e)
  · exact hn (.inr (.inl e))
  · exact hn (.inr (.inr (.inr e)))
/-- Another block, new since w0, has been written. -/
theorem DkS.row (h : DkS w0 w k n size D W) {w' : World} {b : Nat} (hg : w.grownBy w' (some b)) (hb : ∀ i, foot k W i → i ≠ b) (hb0 : w0.heap.size ≤ b) : DkS w0 w' k n size D W :=
  ⟨h.disk.same fun i hi => hg.block i (h.disk.lt i hi) (fun e => hb i hi (Option.some.inj e)), h.own, grown_then h.grown hg (fun j e => Or.inl (by have := Option.some.inj e; omega))⟩
theorem newS (n size : Nat) (w0 w : World) (hg : w0.grownBy w none) (h : mayB (n : Int) (size : Int) = true) : Calls Try.prog 9 #[.int .i64 (n : Int), .int .i64 (size : Int)] w fun e w' =>
    ∃ k : Dk, e = .returned (.tuple #[.pointer (some ⟨k.d, 0, none⟩), .int .i64 0]) ∧ DkS w0 w' k n size (zs (n * size)) [] ∧ w.grownBy w' none ∧ ∀ i, k.own i → w.heap.size ≤ i := by
  refine (new_any n size w h).mono ?_
  rintro e w' ⟨rfl, h1, h2⟩
  have ho : ∀ i, Dk.own ⟨w.heap.size + 2, w.heap.size, .slice none 0 0, w.heap.size + 1⟩ i → w.heap.size ≤ i := by
    rintro i (e | e | e | e)
    · have e : i = w.heap.size + 2 := e
      omega
    · have e : i = w.heap.size := e
      omega
    · simp [Value.ownBlock] at e
    · have e : i = w.heap.size + 1 := e
      omega
  exact ⟨⟨w.heap.size + 2, w.heap.size, .slice none 0 0, w.heap.size + 1⟩, rfl, ⟨h1, fun i hi => Nat.le_trans hg.size (ho i hi), grown_trans hg h2⟩, h2, ho⟩
theorem writeS {d : Nat} (hd : k.d = d) (h : DkS w0 w k n size D W) (hW : W.length < 1000000) (s : Nat) (hs : s < n) (ao : Option Addr) (cap : Nat) (xs : List Nat) (hat : At w ao xs) (hx : xs.length = size) :
    Calls Try.prog 35 #[.pointer (some ⟨d, 0, none⟩), .int .i64 (s : Int), .slice ao size cap] w fun e w' => e = .returned (.int .i64 0) ∧ ∃ k', k'.d = d ∧ k'.db = k.db ∧ DkS w0 w' k' n size D (W ++ [⟨s, w.heap.size, xs⟩]) ∧ Wrote w w' k k' n size D W s xs := by
  subst hd
  refine (write_any h.disk hW s hs ao cap xs hat hx).mono ?_
  rintro e w' ⟨rfl, k', hw⟩
  exact ⟨rfl, k', hw.d, hw.db, h.wrote hw, hw⟩
theorem syncS {d : Nat} (hd : k.d = d) (h : DkS w0 w k n size D W) : Calls Try.prog 38 #[.pointer (some ⟨d, 0, none⟩)] w fun e w' => e = .returned (.int .i64 0) ∧
    DkS w0 w' k.calm n size (stl size (fun _ => size) D W W.length) [] ∧ Kept w w' (fun i => i = k.d ∨ i = k.db ∨ i = k.mb) := by
  subst hd
  refine (sync_any h.disk).mono ?_
  rintro e w' ⟨rfl, h1, h2⟩
  exact ⟨rfl, h.calm h1 h2, h2⟩
theorem crashS {d : Nat} (hd : k.d = d) (h : DkS w0 w k n size D W) (fo : Option Addr) (m cap : Nat) (F : List (Int × Int)) (hm : F.length = m) (hF : FatesAt w fo F) (hfo : ∀ a, fo = some a → a.block ≠ k.db) : Calls Try.prog 21 #[.pointer (some ⟨d, 0, none⟩), .slice fo m cap] w fun e w' => e = .returned (.int .i64 0) ∧
    DkS w0 w' k.calm n size (stl size (fun i => lasts (fateK F i) (fateA F i) size) D W W.length) [] ∧ Kept w w' (fun i => i = k.d ∨ i = k.db ∨ i = k.mb) := by
  subst hd
  refine (crash_any h.disk fo m cap F hm hF hfo).mono ?_
  rintro e w' ⟨rfl, h1, h2⟩
  exact ⟨rfl, h.calm h1 h2, h2⟩
theorem readS {d : Nat} (hd : k.d = d) (h : DkS w0 w k n size D W) (s : Nat) (hs : s < n) : Calls Try.prog 37 #[.pointer (some ⟨d, 0, none⟩), .int .i64 (s : Int)] w fun e w' =>
    e = .returned (.tuple #[.slice (some ⟨w.heap.size, 0, none⟩) size size, .int .i64 0]) ∧ w'.heap[w.heap.size]? = some (.cells (bv (found size D W s)).toArray 5 (0, 0)) ∧ w.grownBy w' none := by
  subst hd
  exact read_any h.disk s hs
theorem waitingS {d : Nat} (hd : k.d = d) (h : DkS w0 w k n size D W) : Calls Try.prog 18 #[.pointer (some ⟨d, 0, none⟩)] w fun e w' => e = .returned (.int .i64 (W.length : Int)) ∧ w' = w := by
  subst hd
  exact waiting_any h.disk
end
/-- Fates that have just been laid. -/
def fcells (F : List (Int × Int)) : List Value := F.flatMap fun p => [.int .i64 p.1, .int .i64 p.2]
theorem fcells_get (F : List (Int × Int)) (j : Nat) (p : Int × Int) (h : F[j]? = some p) : (fcells F)[j * 2]? = some (.int .i64 p.1) ∧ (fcells F)[j * 2 + 1]? = some (.int .i64 p.2) := by
  induction F generalizing j with
  | nil => simp at h
  | cons y r ih =>
    cases j with
    | zero => simp at h; subst h; simp [fcells]
    | succ i =>
      have := ih i (by simpa using h)
      have e : fcells (y :: r) = .int .i64 y.1 :: .int .i64 y.2 :: fcells r := by simp [fcells]
      rw [e, show (i + 1) * 2 = i * 2 + 2 by omega, show i * 2 + 2 + 1 = (i * 2 + 1) + 2 by omega]
      simpa using this
theorem fates_row {w : World} {g : Nat} {F : List (Int × Int)} {t : TypeId} {fr : Nat × Nat} (h : w.heap[g]? = some (.cells (fcells F).toArray t fr)) : FatesAt w (some ⟨g, 0, none⟩) F := by
  intro j p hj
  obtain ⟨a, b⟩ := fcells_get F j p hj
  exact ⟨g, 0, rfl, by rw [cell_row h, Nat.zero_add]; exact a, by rw [cell_row h, Nat.zero_add]; exact b⟩
end Go.Proofs.Ytaopcidkgcekdaa
