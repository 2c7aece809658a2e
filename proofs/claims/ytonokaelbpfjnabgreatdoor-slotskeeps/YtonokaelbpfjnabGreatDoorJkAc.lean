/- Texts joined: Own, Awake, ArgT, ArgO, Does, Image, Copy, Sep, Lent, LentF, LentF2, None, Surv0. -/
import Derived.Test.YtonokaelbpfjnabGreatDoorJkAb
import Derived.Deep.AppendLies
import Derived.Test.YtonokaelbpfjnabGreatDoorChecked
import Derived.ProofKit
import Derived.OpenShut
import Derived.ChangeOld
import Derived.ChangeMaps5
import Derived.SizedLaws
import Derived.Deep.Slices
import Derived.Deep.CutRange
import Derived.Deep.DeepCutAuto
import Derived.Shelf.SlMaps.Clone
import Derived.Laws.StructEq
/- A disk that the call itself has made: its contracts once more. -/
namespace Go.Proofs.YtonokaelbpfjnabGreatDoor
open Go.RowKit Ap

/-- A disk, all of whose blocks are new since w0; no elder block has turned. -/
structure DkS (w0 w : World) (k : Dk) (n size : Nat) (D : List Nat) (W : List Wt) : Prop where
  disk : DiskAt w k n size D W
  own : ∀ i, k.own i → w0.heap.size ≤ i
  grown : w0.grownBy w none

section
variable {w0 w : World} {k : Dk} {n size : Nat} {D : List Nat} {W : List Wt}
theorem DkS.then (h : DkS w0 w k n size D W) {w' : World} (hg : w.grownBy w' none) : DkS w0 w' k n size D W := ⟨h.disk.grown hg, h.own, grown_trans h.grown hg⟩
theorem DkS.of (h : DiskAt w k n size D W) (ho : ∀ i, k.own i → w0.heap.size ≤ i) (hg : w0.grownBy w none) : DkS w0 w k n size D W := ⟨h, ho, hg⟩
theorem kept_new (h : w0.grownBy w none) {w' : World} {S : Nat → Prop} (hk : Kept w w' S) (hS : ∀ i, S i → w0.heap.size ≤ i) : w0.grownBy w' none :=
  ((Kept.new h S).trans hk (fun _ _ e => e)).grown (fun i hi e => by have := hS i e; omega)
theorem DkS.wrote (h : DkS w0 w k n size D W) {w' : World} {k' : Dk} {s : Nat} {xs : List Nat} (hw : Wrote w w' k k' n size D W s xs) : DkS w0 w' k' n size D (W ++ [⟨s, w.heap.size, xs⟩]) := by
  refine ⟨hw.disk, ?_, kept_new h.grown hw.kept ?_⟩
  · rintro i (e | e | e | e)
    · rw [hw.d] at e; exact h.own i (.inl e)
    · rw [hw.db] at e; exact h.own i (.inr (.inl e))
    · rcases hw.vw i e with e | e
      · exact h.own i (.inr (.inr (.inl e)))
      · exact Nat.le_trans h.grown.size e
    · rw [hw.mb] at e; exact h.own i (.inr (.inr (.inr e)))
  · rintro i (e | e | e)
    · exact h.own i (.inl e)
    · exact h.own i (.inr (.inr (.inl e)))
    · exact h.own i (.inr (.inr (.inr e)))
theorem DkS.calm (h : DkS w0 w k n size D W) {w' : World} {D' : List Nat} (hd : DiskAt w' k.calm n size D' []) (hk : Kept w w' (fun i => i = k.d ∨ i = k.db ∨ i = k.mb)) : DkS w0 w' k.calm n size D' [] := by
  refine ⟨hd, ?_, kept_new h.grown hk ?_⟩
  · rintro i (e | e | e | e)
    · exact h.own i (.inl e)
    · exact h.own i (.inr (.inl e))
    · simp [Dk.calm, Value.ownBlock] at e
    · exact h.own i (.inr (.inr (.inr e)))
  · rintro i (e | e | e)
    · exact h.own i (.inl e)
    · exact h.own i (.inr (.inl e))
    · exact h.own i (.inr (.inr (.inr e)))
/-- A row of bytes is no block of the disk's but its durable one. -/
theorem DiskAt.bytes_off (h : DiskAt w k n size D W) {A : Nat} {c : Array Value} {fr : Nat × Nat} (hA : w.heap[A]? = some (.cells c 5 fr)) (hne : A ≠ k.db) : ¬ k.own A := by
  obtain ⟨es, cl, hm⟩ := h.map.block
  rintro (e | e | e | e)
  · rw [e, h.head] at hA; simp at hA
  · exact hne e
  · rcases h.row.2 with ⟨hr, h0⟩ | ⟨g, cap, cur, hr, h2, h3, _⟩
    · rw [hr] at e; simp [Value.ownBlock] at e
    · rw [hr] at e; simp only [Value.ownBlock, Option.some.injEq] at e; subst e; rw [hA] at h3; simp at h3
  · rw [e, hm] at hA; simp at hA
theorem Wrote.bytes {w' : World} {k' : Dk} {s : Nat} {xs : List Nat} (hw : Wrote w w' k k' n size D W s xs) (h : DiskAt w k n size D W) {A : Nat} {c : Array Value} {fr : Nat × Nat} (hA : w.heap[A]? = some (.cells c 5 fr)) : w'.heap[A]? = some (.cells c 5 fr) := by
  obtain ⟨e1, e2, e3, e4, e5, e6⟩ := h.vw_ne
  refine hw.kept.at hA ?_
  by_cases hd : A = k.db
  · subst hd
    rintro (e | e | e)
    · exact e4 e.symm
    · exact e2 e
    · exact e6 e
  · have := h.bytes_off hA hd
    rintro (e | e | e)
    · exact this (.inl e)
    · exact this (.inr (.inr (.inl e)))
    · exact this (.inr (.inr (.inr e)))
theorem calm_bytes {w' : World} (h : DiskAt w k n size D W) (hk : Kept w w' (fun i => i = k.d ∨ i = k.db ∨ i = k.mb)) {A : Nat} {c : Array Value} {fr : Nat × Nat} (hA : w.heap[A]? = some (.cells c 5 fr)) (hd : A ≠ k.db) : w'.heap[A]? = some (.cells c 5 fr) := by
  have := h.bytes_off hA hd
  refine hk.at hA ?_
  rintro (e | e | e)
  · exact this (.inl e)
  · exact this (.inr (.inl e))
  · exact this (.inr (.inr (.inr e)))
/-- Cells of another type are none of the disk's. -/
theorem DiskAt.other_off (h : DiskAt w k n size D W) {A : Nat} {c : Array Value} {t : TypeId} {fr : Nat × Nat} (hA : w.heap[A]? = some (.cells c t fr)) (h1 : t ≠ 124) (h2 : t ≠ 5) (h3 : t ≠ 269) : ¬ k.own A := by
  obtain ⟨es, cl, hm⟩ := h.map.block
  rintro (e | e | e | e)
  · rw [e, h.head] at hA; simp at hA; exact h1 hA.2.1.symm
  · rw [e, h.dur] at hA; simp at hA; exact h2 hA.2.1.symm
  · rcases h.row.2 with ⟨hr, h0⟩ | ⟨g, cap, cur, hr, _, h4, _⟩
    · rw [hr] at e; simp [Value.ownBlock] at e
    · rw [hr] at e; simp only [Value.ownBlock, Option.some.injEq] at e; subst e; rw [hA] at h4; simp at h4; exact h3 h4.2.1
  · rw [e, hm] at hA; simp at hA
theorem Wrote.other {w' : World} {k' : Dk} {s : Nat} {xs : List Nat} (hw : Wrote w w' k k' n size D W s xs) {A : Nat} {o : Obj} (hA : w.heap[A]? = some o) (hn : ¬ k.own A) : w'.heap[A]? = some o := by
  refine hw.kept.at hA ?_
  rintro (e | e | e)
  · exact hn (.inl e)
  · exact hn (.inr (.inr (.inl e)))
  · exact hn (.inr (.inr (.inr e)))
theorem calm_other {w' : World} (hk : Kept w w' (fun i => i = k.d ∨ i = k.db ∨ i = k.mb)) {A : Nat} {o : Obj} (hA : w.heap[A]? = some o) (hn : ¬ k.own A) : w'.heap[A]? = some o := by
  refine hk.at hA ?_
  rintro (e | e | e)
  · exact hn (.inl e)
  · exact hn (.inr (.inl e))
  · exact hn (.inr (.inr (.inr e)))
/-- Another block, new since w0, has been written. -/
theorem DkS.row (h : DkS w0 w k n size D W) {w' : World} {b : Nat} (hg : w.grownBy w' (some b)) (hb : ∀ i, foot k W i → i ≠ b) (hb0 : w0.heap.size ≤ b) : DkS w0 w' k n size D W :=
  ⟨h.disk.same fun i hi => hg.block i (h.disk.lt i hi) (fun e => hb i hi (Option.some.inj e)), h.own, grown_then h.grown hg (fun j e => Or.inl (by have := Option.some.inj e; omega))⟩
theorem newS (n size : Nat) (w0 w : World) (hg : w0.grownBy w none) (h : mayB (n : Int) (size : Int) = true) : Calls Tryz.prog 16 #[.int .i64 (n : Int), .int .i64 (size : Int)] w fun e w' =>
    ∃ k : Dk, e = .returned (.tuple #[.pointer (some ⟨k.d, 0, none⟩), .int .i64 0]) ∧ DkS w0 w' k n size (zs (n * size)) [] ∧ w.grownBy w' none ∧ ∀ i, k.own i → w.heap.size ≤ i := by
  refine (new_any n size w h).mono ?_
  rintro e w' ⟨rfl, h1, h2⟩
  have ho : ∀ i, Dk.own ⟨w.heap.size + 2, w.heap.size, .slice none 0 0, w.heap.size + 1⟩ i → w.heap.size ≤ i := by
    rintro i (e | e | e | e)
    · have e : i = w.heap.size + 2 := e
      omega
    · have e : i = w.heap.size := e
      omega
    · simp [Value.ownBlock] at e
    · have e : i = w.heap.size + 1 := e
      omega
  exact ⟨⟨w.heap.size + 2, w.heap.size, .slice none 0 0, w.heap.size + 1⟩, rfl, ⟨h1, fun i hi => Nat.le_trans hg.size (ho i hi), grown_trans hg h2⟩, h2, ho⟩
theorem writeS {d : Nat} (hd : k.d = d) (h : DkS w0 w k n size D W) (hW : W.length < 1000000) (s : Nat) (hs : s < n) (ao : Option Addr) (cap : Nat) (xs : List Nat) (hat : At w ao xs) (hx : xs.length = size) :
    Calls Tryz.prog 132 #[.pointer (some ⟨d, 0, none⟩), .int .i64 (s : Int), .slice ao size cap] w fun e w' => e = .returned (.int .i64 0) ∧ ∃ k', k'.d = d ∧ k'.db = k.db ∧ DkS w0 w' k' n size D (W ++ [⟨s, w.heap.size, xs⟩]) ∧ Wrote w w' k k' n size D W s xs := by
  subst hd
  refine (write_any h.disk hW s hs ao cap xs hat hx).mono ?_
  rintro e w' ⟨rfl, k', hw⟩
  exact ⟨rfl, k', hw.d, hw.db, h.wrote hw, hw⟩
theorem syncS {d : Nat} (hd : k.d = d) (h : DkS w0 w k n size D W) : Calls Tryz.prog 133 #[.pointer (some ⟨d, 0, none⟩)] w fun e w' => e = .returned (.int .i64 0) ∧
    DkS w0 w' k.calm n size (stl size (fun _ => size) D W W.length) [] ∧ Kept w w' (fun i => i = k.d ∨ i = k.db ∨ i = k.mb) := by
  subst hd
  refine (sync_any h.disk).mono ?_
  rintro e w' ⟨rfl, h1, h2⟩
  exact ⟨rfl, h.calm h1 h2, h2⟩
theorem readS {d : Nat} (hd : k.d = d) (h : DkS w0 w k n size D W) (s : Nat) (hs : s < n) : Calls Tryz.prog 122 #[.pointer (some ⟨d, 0, none⟩), .int .i64 (s : Int)] w fun e w' =>
    e = .returned (.tuple #[.slice (some ⟨w.heap.size, 0, none⟩) size size, .int .i64 0]) ∧ w'.heap[w.heap.size]? = some (.cells (bv (found size D W s)).toArray 5 (0, 0)) ∧ w.grownBy w' none := by
  subst hd
  exact read_any h.disk s hs
end
/-- Fates that have just been laid. -/
def fcells (F : List (Int × Int)) : List Value := F.flatMap fun p => [.int .i64 p.1, .int .i64 p.2]
theorem fcells_get (F : List (Int × Int)) (j : Nat) (p : Int × Int) (h : F[j]? = some p) : (fcells F)[j * 2]? = some (.int .i64 p.1) ∧ (fcells F)[j * 2 + 1]? = some (.int .i64 p.2) := by
  induction F generalizing j with
  | nil => simp at h
  | cons y r ih =>
    cases j with
    | zero => simp at h; subst h; simp [fcells]
    | succ i =>
      have := ih i (by simpa using h)
      have e : fcells (y :: r) = .int .i64 y.1 :: .int .i64 y.2 :: fcells r := by simp [fcells]
      rw [e, show (i + 1) * 2 = i * 2 + 2 by omega, show i * 2 + 2 + 1 = (i * 2 + 1) + 2 by omega]
      simpa using this
theorem fates_row {w : World} {g : Nat} {F : List (Int × Int)} {t : TypeId} {fr : Nat × Nat} (h : w.heap[g]? = some (.cells (fcells F).toArray t fr)) : FatesAt w (some ⟨g, 0, none⟩) F := by
  intro j p hj
  obtain ⟨a, b⟩ := fcells_get F j p hj
  exact ⟨g, 0, rfl, by rw [cell_row h, Nat.zero_add]; exact a, by rw [cell_row h, Nat.zero_add]; exact b⟩
end Go.Proofs.YtonokaelbpfjnabGreatDoor
/- The contract of awake. -/
namespace Go.Proofs.YtonokaelbpfjnabGreatDoor
open Go.RowKit Ap
attribute [local go_sem ↓] Go.wp_at_zero Go.wp_at_succ

theorem may_2_64 : mayB 2 64 = true := by decide
theorem may_4_64 : mayB 4 64 = true := by decide
theorem may_1_64 : mayB 1 64 = true := by decide

theorem news_at {w : World} {ad : Addr} {ys : List Nat} (h : At w (some ad) ys) : ∀ j u, (bv ys)[j]? = some u → w.cell? (ad.add j) = some u := by
  intro i v hv
  rw [bv, List.getElem?_map] at hv
  cases hj : ys[i]? with
  | none => simp [hj] at hv
  | some y =>
    simp [hj] at hv
    obtain ⟨a', ea', hc'⟩ := h i y hj
    cases ea'
    rw [← hv]; exact hc'
theorem bv_one (ys : List Nat) : ∀ u ∈ bv ys, u.oneCell' = true := by
  intro v hv; rw [bv, List.mem_map] at hv; obtain ⟨y, _, rfl⟩ := hv; rfl
/-- The world behind New, two fills and two writes, as it is in awake. -/
theorem awake_found (A B : List Nat) (hA : A.length = 64) (hB : B.length = 64) (p q : Nat) :
    found 64 (stl 64 (fun i => lasts (fateK [(1, 0), (2, 3)] i) (fateA [(1, 0), (2, 3)] i) 64) (zs (2 * 64)) [⟨1, p, A⟩, ⟨1, q, B⟩] 2) [] 1 = B.take 3 ++ A.drop 3 := by
  have hF : Fits 2 64 [⟨1, p, A⟩, ⟨1, q, B⟩] := by
    intro x hx
    simp at hx
    rcases hx with rfl | rfl
    · exact ⟨by show 1 < 2; omega, hA⟩
    · exact ⟨by show 1 < 2; omega, hB⟩
  show secOf 64 _ 1 = _
  rw [secOf_stl (n := 2) (zs_length _) hF]
  have l0 : lasts (fateK [(1, 0), (2, 3)] 0) (fateA [(1, 0), (2, 3)] 0) 64 = 64 := rfl
  have l1 : lasts (fateK [(1, 0), (2, 3)] 1) (fateA [(1, 0), (2, 3)] 1) 64 = 3 := by decide
  simp only [stlS, List.getElem?_cons_zero, List.getElem?_cons_succ, if_true, l0, l1]
  rw [List.take_of_length_le (Nat.le_of_eq hA)]
  have e : over A (secOf 64 (zs (2 * 64)) 1) = A := by
    rw [zs_sec 2 64 1 (by omega), over, List.drop_eq_nil_of_le (by simp [zs, hA]), List.append_nil]
  rw [e, over]
  simp [hB]

end Go.Proofs.YtonokaelbpfjnabGreatDoor
/- A Tear that came in, opened. -/
namespace Go.Proofs.YtonokaelbpfjnabGreatDoor
open Go.ChangeShapes Go.WideShapes Go.ChangeAt Go.RowKit Go.Deep

theorem Tryz.cells3 : Tryz.prog.cellsOf 3 = 1 := by kernel_rfl
theorem Tryz.cells67 : Tryz.prog.cellsOf 196 = 1 := by kernel_rfl
theorem Tryz.cells69 : Tryz.prog.cellsOf 198 = 2 := by kernel_rfl
theorem list1 {α : Type} {l : List α} (h : l.length = 1) : ∃ a, l = [a] := by
  match l, h with
  | [a], _ => exact ⟨a, rfl⟩
theorem list2 {α : Type} {l : List α} (h : l.length = 2) : ∃ a b, l = [a, b] := by
  match l, h with
  | [a, b], _ => exact ⟨a, b, rfl⟩
theorem list4 {α : Type} {l : List α} (h : l.length = 4) : ∃ a b c d, l = [a, b, c, d] := by
  match l, h with
  | [a, b, c, d], _ => exact ⟨a, b, c, d, rfl⟩
theorem list5 {α : Type} {l : List α} (h : l.length = 5) : ∃ a b c d e, l = [a, b, c, d, e] := by
  match l, h with
  | [a, b, c, d, e], _ => exact ⟨a, b, c, d, e, rfl⟩
section
variable {H : Type} {enc : TypeId × Value → H}
/-- A fate's two numbers. -/
theorem open_fate {w : World} {base fuel : Nat} {spare : Nat → Bool} {held : Bool} {cs : List Value} {x : DataW H × List MemPlace} (h : DataW.trod enc Tryz.prog w base spare held fuel 198 cs = some x) :
    ∃ K A : Int, cs = [.int .i64 K, .int .i64 A] := by
  obtain ⟨xs, n, _, rfl, hl, hsz, hf⟩ := DataW.trod_struct Tryz.underlying198 h
  rw [Tryz.cells69] at hl
  obtain ⟨v0, v1, rfl⟩ := list2 hl
  obtain ⟨y0, y1, rfl⟩ := list2 (show xs.length = 2 from hsz)
  have f0 : DataW.trod enc Tryz.prog w base spare held n 196 [v0] = some y0 := by simpa [Tryz.cells67] using hf 0 _ rfl
  have f1 : DataW.trod enc Tryz.prog w base spare held n 3 [v1] = some y1 := by simpa [Tryz.cells3] using hf 1 _ rfl
  obtain ⟨k, e0, rfl, wk⟩ := DataW.trod_int Tryz.underlying196 f0
  obtain ⟨N, e1, rfl, wN⟩ := DataW.trod_int Tryz.underlying3 f1
  simp only [List.cons.injEq, and_true] at e0 e1
  exact ⟨k, N, by rw [e0, e1]⟩
end
end Go.Proofs.YtonokaelbpfjnabGreatDoor
/- Operations, scripts and fates that came in, opened. -/
namespace Go.Proofs.YtonokaelbpfjnabGreatDoor
open Go.ChangeShapes Go.WideShapes Go.ChangeAt Go.RowKit Go.Deep Ap

theorem Tryz.cells35 : Tryz.prog.cellsOf 195 = 1 := by kernel_rfl
theorem Tryz.bytes69 : Tryz.prog.bytesOf 198 = 16 := by kernel_rfl
theorem list6 {α : Type} {l : List α} (h : l.length = 6) : ∃ a b c d e f, l = [a, b, c, d, e, f] := by
  match l, h with
  | [a, b, c, d, e, f], _ => exact ⟨a, b, c, d, e, f, rfl⟩
/-- A script's step: five numbers and its fates. -/
structure OpD where
  d0 : Int
  d1 : Int
  d2 : Int
  d3 : Int
  d4 : Int
  F : List (Int × Int)
/-- Fates that came in. -/
structure FIn (w : World) (fo : Option Addr) (cap : Nat) (F : List (Int × Int)) : Prop where
  at_ : FatesAt w fo F
  nil : fo = none → F.length = 0 ∧ cap = 0
  size : F.length * 16 ≤ 140737488355000
  lt : ∀ a, fo = some a → 0 < F.length → a.block < w.heap.size
structure OpAt (w : World) (b off : Nat) (o : OpD) (fo : Option Addr) (cap : Nat) : Prop where
  c0 : w.cell? ⟨b, off, none⟩ = some (.int .i64 o.d0)
  c1 : w.cell? ⟨b, off + 1, none⟩ = some (.int .i64 o.d1)
  c2 : w.cell? ⟨b, off + 2, none⟩ = some (.int .i64 o.d2)
  c3 : w.cell? ⟨b, off + 3, none⟩ = some (.int .i64 o.d3)
  c4 : w.cell? ⟨b, off + 4, none⟩ = some (.int .i64 o.d4)
  c5 : w.cell? ⟨b, off + 5, none⟩ = some (.slice fo o.F.length cap)
  fin : FIn w fo cap o.F
def OpsAt (w : World) (ao : Option Addr) (os : List OpD) : Prop := ∀ j o, os[j]? = some o → ∃ b off fo cap, ao = some ⟨b, off, none⟩ ∧ OpAt w b (off + j * 6) o fo cap
theorem cell_lt {w : World} {a : Addr} {v : Value} (h : w.cell? a = some v) : a.block < w.heap.size := by
  unfold World.cell? at h
  split at h
  · rename_i hb; exact (Array.getElem?_eq_some_iff.1 hb).1
  · cases h
theorem fates_lt {w : World} {fo : Option Addr} {F : List (Int × Int)} (h : FatesAt w fo F) : ∀ a, fo = some a → 0 < F.length → a.block < w.heap.size := by
  intro a e hl
  obtain ⟨b, o, e', c1, _⟩ := h 0 F[0] (List.getElem?_eq_getElem hl)
  rw [e] at e'
  cases e'
  exact cell_lt c1
section
variable {H : Type} {enc : TypeId × Value → H}
theorem addr_plain {w : World} {a : Addr} {v : Value} (h : w.cell? a = some v) (hv : ∀ (k : IntKind) (n : Int), v = .int k n → True) (hi : ∃ k n, v = .int k n) : a = ⟨a.block, a.off, none⟩ := by
  obtain ⟨k, n, rfl⟩ := hi
  have h2 : a.spot = none := by
    unfold World.cell? at h
    split at h
    · split at h
      · cases h
      · rename_i hs; simpa using hs
    · cases h
  cases a; simp_all
theorem open_fates {w : World} {base fuel : Nat} {spare : Nat → Bool} {held : Bool} {cs : List Value} {x : DataW H × List MemPlace} (h : DataW.trod enc Tryz.prog w base spare held fuel 195 cs = some x) (hz : ∀ n ∈ x.1.weights Tryz.prog 195, n ≤ reachBytes) :
    ∃ fo cap F, cs = [.slice fo F.length cap] ∧ FIn w fo cap F := by
  rcases open_slice Tryz.underlying195 h with ⟨rfl, rfl⟩ | ⟨a, len, cap, m, n, D, Pl, rfl, hb, hl, hm, hmm, rfl, hx⟩
  · exact ⟨none, 0, [], rfl, ⟨fun j p hj => by simp at hj, fun _ => ⟨rfl, rfl⟩, by simp, fun a e => by cases e⟩⟩
  · have hlm : len ≤ m := by rw [hmm]; split <;> omega
    have hsz : len * 16 ≤ reachBytes := by
      have := hz ((((List.range len).map D).length + ((List.range (m - len)).map fun j => D (len + j)).length) * Tryz.prog.bytesOf 198) (by simp [DataW.weights, Tryz.underlying195])
      rw [Tryz.bytes69] at this
      simp at this
      omega
    have hex : ∀ i, i < len → ∃ p : Int × Int, ∃ b o, some a = some (⟨b, o, none⟩ : Addr) ∧ w.cell? ⟨b, o + i * 2, none⟩ = some (.int .i64 p.1) ∧ w.cell? ⟨b, o + i * 2 + 1, none⟩ = some (.int .i64 p.2) := by
      intro i hi
      rw [Tryz.cells69] at hx
      have key : ∀ i, i < len → ∃ K A : Int, w.cell? (a.add (i * 2)) = some (.int .i64 K) ∧ w.cell? ((a.add (i * 2)).add 1) = some (.int .i64 A) := by
        intro i hi
        obtain ⟨cs', hc, ht⟩ := hx i (by omega)
        obtain ⟨_, hlen, hcell⟩ := World.cells?_some hc
        obtain ⟨K, A, rfl⟩ := open_fate ht
        refine ⟨K, A, ?_, ?_⟩
        · have := hcell 0 (by omega); simpa [Addr.add] using this
        · have := hcell 1 (by omega); simpa using this
      obtain ⟨K0, A0, k0, _⟩ := key 0 (by omega)
      have ha : a = ⟨a.block, a.off, none⟩ := addr_plain (by simpa [Addr.add] using k0) (fun _ _ _ => trivial) ⟨_, _, rfl⟩
      obtain ⟨K, A, k1, k2⟩ := key i hi
      refine ⟨(K, A), a.block, a.off, by rw [← ha], ?_, ?_⟩
      · rw [ha, Addr.add_lit] at k1; exact k1
      · rw [ha, Addr.add_lit, Addr.add_lit] at k2; exact k2
    obtain ⟨F, hF1, hF2⟩ : ∃ F : List (Int × Int), F.length = len ∧ FatesAt w (some a) F := by
      clear hsz hx hz h hlm hmm hl
      induction len with
      | zero => exact ⟨[], rfl, fun j p hj => by simp at hj⟩
      | succ k ih =>
        obtain ⟨F, f1, f2⟩ := ih (fun i hi => hex i (by omega))
        obtain ⟨p, g1⟩ := hex k (by omega)
        refine ⟨F ++ [p], by simp [f1], ?_⟩
        intro j q hj
        by_cases hjk : j < F.length
        · rw [List.getElem?_append_left hjk] at hj; exact f2 j q hj
        · have hlt := (List.getElem?_eq_some_iff.1 hj).1
          have hjk2 : j = k := by simp at hlt; omega
          subst hjk2
          rw [List.getElem?_append_right (by omega), f1, Nat.sub_self] at hj
          simp at hj
          subst hj
          exact g1
    exact ⟨some a, cap, F, by rw [hF1], hF2, (fun e => by cases e), by rw [hF1]; unfold reachBytes at hsz; omega, fates_lt hF2⟩
theorem weights_all_mem {P : Program} {e : TypeId} {l : List (DataW H)} {d : DataW H} (hd : d ∈ l) : ∀ n ∈ d.weights P e, n ∈ DataW.weightsAll P e l := by
  induction l with
  | nil => cases hd
  | cons x r ih =>
    intro n hn
    simp only [DataW.weightsAll, List.mem_append]
    rcases List.mem_cons.1 hd with rfl | hd
    · exact Or.inl hn
    · exact Or.inr (ih hd n hn)
end
end Go.Proofs.YtonokaelbpfjnabGreatDoor
/- The contract of does. -/
namespace Go.Proofs.YtonokaelbpfjnabGreatDoor
open Go.RowKit Ap
attribute [local go_sem ↓] Go.wp_at_zero Go.wp_at_succ

theorem FatesAt.kept2 {w w' : World} {fo : Option Addr} {F : List (Int × Int)} {row : Option Nat} (h : FatesAt w fo F) (hg : w.grownBy w' row) (hr : ∀ a, fo = some a → 0 < F.length → some a.block ≠ row) : FatesAt w' fo F := by
  intro j p hj
  obtain ⟨b, o, e, h1, h2⟩ := h j p hj
  have hl : 0 < F.length := Nat.lt_of_le_of_lt (Nat.zero_le _) (List.getElem?_eq_some_iff.1 hj).1
  have hb : some b ≠ row := hr ⟨b, o, none⟩ e hl
  exact ⟨b, o, e, hg.cell h1 hb, hg.cell h2 hb⟩
theorem FIn.grown {w w' : World} {fo : Option Addr} {cap : Nat} {F : List (Int × Int)} (h : FIn w fo cap F) (hg : w.grownBy w' none) : FIn w' fo cap F :=
  ⟨h.at_.grown hg, h.nil, h.size, fun a e hl => Nat.lt_of_lt_of_le (h.lt a e hl) hg.size⟩
theorem OpAt.grown {w w' : World} {b off : Nat} {o : OpD} {fo : Option Addr} {cap : Nat} (h : OpAt w b off o fo cap) (hg : w.grownBy w' none) : OpAt w' b off o fo cap :=
  ⟨hg.cell h.c0 (by simp), hg.cell h.c1 (by simp), hg.cell h.c2 (by simp), hg.cell h.c3 (by simp), hg.cell h.c4 (by simp), hg.cell h.c5 (by simp), h.fin.grown hg⟩
theorem OpsAt.grown {w w' : World} {ao : Option Addr} {os : List OpD} (h : OpsAt w ao os) (hg : w.grownBy w' none) : OpsAt w' ao os := by
  intro j o hj
  obtain ⟨b, off, fo, cap, e, ho⟩ := h j o hj
  exact ⟨b, off, fo, cap, e, ho.grown hg⟩

section
variable {w0 w : World} {k : Dk} {n size : Nat} {D : List Nat} {W : List Wt}
end

/-- What waits, without where. -/
abbrev Pr := Nat × List Nat
def abs (W : List Wt) : List Pr := W.map fun x => (x.sec, x.xs)
def stlP (size : Nat) (L : Nat → Nat) (D : List Nat) (P : List Pr) : Nat → List Nat
  | 0 => D
  | j + 1 => match P[j]? with
    | some x => splice (stlP size L D P j) (x.1 * size) (x.2.take (L j))
    | none => stlP size L D P j
theorem stl_abs (size : Nat) (L : Nat → Nat) (D : List Nat) (W : List Wt) (j : Nat) : stl size L D W j = stlP size L D (abs W) j := by
  induction j with
  | zero => rfl
  | succ j ih =>
    rw [stl, stlP, abs, List.getElem?_map]
    cases hx : W[j]? with
    | none => simpa [abs] using ih
    | some x => simp only [Option.map_some]; rw [ih]; rfl
theorem abs_length (W : List Wt) : (abs W).length = W.length := by simp [abs]
/-- A step of a script, on what lies there. -/
def absStep (st : List Nat × List Pr) (o : OpD) : List Nat × List Pr :=
  if o.d0 % 4 = 2 then (stlP 64 (fun _ => 64) st.1 st.2 st.2.length, [])
  else if o.d0 % 4 = 3 then (stlP 64 (fun i => lasts (fateK o.F i) (fateA o.F i) 64) st.1 st.2 st.2.length, [])
  else (st.1, st.2 ++ [((o.d2 % 4).toNat, fills o.d3 64)])
theorem absStep_len (st : List Nat × List Pr) (o : OpD) : (absStep st o).2.length ≤ st.2.length + 1 := by
  unfold absStep; split
  · simp
  · split <;> simp

/-- One disk, before and after. -/
structure Moved (w w' : World) (k k' : Dk) (W W' : List Wt) : Prop where
  d : k'.d = k.d
  db : k'.db = k.db
  own : ∀ i, k'.own i → k.own i ∨ w.heap.size ≤ i
  blk : ∀ x ∈ W', (∃ y ∈ W, y.blk = x.blk) ∨ w.heap.size ≤ x.blk
  kept : Kept w w' k.own
theorem Moved.refl (w : World) (k : Dk) (W : List Wt) : Moved w w k k W W := ⟨rfl, rfl, fun _ h => Or.inl h, fun x hx => Or.inl ⟨x, hx, rfl⟩, Kept.refl _ _⟩
theorem Moved.trans {a b c : World} {k k' k'' : Dk} {W W' W'' : List Wt} (h : Moved a b k k' W W') (g : Moved b c k' k'' W' W'') : Moved a c k k'' W W'' := by
  refine ⟨g.d.trans h.d, g.db.trans h.db, ?_, ?_, h.kept.trans g.kept ?_⟩
  · intro i hi
    rcases g.own i hi with h1 | h1
    · exact h.own i h1
    · exact Or.inr (Nat.le_trans h.kept.size h1)
  · intro x hx
    rcases g.blk x hx with ⟨y, hy, e⟩ | h1
    · rw [← e]
      exact h.blk y hy
    · exact Or.inr (Nat.le_trans h.kept.size h1)
  · intro i hi h1
    rcases h.own i h1 with h2 | h2
    · exact h2
    · omega
theorem Moved.new {a b c : World} {k k' : Dk} {W W' : List Wt} (h : Moved a b k k' W W') (g : b.grownBy c none) : Moved a c k k' W W' := ⟨h.d, h.db, h.own, h.blk, h.kept.trans (Kept.new g _) (fun _ _ e => e)⟩
theorem Moved.pre {a b c : World} {k k' : Dk} {W W' : List Wt} (g : a.grownBy b none) (h : Moved b c k k' W W') : Moved a c k k' W W' :=
  ⟨h.d, h.db, fun i hi => (h.own i hi).imp id (fun e => Nat.le_trans g.size e), fun x hx => (h.blk x hx).imp id (fun e => Nat.le_trans g.size e), (Kept.new g _).trans h.kept (fun _ _ e => e)⟩
section
variable {w0 w : World} {k : Dk} {n size : Nat} {D : List Nat} {W : List Wt}
theorem Wrote.moved {w' : World} {k' : Dk} {s : Nat} {xs : List Nat} (hw : Wrote w w' k k' n size D W s xs) : Moved w w' k k' W (W ++ [⟨s, w.heap.size, xs⟩]) := by
  refine ⟨hw.d, hw.db, ?_, ?_, hw.kept.mono ?_⟩
  · rintro i (e | e | e | e)
    · rw [hw.d] at e; exact Or.inl (.inl e)
    · rw [hw.db] at e; exact Or.inl (.inr (.inl e))
    · exact (hw.vw i e).imp (fun e => .inr (.inr (.inl e))) id
    · rw [hw.mb] at e; exact Or.inl (.inr (.inr (.inr e)))
  · intro x hx
    rcases List.mem_append.1 hx with hx | hx
    · exact Or.inl ⟨x, hx, rfl⟩
    · simp at hx; subst hx; exact Or.inr (Nat.le_refl _)
  · rintro i _ (e | e | e)
    · exact .inl e
    · exact .inr (.inr (.inl e))
    · exact .inr (.inr (.inr e))
theorem calm_moved {w' : World} (hk : Kept w w' (fun i => i = k.d ∨ i = k.db ∨ i = k.mb)) : Moved w w' k k.calm W [] := by
  refine ⟨rfl, rfl, ?_, by simp, hk.mono ?_⟩
  · rintro i (e | e | e | e)
    · exact Or.inl (.inl e)
    · exact Or.inl (.inr (.inl e))
    · simp [Dk.calm, Value.ownBlock] at e
    · exact Or.inl (.inr (.inr (.inr e)))
  · rintro i _ (e | e | e)
    · exact .inl e
    · exact .inr (.inl e)
    · exact .inr (.inr (.inr e))
end

theorem do4 (x : Int) : x % 4 = 2 ∨ x % 4 = 3 ∨ (x % 4 = 0 ∨ x % 4 = 1) := by omega
theorem take_snoc {α : Type} (l : List α) (j : Nat) (x : α) (h : l[j]? = some x) : l.take (j + 1) = l.take j ++ [x] := by
  rw [List.take_add_one, h]; rfl
end Go.Proofs.YtonokaelbpfjnabGreatDoor
/- The contract of Image. -/
namespace Go.Proofs.YtonokaelbpfjnabGreatDoor
open Go.RowKit Ap
attribute [local go_sem ↓] Go.wp_at_zero Go.wp_at_succ

theorem Tryz.info39 : (Tryz.prog.info? 39).map (fun i => (i.zero, i.size, i.bytes)) = some (some (.slice none 0 0), 1, 24) := by kernel_rfl
/-- Slices of one size, each from the beginning of its block. -/
def slv (size : Nat) (hs : List Nat) : List Value := hs.map fun h => bsl h size
def nils (n : Nat) : List Value := List.replicate n (.slice none 0 0)
theorem made_nils (n : Nat) : madeCells #[.slice none 0 0] n = (nils n).toArray := by
  apply Array.ext'
  rw [toList_madeCells_one]; rfl
theorem make_rows (n : Nat) (h : n ≤ 65536) (w : World) : (Instr.makeSlice 50 (.int .i64 (n : Int)) (.int .i64 (n : Int))).run Tryz.prog w = .ok (.slice (some ⟨w.heap.size, 0, none⟩) n n) (w.alloc (.cells (nils n).toArray 39)) := by
  obtain ⟨i0, hi, hz0, hz1, hz2⟩ := info_parts Tryz.info39
  rw [run_make (P := Tryz.prog) (w := w) 50 39 i0 (.slice none 0 0) Tryz.underlying50 hi hz0 .i64 .i64 (n : Int) (n : Int) (by omega) (by omega) (by rw [hz2]; omega) (by omega), hz1]
  rw [Int.toNat_natCast, Nat.mul_one]
  show Result.ok _ (w.alloc (.cells (madeCells #[.slice none 0 0] n) 39)) = _
  rw [made_nils]
/-- Rows in blocks of their own lie behind the slices of block g. -/
structure ImgAt (w : World) (lo g size : Nat) (R : List (List Nat)) (hs : List Nat) : Prop where
  row : w.heap[g]? = some (.cells (slv size hs).toArray 39 (0, 0))
  len : hs.length = R.length
  rows : ∀ (j h : Nat) (xs : List Nat), hs[j]? = some h → R[j]? = some xs → w.heap[h]? = some (.cells (bv xs).toArray 5 (0, 0)) ∧ xs.length = size ∧ lo ≤ h
  up : ∀ (i j a b : Nat), hs[i]? = some a → hs[j]? = some b → i < j → a < b
theorem ImgAt.grown {w w' : World} {lo g size : Nat} {R : List (List Nat)} {hs : List Nat} (h : ImgAt w lo g size R hs) (hg : w.grownBy w' none) : ImgAt w' lo g size R hs :=
  ⟨(hg.block _ (row_lt h.row) (by simp)).trans h.row, h.len, fun j a xs h1 h2 => by obtain ⟨r1, r2, r3⟩ := h.rows j a xs h1 h2; exact ⟨(hg.block _ (row_lt r1) (by simp)).trans r1, r2, r3⟩, h.up⟩
theorem ImgAt.off {w w' : World} {lo g size : Nat} {R : List (List Nat)} {hs : List Nat} {S : Nat → Prop} (h : ImgAt w lo g size R hs) (hk : Kept w w' S) (hg : ¬ S g) (hr : ∀ a ∈ hs, ¬ S a) : ImgAt w' lo g size R hs :=
  ⟨hk.at h.row hg, h.len, fun j a xs h1 h2 => by obtain ⟨r1, r2, r3⟩ := h.rows j a xs h1 h2; exact ⟨hk.at r1 (hr a (List.mem_of_getElem? h1)), r2, r3⟩, h.up⟩
theorem ImgAt.rowsAt {w : World} {lo g size : Nat} {R : List (List Nat)} {hs : List Nat} (h : ImgAt w lo g size R hs) (hsz : size ≤ 4096) : RowsAt w (some ⟨g, 0, none⟩) R := by
  intro j xs hj
  have hlt : j < hs.length := by rw [h.len]; exact (List.getElem?_eq_some_iff.1 hj).1
  obtain ⟨r1, r2, _⟩ := h.rows j hs[j] xs (List.getElem?_eq_getElem hlt) hj
  refine ⟨g, 0, some ⟨hs[j], 0, none⟩, size, rfl, ?_, at_row r1, by omega⟩
  rw [Nat.zero_add, cell_row h.row, slv, List.getElem?_map, List.getElem?_eq_getElem hlt, r2]
  rfl
theorem rowI_set (size n j : Nat) (hs : List Nat) (a : Nat) (hl : hs.length = j) (hj : j < n) : (slv size hs ++ nils (n - j)).set j (bsl a size) = slv size (hs ++ [a]) ++ nils (n - (j + 1)) := by
  have e : n - j = (n - (j + 1)) + 1 := by omega
  have hl' : (slv size hs).length = j := by simp [slv, hl]
  rw [List.set_append, hl', if_neg (by omega), Nat.sub_self, e, nils, List.replicate_succ, List.set_cons_zero, slv, slv, List.map_append, List.append_assoc]
  rfl
theorem rowI_get (size n j : Nat) (hs : List Nat) (hl : hs.length = j) (hj : j < n) : (slv size hs ++ nils (n - j))[j]? = some (.slice none 0 0) := by
  have hl' : (slv size hs).length = j := by simp [slv, hl]
  rw [List.getElem?_append_right (by omega), hl', Nat.sub_self, nils, List.getElem?_replicate, if_pos (by omega)]

section
variable {w : World} {k : Dk} {n size : Nat} {D : List Nat} {W : List Wt}
end
end Go.Proofs.YtonokaelbpfjnabGreatDoor
/- The contract of Copy. -/
namespace Go.Proofs.YtonokaelbpfjnabGreatDoor
open Go.RowKit Ap
attribute [local go_sem ↓] Go.wp_at_zero Go.wp_at_succ

theorem row_zero {w : World} {base : Nat} {e : TypeId} {size : Nat} {v : Value} {n : Nat} {xs : List Value} (h : w.ownsRow base e size v n xs) : w.ownsRow 0 e size v n xs :=
  ⟨h.1, h.2.imp id (fun ⟨g, cap, cur, e1, _, e3⟩ => ⟨g, cap, cur, e1, Nat.zero_le _, e3⟩)⟩
section
variable {w : World} {k : Dk} {n size : Nat} {D : List Nat} {W : List Wt}
end
end Go.Proofs.YtonokaelbpfjnabGreatDoor
/- Two disks that know nothing of one another. -/
namespace Go.Proofs.YtonokaelbpfjnabGreatDoor
open Go.RowKit Ap

/-- No block that the one may write is looked at by the other. -/
structure Sep (k : Dk) (W : List Wt) (k2 : Dk) (W2 : List Wt) : Prop where
  l : ∀ i, k.own i → ¬ foot k2 W2 i
  r : ∀ i, k2.own i → ¬ foot k W i
theorem Sep.symm {k k2 : Dk} {W W2 : List Wt} (h : Sep k W k2 W2) : Sep k2 W2 k W := ⟨h.r, h.l⟩
section
variable {w0 w w' : World} {k k2 k2' : Dk} {n size n2 size2 : Nat} {D D2 : List Nat} {W W2 W2' : List Wt}
theorem Sep.moved (h : Sep k W k2 W2) (hk : DiskAt w k n size D W) (hm : Moved w w' k2 k2' W2 W2') : Sep k W k2' W2' := by
  refine ⟨?_, ?_⟩
  · rintro i hi (hf | ⟨x, hx, rfl⟩)
    · rcases hm.own i hf with h1 | h1
      · exact h.l i hi (.inl h1)
      · have := hk.lt i (.inl hi); omega
    · rcases hm.blk x hx with ⟨y, hy, e⟩ | h1
      · exact h.l _ hi (.inr ⟨y, hy, e⟩)
      · have := hk.lt _ (.inl hi); omega
  · intro i hi hf
    rcases hm.own i hi with h1 | h1
    · exact h.r i h1 hf
    · have := hk.lt i hf; omega
theorem DkS.other (h : DkS w0 w k n size D W) (hs : Sep k W k2 W2) (hm : Moved w w' k2 k2' W2 W2') (hg : w0.grownBy w' none) : DkS w0 w' k n size D W :=
  ⟨h.disk.kept hm.kept (fun i hi ho => hs.r i ho hi), h.own, hg⟩
theorem ImgAt.moved {lo g sz : Nat} {R : List (List Nat)} {hs : List Nat} {k' : Dk} {W' : List Wt} (h : ImgAt w lo g sz R hs) (hk : DiskAt w k n size D W) (hm : Moved w w' k k' W W') (hlo : k.db < lo) : ImgAt w' lo g sz R hs := by
  refine h.off hm.kept (hk.other_off h.row (by decide) (by decide) (by decide)) ?_
  intro a ha
  obtain ⟨j, hj⟩ := List.getElem?_of_mem ha
  have hjl : j < R.length := by rw [← h.len]; exact (List.getElem?_eq_some_iff.1 hj).1
  obtain ⟨r1, _, r3⟩ := h.rows j a R[j] hj (List.getElem?_eq_getElem hjl)
  exact hk.bytes_off r1 (by omega)
theorem bytes_moved {A : Nat} {c : Array Value} {k' : Dk} {W' : List Wt} (hA : w.heap[A]? = some (.cells c 5 (0, 0))) (hk : DiskAt w k n size D W) (hm : Moved w w' k k' W W') (hne : A ≠ k.db) : w'.heap[A]? = some (.cells c 5 (0, 0)) := hm.kept.at hA (hk.bytes_off hA hne)
end
/-- What is found hangs on what waits, not where. -/
theorem found_abs {size : Nat} {D : List Nat} {W W' : List Wt} {s : Nat} (h : abs W = abs W') : found size D W s = found size D W' s := by
  have key : ∀ V : List Wt, found size D V s = ((abs V).foldl (fun r x => if s = x.1 then some x.2 else r) none).getD (secOf size D s) := by
    intro V
    have e : (abs V).foldl (fun r x => if s = x.1 then some x.2 else r) none = (lastOf V s).map (fun x => x.xs) := by
      induction V using snoc_ind with
      | h0 => rfl
      | h1 l x ih =>
        rw [lastOf_snoc, abs, List.map_append, List.foldl_append]
        simp only [List.map_cons, List.map_nil, List.foldl_cons, List.foldl_nil]
        by_cases hx : s = x.sec
        · rw [if_pos hx, if_pos hx]; rfl
        · rw [if_neg hx, if_neg hx]; exact ih
    rw [e, found]
    cases lastOf V s <;> rfl
  rw [key, key, h]
end Go.Proofs.YtonokaelbpfjnabGreatDoor
/- The contracts of LentBytes, KeptBytes, OverBytes. -/
namespace Go.Proofs.YtonokaelbpfjnabGreatDoor
open Go.RowKit Ap
attribute [local go_sem ↓] Go.wp_at_zero Go.wp_at_succ
/-- Bytes that were lent: they, and twelve marks behind their end. -/
def LentAt (w : World) (B : Nat) (v : Value) (xs : List Nat) : Prop :=
  ∃ g cap, v = .slice (some ⟨g, 0, none⟩) xs.length cap ∧ w.ownsRow B 5 1 (.slice (some ⟨g, 0, none⟩) (xs.length + 12) cap) (xs.length + 12) (bv (xs ++ marks 1 12))

/-- What is lent, as bytes that lie somewhere: they and the marks. -/
theorem LentAt.all {w : World} {B : Nat} {v : Value} {xs : List Nat} (h : LentAt w B v xs) : ∃ g cap, v = .slice (some ⟨g, 0, none⟩) xs.length cap ∧ xs.length + 12 ≤ cap ∧ cap ≤ maxLen ∧ B ≤ g ∧ g < w.heap.size ∧
    At w (some ⟨g, 0, none⟩) (xs ++ marks 1 12) ∧ ∃ cur, w.heap[g]? = some (.cells cur 5 (0, 0)) ∧ cur.size = cap := by
  obtain ⟨g, cap, rfl, hown⟩ := h
  obtain ⟨ao', cap', hv, hl, hnc, hcm, hat', hnil', h5⟩ := own_at hown
  cases hv
  obtain ⟨_, hb, hlt⟩ := h5 _ rfl
  rcases hown.2 with ⟨hx, _⟩ | ⟨g2, cap2, cur, hv, _, hc, _, _, hs, _⟩
  · cases hx
  · cases hv
    exact ⟨g, cap, rfl, hnc, hcm, hb, hlt, hat', cur, hc, by simpa using hs⟩
theorem LentAt.at {w : World} {B : Nat} {v : Value} {xs : List Nat} (h : LentAt w B v xs) : ∃ g cap, v = .slice (some ⟨g, 0, none⟩) xs.length cap ∧ xs.length ≤ cap ∧ cap ≤ maxLen ∧ B ≤ g ∧ g < w.heap.size ∧ At w (some ⟨g, 0, none⟩) xs ∧ ∃ cur, w.heap[g]? = some (.cells cur 5 (0, 0)) := by
  obtain ⟨g, cap, hv, h1, h2, h3, h4, h5, cur, hc, _⟩ := h.all
  refine ⟨g, cap, hv, by omega, h2, h3, h4, ?_, cur, hc⟩
  intro j u hu
  exact h5 j u (by rw [List.getElem?_append_left (List.getElem?_eq_some_iff.1 hu).1, hu])

end Go.Proofs.YtonokaelbpfjnabGreatDoor
/- The contracts of LentFates, KeptFates. -/
namespace Go.Proofs.YtonokaelbpfjnabGreatDoor
open Go.RowKit Ap
attribute [local go_sem ↓] Go.wp_at_zero Go.wp_at_succ

theorem Tryz.info198 : (Tryz.prog.info? 198).map (fun i => (i.zero, i.size, i.bytes)) = some (some (.agg #[.int .i64 0, .int .i64 0]), 2, 16) := by kernel_rfl
theorem eq_fate (K A : Int) (w : World) : (binOp .eql 198 (.agg #[.int .i64 K, .int .i64 A]) (.agg #[.int .i64 K, .int .i64 A])).run Tryz.prog w = .ok (.bool true) w := by
  have u3 := Tryz.underlying3
  have a3 := Tryz.isAgg3
  have z3 := Tryz.sizeOf3
  have u67 := Tryz.underlying196
  have a67 := Tryz.isAgg67
  have z67 := Tryz.sizeOf67
  have hS : Tryz.prog.underlying 198 = some (.struct (Tryz.prog.fieldsOf 198)) := by kernel_rfl
  have hp : Tryz.prog.stoodInHeld 198 = false := by kernel_rfl
  rw [run_eql_struct, show (10000 : Nat) = 9999 + 1 from rfl, run_equalIn_struct w 9999 198 _ _ hS hp]
  simp only [Program.fieldsOf, Tryz.underlying198]
  go_simp

/-- The mark of a place in a list of fates. -/
def mkF (i : Nat) : Int × Int := (0, 8000024 + (i : Int))
def fmarks (j : Nat) : List (Int × Int) := (List.range j).map mkF
theorem fmarks_length (j : Nat) : (fmarks j).length = j := by simp [fmarks]
theorem fmarks_succ (j : Nat) : fmarks (j + 1) = fmarks j ++ [mkF j] := by simp [fmarks, List.range_succ]
theorem fmarks_get (j i : Nat) (h : i < j) : (fmarks j)[i]? = some (mkF i) := by simp [fmarks, h]
set_option maxHeartbeats 400000 in
theorem mark_fate (i : Nat) (w : World) (hi : i ≤ 1000000) : Calls Tryz.prog 98 #[.int .i64 1, .int .i64 (i : Int)] w fun e w' => e = .returned (.agg #[.int .i64 (mkF i).1, .int .i64 (mkF i).2]) ∧ w.grownBy w' none := by
  have hmk : ∀ w, Calls Tryz.prog 95 #[.int .i64 1, .int .i64 (i : Int)] w fun e w' => e = .returned (.int .i64 (8000024 + (i : Int))) ∧ w' = w := by
    intro w
    go_enter Tryz.func95, Tryz.ntmps95
    go_wp2
    go_ret
    exact ⟨by simp, rfl⟩
  have HM := hide hmk
  clear hmk
  unfold mkF
  go_enter Tryz.func98, Tryz.ntmps98
  go_wp2_with fail
  refine (HM.out _).mono ?_
  rintro e w' ⟨rfl, rfl⟩
  go_wp2
  refine bodyPost_ret (results_cell_row rfl _ _ w.heap.size 198 #[.int .i64 0, .int .i64 (8000024 + (i : Int))] (0, 0) _ rfl (heap_alloc_new w _) Tryz.underlying198 rfl (by kernel_rfl)) rfl ?_
  exact ⟨rfl, World.grownBy_alloc w _ none⟩
theorem fcells_length (F : List (Int × Int)) : (fcells F).length = F.length * 2 := by
  induction F with
  | nil => rfl
  | cons x r ih => simp [fcells] at ih ⊢; omega
theorem fcells_append (F G : List (Int × Int)) : fcells (F ++ G) = fcells F ++ fcells G := by simp [fcells]
theorem fcells_one (F : List (Int × Int)) : ∀ u ∈ fcells F, u.oneCell' = true := by
  intro u hu
  simp [fcells] at hu
  obtain ⟨a, b, _, rfl | rfl⟩ := hu <;> rfl
/-- Fates that lie somewhere, as cells one behind the other. -/
theorem fates_news {w : World} {ad : Addr} {F : List (Int × Int)} (h : FatesAt w (some ad) F) : ∀ j u, (fcells F)[j]? = some u → w.cell? (ad.add j) = some u := by
  intro j u hu
  have hlt := (List.getElem?_eq_some_iff.1 hu).1
  rw [fcells_length] at hlt
  obtain ⟨i, r, hr, rfl⟩ : ∃ i r, r < 2 ∧ j = i * 2 + r := ⟨j / 2, j % 2, by omega, by omega⟩
  have hi : i < F.length := by omega
  obtain ⟨b, o, e, c1, c2⟩ := h i F[i] (List.getElem?_eq_getElem hi)
  obtain ⟨a1, a2⟩ := fcells_get F i F[i] (List.getElem?_eq_getElem hi)
  cases e
  rw [Addr.add_lit]
  match r, hr with
  | 0, _ => rw [Nat.add_zero] at hu ⊢; rw [a1] at hu; cases hu; exact c1
  | 1, _ => rw [a2] at hu; cases hu; exact c2
theorem own_fates {w : World} {base n g cap : Nat} {F : List (Int × Int)} (h : w.ownsRow base 198 2 (.slice (some ⟨g, 0, none⟩) n cap) n (fcells F)) : FatesAt w (some ⟨g, 0, none⟩) F := by
  intro j p hj
  obtain ⟨a1, a2⟩ := fcells_get F j p hj
  refine ⟨g, 0, rfl, ?_, ?_⟩
  · have := h.cells rfl _ _ a1
    rwa [Addr.add_lit] at this
  · have := h.cells rfl _ _ a2
    rwa [Addr.add_lit] at this
/-- append(s, x...) of fates. -/
theorem wpList_append_fates {w : World} {ops : Array Oper} {rest : List Oper} {o : Oper} {a : Act} {Q : Exit → Act → World → Prop} (hgd : o.guard = none) (s x : Operand)
    (ho : o.op = .call { callee := .builtin .append, args := #[s, x], argTypes := #[195, 195] }) (base : Nat) (v : Value) (n : Nat) (F : List (Int × Int)) (hs : a.eval s = v) (hown : w.ownsRow base 198 2 v n (fcells F))
    (ao : Option Addr) (m c : Nat) (G : List (Int × Int)) (hx : a.eval x = .slice ao m c) (hm : G.length = m) (hat : FatesAt w ao G) (hnil : ao = none → m = 0 ∧ c = 0)
    (hbytes : (n + m) * 16 ≤ 140737488355328) (hbase : base ≤ w.heap.size)
    (h : ∀ v' w', w'.ownsRow base 198 2 v' (n + m) (fcells (F ++ G)) → w.grownBy w' v.ownBlock → wpList Tryz.prog ops Q rest (a.put o.dst v') w') : wpList Tryz.prog ops Q (o :: rest) a w := by
  obtain ⟨i0, hi, hz0, hz1, hz2⟩ := info_parts Tryz.info198
  cases ao with
  | none =>
    obtain ⟨rfl, rfl⟩ := hnil rfl
    refine wpList_append_own_none hgd s x 195 ho base 198 i0 2 Tryz.underlying195 hi v n (fcells F) hs hown hx (h v w ?_ (grown_refl w _))
    have : G = [] := List.eq_nil_of_length_eq_zero hm
    subst this
    simpa using hown
  | some ad =>
    exact wpList_append_own _ hgd s x 195 ho base 198 i0 (.agg #[.int .i64 0, .int .i64 0]) 2 16 Tryz.underlying195 hi hz0 hz1 hz2 rfl (by decide) v n (fcells F) hs hown ad m c (fcells G) hx (by rw [fcells_length, hm]) (fates_news hat) (fcells_one G) (by unfold maxLen; omega) (by omega) hbase (fun v' w' h1 h2 _ => h v' w' (by rw [fcells_append]; exact h1) h2)
/-- Fates that were lent: they, and twelve marks behind their end. -/
def LentF (w : World) (B : Nat) (v : Value) (F : List (Int × Int)) : Prop :=
  ∃ g cap, v = .slice (some ⟨g, 0, none⟩) F.length cap ∧ w.ownsRow B 198 2 (.slice (some ⟨g, 0, none⟩) (F.length + 12) cap) (F.length + 12) (fcells (F ++ fmarks 12))
theorem slice_toF (ao : Option Addr) (len cap n : Nat) (h : n ≤ cap) (w : World) : (Instr.slice 195 (.slice ao len cap) none (some (.int .i64 (n : Int))) none).run Tryz.prog w = .ok (.slice ao n cap) w := by
  simp [Instr.slice, run_underlying Tryz.underlying195, Instr.sliceBounds, Instr.sliceBound, asIntOf, h]
  intro _; cases ao <;> simp [Addr.add]
def curF (n : Nat) : Array Value := madeCells #[.int .i64 0, .int .i64 0] ((n + 12) * 2)
theorem curF_size (n : Nat) : (curF n).size = (n + 12) * 2 := size_madeCells _ _
theorem make_capF (n : Nat) (h : n * 16 ≤ 140737488355328) (w : World) : (Instr.makeSlice 195 (.int .i64 0) (.int .i64 ((n : Int) + 12))).run Tryz.prog w = .ok (.slice (some ⟨w.heap.size, 0, none⟩) 0 (n + 12)) (w.alloc (.cells (curF n) 198)) := by
  obtain ⟨i0, hi, hz0, hz1, hz2⟩ := info_parts Tryz.info198
  rw [run_make (P := Tryz.prog) (w := w) 195 198 i0 (.agg #[.int .i64 0, .int .i64 0]) Tryz.underlying195 hi hz0 .i64 .i64 0 ((n : Int) + 12) (by omega) (by omega) (by rw [hz2]; omega) (by omega), hz1]
  have e : ((n : Int) + 12).toNat = n + 12 := by omega
  rw [e]
  rfl
end Go.Proofs.YtonokaelbpfjnabGreatDoor
/- The contract of KeptFates. -/
namespace Go.Proofs.YtonokaelbpfjnabGreatDoor
open Go.RowKit Ap
attribute [local go_sem ↓] Go.wp_at_zero Go.wp_at_succ

end Go.Proofs.YtonokaelbpfjnabGreatDoor
/- The document's disk that is none; a call of no disk. -/
namespace Go.Proofs.YtonokaelbpfjnabGreatDoor
open Go.RowKit Ap
attribute [local go_sem ↓] Go.wp_at_zero Go.wp_at_succ

/-- The document's disk without sectors. -/
def Empty (w : World) (rb : Nat) : Prop := w.heap[rb]? = some (.cells #[.slice none 0 0, .slice none 0 0] 127 (0, 0))
theorem Empty.grown {w w' : World} {rb : Nat} (h : Empty w rb) (hg : w.grownBy w' none) : Empty w' rb := (hg.block _ (row_lt h) (by simp)).trans h
theorem Empty.c0 {w : World} {rb : Nat} (h : Empty w rb) : w.cell? ⟨rb, 0, none⟩ = some (.slice none 0 0) := by unfold Empty at h; simp [World.cell?, h]
theorem Empty.c1 {w : World} {rb : Nat} (h : Empty w rb) : w.cell? ⟨rb, 1, none⟩ = some (.slice none 0 0) := by unfold Empty at h; simp [World.cell?, h]

section
variable {w : World} {rb : Nat}
theorem rsize0 (h : Empty w rb) : Calls Tryz.prog 82 #[.pointer (some ⟨rb, 0, none⟩)] w fun e w' => e = .returned (.int .i64 0) ∧ w' = w := by
  have c0 := h.c0
  clear h
  go_enter Tryz.func82, Tryz.ntmps82
  go_wp2
  go_ret
  exact ⟨rfl, rfl⟩
theorem rsectors0 (h : Empty w rb) : Calls Tryz.prog 78 #[.pointer (some ⟨rb, 0, none⟩)] w fun e w' => e = .returned (.int .i64 0) ∧ w' = w := by
  have c0 := h.c0
  clear h
  go_enter Tryz.func78, Tryz.ntmps78
  go_wp2
  go_ret
  exact ⟨rfl, rfl⟩
end

/-- How many bytes an operation writes. -/
def opLen (less : Int) (size : Nat) : Nat := if less % 16 = 15 then (less % 200).toNat else size
theorem opLen_le (less : Int) (size : Nat) : opLen less size ≤ size + 200 := by unfold opLen; split <;> omega
end Go.Proofs.YtonokaelbpfjnabGreatDoor
/- What a crash leaves; what was written, kept beside the disk. -/
namespace Go.Proofs.YtonokaelbpfjnabGreatDoor
open Go.RowKit Ap

theorem splice_nil (D : List Nat) (o : Nat) : splice D o [] = D := by simp [splice]
/-- Without fates nothing becomes durable. -/
theorem stl_lost (size : Nat) (D : List Nat) (W : List Wt) (j : Nat) : stl size (fun i => lasts (fateK [] i) (fateA [] i) size) D W j = D := by
  induction j with
  | zero => rfl
  | succ j ih =>
    rw [stl]
    split
    · have : lasts (fateK [] j) (fateA [] j) size = 0 := by simp [fateK, lasts]
      rw [this, List.take_zero, splice_nil, ih]
    · exact ih
/-- With all kept a sector is what was found. -/
theorem stlS_kept {n size : Nat} (W : List Wt) (hW : Fits n size W) (L : Nat → Nat) (hL : ∀ i, i < W.length → L i = size) (s : Nat) (old : List Nat) (ho : old.length = size) (j : Nat) (hj : j ≤ W.length) :
    stlS L W s old j = match lastOf (W.take j) s with
      | some x => x.xs
      | none => old := by
  induction j with
  | zero => rfl
  | succ j ih =>
    have hx := List.getElem?_eq_getElem (show j < W.length by omega)
    rw [take_snoc W j _ hx, lastOf_snoc, stlS, hx]
    show (if W[j].sec = s then over (W[j].xs.take (L j)) (stlS L W s old j) else stlS L W s old j) = _
    by_cases hs : W[j].sec = s
    · rw [if_pos hs, if_pos hs.symm]
      have h2 := (hW W[j] (List.getElem_mem _)).2
      rw [hL j (by omega), List.take_of_length_le (by omega), over]
      have h3 : (stlS L W s old j).length ≤ W[j].xs.length := by
        rw [ih (by omega), h2]
        cases hl : lastOf (W.take j) s with
        | none => simp [ho]
        | some x => exact Nat.le_of_eq (hW x (List.mem_of_mem_take (lastOf_mem hl).1)).2
      rw [List.drop_eq_nil_of_le h3, List.append_nil]
    · rw [if_neg hs, if_neg (fun e => hs e.symm)]
      exact ih (by omega)
theorem found_kept {n size : Nat} {D : List Nat} {W : List Wt} (hD : D.length = n * size) (hW : Fits n size W) (L : Nat → Nat) (hL : ∀ i, i < W.length → L i = size) (s : Nat) (hs : s < n) :
    secOf size (stl size L D W W.length) s = found size D W s := by
  rw [secOf_stl hD hW, stlS_kept W hW L hL s _ (secOf_length hD hs) W.length (Nat.le_refl _), List.take_length]
  rfl
/-- Each byte is as it was, or as one of the writes has it. -/
theorem stlS_byte (W : List Wt) (L : Nat → Nat) (s : Nat) (old : List Nat) (i : Nat) : ∀ j, (stlS L W s old j)[i]? = old[i]? ∨ ∃ (q : Nat) (x : Wt), W[q]? = some x ∧ x.sec = s ∧ (stlS L W s old j)[i]? = x.xs[i]?
  | 0 => Or.inl rfl
  | j + 1 => by
    have ih := stlS_byte W L s old i j
    rw [stlS]
    cases hx : W[j]? with
    | none => exact ih
    | some x =>
      show (if x.sec = s then over (x.xs.take (L j)) (stlS L W s old j) else stlS L W s old j)[i]? = _ ∨ ∃ (q : Nat) (y : Wt), _ ∧ _ ∧ (if x.sec = s then over (x.xs.take (L j)) (stlS L W s old j) else stlS L W s old j)[i]? = _
      by_cases hs : x.sec = s
      · rw [if_pos hs, over_get]
        by_cases hi : i < (x.xs.take (L j)).length
        · rw [if_pos hi]
          right
          refine ⟨j, x, hx, hs, ?_⟩
          rw [List.getElem?_take, if_pos (by simp at hi; omega)]
        · rw [if_neg hi]; exact ih
      · rw [if_neg hs]; exact ih
theorem fits_abs {n size : Nat} {W W' : List Wt} (h : abs W = abs W') (hW : Fits n size W) : Fits n size W' := by
  intro x hx
  have : (x.sec, x.xs) ∈ abs W := by rw [h]; exact List.mem_map.2 ⟨x, hx, rfl⟩
  obtain ⟨y, hy, e⟩ := List.mem_map.1 this
  simp only [Prod.mk.injEq] at e
  rw [← e.1, ← e.2]
  exact hW y hy

theorem own_block {w : World} {B : Nat} {e : TypeId} {s : Nat} {v : Value} {n : Nat} {xs : List Value} (h : w.ownsRow B e s v n xs) : ∀ g, v.ownBlock = some g → B ≤ g ∧ ∃ cur, w.heap[g]? = some (.cells cur e (0, 0)) := by
  intro g hg
  rcases h.2 with ⟨rfl, _⟩ | ⟨g', cap, cur, rfl, h1, h2, _⟩
  · cases hg
  · cases hg; exact ⟨h1, cur, h2⟩
theorem own_form {w : World} {B : Nat} {e : TypeId} {s : Nat} {v : Value} {n : Nat} {xs : List Value} (h : w.ownsRow B e s v n xs) : ∃ ao cap, v = .slice ao n cap ∧ (0 < n → ∃ g, ao = some ⟨g, 0, none⟩) ∧ n ≤ cap ∧ (ao = none → n = 0 ∧ cap = 0) := by
  rcases h.2 with ⟨rfl, rfl⟩ | ⟨g', cap, cur, rfl, h1, h2, h3, _⟩
  · exact ⟨none, 0, rfl, fun h => absurd h (Nat.lt_irrefl _), Nat.le_refl _, fun _ => ⟨rfl, rfl⟩⟩
  · exact ⟨_, cap, rfl, fun _ => ⟨g', rfl⟩, h3, fun e => by cases e⟩
section
variable {w0 w w' : World} {k : Dk} {n size : Nat} {D : List Nat} {W : List Wt}
/-- An append to a row of another type. -/
theorem DkS.after (h : DkS w0 w k n size D W) {v : Value} (hg : w.grownBy w' v.ownBlock) (hv : ∀ b, v.ownBlock = some b → w0.heap.size ≤ b ∧ ∃ c t, w.heap[b]? = some (.cells c t (0, 0)) ∧ t ≠ 124 ∧ t ≠ 5 ∧ t ≠ 269) : DkS w0 w' k n size D W := by
  refine ⟨h.disk.same fun i hi => hg.block i (h.disk.lt i hi) ?_, h.own, grown_then h.grown hg (fun j e => Or.inl (hv j e).1)⟩
  intro e
  obtain ⟨_, c, t, h1, h2, h3, h4⟩ := hv i e.symm
  rcases hi with hi | ⟨x, hx, rfl⟩
  · exact h.disk.other_off h1 h2 h3 h4 hi
  · rw [(h.disk.waits x hx).2.2.2] at h1; simp at h1; exact h3 h1.2.symm
end
/-- Two copies of one disk. -/
theorem sep_copies {w0 w : World} {k k1 k2 : Dk} {n size : Nat} {D : List Nat} {W : List Wt} (h1 : DkS w0 w k1 n size D W) (s1 : Sep k W k1 W) (h2 : ∀ i, k2.own i → w.heap.size ≤ i) : Sep k1 W k2 W := by
  refine ⟨?_, ?_⟩
  · rintro i hi (hf | ⟨x, hx, rfl⟩)
    · have := h2 i hf; have := h1.disk.lt i (.inl hi); omega
    · exact s1.r _ hi (.inr ⟨x, hx, rfl⟩)
  · intro i hi hf
    have := h2 i hi; have := h1.disk.lt i hf; omega
/-- What was written, and where. -/
structure Log (w : World) (B : Nat) (v u : Value) (W : List Wt) (gs : List Nat) : Prop where
  wro : w.ownsRow B 39 1 v W.length (slv 64 gs)
  whe : w.ownsRow B 3 1 u W.length (W.map fun x => .int .i64 (x.sec : Int))
  len : gs.length = W.length
  rows : ∀ (i g : Nat) (x : Wt), gs[i]? = some g → W[i]? = some x → w.heap[g]? = some (.cells (bv x.xs).toArray 5 (0, 0)) ∧ B ≤ g
theorem Log.same {w w' : World} {B : Nat} {v u : Value} {W : List Wt} {gs : List Nat} (h : Log w B v u W gs) (hb : ∀ i, B ≤ i → (∃ c t, (t = 39 ∨ t = 3 ∨ t = 5) ∧ w.heap[i]? = some (.cells c t (0, 0))) → w'.heap[i]? = w.heap[i]?) : Log w' B v u W gs := by
  refine ⟨?_, ?_, h.len, ?_⟩
  · refine ⟨h.wro.1, ?_⟩
    rcases h.wro.2 with e | ⟨g, cap, cur, rfl, h1, h2, h3⟩
    · exact Or.inl e
    · exact Or.inr ⟨g, cap, cur, rfl, h1, (hb g h1 ⟨cur, 39, .inl rfl, h2⟩).trans h2, h3⟩
  · refine ⟨h.whe.1, ?_⟩
    rcases h.whe.2 with e | ⟨g, cap, cur, rfl, h1, h2, h3⟩
    · exact Or.inl e
    · exact Or.inr ⟨g, cap, cur, rfl, h1, (hb g h1 ⟨cur, 3, .inr (.inl rfl), h2⟩).trans h2, h3⟩
  · intro i g x h1 h2
    obtain ⟨r1, r2⟩ := h.rows i g x h1 h2
    exact ⟨(hb g r2 ⟨_, 5, .inr (.inr rfl), r1⟩).trans r1, r2⟩
theorem Log.grown {w w' : World} {B : Nat} {v u : Value} {W : List Wt} {gs : List Nat} (h : Log w B v u W gs) (hg : w.grownBy w' none) : Log w' B v u W gs :=
  h.same fun i _ ⟨_, _, _, hi⟩ => hg.block i (row_lt hi) (by simp)
theorem Log.moved {w w' : World} {B : Nat} {v u : Value} {W : List Wt} {gs : List Nat} {k k' : Dk} {n size : Nat} {D : List Nat} {V V' : List Wt} (h : Log w B v u W gs) (hk : DiskAt w k n size D V) (hm : Moved w w' k k' V V') (hB : k.db < B) : Log w' B v u W gs :=
  h.same fun i hi ⟨c, t, ht, hc⟩ => hm.kept.block i (row_lt hc) (by
    rcases ht with rfl | rfl | rfl
    · exact hk.other_off hc (by decide) (by decide) (by decide)
    · exact hk.other_off hc (by decide) (by decide) (by decide)
    · exact hk.bytes_off hc (by omega))
/-- Its blocks. -/
def lblk (v u : Value) (gs : List Nat) (i : Nat) : Prop := v.ownBlock = some i ∨ u.ownBlock = some i ∨ i ∈ gs
theorem Log.off {w w' : World} {B : Nat} {v u : Value} {W : List Wt} {gs : List Nat} {S : Nat → Prop} (h : Log w B v u W gs) (hk : Kept w w' S) (hS : ∀ i, lblk v u gs i → ¬ S i) : Log w' B v u W gs := by
  refine ⟨?_, ?_, h.len, ?_⟩
  · refine ⟨h.wro.1, ?_⟩
    rcases h.wro.2 with e | ⟨g, cap, cur, rfl, h1, h2, h3⟩
    · exact Or.inl e
    · exact Or.inr ⟨g, cap, cur, rfl, h1, hk.at h2 (hS g (.inl rfl)), h3⟩
  · refine ⟨h.whe.1, ?_⟩
    rcases h.whe.2 with e | ⟨g, cap, cur, rfl, h1, h2, h3⟩
    · exact Or.inl e
    · exact Or.inr ⟨g, cap, cur, rfl, h1, hk.at h2 (hS g (.inr (.inl rfl))), h3⟩
  · intro i g x h1 h2
    obtain ⟨r1, r2⟩ := h.rows i g x h1 h2
    exact ⟨hk.at r1 (hS g (.inr (.inr (List.mem_of_getElem? h1)))), r2⟩
theorem Log.lt {w : World} {B : Nat} {v u : Value} {W : List Wt} {gs : List Nat} (h : Log w B v u W gs) : ∀ i, lblk v u gs i → i < w.heap.size := by
  rintro i (e | e | e)
  · obtain ⟨_, c, q⟩ := own_block h.wro i e; exact row_lt q
  · obtain ⟨_, c, q⟩ := own_block h.whe i e; exact row_lt q
  · obtain ⟨j, hj⟩ := List.getElem?_of_mem e
    have hl : j < W.length := by rw [← h.len]; exact (List.getElem?_eq_some_iff.1 hj).1
    exact row_lt (h.rows j i W[j] hj (List.getElem?_eq_getElem hl)).1
/-- Rows that were found. -/
structure FAt (w : World) (B gf cap : Nat) (fs : List Nat) (R : List (List Nat)) : Prop where
  row : w.ownsRow B 39 1 (.slice (some ⟨gf, 0, none⟩) R.length cap) R.length (slv 64 fs)
  len : fs.length = R.length
  rows : ∀ (i g : Nat) (xs : List Nat), fs[i]? = some g → R[i]? = some xs → w.heap[g]? = some (.cells (bv xs).toArray 5 (0, 0)) ∧ B ≤ g ∧ xs.length = 64
theorem FAt.off {w w' : World} {B gf cap : Nat} {fs : List Nat} {R : List (List Nat)} {S : Nat → Prop} (h : FAt w B gf cap fs R) (hk : Kept w w' S) (hS : ∀ i, B ≤ i → ¬ S i) : FAt w' B gf cap fs R := by
  refine ⟨?_, h.len, ?_⟩
  · refine ⟨h.row.1, ?_⟩
    rcases h.row.2 with e | ⟨g, cap, cur, e, h1, h2, h3⟩
    · exact Or.inl e
    · exact Or.inr ⟨g, cap, cur, e, h1, hk.at h2 (hS g h1), h3⟩
  · intro i g xs h1 h2
    obtain ⟨r1, r2, r3⟩ := h.rows i g xs h1 h2
    exact ⟨hk.at r1 (hS g r2), r2, r3⟩
theorem FAt.grown {w w' : World} {B gf cap : Nat} {fs : List Nat} {R : List (List Nat)} (h : FAt w B gf cap fs R) (hg : w.grownBy w' none) : FAt w' B gf cap fs R := h.off (Kept.new hg (fun _ => False)) (fun _ _ e => e)
/-- What is found in each sector. -/
def foundR (D : List Nat) (W : List Wt) : List (List Nat) := (List.range 4).map (found 64 D W)
theorem foundR_get (D : List Nat) (W : List Wt) (i : Nat) (h : i < 4) : (foundR D W)[i]? = some (found 64 D W i) := by simp [foundR, h]
theorem found_length {n size : Nat} {D : List Nat} {W : List Wt} (hD : D.length = n * size) (hW : Fits n size W) (s : Nat) (hs : s < n) : (found size D W s).length = size := by
  unfold found
  cases hl : lastOf W s with
  | none => exact secOf_length hD hs
  | some x => exact (hW x (lastOf_mem hl).1).2
theorem secs_kept {D : List Nat} {W : List Wt} (hD : D.length = 4 * 64) (hW : Fits 4 64 W) (L : Nat → Nat) (hL : ∀ i, i < W.length → L i = 64) : secs 4 64 (stl 64 L D W W.length) = foundR D W := by
  unfold secs foundR
  apply List.map_congr_left
  intro s hs
  exact found_kept hD hW L hL s (by simpa using hs)
theorem FAt.rowsAt {w : World} {B gf cap : Nat} {fs : List Nat} {R : List (List Nat)} (h : FAt w B gf cap fs R) : RowsAt w (some ⟨gf, 0, none⟩) R := by
  intro j xs hj
  have hlt : j < fs.length := by rw [h.len]; exact (List.getElem?_eq_some_iff.1 hj).1
  obtain ⟨r1, _, r3⟩ := h.rows j fs[j] xs (List.getElem?_eq_getElem hlt) hj
  refine ⟨gf, 0, some ⟨fs[j], 0, none⟩, 64, rfl, ?_, at_row r1, by omega⟩
  have := h.row.cells rfl j (bsl fs[j] 64) (by rw [slv, List.getElem?_map, List.getElem?_eq_getElem hlt]; rfl)
  rw [Addr.add_lit] at this
  rw [this, r3]
  rfl
theorem FatesAt.off {w w' : World} {fo : Option Addr} {F : List (Int × Int)} {S : Nat → Prop} {B : Nat} (h : FatesAt w fo F) (hk : Kept w w' S) (hB : ∀ a, fo = some a → 0 < F.length → B ≤ a.block) (hS : ∀ i, B ≤ i → ¬ S i) : FatesAt w' fo F := by
  intro j p hj
  obtain ⟨b, o, e, h1, h2⟩ := h j p hj
  have hl : 0 < F.length := Nat.lt_of_le_of_lt (Nat.zero_le _) (List.getElem?_eq_some_iff.1 hj).1
  have hb := hB ⟨b, o, none⟩ e hl
  have key : ∀ (q : Nat) (x : Value), w.cell? ⟨b, q, none⟩ = some x → w'.cell? ⟨b, q, none⟩ = some x := fun q x hx => (World.cell?_of_block (hk.block b (cell_lt hx) (hS b hb))).trans hx
  exact ⟨b, o, e, key _ _ h1, key _ _ h2⟩
theorem calm_own {k : Dk} {i : Nat} (h : k.calm.own i) : k.own i := by
  rcases h with e | e | e | e
  · exact .inl e
  · exact .inr (.inl e)
  · simp [Dk.calm, Value.ownBlock] at e
  · exact .inr (.inr (.inr e))
theorem log_abs {w : World} {B : Nat} {v u : Value} {W W' : List Wt} {gs : List Nat} (h : Log w B v u W gs) (e : abs W = abs W') : Log w B v u W' gs := by
  have hl : W'.length = W.length := by rw [← abs_length, ← e, abs_length]
  have hm : (W'.map fun x => Value.int .i64 (x.sec : Int)) = W.map fun x => Value.int .i64 (x.sec : Int) := by
    have h1 : ∀ V : List Wt, (V.map fun x => Value.int .i64 (x.sec : Int)) = (abs V).map fun p => Value.int .i64 (p.1 : Int) := fun V => by simp [abs]
    rw [h1, h1, e]
  refine ⟨by rw [hl]; exact h.wro, by rw [hl, hm]; exact h.whe, by rw [hl]; exact h.len, ?_⟩
  intro i g x h1 h2
  have hi : i < W.length := by rw [← hl]; exact (List.getElem?_eq_some_iff.1 h2).1
  have h3 : (abs W)[i]? = (abs W')[i]? := by rw [e]
  simp only [abs, List.getElem?_map, List.getElem?_eq_getElem hi, h2, Option.map_some, Option.some.injEq, Prod.mk.injEq] at h3
  rw [← h3.2]
  exact h.rows i g W[i] h1 (List.getElem?_eq_getElem hi)
end Go.Proofs.YtonokaelbpfjnabGreatDoor
