/- Texts joined: Awake, ArgT, ArgO, Does, Image, Copy, Sep, Lent, LentF, LentF2, None. -/
import Derived.Test.YtonokaelbpfjnaaDoorJbAc
import Derived.Test.YtonokaelbpfjnaaDoorChecked
import Derived.ProofKit
import Derived.OpenShut
import Derived.ChangeOld
import Derived.ChangeMaps5
import Derived.SizedLaws
import Derived.Deep.Slices
import Derived.Deep.CutRange
import Derived.Deep.DeepCutAuto
import Derived.Shelf.SlMaps.Clone
import Derived.Laws.StructEq
/- The contract of awake. -/
namespace Go.Proofs.YtonokaelbpfjnaaDoor
open Go.RowKit Ap
attribute [local go_sem ↓] Go.wp_at_zero Go.wp_at_succ

theorem may_2_64 : mayB 2 64 = true := by decide
theorem may_4_64 : mayB 4 64 = true := by decide
theorem may_1_64 : mayB 1 64 = true := by decide

theorem news_at {w : World} {ad : Addr} {ys : List Nat} (h : At w (some ad) ys) : ∀ j u, (bv ys)[j]? = some u → w.cell? (ad.add j) = some u := by
  intro i v hv
  rw [bv, List.getElem?_map] at hv
  cases hj : ys[i]? with
  | none => simp [hj] at hv
  | some y =>
    simp [hj] at hv
    obtain ⟨a', ea', hc'⟩ := h i y hj
    cases ea'
    rw [← hv]; exact hc'
theorem bv_one (ys : List Nat) : ∀ u ∈ bv ys, u.oneCell' = true := by
  intro v hv; rw [bv, List.mem_map] at hv; obtain ⟨y, _, rfl⟩ := hv; rfl
/-- The world behind New, two fills and two writes, as it is in awake. -/
theorem awake_found (A B : List Nat) (hA : A.length = 64) (hB : B.length = 64) (p q : Nat) :
    found 64 (stl 64 (fun i => lasts (fateK [(1, 0), (2, 3)] i) (fateA [(1, 0), (2, 3)] i) 64) (zs (2 * 64)) [⟨1, p, A⟩, ⟨1, q, B⟩] 2) [] 1 = B.take 3 ++ A.drop 3 := by
  have hF : Fits 2 64 [⟨1, p, A⟩, ⟨1, q, B⟩] := by
    intro x hx
    simp at hx
    rcases hx with rfl | rfl
    · exact ⟨by show 1 < 2; omega, hA⟩
    · exact ⟨by show 1 < 2; omega, hB⟩
  show secOf 64 _ 1 = _
  rw [secOf_stl (n := 2) (zs_length _) hF]
  have l0 : lasts (fateK [(1, 0), (2, 3)] 0) (fateA [(1, 0), (2, 3)] 0) 64 = 64 := rfl
  have l1 : lasts (fateK [(1, 0), (2, 3)] 1) (fateA [(1, 0), (2, 3)] 1) 64 = 3 := by decide
  simp only [stlS, List.getElem?_cons_zero, List.getElem?_cons_succ, if_true, l0, l1]
  rw [List.take_of_length_le (Nat.le_of_eq hA)]
  have e : over A (secOf 64 (zs (2 * 64)) 1) = A := by
    rw [zs_sec 2 64 1 (by omega), over, List.drop_eq_nil_of_le (by simp [zs, hA]), List.append_nil]
  rw [e, over]
  simp [hB]

end Go.Proofs.YtonokaelbpfjnaaDoor
/- A Tear that came in, opened. -/
namespace Go.Proofs.YtonokaelbpfjnaaDoor
open Go.ChangeShapes Go.WideShapes Go.ChangeAt Go.RowKit Go.Deep

theorem Tryd.cells3 : Tryd.prog.cellsOf 3 = 1 := by kernel_rfl
theorem Tryd.cells67 : Tryd.prog.cellsOf 162 = 1 := by kernel_rfl
theorem Tryd.cells69 : Tryd.prog.cellsOf 164 = 2 := by kernel_rfl
theorem list1 {α : Type} {l : List α} (h : l.length = 1) : ∃ a, l = [a] := by
  match l, h with
  | [a], _ => exact ⟨a, rfl⟩
theorem list2 {α : Type} {l : List α} (h : l.length = 2) : ∃ a b, l = [a, b] := by
  match l, h with
  | [a, b], _ => exact ⟨a, b, rfl⟩
theorem list4 {α : Type} {l : List α} (h : l.length = 4) : ∃ a b c d, l = [a, b, c, d] := by
  match l, h with
  | [a, b, c, d], _ => exact ⟨a, b, c, d, rfl⟩
theorem list5 {α : Type} {l : List α} (h : l.length = 5) : ∃ a b c d e, l = [a, b, c, d, e] := by
  match l, h with
  | [a, b, c, d, e], _ => exact ⟨a, b, c, d, e, rfl⟩
section
variable {H : Type} {enc : TypeId × Value → H}
/-- A fate's two numbers. -/
theorem open_fate {w : World} {base fuel : Nat} {spare : Nat → Bool} {held : Bool} {cs : List Value} {x : DataW H × List MemPlace} (h : DataW.trod enc Tryd.prog w base spare held fuel 164 cs = some x) :
    ∃ K A : Int, cs = [.int .i64 K, .int .i64 A] := by
  obtain ⟨xs, n, _, rfl, hl, hsz, hf⟩ := DataW.trod_struct Tryd.underlying164 h
  rw [Tryd.cells69] at hl
  obtain ⟨v0, v1, rfl⟩ := list2 hl
  obtain ⟨y0, y1, rfl⟩ := list2 (show xs.length = 2 from hsz)
  have f0 : DataW.trod enc Tryd.prog w base spare held n 162 [v0] = some y0 := by simpa [Tryd.cells67] using hf 0 _ rfl
  have f1 : DataW.trod enc Tryd.prog w base spare held n 3 [v1] = some y1 := by simpa [Tryd.cells3] using hf 1 _ rfl
  obtain ⟨k, e0, rfl, wk⟩ := DataW.trod_int Tryd.underlying162 f0
  obtain ⟨N, e1, rfl, wN⟩ := DataW.trod_int Tryd.underlying3 f1
  simp only [List.cons.injEq, and_true] at e0 e1
  exact ⟨k, N, by rw [e0, e1]⟩
end
end Go.Proofs.YtonokaelbpfjnaaDoor
/- Operations, scripts and fates that came in, opened. -/
namespace Go.Proofs.YtonokaelbpfjnaaDoor
open Go.ChangeShapes Go.WideShapes Go.ChangeAt Go.RowKit Go.Deep Ap

theorem Tryd.bytes69 : Tryd.prog.bytesOf 164 = 16 := by kernel_rfl
theorem list6 {α : Type} {l : List α} (h : l.length = 6) : ∃ a b c d e f, l = [a, b, c, d, e, f] := by
  match l, h with
  | [a, b, c, d, e, f], _ => exact ⟨a, b, c, d, e, f, rfl⟩
/-- A script's step: five numbers and its fates. -/
structure OpD where
  d0 : Int
  d1 : Int
  d2 : Int
  d3 : Int
  d4 : Int
  F : List (Int × Int)
/-- Fates that came in. -/
structure FIn (w : World) (fo : Option Addr) (cap : Nat) (F : List (Int × Int)) : Prop where
  at_ : FatesAt w fo F
  nil : fo = none → F.length = 0 ∧ cap = 0
  size : F.length * 16 ≤ 140737488355000
  lt : ∀ a, fo = some a → 0 < F.length → a.block < w.heap.size
structure OpAt (w : World) (b off : Nat) (o : OpD) (fo : Option Addr) (cap : Nat) : Prop where
  c0 : w.cell? ⟨b, off, none⟩ = some (.int .i64 o.d0)
  c1 : w.cell? ⟨b, off + 1, none⟩ = some (.int .i64 o.d1)
  c2 : w.cell? ⟨b, off + 2, none⟩ = some (.int .i64 o.d2)
  c3 : w.cell? ⟨b, off + 3, none⟩ = some (.int .i64 o.d3)
  c4 : w.cell? ⟨b, off + 4, none⟩ = some (.int .i64 o.d4)
  c5 : w.cell? ⟨b, off + 5, none⟩ = some (.slice fo o.F.length cap)
  fin : FIn w fo cap o.F
def OpsAt (w : World) (ao : Option Addr) (os : List OpD) : Prop := ∀ j o, os[j]? = some o → ∃ b off fo cap, ao = some ⟨b, off, none⟩ ∧ OpAt w b (off + j * 6) o fo cap
theorem cell_lt {w : World} {a : Addr} {v : Value} (h : w.cell? a = some v) : a.block < w.heap.size := by
  unfold World.cell? at h
  split at h
  · rename_i hb; exact (Array.getElem?_eq_some_iff.1 hb).1
  · cases h
theorem fates_lt {w : World} {fo : Option Addr} {F : List (Int × Int)} (h : FatesAt w fo F) : ∀ a, fo = some a → 0 < F.length → a.block < w.heap.size := by
  intro a e hl
  obtain ⟨b, o, e', c1, _⟩ := h 0 F[0] (List.getElem?_eq_getElem hl)
  rw [e] at e'
  cases e'
  exact cell_lt c1
section
variable {H : Type} {enc : TypeId × Value → H}
theorem addr_plain {w : World} {a : Addr} {v : Value} (h : w.cell? a = some v) (hv : ∀ (k : IntKind) (n : Int), v = .int k n → True) (hi : ∃ k n, v = .int k n) : a = ⟨a.block, a.off, none⟩ := by
  obtain ⟨k, n, rfl⟩ := hi
  have h2 : a.spot = none := by
    unfold World.cell? at h
    split at h
    · split at h
      · cases h
      · rename_i hs; simpa using hs
    · cases h
  cases a; simp_all
theorem weights_all_mem {P : Program} {e : TypeId} {l : List (DataW H)} {d : DataW H} (hd : d ∈ l) : ∀ n ∈ d.weights P e, n ∈ DataW.weightsAll P e l := by
  induction l with
  | nil => cases hd
  | cons x r ih =>
    intro n hn
    simp only [DataW.weightsAll, List.mem_append]
    rcases List.mem_cons.1 hd with rfl | hd
    · exact Or.inl hn
    · exact Or.inr (ih hd n hn)
end
end Go.Proofs.YtonokaelbpfjnaaDoor
/- The contract of does. -/
namespace Go.Proofs.YtonokaelbpfjnaaDoor
open Go.RowKit Ap
attribute [local go_sem ↓] Go.wp_at_zero Go.wp_at_succ

theorem FatesAt.kept2 {w w' : World} {fo : Option Addr} {F : List (Int × Int)} {row : Option Nat} (h : FatesAt w fo F) (hg : w.grownBy w' row) (hr : ∀ a, fo = some a → 0 < F.length → some a.block ≠ row) : FatesAt w' fo F := by
  intro j p hj
  obtain ⟨b, o, e, h1, h2⟩ := h j p hj
  have hl : 0 < F.length := Nat.lt_of_le_of_lt (Nat.zero_le _) (List.getElem?_eq_some_iff.1 hj).1
  have hb : some b ≠ row := hr ⟨b, o, none⟩ e hl
  exact ⟨b, o, e, hg.cell h1 hb, hg.cell h2 hb⟩
theorem FIn.grown {w w' : World} {fo : Option Addr} {cap : Nat} {F : List (Int × Int)} (h : FIn w fo cap F) (hg : w.grownBy w' none) : FIn w' fo cap F :=
  ⟨h.at_.grown hg, h.nil, h.size, fun a e hl => Nat.lt_of_lt_of_le (h.lt a e hl) hg.size⟩
theorem OpAt.grown {w w' : World} {b off : Nat} {o : OpD} {fo : Option Addr} {cap : Nat} (h : OpAt w b off o fo cap) (hg : w.grownBy w' none) : OpAt w' b off o fo cap :=
  ⟨hg.cell h.c0 (by simp), hg.cell h.c1 (by simp), hg.cell h.c2 (by simp), hg.cell h.c3 (by simp), hg.cell h.c4 (by simp), hg.cell h.c5 (by simp), h.fin.grown hg⟩
theorem OpsAt.grown {w w' : World} {ao : Option Addr} {os : List OpD} (h : OpsAt w ao os) (hg : w.grownBy w' none) : OpsAt w' ao os := by
  intro j o hj
  obtain ⟨b, off, fo, cap, e, ho⟩ := h j o hj
  exact ⟨b, off, fo, cap, e, ho.grown hg⟩

section
variable {w0 w : World} {k : Dk} {n size : Nat} {D : List Nat} {W : List Wt}
end

/-- What waits, without where. -/
abbrev Pr := Nat × List Nat
def abs (W : List Wt) : List Pr := W.map fun x => (x.sec, x.xs)
def stlP (size : Nat) (L : Nat → Nat) (D : List Nat) (P : List Pr) : Nat → List Nat
  | 0 => D
  | j + 1 => match P[j]? with
    | some x => splice (stlP size L D P j) (x.1 * size) (x.2.take (L j))
    | none => stlP size L D P j
theorem stl_abs (size : Nat) (L : Nat → Nat) (D : List Nat) (W : List Wt) (j : Nat) : stl size L D W j = stlP size L D (abs W) j := by
  induction j with
  | zero => rfl
  | succ j ih =>
    rw [stl, stlP, abs, List.getElem?_map]
    cases hx : W[j]? with
    | none => simpa [abs] using ih
    | some x => simp only [Option.map_some]; rw [ih]; rfl
theorem abs_length (W : List Wt) : (abs W).length = W.length := by simp [abs]
/-- A step of a script, on what lies there. -/
def absStep (st : List Nat × List Pr) (o : OpD) : List Nat × List Pr :=
  if o.d0 % 4 = 2 then (stlP 64 (fun _ => 64) st.1 st.2 st.2.length, [])
  else if o.d0 % 4 = 3 then (stlP 64 (fun i => lasts (fateK o.F i) (fateA o.F i) 64) st.1 st.2 st.2.length, [])
  else (st.1, st.2 ++ [((o.d2 % 4).toNat, fills o.d3 64)])
theorem absStep_len (st : List Nat × List Pr) (o : OpD) : (absStep st o).2.length ≤ st.2.length + 1 := by
  unfold absStep; split
  · simp
  · split <;> simp

/-- One disk, before and after. -/
structure Moved (w w' : World) (k k' : Dk) (W W' : List Wt) : Prop where
  d : k'.d = k.d
  db : k'.db = k.db
  own : ∀ i, k'.own i → k.own i ∨ w.heap.size ≤ i
  blk : ∀ x ∈ W', (∃ y ∈ W, y.blk = x.blk) ∨ w.heap.size ≤ x.blk
  kept : Kept w w' k.own
theorem Moved.refl (w : World) (k : Dk) (W : List Wt) : Moved w w k k W W := ⟨rfl, rfl, fun _ h => Or.inl h, fun x hx => Or.inl ⟨x, hx, rfl⟩, Kept.refl _ _⟩
theorem Moved.trans {a b c : World} {k k' k'' : Dk} {W W' W'' : List Wt} (h : Moved a b k k' W W') (g : Moved b c k' k'' W' W'') : Moved a c k k'' W W'' := by
  refine ⟨g.d.trans h.d, g.db.trans h.db, ?_, ?_, h.kept.trans g.kept ?_⟩
  · intro i hi
    rcases g.own i hi with h1 | h1
    · exact h.own i h1
    · exact Or.inr (Nat.le_trans h.kept.size h1)
  · intro x hx
    rcases g.blk x hx with ⟨y, hy, e⟩ | h1
    · rw [← e]
      exact h.blk y hy
    · exact Or.inr (Nat.le_trans h.kept.size h1)
  · intro i hi h1
    rcases h.own i h1 with h2 | h2
    · exact h2
    · omega
theorem Moved.new {a b c : World} {k k' : Dk} {W W' : List Wt} (h : Moved a b k k' W W') (g : b.grownBy c none) : Moved a c k k' W W' := ⟨h.d, h.db, h.own, h.blk, h.kept.trans (Kept.new g _) (fun _ _ e => e)⟩
theorem Moved.pre {a b c : World} {k k' : Dk} {W W' : List Wt} (g : a.grownBy b none) (h : Moved b c k k' W W') : Moved a c k k' W W' :=
  ⟨h.d, h.db, fun i hi => (h.own i hi).imp id (fun e => Nat.le_trans g.size e), fun x hx => (h.blk x hx).imp id (fun e => Nat.le_trans g.size e), (Kept.new g _).trans h.kept (fun _ _ e => e)⟩
section
variable {w0 w : World} {k : Dk} {n size : Nat} {D : List Nat} {W : List Wt}
theorem Wrote.moved {w' : World} {k' : Dk} {s : Nat} {xs : List Nat} (hw : Wrote w w' k k' n size D W s xs) : Moved w w' k k' W (W ++ [⟨s, w.heap.size, xs⟩]) := by
  refine ⟨hw.d, hw.db, ?_, ?_, hw.kept.mono ?_⟩
  · rintro i (e | e | e | e)
    · rw [hw.d] at e; exact Or.inl (.inl e)
    · rw [hw.db] at e; exact Or.inl (.inr (.inl e))
    · exact (hw.vw i e).imp (fun e => .inr (.inr (.inl e))) id
    · rw [hw.mb] at e; exact Or.inl (.inr (.inr (.inr e)))
  · intro x hx
    rcases List.mem_append.1 hx with hx | hx
    · exact Or.inl ⟨x, hx, rfl⟩
    · simp at hx; subst hx; exact Or.inr (Nat.le_refl _)
  · rintro i _ (e | e | e)
    · exact .inl e
    · exact .inr (.inr (.inl e))
    · exact .inr (.inr (.inr e))
theorem calm_moved {w' : World} (hk : Kept w w' (fun i => i = k.d ∨ i = k.db ∨ i = k.mb)) : Moved w w' k k.calm W [] := by
  refine ⟨rfl, rfl, ?_, by simp, hk.mono ?_⟩
  · rintro i (e | e | e | e)
    · exact Or.inl (.inl e)
    · exact Or.inl (.inr (.inl e))
    · simp [Dk.calm, Value.ownBlock] at e
    · exact Or.inl (.inr (.inr (.inr e)))
  · rintro i _ (e | e | e)
    · exact .inl e
    · exact .inr (.inl e)
    · exact .inr (.inr (.inr e))
end

theorem do4 (x : Int) : x % 4 = 2 ∨ x % 4 = 3 ∨ (x % 4 = 0 ∨ x % 4 = 1) := by omega
theorem take_snoc {α : Type} (l : List α) (j : Nat) (x : α) (h : l[j]? = some x) : l.take (j + 1) = l.take j ++ [x] := by
  rw [List.take_add_one, h]; rfl
end Go.Proofs.YtonokaelbpfjnaaDoor
/- The contract of Image. -/
namespace Go.Proofs.YtonokaelbpfjnaaDoor
open Go.RowKit Ap
attribute [local go_sem ↓] Go.wp_at_zero Go.wp_at_succ

theorem Tryd.info22 : (Tryd.prog.info? 22).map (fun i => (i.zero, i.size, i.bytes)) = some (some (.slice none 0 0), 1, 24) := by kernel_rfl
/-- Slices of one size, each from the beginning of its block. -/
def slv (size : Nat) (hs : List Nat) : List Value := hs.map fun h => bsl h size
def nils (n : Nat) : List Value := List.replicate n (.slice none 0 0)
theorem made_nils (n : Nat) : madeCells #[.slice none 0 0] n = (nils n).toArray := by
  apply Array.ext'
  rw [toList_madeCells_one]; rfl
theorem make_rows (n : Nat) (h : n ≤ 65536) (w : World) : (Instr.makeSlice 130 (.int .i64 (n : Int)) (.int .i64 (n : Int))).run Tryd.prog w = .ok (.slice (some ⟨w.heap.size, 0, none⟩) n n) (w.alloc (.cells (nils n).toArray 22)) := by
  obtain ⟨i0, hi, hz0, hz1, hz2⟩ := info_parts Tryd.info22
  rw [run_make (P := Tryd.prog) (w := w) 130 22 i0 (.slice none 0 0) Tryd.underlying130 hi hz0 .i64 .i64 (n : Int) (n : Int) (by omega) (by omega) (by rw [hz2]; omega) (by omega), hz1]
  rw [Int.toNat_natCast, Nat.mul_one]
  show Result.ok _ (w.alloc (.cells (madeCells #[.slice none 0 0] n) 22)) = _
  rw [made_nils]
/-- Rows in blocks of their own lie behind the slices of block g. -/
structure ImgAt (w : World) (lo g size : Nat) (R : List (List Nat)) (hs : List Nat) : Prop where
  row : w.heap[g]? = some (.cells (slv size hs).toArray 22 (0, 0))
  len : hs.length = R.length
  rows : ∀ (j h : Nat) (xs : List Nat), hs[j]? = some h → R[j]? = some xs → w.heap[h]? = some (.cells (bv xs).toArray 5 (0, 0)) ∧ xs.length = size ∧ lo ≤ h
  up : ∀ (i j a b : Nat), hs[i]? = some a → hs[j]? = some b → i < j → a < b
theorem ImgAt.grown {w w' : World} {lo g size : Nat} {R : List (List Nat)} {hs : List Nat} (h : ImgAt w lo g size R hs) (hg : w.grownBy w' none) : ImgAt w' lo g size R hs :=
  ⟨(hg.block _ (row_lt h.row) (by simp)).trans h.row, h.len, fun j a xs h1 h2 => by obtain ⟨r1, r2, r3⟩ := h.rows j a xs h1 h2; exact ⟨(hg.block _ (row_lt r1) (by simp)).trans r1, r2, r3⟩, h.up⟩
theorem ImgAt.off {w w' : World} {lo g size : Nat} {R : List (List Nat)} {hs : List Nat} {S : Nat → Prop} (h : ImgAt w lo g size R hs) (hk : Kept w w' S) (hg : ¬ S g) (hr : ∀ a ∈ hs, ¬ S a) : ImgAt w' lo g size R hs :=
  ⟨hk.at h.row hg, h.len, fun j a xs h1 h2 => by obtain ⟨r1, r2, r3⟩ := h.rows j a xs h1 h2; exact ⟨hk.at r1 (hr a (List.mem_of_getElem? h1)), r2, r3⟩, h.up⟩
theorem ImgAt.rowsAt {w : World} {lo g size : Nat} {R : List (List Nat)} {hs : List Nat} (h : ImgAt w lo g size R hs) (hsz : size ≤ 4096) : RowsAt w (some ⟨g, 0, none⟩) R := by
  intro j xs hj
  have hlt : j < hs.length := by rw [h.len]; exact (List.getElem?_eq_some_iff.1 hj).1
  obtain ⟨r1, r2, _⟩ := h.rows j hs[j] xs (List.getElem?_eq_getElem hlt) hj
  refine ⟨g, 0, some ⟨hs[j], 0, none⟩, size, rfl, ?_, at_row r1, by omega⟩
  rw [Nat.zero_add, cell_row h.row, slv, List.getElem?_map, List.getElem?_eq_getElem hlt, r2]
  rfl
theorem rowI_set (size n j : Nat) (hs : List Nat) (a : Nat) (hl : hs.length = j) (hj : j < n) : (slv size hs ++ nils (n - j)).set j (bsl a size) = slv size (hs ++ [a]) ++ nils (n - (j + 1)) := by
  have e : n - j = (n - (j + 1)) + 1 := by omega
  have hl' : (slv size hs).length = j := by simp [slv, hl]
  rw [List.set_append, hl', if_neg (by omega), Nat.sub_self, e, nils, List.replicate_succ, List.set_cons_zero, slv, slv, List.map_append, List.append_assoc]
  rfl
theorem rowI_get (size n j : Nat) (hs : List Nat) (hl : hs.length = j) (hj : j < n) : (slv size hs ++ nils (n - j))[j]? = some (.slice none 0 0) := by
  have hl' : (slv size hs).length = j := by simp [slv, hl]
  rw [List.getElem?_append_right (by omega), hl', Nat.sub_self, nils, List.getElem?_replicate, if_pos (by omega)]

section
variable {w : World} {k : Dk} {n size : Nat} {D : List Nat} {W : List Wt}
end
end Go.Proofs.YtonokaelbpfjnaaDoor
/- The contract of Copy. -/
namespace Go.Proofs.YtonokaelbpfjnaaDoor
open Go.RowKit Ap
attribute [local go_sem ↓] Go.wp_at_zero Go.wp_at_succ

theorem row_zero {w : World} {base : Nat} {e : TypeId} {size : Nat} {v : Value} {n : Nat} {xs : List Value} (h : w.ownsRow base e size v n xs) : w.ownsRow 0 e size v n xs :=
  ⟨h.1, h.2.imp id (fun ⟨g, cap, cur, e1, _, e3⟩ => ⟨g, cap, cur, e1, Nat.zero_le _, e3⟩)⟩
section
variable {w : World} {k : Dk} {n size : Nat} {D : List Nat} {W : List Wt}
end
end Go.Proofs.YtonokaelbpfjnaaDoor
/- Two disks that know nothing of one another. -/
namespace Go.Proofs.YtonokaelbpfjnaaDoor
open Go.RowKit Ap

/-- No block that the one may write is looked at by the other. -/
structure Sep (k : Dk) (W : List Wt) (k2 : Dk) (W2 : List Wt) : Prop where
  l : ∀ i, k.own i → ¬ foot k2 W2 i
  r : ∀ i, k2.own i → ¬ foot k W i
theorem Sep.symm {k k2 : Dk} {W W2 : List Wt} (h : Sep k W k2 W2) : Sep k2 W2 k W := ⟨h.r, h.l⟩
section
variable {w0 w w' : World} {k k2 k2' : Dk} {n size n2 size2 : Nat} {D D2 : List Nat} {W W2 W2' : List Wt}
theorem Sep.moved (h : Sep k W k2 W2) (hk : DiskAt w k n size D W) (hm : Moved w w' k2 k2' W2 W2') : Sep k W k2' W2' := by
  refine ⟨?_, ?_⟩
  · rintro i hi (hf | ⟨x, hx, rfl⟩)
    · rcases hm.own i hf with h1 | h1
      · exact h.l i hi (.inl h1)
      · have := hk.lt i (.inl hi); omega
    · rcases hm.blk x hx with ⟨y, hy, e⟩ | h1
      · exact h.l _ hi (.inr ⟨y, hy, e⟩)
      · have := hk.lt _ (.inl hi); omega
  · intro i hi hf
    rcases hm.own i hi with h1 | h1
    · exact h.r i h1 hf
    · have := hk.lt i hf; omega
theorem DkS.other (h : DkS w0 w k n size D W) (hs : Sep k W k2 W2) (hm : Moved w w' k2 k2' W2 W2') (hg : w0.grownBy w' none) : DkS w0 w' k n size D W :=
  ⟨h.disk.kept hm.kept (fun i hi ho => hs.r i ho hi), h.own, hg⟩
theorem ImgAt.moved {lo g sz : Nat} {R : List (List Nat)} {hs : List Nat} {k' : Dk} {W' : List Wt} (h : ImgAt w lo g sz R hs) (hk : DiskAt w k n size D W) (hm : Moved w w' k k' W W') (hlo : k.db < lo) : ImgAt w' lo g sz R hs := by
  refine h.off hm.kept (hk.other_off h.row (by decide) (by decide) (by decide)) ?_
  intro a ha
  obtain ⟨j, hj⟩ := List.getElem?_of_mem ha
  have hjl : j < R.length := by rw [← h.len]; exact (List.getElem?_eq_some_iff.1 hj).1
  obtain ⟨r1, _, r3⟩ := h.rows j a R[j] hj (List.getElem?_eq_getElem hjl)
  exact hk.bytes_off r1 (by omega)
theorem bytes_moved {A : Nat} {c : Array Value} {k' : Dk} {W' : List Wt} (hA : w.heap[A]? = some (.cells c 5 (0, 0))) (hk : DiskAt w k n size D W) (hm : Moved w w' k k' W W') (hne : A ≠ k.db) : w'.heap[A]? = some (.cells c 5 (0, 0)) := hm.kept.at hA (hk.bytes_off hA hne)
end
/-- What is found hangs on what waits, not where. -/
theorem found_abs {size : Nat} {D : List Nat} {W W' : List Wt} {s : Nat} (h : abs W = abs W') : found size D W s = found size D W' s := by
  have key : ∀ V : List Wt, found size D V s = ((abs V).foldl (fun r x => if s = x.1 then some x.2 else r) none).getD (secOf size D s) := by
    intro V
    have e : (abs V).foldl (fun r x => if s = x.1 then some x.2 else r) none = (lastOf V s).map (fun x => x.xs) := by
      induction V using snoc_ind with
      | h0 => rfl
      | h1 l x ih =>
        rw [lastOf_snoc, abs, List.map_append, List.foldl_append]
        simp only [List.map_cons, List.map_nil, List.foldl_cons, List.foldl_nil]
        by_cases hx : s = x.sec
        · rw [if_pos hx, if_pos hx]; rfl
        · rw [if_neg hx, if_neg hx]; exact ih
    rw [e, found]
    cases lastOf V s <;> rfl
  rw [key, key, h]
end Go.Proofs.YtonokaelbpfjnaaDoor
/- The contracts of LentBytes, KeptBytes, OverBytes. -/
namespace Go.Proofs.YtonokaelbpfjnaaDoor
open Go.RowKit Ap
attribute [local go_sem ↓] Go.wp_at_zero Go.wp_at_succ
/-- Bytes that were lent: they, and twelve marks behind their end. -/
def LentAt (w : World) (B : Nat) (v : Value) (xs : List Nat) : Prop :=
  ∃ g cap, v = .slice (some ⟨g, 0, none⟩) xs.length cap ∧ w.ownsRow B 5 1 (.slice (some ⟨g, 0, none⟩) (xs.length + 12) cap) (xs.length + 12) (bv (xs ++ marks 1 12))

/-- What is lent, as bytes that lie somewhere: they and the marks. -/
theorem LentAt.all {w : World} {B : Nat} {v : Value} {xs : List Nat} (h : LentAt w B v xs) : ∃ g cap, v = .slice (some ⟨g, 0, none⟩) xs.length cap ∧ xs.length + 12 ≤ cap ∧ cap ≤ maxLen ∧ B ≤ g ∧ g < w.heap.size ∧
    At w (some ⟨g, 0, none⟩) (xs ++ marks 1 12) ∧ ∃ cur, w.heap[g]? = some (.cells cur 5 (0, 0)) ∧ cur.size = cap := by
  obtain ⟨g, cap, rfl, hown⟩ := h
  obtain ⟨ao', cap', hv, hl, hnc, hcm, hat', hnil', h5⟩ := own_at hown
  cases hv
  obtain ⟨_, hb, hlt⟩ := h5 _ rfl
  rcases hown.2 with ⟨hx, _⟩ | ⟨g2, cap2, cur, hv, _, hc, _, _, hs, _⟩
  · cases hx
  · cases hv
    exact ⟨g, cap, rfl, hnc, hcm, hb, hlt, hat', cur, hc, by simpa using hs⟩
theorem LentAt.at {w : World} {B : Nat} {v : Value} {xs : List Nat} (h : LentAt w B v xs) : ∃ g cap, v = .slice (some ⟨g, 0, none⟩) xs.length cap ∧ xs.length ≤ cap ∧ cap ≤ maxLen ∧ B ≤ g ∧ g < w.heap.size ∧ At w (some ⟨g, 0, none⟩) xs ∧ ∃ cur, w.heap[g]? = some (.cells cur 5 (0, 0)) := by
  obtain ⟨g, cap, hv, h1, h2, h3, h4, h5, cur, hc, _⟩ := h.all
  refine ⟨g, cap, hv, by omega, h2, h3, h4, ?_, cur, hc⟩
  intro j u hu
  exact h5 j u (by rw [List.getElem?_append_left (List.getElem?_eq_some_iff.1 hu).1, hu])

end Go.Proofs.YtonokaelbpfjnaaDoor
/- The contracts of LentFates, KeptFates. -/
namespace Go.Proofs.YtonokaelbpfjnaaDoor
open Go.RowKit Ap
attribute [local go_sem ↓] Go.wp_at_zero Go.wp_at_succ

theorem Tryd.info164 : (Tryd.prog.info? 164).map (fun i => (i.zero, i.size, i.bytes)) = some (some (.agg #[.int .i64 0, .int .i64 0]), 2, 16) := by kernel_rfl
theorem eq_fate (K A : Int) (w : World) : (binOp .eql 164 (.agg #[.int .i64 K, .int .i64 A]) (.agg #[.int .i64 K, .int .i64 A])).run Tryd.prog w = .ok (.bool true) w := by
  have u3 := Tryd.underlying3
  have a3 := Tryd.isAgg3
  have z3 := Tryd.sizeOf3
  have u67 := Tryd.underlying162
  have a67 := Tryd.isAgg67
  have z67 := Tryd.sizeOf67
  have hS : Tryd.prog.underlying 164 = some (.struct (Tryd.prog.fieldsOf 164)) := by kernel_rfl
  have hp : Tryd.prog.stoodInHeld 164 = false := by kernel_rfl
  rw [run_eql_struct, show (10000 : Nat) = 9999 + 1 from rfl, run_equalIn_struct w 9999 164 _ _ hS hp]
  simp only [Program.fieldsOf, Tryd.underlying164]
  go_simp

/-- The mark of a place in a list of fates. -/
def mkF (i : Nat) : Int × Int := (0, 8000024 + (i : Int))
def fmarks (j : Nat) : List (Int × Int) := (List.range j).map mkF
theorem fmarks_length (j : Nat) : (fmarks j).length = j := by simp [fmarks]
theorem fmarks_succ (j : Nat) : fmarks (j + 1) = fmarks j ++ [mkF j] := by simp [fmarks, List.range_succ]
theorem fmarks_get (j i : Nat) (h : i < j) : (fmarks j)[i]? = some (mkF i) := by simp [fmarks, h]
theorem fcells_length (F : List (Int × Int)) : (fcells F).length = F.length * 2 := by
  induction F with
  | nil => rfl
  | cons x r ih => simp [fcells] at ih ⊢; omega
theorem fcells_append (F G : List (Int × Int)) : fcells (F ++ G) = fcells F ++ fcells G := by simp [fcells]
theorem fcells_one (F : List (Int × Int)) : ∀ u ∈ fcells F, u.oneCell' = true := by
  intro u hu
  simp [fcells] at hu
  obtain ⟨a, b, _, rfl | rfl⟩ := hu <;> rfl
/-- Fates that lie somewhere, as cells one behind the other. -/
theorem fates_news {w : World} {ad : Addr} {F : List (Int × Int)} (h : FatesAt w (some ad) F) : ∀ j u, (fcells F)[j]? = some u → w.cell? (ad.add j) = some u := by
  intro j u hu
  have hlt := (List.getElem?_eq_some_iff.1 hu).1
  rw [fcells_length] at hlt
  obtain ⟨i, r, hr, rfl⟩ : ∃ i r, r < 2 ∧ j = i * 2 + r := ⟨j / 2, j % 2, by omega, by omega⟩
  have hi : i < F.length := by omega
  obtain ⟨b, o, e, c1, c2⟩ := h i F[i] (List.getElem?_eq_getElem hi)
  obtain ⟨a1, a2⟩ := fcells_get F i F[i] (List.getElem?_eq_getElem hi)
  cases e
  rw [Addr.add_lit]
  match r, hr with
  | 0, _ => rw [Nat.add_zero] at hu ⊢; rw [a1] at hu; cases hu; exact c1
  | 1, _ => rw [a2] at hu; cases hu; exact c2
theorem own_fates {w : World} {base n g cap : Nat} {F : List (Int × Int)} (h : w.ownsRow base 164 2 (.slice (some ⟨g, 0, none⟩) n cap) n (fcells F)) : FatesAt w (some ⟨g, 0, none⟩) F := by
  intro j p hj
  obtain ⟨a1, a2⟩ := fcells_get F j p hj
  refine ⟨g, 0, rfl, ?_, ?_⟩
  · have := h.cells rfl _ _ a1
    rwa [Addr.add_lit] at this
  · have := h.cells rfl _ _ a2
    rwa [Addr.add_lit] at this
/-- Fates that were lent: they, and twelve marks behind their end. -/
def LentF (w : World) (B : Nat) (v : Value) (F : List (Int × Int)) : Prop :=
  ∃ g cap, v = .slice (some ⟨g, 0, none⟩) F.length cap ∧ w.ownsRow B 164 2 (.slice (some ⟨g, 0, none⟩) (F.length + 12) cap) (F.length + 12) (fcells (F ++ fmarks 12))
def curF (n : Nat) : Array Value := madeCells #[.int .i64 0, .int .i64 0] ((n + 12) * 2)
theorem curF_size (n : Nat) : (curF n).size = (n + 12) * 2 := size_madeCells _ _
end Go.Proofs.YtonokaelbpfjnaaDoor
/- The contract of KeptFates. -/
namespace Go.Proofs.YtonokaelbpfjnaaDoor
open Go.RowKit Ap
attribute [local go_sem ↓] Go.wp_at_zero Go.wp_at_succ

end Go.Proofs.YtonokaelbpfjnaaDoor
/- The document's disk that is none; a call of no disk. -/
namespace Go.Proofs.YtonokaelbpfjnaaDoor
open Go.RowKit Ap
attribute [local go_sem ↓] Go.wp_at_zero Go.wp_at_succ

/-- The document's disk without sectors. -/
def Empty (w : World) (rb : Nat) : Prop := w.heap[rb]? = some (.cells #[.slice none 0 0, .slice none 0 0] 133 (0, 0))
theorem Empty.grown {w w' : World} {rb : Nat} (h : Empty w rb) (hg : w.grownBy w' none) : Empty w' rb := (hg.block _ (row_lt h) (by simp)).trans h
theorem Empty.c0 {w : World} {rb : Nat} (h : Empty w rb) : w.cell? ⟨rb, 0, none⟩ = some (.slice none 0 0) := by unfold Empty at h; simp [World.cell?, h]
theorem Empty.c1 {w : World} {rb : Nat} (h : Empty w rb) : w.cell? ⟨rb, 1, none⟩ = some (.slice none 0 0) := by unfold Empty at h; simp [World.cell?, h]

section
variable {w : World} {rb : Nat}
theorem rsize0 (h : Empty w rb) : Calls Tryd.prog 77 #[.pointer (some ⟨rb, 0, none⟩)] w fun e w' => e = .returned (.int .i64 0) ∧ w' = w := by
  have c0 := h.c0
  clear h
  go_enter Tryd.func77, Tryd.ntmps77
  go_wp2
  go_ret
  exact ⟨rfl, rfl⟩
theorem rsectors0 (h : Empty w rb) : Calls Tryd.prog 76 #[.pointer (some ⟨rb, 0, none⟩)] w fun e w' => e = .returned (.int .i64 0) ∧ w' = w := by
  have c0 := h.c0
  clear h
  go_enter Tryd.func76, Tryd.ntmps76
  go_wp2
  go_ret
  exact ⟨rfl, rfl⟩
end

/-- How many bytes an operation writes. -/
def opLen (less : Int) (size : Nat) : Nat := if less % 16 = 15 then (less % 200).toNat else size
theorem opLen_le (less : Int) (size : Nat) : opLen less size ≤ size + 200 := by unfold opLen; split <;> omega
end Go.Proofs.YtonokaelbpfjnaaDoor
