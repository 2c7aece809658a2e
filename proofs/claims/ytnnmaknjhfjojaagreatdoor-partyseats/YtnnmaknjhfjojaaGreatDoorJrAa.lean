/- Texts joined: Cx, Cy, Base, Ca, Cb, Cc, Cd, Ch. -/
import Derived.Lib.Bytealg
import Derived.WalkKit
import Derived.WalkSpells
import Derived.WalkLawsBesides
import Derived.Laws.CopyOwn
import Derived.Deep.MidRow
import Derived.Test.YtnnmaknjhfjojaaGreatDoorProg
import Derived.Deep.LoopGhost
import Derived.Deep.RegionHeld3
import Derived.Deep.DrawnRows
import Derived.Deep.QuietTactic
import Derived.Deep.RegionWith
import Derived.BigQuiet
import Derived.Deep.OwnRows
import Derived.Laws.Rows
import Derived.Laws.ResultCell
import Derived.OwnWalk
import Derived.Laws.AppendOwnNone
/- Cabins by numbers alone: which may be, where blocks begin, the rows of blocks, seats' texts. -/
namespace Go.Proofs.YtnnmaknjhfjojaaGreatDoor.Cx

/-- Aisles that rise from l on, all below W. -/
def rise (W : Int) : Int → List Int → Prop
  | _, [] => True
  | l, a :: t => l < a ∧ a < W ∧ rise W a t
instance rise_dec (W : Int) : (l : Int) → (t : List Int) → Decidable (rise W l t)
  | _, [] => isTrue trivial
  | l, a :: t => by unfold rise; have := rise_dec W a t; exact inferInstance
def Ok (R W : Int) (L : List Int) : Prop := 1 ≤ R ∧ R ≤ 64 ∧ 1 ≤ W ∧ W ≤ 16 ∧ rise W 0 L
instance (R W : Int) (L : List Int) : Decidable (Ok R W L) := by unfold Ok; exact inferInstance
def code (R W : Int) (L : List Int) : Int := if Ok R W L then 0 else 2
theorem rise_snoc (W : Int) (xs : List Int) (a : Int) : ∀ l, rise W l (xs ++ [a]) ↔ rise W l xs ∧ xs.getLastD l < a ∧ a < W := by
  induction xs with
  | nil => intro l; simp [rise]
  | cons x t ih =>
    intro l
    simp only [List.cons_append, rise, ih x, List.getLastD_cons]
    constructor
    · rintro ⟨h1, h2, h3, h4, h5⟩; exact ⟨⟨h1, h2, h3⟩, h4, h5⟩
    · rintro ⟨⟨h1, h2, h3⟩, h4, h5⟩; exact ⟨h1, h2, h3, h4, h5⟩
theorem rise_app (W : Int) (xs ys : List Int) : ∀ l, rise W l (xs ++ ys) → rise W l xs := by
  induction xs with
  | nil => intro l _; simp [rise]
  | cons x t ih => intro l h; exact ⟨h.1, h.2.1, ih x h.2.2⟩
theorem rise_take {W l : Int} {xs : List Int} (h : rise W l xs) (k : Nat) : rise W l (xs.take k) := by
  rw [← List.take_append_drop k xs] at h; exact rise_app W _ _ l h
theorem rise_mem {W : Int} {xs : List Int} : ∀ {l : Int}, rise W l xs → ∀ a ∈ xs, l < a ∧ a < W := by
  induction xs with
  | nil => intro l _ a ha; cases ha
  | cons x t ih =>
    intro l h a ha
    rcases List.mem_cons.1 ha with rfl | ha
    · exact ⟨h.1, h.2.1⟩
    · have := ih h.2.2 a ha; exact ⟨by have := h.1; omega, this.2⟩
theorem getLastD_take {xs : List Int} {k : Nat} (hk : k < xs.length) (l : Int) : (xs.take (k + 1)).getLastD l = xs[k] := by
  rw [List.take_add_one, List.getElem?_eq_getElem hk, Option.toList_some, List.getLastD_eq_getLast?, List.getLast?_append]; simp

/-- An aisle lies ahead of column i. -/
def ai (L : List Int) (i : Nat) : Bool := L.contains (i : Int)
/-- A block begins at seat s. -/
def bg (W : Nat) (L : List Int) (s : Nat) : Bool := s % W == 0 || ai L (s % W)

/-- The place behind the block that begins at s, counted from s. -/
def nx (W : Nat) (L : List Int) (s : Nat) : Nat := ((List.range' 1 W).find? (fun c => bg W L (s + c))).getD 0
theorem bg_mul (W : Nat) (L : List Int) (k : Nat) : bg W L (k * W) = true := by simp [bg]
theorem nx_spec {W : Nat} (hW : 1 ≤ W) (L : List Int) (s : Nat) : 1 ≤ nx W L s ∧ nx W L s ≤ W ∧ bg W L (s + nx W L s) = true ∧ ∀ d, 1 ≤ d → d < nx W L s → bg W L (s + d) = false := by
  unfold nx
  cases h : (List.range' 1 W).find? (fun c => bg W L (s + c)) with
  | none =>
    exfalso
    rw [List.find?_eq_none] at h
    have h1 := Nat.mod_lt s hW
    have h2 := Nat.div_add_mod s W
    refine h (W - s % W) ?_ ?_
    · rw [List.mem_range'_1]; omega
    · have : s + (W - s % W) = (s / W + 1) * W := by
        have h3 := Nat.div_add_mod s W
        have h4 : W * (s / W) = s / W * W := Nat.mul_comm _ _
        rw [Nat.add_mul, Nat.one_mul]; omega
      rw [this]; exact bg_mul _ _ _
  | some c =>
    rw [Option.getD_some]
    rw [List.find?_eq_some_iff_append] at h
    obtain ⟨hb, as0, bs, he, ha⟩ := h
    have hm : c ∈ List.range' 1 W := by rw [he]; simp
    rw [List.mem_range'_1] at hm
    refine ⟨by omega, by omega, hb, ?_⟩
    intro d h1 h2
    have hd : d ∈ List.range' 1 W := by rw [List.mem_range'_1]; omega
    rw [he] at hd
    have hlen : as0.length = c - 1 := by
      have h3 : (List.range' 1 W)[as0.length]? = some c := by rw [he]; simp
      have h5 := congrArg List.length he
      rw [List.length_range', List.length_append, List.length_cons] at h5
      rw [List.getElem?_range' (by omega)] at h3
      simp at h3; omega
    have h4 : as0[d - 1]? = some d := by
      have h3 : (List.range' 1 W)[d - 1]? = some d := by
        rw [List.getElem?_range' (by omega)]; simp; omega
      rw [he, List.getElem?_append_left (by omega)] at h3
      exact h3
    have := ha d (List.mem_of_getElem? h4)
    simpa using this
theorem nx_le {W : Nat} (hW : 1 ≤ W) {L : List Int} {s c : Nat} (h1 : 1 ≤ c) (hb : bg W L (s + c) = true) : nx W L s ≤ c := by
  rcases Nat.lt_or_ge c (nx W L s) with h | h
  · have := (nx_spec hW L s).2.2.2 c h1 h; rw [hb] at this; cases this
  · exact h

/-- The blocks as the program gathers them: of the seats below n. -/
def prg (W : Nat) (L : List Int) (n : Nat) : List (Nat × Nat) := ((List.range n).filter (bg W L)).map fun s => (s, nx W L s)
/-- The same, cut at n. -/
def blk (W : Nat) (L : List Int) (n : Nat) : List (Nat × Nat) := ((List.range n).filter (bg W L)).map fun s => (s, min (nx W L s) (n - s))
theorem prg_succ (W : Nat) (L : List Int) (n : Nat) : prg W L (n + 1) = prg W L n ++ (if bg W L n then [(n, nx W L n)] else []) := by
  unfold prg
  rw [List.range_succ, List.filter_append, List.map_append]
  congr 1
  by_cases h : bg W L n <;> simp [h]
theorem prg_zero (W : Nat) (L : List Int) : prg W L 0 = [] := rfl
theorem prg_len_le (W : Nat) (L : List Int) (n : Nat) : (prg W L n).length ≤ n := by
  unfold prg; rw [List.length_map]; exact Nat.le_trans (List.length_filter_le _ _) (by simp)
theorem blk_all {W : Nat} (hW : 1 ≤ W) (L : List Int) {n : Nat} (hn : bg W L n = true) : blk W L n = prg W L n := by
  unfold blk prg
  apply List.map_congr_left
  intro s hs
  have h1 := (List.mem_filter.1 hs).1
  rw [List.mem_range] at h1
  have h2 : nx W L s ≤ n - s := nx_le hW (by omega) (by rw [show s + (n - s) = n by omega]; exact hn)
  rw [Nat.min_eq_left h2]
/-- The document's gathering: one seat more. -/
def bump (l : List (Nat × Nat)) : List (Nat × Nat) := l.modify (l.length - 1) fun p => (p.1, p.2 + 1)
def doc (W : Nat) (L : List Int) : Nat → List (Nat × Nat)
  | 0 => []
  | n + 1 => bump (if bg W L n then doc W L n ++ [(n, 0)] else doc W L n)
theorem modify_snoc {α : Type} (xs : List α) (a : α) (f : α → α) : (xs ++ [a]).modify xs.length f = xs ++ [f a] := by
  induction xs with
  | nil => rfl
  | cons x t ih => simp only [List.cons_append, List.length_cons, List.modify_succ_cons, ih]
theorem bump_snoc (xs : List (Nat × Nat)) (a : Nat × Nat) : bump (xs ++ [a]) = xs ++ [(a.1, a.2 + 1)] := by
  unfold bump
  rw [show (xs ++ [a]).length - 1 = xs.length by simp]
  exact modify_snoc xs a _
theorem blk_succ_yes {W : Nat} (hW : 1 ≤ W) {L : List Int} {n : Nat} (h : bg W L n = true) : blk W L (n + 1) = blk W L n ++ [(n, 1)] := by
  rw [blk_all hW L h]
  unfold blk prg
  rw [List.range_succ, List.filter_append, List.map_append]
  have e1 : (List.filter (bg W L) [n]) = [n] := by simp [h]
  rw [e1]
  congr 1
  · apply List.map_congr_left
    intro s hs
    have h1 := (List.mem_filter.1 hs).1
    rw [List.mem_range] at h1
    have h2 : nx W L s ≤ n - s := nx_le hW (by omega) (by rw [show s + (n - s) = n by omega]; exact h)
    rw [Nat.min_eq_left (by omega)]
  · have := (nx_spec hW L n).1
    simp; omega
/-- The last beginning below n + 1: there is one. -/
theorem last_bg {W : Nat} {L : List Int} : ∀ n : Nat, 0 < n → ∃ s xs, s < n ∧ bg W L s = true ∧ (List.range n).filter (bg W L) = xs ++ [s] ∧ (∀ t ∈ xs, t < s) ∧ ∀ t, s < t → t < n → bg W L t = false
  | 0, h => absurd h (by omega)
  | 1, _ => ⟨0, [], by omega, by simp [bg], by simp [bg, List.range_succ], (fun t ht => by cases ht), fun t h1 h2 => by omega⟩
  | n + 2, _ => by
    obtain ⟨s, xs, h1, h2, h3, h4, h5⟩ := last_bg (W := W) (L := L) (n + 1) (by omega)
    by_cases hb : bg W L (n + 1) = true
    · refine ⟨n + 1, xs ++ [s], by omega, hb, ?_, ?_, fun t a b => by omega⟩
      · rw [List.range_succ, List.filter_append, h3]; simp [hb]
      · intro t ht
        rcases List.mem_append.1 ht with h | h
        · have := h4 t h; omega
        · simp at h; omega
    · refine ⟨s, xs, by omega, h2, ?_, h4, ?_⟩
      · rw [List.range_succ, List.filter_append, h3]; simp [hb]
      · intro t a b
        rcases Nat.lt_or_ge t (n + 1) with h | h
        · exact h5 t a h
        · have : t = n + 1 := by omega
          subst this; simpa using hb
theorem blk_succ_no {W : Nat} (hW : 1 ≤ W) {L : List Int} {n : Nat} (h : bg W L n = false) : blk W L (n + 1) = bump (blk W L n) := by
  have hn : 0 < n := by
    rcases Nat.eq_zero_or_pos n with rfl | h0
    · simp [bg] at h
    · exact h0
  obtain ⟨s, xs, h1, h2, h3, h4, h5⟩ := last_bg (W := W) (L := L) n hn
  have e2 : (List.range (n + 1)).filter (bg W L) = xs ++ [s] := by
    rw [List.range_succ, List.filter_append, h3]; simp [h]
  unfold blk
  rw [e2, h3, List.map_append, List.map_append, List.map_cons, List.map_nil, List.map_cons, List.map_nil, bump_snoc]
  have hnx : n + 1 - s ≤ nx W L s := by
    rcases Nat.lt_or_ge (nx W L s) (n + 1 - s) with hl | hl
    · exfalso
      have hsp := nx_spec hW L s
      have hb := hsp.2.2.1
      rcases Nat.lt_or_ge (s + nx W L s) n with hq | hq
      · have := h5 _ (by omega) hq; rw [hb] at this; cases this
      · have he : s + nx W L s = n := by omega
        rw [he, h] at hb; cases hb
    · exact hl
  congr 1
  · apply List.map_congr_left
    intro t ht
    have hts := h4 t ht
    have h6 : nx W L t ≤ s - t := nx_le hW (by omega) (by rw [show t + (s - t) = s by omega]; exact h2)
    rw [Nat.min_eq_left (by omega), Nat.min_eq_left (by omega)]
  · rw [Nat.min_eq_right hnx, Nat.min_eq_right (by omega)]
    simp; omega
theorem doc_blk {W : Nat} (hW : 1 ≤ W) (L : List Int) : ∀ n, doc W L n = blk W L n
  | 0 => rfl
  | n + 1 => by
    have ih := doc_blk hW L n
    unfold doc
    by_cases h : bg W L n = true
    · rw [if_pos h, ih, bump_snoc, blk_succ_yes hW h]
    · rw [if_neg h, ih, blk_succ_no hW (by simpa using h)]
theorem doc_all {W : Nat} (hW : 1 ≤ W) (L : List Int) (R : Nat) : doc W L (R * W) = prg W L (R * W) := by
  rw [doc_blk hW, blk_all hW L (bg_mul _ _ _)]
theorem doc_len (W : Nat) (L : List Int) : ∀ n, (doc W L n).length ≤ n
  | 0 => by simp [doc]
  | n + 1 => by
    have ih := doc_len W L n
    unfold doc bump
    rw [List.length_modify]
    split <;> simp <;> omega
/-- What lies in the document's row behind n seats. -/
theorem doc_pos (W : Nat) (L : List Int) (n : Nat) : (if bg W L n then doc W L n ++ [(n, 0)] else doc W L n) ≠ [] := by
  by_cases h : bg W L n = true
  · rw [if_pos h]; simp
  · rw [if_neg h]
    cases n with
    | zero => simp [bg] at h
    | succ m =>
      unfold doc bump
      intro he
      have h2 := congrArg List.length he
      rw [List.length_modify] at h2
      exact doc_pos W L m (List.eq_nil_of_length_eq_zero (by simpa using h2))
end Go.Proofs.YtnnmaknjhfjojaaGreatDoor.Cx
/- What CabinBlocks asks of the row of blocks, by numbers alone. -/
namespace Go.Proofs.YtnnmaknjhfjojaaGreatDoor.Cx

/-- Where the first i blocks end. -/
def ends (l : List (Nat × Nat)) (i : Nat) : Nat := ((l.take i).map Prod.snd).sum
theorem ends_zero (l : List (Nat × Nat)) : ends l 0 = 0 := by simp [ends]
theorem ends_succ {l : List (Nat × Nat)} {i : Nat} {p : Nat × Nat} (h : l[i]? = some p) : ends l (i + 1) = ends l i + p.2 := by
  unfold ends
  rw [List.take_add_one, h]
  simp
/-- The document's blocks lie one behind the other. -/
def Chn : Nat → List (Nat × Nat) → Prop
  | _, [] => True
  | a, p :: t => p.1 = a ∧ Chn (a + p.2) t
theorem chn_get {l : List (Nat × Nat)} : ∀ {a i : Nat} {p : Nat × Nat}, Chn a l → l[i]? = some p → p.1 = a + ends l i := by
  induction l with
  | nil => intro a i p _ h; simp at h
  | cons q t ih =>
    intro a i p h hi
    cases i with
    | zero => simp at hi; subst hi; rw [ends_zero]; exact h.1
    | succ k =>
      rw [List.getElem?_cons_succ] at hi
      have := ih h.2 hi
      rw [this]
      unfold ends
      simp; omega
theorem chn_snoc {l : List (Nat × Nat)} {q : Nat × Nat} : ∀ {a : Nat}, Chn a (l ++ [q]) ↔ Chn a l ∧ q.1 = a + ends l l.length := by
  induction l with
  | nil => intro a; simp [Chn, ends]
  | cons p t ih =>
    intro a
    simp only [List.cons_append, Chn, ih]
    have : ends (p :: t) (p :: t).length = p.2 + ends t t.length := by unfold ends; simp
    rw [this]
    constructor
    · rintro ⟨h1, h2, h3⟩; exact ⟨⟨h1, h2⟩, by omega⟩
    · rintro ⟨⟨h1, h2⟩, h3⟩; exact ⟨h1, h2, by omega⟩
theorem ends_snoc (l : List (Nat × Nat)) (q : Nat × Nat) : ends (l ++ [q]) (l ++ [q]).length = ends l l.length + q.2 := by unfold ends; rw [List.take_length, List.take_length]; simp
theorem doc_chain {W : Nat} {L : List Int} : ∀ n, Chn 0 (doc W L n) ∧ ends (doc W L n) (doc W L n).length = n
  | 0 => by simp [doc, Chn, ends]
  | n + 1 => by
    obtain ⟨h1, h2⟩ := doc_chain (W := W) (L := L) n
    have hne := doc_pos W L n
    show Chn 0 (bump (if bg W L n then doc W L n ++ [(n, 0)] else doc W L n)) ∧ ends (bump (if bg W L n then doc W L n ++ [(n, 0)] else doc W L n)) (bump (if bg W L n then doc W L n ++ [(n, 0)] else doc W L n)).length = n + 1
    have hA : Chn 0 (if bg W L n then doc W L n ++ [(n, 0)] else doc W L n) ∧ ends (if bg W L n then doc W L n ++ [(n, 0)] else doc W L n) (if bg W L n then doc W L n ++ [(n, 0)] else doc W L n).length = n := by
      split
      · exact ⟨chn_snoc.2 ⟨h1, by simp only; omega⟩, by rw [ends_snoc]; simp only; omega⟩
      · exact ⟨h1, h2⟩
    generalize (if bg W L n then doc W L n ++ [(n, 0)] else doc W L n) = A at *
    obtain ⟨xs, q, rfl⟩ : ∃ xs q, A = xs ++ [q] := by
      rcases List.eq_nil_or_concat A with e | ⟨xs, a, e⟩
      · exact absurd e hne
      · exact ⟨xs, a, by rw [e, List.concat_eq_append]⟩
    rw [bump_snoc]
    obtain ⟨g1, g2⟩ := hA
    rw [chn_snoc] at g1
    rw [ends_snoc] at g2
    exact ⟨chn_snoc.2 g1, by rw [ends_snoc]; simp only; omega⟩
/-- Of each block: where it lies, that it begins there, and nothing in it does. -/
theorem prg_get {R W : Nat} (hW : 1 ≤ W) {L : List Int} {i : Nat} {p : Nat × Nat} (h : (prg W L (R * W))[i]? = some p) :
    p.1 = ends (prg W L (R * W)) i ∧ p.1 < R * W ∧ bg W L p.1 = true ∧ 1 ≤ p.2 ∧ p.2 ≤ W ∧ bg W L (p.1 + p.2) = true ∧ (∀ d, 1 ≤ d → d < p.2 → bg W L (p.1 + d) = false) ∧ p.1 + p.2 ≤ R * W := by
  have hc := (doc_chain (W := W) (L := L) (R * W)).1
  rw [doc_all hW] at hc
  have h1 := chn_get hc h
  have hm := List.mem_of_getElem? h
  unfold prg at hm
  obtain ⟨s, hs, rfl⟩ := List.mem_map.1 hm
  obtain ⟨hs1, hs2⟩ := List.mem_filter.1 hs
  rw [List.mem_range] at hs1
  obtain ⟨n1, n2, n3, n4⟩ := nx_spec hW L s
  have h5 : nx W L s ≤ R * W - s := nx_le hW (by omega) (by rw [show s + (R * W - s) = R * W by omega]; exact bg_mul W L R)
  simp only at h1
  exact ⟨by simp only; omega, hs1, hs2, n1, n2, n3, n4, by simp only; omega⟩
theorem prg_ends {R W : Nat} (hW : 1 ≤ W) (L : List Int) : ends (prg W L (R * W)) (prg W L (R * W)).length = R * W := by
  have := (doc_chain (W := W) (L := L) (R * W)).2
  rw [doc_all hW] at this
  exact this
end Go.Proofs.YtnnmaknjhfjojaaGreatDoor.Cx
/- Worlds and rows of ints: plain lemmas, without the program. -/
namespace Go.Proofs.YtnnmaknjhfjojaaGreatDoor
open Go.RowKit

theorem hide {p : Prop} (h : p) : Hid p := h

/-- xs lies, int by int, where ao leads. -/
def At (w : World) (ao : Option Addr) (xs : List Int) : Prop := ∀ j u, xs[j]? = some u → ∃ a, ao = some a ∧ w.cell? (a.add j) = some (.int .i64 u)
theorem At.nil (w : World) (ao : Option Addr) : At w ao [] := fun j u h => by simp at h
theorem addr_add_block (a : Addr) (j : Nat) : (a.add j).block = a.block := by unfold Addr.add; split <;> rfl
theorem At.take {w : World} {ao : Option Addr} {xs : List Int} (h : At w ao xs) (n : Nat) : At w ao (xs.take n) := by
  intro j u hu
  rw [List.getElem?_take] at hu
  split at hu
  · exact h j u hu
  · cases hu
theorem At.kept {w w' : World} {ao : Option Addr} {xs : List Int} {row : Option Nat} (h : At w ao xs) (hg : w.grownBy w' row) (hr : ∀ a, ao = some a → some a.block ≠ row) : At w' ao xs := by
  intro j u hu
  obtain ⟨a, ha, hcell⟩ := h j u hu
  exact ⟨a, ha, hg.cell hcell (by rw [addr_add_block]; exact hr a ha)⟩
theorem At.grown {w w' : World} {ao : Option Addr} {xs : List Int} (h : At w ao xs) (hg : w.grownBy w' none) : At w' ao xs := h.kept hg (fun _ _ e => by cases e)

/-- Two steps, one behind the other. -/
theorem grown_then {a b c : World} {row row' : Option Nat} (h : a.grownBy b row) (k : b.grownBy c row') (hr : ∀ j, row' = some j → a.heap.size ≤ j ∨ row = some j) : a.grownBy c row :=
  ⟨k.os.trans h.os, k.tape.trans h.tape, k.output.trans h.output, Nat.le_trans h.size k.size, fun i hi hne =>
    (k.block i (Nat.lt_of_lt_of_le hi h.size) (fun e => by
      rcases hr i e.symm with h1 | h1
      · omega
      · exact hne h1.symm)).trans (h.block i hi hne)⟩
theorem grown_trans {a b c : World} {row : Option Nat} (h : a.grownBy b row) (k : b.grownBy c row) : a.grownBy c row := grown_then h k (fun _ e => Or.inr e)
theorem grown_refl (w : World) (row : Option Nat) : w.grownBy w row := ⟨rfl, rfl, rfl, Nat.le_refl _, fun _ _ _ => rfl⟩
theorem grown_drew (w : World) (row : Option Nat) : w.grownBy w.drew row := ⟨rfl, rfl, rfl, Nat.le_refl _, fun _ _ _ => rfl⟩
theorem grown_drewN (w : World) (n : Nat) (row : Option Nat) : w.grownBy (w.drewN n) row := ⟨rfl, rfl, rfl, Nat.le_refl _, fun _ _ _ => rfl⟩
theorem grown_none {a b : World} (h : a.grownBy b none) (row : Option Nat) : a.grownBy b row := grown_then (grown_refl a row) h (fun _ e => by cases e)
theorem grown_alloc (w : World) (o : Obj) : w.grownBy (w.alloc o) none := World.grownBy_alloc w o none
theorem grown_setCell (w : World) (g j : Nat) (u : Value) : w.grownBy (w.setCell ⟨g, j, none⟩ u) (some g) :=
  ⟨rfl, rfl, rfl, by simp [World.setCell], fun k _ hne => Below.heap_setCell _ _ _ _ (by intro e; exact hne (by simp [e]))⟩
theorem grown_setRow (w : World) (g : Nat) (cs : Array Value) : w.grownBy (w.setRow g cs) (some g) :=
  ⟨rfl, rfl, rfl, by simp [World.setRow], fun k _ hne => setRow_other w g k cs (by intro e; exact hne (by simp [e]))⟩
theorem grown_below {a b : World} (h : a.grownBy b none) : Below a.heap.size a b := ⟨h.os, h.tape, h.output, h.size, fun k hk => h.block k hk (fun e => by cases e)⟩
theorem below_grown {a b : World} (h : Below a.heap.size a b) : a.grownBy b none := ⟨h.os, h.tape, h.output, h.size, fun k hk _ => h.block k hk⟩
/-- What writes only a block that is new to the caller. -/
theorem grown_new {a b c : World} {g : Nat} (h : a.grownBy b none) (k : b.grownBy c (some g)) (hg : a.heap.size ≤ g) : a.grownBy c none :=
  grown_then h k (fun j e => by cases e; exact Or.inl hg)

theorem cell_row {w : World} {g : Nat} {l : List Value} {t : TypeId} {fr : Nat × Nat} (h : w.heap[g]? = some (.cells l.toArray t fr)) (j : Nat) : w.cell? ⟨g, j, none⟩ = l[j]? := by
  rw [cell_of_row w g j l.toArray t fr h]; simp
theorem free_row {w : World} {g : Nat} {c : Array Value} {t : TypeId} (h : w.heap[g]? = some (.cells c t (0, 0))) (j : Nat) : w.frozen? ⟨g, j, none⟩ = false := by
  simp [World.frozen?, h]
theorem row_setCell {w : World} {g : Nat} {l : List Value} {t : TypeId} {fr : Nat × Nat} (h : w.heap[g]? = some (.cells l.toArray t fr)) (j : Nat) (u : Value) : (w.setCell ⟨g, j, none⟩ u).heap[g]? = some (.cells (l.set j u).toArray t fr) := by
  simp [World.setCell, Array.getElem?_modify, h]
theorem row_lt {w : World} {g : Nat} {o : Obj} (h : w.heap[g]? = some o) : g < w.heap.size := (Array.getElem?_eq_some_iff.1 h).1
theorem alloc_size (w : World) (o : Obj) : (w.alloc o).heap.size = w.heap.size + 1 := Array.size_push _
theorem heap_kept {w w' : World} {g : Nat} {o : Obj} {row : Option Nat} (h : w.heap[g]? = some o) (hg : w.grownBy w' row) (hne : some g ≠ row) : w'.heap[g]? = some o := (hg.block g (row_lt h) hne).trans h
theorem box_kept {w w2 : World} {o : Obj} (h : (w.alloc o).grownBy w2 none) : w2.heap[w.heap.size]? = some o :=
  (h.block _ (by rw [alloc_size]; omega) (fun e => by cases e)).trans (heap_alloc_new w o)

/-- A cabin as a value. -/
def cbV (R W : Int) (v : Value) : Value := .agg #[.int .i64 R, .int .i64 W, v]
/-- A cabin's aisles lie there. -/
structure CbIn (w : World) (ao : Option Addr) (n cap : Nat) (L : List Int) : Prop where
  at_ : At w ao L
  len : L.length = n
  nil : ao = none → n = 0 ∧ cap = 0
  fits : n ≤ cap
  most : cap ≤ maxLen
  sm : n ≤ 17592186044000
theorem CbIn.grown {w w' : World} {ao : Option Addr} {n cap : Nat} {L : List Int} (h : CbIn w ao n cap L) (hg : w.grownBy w' none) : CbIn w' ao n cap L :=
  ⟨h.at_.grown hg, h.len, h.nil, h.fits, h.most, h.sm⟩
theorem CbIn.kept {w w' : World} {ao : Option Addr} {n cap : Nat} {L : List Int} {row : Option Nat} (h : CbIn w ao n cap L) (hg : w.grownBy w' row) (hr : ∀ a, ao = some a → some a.block ≠ row) : CbIn w' ao n cap L :=
  ⟨h.at_.kept hg hr, h.len, h.nil, h.fits, h.most, h.sm⟩
theorem CbIn.cell {w : World} {ao : Option Addr} {n cap : Nat} {L : List Int} (h : CbIn w ao n cap L) {j : Nat} (hj : j < L.length) : ∃ a, ao = some a ∧ w.cell? (a.add j) = some (.int .i64 L[j]) :=
  h.at_ j _ (List.getElem?_eq_getElem hj)
end Go.Proofs.YtnnmaknjhfjojaaGreatDoor
/- The contracts of Check, Seats and the like: cabins that may be. -/
namespace Go.Proofs.YtnnmaknjhfjojaaGreatDoor
open Go.RowKit Cx
attribute [local go_sem ↓] Go.wp_at_zero Go.wp_at_succ

theorem code_ok {R W : Int} {L : List Int} (h : Ok R W L) : code R W L = 0 := if_pos h
theorem code_no {R W : Int} {L : List Int} (h : ¬ Ok R W L) : code R W L = 2 := if_neg h

set_option maxHeartbeats 1000000 in
/-- Check of numbers that may not be. -/
theorem check_no (R W : Int) (v : Value) (h : R < 1 ∨ 64 < R ∨ W < 1 ∨ 16 < W) (w : World) :
    Calls Tryz.prog 74 #[cbV R W v] w fun e w' => e = .returned (.int .i64 2) ∧ w.grownBy w' none := by
  have hG : ∀ o, w.grownBy (w.alloc o) none := fun o => grown_alloc w o
  unfold cbV
  by_cases h1 : R < 1
  · go_enter Tryz.func74, Tryz.ntmps74
    go_wp2
    go_ret
    exact ⟨rfl, hG _⟩
  · by_cases h2 : 64 < R
    · go_enter Tryz.func74, Tryz.ntmps74
      go_wp2
      go_ret
      exact ⟨rfl, hG _⟩
    · by_cases h3 : W < 1
      · go_enter Tryz.func74, Tryz.ntmps74
        go_wp2
        go_ret
        exact ⟨rfl, hG _⟩
      · have h4 : 16 < W := by omega
        go_enter Tryz.func74, Tryz.ntmps74
        go_wp2
        go_ret
        exact ⟨rfl, hG _⟩

set_option maxHeartbeats 1000000 in
theorem check_any (R W : Int) (ao : Option Addr) (n cap : Nat) (L : List Int) (w : World) (hc : CbIn w ao n cap L) :
    Calls Tryz.prog 74 #[cbV R W (.slice ao n cap)] w fun e w' => e = .returned (.int .i64 (code R W L)) ∧ w.grownBy w' none := by
  by_cases hb : 1 ≤ R ∧ R ≤ 64 ∧ 1 ≤ W ∧ W ≤ 16
  · obtain ⟨h1, h2, h3, h4⟩ := hb
    have hlen := hc.len
    have hsm := hc.sm
    obtain ⟨z, hz⟩ : ∃ z, z = code R W L := ⟨_, rfl⟩
    rw [← hz]
    have HC := hide (And.intro hc hz)
    clear hc hz
    have HL := hide hlen
    clear hlen
    unfold cbV
    have hG : w.grownBy (w.alloc (.cells #[.int .i64 R, .int .i64 W, .slice ao n cap] 24)) none := grown_alloc w _
    have HG := hide hG
    clear hG
    go_enter Tryz.func74, Tryz.ntmps74
    go_wp2
    go_loopg [3, 27] n (fun k la i wr => ∃ j : Nat, k + j = n ∧ i = .int .i64 j ∧ la = .int .i64 ((L.take j).getLastD 0) ∧ rise W 0 (L.take j) ∧ wr = w.alloc (.cells #[.int .i64 R, .int .i64 W, .slice ao n cap] 24))
    case atStart => exact ⟨0, by omega, rfl, rfl, by simp [rise], rfl⟩
    case round =>
      obtain ⟨j, hkj, rfl, rfl, hr, rfl⟩ := hrel
      by_cases hk : 0 < gk
      · have hj : j < L.length := by rw [HL.out]; omega
        obtain ⟨a, rfl, hcell⟩ := (HC.out.1.grown HG.out).cell hj
        have hs := rise_snoc W (L.take j) L[j] 0
        have htk : L.take j ++ [L[j]] = L.take (j + 1) := by rw [List.take_add_one, List.getElem?_eq_getElem hj]; rfl
        have hla := getLastD_take hj 0
        rw [htk] at hs
        have HS := hide (And.intro hs (And.intro hla hr))
        have hout : ¬ (L.take j).getLastD 0 < L[j] ∨ ¬ L[j] < W → z = 2 := by
          intro h
          have h5 := HC.out.2
          rw [code_no] at h5
          · exact h5
          · intro ho
            have := (hs.1 (rise_take ho.2.2.2.2 _)).2
            omega
        have HO := hide hout
        clear hs hla hr htk hout
        have h5 : (0 : Int) ≤ (j : Int) := by omega
        have h6 : (j : Int) < (n : Int) := by omega
        generalize hx : L[j] = x at *
        generalize hy : (L.take j).getLastD 0 = y at *
        have HX := hide (And.intro hx hy)
        clear hx hy
        by_cases h7 : y < x
        · by_cases h8 : x < W
          · go_wp2
            go_roundg (gk - 1)
            case measure => omega
            case rel =>
              obtain ⟨hs, hla, hr⟩ := HS.out
              exact ⟨j + 1, by omega, by go_num, by rw [hla], hs.2 ⟨hr, h7, h8⟩, rfl⟩
          · have hz2 := HO.out (Or.inr h8)
            subst hz2
            go_wp2
            go_ret
            exact ⟨rfl, HG.out⟩
        · have hz2 := HO.out (Or.inl h7)
          subst hz2
          go_wp2
          go_ret
          exact ⟨rfl, HG.out⟩
      · have hj : j = n := by omega
        subst hj
        have h5 := HC.out.2
        rw [code_ok ⟨h1, h2, h3, h4, by rw [← HL.out, List.take_length] at hr; exact hr⟩] at h5
        subst h5
        clear hr
        go_wp2
        go_ret
        exact ⟨rfl, HG.out⟩
  · rw [code_no (fun h => hb ⟨h.1, h.2.1, h.2.2.1, h.2.2.2.1⟩)]
    exact check_no R W _ (by omega) w

set_option maxHeartbeats 400000 in
theorem seatsOf_any (R W : Int) (v : Value) (h0 : 1 ≤ R) (h1 : R ≤ 64) (h2 : 1 ≤ W) (h3 : W ≤ 16) (w : World) :
    Calls Tryz.prog 75 #[cbV R W v] w fun e w' => e = .returned (.int .i64 (R * W)) ∧ w.grownBy w' none := by
  have hG : ∀ o, w.grownBy (w.alloc o) none := fun o => grown_alloc w o
  have hm : IntKind.i64.wrap (R * W) = R * W := by
    have h4 : 0 ≤ R * W := Int.mul_nonneg (by omega) (by omega)
    have h5 : R * W ≤ 64 * 16 := Int.mul_le_mul h1 h3 (by omega) (by omega)
    exact IntWalk.i64_in _ (by omega)
  unfold cbV
  go_enter Tryz.func75, Tryz.ntmps75
  go_wp2
  go_ret
  exact ⟨rfl, hG _⟩
end Go.Proofs.YtnnmaknjhfjojaaGreatDoor
/- The contracts of aislesOf and beginsBlock: where aisles lie, as an array of 17. -/
namespace Go.Proofs.YtnnmaknjhfjojaaGreatDoor
open Go.RowKit Cx
attribute [local go_sem ↓] Go.wp_at_zero Go.wp_at_succ

/-- What lies in n cells from offset o of block b on; that they are there; an address' block and offset. -/
def rangeOf (w : World) (b o n : Nat) : List Value := (List.range n).map fun j => (w.cell? ⟨b, o + j, none⟩).getD undef
def rangeOk (w : World) (b o n : Nat) : Prop := ∀ j, j < n → (w.cell? ⟨b, o + j, none⟩).isSome = true
def blkOf : Value → Nat | .pointer (some a) => a.block | _ => 0
def offOf : Value → Nat | .pointer (some a) => a.off | _ => 0
def isPtr : Value → Bool | .pointer (some ⟨_, _, none⟩) => true | _ => false
theorem blkOf_ptr (b o : Nat) : blkOf (.pointer (some ⟨b, o, none⟩)) = b := rfl
theorem offOf_ptr (b o : Nat) : offOf (.pointer (some ⟨b, o, none⟩)) = o := rfl
theorem isPtr_ptr (b o : Nat) : isPtr (.pointer (some ⟨b, o, none⟩)) = true := rfl
theorem ptr_of {v : Value} (h : isPtr v = true) : v = .pointer (some ⟨blkOf v, offOf v, none⟩) := by
  unfold isPtr at h; split at h
  · rfl
  · cases h
theorem rangeOk.at {w : World} {b o n : Nat} (h : rangeOk w b o n) : w.rangeAt b o (rangeOf w b o n) := by
  intro j v hv
  unfold rangeOf at hv
  rw [List.getElem?_map] at hv
  cases hj : (List.range n)[j]? with
  | none => simp [hj] at hv
  | some k =>
    have hk := List.getElem?_eq_some_iff.1 hj
    obtain ⟨hlt, he⟩ := hk
    simp at he hlt
    subst he
    simp [hj] at hv
    have := h j hlt
    cases hc : w.cell? ⟨b, o + j, none⟩ with
    | none => simp [hc] at this
    | some x => simp [hc] at hv; rw [hv]
theorem rangeOf_length (w : World) (b o n : Nat) : (rangeOf w b o n).length = n := by simp [rangeOf]
theorem rangeOf_eq {w : World} {b o n : Nat} {l : List Value} (h : w.rangeAt b o l) (hl : l.length = n) : rangeOf w b o n = l := by
  apply List.ext_getElem?
  intro j
  unfold rangeOf
  rw [List.getElem?_map]
  by_cases hj : j < n
  · have hjl : j < l.length := by omega
    rw [List.getElem?_eq_getElem hjl, List.getElem?_range hj]
    simp [h j _ (List.getElem?_eq_getElem hjl)]
  · rw [List.getElem?_eq_none (by simp; omega), List.getElem?_eq_none (by omega)]; rfl
theorem rangeOk_of {w : World} {b o n : Nat} {l : List Value} (h : w.rangeAt b o l) (hl : l.length = n) : rangeOk w b o n := by
  intro j hj
  have hjl : j < l.length := by omega
  rw [h j _ (List.getElem?_eq_getElem hjl)]; rfl
/-- A load of a long array, as an equation. -/
theorem wp_load_range {P : Program} {op : Oper} {a : Act} {w : World} {K : Act → World → Prop} {Q : Exit → Act → World → Prop} (ty : TypeId) (x : Operand) (ho : op.op = .load ty x) (d : TypeDesc) (n : Nat)
    (hu : P.underlying ty = some d) (hd : d.isRow = true) (hi : (P.info? ty).map (·.size) = some n) (hx : isPtr (a.eval x) = true) (hr : rangeOk w (blkOf (a.eval x)) (offOf (a.eval x)) n) :
    op.wp P a w K Q = K (a.put op.dst (.agg (rangeOf w (blkOf (a.eval x)) (offOf (a.eval x)) n).toArray)) w := by
  unfold Oper.wp execOp
  rw [ho]
  have hp := ptr_of hx
  have hl := run_loadVar_mid (P := P) w (blkOf (a.eval x)) (offOf (a.eval x)) ty _ d hr.at hu hd (by rw [rangeOf_length]; exact hi)
  simp only [Instr.loadAt]
  rw [hp]
  simp only [Instr.sureAddr, Sem.run_bind, Sem.run_pure, Result.andThen_ok, blkOf_ptr, offOf_ptr, hl]
  rfl
theorem Tryz.size125 : (Tryz.prog.info? 125).map (·.size) = some 17 := by kernel_rfl
theorem wp_load61 {x : Operand} {dst : Option Tmp} {ty : TypeId} {pos : String} {A : Array Edge} {gd : Option (Nat × Bool)} {a : Act} {w : World} {K : Act → World → Prop} {Q : Exit → Act → World → Prop} (hx : isPtr (a.eval x) = true) (hr : rangeOk w (blkOf (a.eval x)) (offOf (a.eval x)) 17) :
    Oper.wp Tryz.prog { dst := dst, op := .load 125 x, type := ty, pos := pos, after := A, guard := gd } a w K Q = K (a.put dst (.agg (rangeOf w (blkOf (a.eval x)) (offOf (a.eval x)) 17).toArray)) w :=
  wp_load_range 125 x rfl _ 17 Tryz.underlying125 rfl Tryz.size125 hx hr
theorem range_row {w : World} {b : Nat} {C : List Value} {t : TypeId} {fr : Nat × Nat} (h : w.heap[b]? = some (.cells C.toArray t fr)) (hC : C.length = 17) : rangeOk w b 0 17 ∧ rangeOf w b 0 17 = C := by
  have hr : w.rangeAt b 0 C := by
    intro j v hv
    rw [Nat.zero_add, cell_row h]; exact hv
  exact ⟨rangeOk_of hr hC, rangeOf_eq hr hC⟩
/-- A store of a long array, as an equation. -/
def aggOk (v : Value) : Bool := match v with | .agg c => c.size == 17 && c.all (·.oneCell') | _ => false
def rowOk (w : World) (b : Nat) : Prop := ∃ old t, w.heap[b]? = some (.cells old t (0, 0)) ∧ old.size = 17
theorem wp_store61 {x y : Operand} {dst : Option Tmp} {ty : TypeId} {pos : String} {A : Array Edge} {gd : Option (Nat × Bool)} {a : Act} {w : World} {K : Act → World → Prop} {Q : Exit → Act → World → Prop} (hx : isPtr (a.eval x) = true) (ho : offOf (a.eval x) = 0) (hy : aggOk (a.eval y) = true) (hr : rowOk w (blkOf (a.eval x))) :
    Oper.wp Tryz.prog { dst := dst, op := .store 125 x y, type := ty, pos := pos, after := A, guard := gd } a w K Q = K (a.put dst undef) (w.setRow (blkOf (a.eval x)) (a.eval y).cells) := by
  have hp := ptr_of hx
  rw [ho] at hp
  obtain ⟨old, t, hg, hs⟩ := hr
  generalize blkOf (a.eval x) = b at *
  cases hv : a.eval y with
  | agg c =>
    rw [hv] at hy
    simp only [aggOk, Bool.and_eq_true, beq_iff_eq] at hy
    unfold Oper.wp execOp
    simp only [hp, hv, Instr.storeAt, Instr.sureAddr, Sem.run_bind, Sem.run_pure, Result.andThen_ok, run_storeVar_row w b t 125 old c hg (by rw [Tryz.size125, hy.1]) (by rw [hs, hy.1]) hy.2, Value.cells]
    rfl
  | _ => rw [hv] at hy; cases hy

/-- The array of aisles. -/
def arrC (L : List Int) : List Value := (List.range 17).map fun i => .bool (ai L i)
theorem arrC_len (L : List Int) : (arrC L).length = 17 := by simp [arrC]
theorem arrC_get (L : List Int) {i : Nat} (h : i < 17) : (arrC L)[i]? = some (.bool (ai L i)) := by simp [arrC, h]
theorem arrC_one (L : List Int) : ((arrC L).toArray.all (·.oneCell')) = true := by
  rw [List.all_toArray, List.all_eq_true]
  intro v hv
  unfold arrC at hv
  rw [List.mem_map] at hv
  obtain ⟨i, _, rfl⟩ := hv
  rfl
theorem arrC_agg (L : List Int) : aggOk (.agg (arrC L).toArray) = true := by
  simp only [aggOk, Bool.and_eq_true, beq_iff_eq]
  exact ⟨by simp [arrC_len], arrC_one L⟩
theorem arrC_set (L : List Int) (x : Int) (k : Nat) (hx : x = (k : Int)) (hk : k < 17) : (arrC L).set k (.bool true) = arrC (L ++ [x]) := by
  apply List.ext_getElem?
  intro i
  rw [List.getElem?_set]
  by_cases hi : i < 17
  · rw [arrC_get _ hi, arrC_get _ hi, arrC_len]
    by_cases e : k = i
    · subst e; subst hx; rw [if_pos rfl, if_pos hk]; simp [ai]
    · rw [if_neg e]
      have : ai (L ++ [x]) i = ai L i := by
        unfold ai
        rw [Bool.eq_iff_iff]
        simp only [List.contains_iff_mem, List.mem_append, List.mem_singleton]
        constructor
        · rintro (h | h)
          · exact h
          · exfalso; omega
        · exact Or.inl
      rw [this]
  · rw [List.getElem?_eq_none (by rw [arrC_len]; omega), List.getElem?_eq_none (by rw [arrC_len]; omega), arrC_len]
    rw [if_neg (by omega)]
theorem below_setRow {B : Nat} {w w' : World} (h : Below B w w') {g : Nat} (hg : B ≤ g) (cs : Array Value) : Below B w (w'.setRow g cs) :=
  ⟨h.os, h.tape, h.output, by simp [World.setRow]; exact h.size, fun k hk => (setRow_other w' g k cs (by omega)).trans (h.block k hk)⟩

theorem alloc3 (w : World) (o1 o2 o3 : Obj) : (((w.alloc o1).alloc o2).alloc o3).heap[w.heap.size + 1]? = some o2 ∧ (((w.alloc o1).alloc o2).alloc o3).heap[w.heap.size + 2]? = some o3 ∧ w.grownBy (((w.alloc o1).alloc o2).alloc o3) none := by
  have h1 := heap_alloc_new (w.alloc o1) o2
  have h2 := heap_alloc_new ((w.alloc o1).alloc o2) o3
  rw [alloc_size] at h1
  rw [alloc_size, alloc_size] at h2
  exact ⟨heap_kept h1 (grown_alloc _ _) (by simp), h2, grown_trans (grown_alloc _ _) (grown_trans (grown_alloc _ _) (grown_alloc _ _))⟩

section
attribute [local go_sem ↓] wp_load61 wp_store61
attribute [local go_sem] blkOf_ptr offOf_ptr isPtr_ptr
set_option maxRecDepth 100000 in
set_option maxHeartbeats 1000000 in
theorem aislesOf_any (R W : Int) (ao : Option Addr) (n cap : Nat) (L : List Int) (w : World) (hc : CbIn w ao n cap L) (hW : W ≤ 16) (hr : rise W 0 L) :
    Calls Tryz.prog 77 #[cbV R W (.slice ao n cap)] w fun e w' => e = .returned (.agg (arrC L).toArray) ∧ w.grownBy w' none := by
  have hlen := hc.len
  have hsm := hc.sm
  have HC := hide (And.intro hc (And.intro hlen hr))
  clear hc hr hlen
  unfold cbV
  obtain ⟨C, hC⟩ : ∃ C, C = arrC L := ⟨_, rfl⟩
  rw [← hC]
  have HCC := hide hC
  clear hC
  go_enter Tryz.func77, Tryz.ntmps77
  go_wp2
  go_loopg [9] n (fun k i wr => ∃ j : Nat, k + j = n ∧ i = .int .i64 j ∧ wr.heap[w.heap.size + 1]? = some (.cells (arrC []).toArray 125 (0, 0)) ∧ wr.heap[w.heap.size + 2]? = some (.cells (arrC (L.take j)).toArray 125 (0, 0)) ∧ w.grownBy wr none)
  case atStart =>
    obtain ⟨h1, h2, h3⟩ := alloc3 w (.cells #[.int .i64 R, .int .i64 W, .slice ao n cap] 24) (.cells (arrC []).toArray 125) (.cells (arrC []).toArray 125)
    exact ⟨0, by omega, rfl, h1, h2, h3⟩
  case round =>
    obtain ⟨j, hkj, rfl, h1, h2, hg⟩ := hrel
    by_cases hk : 0 < gk
    · obtain ⟨hc, hlen, hr⟩ := HC.out
      have hj : j < L.length := by rw [hlen]; omega
      obtain ⟨a, rfl, hcell⟩ := (hc.grown hg).cell hj
      have hm := rise_mem hr L[j] (List.getElem_mem hj)
      obtain ⟨x, hx⟩ : ∃ x : Nat, L[j] = (x : Int) := ⟨L[j].toNat, by omega⟩
      have hx2 : x < 17 := by omega
      have hset := arrC_set (L.take j) L[j] x hx hx2
      have htk : L.take j ++ [L[j]] = L.take (j + 1) := by rw [List.take_add_one, List.getElem?_eq_getElem hj]; rfl
      rw [htk] at hset
      have hcu := (cell_row h2 x).trans (arrC_get _ hx2)
      have hfu : wr.frozen? ⟨w.heap.size + 2, x, none⟩ = false := free_row h2 _
      rw [hx] at hcell
      have HR := hide (And.intro hset (And.intro h1 (And.intro h2 hg)))
      have h5 : (0 : Int) ≤ (j : Int) := by omega
      have h6 : (j : Int) < (n : Int) := by omega
      have h7 : (x : Int) < 17 := by omega
      clear hc hlen hr hm hset htk h1 h2 hg hx
      generalize ai (L.take j) x = bb at *
      go_wp2
      go_roundg (gk - 1)
      case measure => omega
      case rel =>
        obtain ⟨hset, h1, h2, hg⟩ := HR.out
        refine ⟨j + 1, by omega, by go_num, ?_, ?_, ?_⟩
        · exact (Below.heap_setCell _ _ _ _ (by simp)).trans h1
        · rw [← hset]; exact row_setCell h2 x _
        · exact grown_then hg (grown_setCell _ _ _ _) (fun i e => by cases e; exact Or.inl (by omega))
    · have hj : j = n := by omega
      subst hj
      obtain ⟨hc, hlen, hr⟩ := HC.out
      rw [← hlen, List.take_length, ← HCC.out] at h2
      have hrng := range_row h2 (by rw [HCC.out]; exact arrC_len L)
      have hok := hrng.1
      have hof := hrng.2
      have hagg : aggOk (.agg C.toArray) = true := by rw [HCC.out]; exact arrC_agg L
      have hrk : rowOk wr (w.heap.size + 1) := ⟨_, _, h1, by simp [arrC_len]⟩
      have HR := hide (And.intro h1 (And.intro h2 hg))
      clear hrng hc hlen hr h1 h2 hg
      go_wp2
      obtain ⟨h1, h2, hg⟩ := HR.out
      have hl : (loadVar 125 ⟨w.heap.size + 1, 0, none⟩).run Tryz.prog (wr.setRow (w.heap.size + 1) C.toArray) = .ok (.agg C.toArray) (wr.setRow (w.heap.size + 1) C.toArray) :=
        run_loadVar_row _ _ 125 125 C.toArray (0, 0) _ (setRow_heap wr _ _ _ 125 _ h1) Tryz.underlying125 rfl (by rw [Tryz.size125, HCC.out]; simp [arrC_len])
      refine bodyPost_ret (v := .agg C.toArray) (by simp [results, Tryz.results77, asAddr, hl]) rfl ⟨rfl, ?_⟩
      exact below_grown (below_setRow (grown_below hg) (by omega) _)
end
theorem tmod_nat (s W : Nat) : (s : Int).tmod (W : Int) = ((s % W : Nat) : Int) := by
  rw [Int.tmod_eq_emod_of_nonneg (by omega)]; rfl
theorem tdiv_nat (s W : Nat) : (s : Int).tdiv (W : Int) = ((s / W : Nat) : Int) := by
  rw [Int.tdiv_eq_ediv_of_nonneg (by omega)]; rfl
set_option maxHeartbeats 1000000 in
theorem begins_any (R : Int) (W : Nat) (v : Value) (L : List Int) (s : Nat) (h0 : 1 ≤ W) (h1 : W ≤ 16) (w : World) :
    Calls Tryz.prog 78 #[cbV R W v, .agg (arrC L).toArray, .int .i64 s] w fun e w' => e = .returned (.bool (bg W L s)) ∧ w.grownBy w' none := by
  have hq := Nat.mod_lt s (show W > 0 by omega)
  have hb : bg W L s = (s % W == 0 || ai L (s % W)) := rfl
  have ht := tmod_nat s W
  obtain ⟨C, hC⟩ : ∃ C, C = arrC L := ⟨_, rfl⟩
  have hget : C[s % W]? = some (.bool (ai L (s % W))) := by rw [hC]; exact arrC_get L (by omega)
  rw [← hC, hb]
  clear hC hb
  generalize s % W = q at *
  generalize ai L q = z at *
  have G : ∀ o o', w.grownBy ((w.alloc o).alloc o') none := fun o o' => grown_trans (grown_alloc _ _) (grown_alloc _ _)
  have hcell : ((w.alloc (.cells #[.int .i64 R, .int .i64 W, v] 24)).alloc (.cells C.toArray 125)).cell? ⟨w.heap.size + 1, q, none⟩ = some (.bool z) := by
    have h3 := heap_alloc_new (w.alloc (.cells #[.int .i64 R, .int .i64 W, v] 24)) (.cells C.toArray 125)
    rw [alloc_size] at h3
    rw [cell_row h3]; exact hget
  clear hget
  have hne : ((W : Int) == 0) = false := by simp; omega
  have hq1 : (q : Int) < 17 := by omega
  unfold cbV
  by_cases h2 : q = 0
  · subst h2
    go_enter Tryz.func78, Tryz.ntmps78
    go_wp2
    go_ret
    exact ⟨rfl, G _ _⟩
  · have h4 : (q == 0) = false := by simpa using h2
    have h5 : ((q : Int) == 0) = false := by simp; omega
    rw [h4]
    clear h4
    go_enter Tryz.func78, Tryz.ntmps78
    go_wp2
    go_ret
    exact ⟨by simp, G _ _⟩
end Go.Proofs.YtnnmaknjhfjojaaGreatDoor
/- The contracts of checkSeats, Seats, Place, Window, Beside. -/
namespace Go.Proofs.YtnnmaknjhfjojaaGreatDoor
open Go.RowKit Cx
attribute [local go_sem ↓] Go.wp_at_zero Go.wp_at_succ

/-- All of these are seats. -/
def All (R W : Int) (xs : List Int) : Prop := ∀ x ∈ xs, 0 ≤ x ∧ x < R * W
instance (R W : Int) (xs : List Int) : Decidable (All R W xs) := by unfold All; exact inferInstance
/-- What seats are refused with. -/
def wrg (R W : Int) (L xs : List Int) : Int := if Ok R W L then (if All R W xs then 0 else 140) else 2
theorem wrg_no {R W : Int} {L xs : List Int} (h : ¬ Ok R W L) : wrg R W L xs = 2 := if_neg h
theorem wrg_ok {R W : Int} {L xs : List Int} (h : Ok R W L) (h2 : All R W xs) : wrg R W L xs = 0 := by unfold wrg; rw [if_pos h, if_pos h2]
theorem wrg_seat {R W : Int} {L xs : List Int} (h : Ok R W L) (h2 : ¬ All R W xs) : wrg R W L xs = 140 := by unfold wrg; rw [if_pos h, if_neg h2]

end Go.Proofs.YtnnmaknjhfjojaaGreatDoor
/- The contracts of Seats, Place, Window, Beside. -/
namespace Go.Proofs.YtnnmaknjhfjojaaGreatDoor
open Go.RowKit Cx
attribute [local go_sem ↓] Go.wp_at_zero Go.wp_at_succ

theorem box3 {w : World} {g : Nat} {u v x : Value} {t : TypeId} (h : w.heap[g]? = some (.cells #[u, v, x] t)) : w.cell? ⟨g, 0, none⟩ = some u ∧ w.cell? ⟨g, 1, none⟩ = some v ∧ w.cell? ⟨g, 2, none⟩ = some x :=
  ⟨cell_row (l := [u, v, x]) h 0, cell_row (l := [u, v, x]) h 1, cell_row (l := [u, v, x]) h 2⟩
theorem at_one (w : World) (o : Obj) (x : Int) : At ((w.alloc o).alloc (.cells #[.int .i64 x] 3)) (some ⟨w.heap.size + 1, 0, none⟩) [x] := by
  have h := heap_alloc_new (w.alloc o) (.cells #[.int .i64 x] 3)
  rw [alloc_size] at h
  intro j u hu
  refine ⟨_, rfl, ?_⟩
  rw [Addr.add_lit, Nat.zero_add, cell_row (l := [.int .i64 x]) h]
  cases j with
  | zero => simp at hu; subst hu; rfl
  | succ k => simp at hu
theorem at_two (w : World) (o : Obj) (x y : Int) : At ((w.alloc o).alloc (.cells #[.int .i64 x, .int .i64 y] 3)) (some ⟨w.heap.size + 1, 0, none⟩) [x, y] := by
  have h := heap_alloc_new (w.alloc o) (.cells #[.int .i64 x, .int .i64 y] 3)
  rw [alloc_size] at h
  intro j u hu
  refine ⟨_, rfl, ?_⟩
  rw [Addr.add_lit, Nat.zero_add, cell_row (l := [.int .i64 x, .int .i64 y]) h]
  cases j with
  | zero => simp at hu; subst hu; rfl
  | succ k => cases k with
    | zero => simp at hu; subst hu; rfl
    | succ k => simp at hu
theorem grown2 (w : World) (o o' : Obj) : w.grownBy ((w.alloc o).alloc o') none := grown_trans (grown_alloc _ _) (grown_alloc _ _)
theorem box_two {w w2 : World} {o o' : Obj} (h : ((w.alloc o).alloc o').grownBy w2 none) : w2.heap[w.heap.size]? = some o := box_kept (grown_trans (grown_alloc _ _) h)

set_option maxHeartbeats 1000000 in
theorem seats_any (R W : Int) (ao : Option Addr) (n cap : Nat) (L : List Int) (w : World) (hc : CbIn w ao n cap L) :
    Calls Tryz.prog 45 #[cbV R W (.slice ao n cap)] w fun e w' => e = .returned (.tuple #[.int .i64 (if Ok R W L then R * W else 0), .int .i64 (code R W L)]) ∧ w.grownBy w' none := by
  have C := hide (fun w' (hg : w.grownBy w' none) => check_any R W ao n cap L w' (hc.grown hg))
  by_cases ho : Ok R W L
  · rw [code_ok ho] at *
    rw [if_pos ho]
    have S := hide (seatsOf_any R W (.slice ao n cap) ho.1 ho.2.1 ho.2.2.1 ho.2.2.2.1)
    clear ho hc
    unfold cbV at *
    generalize R * W = NN at *
    go_enter Tryz.func45, Tryz.ntmps45
    go_wp2_with fail
    refine (C.out _ (grown_alloc w _)).mono ?_
    rintro e w1 ⟨rfl, hg1⟩
    obtain ⟨c0, c1, c2⟩ := box3 (box_kept hg1)
    have G1 := hide (grown_trans (grown_alloc w _) hg1)
    clear hg1
    go_wp2_with fail
    refine (S.out _).mono ?_
    rintro e w2 ⟨rfl, hg2⟩
    have G2 := hide (grown_trans G1.out hg2)
    clear hg2
    go_wp2
    go_ret2
    exact ⟨rfl, G2.out⟩
  · rw [code_no ho] at *
    rw [if_neg ho]
    clear ho hc
    unfold cbV at *
    go_enter Tryz.func45, Tryz.ntmps45
    go_wp2_with fail
    refine (C.out _ (grown_alloc w _)).mono ?_
    rintro e w1 ⟨rfl, hg1⟩
    have G1 := hide (grown_trans (grown_alloc w _) hg1)
    clear hg1
    go_wp2
    go_ret2
    exact ⟨rfl, G1.out⟩

section
attribute [local go_sem ↓] wp_store61
attribute [local go_sem] blkOf_ptr offOf_ptr isPtr_ptr
/-- What Window tells of a column. -/
def win (W c : Nat) : Bool := c == 0 || c == W - 1
theorem zero61 (w : World) (C : Array Value) (hC : C = (arrC []).toArray) : rowOk (w.alloc (.cells C 125)) w.heap.size := by
  subst hC
  exact ⟨_, _, heap_alloc_new w _, by simp [arrC_len]⟩
theorem alloc_setRow (w : World) (z D : Array Value) (t : TypeId) : (w.alloc (.cells z t)).setRow w.heap.size D = w.alloc (.cells D t) := by
  unfold World.setRow World.alloc
  congr 1
  apply Array.ext
  · simp
  · intro i h1 h2
    simp only [Array.getElem_modify, Array.getElem_push]
    by_cases hi : i < w.heap.size
    · have : ¬ w.heap.size = i := by omega
      simp [this, hi]
    · simp at h2
      have : i = w.heap.size := by omega
      subst this
      simp
attribute [local go_sem] alloc_setRow
end

theorem first_grown (w : World) (n : Nat) (row : Option Nat) : w.grownBy (w.drewN n) row := grown_drewN w n row
/-- Two seats are neighbours with no aisle between them. -/
def bes (W : Nat) (L : List Int) (s t : Nat) : Bool := max s t - min s t == 1 && !bg W L (max s t)
end Go.Proofs.YtnnmaknjhfjojaaGreatDoor
/- Rows of ints that a call has made; the contract of some. -/
namespace Go.Proofs.YtnnmaknjhfjojaaGreatDoor
open Go.RowKit Cx
attribute [local go_sem ↓] Go.wp_at_zero Go.wp_at_succ

theorem Tryz.info3 : (Tryz.prog.info? 3).map (fun i => (i.zero, i.size, i.bytes)) = some (some (.int .i64 0), 1, 8) := by kernel_rfl
theorem wpList_append_at {w : World} {ops : Array Oper} {rest : List Oper} {o : Oper} {a : Act} {Q : Exit → Act → World → Prop} (hgd : o.guard = none) (s x : Operand)
    (ho : o.op = .call { callee := .builtin .append, args := #[s, x], argTypes := #[22, 22] }) (base : Nat) (v : Value) (n : Nat) (xs : List Value) (hs : a.eval s = v) (hown : w.ownsRow base 3 1 v n xs)
    (ao : Option Addr) (m c : Nat) (ys : List Int) (hx : a.eval x = .slice ao m c) (hm : ys.length = m) (hat : At w ao ys) (hnil : ao = none → m = 0 ∧ c = 0)
    (hbytes : n + m ≤ 17592186044416) (hbase : base ≤ w.heap.size)
    (h : ∀ v' w', w'.ownsRow base 3 1 v' (n + m) (xs ++ ys.map (Value.int .i64)) → w.grownBy w' v.ownBlock → wpList Tryz.prog ops Q rest (a.put o.dst v') w') : wpList Tryz.prog ops Q (o :: rest) a w := by
  obtain ⟨i0, hi, hz0, hz1, hz2⟩ := info_parts Tryz.info3
  cases ao with
  | none =>
    obtain ⟨rfl, rfl⟩ := hnil rfl
    refine wpList_append_own_none hgd s x 22 ho base 3 i0 1 Tryz.underlying22 hi v n xs hs hown hx (h v w ?_ (grown_refl w _))
    have : ys = [] := List.eq_nil_of_length_eq_zero hm
    subst this
    simpa using hown
  | some ad =>
    refine wpList_append_own _ hgd s x 22 ho base 3 i0 (.int .i64 0) 1 8 Tryz.underlying22 hi hz0 hz1 hz2 rfl (by decide) v n xs hs hown ad m c (ys.map (Value.int .i64)) hx (by simp [hm]) ?_ ?_ (by unfold maxLen; omega) (by omega) hbase (fun v' w' h1 h2 _ => h v' w' h1 h2)
    · intro j u hu
      rw [List.getElem?_map] at hu
      cases hj : ys[j]? with
      | none => simp [hj] at hu
      | some y =>
        simp [hj] at hu
        obtain ⟨a', ha', hc'⟩ := hat j y hj
        cases ha'
        rw [← hu]; exact hc'
    · intro u hu; rw [List.mem_map] at hu; obtain ⟨y, _, rfl⟩ := hu; rfl
theorem own_at {w : World} {base n : Nat} {v : Value} {xs : List Int} (h : w.ownsRow base 3 1 v n (xs.map (Value.int .i64))) :
    ∃ ao cap, v = .slice ao n cap ∧ xs.length = n ∧ n ≤ cap ∧ cap ≤ maxLen ∧ At w ao xs ∧ (ao = none → n = 0 ∧ cap = 0) ∧ (∀ a, ao = some a → base ≤ a.block ∧ a.block < w.heap.size ∧ ∃ c, w.heap[a.block]? = some (.cells c 3 (0, 0))) := by
  obtain ⟨hl, h⟩ := h
  simp at hl
  rcases h with ⟨rfl, rfl⟩ | ⟨g, cap, cur, rfl, hb, hg, hn, hm, hs, ht⟩
  · have : xs = [] := List.eq_nil_of_length_eq_zero hl
    subst this
    exact ⟨none, 0, rfl, rfl, Nat.le_refl _, Nat.zero_le _, At.nil _ _, fun _ => ⟨rfl, rfl⟩, fun a e => by cases e⟩
  · refine ⟨some ⟨g, 0, none⟩, cap, rfl, hl, hn, hm, ?_, (fun e => by cases e), fun a e => by cases e; exact ⟨hb, row_lt hg, cur, hg⟩⟩
    intro j u hu
    refine ⟨_, rfl, ?_⟩
    rw [Addr.add_lit, Nat.zero_add, cell_of_row w g j cur 3 (0, 0) hg]
    have h1 : (cur.toList.take (n * 1))[j]? = some (Value.int .i64 u) := by rw [ht, List.getElem?_map, hu]; rfl
    rw [List.getElem?_take] at h1
    split at h1
    · simpa using h1
    · cases h1
theorem own_kept {w w' : World} {base n k : Nat} {v : Value} {xs : List Value} {c : Array Value} {t : TypeId} {fr : Nat × Nat} (h : w.ownsRow base 3 1 v n xs) (hg : w.grownBy w' (some k)) (hk : w.heap[k]? = some (.cells c t fr)) (hne : t ≠ 3) : w'.ownsRow base 3 1 v n xs := by
  obtain ⟨hl, h⟩ := h
  refine ⟨hl, ?_⟩
  rcases h with h | ⟨g, cap, cur, rfl, hb, hgc, hr⟩
  · exact Or.inl h
  · refine Or.inr ⟨g, cap, cur, rfl, hb, heap_kept hgc hg ?_, hr⟩
    intro e
    cases e
    rw [hk] at hgc
    cases hgc
    exact hne rfl
theorem own_grown {w w' : World} {base n : Nat} {v : Value} {xs : List Value} (h : w.ownsRow base 3 1 v n xs) (hg : w.grownBy w' none) : w'.ownsRow base 3 1 v n xs := by
  obtain ⟨hl, h⟩ := h
  refine ⟨hl, ?_⟩
  rcases h with h | ⟨g, cap, cur, rfl, hb, hgc, hr⟩
  · exact Or.inl h
  · exact Or.inr ⟨g, cap, cur, rfl, hb, heap_kept hgc hg (by simp), hr⟩

theorem rise_more {W W' : Int} (h : W ≤ W') {xs : List Int} : ∀ {l : Int}, rise W l xs → rise W' l xs := by
  induction xs with
  | nil => intro l _; trivial
  | cons x t ih => intro l h1; exact ⟨h1.1, by have := h1.2.1; omega, ih h1.2.2⟩
theorem last_lt {W l : Int} {xs : List Int} (h : rise W l xs) (hl : l < W) : xs.getLastD l < W := by
  cases hx : xs.getLast? with
  | none => rw [List.getLastD_eq_getLast?, hx]; exact hl
  | some y =>
    rw [List.getLastD_eq_getLast?, hx]
    exact (rise_mem h y (List.mem_of_getLast? hx)).2
theorem cb_own {w : World} {base n : Nat} {v : Value} {L : List Int} (h : w.ownsRow base 3 1 v n (L.map (Value.int .i64))) (hn : n ≤ 17592186044000) : ∃ ao cap, v = .slice ao n cap ∧ CbIn w ao n cap L ∧ ∀ a, ao = some a → base ≤ a.block := by
  obtain ⟨ao, cap, rfl, h1, h2, h3, h4, h5, h6⟩ := own_at h
  exact ⟨ao, cap, rfl, ⟨h4, h1, h5, h2, h3, hn⟩, fun a e => (h6 a e).1⟩
theorem at_new1 (w : World) (x : Int) : At (w.alloc (.cells #[.int .i64 x] 3)) (some ⟨w.heap.size, 0, none⟩) [x] := by
  have h := heap_alloc_new w (.cells #[.int .i64 x] 3)
  intro j u hu
  refine ⟨_, rfl, ?_⟩
  rw [Addr.add_lit, Nat.zero_add, cell_row (l := [.int .i64 x]) h]
  cases j with
  | zero => simp at hu; subst hu; rfl
  | succ k => simp at hu

theorem set3 {w : World} {g : Nat} {u v x : Value} {t : TypeId} (h : w.heap[g]? = some (.cells #[u, v, x] t)) (u' v' x' : Value) :
    (((w.setCell ⟨g, 0, none⟩ u').setCell ⟨g, 1, none⟩ v').setCell ⟨g, 2, none⟩ x').heap[g]? = some (.cells #[u', v', x'] t) ∧ w.grownBy (((w.setCell ⟨g, 0, none⟩ u').setCell ⟨g, 1, none⟩ v').setCell ⟨g, 2, none⟩ x') (some g) := by
  refine ⟨?_, grown_trans (grown_trans (grown_setCell _ _ _ _) (grown_setCell _ _ _ _)) (grown_setCell _ _ _ _)⟩
  exact row_setCell (l := [u', v', x]) (row_setCell (l := [u', v, x]) (row_setCell (l := [u, v, x]) h 0 u') 1 v') 2 x'
/-- A cabin that the call made, of R rows, W wide. -/
def Made (w' : World) (e : Ending) (R W : Nat) : Prop := ∃ (L : List Int) (ao : Option Addr) (n cap : Nat), e = .returned (cbV R W (.slice ao n cap)) ∧ CbIn w' ao n cap L ∧ Ok R W L
end Go.Proofs.YtnnmaknjhfjojaaGreatDoor
