/- Cabins by numbers alone: which may be, where blocks begin, the rows of blocks, seats' texts. -/
import Derived.Lib.AtoiAll
import Derived.Lib.ItoaNum
import Derived.Lib.Bytealg
namespace Go.Proofs.YtomoclicbjkpoabDoor.Cx

/-- Aisles that rise from l on, all below W. -/
def rise (W : Int) : Int → List Int → Prop
  | _, [] => True
  | l, a :: t => l < a ∧ a < W ∧ rise W a t
instance rise_dec (W : Int) : (l : Int) → (t : List Int) → Decidable (rise W l t)
  | _, [] => isTrue trivial
  | l, a :: t => by unfold rise; have := rise_dec W a t; exact inferInstance
def Ok (R W : Int) (L : List Int) : Prop := 1 ≤ R ∧ R ≤ 64 ∧ 1 ≤ W ∧ W ≤ 16 ∧ rise W 0 L
instance (R W : Int) (L : List Int) : Decidable (Ok R W L) := by unfold Ok; exact inferInstance
def code (R W : Int) (L : List Int) : Int := if Ok R W L then 0 else 2
theorem rise_snoc (W : Int) (xs : List Int) (a : Int) : ∀ l, rise W l (xs ++ [a]) ↔ rise W l xs ∧ xs.getLastD l < a ∧ a < W := by
  induction xs with
  | nil => intro l; simp [rise]
  | cons x t ih =>
    intro l
    simp only [List.cons_append, rise, ih x, List.getLastD_cons]
    constructor
    · rintro ⟨h1, h2, h3, h4, h5⟩; exact ⟨⟨h1, h2, h3⟩, h4, h5⟩
    · rintro ⟨⟨h1, h2, h3⟩, h4, h5⟩; exact ⟨h1, h2, h3, h4, h5⟩
theorem rise_app (W : Int) (xs ys : List Int) : ∀ l, rise W l (xs ++ ys) → rise W l xs := by
  induction xs with
  | nil => intro l _; simp [rise]
  | cons x t ih => intro l h; exact ⟨h.1, h.2.1, ih x h.2.2⟩
theorem rise_take {W l : Int} {xs : List Int} (h : rise W l xs) (k : Nat) : rise W l (xs.take k) := by
  rw [← List.take_append_drop k xs] at h; exact rise_app W _ _ l h
theorem rise_mem {W : Int} {xs : List Int} : ∀ {l : Int}, rise W l xs → ∀ a ∈ xs, l < a ∧ a < W := by
  induction xs with
  | nil => intro l _ a ha; cases ha
  | cons x t ih =>
    intro l h a ha
    rcases List.mem_cons.1 ha with rfl | ha
    · exact ⟨h.1, h.2.1⟩
    · have := ih h.2.2 a ha; exact ⟨by have := h.1; omega, this.2⟩
theorem getLastD_take {xs : List Int} {k : Nat} (hk : k < xs.length) (l : Int) : (xs.take (k + 1)).getLastD l = xs[k] := by
  rw [List.take_add_one, List.getElem?_eq_getElem hk, Option.toList_some, List.getLastD_eq_getLast?, List.getLast?_append]; simp

/-- An aisle lies ahead of column i. -/
def ai (L : List Int) (i : Nat) : Bool := L.contains (i : Int)
/-- A block begins at seat s. -/
def bg (W : Nat) (L : List Int) (s : Nat) : Bool := s % W == 0 || ai L (s % W)

/-- The place behind the block that begins at s, counted from s. -/
def nx (W : Nat) (L : List Int) (s : Nat) : Nat := ((List.range' 1 W).find? (fun c => bg W L (s + c))).getD 0
theorem bg_mul (W : Nat) (L : List Int) (k : Nat) : bg W L (k * W) = true := by simp [bg]
theorem nx_spec {W : Nat} (hW : 1 ≤ W) (L : List Int) (s : Nat) : 1 ≤ nx W L s ∧ nx W L s ≤ W ∧ bg W L (s + nx W L s) = true ∧ ∀ d, 1 ≤ d → d < nx W L s → bg W L (s + d) = false := by
  unfold nx
  cases h : (List.range' 1 W).find? (fun c => bg W L (s + c)) with
  | none =>
    exfalso
    rw [List.find?_eq_none] at h
    have h1 := Nat.mod_lt s hW
    have h2 := Nat.div_add_mod s W
    refine h (W - s % W) ?_ ?_
    · rw [List.mem_range'_1]; omega
    · have : s + (W - s % W) = (s / W + 1) * W := by
        have h3 := Nat.div_add_mod s W
        have h4 : W * (s / W) = s / W * W := Nat.mul_comm _ _
        rw [Nat.add_mul, Nat.one_mul]; omega
      rw [this]; exact bg_mul _ _ _
  | some c =>
    rw [Option.getD_some]
    rw [List.find?_eq_some_iff_append] at h
    obtain ⟨hb, as, bs, he, ha⟩ := h
    have hm : c ∈ List.range' 1 W := by rw [he]; simp
    rw [List.mem_range'_1] at hm
    refine ⟨by omega, by omega, hb, ?_⟩
    intro d h1 h2
    have hd : d ∈ List.range' 1 W := by rw [List.mem_range'_1]; omega
    rw [he] at hd
    have hlen : as.length = c - 1 := by
      have h3 : (List.range' 1 W)[as.length]? = some c := by rw [he]; simp
      have h5 := congrArg List.length he
      rw [List.length_range', List.length_append, List.length_cons] at h5
      rw [List.getElem?_range' (by omega)] at h3
      simp at h3; omega
    have h4 : as[d - 1]? = some d := by
      have h3 : (List.range' 1 W)[d - 1]? = some d := by
        rw [List.getElem?_range' (by omega)]; simp; omega
      rw [he, List.getElem?_append_left (by omega)] at h3
      exact h3
    have := ha d (List.mem_of_getElem? h4)
    simpa using this
theorem nx_le {W : Nat} (hW : 1 ≤ W) {L : List Int} {s c : Nat} (h1 : 1 ≤ c) (hb : bg W L (s + c) = true) : nx W L s ≤ c := by
  rcases Nat.lt_or_ge c (nx W L s) with h | h
  · have := (nx_spec hW L s).2.2.2 c h1 h; rw [hb] at this; cases this
  · exact h

/-- The blocks as the program gathers them: of the seats below n. -/
def prg (W : Nat) (L : List Int) (n : Nat) : List (Nat × Nat) := ((List.range n).filter (bg W L)).map fun s => (s, nx W L s)
/-- The same, cut at n. -/
def blk (W : Nat) (L : List Int) (n : Nat) : List (Nat × Nat) := ((List.range n).filter (bg W L)).map fun s => (s, min (nx W L s) (n - s))
theorem prg_succ (W : Nat) (L : List Int) (n : Nat) : prg W L (n + 1) = prg W L n ++ (if bg W L n then [(n, nx W L n)] else []) := by
  unfold prg
  rw [List.range_succ, List.filter_append, List.map_append]
  congr 1
  by_cases h : bg W L n <;> simp [h]
theorem prg_zero (W : Nat) (L : List Int) : prg W L 0 = [] := rfl
theorem prg_len_le (W : Nat) (L : List Int) (n : Nat) : (prg W L n).length ≤ n := by
  unfold prg; rw [List.length_map]; exact Nat.le_trans (List.length_filter_le _ _) (by simp)
theorem blk_all {W : Nat} (hW : 1 ≤ W) (L : List Int) {n : Nat} (hn : bg W L n = true) : blk W L n = prg W L n := by
  unfold blk prg
  apply List.map_congr_left
  intro s hs
  have h1 := (List.mem_filter.1 hs).1
  rw [List.mem_range] at h1
  have h2 : nx W L s ≤ n - s := nx_le hW (by omega) (by rw [show s + (n - s) = n by omega]; exact hn)
  rw [Nat.min_eq_left h2]
/-- The document's gathering: one seat more. -/
def bump (l : List (Nat × Nat)) : List (Nat × Nat) := l.modify (l.length - 1) fun p => (p.1, p.2 + 1)
def doc (W : Nat) (L : List Int) : Nat → List (Nat × Nat)
  | 0 => []
  | n + 1 => bump (if bg W L n then doc W L n ++ [(n, 0)] else doc W L n)
theorem modify_snoc {α : Type} (xs : List α) (a : α) (f : α → α) : (xs ++ [a]).modify xs.length f = xs ++ [f a] := by
  induction xs with
  | nil => rfl
  | cons x t ih => simp only [List.cons_append, List.length_cons, List.modify_succ_cons, ih]
theorem bump_snoc (xs : List (Nat × Nat)) (a : Nat × Nat) : bump (xs ++ [a]) = xs ++ [(a.1, a.2 + 1)] := by
  unfold bump
  rw [show (xs ++ [a]).length - 1 = xs.length by simp]
  exact modify_snoc xs a _
theorem blk_succ_yes {W : Nat} (hW : 1 ≤ W) {L : List Int} {n : Nat} (h : bg W L n = true) : blk W L (n + 1) = blk W L n ++ [(n, 1)] := by
  rw [blk_all hW L h]
  unfold blk prg
  rw [List.range_succ, List.filter_append, List.map_append]
  have e1 : (List.filter (bg W L) [n]) = [n] := by simp [h]
  rw [e1]
  congr 1
  · apply List.map_congr_left
    intro s hs
    have h1 := (List.mem_filter.1 hs).1
    rw [List.mem_range] at h1
    have h2 : nx W L s ≤ n - s := nx_le hW (by omega) (by rw [show s + (n - s) = n by omega]; exact h)
    rw [Nat.min_eq_left (by omega)]
  · have := (nx_spec hW L n).1
    simp; omega
/-- The last beginning below n + 1: there is one. -/
theorem last_bg {W : Nat} {L : List Int} : ∀ n : Nat, 0 < n → ∃ s xs, s < n ∧ bg W L s = true ∧ (List.range n).filter (bg W L) = xs ++ [s] ∧ (∀ t ∈ xs, t < s) ∧ ∀ t, s < t → t < n → bg W L t = false
  | 0, h => absurd h (by omega)
  | 1, _ => ⟨0, [], by omega, by simp [bg], by simp [bg, List.range_succ], (fun t ht => by cases ht), fun t h1 h2 => by omega⟩
  | n + 2, _ => by
    obtain ⟨s, xs, h1, h2, h3, h4, h5⟩ := last_bg (W := W) (L := L) (n + 1) (by omega)
    by_cases hb : bg W L (n + 1) = true
    · refine ⟨n + 1, xs ++ [s], by omega, hb, ?_, ?_, fun t a b => by omega⟩
      · rw [List.range_succ, List.filter_append, h3]; simp [hb]
      · intro t ht
        rcases List.mem_append.1 ht with h | h
        · have := h4 t h; omega
        · simp at h; omega
    · refine ⟨s, xs, by omega, h2, ?_, h4, ?_⟩
      · rw [List.range_succ, List.filter_append, h3]; simp [hb]
      · intro t a b
        rcases Nat.lt_or_ge t (n + 1) with h | h
        · exact h5 t a h
        · have : t = n + 1 := by omega
          subst this; simpa using hb
theorem blk_succ_no {W : Nat} (hW : 1 ≤ W) {L : List Int} {n : Nat} (h : bg W L n = false) : blk W L (n + 1) = bump (blk W L n) := by
  have hn : 0 < n := by
    rcases Nat.eq_zero_or_pos n with rfl | h0
    · simp [bg] at h
    · exact h0
  obtain ⟨s, xs, h1, h2, h3, h4, h5⟩ := last_bg (W := W) (L := L) n hn
  have e2 : (List.range (n + 1)).filter (bg W L) = xs ++ [s] := by
    rw [List.range_succ, List.filter_append, h3]; simp [h]
  unfold blk
  rw [e2, h3, List.map_append, List.map_append, List.map_cons, List.map_nil, List.map_cons, List.map_nil, bump_snoc]
  have hnx : n + 1 - s ≤ nx W L s := by
    rcases Nat.lt_or_ge (nx W L s) (n + 1 - s) with hl | hl
    · exfalso
      have hsp := nx_spec hW L s
      have hb := hsp.2.2.1
      rcases Nat.lt_or_ge (s + nx W L s) n with hq | hq
      · have := h5 _ (by omega) hq; rw [hb] at this; cases this
      · have he : s + nx W L s = n := by omega
        rw [he, h] at hb; cases hb
    · exact hl
  congr 1
  · apply List.map_congr_left
    intro t ht
    have hts := h4 t ht
    have h6 : nx W L t ≤ s - t := nx_le hW (by omega) (by rw [show t + (s - t) = s by omega]; exact h2)
    rw [Nat.min_eq_left (by omega), Nat.min_eq_left (by omega)]
  · rw [Nat.min_eq_right hnx, Nat.min_eq_right (by omega)]
    simp; omega
theorem doc_blk {W : Nat} (hW : 1 ≤ W) (L : List Int) : ∀ n, doc W L n = blk W L n
  | 0 => rfl
  | n + 1 => by
    have ih := doc_blk hW L n
    unfold doc
    by_cases h : bg W L n = true
    · rw [if_pos h, ih, bump_snoc, blk_succ_yes hW h]
    · rw [if_neg h, ih, blk_succ_no hW (by simpa using h)]
theorem doc_all {W : Nat} (hW : 1 ≤ W) (L : List Int) (R : Nat) : doc W L (R * W) = prg W L (R * W) := by
  rw [doc_blk hW, blk_all hW L (bg_mul _ _ _)]
theorem doc_len (W : Nat) (L : List Int) : ∀ n, (doc W L n).length ≤ n
  | 0 => by simp [doc]
  | n + 1 => by
    have ih := doc_len W L n
    unfold doc bump
    rw [List.length_modify]
    split <;> simp <;> omega
/-- What lies in the document's row behind n seats. -/
theorem doc_pos (W : Nat) (L : List Int) (n : Nat) : (if bg W L n then doc W L n ++ [(n, 0)] else doc W L n) ≠ [] := by
  by_cases h : bg W L n = true
  · rw [if_pos h]; simp
  · rw [if_neg h]
    cases n with
    | zero => simp [bg] at h
    | succ m =>
      unfold doc bump
      intro he
      have h2 := congrArg List.length he
      rw [List.length_modify] at h2
      exact doc_pos W L m (List.eq_nil_of_length_eq_zero (by simpa using h2))
end Go.Proofs.YtomoclicbjkpoabDoor.Cx
