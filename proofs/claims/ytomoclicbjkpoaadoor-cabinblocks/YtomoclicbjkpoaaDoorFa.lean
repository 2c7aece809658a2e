/- What CabinBlocks asks of the row of blocks, by numbers alone. -/
import Derived.Test.YtomoclicbjkpoaaDoorCi
namespace Go.Proofs.YtomoclicbjkpoaaDoor.Cx

/-- Where the first i blocks end. -/
def ends (l : List (Nat × Nat)) (i : Nat) : Nat := ((l.take i).map Prod.snd).sum
theorem ends_zero (l : List (Nat × Nat)) : ends l 0 = 0 := by simp [ends]
theorem ends_succ {l : List (Nat × Nat)} {i : Nat} {p : Nat × Nat} (h : l[i]? = some p) : ends l (i + 1) = ends l i + p.2 := by
  unfold ends
  rw [List.take_add_one, h]
  simp
/-- The document's blocks lie one behind the other. -/
def Chn : Nat → List (Nat × Nat) → Prop
  | _, [] => True
  | a, p :: t => p.1 = a ∧ Chn (a + p.2) t
theorem chn_get {l : List (Nat × Nat)} : ∀ {a i : Nat} {p : Nat × Nat}, Chn a l → l[i]? = some p → p.1 = a + ends l i := by
  induction l with
  | nil => intro a i p _ h; simp at h
  | cons q t ih =>
    intro a i p h hi
    cases i with
    | zero => simp at hi; subst hi; rw [ends_zero]; exact h.1
    | succ k =>
      rw [List.getElem?_cons_succ] at hi
      have := ih h.2 hi
      rw [this]
      unfold ends
      simp; omega
theorem chn_snoc {l : List (Nat × Nat)} {q : Nat × Nat} : ∀ {a : Nat}, Chn a (l ++ [q]) ↔ Chn a l ∧ q.1 = a + ends l l.length := by
  induction l with
  | nil => intro a; simp [Chn, ends]
  | cons p t ih =>
    intro a
    simp only [List.cons_append, Chn, ih]
    have : ends (p :: t) (p :: t).length = p.2 + ends t t.length := by unfold ends; simp
    rw [this]
    constructor
    · rintro ⟨h1, h2, h3⟩; exact ⟨⟨h1, h2⟩, by omega⟩
    · rintro ⟨⟨h1, h2⟩, h3⟩; exact ⟨h1, h2, by omega⟩
theorem ends_snoc (l : List (Nat × Nat)) (q : Nat × Nat) : ends (l ++ [q]) (l ++ [q]).length = ends l l.length + q.2 := by unfold ends; rw [List.take_length, List.take_length]; simp
theorem doc_chain {W : Nat} {L : List Int} : ∀ n, Chn 0 (doc W L n) ∧ ends (doc W L n) (doc W L n).length = n
  | 0 => by simp [doc, Chn, ends]
  | n + 1 => by
    obtain ⟨h1, h2⟩ := doc_chain (W := W) (L := L) n
    have hne := doc_pos W L n
    show Chn 0 (bump (if bg W L n then doc W L n ++ [(n, 0)] else doc W L n)) ∧ ends (bump (if bg W L n then doc W L n ++ [(n, 0)] else doc W L n)) (bump (if bg W L n then doc W L n ++ [(n, 0)] else doc W L n)).length = n + 1
    have hA : Chn 0 (if bg W L n then doc W L n ++ [(n, 0)] else doc W L n) ∧ ends (if bg W L n then doc W L n ++ [(n, 0)] else doc W L n) (if bg W L n then doc W L n ++ [(n, 0)] else doc W L n).length = n := by
      split
      · exact ⟨chn_snoc.2 ⟨h1, by simp only; omega⟩, by rw [ends_snoc]; simp only; omega⟩
      · exact ⟨h1, h2⟩
    generalize (if bg W L n then doc W L n ++ [(n, 0)] else doc W L n) = A at *
    obtain ⟨xs, q, rfl⟩ : ∃ xs q, A = xs ++ [q] := by
      rcases List.eq_nil_or_concat A with e | ⟨xs, a, e⟩
      · exact absurd e hne
      · exact ⟨xs, a, by rw [e, List.concat_eq_append]⟩
    rw [bump_snoc]
    obtain ⟨g1, g2⟩ := hA
    rw [chn_snoc] at g1
    rw [ends_snoc] at g2
    exact ⟨chn_snoc.2 g1, by rw [ends_snoc]; simp only; omega⟩
/-- Of each block: where it lies, that it begins there, and nothing in it does. -/
theorem prg_get {R W : Nat} (hW : 1 ≤ W) {L : List Int} {i : Nat} {p : Nat × Nat} (h : (prg W L (R * W))[i]? = some p) :
    p.1 = ends (prg W L (R * W)) i ∧ p.1 < R * W ∧ bg W L p.1 = true ∧ 1 ≤ p.2 ∧ p.2 ≤ W ∧ bg W L (p.1 + p.2) = true ∧ (∀ d, 1 ≤ d → d < p.2 → bg W L (p.1 + d) = false) ∧ p.1 + p.2 ≤ R * W := by
  have hc := (doc_chain (W := W) (L := L) (R * W)).1
  rw [doc_all hW] at hc
  have h1 := chn_get hc h
  have hm := List.mem_of_getElem? h
  unfold prg at hm
  obtain ⟨s, hs, rfl⟩ := List.mem_map.1 hm
  obtain ⟨hs1, hs2⟩ := List.mem_filter.1 hs
  rw [List.mem_range] at hs1
  obtain ⟨n1, n2, n3, n4⟩ := nx_spec hW L s
  have h5 : nx W L s ≤ R * W - s := nx_le hW (by omega) (by rw [show s + (R * W - s) = R * W by omega]; exact bg_mul W L R)
  simp only at h1
  exact ⟨by simp only; omega, hs1, hs2, n1, n2, n3, n4, by simp only; omega⟩
theorem prg_ends {R W : Nat} (hW : 1 ≤ W) (L : List Int) : ends (prg W L (R * W)) (prg W L (R * W)).length = R * W := by
  have := (doc_chain (W := W) (L := L) (R * W)).2
  rw [doc_all hW] at this
  exact this
/-- Seats that do not begin a block stand in the row of the one ahead. -/
theorem same_row {W : Nat} (_hW : 1 ≤ W) {L : List Int} {f c : Nat} (h1 : 1 ≤ c) (h : ∀ d, 1 ≤ d → d < c → bg W L (f + d) = false) : f / W = (f + c - 1) / W := by
  induction c with
  | zero => omega
  | succ k ih =>
    rcases Nat.eq_zero_or_pos k with rfl | hk
    · simp
    · have := ih hk (fun d a b => h d a (by omega))
      have hb := h k hk (by omega)
      have hm : ¬ (f + k) % W = 0 := by
        intro e
        unfold bg at hb
        rw [e] at hb
        simp at hb
      have h2 := Nat.succ_div (a := f + k - 1) (b := W)
      rw [show (f + k - 1 + 1) = f + k by omega, if_neg (by rw [Nat.dvd_iff_mod_eq_zero]; exact hm)] at h2
      rw [show f + (k + 1) - 1 = f + k by omega]
      rw [this]; omega
/-- What Window tells of a seat within a block. -/
theorem win_in {W : Nat} (hW : 1 ≤ W) {L : List Int} {s : Nat} (h1 : bg W L s = false) (h2 : bg W L (s + 1) = false) : (s % W == 0 || s % W == W - 1) = false ∧ (ai L (s % W) || ai L (s % W + 1)) = false := by
  unfold bg at h1 h2
  rw [Bool.or_eq_false_iff] at h1 h2
  have hm := Nat.mod_lt s (show W > 0 by omega)
  have e1 : ¬ s % W = W - 1 := by
    intro e
    have : (s + 1) % W = 0 := by
      rw [Nat.add_mod, e]
      rcases Nat.lt_or_ge 1 W with h | h
      · rw [Nat.mod_eq_of_lt (show 1 < W by omega), show W - 1 + 1 = W by omega, Nat.mod_self]
      · have : W = 1 := by omega
        subst this; omega
    rw [this] at h2
    simp at h2
  have e2 : (s + 1) % W = s % W + 1 := by
    rw [Nat.add_mod]
    rcases Nat.lt_or_ge 1 W with h | h
    · rw [Nat.mod_eq_of_lt (show 1 < W by omega), Nat.mod_eq_of_lt (by omega)]
    · have : W = 1 := by omega
      subst this; omega
  rw [e2] at h2
  rw [h1.1, h1.2, h2.2]
  simp; exact e1
theorem win_first {W : Nat} {L : List Int} {s : Nat} (h1 : bg W L s = true) : (s % W == 0 || s % W == W - 1) = true ∨ (ai L (s % W) || ai L (s % W + 1)) = true := by
  unfold bg at h1
  rw [Bool.or_eq_true] at h1
  rcases h1 with h | h
  · left; rw [h]; rfl
  · right; rw [h]; rfl
theorem win_last {W : Nat} (hW : 1 ≤ W) {L : List Int} {s : Nat} (h1 : bg W L (s + 1) = true) : (s % W == 0 || s % W == W - 1) = true ∨ (ai L (s % W) || ai L (s % W + 1)) = true := by
  unfold bg at h1
  rw [Bool.or_eq_true] at h1
  have hm := Nat.mod_lt s (show W > 0 by omega)
  by_cases e : s % W = W - 1
  · left; rw [e]; simp
  · have e2 : (s + 1) % W = s % W + 1 := by
      rw [Nat.add_mod]
      rcases Nat.lt_or_ge 1 W with h | h
      · rw [Nat.mod_eq_of_lt (show 1 < W by omega), Nat.mod_eq_of_lt (by omega)]
      · have : W = 1 := by omega
        subst this; omega
    rw [e2] at h1
    rcases h1 with h | h
    · simp at h
    · right; rw [h]; simp
/-- How many blocks there are. -/
theorem filter_rise {W : Nat} : ∀ (L : List Int) (k : Nat), k < W → rise (W : Int) (k : Int) L → ((List.range' (k + 1) (W - (k + 1))).filter (fun s => ai L s)).length = L.length
  | [], k, _, _ => by simp [ai]
  | a :: t, k, hk, h => by
    obtain ⟨h1, h2, h3⟩ := h
    obtain ⟨b, rfl⟩ : ∃ b : Nat, a = (b : Int) := ⟨a.toNat, by omega⟩
    have hb : b < W := by omega
    have ih := filter_rise t b hb h3
    have e1 : List.range' (k + 1) (W - (k + 1)) = List.range' (k + 1) (b - (k + 1)) ++ (b :: List.range' (b + 1) (W - (b + 1))) := by
      have h5 : b :: List.range' (b + 1) (W - (b + 1)) = List.range' b (W - b) := by
        rw [show W - b = (W - (b + 1)) + 1 by omega, List.range'_succ]
      rw [h5]
      have h6 := List.range'_append (s := k + 1) (m := b - (k + 1)) (n := W - b) (step := 1)
      rw [show k + 1 + 1 * (b - (k + 1)) = b by omega, show b - (k + 1) + (W - b) = W - (k + 1) by omega] at h6
      exact h6.symm
    rw [e1, List.filter_append]
    have f1 : (List.range' (k + 1) (b - (k + 1))).filter (fun s => ai ((b : Int) :: t) s) = [] := by
      rw [List.filter_eq_nil_iff]
      intro s hs
      rw [List.mem_range'_1] at hs
      unfold ai
      rw [List.contains_iff_mem, List.mem_cons]
      rintro (e | e)
      · omega
      · have := (rise_mem h3 _ e).1; omega
    have f2 : ai ((b : Int) :: t) b = true := by unfold ai; rw [List.contains_iff_mem]; simp
    have f3 : (List.range' (b + 1) (W - (b + 1))).filter (fun s => ai ((b : Int) :: t) s) = (List.range' (b + 1) (W - (b + 1))).filter (fun s => ai t s) := by
      apply List.filter_congr
      intro s hs
      rw [List.mem_range'_1] at hs
      unfold ai
      rw [Bool.eq_iff_iff, List.contains_iff_mem, List.contains_iff_mem, List.mem_cons]
      constructor
      · rintro (e | e)
        · omega
        · exact e
      · exact Or.inr
    rw [f1, List.nil_append, List.filter_cons, if_pos f2, f3, List.length_cons, ih, List.length_cons]
theorem filter_row {W : Nat} (hW : 1 ≤ W) {L : List Int} (h : rise (W : Int) 0 L) : ((List.range W).filter (bg W L)).length = L.length + 1 := by
  have h1 := filter_rise L 0 (by omega) h
  have e1 : List.range W = 0 :: List.range' 1 (W - 1) := by
    rw [List.range_eq_range', show W = (W - 1) + 1 by omega, List.range'_succ]; simp
  rw [e1, List.filter_cons, if_pos (by simp [bg]), List.length_cons]
  have e2 : (List.range' 1 (W - 1)).filter (bg W L) = (List.range' (0 + 1) (W - (0 + 1))).filter (fun s => ai L s) := by
    apply List.filter_congr
    intro s hs
    rw [List.mem_range'_1] at hs
    unfold bg
    rw [Nat.mod_eq_of_lt (show s < W by omega)]
    have : (s == 0) = false := by simp; omega
    rw [this, Bool.false_or]
  rw [e2, h1]
theorem prg_count {W : Nat} (hW : 1 ≤ W) {L : List Int} (h : rise (W : Int) 0 L) : ∀ R, (prg W L (R * W)).length = R * (L.length + 1)
  | 0 => by simp [prg]
  | R + 1 => by
    have ih := prg_count hW h R
    unfold prg at ih ⊢
    rw [List.length_map] at ih ⊢
    rw [Nat.add_mul, Nat.one_mul, List.range_add, List.filter_append, List.length_append, ih, List.filter_map, List.length_map]
    have : (bg W L ∘ fun x => R * W + x) = bg W L := by
      funext x
      simp only [Function.comp, bg]
      rw [Nat.mul_comm R W, Nat.mul_add_mod]
    rw [this, filter_row hW h, Nat.add_mul]; omega
end Go.Proofs.YtomoclicbjkpoaaDoor.Cx
