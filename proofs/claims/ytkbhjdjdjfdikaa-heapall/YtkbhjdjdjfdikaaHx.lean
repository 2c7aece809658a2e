/- A tree of least places, numbers and lists alone. -/
namespace Go.Proofs.Ytkbhjdjdjfdikaa
section
variable {α : Type} [Inhabited α]
/-- Does the entry x come ahead of y? -/
def ah (lt : α → α → Bool) (x y : Nat × α) : Bool := if x.1 < y.1 then !(lt y.2 x.2) else lt x.2 y.2
def en (E : List (Nat × α)) (i : Nat) : Nat × α := E[i]?.getD default
def tn (T : List Nat) (i : Nat) : Nat := T[i]?.getD 0
/-- The better one of l and what the place b knows. -/
def lw1 (lt : α → α → Bool) (E : List (Nat × α)) (T : List Nat) (l b : Nat) : Nat := if ah lt (en E (tn T b)) (en E l) then tn T b else l
def lwA (lt : α → α → Bool) (E : List (Nat × α)) (T : List Nat) (j : Nat) : Nat := if 2 * j + 1 < E.length then lw1 lt E T j (2 * j + 1) else j
/-- The least place of j and all below it, by what those below it know. -/
def lw (lt : α → α → Bool) (E : List (Nat × α)) (T : List Nat) (j : Nat) : Nat := if 2 * j + 2 < E.length then lw1 lt E T (lwA lt E T j) (2 * j + 2) else lwA lt E T j
/-- From the place k - 1 up to the top. -/
def stl (lt : α → α → Bool) (E : List (Nat × α)) (T : List Nat) (k : Nat) : List Nat :=
  if h : k = 0 then T else stl lt E (T.set (k - 1) (lw lt E T (k - 1))) (k / 2)
termination_by k
decreasing_by omega
theorem stl_zero (lt : α → α → Bool) (E : List (Nat × α)) (T : List Nat) : stl lt E T 0 = T := by unfold stl; simp
theorem stl_step (lt : α → α → Bool) (E : List (Nat × α)) (T : List Nat) {k : Nat} (h : 0 < k) : stl lt E T k = stl lt E (T.set (k - 1) (lw lt E T (k - 1))) (k / 2) := by rw [stl, dif_neg (by omega)]
theorem stl_length (lt : α → α → Bool) (E : List (Nat × α)) (T : List Nat) (k : Nat) : (stl lt E T k).length = T.length := by
  induction k using Nat.strongRecOn generalizing T with
  | _ k ih =>
    by_cases h : k = 0
    · subst h; rw [stl_zero]
    · rw [stl_step _ _ _ (by omega), ih (k / 2) (by omega), List.length_set]
/-- The place b lies on the way from k - 1 up. -/
def Pth (k b : Nat) : Prop := ∃ d, k / 2 ^ d = b + 1
theorem Pth.self (b : Nat) : Pth (b + 1) b := ⟨0, by simp⟩
theorem Pth.up {k b : Nat} (h : Pth (k / 2) b) : Pth k b := by
  obtain ⟨d, h⟩ := h
  exact ⟨d + 1, by rw [Nat.pow_succ, Nat.mul_comm, ← Nat.div_div_eq_div_mul]; exact h⟩
theorem Pth.cases {k b : Nat} (h : Pth k b) : k = b + 1 ∨ Pth (k / 2) b := by
  obtain ⟨d, h⟩ := h
  cases d with
  | zero => left; simpa using h
  | succ d => right; exact ⟨d, by rw [Nat.pow_succ, Nat.mul_comm, ← Nat.div_div_eq_div_mul] at h; exact h⟩
theorem Pth.le {k b : Nat} (h : Pth k b) : b + 1 ≤ k := by
  obtain ⟨d, h⟩ := h
  have := Nat.div_le_self k (2 ^ d)
  omega
theorem not_pth_zero (b : Nat) : ¬ Pth 0 b := fun h => by have := h.le; omega
theorem Pth.trans {k b c : Nat} (h : Pth k b) (g : Pth (b + 1) c) : Pth k c := by
  obtain ⟨d, h⟩ := h
  obtain ⟨e, g⟩ := g
  refine ⟨d + e, ?_⟩
  rw [Nat.pow_add, ← Nat.div_div_eq_div_mul, h]
  exact g
theorem pth_left (j : Nat) : Pth (2 * j + 2) j := ⟨1, by rw [Nat.pow_one]; omega⟩
theorem pth_right (j : Nat) : Pth (2 * j + 3) j := ⟨1, by rw [Nat.pow_one]; omega⟩
theorem pth_top (k : Nat) (h : 0 < k) : Pth k 0 := by
  induction k using Nat.strongRecOn with
  | _ k ih =>
    by_cases h1 : k = 1
    · subst h1; exact Pth.self 0
    · exact (ih (k / 2) (by omega) (by omega)).up
/-- What lies below j: j itself, or below one of its two. -/
theorem Pth.below {k b : Nat} (h : Pth k b) : k = b + 1 ∨ Pth k (2 * b + 1) ∨ Pth k (2 * b + 2) := by
  obtain ⟨d, h⟩ := h
  induction d with
  | zero => left; simpa using h
  | succ d ih =>
    right
    rw [Nat.pow_succ, ← Nat.div_div_eq_div_mul] at h
    have h2 : k / 2 ^ d = 2 * b + 1 + 1 ∨ k / 2 ^ d = 2 * b + 2 + 1 := by omega
    rcases h2 with h2 | h2
    · exact .inl ⟨d, h2⟩
    · exact .inr ⟨d, h2⟩
theorem tn_set_self {T : List Nat} {i : Nat} (h : i < T.length) (x : Nat) : tn (T.set i x) i = x := by simp [tn, h]
theorem tn_set_other {T : List Nat} {i j : Nat} (h : i ≠ j) (x : Nat) : tn (T.set i x) j = tn T j := by simp [tn, h]
variable {lt : α → α → Bool} {E : List (Nat × α)} {T : List Nat}
theorem lw1_or (l b : Nat) : lw1 lt E T l b = l ∨ lw1 lt E T l b = tn T b := by unfold lw1; split <;> simp
theorem lwA_or (j : Nat) : lwA lt E T j = j ∨ (2 * j + 1 < E.length ∧ lwA lt E T j = tn T (2 * j + 1)) := by
  unfold lwA
  split
  · rename_i h
    rcases lw1_or (lt := lt) (E := E) (T := T) j (2 * j + 1) with h1 | h1
    · exact .inl h1
    · exact .inr ⟨h, h1⟩
  · exact .inl rfl
theorem lw_or (j : Nat) : lw lt E T j = j ∨ (2 * j + 1 < E.length ∧ lw lt E T j = tn T (2 * j + 1)) ∨ (2 * j + 2 < E.length ∧ lw lt E T j = tn T (2 * j + 2)) := by
  unfold lw
  split
  · rename_i h
    rcases lw1_or (lt := lt) (E := E) (T := T) (lwA lt E T j) (2 * j + 2) with h1 | h1
    · rw [h1]
      rcases lwA_or (lt := lt) (E := E) (T := T) j with h2 | h2
      · exact .inl h2
      · exact .inr (.inl h2)
    · exact .inr (.inr ⟨h, h1⟩)
  · rcases lwA_or (lt := lt) (E := E) (T := T) j with h2 | h2
    · exact .inl h2
    · exact .inr (.inl h2)
/-- What is reckoned at j hangs on what its two know, and on the items that these and j lead to. -/
theorem lw_congr {E' : List (Nat × α)} {T' : List Nat} {j : Nat} (hl : 2 * j + 1 < E'.length ↔ 2 * j + 1 < E.length) (hr : 2 * j + 2 < E'.length ↔ 2 * j + 2 < E.length)
    (h1 : 2 * j + 1 < E.length → tn T' (2 * j + 1) = tn T (2 * j + 1)) (h2 : 2 * j + 2 < E.length → tn T' (2 * j + 2) = tn T (2 * j + 2))
    (e0 : en E' j = en E j) (e1 : 2 * j + 1 < E.length → en E' (tn T (2 * j + 1)) = en E (tn T (2 * j + 1))) (e2 : 2 * j + 2 < E.length → en E' (tn T (2 * j + 2)) = en E (tn T (2 * j + 2))) : lw lt E' T' j = lw lt E T j := by
  have hA : lwA lt E' T' j = lwA lt E T j := by
    unfold lwA
    by_cases h : 2 * j + 1 < E.length
    · rw [if_pos h, if_pos (hl.2 h)]; unfold lw1; rw [h1 h, e1 h, e0]
    · rw [if_neg h, if_neg (fun e => h (hl.1 e))]
  unfold lw
  rw [hA]
  by_cases h : 2 * j + 2 < E.length
  · rw [if_pos h, if_pos (hr.2 h)]
    unfold lw1
    rw [h2 h, e2 h]
    have e3 : en E' (lwA lt E T j) = en E (lwA lt E T j) := by
      rcases lwA_or (lt := lt) (E := E) (T := T) j with h3 | ⟨h3, h4⟩
      · rw [h3]; exact e0
      · rw [h4]; exact e1 h3
    rw [e3]
  · rw [if_neg h, if_neg (fun e => h (hr.1 e))]
theorem lw_set {i : Nat} {x j : Nat} (h : (i + 1) / 2 ≠ j + 1) : lw lt E (T.set i x) j = lw lt E T j :=
  lw_congr Iff.rfl Iff.rfl (fun _ => tn_set_other (by omega) _) (fun _ => tn_set_other (by omega) _) rfl (fun _ => rfl) (fun _ => rfl)
/-- All places that are asked on the way up lie in the heap. -/
theorem stl_in {k : Nat} (hk : k ≤ E.length) (hT : T.length = E.length) (h : ∀ b, b < E.length → ¬ Pth k b → tn T b < E.length) : ∀ b, b < E.length → tn (stl lt E T k) b < E.length := by
  induction k using Nat.strongRecOn generalizing T with
  | _ k ih =>
    by_cases hz : k = 0
    · subst hz; rw [stl_zero]; exact fun b hb => h b hb (not_pth_zero b)
    · rw [stl_step _ _ _ (by omega)]
      refine ih (k / 2) (by omega) (by omega) (by rw [List.length_set]; exact hT) (fun b hb hp => ?_)
      by_cases hb1 : k - 1 = b
      · subst hb1
        rw [tn_set_self (by omega)]
        rcases lw_or (lt := lt) (E := E) (T := T) (k - 1) with h1 | ⟨h1, h2⟩ | ⟨h1, h2⟩
        · rw [h1]; omega
        · rw [h2]; exact h _ h1 (fun e => by have := e.le; omega)
        · rw [h2]; exact h _ h1 (fun e => by have := e.le; omega)
      · rw [tn_set_other hb1]
        refine h b hb (fun e => ?_)
        rcases e.cases with e | e
        · omega
        · exact hp e
/-- Behind the way up each place that was right is right, and so are those on the way. -/
theorem stl_right {k : Nat} (hk : k ≤ T.length) : ∀ b, (Pth k b ∨ tn T b = lw lt E T b) → tn (stl lt E T k) b = lw lt E (stl lt E T k) b := by
  induction k using Nat.strongRecOn generalizing T with
  | _ k ih =>
    intro b hb
    by_cases hz : k = 0
    · subst hz; rw [stl_zero]; exact hb.resolve_left (not_pth_zero b)
    · rw [stl_step _ _ _ (by omega)]
      refine ih (k / 2) (by omega) (by rw [List.length_set]; omega) b ?_
      by_cases hp : Pth (k / 2) b
      · exact .inl hp
      · right
        by_cases hb1 : k - 1 = b
        · subst hb1
          rw [tn_set_self (by omega), lw_set (by omega)]
        · have hn : ¬ Pth k b := fun e => by
            rcases e.cases with e | e
            · omega
            · exact hp e
          have hbl : tn T b = lw lt E T b := hb.resolve_left hn
          rw [tn_set_other hb1, lw_set (fun e => hp ⟨0, by rw [show k - 1 + 1 = k by omega] at e; simpa using e⟩)]
          exact hbl
/-- Each place knows the least one below it. -/
structure Good (lt : α → α → Bool) (E : List (Nat × α)) (T : List Nat) : Prop where
  len : T.length = E.length
  right : ∀ b, b < E.length → tn T b = lw lt E T b
theorem Good.sub (h : Good lt E T) : ∀ b, b < E.length → Pth (tn T b + 1) b ∧ tn T b < E.length := by
  have H : ∀ m b, E.length - b ≤ m → b < E.length → Pth (tn T b + 1) b ∧ tn T b < E.length := by
    intro m
    induction m with
    | zero => intro b h1 h2; omega
    | succ m ih =>
      intro b h1 h2
      rw [h.right b h2]
      rcases lw_or (lt := lt) (E := E) (T := T) b with e | ⟨e1, e2⟩ | ⟨e1, e2⟩
      · rw [e]; exact ⟨Pth.self b, h2⟩
      · rw [e2]
        have := ih (2 * b + 1) (by omega) e1
        exact ⟨this.1.trans (pth_left b), this.2⟩
      · rw [e2]
        have := ih (2 * b + 2) (by omega) e1
        exact ⟨this.1.trans (pth_right b), this.2⟩
  exact fun b hb => H _ b (Nat.le_refl _) hb
theorem en_append_left {E : List (Nat × α)} {x : Nat × α} {i : Nat} (h : i < E.length) : en (E ++ [x]) i = en E i := by simp [en, List.getElem?_append_left h]
theorem tn_append_left {T : List Nat} {x i : Nat} (h : i < T.length) : tn (T ++ [x]) i = tn T i := by simp [tn, List.getElem?_append_left h]
theorem en_set_other {E : List (Nat × α)} {x : Nat × α} {i j : Nat} (h : i ≠ j) : en (E.set i x) j = en E j := by simp [en, h]
theorem en_set_self {E : List (Nat × α)} {x : Nat × α} {i : Nat} (h : i < E.length) : en (E.set i x) i = x := by simp [en, h]
/-- An item more. -/
theorem Good.push (h : Good lt E T) (x : Nat × α) : Good lt (E ++ [x]) (stl lt (E ++ [x]) (T ++ [E.length]) (E.length + 1)) := by
  have hl := h.len
  refine ⟨by rw [stl_length]; simp [hl], fun b hb => ?_⟩
  refine stl_right (by simp [hl]) b ?_
  by_cases hp : Pth (E.length + 1) b
  · exact .inl hp
  · right
    have hb1 : b ≠ E.length := fun e => hp (by rw [e]; exact Pth.self _)
    have hb2 : b < E.length := by simp at hb; omega
    have hl1 : 2 * b + 1 ≠ E.length := fun e => hp (by rw [← e]; exact pth_left b)
    have hl2 : 2 * b + 2 ≠ E.length := fun e => hp (by rw [← e]; exact pth_right b)
    rw [tn_append_left (by omega), h.right b hb2]
    symm
    refine lw_congr (by simp; omega) (by simp; omega) (fun h1 => tn_append_left (by omega)) (fun h1 => tn_append_left (by omega)) (en_append_left hb2) (fun h1 => en_append_left (h.sub _ h1).2) (fun h1 => en_append_left (h.sub _ h1).2)
/-- Another item at a place. -/
theorem Good.set (h : Good lt E T) {i : Nat} (hi : i < E.length) (x : Nat × α) : Good lt (E.set i x) (stl lt (E.set i x) T (i + 1)) := by
  have hl := h.len
  refine ⟨by rw [stl_length]; simp [hl], fun b hb => ?_⟩
  refine stl_right (by omega) b ?_
  rw [List.length_set] at hb
  by_cases hp : Pth (i + 1) b
  · exact .inl hp
  · right
    rw [h.right b hb]
    symm
    refine lw_congr (by simp) (by simp) (fun _ => rfl) (fun _ => rfl) (en_set_other (fun e => hp (by rw [e]; exact Pth.self _))) (fun h1 => en_set_other (fun e => hp ?_)) (fun h1 => en_set_other (fun e => hp ?_))
    · have := (h.sub _ h1).1
      rw [← e] at this
      exact this.trans (pth_left b)
    · have := (h.sub _ h1).1
      rw [← e] at this
      exact this.trans (pth_right b)
/-- What lies there when the item at i has gone: the last one takes its place. -/
def outE (E : List (Nat × α)) (i : Nat) : List (Nat × α) := (E.set i (en E (E.length - 1))).take (E.length - 1)
def outT (lt : α → α → Bool) (E : List (Nat × α)) (T : List Nat) (i : Nat) : List Nat :=
  if i < E.length - 1 then stl lt (outE E i) (stl lt (outE E i) (T.take (E.length - 1)) (E.length / 2)) (i + 1) else stl lt (outE E i) (T.take (E.length - 1)) (E.length / 2)
theorem outE_length {i : Nat} : (outE E i).length = E.length - 1 := by simp [outE]
theorem en_out {i j : Nat} (hj : j < E.length - 1) (h : j ≠ i) : en (outE E i) j = en E j := by
  unfold en outE
  rw [List.getElem?_take, if_pos hj, List.getElem?_set_ne (fun e => h e.symm)]
theorem tn_take {n i : Nat} (h : i < n) : tn (T.take n) i = tn T i := by simp [tn, h]
theorem Good.out_mid (h : Good lt E T) {i : Nat} (hi : i < E.length) {b : Nat} (hb : b < E.length - 1) (h1 : ¬ Pth (E.length / 2) b) (h2 : i < E.length - 1 → ¬ Pth (i + 1) b) : tn (T.take (E.length - 1)) b = lw lt (outE E i) (T.take (E.length - 1)) b := by
  have hl := h.len
  have hq : ¬ Pth (E.length - 1 + 1) b := fun e => by
    rw [show E.length - 1 + 1 = E.length by omega] at e
    rcases e.cases with e | e
    · omega
    · exact h1 e
  have hq2 : ¬ Pth (i + 1) b := fun e => by
    by_cases hi2 : i < E.length - 1
    · exact h2 hi2 e
    · rw [show i = E.length - 1 by omega] at e; exact hq e
  have hl1 : 2 * b + 1 ≠ E.length - 1 := fun e => hq (by rw [← e]; exact pth_left b)
  have hl2 : 2 * b + 2 ≠ E.length - 1 := fun e => hq (by rw [← e]; exact pth_right b)
  have far : ∀ c, c < E.length → (c = b ∨ Pth (c + 1) b) → en (outE E i) c = en E c := fun c hc hcb => by
    have h3 : Pth (c + 1) b := by rcases hcb with rfl | e; exact Pth.self _; exact e
    exact en_out (by have : c ≠ E.length - 1 := fun e => hq (by rw [← e]; exact h3); omega) (fun e => hq2 (by rw [← e]; exact h3))
  rw [tn_take hb, h.right b (by omega)]
  symm
  refine lw_congr (by rw [outE_length]; omega) (by rw [outE_length]; omega) (fun h3 => tn_take (by omega)) (fun h3 => tn_take (by omega)) (far b (by omega) (.inl rfl)) (fun h3 => ?_) (fun h3 => ?_)
  · exact far _ (h.sub _ h3).2 (.inr ((h.sub _ h3).1.trans (pth_left b)))
  · exact far _ (h.sub _ h3).2 (.inr ((h.sub _ h3).1.trans (pth_right b)))
theorem Good.out (h : Good lt E T) {i : Nat} (hi : i < E.length) : Good lt (outE E i) (outT lt E T i) := by
  have hl := h.len
  refine ⟨?_, fun b hb => ?_⟩
  · unfold outT; split <;> simp [stl_length, outE_length] <;> omega
  · rw [outE_length] at hb
    unfold outT
    split
    · rename_i hi2
      refine stl_right (by rw [stl_length]; simp; omega) b ?_
      by_cases h2 : Pth (i + 1) b
      · exact .inl h2
      · right
        refine stl_right (by simp; omega) b ?_
        by_cases h1 : Pth (E.length / 2) b
        · exact .inl h1
        · exact .inr (h.out_mid hi hb h1 (fun _ => h2))
    · rename_i hi2
      refine stl_right (by simp; omega) b ?_
      by_cases h1 : Pth (E.length / 2) b
      · exact .inl h1
      · exact .inr (h.out_mid hi hb h1 (fun e => absurd e hi2))
/-- All that is asked when an item goes lies in the heap. -/
theorem Good.out_in (h : Good lt E T) : ∀ b, b < E.length - 1 → ¬ Pth (E.length / 2) b → tn (T.take (E.length - 1)) b < E.length - 1 := by
  intro b hb hp
  rw [tn_take hb]
  obtain ⟨h1, h2⟩ := h.sub b (by omega)
  by_cases e : tn T b = E.length - 1
  · rw [e, show E.length - 1 + 1 = E.length by omega] at h1
    rcases h1.cases with e2 | e2
    · omega
    · exact absurd e2 hp
  · omega
end
end Go.Proofs.Ytkbhjdjdjfdikaa
