/- HeapSorts: the heap, the things, who is there. -/
import Derived.Test.YtkbhjdjdjfdikaaTk
import Derived.Test.YtkbhjdjdjfdikaaArgO
namespace Go.Proofs.Ytkbhjdjdjfdikaa.Th
open Go.RowKit Ap Go.Proofs.Ytkbhjdjdjfdikaa
attribute [local go_sem ↓] Go.wp_at_zero Go.wp_at_succ
attribute [local go_sem] run_store_float
/-- Blocks of cells that are not a heap's stay. -/
structure Oth (w w' : World) : Prop where
  size : w.heap.size ≤ w'.heap.size
  block : ∀ (g : Nat) (cur : Array Value) (e : TypeId), w.heap[g]? = some (.cells cur e (0, 0)) → e ≠ 88 → e ≠ 90 → e ≠ 3 → w'.heap[g]? = some (.cells cur e (0, 0))
theorem Oth.grown {w w' : World} (g : w.grownBy w' none) : Oth w w' := ⟨g.size, fun b _ _ h _ _ _ => (g.block b (row_lt h) (by simp)).trans h⟩
theorem Oth.trans {a b c : World} (h : Oth a b) (k : Oth b c) : Oth a c := ⟨Nat.le_trans h.size k.size, fun g cur e hg h1 h2 h3 => k.block g cur e (h.block g cur e hg h1 h2 h3) h1 h2 h3⟩
section
variable {w0 w w' : World} {h : Nat} {E : List (Nat × It)} {N B : Nat}
theorem HS.types {L : Les} {p : Hp} {T : List Nat} (s : HS w L p E T N B) {g : Nat} (hg : p.own g) : (∀ (cur : Array Value) (e : TypeId), w.heap[g]? = some (.cells cur e (0, 0)) → e = 88 ∨ e = 90 ∨ e = 3) := by
  intro cur e hb
  rcases hg with rfl | hg | hg | rfl
  · have := s.at_.head; rw [hb] at this; simp at this; exact .inl this.2
  · obtain ⟨c2, h2⟩ := row_block s.at_.ent hg; rw [hb] at h2; simp at h2; exact .inr (.inl h2.2)
  · obtain ⟨c2, h2⟩ := row_block s.at_.lst hg; rw [hb] at h2; simp at h2; exact .inr (.inr h2.2)
  · obtain ⟨es, ck, hm⟩ := s.at_.map.block; rw [hb] at hm; cases hm
theorem HS.oth {p q : Hp} {T : List Nat} (s : HS w lsT p E T N B) (k : Hst w w' lsT p q) : Oth w w' :=
  ⟨k.kept.size, fun g cur e hg h1 h2 h3 => k.kept.at hg (fun hx => hx.elim (fun x => x.elim) (fun x => by rcases s.types x cur e hg with h4 | h4 | h4; exact h1 h4; exact h2 h4; exact h3 h4))⟩
/-- A block of another kind is none of the heap's. -/
theorem HO.other (o : HO w0 w h E N B) {X : Nat → Prop} (k : Kept w w' X) (hX : ∀ i, X i → w0.heap.size ≤ i ∧ ∃ (cur : Array Value) (e : TypeId), w.heap[i]? = some (.cells cur e (0, 0)) ∧ e ≠ 88 ∧ e ≠ 90 ∧ e ≠ 3) : HO w0 w' h E N B :=
  o.far k (fun p T _ s _ i hi hx => by
    obtain ⟨_, cur, e, hc, h1, h2, h3⟩ := hX i hx
    rcases s.types hi cur e hc with h4 | h4 | h4
    · exact h1 h4
    · exact h2 h4
    · exact h3 h4) (fun i hx => (hX i hx).1)
theorem ho_push' (o : HO w0 w h E N B) (hE : E.length < 65536) (hN : N ≤ 100000000) (hB : B ≤ 100000000) (v : It) (hv : Wo v) :
    Calls Try.prog 25 #[.pointer (some ⟨h, 0, none⟩), .agg #[.string v.s, .float .f64 v.f]] w fun e w' => e = .returned (.tuple #[.int .i64 (N : Int), .int .i64 0]) ∧ HO w0 w' h (E ++ [(N, v)]) (N + 1) (B + 1) ∧ Oth w w' := by
  obtain ⟨p, T, rfl, h1, h2⟩ := o.hs
  refine (push_any lsT_ok h1 hE hN hB v hv).mono ?_
  rintro e w' ⟨rfl, q, T', h3, h4⟩
  exact ⟨rfl, o.step rfl h2 h3 h4, h1.oth h4⟩
theorem ho_set' (o : HO w0 w h E N B) (hE : E.length ≤ 65536) (x : Int) (v : It) (hx : (Lit.int .i64 x).wf = true) (hv : Wo v) :
    Calls Try.prog 27 #[.pointer (some ⟨h, 0, none⟩), .int .i64 x, .agg #[.string v.s, .float .f64 v.f]] w fun e w' => e = .returned (.bool (fi E x).isSome) ∧ HO w0 w' h ((fi E x).elim E fun i => setI E i v) N B ∧ Oth w w' := by
  obtain ⟨p, T, rfl, h1, h2⟩ := o.hs
  refine (set_any lsT_ok h1 hE x v hx hv).mono ?_
  rintro e w' ⟨rfl, T', h3, h4⟩
  exact ⟨rfl, o.step rfl h2 h3 h4, h1.oth h4⟩
theorem ho_drop' (o : HO w0 w h E N B) (hE : E.length ≤ 65536) (hN : N ≤ 100000000) (hB : B ≤ 100000000) (x : Int) (hx : (Lit.int .i64 x).wf = true) :
    Calls Try.prog 26 #[.pointer (some ⟨h, 0, none⟩), .int .i64 x] w fun e w' => e = .returned (.bool (fi E x).isSome) ∧ HO w0 w' h ((fi E x).elim E fun i => outE E i) N (B + 1) ∧ Oth w w' := by
  obtain ⟨p, T, rfl, h1, h2⟩ := o.hs
  refine (drop_any lsT_ok h1 hE hN hB x hx).mono ?_
  rintro e w' ⟨rfl, q, T', h3, h4⟩
  exact ⟨rfl, o.step rfl h2 h3 h4, h1.oth h4⟩
theorem ho_pop' (o : HO w0 w h E N B) (hz : 0 < E.length) (hE : E.length ≤ 65536) (hN : N ≤ 100000000) (hB : B ≤ 100000000) : Calls Try.prog 29 #[.pointer (some ⟨h, 0, none⟩)] w fun e w' => ∃ i, i < E.length ∧ (∀ c, c < E.length → Le (fun x : It => ((rk x.f : Nat) : Int)) (en E i) (en E c)) ∧ e = .returned (.tuple #[.agg #[.string (en E i).2.s, .float .f64 (en E i).2.f], .int .i64 ((en E i).1 : Int), .bool true]) ∧ HO w0 w' h (outE E i) N (B + 1) ∧ Oth w w' := by
  obtain ⟨p, T, rfl, h1, h2⟩ := o.hs
  refine (pop_any lsT_ok h1 hz hE hN hB).mono ?_
  rintro e w' ⟨rfl, q, T', h3, h4⟩
  exact ⟨tn T 0, (h1.good.sub 0 hz).2, h1.good.least (r := fun x : It => ((rk x.f : Nat) : Int)) (fun i j _ _ => rfl), rfl, o.step rfl h2 h3 h4, h1.oth h4⟩
end
def an (A : List It) (n : Nat) : It := A[n]?.getD default
def bn (Th : List Bool) (n : Nat) : Bool := Th[n]?.getD false
/-- What is in the heap: those that are there, each with its thing. -/
structure Rel (E : List (Nat × It)) (A : List It) (Th : List Bool) : Prop where
  len : Th.length = A.length
  inn : ∀ n, n < A.length → bn Th n = true → ∃ i, i < E.length ∧ (en E i).1 = n
  out : ∀ i, i < E.length → (en E i).1 < A.length ∧ bn Th (en E i).1 = true ∧ (en E i).2 = an A (en E i).1
theorem an_snoc_left {A : List It} {x : It} {n : Nat} (h : n < A.length) : an (A ++ [x]) n = an A n := by simp [an, List.getElem?_append_left h]
theorem an_snoc_last (A : List It) (x : It) : an (A ++ [x]) A.length = x := by simp [an]
theorem bn_snoc_left {Th : List Bool} {x : Bool} {n : Nat} (h : n < Th.length) : bn (Th ++ [x]) n = bn Th n := by simp [bn, List.getElem?_append_left h]
theorem bn_snoc_last (Th : List Bool) (x : Bool) : bn (Th ++ [x]) Th.length = x := by simp [bn]
theorem an_set (A : List It) (n : Nat) (x : It) (k : Nat) (hn : n < A.length) : an (A.set n x) k = if k = n then x else an A k := by
  unfold an
  rw [List.getElem?_set]
  by_cases e : n = k
  · subst e; rw [if_pos rfl, if_pos hn, if_pos rfl]; rfl
  · rw [if_neg e, if_neg (fun h => e h.symm)]
theorem bn_set (Th : List Bool) (n : Nat) (x : Bool) (k : Nat) (hn : n < Th.length) : bn (Th.set n x) k = if k = n then x else bn Th k := by
  unfold bn
  rw [List.getElem?_set]
  by_cases e : n = k
  · subst e; rw [if_pos rfl, if_pos hn, if_pos rfl]; rfl
  · rw [if_neg e, if_neg (fun h => e h.symm)]
section
variable {E : List (Nat × It)} {A : List It} {Th : List Bool} {N : Nat}
theorem Rel.fi (h : Rel E A Th) (hd : Hds E N) {n : Nat} (hn : n < A.length) : (Go.Proofs.Ytkbhjdjdjfdikaa.Th.fi E (n : Int)).isSome = bn Th n := by
  cases hf : Go.Proofs.Ytkbhjdjdjfdikaa.Th.fi E (n : Int) with
  | none =>
    cases hb : bn Th n with
    | false => rfl
    | true =>
      obtain ⟨i, hi, e⟩ := h.inn n hn hb
      rw [fi_some hd hi (by rw [e])] at hf
      cases hf
  | some i =>
    obtain ⟨h1, h2⟩ := fi_lt hf
    have h3 := (h.out i h1).2.1
    have : (en E i).1 = n := by omega
    rw [this] at h3
    rw [h3]
    rfl
theorem Rel.push (h : Rel E A Th) (x : It) : Rel (E ++ [(A.length, x)]) (A ++ [x]) (Th ++ [true]) := by
  have hl := h.len
  refine ⟨by simp [hl], fun n hn hb => ?_, fun i hi => ?_⟩
  · simp at hn
    by_cases h1 : n < A.length
    · rw [bn_snoc_left (by omega)] at hb
      obtain ⟨i, hi, e⟩ := h.inn n h1 hb
      exact ⟨i, by simp; omega, by rw [en_append_left hi]; exact e⟩
    · exact ⟨E.length, by simp, by have : n = A.length := by omega
                                   subst this; simp [en]⟩
  · simp at hi
    by_cases h1 : i < E.length
    · rw [en_append_left h1]
      obtain ⟨a, b, c⟩ := h.out i h1
      exact ⟨by simp; omega, by rw [bn_snoc_left (by omega)]; exact b, by rw [an_snoc_left a]; exact c⟩
    · have : i = E.length := by omega
      subst this
      have e : en (E ++ [(A.length, x)]) E.length = (A.length, x) := by simp [en]
      rw [e]
      exact ⟨by simp, by rw [← hl, bn_snoc_last], (an_snoc_last A x).symm⟩
theorem Rel.gone (h : Rel E A Th) (hd : Hds E N) {i n : Nat} (hi : i < E.length) (hn : (en E i).1 = n) : Rel (outE E i) A (Th.set n false) := by
  have hnA := (h.out i hi).1
  rw [hn] at hnA
  have hl := h.len
  have hm : ∀ j, j < E.length - 1 → ∃ k, k < E.length ∧ k ≠ i ∧ en (outE E i) j = en E k := fun j hj => by
    rw [outE_get hi hj]
    split
    · exact ⟨E.length - 1, by omega, by omega, rfl⟩
    · rename_i e; exact ⟨j, by omega, e, rfl⟩
  refine ⟨by simp [hl], fun k hk hb => ?_, fun j hj => ?_⟩
  · rw [bn_set _ _ _ _ (by omega)] at hb
    split at hb
    · cases hb
    · rename_i hkn
      obtain ⟨a, ha, e⟩ := h.inn k hk hb
      have hai : a ≠ i := fun x => hkn (by rw [← e, x, hn])
      by_cases hal : a = E.length - 1
      · refine ⟨i, by rw [outE_length]; omega, ?_⟩
        rw [outE_get hi (by omega), if_pos rfl, ← hal]
        exact e
      · exact ⟨a, by rw [outE_length]; omega, by rw [outE_get hi (by omega), if_neg hai]; exact e⟩
  · rw [outE_length] at hj
    obtain ⟨k, hk, hki, e⟩ := hm j hj
    rw [e]
    obtain ⟨a, b, c⟩ := h.out k hk
    refine ⟨a, ?_, c⟩
    rw [bn_set _ _ _ _ (by omega), if_neg (fun x => hki (hd.inj k i hk hi (x.trans hn.symm)))]
    exact b
theorem set_same {Th : List Bool} {n : Nat} (h : bn Th n = false) : Th.set n false = Th := by
  by_cases hn : n < Th.length
  · refine List.ext_getElem? (fun j => ?_)
    rw [List.getElem?_set]
    split
    · rename_i e
      subst e
      rw [List.getElem?_eq_getElem hn]
      unfold bn at h
      rw [List.getElem?_eq_getElem hn] at h
      simp at h
      rw [h]
    · rfl
  · exact List.set_eq_of_length_le (by omega)
theorem Rel.setT (h : Rel E A Th) (hd : Hds E N) {n : Nat} (hn : n < A.length) : Rel ((Go.Proofs.Ytkbhjdjdjfdikaa.Th.fi E (n : Int)).elim E fun i => outE E i) A (Th.set n false) := by
  have hf := h.fi hd hn
  cases hx : Go.Proofs.Ytkbhjdjdjfdikaa.Th.fi E (n : Int) with
  | none => rw [hx] at hf; rw [set_same hf.symm]; exact h
  | some i =>
    obtain ⟨h1, h2⟩ := fi_lt hx
    exact h.gone hd h1 (by omega)
theorem Rel.setA (h : Rel E A Th) (hd : Hds E N) {n : Nat} (hn : n < A.length) (x : It) : Rel ((Go.Proofs.Ytkbhjdjdjfdikaa.Th.fi E (n : Int)).elim E fun i => setI E i x) (A.set n x) Th := by
  have hf := h.fi hd hn
  cases hx : Go.Proofs.Ytkbhjdjdjfdikaa.Th.fi E (n : Int) with
  | none =>
    rw [hx] at hf
    show Rel E (A.set n x) Th
    refine ⟨by simp [h.len], fun k hk hb => h.inn k (by simpa using hk) hb, fun i hi => ?_⟩
    obtain ⟨a, b, c⟩ := h.out i hi
    refine ⟨by simpa using a, b, ?_⟩
    rw [an_set _ _ _ _ hn, if_neg (fun e => by rw [e, ← hf] at b; cases b)]
    exact c
  | some i =>
    obtain ⟨h1, h2⟩ := fi_lt hx
    have h2' : (en E i).1 = n := by omega
    show Rel (setI E i x) (A.set n x) Th
    refine ⟨by simp [h.len], fun k hk hb => ?_, fun j hj => ?_⟩
    · obtain ⟨a, ha, e⟩ := h.inn k (by simpa using hk) hb
      exact ⟨a, by rw [setI_length]; exact ha, by rw [setI_fst h1]; exact e⟩
    · rw [setI_length] at hj
      obtain ⟨a, b, c⟩ := h.out j hj
      rw [setI_fst h1]
      refine ⟨by simpa using a, b, ?_⟩
      rw [an_set _ _ _ _ hn, setI_get h1]
      by_cases e : j = i
      · subst e; rw [if_pos rfl, if_pos h2']
      · rw [if_neg e, if_neg (fun x => e (hd.inj j i hj h1 (x.trans h2'.symm)))]
        exact c
end
def acells (A : List It) : List Value := A.flatMap fun x => [.string x.s, .float .f64 x.f]
def bcells (Th : List Bool) : List Value := Th.map Value.bool
theorem acells_cons (y : It) (r : List It) : acells (y :: r) = .string y.s :: .float .f64 y.f :: acells r := by simp [acells]
theorem acells_length (A : List It) : (acells A).length = A.length * 2 := by
  induction A with
  | nil => rfl
  | cons x r ih => rw [acells_cons]; simp [ih]; omega
theorem acells_get {A : List It} {i : Nat} (h : i < A.length) : (acells A)[i * 2]? = some (.string (an A i).s) ∧ (acells A)[i * 2 + 1]? = some (.float .f64 (an A i).f) := by
  induction A generalizing i with
  | nil => simp at h
  | cons y r ih =>
    cases i with
    | zero => simp [acells, an]
    | succ i =>
      have := ih (i := i) (by simpa using h)
      have e2 : an (y :: r) (i + 1) = an r i := by simp [an]
      rw [acells_cons, e2, show (i + 1) * 2 = i * 2 + 2 by omega, show i * 2 + 2 + 1 = (i * 2 + 1) + 2 by omega]
      simpa using this
theorem acells_setf (A : List It) (i : Nat) (f : Nat) : acells (A.set i ⟨(an A i).s, f⟩) = (acells A).set (i * 2 + 1) (.float .f64 f) := by
  induction A generalizing i with
  | nil => simp [acells]
  | cons y r ih =>
    cases i with
    | zero => rw [List.set_cons_zero, acells_cons, acells_cons]; simp [an]
    | succ i =>
      have e2 : an (y :: r) (i + 1) = an r i := by simp [an]
      rw [List.set_cons_succ, acells_cons, acells_cons, e2, ih i, show (i + 1) * 2 + 1 = i * 2 + 1 + 1 + 1 by omega]; rfl
theorem bcells_get {Th : List Bool} {i : Nat} (h : i < Th.length) : (bcells Th)[i]? = some (.bool (bn Th i)) := by simp [bcells, bn, h]
theorem own_rowB {w : World} {B0 : Nat} {e : TypeId} {size : Nat} {v : Value} {n : Nat} {xs : List Value} (h : w.ownsRow B0 e size v n xs) (hn : 0 < n) : ∃ g cap, ∃ cur : List Value, v = .slice (some ⟨g, 0, none⟩) n cap ∧ B0 ≤ g ∧ w.heap[g]? = some (.cells cur.toArray e (0, 0)) ∧ n ≤ cap ∧ cap ≤ maxLen ∧ cur.length = cap * size ∧ cur.take (n * size) = xs := by
  rcases h.2 with ⟨_, h0⟩ | ⟨g, cap, cur, hv, hb, hg, hn, hm, hs, ht⟩
  · omega
  · exact ⟨g, cap, cur.toList, hv, hb, by simpa using hg, hn, hm, by simpa using hs, ht⟩
theorem own_blockB {w : World} {B0 : Nat} {e : TypeId} {size : Nat} {v : Value} {n : Nat} {xs : List Value} (h : w.ownsRow B0 e size v n xs) {g : Nat} (hg : v.ownBlock = some g) : B0 ≤ g ∧ ∃ cur : Array Value, w.heap[g]? = some (.cells cur e (0, 0)) := by
  rcases h.2 with ⟨h1, h0⟩ | ⟨q, cap, cur, hv, hb, hq, _⟩
  · rw [h1] at hg; cases hg
  · rw [hv] at hg; cases hg; exact ⟨hb, cur, hq⟩
theorem row_keepB {w w' : World} {B0 : Nat} {e : TypeId} {size : Nat} {v : Value} {n : Nat} {xs : List Value} (h : w.ownsRow B0 e size v n xs) (hb : ∀ g, v.ownBlock = some g → w'.heap[g]? = w.heap[g]?) : w'.ownsRow B0 e size v n xs := by
  obtain ⟨h1, h⟩ := h
  refine ⟨h1, ?_⟩
  rcases h with h | ⟨g, cap, cur, rfl, h2, h3, h4⟩
  · exact Or.inl h
  · exact Or.inr ⟨g, cap, cur, rfl, h2, (hb g rfl).trans h3, h4⟩
theorem row_oth {w w' : World} {B0 : Nat} {e : TypeId} {size : Nat} {v : Value} {n : Nat} {xs : List Value} (h : w.ownsRow B0 e size v n xs) (o : Oth w w') (h1 : e ≠ 88) (h2 : e ≠ 90) (h3 : e ≠ 3) : w'.ownsRow B0 e size v n xs :=
  row_keepB h (fun g hg => by obtain ⟨_, cur, hc⟩ := own_blockB h hg; rw [o.block g cur e hc h1 h2 h3, hc])
/-- The heap, the things (va), who is there (vt). -/
structure SrS (w0 w : World) (h : Nat) (va vt : Value) (E : List (Nat × It)) (A : List It) (Th : List Bool) (N B : Nat) : Prop where
  ho : HO w0 w h E N B
  arow : w.ownsRow w0.heap.size 63 2 va A.length (acells A)
  trow : w.ownsRow w0.heap.size 4 1 vt Th.length (bcells Th)
section
variable {w0 w w' : World} {h : Nat} {va vt : Value} {E : List (Nat × It)} {A : List It} {Th : List Bool} {N B : Nat}
theorem SrS.grown (s : SrS w0 w h va vt E A Th N B) (g : w.grownBy w' none) : SrS w0 w' h va vt E A Th N B :=
  ⟨s.ho.then g, row_oth s.arow (Oth.grown g) (by decide) (by decide) (by decide), row_oth s.trow (Oth.grown g) (by decide) (by decide) (by decide)⟩
theorem SrS.heap (s : SrS w0 w h va vt E A Th N B) {E' : List (Nat × It)} {N' B' : Nat} (o : HO w0 w' h E' N' B') (k : Oth w w') : SrS w0 w' h va vt E' A Th N' B' :=
  ⟨o, row_oth s.arow k (by decide) (by decide) (by decide), row_oth s.trow k (by decide) (by decide) (by decide)⟩
/-- A new place in one of the rows. -/
theorem SrS.appA (s : SrS w0 w h va vt E A Th N B) {va' : Value} {n' : Nat} {cs : List Value} (ho : w'.ownsRow w0.heap.size 63 2 va' n' cs) (hg : w.grownBy w' va.ownBlock) : w'.ownsRow w0.heap.size 63 2 va' n' cs ∧ w'.ownsRow w0.heap.size 4 1 vt Th.length (bcells Th) ∧ HO w0 w' h E N B := by
  have k : Kept w w' (fun i => va.ownBlock = some i) := Kept.of hg (fun j e _ => e)
  refine ⟨ho, row_keepB s.trow (fun g hb => ?_), s.ho.other k (fun i e => ?_)⟩
  · obtain ⟨_, c1, h1⟩ := own_blockB s.trow hb
    refine k.block g (row_lt h1) (fun e => ?_)
    obtain ⟨_, c2, h2⟩ := own_blockB s.arow e
    rw [h1] at h2; simp at h2
  · obtain ⟨hb, c2, h2⟩ := own_blockB s.arow e
    exact ⟨hb, c2, 63, h2, by decide, by decide, by decide⟩
theorem SrS.appT (s : SrS w0 w h va vt E A Th N B) {vt' : Value} {n' : Nat} {cs : List Value} (ho : w'.ownsRow w0.heap.size 4 1 vt' n' cs) (hg : w.grownBy w' vt.ownBlock) : w'.ownsRow w0.heap.size 4 1 vt' n' cs ∧ w'.ownsRow w0.heap.size 63 2 va A.length (acells A) ∧ HO w0 w' h E N B := by
  have k : Kept w w' (fun i => vt.ownBlock = some i) := Kept.of hg (fun j e _ => e)
  refine ⟨ho, row_keepB s.arow (fun g hb => ?_), s.ho.other k (fun i e => ?_)⟩
  · obtain ⟨_, c1, h1⟩ := own_blockB s.arow hb
    refine k.block g (row_lt h1) (fun e => ?_)
    obtain ⟨_, c2, h2⟩ := own_blockB s.trow e
    rw [h1] at h2; simp at h2
  · obtain ⟨hb, c2, h2⟩ := own_blockB s.trow e
    exact ⟨hb, c2, 4, h2, by decide, by decide, by decide⟩
/-- A thing's worth is written. -/
theorem SrS.setA (s : SrS w0 w h va vt E A Th N B) {g cap : Nat} (hv : va = .slice (some ⟨g, 0, none⟩) A.length cap) {n : Nat} (hn : n < A.length) (f : Nat) : (w.setCell ⟨g, n * 2 + 1, none⟩ (.float .f64 f)).ownsRow w0.heap.size 63 2 va A.length (acells (A.set n ⟨(an A n).s, f⟩)) ∧ (w.setCell ⟨g, n * 2 + 1, none⟩ (.float .f64 f)).ownsRow w0.heap.size 4 1 vt Th.length (bcells Th) ∧ HO w0 (w.setCell ⟨g, n * 2 + 1, none⟩ (.float .f64 f)) h E N B := by
  obtain ⟨g', cap', cur, hv', hb, hg, hn', hm, hs, ht⟩ := own_rowB s.arow (by omega)
  rw [hv] at hv'
  cases hv'
  have hown : va.ownBlock = some g := by rw [hv]; rfl
  refine (s.appA ?_ (by rw [hown]; exact grown_setCell w g _ _))
  refine ⟨by rw [acells_length, List.length_set], Or.inr ⟨g, cap, (cur.set (n * 2 + 1) (.float .f64 f)).toArray, hv, hb, row_setCell hg _ _, hn', hm, by simpa using hs, ?_⟩⟩
  rw [acells_setf, ← ht]
  simp [List.take_set]
theorem SrS.setT (s : SrS w0 w h va vt E A Th N B) {g cap : Nat} (hv : vt = .slice (some ⟨g, 0, none⟩) Th.length cap) {n : Nat} (hn : n < Th.length) : (w.setCell ⟨g, n, none⟩ (.bool false)).ownsRow w0.heap.size 4 1 vt Th.length (bcells (Th.set n false)) ∧ (w.setCell ⟨g, n, none⟩ (.bool false)).ownsRow w0.heap.size 63 2 va A.length (acells A) ∧ HO w0 (w.setCell ⟨g, n, none⟩ (.bool false)) h E N B := by
  obtain ⟨g', cap', cur, hv', hb, hg, hn', hm, hs, ht⟩ := own_rowB s.trow (by omega)
  rw [hv] at hv'
  cases hv'
  have hown : vt.ownBlock = some g := by rw [hv]; rfl
  refine (s.appT ?_ (by rw [hown]; exact grown_setCell w g _ _))
  refine ⟨by simp [bcells], Or.inr ⟨g, cap, (cur.set n (.bool false)).toArray, hv, hb, row_setCell hg _ _, hn', hm, by simpa using hs, ?_⟩⟩
  unfold bcells at ht ⊢
  rw [List.map_set, ← ht]
  simp [List.take_set]
end
end Go.Proofs.Ytkbhjdjdjfdikaa.Th
