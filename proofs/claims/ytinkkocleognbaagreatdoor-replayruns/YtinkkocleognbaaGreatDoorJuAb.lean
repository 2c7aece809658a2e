/- Texts joined: JnAb. -/
import Derived.WalkKit
import Derived.WalkSpells
import Derived.WalkLawsBesides
import Derived.Laws.CopyOwn
import Derived.Laws.Bits64b
import Derived.Laws.Bits64
import Derived.Deep.MidRow
import Derived.Test.YtinkkocleognbaaGreatDoorJuAa
import Derived.Test.YtinkkocleognbaaGreatDoorChecked
import Derived.Deep.LoopGhost
import Derived.Deep.RegionHeld3
import Derived.Deep.DrawnRows
import Derived.Deep.QuietTactic
import Derived.Deep.RegionWith
import Derived.BigQuiet
import Derived.Deep.OwnRows
import Derived.Laws.AppendOwnNone
import Derived.Laws.BitsAllLaws
import Derived.Laws.OwnMore
import Derived.ArgAppend
import Derived.Maps.AppendAt
import Derived.Lib.SliceRun
import Derived.Lib.Builder
import Derived.Defers
/- Texts joined: IxIx0, IxBase, IxIm, IxIa, IxIc. -/
/- An index's slots: the search, what is laid, set and taken out; numbers alone. -/
namespace Go.Proofs.YtinkkocleognbaaGreatDoor.Ix

/-- How far it is from a to b, round and round. -/
def wy (n a b : Nat) : Nat := if a ≤ b then b - a else b + n - a
def bh (n a : Nat) : Nat := if a + 1 = n then 0 else a + 1
theorem bh_lt {n a : Nat} (h : a < n) : bh n a < n := by unfold bh; split <;> omega
/-- What lies in slot i. -/
def sl (S : List (Option (Nat × Int))) (i : Nat) : Option (Nat × Int) := (S[i]?).getD none
theorem sl_lt {S : List (Option (Nat × Int))} {i : Nat} {x : Nat × Int} (h : sl S i = some x) : i < S.length := by
  unfold sl at h
  by_cases hi : i < S.length
  · exact hi
  · rw [List.getElem?_eq_none (by omega)] at h; simp at h
theorem sl_set {S : List (Option (Nat × Int))} {i : Nat} (y : Option (Nat × Int)) (j : Nat) (h : i < S.length) : sl (S.set i y) j = if j = i then y else sl S j := by
  unfold sl
  rw [List.getElem?_set]
  by_cases e : i = j
  · subst e; simp [h]
  · simp [e, Ne.symm e]
theorem sl_mem {S : List (Option (Nat × Int))} {x : Nat × Int} : some x ∈ S ↔ ∃ j, sl S j = some x := by
  rw [List.mem_iff_getElem?]
  constructor
  · rintro ⟨i, h⟩; exact ⟨i, by unfold sl; rw [h]; rfl⟩
  · rintro ⟨i, h⟩
    have := sl_lt h
    unfold sl at h
    rw [List.getElem?_eq_getElem this] at h
    exact ⟨i, by rw [List.getElem?_eq_getElem this]; simpa using h⟩

/-- By rising ids. -/
def Asc (X : List (Nat × Int)) : Prop := X.Pairwise (fun a b => a.1 < b.1)
/-- What lies under an id. -/
def lk (M : List (Nat × Int)) (k : Nat) : Option Int := (M.find? (fun x => x.1 == k)).map (·.2)
def ins (M : List (Nat × Int)) (x : Nat × Int) : List (Nat × Int) := match M with
  | [] => [x]
  | y :: r => if x.1 < y.1 then x :: y :: r else y :: ins r x
def up (M : List (Nat × Int)) (k : Nat) (v : Int) : List (Nat × Int) := M.map fun x => if x.1 = k then (k, v) else x
def dr (M : List (Nat × Int)) (k : Nat) : List (Nat × Int) := M.filter fun x => x.1 != k

theorem asc_unique : ∀ {X Y : List (Nat × Int)}, Asc X → Asc Y → X.Perm Y → X = Y
  | [], Y, _, _, h => (List.nil_perm.1 h).symm
  | x :: X, [], _, _, h => by simp at h
  | x :: X, y :: Y, hx, hy, h => by
    have hx' := List.pairwise_cons.1 hx
    have hy' := List.pairwise_cons.1 hy
    have e : x = y := by
      have m1 : x ∈ y :: Y := h.subset (by simp)
      have m2 : y ∈ x :: X := h.symm.subset (by simp)
      rcases List.mem_cons.1 m1 with e | m1
      · exact e
      · rcases List.mem_cons.1 m2 with e | m2
        · exact e.symm
        · have h1 := hy'.1 x m1
          have h2 := hx'.1 y m2
          omega
    subst e
    rw [asc_unique hx'.2 hy'.2 ((List.perm_cons x).1 h)]
theorem Asc.nodup {X : List (Nat × Int)} (h : Asc X) : X.Nodup := h.imp (fun h e => by rw [e] at h; omega)
theorem Asc.ids {X : List (Nat × Int)} (h : Asc X) : (X.map (·.1)).Nodup := List.pairwise_map.2 (h.imp (fun h => by omega))
theorem Asc.same {X : List (Nat × Int)} (h : Asc X) {x y : Nat × Int} (hx : x ∈ X) (hy : y ∈ X) (e : x.1 = y.1) : x = y := by
  induction X with
  | nil => simp at hx
  | cons z r ih =>
    have h' := List.pairwise_cons.1 h
    rcases List.mem_cons.1 hx with hx1 | hx <;> rcases List.mem_cons.1 hy with hy1 | hy
    · rw [hx1, hy1]
    · have := h'.1 y hy; rw [hx1] at e; omega
    · have := h'.1 x hx; rw [hy1] at e; omega
    · exact ih h'.2 hx hy
theorem lk_some {M : List (Nat × Int)} (h : Asc M) {k : Nat} {v : Int} : lk M k = some v ↔ (k, v) ∈ M := by
  unfold lk
  constructor
  · intro e
    cases hf : M.find? (fun x => x.1 == k) with
    | none => rw [hf] at e; simp at e
    | some x =>
      rw [hf] at e
      have h1 := List.find?_some hf
      have h2 := List.mem_of_find?_eq_some hf
      simp at e h1
      rw [← h1, ← e]
      exact h2
  · intro e
    cases hf : M.find? (fun x => x.1 == k) with
    | none =>
      rw [List.find?_eq_none] at hf
      have := hf _ e
      simp at this
    | some x =>
      have h1 := List.find?_some hf
      have h2 := List.mem_of_find?_eq_some hf
      simp at h1
      rw [h.same h2 e h1]
      rfl
theorem lk_none {M : List (Nat × Int)} {k : Nat} : lk M k = none ↔ ∀ v, (k, v) ∉ M := by
  unfold lk
  rw [Option.map_eq_none_iff, List.find?_eq_none]
  constructor
  · intro h v hv; have := h _ hv; simp at this
  · rintro h ⟨a, b⟩ hx e
    simp at e
    subst e
    exact h b hx
theorem ins_mem {M : List (Nat × Int)} {x y : Nat × Int} : y ∈ ins M x ↔ y = x ∨ y ∈ M := by
  induction M with
  | nil => simp [ins]
  | cons z r ih =>
    unfold ins
    split
    · simp
    · rw [List.mem_cons, ih, List.mem_cons]
      constructor
      · rintro (h | h | h)
        · exact .inr (.inl h)
        · exact .inl h
        · exact .inr (.inr h)
      · rintro (h | h | h)
        · exact .inr (.inl h)
        · exact .inl h
        · exact .inr (.inr h)
theorem ins_length (M : List (Nat × Int)) (x : Nat × Int) : (ins M x).length = M.length + 1 := by
  induction M with
  | nil => rfl
  | cons z r ih => unfold ins; split <;> simp [ih]
theorem ins_asc {M : List (Nat × Int)} (h : Asc M) {x : Nat × Int} (hx : ∀ v, (x.1, v) ∉ M) : Asc (ins M x) := by
  induction M with
  | nil => exact List.pairwise_singleton _ _
  | cons z r ih =>
    have h' := List.pairwise_cons.1 h
    unfold ins
    split
    · rename_i hlt
      refine List.pairwise_cons.2 ⟨fun a ha => ?_, h⟩
      rcases List.mem_cons.1 ha with rfl | ha
      · exact hlt
      · have := h'.1 a ha; omega
    · rename_i hlt
      refine List.pairwise_cons.2 ⟨fun a ha => ?_, ih h'.2 (fun v hv => hx v (List.mem_cons_of_mem _ hv))⟩
      rcases ins_mem.1 ha with rfl | ha
      · have : z.1 ≠ a.1 := fun e => hx z.2 (by rw [← e]; exact List.mem_cons_self ..)
        omega
      · exact h'.1 a ha
theorem up_length (M : List (Nat × Int)) (k : Nat) (v : Int) : (up M k v).length = M.length := by simp [up]
theorem up_asc {M : List (Nat × Int)} (h : Asc M) (k : Nat) (v : Int) : Asc (up M k v) := by
  unfold up Asc
  rw [List.pairwise_map]
  refine h.imp (fun {a b} hab => ?_)
  by_cases h1 : a.1 = k <;> by_cases h2 : b.1 = k <;> simp [h1, h2] <;> omega
theorem up_mem {M : List (Nat × Int)} {k : Nat} {v : Int} {y : Nat × Int} : y ∈ up M k v ↔ (y = (k, v) ∧ ∃ u, (k, u) ∈ M) ∨ (y ∈ M ∧ y.1 ≠ k) := by
  unfold up
  rw [List.mem_map]
  constructor
  · rintro ⟨⟨a, b⟩, ha, rfl⟩
    by_cases e : a = k
    · subst e; simp; exact ⟨b, ha⟩
    · simp [e]; exact ha
  · rintro (⟨rfl, u, hu⟩ | ⟨h, hne⟩)
    · exact ⟨(k, u), hu, by simp⟩
    · exact ⟨y, h, by simp [hne]⟩
theorem dr_asc {M : List (Nat × Int)} (h : Asc M) (k : Nat) : Asc (dr M k) := h.filter _
theorem dr_mem {M : List (Nat × Int)} {k : Nat} {y : Nat × Int} : y ∈ dr M k ↔ y ∈ M ∧ y.1 ≠ k := by simp [dr]
theorem dr_length {M : List (Nat × Int)} (h : Asc M) {k : Nat} {v : Int} (hk : (k, v) ∈ M) : (dr M k).length + 1 = M.length := by
  induction M with
  | nil => simp at hk
  | cons z r ih =>
    have h' := List.pairwise_cons.1 h
    rcases List.mem_cons.1 hk with e | hk
    · subst e
      have : r.filter (fun x => x.1 != k) = r := by
        rw [List.filter_eq_self]
        intro a ha
        have := h'.1 a ha
        simp at this ⊢
        omega
      simp [dr, this]
    · have := h'.1 _ hk
      have hz : (z.1 != k) = true := by simp at this ⊢; omega
      have := ih h'.2 hk
      simp [dr, hz] at this ⊢
      omega
theorem lk_ins {M : List (Nat × Int)} (h : Asc M) {k : Nat} {v : Int} (hk : lk M k = none) (j : Nat) : lk (ins M (k, v)) j = if j = k then some v else lk M j := by
  have hA := ins_asc h (x := (k, v)) (lk_none.1 hk)
  by_cases e : j = k
  · subst e; rw [if_pos rfl, lk_some hA]; exact ins_mem.2 (.inl rfl)
  · rw [if_neg e]
    cases hj : lk M j with
    | none => rw [lk_none] at hj ⊢; intro u hu; rcases ins_mem.1 hu with h1 | h1; (cases h1; exact e rfl); exact hj u h1
    | some u => rw [lk_some h] at hj; rw [lk_some hA]; exact ins_mem.2 (.inr hj)
theorem lk_dr {M : List (Nat × Int)} (h : Asc M) (k j : Nat) : lk (dr M k) j = if j = k then none else lk M j := by
  have hA := dr_asc h k
  by_cases e : j = k
  · subst e; rw [if_pos rfl, lk_none]; intro u hu; exact (dr_mem.1 hu).2 rfl
  · rw [if_neg e]
    cases hj : lk M j with
    | none => rw [lk_none] at hj ⊢; intro u hu; exact hj u (dr_mem.1 hu).1
    | some u => rw [lk_some h] at hj; rw [lk_some hA]; exact dr_mem.2 ⟨hj, e⟩

/-- The slots of an index: n of them, its items M. -/
structure Inv (hs : Nat → Nat) (n : Nat) (S : List (Option (Nat × Int))) (M : List (Nat × Int)) : Prop where
  len : S.length = n
  asc : Asc M
  path : ∀ j x, sl S j = some x → ∀ i, i < n → wy n (hs x.1) i < wy n (hs x.1) j → (sl S i).isSome = true
  one : ∀ i j x y, sl S i = some x → sl S j = some y → x.1 = y.1 → i = j
  mem : ∀ x, x ∈ M ↔ ∃ j, sl S j = some x
  few : 2 * M.length ≤ n
  home : ∀ k, hs k < n
/-- What a search finds. -/
structure Fnd (hs : Nat → Nat) (n : Nat) (S : List (Option (Nat × Int))) (k p : Nat) (there : Bool) : Prop where
  lt : p < n
  pre : ∀ i, i < n → wy n (hs k) i < wy n (hs k) p → ∃ x, sl S i = some x ∧ x.1 ≠ k
  yes : there = true → ∃ v, sl S p = some (k, v)
  no : there = false → sl S p = none
section
variable {hs : Nat → Nat} {n : Nat} {S : List (Option (Nat × Int))} {M : List (Nat × Int)}
theorem wy_inj {a i j : Nat} (ha : a < n) (hi : i < n) (hj : j < n) (h : wy n a i = wy n a j) : i = j := by
  unfold wy at h; split at h <;> split at h <;> omega
theorem Inv.fnd (h : Inv hs n S M) {k p : Nat} {there : Bool} (f : Fnd hs n S k p there) : there = (lk M k).isSome ∧ (∀ v, lk M k = some v → sl S p = some (k, v)) := by
  have hno : there = false → lk M k = none := fun e => by
    rw [lk_none]
    intro v hv
    obtain ⟨j, hj⟩ := (h.mem _).1 hv
    have hjn : j < n := by have := sl_lt hj; rw [h.len] at this; exact this
    have hp := f.no e
    have h1 : ¬ wy n (hs k) p < wy n (hs k) j := fun hlt => by have := h.path j _ hj p f.lt hlt; rw [hp] at this; simp at this
    have hne : j ≠ p := fun e => by rw [e, hp] at hj; cases hj
    have h2 : wy n (hs k) j < wy n (hs k) p := by
      have : wy n (hs k) j ≠ wy n (hs k) p := fun e => hne (wy_inj (h.home k) hjn f.lt e)
      omega
    obtain ⟨x, hx, hxk⟩ := f.pre j hjn h2
    rw [hj] at hx
    cases hx
    exact hxk rfl
  cases there with
  | true =>
    obtain ⟨v, hv⟩ := f.yes rfl
    have hm : lk M k = some v := (lk_some h.asc).2 ((h.mem _).2 ⟨p, hv⟩)
    rw [hm]
    exact ⟨rfl, fun u hu => by cases hu; exact hv⟩
  | false =>
    rw [hno rfl]
    exact ⟨rfl, fun u hu => by cases hu⟩
theorem Inv.put (h : Inv hs n S M) {k p : Nat} (v : Int) (f : Fnd hs n S k p false) (hf : 2 * (M.length + 1) ≤ n) : Inv hs n (S.set p (some (k, v))) (ins M (k, v)) := by
  have hk : lk M k = none := by have := (h.fnd f).1; cases hq : lk M k with | none => rfl | some u => rw [hq] at this; cases this
  have hpn : p < S.length := by rw [h.len]; exact f.lt
  have hp := f.no rfl
  have hset := fun (j : Nat) => sl_set (S := S) (i := p) (some (k, v)) j hpn
  refine ⟨by rw [List.length_set]; exact h.len, ins_asc h.asc (lk_none.1 hk), ?_, ?_, ?_, by rw [ins_length]; exact hf, h.home⟩
  · intro j x hj i hi hlt
    rw [hset] at hj ⊢
    by_cases e : i = p
    · rw [if_pos e]; rfl
    · rw [if_neg e]
      by_cases e2 : j = p
      · subst e2
        rw [if_pos rfl] at hj
        cases hj
        obtain ⟨y, hy, _⟩ := f.pre i hi hlt
        rw [hy]; rfl
      · rw [if_neg e2] at hj
        exact h.path j x hj i hi hlt
  · intro i j x y hi hj hxy
    rw [hset] at hi hj
    have hnew : ∀ j y, sl S j = some y → y.1 ≠ k := fun j y hy e => lk_none.1 hk y.2 (by rw [← e]; exact (h.mem _).2 ⟨j, hy⟩)
    by_cases e : i = p <;> by_cases e2 : j = p
    · rw [e, e2]
    · rw [if_pos e] at hi; rw [if_neg e2] at hj; cases hi; exact absurd hxy.symm (hnew j y hj)
    · rw [if_neg e] at hi; rw [if_pos e2] at hj; cases hj; exact absurd hxy (hnew i x hi)
    · rw [if_neg e] at hi; rw [if_neg e2] at hj; exact h.one i j x y hi hj hxy
  · intro x
    rw [ins_mem]
    constructor
    · rintro (rfl | hx)
      · exact ⟨p, by rw [hset, if_pos rfl]⟩
      · obtain ⟨j, hj⟩ := (h.mem x).1 hx
        exact ⟨j, by rw [hset, if_neg (fun e => by rw [e, hp] at hj; cases hj)]; exact hj⟩
    · rintro ⟨j, hj⟩
      rw [hset] at hj
      by_cases e : j = p
      · rw [if_pos e] at hj; cases hj; exact .inl rfl
      · rw [if_neg e] at hj; exact .inr ((h.mem x).2 ⟨j, hj⟩)
theorem Inv.up (h : Inv hs n S M) {k p : Nat} (v : Int) (f : Fnd hs n S k p true) : Inv hs n (S.set p (some (k, v))) (up M k v) := by
  have hpn : p < S.length := by rw [h.len]; exact f.lt
  obtain ⟨u, hp⟩ := f.yes rfl
  have hset := fun (j : Nat) => sl_set (S := S) (i := p) (some (k, v)) j hpn
  have hsome : ∀ i, (sl (S.set p (some (k, v))) i).isSome = (sl S i).isSome := fun i => by
    rw [hset]; by_cases e : i = p
    · rw [if_pos e, e, hp]; rfl
    · rw [if_neg e]
  have hid : ∀ j x, sl (S.set p (some (k, v))) j = some x → ∃ y, sl S j = some y ∧ y.1 = x.1 := fun j x hj => by
    rw [hset] at hj
    by_cases e : j = p
    · rw [if_pos e] at hj; cases hj; exact ⟨(k, u), by rw [e]; exact hp, rfl⟩
    · rw [if_neg e] at hj; exact ⟨x, hj, rfl⟩
  refine ⟨by rw [List.length_set]; exact h.len, up_asc h.asc k v, ?_, ?_, ?_, by rw [up_length]; exact h.few, h.home⟩
  · intro j x hj i hi hlt
    obtain ⟨y, hy, e⟩ := hid j x hj
    rw [← e] at hlt
    rw [hsome]
    exact h.path j y hy i hi hlt
  · intro i j x y hi hj hxy
    obtain ⟨a, ha, e1⟩ := hid i x hi
    obtain ⟨b, hb, e2⟩ := hid j y hj
    exact h.one i j a b ha hb (by rw [e1, e2, hxy])
  · intro x
    rw [up_mem]
    constructor
    · rintro (⟨rfl, _⟩ | ⟨hx, hne⟩)
      · exact ⟨p, by rw [hset, if_pos rfl]⟩
      · obtain ⟨j, hj⟩ := (h.mem x).1 hx
        exact ⟨j, by rw [hset, if_neg (fun e => by rw [e, hp] at hj; cases hj; exact hne rfl)]; exact hj⟩
    · rintro ⟨j, hj⟩
      rw [hset] at hj
      by_cases e : j = p
      · rw [if_pos e] at hj; cases hj; exact .inl ⟨rfl, u, (h.mem _).2 ⟨p, hp⟩⟩
      · rw [if_neg e] at hj
        refine .inr ⟨(h.mem x).2 ⟨j, hj⟩, fun e2 => e (h.one j p x _ hj hp e2)⟩

/-- What is so while the items behind a gap move up: g the gap, a the slot looked at, g0 the first gap, F the next free slot. -/
structure TO (hs : Nat → Nat) (n : Nat) (S : List (Option (Nat × Int))) (M : List (Nat × Int)) (g0 F g a : Nat) : Prop where
  len : S.length = n
  g0n : g0 < n
  Fn : F < n
  gn : g < n
  an : a < n
  free : sl S F = none
  full : ∀ i, i < n → wy n g0 i < wy n g0 F → (sl S i).isSome = true
  ga : wy n g0 g < wy n g0 a
  aF : wy n g0 a ≤ wy n g0 F
  path : ∀ j x, j ≠ g → sl S j = some x → ∀ i, i < n → wy n (hs x.1) i < wy n (hs x.1) j → (sl S i).isSome = true
  seen : ∀ j x, j ≠ g → sl S j = some x → wy n g0 g < wy n g0 j → wy n g0 j < wy n g0 a → ¬ wy n (hs x.1) g < wy n (hs x.1) j
  one : ∀ i j x y, i ≠ g → j ≠ g → sl S i = some x → sl S j = some y → x.1 = y.1 → i = j
  mem : ∀ x, x ∈ M ↔ ∃ j, j ≠ g ∧ sl S j = some x
  home : ∀ k, hs k < n
theorem wy_bh {g0 a F : Nat} (hg : g0 < n) (_ha : a < n) (hF : F < n) (h : wy n g0 a < wy n g0 F) : wy n g0 (bh n a) = wy n g0 a + 1 := by
  unfold wy bh at *
  repeat' split
  all_goals (repeat' split at h)
  all_goals omega
theorem wy_self (a : Nat) : wy n a a = 0 := by simp [wy]
theorem wy_zero {a b : Nat} (ha : a < n) (_hb : b < n) (h : wy n a b = 0) : a = b := by unfold wy at h; split at h <;> omega
theorem wy_lt {a b : Nat} (_ha : a < n) (_hb : b < n) : wy n a b < n := by unfold wy; split <;> omega
/-- The next free slot. -/
theorem next_free {g0 : Nat} (hF : ∃ i, i < n ∧ sl S i = none) : ∃ F, F < n ∧ sl S F = none ∧ ∀ i, i < n → wy n g0 i < wy n g0 F → (sl S i).isSome = true := by
  obtain ⟨i, hi, hfree⟩ := hF
  have key : ∀ d, ∀ i, i < n → sl S i = none → wy n g0 i ≤ d → ∃ F, F < n ∧ sl S F = none ∧ ∀ i, i < n → wy n g0 i < wy n g0 F → (sl S i).isSome = true := by
    intro d
    induction d with
    | zero => intro i hi hfree hd; exact ⟨i, hi, hfree, fun j _ hlt => by omega⟩
    | succ d ih =>
      intro i hi hfree hd
      by_cases hex : ∃ j, j < n ∧ sl S j = none ∧ wy n g0 j < wy n g0 i
      · obtain ⟨j, hj, hf, hlt⟩ := hex
        exact ih j hj hf (by omega)
      · refine ⟨i, hi, hfree, fun j hj hlt => ?_⟩
        cases hq : sl S j with
        | none => exact absurd ⟨j, hj, hq, hlt⟩ hex
        | some x => rfl
  exact key _ i hi hfree (Nat.le_refl _)
theorem Inv.free (h : Inv hs n S M) (hn : 0 < n) : ∃ i, i < n ∧ sl S i = none := by
  apply Classical.byContradiction
  intro hno
  have hall : ∀ x ∈ S, x.isSome = true := by
    intro x hx
    obtain ⟨i, hi, rfl⟩ := List.mem_iff_getElem.1 hx
    cases hq : S[i] with
    | some y => rfl
    | none => exact absurd ⟨i, by rw [← h.len]; exact hi, by unfold sl; rw [List.getElem?_eq_getElem hi, hq]; rfl⟩ hno
  have hinj : (S.filterMap id).Nodup := by
    rw [List.nodup_iff_pairwise_ne, List.pairwise_filterMap, List.pairwise_iff_getElem]
    intro i j hi hj hij x hx y hy e
    simp at hx hy
    have := h.one i j x y (by unfold sl; rw [List.getElem?_eq_getElem hi, hx]; rfl) (by unfold sl; rw [List.getElem?_eq_getElem hj, hy]; rfl) (by rw [e])
    omega
  have hlen : (S.filterMap id).length = n := by
    rw [← h.len]
    clear h hinj hno
    induction S with
    | nil => rfl
    | cons a r ih =>
      have h1 := hall a (by simp)
      cases a with
      | none => cases h1
      | some y => simp [ih (fun x hx => hall x (List.mem_cons_of_mem _ hx))]
  have hsub : (S.filterMap id).Perm M := by
    rw [List.perm_ext_iff_of_nodup hinj h.asc.nodup]
    intro x
    rw [h.mem, ← sl_mem]
    simp
  have := hsub.length_eq
  have := h.few
  omega
theorem Inv.perm (h : Inv hs n S M) : (S.filterMap id).Perm M := by
  have hinj : (S.filterMap id).Nodup := by
    rw [List.nodup_iff_pairwise_ne, List.pairwise_filterMap, List.pairwise_iff_getElem]
    intro i j hi hj hij x hx y hy e
    simp at hx hy
    have := h.one i j x y (by unfold sl; rw [List.getElem?_eq_getElem hi, hx]; rfl) (by unfold sl; rw [List.getElem?_eq_getElem hj, hy]; rfl) (by rw [e])
    omega
  rw [List.perm_ext_iff_of_nodup hinj h.asc.nodup]
  intro x
  rw [h.mem, ← sl_mem]
  simp
theorem TO.start (h : Inv hs n S M) {k p : Nat} (f : Fnd hs n S k p true) : ∃ F, TO hs n S (dr M k) p F p (bh n p) ∧ wy n (hs k) p + wy n p F < n := by
  obtain ⟨u, hp⟩ := f.yes rfl
  have hn := f.lt
  obtain ⟨F, hF, hfree, hfull⟩ := next_free (S := S) (g0 := p) (h.free (by omega))
  have hpF : p ≠ F := fun e => by rw [e, hfree] at hp; cases hp
  have hpos : 0 < wy n p F := by
    rcases Nat.eq_zero_or_pos (wy n p F) with h0 | h0
    · exact absurd (wy_zero hn hF h0) hpF
    · exact h0
  have hb : wy n p (bh n p) = 1 := by
    have := wy_bh hn hn hF (g0 := p) (a := p) (by rw [wy_self]; exact hpos)
    rw [this, wy_self]
  refine ⟨F, ⟨h.len, hn, hF, hn, bh_lt hn, hfree, hfull, by rw [wy_self, hb]; omega, by rw [hb]; omega, fun j x _ hj => h.path j x hj, fun j x _ _ h1 h2 => ?_, fun i j x y _ _ hi hj => h.one i j x y hi hj, ?_, h.home⟩, ?_⟩
  · rw [wy_self] at h1
    rw [hb] at h2
    omega
  · intro x
    rw [dr_mem, h.mem]
    constructor
    · rintro ⟨⟨j, hj⟩, hne⟩
      exact ⟨j, fun e => by rw [e, hp] at hj; cases hj; exact hne rfl, hj⟩
    · rintro ⟨j, hj, hx⟩
      exact ⟨⟨j, hx⟩, fun e => hj (h.one j p x _ hx hp e)⟩
  · have h1 : ¬ wy n (hs k) F ≤ wy n (hs k) p := fun hle => by
      rcases Nat.lt_or_ge (wy n (hs k) F) (wy n (hs k) p) with hlt | hge
      · obtain ⟨x, hx, _⟩ := f.pre F hF hlt
        rw [hfree] at hx; cases hx
      · exact hpF (wy_inj (h.home k) hn hF (by omega))
    have hh := h.home k
    clear hfull hfree hp hpos hb h f
    unfold wy at *
    repeat' split
    all_goals (repeat' split at h1)
    all_goals omega
theorem TO.move {g0 F g a : Nat} (h : TO hs n S M g0 F g a) {x : Nat × Int} (hx : sl S a = some x) (hw : wy n g a ≤ wy n (hs x.1) a) : TO hs n (S.set g (some x)) M g0 F a (bh n a) := by
  have hgn : g < S.length := by rw [h.len]; exact h.gn
  have hset := fun (j : Nat) => sl_set (S := S) (i := g) (some x) j hgn
  have hag : a ≠ g := fun e => by have := h.ga; rw [e] at this; omega
  have haF : a ≠ F := fun e => by have := h.free; rw [← e, hx] at this; cases this
  have hlt : wy n g0 a < wy n g0 F := by
    have h1 := h.aF
    have : wy n g0 a ≠ wy n g0 F := fun e => haF (wy_inj h.g0n h.an h.Fn e)
    omega
  have hgF : F ≠ g := fun e => by have := h.ga; rw [← e] at this; omega
  have hb := wy_bh h.g0n h.an h.Fn hlt
  have hsome : ∀ i, (sl S i).isSome = true → (sl (S.set g (some x)) i).isSome = true := fun i hi => by
    rw [hset]; split
    · rfl
    · exact hi
  refine ⟨by rw [List.length_set]; exact h.len, h.g0n, h.Fn, h.an, bh_lt h.an, by rw [hset, if_neg hgF]; exact h.free, fun i hi hlt => hsome i (h.full i hi hlt), by omega, by omega, ?_, fun j y _ _ h1 h2 => by omega, ?_, ?_, h.home⟩
  · intro j y hja hj i hi hlti
    rw [hset] at hj
    by_cases e : j = g
    · rw [if_pos e] at hj
      cases hj
      apply hsome
      refine h.path a x hag hx i hi ?_
      have h1 := h.home x.1
      have h2 := h.gn
      have h3 := h.an
      subst e
      clear hset hsome h hx hlt hb hgn hag haF hgF hja
      unfold wy at *
      repeat' split
      all_goals (repeat' split at hlti)
      all_goals (repeat' split at hw)
      all_goals omega
    · rw [if_neg e] at hj
      exact hsome i (h.path j y e hj i hi hlti)
  · intro i j y z hi hj hy hz hyz
    rw [hset] at hy hz
    by_cases e : i = g <;> by_cases e2 : j = g
    · rw [e, e2]
    · rw [if_pos e] at hy; rw [if_neg e2] at hz; cases hy
      exact absurd (h.one a j x z hag e2 hx hz hyz) (fun e => hj e.symm)
    · rw [if_neg e] at hy; rw [if_pos e2] at hz; cases hz
      exact absurd (h.one i a y x e hag hy hx hyz) hi
    · rw [if_neg e] at hy; rw [if_neg e2] at hz; exact h.one i j y z e e2 hy hz hyz
  · intro y
    rw [h.mem]
    constructor
    · rintro ⟨j, hj, hy⟩
      by_cases e : j = a
      · rw [e, hx] at hy; cases hy
        exact ⟨g, hag.symm, by rw [hset, if_pos rfl]⟩
      · exact ⟨j, e, by rw [hset, if_neg hj]; exact hy⟩
    · rintro ⟨j, hj, hy⟩
      rw [hset] at hy
      by_cases e : j = g
      · rw [if_pos e] at hy; cases hy; exact ⟨a, hag, hx⟩
      · rw [if_neg e] at hy; exact ⟨j, e, hy⟩
theorem TO.lt {g0 F g a : Nat} (h : TO hs n S M g0 F g a) {x : Nat × Int} (hx : sl S a = some x) : wy n g0 a < wy n g0 F := by
  have haF : a ≠ F := fun e => by have := h.free; rw [← e, hx] at this; cases this
  have h1 := h.aF
  have : wy n g0 a ≠ wy n g0 F := fun e => haF (wy_inj h.g0n h.an h.Fn e)
  omega
theorem TO.pass {g0 F g a : Nat} (h : TO hs n S M g0 F g a) {x : Nat × Int} (hx : sl S a = some x) (hw : ¬ wy n g a ≤ wy n (hs x.1) a) : TO hs n S M g0 F g (bh n a) := by
  have hlt := h.lt hx
  have hb := wy_bh h.g0n h.an h.Fn hlt
  refine ⟨h.len, h.g0n, h.Fn, h.gn, bh_lt h.an, h.free, h.full, by have := h.ga; omega, by omega, h.path, ?_, h.one, h.mem, h.home⟩
  intro j y hj hy h1 h2 h3
  by_cases e : j = a
  · subst e
    rw [hx] at hy
    cases hy
    have h4 := h.home x.1
    have h5 := h.gn
    have h6 := h.an
    clear h hx hj h1 h2 hlt hb
    unfold wy at *
    repeat' split at h3
    all_goals (repeat' split at hw)
    all_goals omega
  · have : wy n g0 j ≠ wy n g0 a := fun e2 => e (wy_inj h.g0n (by have := sl_lt hy; rw [h.len] at this; exact this) h.an e2)
    exact h.seen j y hj hy h1 (by omega) h3
theorem TO.done {g0 F g a : Nat} (h : TO hs n S M g0 F g a) (hA : Asc M) (hf : 2 * M.length ≤ n) (hx : sl S a = none) : a = F ∧ Inv hs n (S.set g none) M := by
  have haF : a = F := by
    have h1 := h.aF
    rcases Nat.lt_or_ge (wy n g0 a) (wy n g0 F) with hlt | hge
    · have := h.full a h.an hlt; rw [hx] at this; cases this
    · exact wy_inj h.g0n h.an h.Fn (by omega)
  have hgn : g < S.length := by rw [h.len]; exact h.gn
  have hset := fun (j : Nat) => sl_set (S := S) (i := g) none j hgn
  have hpos : ∀ j y, sl (S.set g none) j = some y → j ≠ g ∧ sl S j = some y := fun j y hj => by
    rw [hset] at hj
    by_cases e : j = g
    · rw [if_pos e] at hj; cases hj
    · rw [if_neg e] at hj; exact ⟨e, hj⟩
  refine ⟨haF, by rw [List.length_set]; exact h.len, hA, ?_, ?_, ?_, hf, h.home⟩
  · intro j y hj i hi hlt
    obtain ⟨hjg, hy⟩ := hpos j y hj
    have hjn : j < n := by have := sl_lt hy; rw [h.len] at this; exact this
    have hsi := h.path j y hjg hy i hi hlt
    have hig : i ≠ g := fun e => by
      subst e
      by_cases hin : wy n g0 i < wy n g0 j ∧ wy n g0 j < wy n g0 a
      · exact h.seen j y hjg hy hin.1 hin.2 hlt
      · have hjF : j ≠ F := fun e => by rw [e, h.free] at hy; cases hy
        have hbad : ¬ wy n (hs y.1) F < wy n (hs y.1) j := fun hq => by have := h.path j y hjg hy F h.Fn hq; rw [h.free] at this; cases this
        have h1 := h.ga
        have h2 := h.home y.1
        have h3 := h.g0n
        have h4 := h.Fn
        subst haF
        clear hpos hset hsi hx hy hj h hA hf
        unfold wy at *
        repeat' split at hlt
        all_goals (repeat' split at hbad)
        all_goals (repeat' split at h1)
        all_goals (repeat' split at hin)
        all_goals omega
    rw [hset, if_neg hig]
    exact hsi
  · intro i j x y hi hj hxy
    obtain ⟨h1, h2⟩ := hpos i x hi
    obtain ⟨h3, h4⟩ := hpos j y hj
    exact h.one i j x y h1 h3 h2 h4 hxy
  · intro x
    rw [h.mem]
    constructor
    · rintro ⟨j, hj, hy⟩; exact ⟨j, by rw [hset, if_neg hj]; exact hy⟩
    · rintro ⟨j, hj⟩; exact ⟨j, hpos j x hj⟩
end
theorem wy_int {n a b : Nat} (ha : a < n) (hb : b < n) : ((b : Int) - a + n) % n = ((wy n a b : Nat) : Int) := by
  unfold wy
  split
  · rw [show ((b : Int) - a + n) = ((b - a : Nat) : Int) + n by omega, Int.add_emod_right, Int.emod_eq_of_lt (by omega) (by omega)]
  · rw [Int.emod_eq_of_lt (by omega) (by omega)]; omega
theorem bh_int {n a : Nat} (ha : a < n) : ((a : Int) + 1) % n = ((bh n a : Nat) : Int) := by
  unfold bh
  split
  · rw [show ((a : Int) + 1) = n by omega, Int.emod_self]; rfl
  · rw [Int.emod_eq_of_lt (by omega) (by omega)]; omega
/-- How many slots there are: the least power of two that is not below twice that. -/
structure Sz (m n : Nat) : Prop where
  le : 2 * m ≤ n
  pow : ∃ j, n = 2 ^ j ∧ ∀ i, 2 * m ≤ 2 ^ i → j ≤ i
theorem Sz.most {m n : Nat} (h : Sz m n) (hm : m ≤ 4096) : n ≤ 8192 := by
  obtain ⟨i, hi, hi2⟩ := h.pow
  have := hi2 13 (by omega)
  rw [hi]
  exact Nat.pow_le_pow_right (by decide) this
end Go.Proofs.YtinkkocleognbaaGreatDoor.Ix
/- Worlds, rows and bits: plain lemmas, without the program. -/
namespace Go.Proofs.YtinkkocleognbaaGreatDoor.Ix
open Go.RowKit

theorem wrap_u64 (n : Int) : IntKind.u64.wrap n = n % 18446744073709551616 := by simp [IntKind.wrap, IntKind.bits, IntKind.signed]
theorem wrap_nat (n : Nat) : IntKind.u64.wrap (n : Int) = ((n % 18446744073709551616 : Nat) : Int) := by rw [wrap_u64]; omega
theorem ofInt_nat (a : Nat) (ha : a < 18446744073709551616) : (BitVec.ofInt 64 (a : Int)).toNat = a := by
  rw [BitVec.ofInt_natCast, BitVec.toNat_ofNat]; exact Nat.mod_eq_of_lt (by omega)
theorem bits_xor_u64 (a b : Nat) (ha : a < 18446744073709551616) (hb : b < 18446744073709551616) : bits .xor .u64 (a : Int) (b : Int) = ((a ^^^ b : Nat) : Int) := by
  have hx := Mx.xor_lt ha hb
  show IntKind.u64.wrap ((BitVec.ofInt 64 (a : Int) ^^^ BitVec.ofInt 64 (b : Int)).toNat : Int) = _
  rw [BitVec.toNat_xor, ofInt_nat a ha, ofInt_nat b hb, wrap_u64]
  omega
theorem shr_nat (x k : Nat) : (x : Int) / 2 ^ k = ((x / 2 ^ k : Nat) : Int) := by simp
end Go.Proofs.YtinkkocleognbaaGreatDoor.Ix
/- The contracts of mix's Hash; worlds that keep blocks. -/
namespace Go.Proofs.YtinkkocleognbaaGreatDoor.Ix
open Go.RowKit
attribute [local go_sem ↓] Go.wp_at_zero Go.wp_at_succ

set_option maxHeartbeats 400000 in
theorem fold_any (x k : Nat) (hx : x < 18446744073709551616) (hk : k < 64) (w : World) : Calls Tryz.prog 184 #[.int .u64 (x : Int), .int .u64 (k : Int)] w fun e w' => e = .returned (.int .u64 ((Mx.fold k x : Nat) : Int)) ∧ w' = w := by
  have h1 := bits_xor_u64 x (x / 2 ^ k) hx (Mx.div_lt k hx)
  rw [← shr_nat] at h1
  have h2 : Mx.fold k x = x ^^^ x / 2 ^ k := rfl
  rw [← h2] at h1
  clear h2
  generalize Mx.fold k x = y at *
  go_enter Tryz.func184, Tryz.ntmps184
  go_wp2
  go_ret
  exact ⟨rfl, rfl⟩
theorem mul_wrap (a b : Nat) : IntKind.u64.wrap ((a : Int) * (b : Int)) = ((Mx.mul a b : Nat) : Int) := by
  rw [← Int.natCast_mul, wrap_nat]; rfl
theorem hash_any (x : Nat) (hx : x < 18446744073709551616) (w : World) : Calls Tryz.prog 175 #[.int .u64 (x : Int)] w fun e w' => e = .returned (.int .u64 ((Mx.hash x : Nat) : Int)) ∧ w' = w := by
  rw [Mx.hash_eq]
  have C1 := hide (fold_any x 30 hx (by decide) w)
  generalize Mx.fold 30 x = a at *
  have m1 : IntKind.u64.wrap ((a : Int) * 13787848793156543929) = ((Mx.mul a 13787848793156543929 : Nat) : Int) := mul_wrap a 13787848793156543929
  have l1 := Mx.mul_lt a 13787848793156543929
  generalize Mx.mul a 13787848793156543929 = b at *
  have C2 := hide (fold_any b 27 l1 (by decide) w)
  generalize Mx.fold 27 b = c at *
  have m2 : IntKind.u64.wrap ((c : Int) * 10723151780598845931) = ((Mx.mul c 10723151780598845931 : Nat) : Int) := mul_wrap c 10723151780598845931
  have l2 := Mx.mul_lt c 10723151780598845931
  generalize Mx.mul c 10723151780598845931 = d at *
  have C3 := hide (fold_any d 31 l2 (by decide) w)
  generalize Mx.fold 31 d = f at *
  go_enter Tryz.func175, Tryz.ntmps175
  go_wp2_with fail
  refine C1.out.mono ?_
  rintro e w' ⟨rfl, rfl⟩
  go_wp2_with fail
  refine C2.out.mono ?_
  rintro e w' ⟨rfl, rfl⟩
  go_wp2_with fail
  refine C3.out.mono ?_
  rintro e w' ⟨rfl, rfl⟩
  go_wp2
  go_ret
  exact ⟨rfl, rfl⟩
theorem own_row {w : World} {B0 : Nat} {e : TypeId} {size : Nat} {v : Value} {n : Nat} {xs : List Value} (h : w.ownsRow B0 e size v n xs) (hn : 0 < n) : ∃ g cap, ∃ cur : List Value, v = .slice (some ⟨g, 0, none⟩) n cap ∧ B0 ≤ g ∧ w.heap[g]? = some (.cells cur.toArray e (0, 0)) ∧ n ≤ cap ∧ cap ≤ maxLen ∧ cur.length = cap * size ∧ cur.take (n * size) = xs := by
  rcases h.2 with ⟨_, h0⟩ | ⟨g, cap, cur, hv, hb, hg, hn, hm, hs, ht⟩
  · omega
  · exact ⟨g, cap, cur.toList, hv, hb, by simpa using hg, hn, hm, by simpa using hs, ht⟩
theorem own_cell {w : World} {g : Nat} {cur xs : List Value} {e : TypeId} {n : Nat} (hg : w.heap[g]? = some (.cells cur.toArray e (0, 0))) (ht : cur.take n = xs) {j : Nat} {u : Value} (h : xs[j]? = some u) : w.cell? ⟨g, j, none⟩ = some u := by
  rw [cell_row hg]
  rw [← ht, List.getElem?_take] at h
  split at h
  · exact h
  · cases h
theorem own_form {w : World} {B0 : Nat} {e : TypeId} {sz n : Nat} {v : Value} {xs : List Value} (h : w.ownsRow B0 e sz v n xs) : ∃ vo cap, v = .slice vo n cap ∧ n ≤ cap := by
  rcases h.2 with ⟨rfl, rfl⟩ | ⟨g, cap, cur, hv, hb, hg, hn, _⟩
  · exact ⟨none, 0, rfl, Nat.le_refl _⟩
  · exact ⟨_, cap, hv, hn⟩
theorem own_block {w : World} {B0 : Nat} {e : TypeId} {size : Nat} {v : Value} {n : Nat} {xs : List Value} (h : w.ownsRow B0 e size v n xs) {g : Nat} (hg : v.ownBlock = some g) : B0 ≤ g ∧ ∃ cur : Array Value, w.heap[g]? = some (.cells cur e (0, 0)) := by
  rcases h.2 with ⟨h1, h0⟩ | ⟨q, cap, cur, hv, hb, hq, _⟩
  · rw [h1] at hg; cases hg
  · rw [hv] at hg; cases hg; exact ⟨hb, cur, hq⟩
theorem row_keep {w w' : World} {B0 : Nat} {e : TypeId} {size : Nat} {v : Value} {n : Nat} {xs : List Value} (h : w.ownsRow B0 e size v n xs) (hb : ∀ g, v.ownBlock = some g → w'.heap[g]? = w.heap[g]?) : w'.ownsRow B0 e size v n xs := by
  obtain ⟨h1, h⟩ := h
  refine ⟨h1, ?_⟩
  rcases h with h | ⟨g, cap, cur, rfl, h2, h3, h4⟩
  · exact Or.inl h
  · exact Or.inr ⟨g, cap, cur, rfl, h2, (hb g rfl).trans h3, h4⟩
end Go.Proofs.YtinkkocleognbaaGreatDoor.Ix
/- An index in memory; small calls. -/
namespace Go.Proofs.YtinkkocleognbaaGreatDoor.Ix
open Go.RowKit
attribute [local go_sem ↓] Go.wp_at_zero Go.wp_at_succ
def idN (o : Option (Nat × Int)) : Nat := (o.map (·.1)).getD 0
def vlN (o : Option (Nat × Int)) : Int := (o.map (·.2)).getD 0
def scell (o : Option (Nat × Int)) : List Value := [.bool o.isSome, .int .u32 (idN o : Int), .int .i64 (vlN o)]
def scells (S : List (Option (Nat × Int))) : List Value := S.flatMap scell
theorem scells_length (S : List (Option (Nat × Int))) : (scells S).length = S.length * 3 := by
  induction S with
  | nil => rfl
  | cons x r ih => simp [scells, scell] at ih ⊢; omega
theorem scells_get {S : List (Option (Nat × Int))} {i : Nat} (h : i < S.length) : (scells S)[i * 3]? = some (.bool (sl S i).isSome) ∧ (scells S)[i * 3 + 1]? = some (.int .u32 (idN (sl S i) : Int)) ∧ (scells S)[i * 3 + 2]? = some (.int .i64 (vlN (sl S i))) := by
  induction S generalizing i with
  | nil => simp at h
  | cons y r ih =>
    have e : scells (y :: r) = .bool y.isSome :: .int .u32 (idN y : Int) :: .int .i64 (vlN y) :: scells r := by simp [scells, scell]
    cases i with
    | zero => simp [e, sl]
    | succ i =>
      have := ih (i := i) (by simpa using h)
      have e2 : sl (y :: r) (i + 1) = sl r i := by simp [sl]
      rw [e, e2, show (i + 1) * 3 = i * 3 + 3 by omega, show i * 3 + 3 + 1 = (i * 3 + 1) + 3 by omega, show i * 3 + 3 + 2 = (i * 3 + 2) + 3 by omega]
      simpa using this
theorem scells_set {S : List (Option (Nat × Int))} {i : Nat} (y : Option (Nat × Int)) : scells (S.set i y) = (((scells S).set (i * 3) (.bool y.isSome)).set (i * 3 + 1) (.int .u32 (idN y : Int))).set (i * 3 + 2) (.int .i64 (vlN y)) := by
  induction S generalizing i with
  | nil => simp [scells]
  | cons z r ih =>
    have e : ∀ z, scells (z :: r) = .bool z.isSome :: .int .u32 (idN z : Int) :: .int .i64 (vlN z) :: scells r := fun z => by simp [scells, scell]
    cases i with
    | zero => simp [e]
    | succ i =>
      have e2 : scells (z :: r.set i y) = .bool z.isSome :: .int .u32 (idN z : Int) :: .int .i64 (vlN z) :: scells (r.set i y) := by simp [scells, scell]
      rw [List.set_cons_succ, e2, ih, e, show (i + 1) * 3 = i * 3 + 3 by omega, show i * 3 + 3 + 1 = (i * 3 + 1) + 3 by omega, show i * 3 + 3 + 2 = (i * 3 + 2) + 3 by omega]
      rfl
/-- The index's own cells. -/
def hdc (x g n m c st : Nat) : List Value := [.pointer (some ⟨x, 0, none⟩), .int .i64 (m : Int), .int .i64 (c : Int), .int .i64 (st : Int), .slice (some ⟨g, 0, none⟩) n n]
/-- On which slot the search of an id begins. -/
def hs (n k : Nat) : Nat := Mx.hash k % n
structure IxR (w : World) (x g n m c st : Nat) (S : List (Option (Nat × Int))) : Prop where
  head : w.heap[x]? = some (.cells (hdc x g n m c st).toArray 170 (0, 0))
  row : w.heap[g]? = some (.cells (scells S).toArray 206 (0, 0))
  len : S.length = n
  pos : 0 < n
  most : n ≤ 8192
section
variable {w w' : World} {x g n m c st : Nat} {S : List (Option (Nat × Int))}
theorem IxR.ne (h : IxR w x g n m c st S) : x ≠ g := fun e => by have := h.row; rw [← e, h.head] at this; simp at this
theorem IxR.cells (h : IxR w x g n m c st S) : w.cell? ⟨x, 0, none⟩ = some (.pointer (some ⟨x, 0, none⟩)) ∧ w.cell? ⟨x, 1, none⟩ = some (.int .i64 (m : Int)) ∧ w.cell? ⟨x, 2, none⟩ = some (.int .i64 (c : Int)) ∧ w.cell? ⟨x, 3, none⟩ = some (.int .i64 (st : Int)) ∧ w.cell? ⟨x, 4, none⟩ = some (.slice (some ⟨g, 0, none⟩) n n) :=
  ⟨cell_row h.head 0, cell_row h.head 1, cell_row h.head 2, cell_row h.head 3, cell_row h.head 4⟩
theorem IxR.slot (h : IxR w x g n m c st S) {i : Nat} (hi : i < n) : w.cell? ⟨g, i * 3, none⟩ = some (.bool (sl S i).isSome) ∧ w.cell? ⟨g, i * 3 + 1, none⟩ = some (.int .u32 (idN (sl S i) : Int)) ∧ w.cell? ⟨g, i * 3 + 2, none⟩ = some (.int .i64 (vlN (sl S i))) := by
  obtain ⟨h1, h2, h3⟩ := scells_get (S := S) (i := i) (by rw [h.len]; exact hi)
  rw [cell_row h.row, cell_row h.row, cell_row h.row]
  exact ⟨h1, h2, h3⟩
theorem IxR.far {X : Nat → Prop} (h : IxR w x g n m c st S) (k : Kept w w' X) (hx : ¬ X x) (hg : ¬ X g) : IxR w' x g n m c st S := ⟨k.at h.head hx, k.at h.row hg, h.len, h.pos, h.most⟩
theorem IxR.then (h : IxR w x g n m c st S) (k : w.grownBy w' none) : IxR w' x g n m c st S := h.far (Kept.new k (fun _ => False)) (fun e => e) (fun e => e)
/-- Steps are written. -/
theorem IxR.step (h : IxR w x g n m c st S) (s : Nat) : IxR (w.setCell ⟨x, 3, none⟩ (.int .i64 (s : Int))) x g n m c s S := by
  have k := kept_setCell w x 3 (.int .i64 (s : Int))
  exact ⟨row_setCell h.head 3 _, k.at h.row (fun e => h.ne e.symm), h.len, h.pos, h.most⟩
theorem IxR.count (h : IxR w x g n m c st S) (s : Nat) : IxR (w.setCell ⟨x, 2, none⟩ (.int .i64 (s : Int))) x g n m s st S := by
  have k := kept_setCell w x 2 (.int .i64 (s : Int))
  exact ⟨row_setCell h.head 2 _, k.at h.row (fun e => h.ne e.symm), h.len, h.pos, h.most⟩
theorem hs_lt (hn : 0 < n) (k : Nat) : hs n k < n := Nat.mod_lt _ hn
set_option maxRecDepth 20000 in
theorem none_at (h : IxR w x g n m c st S) : Calls Tryz.prog 118 #[.pointer (some ⟨x, 0, none⟩)] w fun e w' => e = .returned (.bool false) ∧ w' = w := by
  obtain ⟨c0, -, -, -, -⟩ := h.cells
  have hsome : (Tryz.prog.info? 170).isSome = true := by kernel_rfl
  obtain ⟨j, hj⟩ := Option.isSome_iff_exists.1 hsome
  have hs := Go.Lib.run_neq_ptr_same (P := Tryz.prog) (tp := 33) (te := 170) w ⟨x, 0, none⟩ Tryz.underlying33 hj
  clear h hsome hj
  go_enter Tryz.func118, Tryz.ntmps118
  go_wp2
  go_ret
  exact ⟨rfl, rfl⟩
theorem len_at (h : IxR w x g n m c st S) : Calls Tryz.prog 80 #[.pointer (some ⟨x, 0, none⟩)] w fun e w' => e = .returned (.int .i64 (c : Int)) ∧ w' = w := by
  obtain ⟨-, c1, c2, c3, c4⟩ := h.cells
  have hn := none_at h
  clear h
  go_enter Tryz.func80, Tryz.ntmps80
  go_wp2_with (go_at_call 118; refine hn.mono ?_; rintro e w1 ⟨rfl, rfl⟩)
  go_wp2
  go_ret
  exact ⟨rfl, rfl⟩
theorem home_at (h : IxR w x g n m c st S) (k : Nat) (hk : k < 4294967296) : Calls Tryz.prog 159 #[.pointer (some ⟨x, 0, none⟩), .int .u32 (k : Int)] w fun e w' => e = .returned (.int .i64 (hs n k : Int)) ∧ w.grownBy w' none := by
  obtain ⟨-, -, -, -, c4⟩ := h.cells
  have hh := fun W => hash_any k (by omega) W
  have hl := Mx.hash_lt k
  have e1 : ((Mx.hash k : Nat) : Int).tmod ((n : Nat) : Int) = ((hs n k : Nat) : Int) := by rw [Int.tmod_eq_emod_of_nonneg (by omega)]; rfl
  have hm := hs_lt h.pos k
  have h0 := h.pos
  have hn := h.most
  clear h
  generalize hs n k = r at *
  generalize Mx.hash k = q at *
  have w1 : IntKind.u64.wrap ((n : Nat) : Int) = (n : Int) := by rw [wrap_u64]; omega
  have w2 : IntKind.i64.wrap ((r : Nat) : Int) = (r : Int) := by rw [IntKind.wrap_i64]; omega
  have w3 : IntKind.u64.wrap ((k : Nat) : Int) = (k : Int) := by rw [wrap_u64]; omega
  have w4 : IntKind.u64.wrap ((r : Nat) : Int) = (r : Int) := by rw [wrap_u64]; omega
  have nz : ((n : Int) == 0) = false := by simp; omega
  go_enter Tryz.func159, Tryz.ntmps159
  go_wp2
  go_quiet ((go_at_call 175; exact Calls.quiet_of_same (hh _)))
  go_wp2
  go_ret
  exact ⟨rfl, grown_drewN _ _ _⟩
theorem behind_at (h : IxR w x g n m c st S) (a : Nat) (ha : a < n) : Calls Tryz.prog 173 #[.pointer (some ⟨x, 0, none⟩), .int .i64 (a : Int)] w fun e w' => e = .returned (.int .i64 (bh n a : Int)) ∧ w' = w := by
  obtain ⟨-, -, -, -, c4⟩ := h.cells
  have e1 : ((a : Int) + 1).tmod (n : Int) = ((bh n a : Nat) : Int) := by rw [Int.tmod_eq_emod_of_nonneg (by omega)]; exact bh_int ha
  have h0 := h.pos
  have hn := h.most
  have hb := bh_lt ha
  clear h
  generalize bh n a = r at *
  have nz : ((n : Int) == 0) = false := by simp; omega
  go_enter Tryz.func173, Tryz.ntmps173
  go_wp2
  go_ret
  exact ⟨rfl, rfl⟩
theorem way_at (h : IxR w x g n m c st S) (a b : Nat) (ha : a < n) (hb : b < n) : Calls Tryz.prog 174 #[.pointer (some ⟨x, 0, none⟩), .int .i64 (a : Int), .int .i64 (b : Int)] w fun e w' => e = .returned (.int .i64 (wy n a b : Int)) ∧ w.grownBy w' none := by
  obtain ⟨-, -, -, -, c4⟩ := h.cells
  have e1 : ((b : Int) - a + n).tmod (n : Int) = ((wy n a b : Nat) : Int) := by rw [Int.tmod_eq_emod_of_nonneg (by omega)]; exact wy_int ha hb
  have h0 := h.pos
  have hn := h.most
  have hl := wy_lt ha hb
  clear h
  generalize wy n a b = r at *
  have nz : ((n : Int) == 0) = false := by simp; omega
  go_enter Tryz.func174, Tryz.ntmps174
  go_wp2
  go_quiet (fail)
  go_wp2
  go_ret
  exact ⟨rfl, grown_drewN _ _ _⟩
end
end Go.Proofs.YtinkkocleognbaaGreatDoor.Ix
/- How many slots; New. -/
namespace Go.Proofs.YtinkkocleognbaaGreatDoor.Ix
open Go.RowKit
attribute [local go_sem ↓] Go.wp_at_zero Go.wp_at_succ
theorem pow_lt14 : ∀ j, j < 14 → 2 ^ j ≤ 8192 := fun j hj => Nat.pow_le_pow_right (n := 2) (by decide) (show j ≤ 13 by omega)
theorem slotsFor_any (m : Nat) (h1 : 1 ≤ m) (h2 : m ≤ 4096) (w : World) : Calls Tryz.prog 135 #[.int .i64 (m : Int)] w fun e w' => ∃ n : Nat, e = .returned (.int .i64 (n : Int)) ∧ Sz m n ∧ w' = w := by
  go_enter Tryz.func135, Tryz.ntmps135
  go_wp2
  go_loopg [3] 13 (fun q v wr => ∃ n : Nat, v = .int .i64 (n : Int) ∧ n ≤ 8192 ∧ Hid (wr = w ∧ n = 2 ^ (13 - q) ∧ q ≤ 13 ∧ ∀ i, i < 13 - q → 2 ^ i < 2 * m))
  case atStart => exact ⟨1, rfl, by decide, rfl, rfl, by decide, fun i hi => by omega⟩
  case round =>
    obtain ⟨n, rfl, hn, HR⟩ := hrel
    have HN := hide hn
    by_cases hlt : n < 2 * m
    · have hq : 1 ≤ gk := by
        rcases Nat.eq_zero_or_pos gk with h0 | h0
        · obtain ⟨_, e, _, _⟩ := HR.out; rw [h0] at e; omega
        · exact h0
      have hlt' : ((n : Int)) < 2 * (m : Int) := by omega
      go_wp2
      go_roundg (gk - 1)
      case rel =>
        obtain ⟨e1, e2, e3, e4⟩ := HR.out
        have e5 : 13 - (gk - 1) = (13 - gk) + 1 := by omega
        refine ⟨n * 2, by simp, by rw [e2, ← Nat.pow_succ]; exact pow_lt14 _ (by omega), e1, by rw [e5, Nat.pow_succ, ← e2], by omega, fun i hi => ?_⟩
        rcases Nat.lt_or_ge i (13 - gk) with h | h
        · exact e4 i h
        · rw [show i = 13 - gk by omega, ← e2]; exact hlt
      case measure => omega
    · have hlt' : decide ((n : Int) < 2 * (m : Int)) = false := by simp; omega
      have hlt2 : ¬ ((n : Int) < 2 * (m : Int)) := by omega
      go_wp2
      go_ret
      obtain ⟨e1, e2, e3, e4⟩ := HR.out
      refine ⟨n, rfl, ⟨by omega, 13 - gk, e2, fun i hi => ?_⟩, e1⟩
      rcases Nat.lt_or_ge i (13 - gk) with h | h
      · have := e4 i h; omega
      · exact h
theorem Tryz.info206 : (Tryz.prog.info? 206).map (fun i => (i.zero, i.size, i.bytes)) = some (some (.agg #[.bool false, .int .u32 0, .int .i64 0]), 3, 24) := by kernel_rfl
theorem sl_free (n i : Nat) : sl (List.replicate n none) i = none := by
  unfold sl
  rw [List.getElem?_replicate]
  split <;> rfl
theorem made_slots (n : Nat) : madeCells #[.bool false, .int .u32 0, .int .i64 0] (n * 3) = (scells (List.replicate n none)).toArray := by
  apply Array.ext'
  apply List.ext_getElem?
  intro j
  by_cases hj : j < n * 3
  · obtain ⟨h1, h2, h3⟩ := scells_get (S := List.replicate n none) (i := j / 3) (by simp; omega)
    rw [sl_free] at h1 h2 h3
    have hm : j = j / 3 * 3 + j % 3 := by omega
    have e : (madeCells #[.bool false, .int .u32 0, .int .i64 0] (n * 3)).toList[j]? = some (#[Value.bool false, .int .u32 0, .int .i64 0][j % 3]!) := by
      simp [madeCells, hj]
    rw [e]
    have h3' : j % 3 = 0 ∨ j % 3 = 1 ∨ j % 3 = 2 := by omega
    rcases h3' with hr | hr | hr
    · rw [hr] at hm ⊢; rw [show j = j / 3 * 3 by omega]; rw [h1]; rfl
    · rw [hr] at hm ⊢; rw [hm]; rw [show (j / 3 * 3 + 1) = j / 3 * 3 + 1 from rfl, h2]; rfl
    · rw [hr] at hm ⊢; rw [hm, h3]; rfl
  · rw [List.getElem?_eq_none (by simp [size_madeCells]; omega), List.getElem?_eq_none (by simp [scells_length]; omega)]
theorem make_slots (n : Nat) (h : n ≤ 8192) (w : World) : (Instr.makeSlice 168 (.int .i64 (n : Int)) (.int .i64 (n : Int))).run Tryz.prog w = .ok (.slice (some ⟨w.heap.size, 0, none⟩) n n) (w.alloc (.cells (scells (List.replicate n none)).toArray 206)) := by
  obtain ⟨i0, hi, hz0, hz1, hz2⟩ := info_parts Tryz.info206
  rw [run_make (P := Tryz.prog) (w := w) 168 206 i0 (.agg #[.bool false, .int .u32 0, .int .i64 0]) Tryz.underlying168 hi hz0 .i64 .i64 (n : Int) (n : Int) (by omega) (by omega) (by rw [hz2]; omega) (by omega), hz1]
  simp [made_slots, Value.cells]
/-- An index, its items M. -/
structure IxAt (w : World) (x g n m st : Nat) (S : List (Option (Nat × Int))) (M : List (Nat × Int)) : Prop where
  at_ : IxR w x g n m M.length st S
  inv : Inv (hs n) n S M
  sz : Sz m n
  m1 : 1 ≤ m
  m2 : m ≤ 4096
  full : M.length ≤ m
  st : st ≤ n
  ids : ∀ y ∈ M, y.1 < 4294967296 ∧ -9223372036854775808 ≤ y.2 ∧ y.2 ≤ 9223372036854775807
theorem inv_nil (n : Nat) (hn : 0 < n) : Inv (hs n) n (List.replicate n none) [] :=
  ⟨by simp, List.Pairwise.nil, (fun j y hj => by rw [sl_free] at hj; cases hj), (fun i j y z hi => by rw [sl_free] at hi; cases hi), (fun y => by simp [sl_free]), by simp, fun k => hs_lt hn k⟩
theorem new_any (m : Nat) (h1 : 1 ≤ m) (h2 : m ≤ 4096) (w : World) : Calls Tryz.prog 102 #[.int .i64 (m : Int)] w fun e w' => ∃ x g n S, e = .returned (.tuple #[.pointer (some ⟨x, 0, none⟩), .int .i64 0]) ∧ IxAt w' x g n m 0 S [] ∧ w.grownBy w' none ∧ w.heap.size ≤ x ∧ w.heap.size ≤ g := by
  have hsl := slotsFor_any m h1 h2 w
  have hmk := make_slots
  have b1 : ¬ ((m : Int) < 1) := by omega
  have b2 : ¬ ((4096 : Int) < m) := by omega
  go_enter Tryz.func102, Tryz.ntmps102
  go_wp2_with fail
  refine hsl.mono ?_
  rintro e w1 ⟨n, rfl, hsz, hw1⟩
  obtain rfl := hw1.symm
  have HZ := hide hsz
  have hn8 := hsz.most h2
  have hmk2 := hmk n hn8 w
  have HM := hide (And.intro h1 h2)
  have HN8 := hide hn8
  clear hsz hmk hsl b1 b2 h1 h2 hn8
  generalize hc : (scells (List.replicate n none)).toArray = C at *
  have HC := hide hc
  clear hc
  go_wp2
  go_ret2
  have hb : (w.alloc (.cells C 206)).heap[w.heap.size]? = some (.cells (scells (List.replicate n none)).toArray 206 (0, 0)) := by rw [HC.out]; exact heap_alloc_new w _
  have g2 := World.grownBy_alloc (w.alloc (.cells C 206)) (.cells #[.pointer (some ⟨w.heap.size + 1, 0, none⟩), .int .i64 (m : Int), .int .i64 0, .int .i64 0, .slice (some ⟨w.heap.size, 0, none⟩) n n] 170) none
  have hh := heap_alloc_new (w.alloc (.cells C 206)) (.cells #[.pointer (some ⟨w.heap.size + 1, 0, none⟩), .int .i64 (m : Int), .int .i64 0, .int .i64 0, .slice (some ⟨w.heap.size, 0, none⟩) n n] 170)
  rw [World.size_alloc] at hh
  have hn0 : 0 < n := by have := HZ.out.le; have := HM.out.1; omega
  exact ⟨w.heap.size + 1, w.heap.size, n, List.replicate n none, rfl, ⟨⟨hh, (g2.block _ (row_lt hb) (by simp)).trans hb, by simp, hn0, HN8.out⟩, inv_nil n hn0, HZ.out, HM.out.1, HM.out.2, Nat.zero_le _, Nat.zero_le _, fun y hy => by simp at hy⟩, grown_trans (World.grownBy_alloc w _ none) g2, by omega, Nat.le_refl _⟩
end Go.Proofs.YtinkkocleognbaaGreatDoor.Ix
