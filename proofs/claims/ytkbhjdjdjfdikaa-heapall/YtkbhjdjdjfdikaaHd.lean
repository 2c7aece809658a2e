/- A heap in memory; which of two items comes first. -/
import Derived.Test.YtkbhjdjdjfdikaaHc
namespace Go.Proofs.Ytkbhjdjdjfdikaa
open Go.RowKit Ap
attribute [local go_sem ↓] Go.wp_at_zero Go.wp_at_succ
/-- Where a heap lies. -/
structure Hp where
  h : Nat
  ve : Value
  vl : Value
  mb : Nat
def Hp.own (p : Hp) (i : Nat) : Prop := i = p.h ∨ p.ve.ownBlock = some i ∨ p.vl.ownBlock = some i ∨ i = p.mb
def ecells (E : List (Nat × Int)) : List Value := E.flatMap fun e => [.int .i64 (e.1 : Int), .int .i64 e.2]
def tcells (T : List Nat) : List Value := T.map fun (t : Nat) => Value.int .i64 (t : Int)
theorem ecells_length (E : List (Nat × Int)) : (ecells E).length = E.length * 2 := by
  induction E with
  | nil => rfl
  | cons x r ih => simp [ecells] at ih ⊢; omega
theorem tcells_length (T : List Nat) : (tcells T).length = T.length := by simp [tcells]
theorem ecells_snoc (E : List (Nat × Int)) (x : Nat × Int) : ecells (E ++ [x]) = ecells E ++ [.int .i64 (x.1 : Int), .int .i64 x.2] := by simp [ecells]
theorem tcells_snoc (T : List Nat) (x : Nat) : tcells (T ++ [x]) = tcells T ++ [.int .i64 (x : Int)] := by simp [tcells]
theorem ecells_get {E : List (Nat × Int)} {i : Nat} (h : i < E.length) : (ecells E)[i * 2]? = some (.int .i64 ((en E i).1 : Int)) ∧ (ecells E)[i * 2 + 1]? = some (.int .i64 (en E i).2) := by
  induction E generalizing i with
  | nil => simp at h
  | cons y r ih =>
    cases i with
    | zero => simp [ecells, en]
    | succ i =>
      have := ih (i := i) (by simpa using h)
      have e : ecells (y :: r) = .int .i64 (y.1 : Int) :: .int .i64 y.2 :: ecells r := by simp [ecells]
      have e2 : en (y :: r) (i + 1) = en r i := by simp [en]
      rw [e, e2, show (i + 1) * 2 = i * 2 + 2 by omega, show i * 2 + 2 + 1 = (i * 2 + 1) + 2 by omega]
      simpa using this
theorem tcells_get {T : List Nat} {i : Nat} (h : i < T.length) : (tcells T)[i]? = some (.int .i64 (tn T i : Int)) := by simp [tcells, tn, h]
/-- What the map answers. -/
def plf (E : List (Nat × Int)) : Int → Option Value := fun x => (E.findIdx? (fun e => (e.1 : Int) == x)).map fun i => .int .i64 (i : Int)
structure HpAt (w : World) (L : Les) (p : Hp) (E : List (Nat × Int)) (T : List Nat) (N B : Nat) : Prop where
  head : w.heap[p.h]? = some (.cells (hpc L p.h (N : Int) p.ve p.vl p.mb).toArray 57 (0, 0))
  ent : w.ownsRow 0 82 2 p.ve E.length (ecells E)
  lst : w.ownsRow 0 3 1 p.vl T.length (tcells T)
  map : MapAt w Try.prog 3 p.mb B (plf E)
  inv : L.I w
  off : ∀ i, p.own i → ¬ L.F i
theorem row_same {w w' : World} {e : TypeId} {size : Nat} {v : Value} {n : Nat} {xs : List Value} (h : w.ownsRow 0 e size v n xs) (hb : ∀ g, v.ownBlock = some g → w'.heap[g]? = w.heap[g]?) : w'.ownsRow 0 e size v n xs := by
  obtain ⟨h1, h⟩ := h
  refine ⟨h1, ?_⟩
  rcases h with h | ⟨g, cap, cur, rfl, h2, h3, h4⟩
  · exact Or.inl h
  · exact Or.inr ⟨g, cap, cur, rfl, h2, (hb g rfl).trans h3, h4⟩
theorem en_mem {E : List (Nat × Int)} {i : Nat} (h : i < E.length) : en E i ∈ E := by
  unfold en
  rw [List.getElem?_eq_getElem h]
  exact List.getElem_mem h
section
variable {w w' : World} {L : Les} {p : Hp} {E : List (Nat × Int)} {T : List Nat} {N B : Nat}
theorem HpAt.lt (h : HpAt w L p E T N B) : ∀ i, p.own i → i < w.heap.size := by
  rintro i (rfl | hi | hi | rfl)
  · exact row_lt h.head
  · exact (h.ent.lt i hi).2
  · exact (h.lst.lt i hi).2
  · exact h.map.lt
/-- What happens elsewhere leaves it as it is. -/
theorem HpAt.far {X : Nat → Prop} (h : HpAt w L p E T N B) (k : Kept w w' X) (hX : ∀ i, p.own i → ¬ X i) (hI : L.I w') : HpAt w' L p E T N B :=
  ⟨k.at h.head (hX _ (.inl rfl)), row_same h.ent (fun g hg => k.block g (h.lt g (.inr (.inl hg))) (hX g (.inr (.inl hg)))), row_same h.lst (fun g hg => k.block g (h.lt g (.inr (.inr (.inl hg)))) (hX g (.inr (.inr (.inl hg))))), h.map.same (k.block _ h.map.lt (hX _ (.inr (.inr (.inr rfl))))), hI, h.off⟩
theorem HpAt.less (hL : L.Ok) (h : HpAt w L p E T N B) (k : Kept w w' L.S) (hI : L.I w') : HpAt w' L p E T N B := h.far k (fun i hi e => h.off i hi (hL.sub i e)) hI
theorem HpAt.then (hL : L.Ok) (h : HpAt w L p E T N B) (g : w.grownBy w' none) : HpAt w' L p E T N B :=
  h.far (X := fun _ => False) (Kept.new g _) (fun _ _ e => e) (hL.keep w w' (fun _ => False) h.inv (Kept.new g _) (fun _ e => e.elim))
/-- A row that is not empty: where it lies. -/
theorem own_row {w : World} {e : TypeId} {size : Nat} {v : Value} {n : Nat} {xs : List Value} (h : w.ownsRow 0 e size v n xs) (hn : 0 < n) : ∃ g cap, ∃ cur : List Value, v = .slice (some ⟨g, 0, none⟩) n cap ∧ w.heap[g]? = some (.cells cur.toArray e (0, 0)) ∧ n ≤ cap ∧ cap ≤ maxLen ∧ cur.length = cap * size ∧ cur.take (n * size) = xs := by
  rcases h.2 with ⟨_, h0⟩ | ⟨g, cap, cur, hv, hb, hg, hn, hm, hs, ht⟩
  · omega
  · exact ⟨g, cap, cur.toList, hv, by simpa using hg, hn, hm, by simpa using hs, ht⟩
theorem own_cell {w : World} {g : Nat} {cur xs : List Value} {e : TypeId} {n : Nat} (hg : w.heap[g]? = some (.cells cur.toArray e (0, 0))) (ht : cur.take n = xs) {j : Nat} {u : Value} (h : xs[j]? = some u) : w.cell? ⟨g, j, none⟩ = some u := by
  rw [cell_row hg]
  rw [← ht, List.getElem?_take] at h
  split at h
  · exact h
  · cases h
theorem HpAt.cells (h : HpAt w L p E T N B) : w.cell? ⟨p.h, 0, none⟩ = some (.pointer (some ⟨p.h, 0, none⟩)) ∧ w.cell? ⟨p.h, 1, none⟩ = some L.fv ∧ w.cell? ⟨p.h, 2, none⟩ = some (.bool false) ∧ w.cell? ⟨p.h, 3, none⟩ = some (.int .i64 (N : Int)) ∧ w.cell? ⟨p.h, 4, none⟩ = some p.ve ∧ w.cell? ⟨p.h, 5, none⟩ = some p.vl ∧ w.cell? ⟨p.h, 6, none⟩ = some (.map (some p.mb)) :=
  ⟨cell_row h.head 0, cell_row h.head 1, cell_row h.head 2, cell_row h.head 3, cell_row h.head 4, cell_row h.head 5, cell_row h.head 6⟩
theorem two_new (w : World) (a b c d : Value) (t : TypeId) {w2 : World} (h : ((w.alloc (.cells #[a, b] t)).alloc (.cells #[c, d] t)).drew = w2) : w.grownBy w2 none ∧ w2.cell? ⟨w.heap.size, 0, none⟩ = some a ∧ w2.cell? ⟨w.heap.size, 1, none⟩ = some b ∧ w2.cell? ⟨w.heap.size + 1, 0, none⟩ = some c ∧ w2.cell? ⟨w.heap.size + 1, 1, none⟩ = some d := by
  subst h
  have g1 := World.grownBy_alloc w (.cells #[a, b] t) none
  have g2 := World.grownBy_alloc (w.alloc (.cells #[a, b] t)) (.cells #[c, d] t) none
  have b1 : (w.alloc (.cells #[a, b] t)).heap[w.heap.size]? = some (.cells [a, b].toArray t (0, 0)) := heap_alloc_new w _
  have b2 : ((w.alloc (.cells #[a, b] t)).alloc (.cells #[c, d] t)).heap[(w.alloc (.cells #[a, b] t)).heap.size]? = some (.cells [c, d].toArray t (0, 0)) := heap_alloc_new _ _
  have b1' := (g2.block _ (row_lt b1) (by simp)).trans b1
  rw [World.size_alloc] at b2
  exact ⟨grown_trans (grown_trans g1 g2) (grown_drew _ none), cell_row b1' 0, cell_row b1' 1, cell_row b2 0, cell_row b2 1⟩
set_option maxHeartbeats 2000000 in
theorem ahead_any (hL : L.Ok) (h : HpAt w L p E T N B) (a b : Nat) (ha : a < E.length) (hb : b < E.length) (hok : ∀ e ∈ E, L.ok e.2) :
    Calls Try.prog 63 #[.pointer (some ⟨p.h, 0, none⟩), .int .i64 (a : Int), .int .i64 (b : Int)] w fun e w' => e = .returned (.bool (ah L.lt (en E a) (en E b))) ∧ L.I w' ∧ Kept w w' L.S := by
  obtain ⟨-, -, -, -, c4, -, -⟩ := h.cells
  obtain ⟨g, cap, cur, hv, hg, hn, hm, hs, ht⟩ := own_row h.ent (by omega)
  rw [hv] at c4
  have a0 := own_cell hg ht (ecells_get ha).1
  have a1 := own_cell hg ht (ecells_get ha).2
  have b0 := own_cell hg ht (ecells_get hb).1
  have b1 := own_cell hg ht (ecells_get hb).2
  obtain ⟨n, hnn⟩ : ∃ n, n = E.length := ⟨_, rfl⟩
  have ha' := ha
  have hb' := hb
  rw [← hnn] at ha hb c4 hn
  have HI := hide (And.intro h hnn)
  have gz1 : ¬ g = w.heap.size := by have := row_lt hg; omega
  have gz2 : ¬ g = w.heap.size + 1 := by have := row_lt hg; omega
  have pz1 : ¬ p.h = w.heap.size := by have := row_lt h.head; omega
  have pz2 : ¬ p.h = w.heap.size + 1 := by have := row_lt h.head; omega
  have x0 : ∀ u v, (w.alloc (.cells #[u, v] 82)).cell? ⟨p.h, 4, none⟩ = some (Value.slice (some ⟨g, 0, none⟩) n cap) := fun u v => (World.grownBy_alloc w (.cells #[u, v] 82) none).cell c4 (by simp)
  have y0 : ∀ u v u2 v2, ((w.alloc (.cells #[u, v] 82)).alloc (.cells #[u2, v2] 82)).cell? ⟨p.h, 4, none⟩ = some (Value.slice (some ⟨g, 0, none⟩) n cap) := fun u v u2 v2 => (World.grownBy_alloc _ (.cells #[u2, v2] 82) none).cell (x0 u v) (by simp)
  have x1 : ∀ u v, (w.alloc (.cells #[u, v] 82)).cell? ⟨g, a * 2, none⟩ = some (.int .i64 ((en E a).1 : Int)) := fun u v => (World.grownBy_alloc w (.cells #[u, v] 82) none).cell a0 (by simp)
  have y1 : ∀ u v u2 v2, ((w.alloc (.cells #[u, v] 82)).alloc (.cells #[u2, v2] 82)).cell? ⟨g, a * 2, none⟩ = some (.int .i64 ((en E a).1 : Int)) := fun u v u2 v2 => (World.grownBy_alloc _ (.cells #[u2, v2] 82) none).cell (x1 u v) (by simp)
  have x2 : ∀ u v, (w.alloc (.cells #[u, v] 82)).cell? ⟨g, a * 2 + 1, none⟩ = some (.int .i64 (en E a).2) := fun u v => (World.grownBy_alloc w (.cells #[u, v] 82) none).cell a1 (by simp)
  have y2 : ∀ u v u2 v2, ((w.alloc (.cells #[u, v] 82)).alloc (.cells #[u2, v2] 82)).cell? ⟨g, a * 2 + 1, none⟩ = some (.int .i64 (en E a).2) := fun u v u2 v2 => (World.grownBy_alloc _ (.cells #[u2, v2] 82) none).cell (x2 u v) (by simp)
  have x3 : ∀ u v, (w.alloc (.cells #[u, v] 82)).cell? ⟨g, b * 2, none⟩ = some (.int .i64 ((en E b).1 : Int)) := fun u v => (World.grownBy_alloc w (.cells #[u, v] 82) none).cell b0 (by simp)
  have y3 : ∀ u v u2 v2, ((w.alloc (.cells #[u, v] 82)).alloc (.cells #[u2, v2] 82)).cell? ⟨g, b * 2, none⟩ = some (.int .i64 ((en E b).1 : Int)) := fun u v u2 v2 => (World.grownBy_alloc _ (.cells #[u2, v2] 82) none).cell (x3 u v) (by simp)
  have x4 : ∀ u v, (w.alloc (.cells #[u, v] 82)).cell? ⟨g, b * 2 + 1, none⟩ = some (.int .i64 (en E b).2) := fun u v => (World.grownBy_alloc w (.cells #[u, v] 82) none).cell b1 (by simp)
  have y4 : ∀ u v u2 v2, ((w.alloc (.cells #[u, v] 82)).alloc (.cells #[u2, v2] 82)).cell? ⟨g, b * 2 + 1, none⟩ = some (.int .i64 (en E b).2) := fun u v u2 v2 => (World.grownBy_alloc _ (.cells #[u2, v2] 82) none).cell (x4 u v) (by simp)
  clear h hnn hg ht hv hs
  have HO : Hid (L.ok (en E a).2 ∧ L.ok (en E b).2) := ⟨hok _ (en_mem ha'), hok _ (en_mem hb')⟩
  have HAsk : Hid (∀ (w2 : World) (x y : Int), w.grownBy w2 none → L.ok x → L.ok y → Calls Try.prog 75 #[.pointer (some ⟨p.h, 0, none⟩), .int .i64 x, .int .i64 y] w2 fun e w' => e = .returned (.bool (L.lt x y)) ∧ L.I w' ∧ Kept w w' L.S) := by
    intro w2 x y hg hx hy
    refine (ask_any L hL p.h N p.ve p.vl p.mb x y w2 (HI.out.1.then hL hg).head (HI.out.1.then hL hg).inv hx hy (HI.out.1.off _ (.inl rfl))).mono ?_
    rintro e w' ⟨rfl, h1, h2⟩
    exact ⟨rfl, h1, (Kept.new hg _).trans h2 (fun _ _ e => e)⟩
  clear hok
  generalize hX : en E a = X at *
  generalize hY : en E b = Y at *
  obtain ⟨r, hr⟩ : ∃ r, r = ah L.lt X Y := ⟨_, rfl⟩
  rw [← hr]
  have HR := hide hr
  clear hr hX hY
  go_enter Try.func63, Try.ntmps63
  go_wp2
  go_region
  all_goals
    clear c4 a0 a1 b0 b1 x0 x1 x2 x3 x4 y0 y1 y2 y3 y4
    generalize hw2 : (World.alloc (World.alloc w _) _).drew = w2
    obtain ⟨g2, d0, d1, d2, d3⟩ := two_new w _ _ _ _ _ hw2
    have HG := hide g2
    clear g2 hw2
    by_cases hlt : (X.1 : Int) < (Y.1 : Int)
    · have hr2 : r = !(L.lt Y.2 X.2) := by rw [HR.out]; unfold ah; rw [if_pos (by omega)]
      have HR2 := hide hr2
      clear hr2
      go_wp2_with fail
      refine (HAsk.out w2 _ _ HG.out HO.out.2 HO.out.1).mono ?_
      rintro e w3 ⟨rfl, h1, h2⟩
      generalize L.lt Y.2 X.2 = q at *
      go_wp2
      go_ret
      exact ⟨by rw [HR2.out]; rfl, h1, h2⟩
    · have hr2 : r = L.lt X.2 Y.2 := by rw [HR.out]; unfold ah; rw [if_neg (by omega)]
      have HR2 := hide hr2
      clear hr2
      go_wp2_with fail
      refine (HAsk.out w2 _ _ HG.out HO.out.1 HO.out.2).mono ?_
      rintro e w3 ⟨rfl, h1, h2⟩
      generalize L.lt X.2 Y.2 = q at *
      go_wp2
      go_ret
      exact ⟨by rw [HR2.out]; rfl, h1, h2⟩
end
end Go.Proofs.Ytkbhjdjdjfdikaa
