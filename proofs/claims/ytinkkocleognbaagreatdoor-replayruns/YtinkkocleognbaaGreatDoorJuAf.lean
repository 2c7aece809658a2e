/- Texts joined: JnAf. -/
import Derived.Test.YtinkkocleognbaaGreatDoorJuAe
import Derived.Test.YtinkkocleognbaaGreatDoorJuAa
import Derived.Lib.Builder
/- Texts joined: HpHd, HpHe, HpHf, HpHg. -/
/- A heap in memory; which of two items comes first. -/
namespace Go.Proofs.YtinkkocleognbaaGreatDoor.Hp
open Go.RowKit
attribute [local go_sem ↓] Go.wp_at_zero Go.wp_at_succ
/-- Where a heap lies. -/
structure Hp where
  h : Nat
  ve : Value
  vl : Value
  mb : Nat
def Hp.own (p : Hp) (i : Nat) : Prop := i = p.h ∨ p.ve.ownBlock = some i ∨ p.vl.ownBlock = some i ∨ i = p.mb
def ecells (E : List (Nat × Int)) : List Value := E.flatMap fun e => [.int .i64 (e.1 : Int), .int .u32 e.2]
def tcells (T : List Nat) : List Value := T.map fun (t : Nat) => Value.int .i64 (t : Int)
theorem ecells_length (E : List (Nat × Int)) : (ecells E).length = E.length * 2 := by
  induction E with
  | nil => rfl
  | cons x r ih => simp [ecells] at ih ⊢; omega
theorem tcells_length (T : List Nat) : (tcells T).length = T.length := by simp [tcells]
theorem ecells_snoc (E : List (Nat × Int)) (x : Nat × Int) : ecells (E ++ [x]) = ecells E ++ [.int .i64 (x.1 : Int), .int .u32 x.2] := by simp [ecells]
theorem tcells_snoc (T : List Nat) (x : Nat) : tcells (T ++ [x]) = tcells T ++ [.int .i64 (x : Int)] := by simp [tcells]
theorem ecells_get {E : List (Nat × Int)} {i : Nat} (h : i < E.length) : (ecells E)[i * 2]? = some (.int .i64 ((en E i).1 : Int)) ∧ (ecells E)[i * 2 + 1]? = some (.int .u32 (en E i).2) := by
  induction E generalizing i with
  | nil => simp at h
  | cons y r ih =>
    cases i with
    | zero => simp [ecells, en]
    | succ i =>
      have := ih (i := i) (by simpa using h)
      have e : ecells (y :: r) = .int .i64 (y.1 : Int) :: .int .u32 y.2 :: ecells r := by simp [ecells]
      have e2 : en (y :: r) (i + 1) = en r i := by simp [en]
      rw [e, e2, show (i + 1) * 2 = i * 2 + 2 by omega, show i * 2 + 2 + 1 = (i * 2 + 1) + 2 by omega]
      simpa using this
theorem tcells_get {T : List Nat} {i : Nat} (h : i < T.length) : (tcells T)[i]? = some (.int .i64 (tn T i : Int)) := by simp [tcells, tn, h]
/-- What the map answers. -/
def plf (E : List (Nat × Int)) : Int → Option Value := fun x => (E.findIdx? (fun e => (e.1 : Int) == x)).map fun i => .int .i64 (i : Int)
structure HpAt (w : World) (L : Les) (p : Hp) (E : List (Nat × Int)) (T : List Nat) (N B : Nat) : Prop where
  head : w.heap[p.h]? = some (.cells (hpc L p.h (N : Int) p.ve p.vl p.mb).toArray 198 (0, 0))
  ent : w.ownsRow 0 208 2 p.ve E.length (ecells E)
  lst : w.ownsRow 0 3 1 p.vl T.length (tcells T)
  map : MapAt w Tryz.prog 3 p.mb B (plf E)
  inv : L.I w
  off : ∀ i, p.own i → ¬ L.F i
theorem row_same {w w' : World} {e : TypeId} {size : Nat} {v : Value} {n : Nat} {xs : List Value} (h : w.ownsRow 0 e size v n xs) (hb : ∀ g, v.ownBlock = some g → w'.heap[g]? = w.heap[g]?) : w'.ownsRow 0 e size v n xs := by
  obtain ⟨h1, h⟩ := h
  refine ⟨h1, ?_⟩
  rcases h with h | ⟨g, cap, cur, rfl, h2, h3, h4⟩
  · exact Or.inl h
  · exact Or.inr ⟨g, cap, cur, rfl, h2, (hb g rfl).trans h3, h4⟩
theorem en_mem {E : List (Nat × Int)} {i : Nat} (h : i < E.length) : en E i ∈ E := by
  unfold en
  rw [List.getElem?_eq_getElem h]
  exact List.getElem_mem h
section
variable {w w' : World} {L : Les} {p : Hp} {E : List (Nat × Int)} {T : List Nat} {N B : Nat}
theorem HpAt.lt (h : HpAt w L p E T N B) : ∀ i, p.own i → i < w.heap.size := by
  rintro i (rfl | hi | hi | rfl)
  · exact row_lt h.head
  · exact (h.ent.lt i hi).2
  · exact (h.lst.lt i hi).2
  · exact h.map.lt
/-- What happens elsewhere leaves it as it is. -/
theorem HpAt.far {X : Nat → Prop} (h : HpAt w L p E T N B) (k : Kept w w' X) (hX : ∀ i, p.own i → ¬ X i) (hI : L.I w') : HpAt w' L p E T N B :=
  ⟨k.at h.head (hX _ (.inl rfl)), row_same h.ent (fun g hg => k.block g (h.lt g (.inr (.inl hg))) (hX g (.inr (.inl hg)))), row_same h.lst (fun g hg => k.block g (h.lt g (.inr (.inr (.inl hg)))) (hX g (.inr (.inr (.inl hg))))), h.map.same (k.block _ h.map.lt (hX _ (.inr (.inr (.inr rfl))))), hI, h.off⟩
theorem HpAt.less (hL : L.Ok) (h : HpAt w L p E T N B) (k : Kept w w' L.S) (hI : L.I w') : HpAt w' L p E T N B := h.far k (fun i hi e => h.off i hi (hL.sub i e)) hI
theorem HpAt.then (hL : L.Ok) (h : HpAt w L p E T N B) (g : w.grownBy w' none) : HpAt w' L p E T N B :=
  h.far (X := fun _ => False) (Kept.new g _) (fun _ _ e => e) (hL.keep w w' (fun _ => False) h.inv (Kept.new g _) (fun _ e => e.elim))
/-- A row that is not empty: where it lies. -/
theorem own_row {w : World} {e : TypeId} {size : Nat} {v : Value} {n : Nat} {xs : List Value} (h : w.ownsRow 0 e size v n xs) (hn : 0 < n) : ∃ g cap, ∃ cur : List Value, v = .slice (some ⟨g, 0, none⟩) n cap ∧ w.heap[g]? = some (.cells cur.toArray e (0, 0)) ∧ n ≤ cap ∧ cap ≤ maxLen ∧ cur.length = cap * size ∧ cur.take (n * size) = xs := by
  rcases h.2 with ⟨_, h0⟩ | ⟨g, cap, cur, hv, hb, hg, hn, hm, hs, ht⟩
  · omega
  · exact ⟨g, cap, cur.toList, hv, by simpa using hg, hn, hm, by simpa using hs, ht⟩
theorem own_cell {w : World} {g : Nat} {cur xs : List Value} {e : TypeId} {n : Nat} (hg : w.heap[g]? = some (.cells cur.toArray e (0, 0))) (ht : cur.take n = xs) {j : Nat} {u : Value} (h : xs[j]? = some u) : w.cell? ⟨g, j, none⟩ = some u := by
  rw [cell_row hg]
  rw [← ht, List.getElem?_take] at h
  split at h
  · exact h
  · cases h
theorem HpAt.cells (h : HpAt w L p E T N B) : w.cell? ⟨p.h, 0, none⟩ = some (.pointer (some ⟨p.h, 0, none⟩)) ∧ w.cell? ⟨p.h, 1, none⟩ = some L.fv ∧ w.cell? ⟨p.h, 2, none⟩ = some (.bool false) ∧ w.cell? ⟨p.h, 3, none⟩ = some (.int .i64 (N : Int)) ∧ w.cell? ⟨p.h, 4, none⟩ = some p.ve ∧ w.cell? ⟨p.h, 5, none⟩ = some p.vl ∧ w.cell? ⟨p.h, 6, none⟩ = some (.map (some p.mb)) :=
  ⟨cell_row h.head 0, cell_row h.head 1, cell_row h.head 2, cell_row h.head 3, cell_row h.head 4, cell_row h.head 5, cell_row h.head 6⟩
theorem two_new (w : World) (a b c d : Value) (t : TypeId) {w2 : World} (h : ((w.alloc (.cells #[a, b] t)).alloc (.cells #[c, d] t)).drew = w2) : w.grownBy w2 none ∧ w2.cell? ⟨w.heap.size, 0, none⟩ = some a ∧ w2.cell? ⟨w.heap.size, 1, none⟩ = some b ∧ w2.cell? ⟨w.heap.size + 1, 0, none⟩ = some c ∧ w2.cell? ⟨w.heap.size + 1, 1, none⟩ = some d := by
  subst h
  have g1 := World.grownBy_alloc w (.cells #[a, b] t) none
  have g2 := World.grownBy_alloc (w.alloc (.cells #[a, b] t)) (.cells #[c, d] t) none
  have b1 : (w.alloc (.cells #[a, b] t)).heap[w.heap.size]? = some (.cells [a, b].toArray t (0, 0)) := heap_alloc_new w _
  have b2 : ((w.alloc (.cells #[a, b] t)).alloc (.cells #[c, d] t)).heap[(w.alloc (.cells #[a, b] t)).heap.size]? = some (.cells [c, d].toArray t (0, 0)) := heap_alloc_new _ _
  have b1' := (g2.block _ (row_lt b1) (by simp)).trans b1
  rw [World.size_alloc] at b2
  exact ⟨grown_trans (grown_trans g1 g2) (grown_drew _ none), cell_row b1' 0, cell_row b1' 1, cell_row b2 0, cell_row b2 1⟩
set_option maxHeartbeats 2000000 in
theorem ahead_any (hL : L.Ok) (h : HpAt w L p E T N B) (a b : Nat) (ha : a < E.length) (hb : b < E.length) (hok : ∀ e ∈ E, L.ok e.2) :
    Calls Tryz.prog 161 #[.pointer (some ⟨p.h, 0, none⟩), .int .i64 (a : Int), .int .i64 (b : Int)] w fun e w' => e = .returned (.bool (ah L.lt (en E a) (en E b))) ∧ L.I w' ∧ Kept w w' L.S := by
  obtain ⟨-, -, -, -, c4, -, -⟩ := h.cells
  obtain ⟨g, cap, cur, hv, hg, hn, hm, hs, ht⟩ := own_row h.ent (by omega)
  rw [hv] at c4
  have a0 := own_cell hg ht (ecells_get ha).1
  have a1 := own_cell hg ht (ecells_get ha).2
  have b0 := own_cell hg ht (ecells_get hb).1
  have b1 := own_cell hg ht (ecells_get hb).2
  obtain ⟨n, hnn⟩ : ∃ n, n = E.length := ⟨_, rfl⟩
  have ha' := ha
  have hb' := hb
  rw [← hnn] at ha hb c4 hn
  have HI := hide (And.intro h hnn)
  have gz1 : ¬ g = w.heap.size := by have := row_lt hg; omega
  have gz2 : ¬ g = w.heap.size + 1 := by have := row_lt hg; omega
  have pz1 : ¬ p.h = w.heap.size := by have := row_lt h.head; omega
  have pz2 : ¬ p.h = w.heap.size + 1 := by have := row_lt h.head; omega
  have x0 : ∀ u v, (w.alloc (.cells #[u, v] 208)).cell? ⟨p.h, 4, none⟩ = some (Value.slice (some ⟨g, 0, none⟩) n cap) := fun u v => (World.grownBy_alloc w (.cells #[u, v] 208) none).cell c4 (by simp)
  have y0 : ∀ u v u2 v2, ((w.alloc (.cells #[u, v] 208)).alloc (.cells #[u2, v2] 208)).cell? ⟨p.h, 4, none⟩ = some (Value.slice (some ⟨g, 0, none⟩) n cap) := fun u v u2 v2 => (World.grownBy_alloc _ (.cells #[u2, v2] 208) none).cell (x0 u v) (by simp)
  have x1 : ∀ u v, (w.alloc (.cells #[u, v] 208)).cell? ⟨g, a * 2, none⟩ = some (.int .i64 ((en E a).1 : Int)) := fun u v => (World.grownBy_alloc w (.cells #[u, v] 208) none).cell a0 (by simp)
  have y1 : ∀ u v u2 v2, ((w.alloc (.cells #[u, v] 208)).alloc (.cells #[u2, v2] 208)).cell? ⟨g, a * 2, none⟩ = some (.int .i64 ((en E a).1 : Int)) := fun u v u2 v2 => (World.grownBy_alloc _ (.cells #[u2, v2] 208) none).cell (x1 u v) (by simp)
  have x2 : ∀ u v, (w.alloc (.cells #[u, v] 208)).cell? ⟨g, a * 2 + 1, none⟩ = some (.int .u32 (en E a).2) := fun u v => (World.grownBy_alloc w (.cells #[u, v] 208) none).cell a1 (by simp)
  have y2 : ∀ u v u2 v2, ((w.alloc (.cells #[u, v] 208)).alloc (.cells #[u2, v2] 208)).cell? ⟨g, a * 2 + 1, none⟩ = some (.int .u32 (en E a).2) := fun u v u2 v2 => (World.grownBy_alloc _ (.cells #[u2, v2] 208) none).cell (x2 u v) (by simp)
  have x3 : ∀ u v, (w.alloc (.cells #[u, v] 208)).cell? ⟨g, b * 2, none⟩ = some (.int .i64 ((en E b).1 : Int)) := fun u v => (World.grownBy_alloc w (.cells #[u, v] 208) none).cell b0 (by simp)
  have y3 : ∀ u v u2 v2, ((w.alloc (.cells #[u, v] 208)).alloc (.cells #[u2, v2] 208)).cell? ⟨g, b * 2, none⟩ = some (.int .i64 ((en E b).1 : Int)) := fun u v u2 v2 => (World.grownBy_alloc _ (.cells #[u2, v2] 208) none).cell (x3 u v) (by simp)
  have x4 : ∀ u v, (w.alloc (.cells #[u, v] 208)).cell? ⟨g, b * 2 + 1, none⟩ = some (.int .u32 (en E b).2) := fun u v => (World.grownBy_alloc w (.cells #[u, v] 208) none).cell b1 (by simp)
  have y4 : ∀ u v u2 v2, ((w.alloc (.cells #[u, v] 208)).alloc (.cells #[u2, v2] 208)).cell? ⟨g, b * 2 + 1, none⟩ = some (.int .u32 (en E b).2) := fun u v u2 v2 => (World.grownBy_alloc _ (.cells #[u2, v2] 208) none).cell (x4 u v) (by simp)
  clear h hnn hg ht hv hs
  have HO : Hid (L.ok (en E a).2 ∧ L.ok (en E b).2) := ⟨hok _ (en_mem ha'), hok _ (en_mem hb')⟩
  have HAsk : Hid (∀ (w2 : World) (x y : Int), w.grownBy w2 none → L.ok x → L.ok y → Calls Tryz.prog 176 #[.pointer (some ⟨p.h, 0, none⟩), .int .u32 x, .int .u32 y] w2 fun e w' => e = .returned (.bool (L.lt x y)) ∧ L.I w' ∧ Kept w w' L.S) := by
    intro w2 x y hg hx hy
    refine (ask_any L hL p.h N p.ve p.vl p.mb x y w2 (HI.out.1.then hL hg).head (HI.out.1.then hL hg).inv hx hy (HI.out.1.off _ (.inl rfl))).mono ?_
    rintro e w' ⟨rfl, h1, h2⟩
    exact ⟨rfl, h1, (Kept.new hg _).trans h2 (fun _ _ e => e)⟩
  clear hok
  generalize hX : en E a = X at *
  generalize hY : en E b = Y at *
  obtain ⟨r, hr⟩ : ∃ r, r = ah L.lt X Y := ⟨_, rfl⟩
  rw [← hr]
  have HR := hide hr
  clear hr hX hY
  go_enter Tryz.func161, Tryz.ntmps161
  go_wp2
  go_region
  all_goals
    clear c4 a0 a1 b0 b1 x0 x1 x2 x3 x4 y0 y1 y2 y3 y4
    generalize hw2 : (World.alloc (World.alloc w _) _).drew = w2
    obtain ⟨g2, d0, d1, d2, d3⟩ := two_new w _ _ _ _ _ hw2
    have HG := hide g2
    clear g2 hw2
    by_cases hlt : (X.1 : Int) < (Y.1 : Int)
    · have hr2 : r = !(L.lt Y.2 X.2) := by rw [HR.out]; unfold ah; rw [if_pos (by omega)]
      have HR2 := hide hr2
      clear hr2
      go_wp2_with fail
      refine (HAsk.out w2 _ _ HG.out HO.out.2 HO.out.1).mono ?_
      rintro e w3 ⟨rfl, h1, h2⟩
      generalize L.lt Y.2 X.2 = q at *
      go_wp2
      go_ret
      exact ⟨by rw [HR2.out]; rfl, h1, h2⟩
    · have hr2 : r = L.lt X.2 Y.2 := by rw [HR.out]; unfold ah; rw [if_neg (by omega)]
      have HR2 := hide hr2
      clear hr2
      go_wp2_with fail
      refine (HAsk.out w2 _ _ HG.out HO.out.1 HO.out.2).mono ?_
      rintro e w3 ⟨rfl, h1, h2⟩
      generalize L.lt X.2 Y.2 = q at *
      go_wp2
      go_ret
      exact ⟨by rw [HR2.out]; rfl, h1, h2⟩
end
end Go.Proofs.YtinkkocleognbaaGreatDoor.Hp
/- From a place up to the top. -/
namespace Go.Proofs.YtinkkocleognbaaGreatDoor.Hp
open Go.RowKit
attribute [local go_sem ↓] Go.wp_at_zero Go.wp_at_succ
theorem above_any (j : Nat) (w : World) (h1 : j < 1000000000) : Calls Tryz.prog 160 #[.int .i64 (j : Int)] w fun e w' => e = .returned (.int .i64 (((((j + 1) / 2 : Nat) : Int)) - 1)) ∧ w' = w := by
  have e1 : ((j : Int) + 1).tdiv 2 = (((j + 1) / 2 : Nat) : Int) := by rw [Int.tdiv_eq_ediv_of_nonneg (by omega)]; omega
  go_enter Tryz.func160, Tryz.ntmps160
  go_wp2
  go_ret
  exact ⟨rfl, rfl⟩
section
variable {w w' : World} {L : Les} {p : Hp} {E : List (Nat × Int)} {T : List Nat} {N B : Nat}
theorem tcells_set {T : List Nat} {i x : Nat} : tcells (T.set i x) = (tcells T).set i (.int .i64 (x : Int)) := by simp [tcells, List.map_set]
/-- A place's least one, written. -/
theorem HpAt.put (hL : L.Ok) (h : HpAt w L p E T N B) {g cap : Nat} (hv : p.vl = .slice (some ⟨g, 0, none⟩) T.length cap) {j : Nat} (hj : j < T.length) (x : Nat) : HpAt (w.setCell ⟨g, j, none⟩ (.int .i64 (x : Int))) L p E (T.set j x) N B ∧ Kept w (w.setCell ⟨g, j, none⟩ (.int .i64 (x : Int))) (fun i => p.vl.ownBlock = some i) := by
  obtain ⟨g', cap', cur, hv', hg, hn, hm, hs, ht⟩ := own_row h.lst (by omega)
  rw [hv] at hv'
  cases hv'
  have hown : p.vl.ownBlock = some g := by rw [hv]; rfl
  have k0 := kept_setCell w g j (.int .i64 (x : Int))
  have k1 : Kept w (w.setCell ⟨g, j, none⟩ (.int .i64 (x : Int))) (fun i => p.vl.ownBlock = some i) := k0.mono (fun i _ e => by rw [e]; exact hown)
  have hgh : g ≠ p.h := fun e => by have := h.head; rw [← e, hg] at this; simp at this
  have hgm : g ≠ p.mb := fun e => by obtain ⟨es, ck, hm⟩ := h.map.block; rw [← e, hg] at hm; cases hm
  refine ⟨⟨k0.at h.head (fun e => hgh e.symm), row_same h.ent (fun q hq => k0.block q (h.ent.lt q hq).2 (fun e => ?_)), ?_, h.map.same (k0.block _ h.map.lt (fun e => hgm e.symm)), hL.keep _ _ _ h.inv k0 (fun i e => by rw [e]; exact h.off _ (.inr (.inr (.inl hown)))), h.off⟩, k1⟩
  · subst e
    rcases h.ent.2 with ⟨hq2, _⟩ | ⟨g2, c2, cu2, hq2, hq3, hq4, _⟩
    · rw [hq2] at hq; cases hq
    · rw [hq2] at hq; cases hq; rw [hg] at hq4; simp at hq4
  · rw [List.length_set]
    refine ⟨by simp [tcells_length], Or.inr ⟨g, cap, (cur.set j (.int .i64 (x : Int))).toArray, hv, Nat.zero_le _, row_setCell hg j _, hn, hm, by simpa using hs, ?_⟩⟩
    rw [tcells_set, ← ht]
    simp [List.take_set]
set_option maxHeartbeats 4000000 in
theorem settle_any (hL : L.Ok) (h : HpAt w L p E T N B) (hT : T.length = E.length) (hE : E.length ≤ 100000) (k : Nat) (hk : k ≤ E.length) (hin : ∀ b, b < E.length → ¬ Pth k b → tn T b < E.length) (hok : ∀ e ∈ E, L.ok e.2) :
    Calls Tryz.prog 148 #[.pointer (some ⟨p.h, 0, none⟩), .int .i64 ((k : Int) - 1)] w fun e w' => e = .returned (.tuple #[]) ∧ HpAt w' L p E (stl L.lt E T k) N B ∧ Kept w w' (fun i => L.S i ∨ p.vl.ownBlock = some i) := by
  have HO := hide (And.intro hok hin)
  have HT := hide hT
  have HH := hide h
  clear hok h hT hin
  generalize hn : E.length = n at *
  have HN := hide hn
  clear hn
  go_enter Tryz.func148, Tryz.ntmps148
  go_wp2
  go_loopg [1] k (fun q v wr => v = .int .i64 ((q : Int) - 1) ∧ q ≤ n ∧ Hid (∃ Tr, Tr.length = n ∧ HpAt wr L p E Tr N B ∧ stl L.lt E Tr q = stl L.lt E T k ∧ (∀ b, b < n → ¬ Pth q b → tn Tr b < n) ∧ Kept w wr (fun i => L.S i ∨ p.vl.ownBlock = some i)))
  case atStart => exact ⟨rfl, hk, T, HT.out, HH.out, rfl, HO.out.2, Kept.refl _ _⟩
  case round =>
    obtain ⟨rfl, hqn, HR⟩ := hrel
    rcases Nat.eq_zero_or_pos gk with hz | hz
    · subst hz
      go_wp2
      go_end0
      obtain ⟨Tr, h1, h2, h3, h4, h5⟩ := HR.out
      rw [stl_zero] at h3
      rw [h3] at h2
      exact ⟨rfl, h2, h5⟩
    · obtain ⟨j, rfl⟩ : ∃ j, gk = j + 1 := ⟨gk - 1, by omega⟩
      rw [show (((j + 1 : Nat) : Int)) - 1 = (j : Int) by omega]
      obtain ⟨Tr, h1, h2, h3, h4, h5⟩ := HR.out
      have HR1 := hide (And.intro h1 (And.intro h2 (And.intro h3 (And.intro h4 h5))))
      clear HR h1 h2 h3 h4 h5
      go_wp2
      go_loopg [4, 5] 2 (fun q l v ws => Hid (HpAt ws L p E Tr N B ∧ Kept wr ws L.S) ∧ ∃ b m : Nat, v = .int .i64 (b : Int) ∧ l = .int .i64 (m : Int) ∧ Hid ((q = 2 ∧ b = 2 * j + 1 ∧ m = j) ∨ (q = 1 ∧ 2 * j + 1 < n ∧ b = 2 * j + 2 ∧ m = lwA L.lt E Tr j) ∨ (q = 0 ∧ 2 * j + 2 < n ∧ b = 2 * j + 3 ∧ m = lw L.lt E Tr j)))
      case atStart => exact ⟨⟨HR1.out.2.1, Kept.refl _ _⟩, 2 * j + 1, j, by simp, rfl, .inl ⟨rfl, rfl, rfl⟩⟩
      case round =>
        obtain ⟨HS, b, m, rfl, rfl, HB⟩ := hrel
        have hb1 : 2 * j + 1 ≤ b ∧ b ≤ 2 * j + 3 ∧ b = 2 * j + 3 - gk ∧ gk ≤ 2 := by rcases HB.out with ⟨e1, e2, _⟩ | ⟨e1, _, e2, _⟩ | ⟨e1, _, e2, _⟩ <;> omega
        obtain ⟨hb1, hb2, hb3, hb4⟩ := hb1
        have HB3 := hide hb3
        clear hb3
        have hsub : ∀ c, 2 * j + 1 ≤ c → c < n → tn Tr c < n := fun c h1 h2 => HR1.out.2.2.2.1 c h2 (fun e => by have := e.le; omega)
        have hmn : m < n := by
          rcases HB.out with ⟨_, _, e3⟩ | ⟨_, e0, _, e3⟩ | ⟨_, e0, _, e3⟩
          · omega
          · rw [e3]
            rcases lwA_or (lt := L.lt) (E := E) (T := Tr) j with e | ⟨e1, e2⟩
            · rw [e]; omega
            · rw [e2]; exact hsub _ (by omega) e0
          · rw [e3]
            rcases lw_or (lt := L.lt) (E := E) (T := Tr) j with e | ⟨e1, e2⟩ | ⟨e1, e2⟩
            · rw [e]; omega
            · rw [e2]; exact hsub _ (by omega) (by omega)
            · rw [e2]; exact hsub _ (by omega) e0
        obtain ⟨-, -, -, -, c4, c5, -⟩ := HS.out.1.cells
        obtain ⟨ge, cape, cure, hve, -, -, -, -, -⟩ := own_row HS.out.1.ent (by have := HN.out; omega)
        obtain ⟨gl, capl, curl, hvl, hgl, hnl, -, -, htl⟩ := own_row HS.out.1.lst (by have := HR1.out.1; omega)
        rw [hve, HN.out] at c4
        rw [hvl, HR1.out.1] at c5
        rw [HR1.out.1] at hnl
        by_cases hbn : b < n ∧ b < 2 * j + 3
        · obtain ⟨hbn, hbj⟩ := hbn
          have cb := own_cell hgl htl (tcells_get (T := Tr) (i := b) (by have := HR1.out.1; omega))
          have htb := hsub b hb1 hbn
          have hah := ahead_any hL HS.out.1 (tn Tr b) m (by rw [HN.out]; exact htb) (by rw [HN.out]; exact hmn) HO.out.1
          have HL := hide (And.intro hvl hgl)
          clear hve hvl hgl htl hsub
          generalize htb2 : tn Tr b = tb at *
          have HTB := hide htb2
          clear htb2
          have hstep : ∀ m', m' = lw1 L.lt E Tr m b → (gk - 1 = 2 ∧ b + 1 = 2 * j + 1 ∧ m' = j) ∨ (gk - 1 = 1 ∧ 2 * j + 1 < n ∧ b + 1 = 2 * j + 2 ∧ m' = lwA L.lt E Tr j) ∨ (gk - 1 = 0 ∧ 2 * j + 2 < n ∧ b + 1 = 2 * j + 3 ∧ m' = lw L.lt E Tr j) := by
            intro m' hm'
            rcases HB.out with ⟨e1, e2, e3⟩ | ⟨e1, e0, e2, e3⟩ | ⟨e1, _, e2, e3⟩
            · refine .inr (.inl ⟨by omega, by omega, by omega, ?_⟩)
              unfold lwA
              rw [if_pos (by rw [HN.out]; omega), hm', e2, e3]
            · refine .inr (.inr ⟨by omega, by omega, by omega, ?_⟩)
              unfold lw
              rw [if_pos (by rw [HN.out]; omega), hm', e2, e3]
            · omega
          have HSt := hide hstep
          clear hstep
          by_cases hm3 : n < 2 * j + 3
          all_goals
            go_wp2_with fail
            refine hah.mono ?_
            clear hah
            rintro e w3 ⟨rfl, hI3, hk3⟩
            have HS3 : Hid (HpAt w3 L p E Tr N B ∧ Kept wr w3 L.S) := ⟨HS.out.1.less hL hk3 hI3, hk3⟩
            have HK := hide (HS.out.2.trans hk3 (fun _ _ e => e))
            clear hI3 hk3 c4 c5 cb
            cases hr : ah L.lt (en E tb) (en E m) with
            | true =>
              have HM := hide (HSt.out tb (by unfold lw1; rw [HTB.out, hr]; rfl))
              clear hr
              go_wp2
              go_roundg (gk - 1)
              case measure => have := HB3.out; omega
              case rel => exact ⟨⟨HS3.out.1, HK.out⟩, b + 1, tb, by simp, rfl, HM.out⟩
            | false =>
              have HM := hide (HSt.out m (by unfold lw1; rw [HTB.out, hr]; rfl))
              clear hr
              go_wp2
              go_roundg (gk - 1)
              case measure => have := HB3.out; omega
              case rel => exact ⟨⟨HS3.out.1, HK.out⟩, b + 1, m, by simp, rfl, HM.out⟩
        · have hml : m = lw L.lt E Tr j := by
            rcases HB.out with ⟨e1, e2, e3⟩ | ⟨e1, e0, e2, e3⟩ | ⟨e1, _, e2, e3⟩
            · unfold lw lwA
              rw [if_neg (by rw [HN.out]; omega), if_neg (by rw [HN.out]; omega)]
              exact e3
            · unfold lw
              rw [if_neg (by rw [HN.out]; omega)]
              exact e3
            · exact e3
          have cj := own_cell hgl htl (tcells_get (T := Tr) (i := j) (by have := HR1.out.1; omega))
          have fj : wr.frozen? ⟨gl, j, none⟩ = false := free_row hgl j
          have hput := HpAt.put hL HS.out.1 hvl (j := j) (by have := HR1.out.1; omega) m
          have HP := hide hput
          have HML := hide hml
          clear hput hml hve hvl hgl htl hsub HB
          have hjn : j < n := by omega
          have hnot : ¬ b < n ∨ ¬ b < 2 * j + 3 := by omega
          clear hbn
          by_cases hm3 : n < 2 * j + 3
          case' pos =>
            have hnb : ¬ b < n := by omega
          case' neg =>
            have hnb : ¬ b < 2 * j + 3 := by omega
          all_goals
            clear hnot
            have hab := above_any j (wr.setCell ⟨gl, j, none⟩ (.int .i64 (m : Int))) (by omega)
            generalize hk2 : (j + 1) / 2 = k2 at *
            have HK2 := hide hk2
            clear hk2
            go_wp2_with fail
            refine hab.mono ?_
            clear hab cj fj c4 c5
            rintro e w4 ⟨rfl, hw4⟩
            have HW := hide hw4
            clear hw4
            go_wp2
            go_roundg k2
            case measure => have := HK2.out; omega
            case rel =>
              refine ⟨rfl, by have := HK2.out; omega, Tr.set j m, by rw [List.length_set]; exact HR1.out.1, by rw [HW.out]; exact HP.out.1, ?_, ?_, ?_⟩
              · rw [← HR1.out.2.2.1, stl_step _ _ _ (Nat.succ_pos j), HML.out, HK2.out]
                rfl
              · intro c hc hp
                by_cases hcj : j = c
                · subst hcj
                  rw [tn_set_self (by rw [HR1.out.1]; exact hc)]
                  exact hmn
                · rw [tn_set_other hcj]
                  refine HR1.out.2.2.2.1 c hc (fun e => ?_)
                  rcases e.cases with e | e
                  · omega
                  · rw [HK2.out] at e; exact hp e
              · rw [HW.out]
                exact (HR1.out.2.2.2.2.trans HS.out.2 (fun _ _ e => .inl e)).trans HP.out.2 (fun _ _ e => .inr e)
end
end Go.Proofs.YtinkkocleognbaaGreatDoor.Hp
/- What is asked of a heap. -/
namespace Go.Proofs.YtinkkocleognbaaGreatDoor.Hp
open Go.RowKit
attribute [local go_sem ↓] Go.wp_at_zero Go.wp_at_succ
/-- Where the item of a handle lies. -/
def fi (E : List (Nat × Int)) (x : Int) : Option Nat := E.findIdx? (fun e => (e.1 : Int) == x)
theorem fi_lt {E : List (Nat × Int)} {x : Int} {i : Nat} (h : fi E x = some i) : i < E.length ∧ ((en E i).1 : Int) = x := by
  unfold fi at h
  rw [List.findIdx?_eq_some_iff_getElem] at h
  obtain ⟨h1, h2, _⟩ := h
  refine ⟨h1, ?_⟩
  unfold en
  rw [List.getElem?_eq_getElem h1]
  simpa using h2
theorem wf_i64 {s : Int} (h0 : -9223372036854775808 ≤ s) (h1 : s ≤ 9223372036854775807) : (Lit.int .i64 s).wf = true := by
  simp [Lit.wf, IntKind.min, IntKind.max, IntKind.signed, IntKind.bits]; omega
theorem zero3 (w : World) : (zeroValue 3).run Tryz.prog w = .ok (.int .i64 0) w := by kernel_rfl
section
variable {w w' : World} {L : Les} {p : Hp} {E : List (Nat × Int)} {T : List Nat} {N B : Nat}
theorem own_form {w : World} {e : TypeId} {sz n : Nat} {v : Value} {xs : List Value} (h : w.ownsRow 0 e sz v n xs) : ∃ vo cap, v = .slice vo n cap ∧ n ≤ cap := by
  rcases h.2 with ⟨rfl, rfl⟩ | ⟨g, cap, cur, hv, hb, hg, hn, _⟩
  · exact ⟨none, 0, rfl, Nat.le_refl _⟩
  · exact ⟨_, cap, hv, hn⟩
set_option maxRecDepth 20000 in
theorem none_at (h : HpAt w L p E T N B) : Calls Tryz.prog 147 #[.pointer (some ⟨p.h, 0, none⟩)] w fun e w' => e = .returned (.bool false) ∧ w' = w := by
  obtain ⟨c0, -, c2, -, -, -, -⟩ := h.cells
  have hsome : (Tryz.prog.info? 198).isSome = true := by kernel_rfl
  obtain ⟨j, hj⟩ := Option.isSome_iff_exists.1 hsome
  have hs := Go.Lib.run_neq_ptr_same (P := Tryz.prog) (tp := 34) (te := 198) w ⟨p.h, 0, none⟩ Tryz.underlying34 hj
  clear h hsome hj
  go_enter Tryz.func147, Tryz.ntmps147
  go_wp2
  go_ret
  exact ⟨rfl, rfl⟩
theorem len_at (h : HpAt w L p E T N B) : Calls Tryz.prog 158 #[.pointer (some ⟨p.h, 0, none⟩)] w fun e w' => e = .returned (.int .i64 (E.length : Int)) ∧ w' = w := by
  obtain ⟨-, -, -, -, c4, -, -⟩ := h.cells
  obtain ⟨vo, cap, hv, -⟩ := own_form h.ent
  rw [hv] at c4
  have hn := none_at h
  clear h hv
  generalize E.length = n at *
  go_enter Tryz.func158, Tryz.ntmps158
  go_wp2_with (go_at_call 147; refine hn.mono ?_; rintro e w1 ⟨rfl, rfl⟩)
  go_wp2
  go_ret
  exact ⟨rfl, rfl⟩
theorem find_at (h : HpAt w L p E T N B) (x : Int) (hx : (Lit.int .i64 x).wf = true) : Calls Tryz.prog 154 #[.pointer (some ⟨p.h, 0, none⟩), .int .i64 x] w fun e w' => e = .returned (.tuple #[.int .i64 (((fi E x).getD 0 : Nat) : Int), .bool (fi E x).isSome]) ∧ w' = w := by
  obtain ⟨-, -, -, -, -, -, c6⟩ := h.cells
  have hn := none_at h
  have hl := h.map.look (by first | exact Tryz.underlying3 | kernel_rfl) Tryz.underlying195 (zero3 w) hx
  have e1 : ((plf E x).getD (.int .i64 0)) = .int .i64 (((fi E x).getD 0 : Nat) : Int) := by unfold plf fi; cases E.findIdx? _ <;> rfl
  have e2 : (plf E x).isSome = (fi E x).isSome := by unfold plf fi; cases E.findIdx? _ <;> rfl
  rw [e1, e2] at hl
  clear h e1 e2
  generalize (fi E x).getD 0 = i at *
  generalize (fi E x).isSome = b at *
  go_enter Tryz.func154, Tryz.ntmps154
  go_wp2_with (go_at_call 147; refine hn.mono ?_; rintro e w1 ⟨rfl, rfl⟩)
  go_wp2
  go_ret2
  exact ⟨rfl, rfl⟩
set_option maxHeartbeats 2000000 in
theorem least_at (h : HpAt w L p E T N B) (hT : T.length = E.length) (h0 : 0 < E.length → tn T 0 < E.length) : Calls Tryz.prog 144 #[.pointer (some ⟨p.h, 0, none⟩)] w fun e w' => e = .returned (.tuple #[.int .u32 (if 0 < E.length then (en E (tn T 0)).2 else 0), .int .i64 (if 0 < E.length then ((en E (tn T 0)).1 : Int) else 0), .bool (decide (0 < E.length))]) ∧ w.grownBy w' none := by
  obtain ⟨-, -, -, -, c4, c5, -⟩ := h.cells
  have hl := len_at h
  by_cases hz : 0 < E.length
  · simp only [hz, decide_true]
    obtain ⟨g, cap, cur, hv, hg, hn, -, -, ht⟩ := own_row h.ent hz
    obtain ⟨g2, cap2, cur2, hv2, hg2, hn2, -, -, ht2⟩ := own_row h.lst (by omega)
    rw [hv] at c4
    rw [hv2, hT] at c5
    have b0 := own_cell hg ht (ecells_get (h0 hz)).1
    have b1 := own_cell hg ht (ecells_get (h0 hz)).2
    have t0 := own_cell hg2 ht2 (tcells_get (T := T) (i := 0) (by omega))
    have hi := h0 hz
    have gz1 : ¬ g = w.heap.size := by have := row_lt hg; omega
    have gz2 : ¬ g2 = w.heap.size := by have := row_lt hg2; omega
    have pz1 : ¬ p.h = w.heap.size := by have := row_lt h.head; omega
    have x0 : ∀ u v, (w.alloc (.cells #[u, v] 208)).cell? ⟨p.h, 4, none⟩ = some (.slice (some ⟨g, 0, none⟩) E.length cap) := fun u v => (World.grownBy_alloc w (.cells #[u, v] 208) none).cell c4 (by simp)
    have x1 : ∀ u v, (w.alloc (.cells #[u, v] 208)).cell? ⟨p.h, 5, none⟩ = some (.slice (some ⟨g2, 0, none⟩) E.length cap2) := fun u v => (World.grownBy_alloc w (.cells #[u, v] 208) none).cell c5 (by simp)
    have x2 : ∀ u v, (w.alloc (.cells #[u, v] 208)).cell? ⟨g, tn T 0 * 2, none⟩ = some (.int .i64 ((en E (tn T 0)).1 : Int)) := fun u v => (World.grownBy_alloc w (.cells #[u, v] 208) none).cell b0 (by simp)
    have x3 : ∀ u v, (w.alloc (.cells #[u, v] 208)).cell? ⟨g, tn T 0 * 2 + 1, none⟩ = some (.int .u32 (en E (tn T 0)).2) := fun u v => (World.grownBy_alloc w (.cells #[u, v] 208) none).cell b1 (by simp)
    have x4 : ∀ u v, (w.alloc (.cells #[u, v] 208)).cell? ⟨g2, 0, none⟩ = some (.int .i64 (tn T 0 : Int)) := fun u v => (World.grownBy_alloc w (.cells #[u, v] 208) none).cell t0 (by simp)
    have hne : ((E.length : Int) == 0) = false := by simp; intro e; rw [e] at hz; simp at hz
    have hne2 : decide ((E.length : Int) = 0) = false := by simpa using hne
    clear h h0 hv hg ht hv2 hg2 ht2 hT
    generalize (en E (tn T 0)).2 = y at *
    generalize (en E (tn T 0)).1 = x at *
    generalize tn T 0 = i at *
    generalize E.length = n at *
    go_enter Tryz.func144, Tryz.ntmps144
    go_wp2_with (go_at_call 158; refine hl.mono ?_; rintro e w1 ⟨rfl, rfl⟩)
    go_region
    have g1 := World.grownBy_alloc w1 (.cells #[.int .i64 (x : Int), .int .u32 y] 208) none
    have nb : (w1.alloc (.cells #[.int .i64 (x : Int), .int .u32 y] 208)).drew.heap[w1.heap.size]? = some (.cells [Value.int .i64 (x : Int), .int .u32 y].toArray 208 (0, 0)) := heap_alloc_new w1 _
    have d0 := cell_row nb 0
    have d1 := cell_row nb 1
    have HG := hide (grown_trans g1 (grown_drew _ none))
    clear g1 nb c4 c5 x0 x1 x2 x3 x4 b0 b1 t0
    generalize (w1.alloc (.cells #[.int .i64 (x : Int), .int .u32 y] 208)).drew = w2 at *
    simp at d0 d1
    go_wp2
    go_quiet (fail)
    go_wp2
    go_ret3
    exact ⟨rfl, grown_trans HG.out (grown_drewN _ _ none)⟩
  · have hz0 : E.length = 0 := by omega
    rw [hz0] at hl ⊢
    clear h h0 hz c4 c5 hT
    go_enter Tryz.func144, Tryz.ntmps144
    go_wp2_with (go_at_call 158; refine hl.mono ?_; rintro e w1 ⟨rfl, rfl⟩)
    go_wp2
    go_ret3
    exact ⟨rfl, grown_refl _ _⟩
end
end Go.Proofs.YtinkkocleognbaaGreatDoor.Hp
/- An item goes. -/
namespace Go.Proofs.YtinkkocleognbaaGreatDoor.Hp
open Go.RowKit
attribute [local go_sem ↓] Go.wp_at_zero Go.wp_at_succ
/-- A heap in the midst of a change: its rows' cells, what its map answers. -/
structure HpR (w : World) (L : Les) (p : Hp) (ne : Nat) (cs : List Value) (nt : Nat) (ts : List Value) (N B : Nat) (f : Int → Option Value) : Prop where
  head : w.heap[p.h]? = some (.cells (hpc L p.h (N : Int) p.ve p.vl p.mb).toArray 198 (0, 0))
  ent : w.ownsRow 0 208 2 p.ve ne cs
  lst : w.ownsRow 0 3 1 p.vl nt ts
  map : MapAt w Tryz.prog 3 p.mb B f
  inv : L.I w
  off : ∀ i, p.own i → ¬ L.F i
section
variable {w w' : World} {L : Les} {p : Hp} {E : List (Nat × Int)} {T : List Nat} {N B : Nat} {ne nt : Nat} {cs ts : List Value} {f : Int → Option Value}
theorem HpAt.raw (h : HpAt w L p E T N B) : HpR w L p E.length (ecells E) T.length (tcells T) N B (plf E) := ⟨h.head, h.ent, h.lst, h.map, h.inv, h.off⟩
theorem HpR.lt (h : HpR w L p ne cs nt ts N B f) : ∀ i, p.own i → i < w.heap.size := by
  rintro i (rfl | hi | hi | rfl)
  · exact row_lt h.head
  · exact (h.ent.lt i hi).2
  · exact (h.lst.lt i hi).2
  · exact h.map.lt
theorem HpR.far {X : Nat → Prop} (h : HpR w L p ne cs nt ts N B f) (k : Kept w w' X) (hX : ∀ i, p.own i → ¬ X i) (hI : L.I w') : HpR w' L p ne cs nt ts N B f :=
  ⟨k.at h.head (hX _ (.inl rfl)), row_same h.ent (fun g hg => k.block g (h.lt g (.inr (.inl hg))) (hX g (.inr (.inl hg)))), row_same h.lst (fun g hg => k.block g (h.lt g (.inr (.inr (.inl hg)))) (hX g (.inr (.inr (.inl hg))))), h.map.same (k.block _ h.map.lt (hX _ (.inr (.inr (.inr rfl))))), hI, h.off⟩
theorem HpR.then (hL : L.Ok) (h : HpR w L p ne cs nt ts N B f) (g : w.grownBy w' none) : HpR w' L p ne cs nt ts N B f :=
  h.far (X := fun _ => False) (Kept.new g _) (fun _ _ e => e) (hL.keep w w' (fun _ => False) h.inv (Kept.new g _) (fun _ e => e.elim))
theorem row_block {w : World} {e : TypeId} {size : Nat} {v : Value} {n : Nat} {xs : List Value} (h : w.ownsRow 0 e size v n xs) {g : Nat} (hg : v.ownBlock = some g) : ∃ cur, w.heap[g]? = some (.cells cur e (0, 0)) := by
  rcases h.2 with ⟨hq2, _⟩ | ⟨g2, c2, cu2, hq2, hq3, hq4, _⟩
  · rw [hq2] at hg; cases hg
  · rw [hq2] at hg; cases hg; exact ⟨cu2, hq4⟩
theorem HpR.apart (h : HpR w L p ne cs nt ts N B f) : (∀ g, p.ve.ownBlock = some g → g ≠ p.h ∧ g ≠ p.mb ∧ p.vl.ownBlock ≠ some g) ∧ (∀ g, p.vl.ownBlock = some g → g ≠ p.h ∧ g ≠ p.mb ∧ p.ve.ownBlock ≠ some g) ∧ p.h ≠ p.mb := by
  obtain ⟨es, ck, hm⟩ := h.map.block
  have hh := h.head
  refine ⟨fun g hg => ?_, fun g hg => ?_, fun e => by rw [e, hm] at hh; cases hh⟩
  · obtain ⟨cur, hc⟩ := row_block h.ent hg
    refine ⟨fun e => ?_, fun e => ?_, fun e => ?_⟩
    · rw [← e, hc] at hh; simp at hh
    · rw [← e, hc] at hm; cases hm
    · obtain ⟨c2, h2⟩ := row_block h.lst e; rw [hc] at h2; simp at h2
  · obtain ⟨cur, hc⟩ := row_block h.lst hg
    refine ⟨fun e => ?_, fun e => ?_, fun e => ?_⟩
    · rw [← e, hc] at hh; simp at hh
    · rw [← e, hc] at hm; cases hm
    · obtain ⟨c2, h2⟩ := row_block h.ent e; rw [hc] at h2; simp at h2
/-- The map alone turned. -/
theorem HpR.mapped (hL : L.Ok) (h : HpR w L p ne cs nt ts N B f) {B' : Nat} {f' : Int → Option Value} (hg : w.grownBy w' (some p.mb)) (hm : MapAt w' Tryz.prog 3 p.mb B' f') : HpR w' L p ne cs nt ts N B' f' ∧ Kept w w' p.own := by
  obtain ⟨a1, a2, a3⟩ := h.apart
  have k : Kept w w' (fun i => i = p.mb) := Kept.of hg (fun j e _ => (Option.some.inj e).symm)
  exact ⟨⟨k.at h.head a3, row_same h.ent (fun g hg => k.block g (h.lt g (.inr (.inl hg))) (a1 g hg).2.1), row_same h.lst (fun g hg => k.block g (h.lt g (.inr (.inr (.inl hg)))) (a2 g hg).2.1), hm, hL.keep _ _ _ h.inv k (fun i e => by rw [e]; exact h.off _ (.inr (.inr (.inr rfl)))), h.off⟩, k.mono (fun i _ e => by rw [e]; exact .inr (.inr (.inr rfl)))⟩
/-- A cell of the entries is written. -/
theorem HpR.setE (hL : L.Ok) (h : HpR w L p ne cs nt ts N B f) {g cap : Nat} (hv : p.ve = .slice (some ⟨g, 0, none⟩) ne cap) (hne : 0 < ne) (j : Nat) (u : Value) : HpR (w.setCell ⟨g, j, none⟩ u) L p ne (cs.set j u) nt ts N B f ∧ Kept w (w.setCell ⟨g, j, none⟩ u) p.own := by
  obtain ⟨a1, a2, a3⟩ := h.apart
  obtain ⟨g', cap', cur, hv', hg, hn, hm, hs, ht⟩ := own_row h.ent hne
  rw [hv] at hv'
  cases hv'
  have hown : p.ve.ownBlock = some g := by rw [hv]; rfl
  have k := kept_setCell w g j u
  refine ⟨⟨k.at h.head (fun e => (a1 g hown).1 e.symm), ?_, row_same h.lst (fun q hq => k.block q (h.lt q (.inr (.inr (.inl hq)))) (fun e => (a1 g hown).2.2 (by rw [← e]; exact hq))), h.map.same (k.block _ h.map.lt (fun e => (a1 g hown).2.1 e.symm)), hL.keep _ _ _ h.inv k (fun i e => by rw [e]; exact h.off _ (.inr (.inl hown))), h.off⟩, k.mono (fun i _ e => by rw [e]; exact .inr (.inl hown))⟩
  refine ⟨by rw [List.length_set]; exact h.ent.1, Or.inr ⟨g, cap, (cur.set j u).toArray, hv, Nat.zero_le _, row_setCell hg j _, hn, hm, by simpa using hs, ?_⟩⟩
  rw [← ht]
  simp [List.take_set]
theorem row_cut {w : World} {e : TypeId} {size : Nat} {v : Value} {n : Nat} {xs : List Value} (h : w.ownsRow 0 e size v n xs) {m : Nat} (hm : m ≤ n) {g cap : Nat} (hv : v = .slice (some ⟨g, 0, none⟩) n cap) : w.ownsRow 0 e size (.slice (some ⟨g, 0, none⟩) m cap) m (xs.take (m * size)) := by
  refine ⟨by rw [List.length_take, h.1]; exact Nat.min_eq_left (Nat.mul_le_mul_right _ hm), ?_⟩
  rcases h.2 with ⟨h1, h0⟩ | ⟨g', cap', cur, hv', hb, hg, hn, hm', hs, ht⟩
  · rw [hv] at h1; cases h1
  · rw [hv] at hv'
    cases hv'
    refine Or.inr ⟨g, cap, cur, rfl, Nat.zero_le _, hg, by omega, hm', hs, ?_⟩
    rw [← ht, List.take_take, Nat.min_eq_left (Nat.mul_le_mul_right _ hm)]
/-- Both rows are cut. -/
theorem HpR.cut (hL : L.Ok) (h : HpR w L p ne cs nt ts N B f) {ge ce gl cl m : Nat} (hve : p.ve = .slice (some ⟨ge, 0, none⟩) ne ce) (hvl : p.vl = .slice (some ⟨gl, 0, none⟩) nt cl) (he : m ≤ ne) (hl : m ≤ nt) (hs : (w.setCell ⟨p.h, 4, none⟩ (.slice (some ⟨ge, 0, none⟩) m ce)).setCell ⟨p.h, 5, none⟩ (.slice (some ⟨gl, 0, none⟩) m cl) = w') :
    HpR w' L ⟨p.h, .slice (some ⟨ge, 0, none⟩) m ce, .slice (some ⟨gl, 0, none⟩) m cl, p.mb⟩ m (cs.take (m * 2)) m (ts.take m) N B f ∧ Kept w w' p.own := by
  obtain ⟨a1, a2, a3⟩ := h.apart
  subst hs
  have hoe : p.ve.ownBlock = some ge := by rw [hve]; rfl
  have hol : p.vl.ownBlock = some gl := by rw [hvl]; rfl
  have k := (kept_setCell w p.h 4 (.slice (some ⟨ge, 0, none⟩) m ce)).trans (kept_setCell _ p.h 5 (.slice (some ⟨gl, 0, none⟩) m cl)) (fun _ _ e => e)
  refine ⟨⟨row_setCell (row_setCell h.head 4 _) 5 _, ?_, ?_, h.map.same (k.block _ h.map.lt (fun e => a3 e.symm)), hL.keep _ _ _ h.inv k (fun i e => by rw [e]; exact h.off _ (.inl rfl)), ?_⟩, k.mono (fun i _ e => .inl e)⟩
  · exact row_cut (row_same h.ent (fun g hg => k.block g (h.lt g (.inr (.inl hg))) (a1 g hg).1)) he hve
  · have := row_cut (row_same h.lst (fun g hg => k.block g (h.lt g (.inr (.inr (.inl hg)))) (a2 g hg).1)) hl hvl
    rw [Nat.mul_one] at this
    exact this
  · rintro i (e | e | e | e)
    · exact h.off i (.inl e)
    · exact h.off i (.inr (.inl (by rw [hoe]; exact e)))
    · exact h.off i (.inr (.inr (.inl (by rw [hol]; exact e))))
    · exact h.off i (.inr (.inr (.inr e)))
theorem HpR.cells (h : HpR w L p ne cs nt ts N B f) : w.cell? ⟨p.h, 4, none⟩ = some p.ve ∧ w.cell? ⟨p.h, 5, none⟩ = some p.vl ∧ w.cell? ⟨p.h, 6, none⟩ = some (.map (some p.mb)) := ⟨cell_row h.head 4, cell_row h.head 5, cell_row h.head 6⟩
theorem slice_E (ao : Option Addr) (len cap n : Nat) (h : n ≤ cap) (w : World) : (Instr.slice 196 (.slice ao len cap) none (some (.int .i64 (n : Int))) none).run Tryz.prog w = .ok (.slice ao n cap) w := by
  simp [Instr.slice, run_underlying Tryz.underlying196, Instr.sliceBounds, Instr.sliceBound, asIntOf, h]
  intro _; cases ao <;> simp [Addr.add]
theorem slice_T (ao : Option Addr) (len cap n : Nat) (h : n ≤ cap) (w : World) : (Instr.slice 68 (.slice ao len cap) none (some (.int .i64 (n : Int))) none).run Tryz.prog w = .ok (.slice ao n cap) w := by
  simp [Instr.slice, run_underlying Tryz.underlying68, Instr.sliceBounds, Instr.sliceBound, asIntOf, h]
  intro _; cases ao <;> simp [Addr.add]
/-- No two items have one handle; all handles lie below N. -/
structure Hds (E : List (Nat × Int)) (N : Nat) : Prop where
  inj : ∀ i j, i < E.length → j < E.length → (en E i).1 = (en E j).1 → i = j
  below : ∀ i, i < E.length → (en E i).1 < N
theorem plf_eq (E : List (Nat × Int)) (x : Int) : plf E x = (fi E x).map fun (i : Nat) => Value.int .i64 (i : Int) := by unfold plf fi; cases E.findIdx? _ <;> rfl
theorem fi_at {E : List (Nat × Int)} {N : Nat} (h : Hds E N) {i : Nat} (hi : i < E.length) : fi E ((en E i).1 : Int) = some i := by
  unfold fi
  rw [List.findIdx?_eq_some_iff_getElem]
  have he : en E i = E[i] := by unfold en; rw [List.getElem?_eq_getElem hi]; rfl
  refine ⟨hi, by rw [he]; simp, fun j hj => ?_⟩
  rw [he]
  intro e
  have e2 : (en E j).1 = (en E i).1 := by
    rw [he]
    unfold en
    rw [List.getElem?_eq_getElem (show j < E.length by omega)]
    have e3 : ((E[j].1 : Nat) : Int) = ((E[i].1 : Nat) : Int) := by simpa using e
    show E[j].1 = E[i].1
    omega
  have := h.inj j i (by omega) hi e2
  omega
theorem fi_none {E : List (Nat × Int)} {x : Int} (h : ∀ i, i < E.length → ((en E i).1 : Int) ≠ x) : fi E x = none := by
  unfold fi
  rw [List.findIdx?_eq_none_iff]
  intro e he
  obtain ⟨i, hi, rfl⟩ := List.getElem_of_mem he
  have := h i hi
  unfold en at this
  rw [List.getElem?_eq_getElem hi] at this
  simpa using this
theorem fi_some {E : List (Nat × Int)} {N : Nat} (h : Hds E N) {x : Int} {i : Nat} (hi : i < E.length) (hx : ((en E i).1 : Int) = x) : fi E x = some i := by rw [← hx]; exact fi_at h hi
theorem outE_get {E : List (Nat × Int)} {i j : Nat} (hi : i < E.length) (hj : j < E.length - 1) : en (outE E i) j = if j = i then en E (E.length - 1) else en E j := by
  split
  · rename_i e
    subst e
    unfold en outE
    rw [List.getElem?_take, if_pos hj, List.getElem?_set_self hi]
    rfl
  · rename_i e
    exact en_out hj e
theorem en_inj {E : List (Nat × Int)} {N : Nat} (h : Hds E N) {i j : Nat} (hi : i < E.length) (hj : j < E.length) (e : (en E i).1 = (en E j).1) : i = j := h.inj i j hi hj e
theorem Hds.at {E : List (Nat × Int)} {N : Nat} (h : Hds E N) {i : Nat} (hi : i < E.length) : (en E i).1 < N := h.below i hi
theorem Hds.out {E : List (Nat × Int)} {N : Nat} (h : Hds E N) {i : Nat} (hi : i < E.length) : Hds (outE E i) N := by
  refine Hds.mk (fun a b ha hb e => ?_) (fun a ha => ?_)
  · rw [outE_length] at ha hb
    rw [outE_get hi ha, outE_get hi hb] at e
    split at e <;> split at e
    · omega
    · have := en_inj h (by omega) (by omega) e; omega
    · have := en_inj h (by omega) (by omega) e; omega
    · exact en_inj h (by omega) (by omega) e
  · rw [outE_length] at ha
    rw [outE_get hi ha]
    split
    · exact h.at (by omega)
    · exact h.at (by omega)
/-- What the map answers behind it. -/
theorem plf_out {E : List (Nat × Int)} {N : Nat} (h : Hds E N) {i : Nat} (hi : i < E.length - 1) (x : Int) :
    (if x = ((en E (E.length - 1)).1 : Int) then some (Value.int .i64 (i : Int)) else if x = ((en E i).1 : Int) then none else plf E x) = plf (outE E i) x := by
  have ho := h.out (i := i) (by omega)
  rw [plf_eq, plf_eq]
  split
  · rename_i e
    rw [fi_some ho (i := i) (by rw [outE_length]; omega) (by rw [outE_get (by omega) hi, if_pos rfl]; exact e.symm)]
    rfl
  · rename_i e
    split
    · rename_i e2
      rw [fi_none]
      · rfl
      · intro j hj ex
        rw [outE_length] at hj
        rw [outE_get (by omega) hj] at ex
        split at ex
        · exact e ex.symm
        · have := en_inj h (i := j) (j := i) (by omega) (by omega) (by omega); omega
    · rename_i e2
      cases hf : fi E x with
      | none =>
        rw [fi_none]
        intro j hj ex
        rw [outE_length] at hj
        rw [outE_get (by omega) hj] at ex
        split at ex
        · exact e ex.symm
        · rw [fi_some h (by omega) ex] at hf; cases hf
      | some j =>
        obtain ⟨h1, h2⟩ := fi_lt hf
        have hj1 : j ≠ E.length - 1 := fun e3 => e (by rw [← h2, e3])
        have hj2 : j ≠ i := fun e3 => e2 (by rw [← h2, e3])
        rw [fi_some ho (i := j) (by rw [outE_length]; omega) (by rw [outE_get (by omega) (by omega), if_neg hj2]; exact h2)]
theorem plf_out_last {E : List (Nat × Int)} {N : Nat} (h : Hds E N) (hE : 0 < E.length) (x : Int) :
    (if x = ((en E (E.length - 1)).1 : Int) then none else plf E x) = plf (outE E (E.length - 1)) x := by
  have ho := h.out (i := E.length - 1) (by omega)
  rw [plf_eq, plf_eq]
  have hg : ∀ j, j < E.length - 1 → en (outE E (E.length - 1)) j = en E j := fun j hj => en_out hj (by omega)
  split
  · rename_i e
    rw [fi_none]
    · rfl
    · intro j hj ex
      rw [outE_length] at hj
      rw [hg j hj] at ex
      have := en_inj h (i := j) (j := E.length - 1) (by omega) (by omega) (by omega); omega
  · rename_i e
    cases hf : fi E x with
    | none =>
      rw [fi_none]
      intro j hj ex
      rw [outE_length] at hj
      rw [hg j hj] at ex
      rw [fi_some h (by omega) ex] at hf; cases hf
    | some j =>
      obtain ⟨h1, h2⟩ := fi_lt hf
      have hj1 : j ≠ E.length - 1 := fun e3 => e (by rw [← h2, e3])
      rw [fi_some ho (i := j) (by rw [outE_length]; omega) (by rw [hg j (by omega)]; exact h2)]
theorem ecells_set (E : List (Nat × Int)) (i : Nat) (x : Nat × Int) : ecells (E.set i x) = ((ecells E).set (i * 2) (.int .i64 (x.1 : Int))).set (i * 2 + 1) (.int .u32 x.2) := by
  induction E generalizing i with
  | nil => simp [ecells]
  | cons y r ih =>
    have e : ∀ (y : Nat × Int) r, ecells (y :: r) = .int .i64 (y.1 : Int) :: .int .u32 y.2 :: ecells r := fun y r => by simp [ecells]
    cases i with
    | zero => rw [List.set_cons_zero, e, e]; rfl
    | succ i => rw [List.set_cons_succ, e, e, ih i, show (i + 1) * 2 = i * 2 + 1 + 1 by omega]; rfl
theorem ecells_take (E : List (Nat × Int)) (m : Nat) : ecells (E.take m) = (ecells E).take (m * 2) := by
  induction E generalizing m with
  | nil => simp [ecells]
  | cons y r ih =>
    have e : ∀ (y : Nat × Int) r, ecells (y :: r) = .int .i64 (y.1 : Int) :: .int .u32 y.2 :: ecells r := fun y r => by simp [ecells]
    cases m with
    | zero => simp [ecells]
    | succ m => rw [List.take_succ_cons, e, e, ih m, show (m + 1) * 2 = m * 2 + 1 + 1 by omega]; rfl
/-- The entries' cells behind it. -/
theorem ecells_out {E : List (Nat × Int)} {i : Nat} (u v : Value) : (((((ecells E).set (i * 2) (.int .i64 ((en E (E.length - 1)).1 : Int))).set (i * 2 + 1) (.int .u32 (en E (E.length - 1)).2)).set ((E.length - 1) * 2) u).set ((E.length - 1) * 2 + 1) v).take ((E.length - 1) * 2) = ecells (outE E i) := by
  unfold outE
  rw [ecells_take, ecells_set, List.take_set, List.take_set, List.set_eq_of_length_le (by simp; omega), List.set_eq_of_length_le (by simp; omega)]
theorem ecells_out_last {E : List (Nat × Int)} (u v : Value) : (((ecells E).set ((E.length - 1) * 2) u).set ((E.length - 1) * 2 + 1) v).take ((E.length - 1) * 2) = ecells (outE E (E.length - 1)) := by
  unfold outE
  rw [ecells_take, ecells_set, List.take_set, List.take_set, List.take_set, List.take_set, List.set_eq_of_length_le (by simp; omega), List.set_eq_of_length_le (by simp; omega), List.set_eq_of_length_le (by simp; omega), List.set_eq_of_length_le (by simp; omega)]
end
end Go.Proofs.YtinkkocleognbaaGreatDoor.Hp
