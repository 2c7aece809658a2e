/- Texts joined: HpHc, HpHd, HpHe, HpHf, HpHg, HpHh, HpHi. -/
import Derived.WalkKit
import Derived.Maps.OwnSet
import Derived.Shelf.SlMaps.Clone
import Derived.WalkSpells
import Derived.WalkLawsBesides
import Derived.Laws.CopyOwn
import Derived.Laws.Bits64b
import Derived.Laws.Bits64
import Derived.Deep.MidRow
import Derived.Deep.LoopGhost
import Derived.Deep.RegionHeld3
import Derived.Deep.DrawnRows
import Derived.Deep.QuietTactic
import Derived.Deep.RegionWith
import Derived.BigQuiet
import Derived.Deep.OwnRows
import Derived.Laws.AppendOwnNone
import Derived.Laws.BitsAllLaws
import Derived.Laws.OwnMore
import Derived.ArgAppend
import Derived.Maps.AppendAt
import Derived.Lib.SliceRun
import Derived.Defers
import Derived.Recover
import Derived.Test.YtjfhilignbeboaaGreatDoorJqAc
import Derived.Lib.Builder
import Derived.Deep.CutRange
import Derived.Deep.DeepCutAuto
/- less, asked. -/
namespace Go.Proofs.YtjfhilignbeboaaGreatDoor.Hp
open Go.RowKit
attribute [local go_sem ↓] Go.wp_at_zero Go.wp_at_succ
set_option maxHeartbeats 2000000 in
theorem ask_any (L : Les) (hL : L.Ok) (h : Nat) (N : Int) (ve vl : Value) (mb : Nat) (a b : Int) (w : World) (hh : w.heap[h]? = some (.cells (hpc L h N ve vl mb).toArray 190 (0, 0))) (hI : L.I w) (ha : L.ok a) (hb : L.ok b) (hF : ¬ L.F h) :
    Calls Tryz.prog 178 #[.pointer (some ⟨h, 0, none⟩), .int .u32 a, .int .u32 b] w fun e w' => e = .returned (.bool (L.lt a b)) ∧ L.I w' ∧ Kept w w' L.S := by
  have hmf : ∀ (fn : Fn) (first cap : Array Value) (w : World), (Instr.makeFunc fn first cap).run Tryz.prog w = .ok (.func fn first cap) w := fun _ _ _ _ => rfl
  have ga := World.grownBy_alloc w (.cells #[.pointer (some ⟨h, 0, none⟩)] 42) none
  have hne : ¬ h = w.heap.size := by have := row_lt hh; omega
  have hh1 := (ga.block _ (row_lt hh) (by simp)).trans hh
  have c1 : (w.alloc (.cells #[.pointer (some ⟨h, 0, none⟩)] 42)).cell? ⟨h, 1, none⟩ = some (.func (.func L.k) #[] L.cap) := by rw [cell_row hh1]; rfl
  have c2 : (w.alloc (.cells #[.pointer (some ⟨h, 0, none⟩)] 42)).cell? ⟨h, 2, none⟩ = some (.bool false) := by rw [cell_row hh1]; rfl
  have f2 : (w.alloc (.cells #[.pointer (some ⟨h, 0, none⟩)] 42)).frozen? ⟨h, 2, none⟩ = false := free_row hh1 2
  have HC : Hid (∀ w1, L.I w1 → Calls Tryz.prog L.k (#[.int .u32 a, .int .u32 b] ++ L.cap) w1 fun e w' => e = .returned (.bool (L.lt a b)) ∧ L.I w' ∧ Kept w1 w' L.S) := fun w1 h1 => hL.call a b w1 h1 ha hb
  have HI := hide (And.intro hh (And.intro hI (And.intro hh1 ga)))
  clear hh hI hh1 ga
  have HEnd : Hid (∀ w2 : World, L.I w2 → Kept ((w.alloc (.cells #[.pointer (some ⟨h, 0, none⟩)] 42)).setCell ⟨h, 2, none⟩ (.bool true)) w2 L.S → w2.cell? ⟨w.heap.size, 0, none⟩ = some (.pointer (some ⟨h, 0, none⟩)) ∧ w2.cell? ⟨h, 2, none⟩ = some (.bool true) ∧ w2.frozen? ⟨h, 2, none⟩ = false ∧ L.I (w2.setCell ⟨h, 2, none⟩ (.bool false)) ∧ Kept w (w2.setCell ⟨h, 2, none⟩ (.bool false)) L.S) := by
    intro w2 hI2 hk2
    have hnS : ¬ L.S h := fun e => hF (hL.sub _ e)
    have hnw : ¬ L.S w.heap.size := fun e => by have := hL.below w _ HI.out.2.1 (hL.sub _ e); omega
    have b1 := row_setCell HI.out.2.2.1 2 (.bool true)
    have b2 := hk2.at b1 hnS
    have n1 : ((w.alloc (.cells #[.pointer (some ⟨h, 0, none⟩)] 42)).setCell ⟨h, 2, none⟩ (.bool true)).heap[w.heap.size]? = some (.cells [Value.pointer (some ⟨h, 0, none⟩)].toArray 42 (0, 0)) := (Below.heap_setCell _ _ _ _ (fun e => hne e.symm)).trans (heap_alloc_new w _)
    have n2 := hk2.at n1 hnw
    have b3 := row_setCell b2 2 (.bool false)
    refine ⟨cell_row n2 0, cell_row b2 2, free_row b2 2, hL.keep _ _ _ hI2 (kept_setCell w2 h 2 _) (fun i e => by rw [e]; exact hF), ?_⟩
    have k1 : Kept w (w2.setCell ⟨h, 2, none⟩ (.bool false)) (fun i => L.S i ∨ i = h) := (((Kept.new HI.out.2.2.2 _).trans (kept_setCell _ h 2 (.bool true)) (fun i _ e => .inr e)).trans hk2 (fun i _ e => .inl e)).trans (kept_setCell _ h 2 _) (fun i _ e => .inr e)
    refine ⟨k1.os, k1.tape, k1.output, k1.size, fun i hi hn => ?_⟩
    by_cases e : i = h
    · subst e
      rw [b3, HI.out.1]
      rfl
    · exact k1.block i hi (fun h1 => h1.elim hn e)
  have HIa : Hid (L.I ((w.alloc (.cells #[.pointer (some ⟨h, 0, none⟩)] 42)).setCell ⟨h, 2, none⟩ (.bool true))) := hL.keep _ _ _ HI.out.2.1 ((Kept.new HI.out.2.2.2 (fun i => i = h)).trans (kept_setCell _ h 2 _) (fun _ _ e => e)) (fun i e => by rw [e]; exact hF)
  obtain ⟨e1, p1, e2⟩ := hL.kind
  rw [e1, e2] at c1 HC
  have HC1 : Hid (∀ w1, L.I w1 → Calls Tryz.prog 93 #[.int .u32 a, .int .u32 b, .pointer (some p1)] w1 fun e w' => e = .returned (.bool (L.lt a b)) ∧ L.I w' ∧ Kept w1 w' L.S) := HC
  all_goals
    clear HC e1 e2
    have hc1 := HC1.out _ HIa.out
    go_enter_defers Tryz.func178, Tryz.ntmps178
    go_wp2_with fail
    refine hc1.mono ?_
    clear hc1
    rintro e w2 ⟨rfl, hI2, hk2⟩
    obtain ⟨q1, q2, q3, q4, q5⟩ := HEnd.out w2 hI2 hk2
    have HQ := hide (And.intro q4 q5)
    clear HEnd HIa HI HC1 q4 q5 hk2 hI2
    go_wp2
    refine leaves_cons (f := 194) (args := #[.pointer (some ⟨w.heap.size, 0, none⟩)]) (by simp) (by simp [go_sem]) ?_
    refine (idle_any ⟨w.heap.size, 0, none⟩ h w2 q1 ⟨_, q2⟩ q3).mono ?_
    rintro e u' w3 ⟨rfl, rfl, rfl⟩
    exact ⟨_, results_tmp rfl _ _ _, rfl, HQ.out⟩
end Go.Proofs.YtjfhilignbeboaaGreatDoor.Hp
/- A heap in memory; which of two items comes first. -/
namespace Go.Proofs.YtjfhilignbeboaaGreatDoor.Hp
open Go.RowKit
attribute [local go_sem ↓] Go.wp_at_zero Go.wp_at_succ
/-- Where a heap lies. -/
structure Hp where
  h : Nat
  ve : Value
  vl : Value
  mb : Nat
def Hp.own (p : Hp) (i : Nat) : Prop := i = p.h ∨ p.ve.ownBlock = some i ∨ p.vl.ownBlock = some i ∨ i = p.mb
def ecells (E : List (Nat × Int)) : List Value := E.flatMap fun e => [.int .i64 (e.1 : Int), .int .u32 e.2]
def tcells (T : List Nat) : List Value := T.map fun (t : Nat) => Value.int .i64 (t : Int)
theorem tcells_length (T : List Nat) : (tcells T).length = T.length := by simp [tcells]
theorem ecells_snoc (E : List (Nat × Int)) (x : Nat × Int) : ecells (E ++ [x]) = ecells E ++ [.int .i64 (x.1 : Int), .int .u32 x.2] := by simp [ecells]
theorem tcells_snoc (T : List Nat) (x : Nat) : tcells (T ++ [x]) = tcells T ++ [.int .i64 (x : Int)] := by simp [tcells]
theorem ecells_get {E : List (Nat × Int)} {i : Nat} (h : i < E.length) : (ecells E)[i * 2]? = some (.int .i64 ((en E i).1 : Int)) ∧ (ecells E)[i * 2 + 1]? = some (.int .u32 (en E i).2) := by
  induction E generalizing i with
  | nil => simp at h
  | cons y r ih =>
    cases i with
    | zero => simp [ecells, en]
    | succ i =>
      have := ih (i := i) (by simpa using h)
      have e : ecells (y :: r) = .int .i64 (y.1 : Int) :: .int .u32 y.2 :: ecells r := by simp [ecells]
      have e2 : en (y :: r) (i + 1) = en r i := by simp [en]
      rw [e, e2, show (i + 1) * 2 = i * 2 + 2 by omega, show i * 2 + 2 + 1 = (i * 2 + 1) + 2 by omega]
      simpa using this
theorem tcells_get {T : List Nat} {i : Nat} (h : i < T.length) : (tcells T)[i]? = some (.int .i64 (tn T i : Int)) := by simp [tcells, tn, h]
/-- What the map answers. -/
def plf (E : List (Nat × Int)) : Int → Option Value := fun x => (E.findIdx? (fun e => (e.1 : Int) == x)).map fun i => .int .i64 (i : Int)
structure HpAt (w : World) (L : Les) (p : Hp) (E : List (Nat × Int)) (T : List Nat) (N B : Nat) : Prop where
  head : w.heap[p.h]? = some (.cells (hpc L p.h (N : Int) p.ve p.vl p.mb).toArray 190 (0, 0))
  ent : w.ownsRow 0 196 2 p.ve E.length (ecells E)
  lst : w.ownsRow 0 3 1 p.vl T.length (tcells T)
  map : MapAt w Tryz.prog 3 p.mb B (plf E)
  inv : L.I w
  off : ∀ i, p.own i → ¬ L.F i
theorem row_same {w w' : World} {e : TypeId} {size : Nat} {v : Value} {n : Nat} {xs : List Value} (h : w.ownsRow 0 e size v n xs) (hb : ∀ g, v.ownBlock = some g → w'.heap[g]? = w.heap[g]?) : w'.ownsRow 0 e size v n xs := by
  obtain ⟨h1, h⟩ := h
  refine ⟨h1, ?_⟩
  rcases h with h | ⟨g, cap, cur, rfl, h2, h3, h4⟩
  · exact Or.inl h
  · exact Or.inr ⟨g, cap, cur, rfl, h2, (hb g rfl).trans h3, h4⟩
theorem en_mem {E : List (Nat × Int)} {i : Nat} (h : i < E.length) : en E i ∈ E := by
  unfold en
  rw [List.getElem?_eq_getElem h]
  exact List.getElem_mem h
section
variable {w w' : World} {L : Les} {p : Hp} {E : List (Nat × Int)} {T : List Nat} {N B : Nat}
theorem HpAt.lt (h : HpAt w L p E T N B) : ∀ i, p.own i → i < w.heap.size := by
  rintro i (rfl | hi | hi | rfl)
  · exact row_lt h.head
  · exact (h.ent.lt i hi).2
  · exact (h.lst.lt i hi).2
  · exact h.map.lt
/-- What happens elsewhere leaves it as it is. -/
theorem HpAt.far {X : Nat → Prop} (h : HpAt w L p E T N B) (k : Kept w w' X) (hX : ∀ i, p.own i → ¬ X i) (hI : L.I w') : HpAt w' L p E T N B :=
  ⟨k.at h.head (hX _ (.inl rfl)), row_same h.ent (fun g hg => k.block g (h.lt g (.inr (.inl hg))) (hX g (.inr (.inl hg)))), row_same h.lst (fun g hg => k.block g (h.lt g (.inr (.inr (.inl hg)))) (hX g (.inr (.inr (.inl hg))))), h.map.same (k.block _ h.map.lt (hX _ (.inr (.inr (.inr rfl))))), hI, h.off⟩
theorem HpAt.less (hL : L.Ok) (h : HpAt w L p E T N B) (k : Kept w w' L.S) (hI : L.I w') : HpAt w' L p E T N B := h.far k (fun i hi e => h.off i hi (hL.sub i e)) hI
theorem HpAt.then (hL : L.Ok) (h : HpAt w L p E T N B) (g : w.grownBy w' none) : HpAt w' L p E T N B :=
  h.far (X := fun _ => False) (Kept.new g _) (fun _ _ e => e) (hL.keep w w' (fun _ => False) h.inv (Kept.new g _) (fun _ e => e.elim))
/-- A row that is not empty: where it lies. -/
theorem own_row {w : World} {e : TypeId} {size : Nat} {v : Value} {n : Nat} {xs : List Value} (h : w.ownsRow 0 e size v n xs) (hn : 0 < n) : ∃ g cap, ∃ cur : List Value, v = .slice (some ⟨g, 0, none⟩) n cap ∧ w.heap[g]? = some (.cells cur.toArray e (0, 0)) ∧ n ≤ cap ∧ cap ≤ maxLen ∧ cur.length = cap * size ∧ cur.take (n * size) = xs := by
  rcases h.2 with ⟨_, h0⟩ | ⟨g, cap, cur, hv, hb, hg, hn, hm, hs, ht⟩
  · omega
  · exact ⟨g, cap, cur.toList, hv, by simpa using hg, hn, hm, by simpa using hs, ht⟩
theorem own_cell {w : World} {g : Nat} {cur xs : List Value} {e : TypeId} {n : Nat} (hg : w.heap[g]? = some (.cells cur.toArray e (0, 0))) (ht : cur.take n = xs) {j : Nat} {u : Value} (h : xs[j]? = some u) : w.cell? ⟨g, j, none⟩ = some u := by
  rw [cell_row hg]
  rw [← ht, List.getElem?_take] at h
  split at h
  · exact h
  · cases h
theorem HpAt.cells (h : HpAt w L p E T N B) : w.cell? ⟨p.h, 0, none⟩ = some (.pointer (some ⟨p.h, 0, none⟩)) ∧ w.cell? ⟨p.h, 1, none⟩ = some L.fv ∧ w.cell? ⟨p.h, 2, none⟩ = some (.bool false) ∧ w.cell? ⟨p.h, 3, none⟩ = some (.int .i64 (N : Int)) ∧ w.cell? ⟨p.h, 4, none⟩ = some p.ve ∧ w.cell? ⟨p.h, 5, none⟩ = some p.vl ∧ w.cell? ⟨p.h, 6, none⟩ = some (.map (some p.mb)) :=
  ⟨cell_row h.head 0, cell_row h.head 1, cell_row h.head 2, cell_row h.head 3, cell_row h.head 4, cell_row h.head 5, cell_row h.head 6⟩
theorem two_new (w : World) (a b c d : Value) (t : TypeId) {w2 : World} (h : ((w.alloc (.cells #[a, b] t)).alloc (.cells #[c, d] t)).drew = w2) : w.grownBy w2 none ∧ w2.cell? ⟨w.heap.size, 0, none⟩ = some a ∧ w2.cell? ⟨w.heap.size, 1, none⟩ = some b ∧ w2.cell? ⟨w.heap.size + 1, 0, none⟩ = some c ∧ w2.cell? ⟨w.heap.size + 1, 1, none⟩ = some d := by
  subst h
  have g1 := World.grownBy_alloc w (.cells #[a, b] t) none
  have g2 := World.grownBy_alloc (w.alloc (.cells #[a, b] t)) (.cells #[c, d] t) none
  have b1 : (w.alloc (.cells #[a, b] t)).heap[w.heap.size]? = some (.cells [a, b].toArray t (0, 0)) := heap_alloc_new w _
  have b2 : ((w.alloc (.cells #[a, b] t)).alloc (.cells #[c, d] t)).heap[(w.alloc (.cells #[a, b] t)).heap.size]? = some (.cells [c, d].toArray t (0, 0)) := heap_alloc_new _ _
  have b1' := (g2.block _ (row_lt b1) (by simp)).trans b1
  rw [World.size_alloc] at b2
  exact ⟨grown_trans (grown_trans g1 g2) (grown_drew _ none), cell_row b1' 0, cell_row b1' 1, cell_row b2 0, cell_row b2 1⟩
set_option maxHeartbeats 2000000 in
theorem ahead_any (hL : L.Ok) (h : HpAt w L p E T N B) (a b : Nat) (ha : a < E.length) (hb : b < E.length) (hok : ∀ e ∈ E, L.ok e.2) :
    Calls Tryz.prog 166 #[.pointer (some ⟨p.h, 0, none⟩), .int .i64 (a : Int), .int .i64 (b : Int)] w fun e w' => e = .returned (.bool (ah L.lt (en E a) (en E b))) ∧ L.I w' ∧ Kept w w' L.S := by
  obtain ⟨-, -, -, -, c4, -, -⟩ := h.cells
  obtain ⟨g, cap, cur, hv, hg, hn, hm, hs, ht⟩ := own_row h.ent (by omega)
  rw [hv] at c4
  have a0 := own_cell hg ht (ecells_get ha).1
  have a1 := own_cell hg ht (ecells_get ha).2
  have b0 := own_cell hg ht (ecells_get hb).1
  have b1 := own_cell hg ht (ecells_get hb).2
  obtain ⟨n, hnn⟩ : ∃ n, n = E.length := ⟨_, rfl⟩
  have ha' := ha
  have hb' := hb
  rw [← hnn] at ha hb c4 hn
  have HI := hide (And.intro h hnn)
  have gz1 : ¬ g = w.heap.size := by have := row_lt hg; omega
  have gz2 : ¬ g = w.heap.size + 1 := by have := row_lt hg; omega
  have pz1 : ¬ p.h = w.heap.size := by have := row_lt h.head; omega
  have pz2 : ¬ p.h = w.heap.size + 1 := by have := row_lt h.head; omega
  have x0 : ∀ u v, (w.alloc (.cells #[u, v] 196)).cell? ⟨p.h, 4, none⟩ = some (Value.slice (some ⟨g, 0, none⟩) n cap) := fun u v => (World.grownBy_alloc w (.cells #[u, v] 196) none).cell c4 (by simp)
  have y0 : ∀ u v u2 v2, ((w.alloc (.cells #[u, v] 196)).alloc (.cells #[u2, v2] 196)).cell? ⟨p.h, 4, none⟩ = some (Value.slice (some ⟨g, 0, none⟩) n cap) := fun u v u2 v2 => (World.grownBy_alloc _ (.cells #[u2, v2] 196) none).cell (x0 u v) (by simp)
  have x1 : ∀ u v, (w.alloc (.cells #[u, v] 196)).cell? ⟨g, a * 2, none⟩ = some (.int .i64 ((en E a).1 : Int)) := fun u v => (World.grownBy_alloc w (.cells #[u, v] 196) none).cell a0 (by simp)
  have y1 : ∀ u v u2 v2, ((w.alloc (.cells #[u, v] 196)).alloc (.cells #[u2, v2] 196)).cell? ⟨g, a * 2, none⟩ = some (.int .i64 ((en E a).1 : Int)) := fun u v u2 v2 => (World.grownBy_alloc _ (.cells #[u2, v2] 196) none).cell (x1 u v) (by simp)
  have x2 : ∀ u v, (w.alloc (.cells #[u, v] 196)).cell? ⟨g, a * 2 + 1, none⟩ = some (.int .u32 (en E a).2) := fun u v => (World.grownBy_alloc w (.cells #[u, v] 196) none).cell a1 (by simp)
  have y2 : ∀ u v u2 v2, ((w.alloc (.cells #[u, v] 196)).alloc (.cells #[u2, v2] 196)).cell? ⟨g, a * 2 + 1, none⟩ = some (.int .u32 (en E a).2) := fun u v u2 v2 => (World.grownBy_alloc _ (.cells #[u2, v2] 196) none).cell (x2 u v) (by simp)
  have x3 : ∀ u v, (w.alloc (.cells #[u, v] 196)).cell? ⟨g, b * 2, none⟩ = some (.int .i64 ((en E b).1 : Int)) := fun u v => (World.grownBy_alloc w (.cells #[u, v] 196) none).cell b0 (by simp)
  have y3 : ∀ u v u2 v2, ((w.alloc (.cells #[u, v] 196)).alloc (.cells #[u2, v2] 196)).cell? ⟨g, b * 2, none⟩ = some (.int .i64 ((en E b).1 : Int)) := fun u v u2 v2 => (World.grownBy_alloc _ (.cells #[u2, v2] 196) none).cell (x3 u v) (by simp)
  have x4 : ∀ u v, (w.alloc (.cells #[u, v] 196)).cell? ⟨g, b * 2 + 1, none⟩ = some (.int .u32 (en E b).2) := fun u v => (World.grownBy_alloc w (.cells #[u, v] 196) none).cell b1 (by simp)
  have y4 : ∀ u v u2 v2, ((w.alloc (.cells #[u, v] 196)).alloc (.cells #[u2, v2] 196)).cell? ⟨g, b * 2 + 1, none⟩ = some (.int .u32 (en E b).2) := fun u v u2 v2 => (World.grownBy_alloc _ (.cells #[u2, v2] 196) none).cell (x4 u v) (by simp)
  clear h hnn hg ht hv hs
  have HO : Hid (L.ok (en E a).2 ∧ L.ok (en E b).2) := ⟨hok _ (en_mem ha'), hok _ (en_mem hb')⟩
  have HAsk : Hid (∀ (w2 : World) (x y : Int), w.grownBy w2 none → L.ok x → L.ok y → Calls Tryz.prog 178 #[.pointer (some ⟨p.h, 0, none⟩), .int .u32 x, .int .u32 y] w2 fun e w' => e = .returned (.bool (L.lt x y)) ∧ L.I w' ∧ Kept w w' L.S) := by
    intro w2 x y hg hx hy
    refine (ask_any L hL p.h N p.ve p.vl p.mb x y w2 (HI.out.1.then hL hg).head (HI.out.1.then hL hg).inv hx hy (HI.out.1.off _ (.inl rfl))).mono ?_
    rintro e w' ⟨rfl, h1, h2⟩
    exact ⟨rfl, h1, (Kept.new hg _).trans h2 (fun _ _ e => e)⟩
  clear hok
  generalize hX : en E a = X at *
  generalize hY : en E b = Y at *
  obtain ⟨r, hr⟩ : ∃ r, r = ah L.lt X Y := ⟨_, rfl⟩
  rw [← hr]
  have HR := hide hr
  clear hr hX hY
  go_enter Tryz.func166, Tryz.ntmps166
  go_wp2
  go_region
  all_goals
    clear c4 a0 a1 b0 b1 x0 x1 x2 x3 x4 y0 y1 y2 y3 y4
    generalize hw2 : (World.alloc (World.alloc w _) _).drew = w2
    obtain ⟨g2, d0, d1, d2, d3⟩ := two_new w _ _ _ _ _ hw2
    have HG := hide g2
    clear g2 hw2
    by_cases hlt : (X.1 : Int) < (Y.1 : Int)
    · have hr2 : r = !(L.lt Y.2 X.2) := by rw [HR.out]; unfold ah; rw [if_pos (by omega)]
      have HR2 := hide hr2
      clear hr2
      go_wp2_with fail
      refine (HAsk.out w2 _ _ HG.out HO.out.2 HO.out.1).mono ?_
      rintro e w3 ⟨rfl, h1, h2⟩
      generalize L.lt Y.2 X.2 = q at *
      go_wp2
      go_ret
      exact ⟨by rw [HR2.out]; rfl, h1, h2⟩
    · have hr2 : r = L.lt X.2 Y.2 := by rw [HR.out]; unfold ah; rw [if_neg (by omega)]
      have HR2 := hide hr2
      clear hr2
      go_wp2_with fail
      refine (HAsk.out w2 _ _ HG.out HO.out.1 HO.out.2).mono ?_
      rintro e w3 ⟨rfl, h1, h2⟩
      generalize L.lt X.2 Y.2 = q at *
      go_wp2
      go_ret
      exact ⟨by rw [HR2.out]; rfl, h1, h2⟩
end
end Go.Proofs.YtjfhilignbeboaaGreatDoor.Hp
/- From a place up to the top. -/
namespace Go.Proofs.YtjfhilignbeboaaGreatDoor.Hp
open Go.RowKit
attribute [local go_sem ↓] Go.wp_at_zero Go.wp_at_succ
theorem above_any (j : Nat) (w : World) (h1 : j < 1000000000) : Calls Tryz.prog 165 #[.int .i64 (j : Int)] w fun e w' => e = .returned (.int .i64 (((((j + 1) / 2 : Nat) : Int)) - 1)) ∧ w' = w := by
  have e1 : ((j : Int) + 1).tdiv 2 = (((j + 1) / 2 : Nat) : Int) := by rw [Int.tdiv_eq_ediv_of_nonneg (by omega)]; omega
  go_enter Tryz.func165, Tryz.ntmps165
  go_wp2
  go_ret
  exact ⟨rfl, rfl⟩
section
variable {w w' : World} {L : Les} {p : Hp} {E : List (Nat × Int)} {T : List Nat} {N B : Nat}
theorem tcells_set {T : List Nat} {i x : Nat} : tcells (T.set i x) = (tcells T).set i (.int .i64 (x : Int)) := by simp [tcells, List.map_set]
/-- A place's least one, written. -/
theorem HpAt.put (hL : L.Ok) (h : HpAt w L p E T N B) {g cap : Nat} (hv : p.vl = .slice (some ⟨g, 0, none⟩) T.length cap) {j : Nat} (hj : j < T.length) (x : Nat) : HpAt (w.setCell ⟨g, j, none⟩ (.int .i64 (x : Int))) L p E (T.set j x) N B ∧ Kept w (w.setCell ⟨g, j, none⟩ (.int .i64 (x : Int))) (fun i => p.vl.ownBlock = some i) := by
  obtain ⟨g', cap', cur, hv', hg, hn, hm, hs, ht⟩ := own_row h.lst (by omega)
  rw [hv] at hv'
  cases hv'
  have hown : p.vl.ownBlock = some g := by rw [hv]; rfl
  have k0 := kept_setCell w g j (.int .i64 (x : Int))
  have k1 : Kept w (w.setCell ⟨g, j, none⟩ (.int .i64 (x : Int))) (fun i => p.vl.ownBlock = some i) := k0.mono (fun i _ e => by rw [e]; exact hown)
  have hgh : g ≠ p.h := fun e => by have := h.head; rw [← e, hg] at this; simp at this
  have hgm : g ≠ p.mb := fun e => by obtain ⟨es, ck, hm⟩ := h.map.block; rw [← e, hg] at hm; cases hm
  refine ⟨⟨k0.at h.head (fun e => hgh e.symm), row_same h.ent (fun q hq => k0.block q (h.ent.lt q hq).2 (fun e => ?_)), ?_, h.map.same (k0.block _ h.map.lt (fun e => hgm e.symm)), hL.keep _ _ _ h.inv k0 (fun i e => by rw [e]; exact h.off _ (.inr (.inr (.inl hown)))), h.off⟩, k1⟩
  · subst e
    rcases h.ent.2 with ⟨hq2, _⟩ | ⟨g2, c2, cu2, hq2, hq3, hq4, _⟩
    · rw [hq2] at hq; cases hq
    · rw [hq2] at hq; cases hq; rw [hg] at hq4; simp at hq4
  · rw [List.length_set]
    refine ⟨by simp [tcells_length], Or.inr ⟨g, cap, (cur.set j (.int .i64 (x : Int))).toArray, hv, Nat.zero_le _, row_setCell hg j _, hn, hm, by simpa using hs, ?_⟩⟩
    rw [tcells_set, ← ht]
    simp [List.take_set]
set_option maxHeartbeats 4000000 in
theorem settle_any (hL : L.Ok) (h : HpAt w L p E T N B) (hT : T.length = E.length) (hE : E.length ≤ 100000) (k : Nat) (hk : k ≤ E.length) (hin : ∀ b, b < E.length → ¬ Pth k b → tn T b < E.length) (hok : ∀ e ∈ E, L.ok e.2) :
    Calls Tryz.prog 147 #[.pointer (some ⟨p.h, 0, none⟩), .int .i64 ((k : Int) - 1)] w fun e w' => e = .returned (.tuple #[]) ∧ HpAt w' L p E (stl L.lt E T k) N B ∧ Kept w w' (fun i => L.S i ∨ p.vl.ownBlock = some i) := by
  have HO := hide (And.intro hok hin)
  have HT := hide hT
  have HH := hide h
  clear hok h hT hin
  generalize hn : E.length = n at *
  have HN := hide hn
  clear hn
  go_enter Tryz.func147, Tryz.ntmps147
  go_wp2
  go_loopg [1] k (fun q v wr => v = .int .i64 ((q : Int) - 1) ∧ q ≤ n ∧ Hid (∃ Tr, Tr.length = n ∧ HpAt wr L p E Tr N B ∧ stl L.lt E Tr q = stl L.lt E T k ∧ (∀ b, b < n → ¬ Pth q b → tn Tr b < n) ∧ Kept w wr (fun i => L.S i ∨ p.vl.ownBlock = some i)))
  case atStart => exact ⟨rfl, hk, T, HT.out, HH.out, rfl, HO.out.2, Kept.refl _ _⟩
  case round =>
    obtain ⟨rfl, hqn, HR⟩ := hrel
    rcases Nat.eq_zero_or_pos gk with hz | hz
    · subst hz
      go_wp2
      go_end0
      obtain ⟨Tr, h1, h2, h3, h4, h5⟩ := HR.out
      rw [stl_zero] at h3
      rw [h3] at h2
      exact ⟨rfl, h2, h5⟩
    · obtain ⟨j, rfl⟩ : ∃ j, gk = j + 1 := ⟨gk - 1, by omega⟩
      rw [show (((j + 1 : Nat) : Int)) - 1 = (j : Int) by omega]
      obtain ⟨Tr, h1, h2, h3, h4, h5⟩ := HR.out
      have HR1 := hide (And.intro h1 (And.intro h2 (And.intro h3 (And.intro h4 h5))))
      clear HR h1 h2 h3 h4 h5
      go_wp2
      go_loopg [4, 5] 2 (fun q l v ws => Hid (HpAt ws L p E Tr N B ∧ Kept wr ws L.S) ∧ ∃ b m : Nat, v = .int .i64 (b : Int) ∧ l = .int .i64 (m : Int) ∧ Hid ((q = 2 ∧ b = 2 * j + 1 ∧ m = j) ∨ (q = 1 ∧ 2 * j + 1 < n ∧ b = 2 * j + 2 ∧ m = lwA L.lt E Tr j) ∨ (q = 0 ∧ 2 * j + 2 < n ∧ b = 2 * j + 3 ∧ m = lw L.lt E Tr j)))
      case atStart => exact ⟨⟨HR1.out.2.1, Kept.refl _ _⟩, 2 * j + 1, j, by simp, rfl, .inl ⟨rfl, rfl, rfl⟩⟩
      case round =>
        obtain ⟨HS, b, m, rfl, rfl, HB⟩ := hrel
        have hb1 : 2 * j + 1 ≤ b ∧ b ≤ 2 * j + 3 ∧ b = 2 * j + 3 - gk ∧ gk ≤ 2 := by rcases HB.out with ⟨e1, e2, _⟩ | ⟨e1, _, e2, _⟩ | ⟨e1, _, e2, _⟩ <;> omega
        obtain ⟨hb1, hb2, hb3, hb4⟩ := hb1
        have HB3 := hide hb3
        clear hb3
        have hsub : ∀ c, 2 * j + 1 ≤ c → c < n → tn Tr c < n := fun c h1 h2 => HR1.out.2.2.2.1 c h2 (fun e => by have := e.le; omega)
        have hmn : m < n := by
          rcases HB.out with ⟨_, _, e3⟩ | ⟨_, e0, _, e3⟩ | ⟨_, e0, _, e3⟩
          · omega
          · rw [e3]
            rcases lwA_or (lt := L.lt) (E := E) (T := Tr) j with e | ⟨e1, e2⟩
            · rw [e]; omega
            · rw [e2]; exact hsub _ (by omega) e0
          · rw [e3]
            rcases lw_or (lt := L.lt) (E := E) (T := Tr) j with e | ⟨e1, e2⟩ | ⟨e1, e2⟩
            · rw [e]; omega
            · rw [e2]; exact hsub _ (by omega) (by omega)
            · rw [e2]; exact hsub _ (by omega) e0
        obtain ⟨-, -, -, -, c4, c5, -⟩ := HS.out.1.cells
        obtain ⟨ge, cape, cure, hve, -, -, -, -, -⟩ := own_row HS.out.1.ent (by have := HN.out; omega)
        obtain ⟨gl, capl, curl, hvl, hgl, hnl, -, -, htl⟩ := own_row HS.out.1.lst (by have := HR1.out.1; omega)
        rw [hve, HN.out] at c4
        rw [hvl, HR1.out.1] at c5
        rw [HR1.out.1] at hnl
        by_cases hbn : b < n ∧ b < 2 * j + 3
        · obtain ⟨hbn, hbj⟩ := hbn
          have cb := own_cell hgl htl (tcells_get (T := Tr) (i := b) (by have := HR1.out.1; omega))
          have htb := hsub b hb1 hbn
          have hah := ahead_any hL HS.out.1 (tn Tr b) m (by rw [HN.out]; exact htb) (by rw [HN.out]; exact hmn) HO.out.1
          have HL := hide (And.intro hvl hgl)
          clear hve hvl hgl htl hsub
          generalize htb2 : tn Tr b = tb at *
          have HTB := hide htb2
          clear htb2
          have hstep : ∀ m', m' = lw1 L.lt E Tr m b → (gk - 1 = 2 ∧ b + 1 = 2 * j + 1 ∧ m' = j) ∨ (gk - 1 = 1 ∧ 2 * j + 1 < n ∧ b + 1 = 2 * j + 2 ∧ m' = lwA L.lt E Tr j) ∨ (gk - 1 = 0 ∧ 2 * j + 2 < n ∧ b + 1 = 2 * j + 3 ∧ m' = lw L.lt E Tr j) := by
            intro m' hm'
            rcases HB.out with ⟨e1, e2, e3⟩ | ⟨e1, e0, e2, e3⟩ | ⟨e1, _, e2, e3⟩
            · refine .inr (.inl ⟨by omega, by omega, by omega, ?_⟩)
              unfold lwA
              rw [if_pos (by rw [HN.out]; omega), hm', e2, e3]
            · refine .inr (.inr ⟨by omega, by omega, by omega, ?_⟩)
              unfold lw
              rw [if_pos (by rw [HN.out]; omega), hm', e2, e3]
            · omega
          have HSt := hide hstep
          clear hstep
          by_cases hm3 : n < 2 * j + 3
          all_goals
            go_wp2_with fail
            refine hah.mono ?_
            clear hah
            rintro e w3 ⟨rfl, hI3, hk3⟩
            have HS3 : Hid (HpAt w3 L p E Tr N B ∧ Kept wr w3 L.S) := ⟨HS.out.1.less hL hk3 hI3, hk3⟩
            have HK := hide (HS.out.2.trans hk3 (fun _ _ e => e))
            clear hI3 hk3 c4 c5 cb
            cases hr : ah L.lt (en E tb) (en E m) with
            | true =>
              have HM := hide (HSt.out tb (by unfold lw1; rw [HTB.out, hr]; rfl))
              clear hr
              go_wp2
              go_roundg (gk - 1)
              case measure => have := HB3.out; omega
              case rel => exact ⟨⟨HS3.out.1, HK.out⟩, b + 1, tb, by simp, rfl, HM.out⟩
            | false =>
              have HM := hide (HSt.out m (by unfold lw1; rw [HTB.out, hr]; rfl))
              clear hr
              go_wp2
              go_roundg (gk - 1)
              case measure => have := HB3.out; omega
              case rel => exact ⟨⟨HS3.out.1, HK.out⟩, b + 1, m, by simp, rfl, HM.out⟩
        · have hml : m = lw L.lt E Tr j := by
            rcases HB.out with ⟨e1, e2, e3⟩ | ⟨e1, e0, e2, e3⟩ | ⟨e1, _, e2, e3⟩
            · unfold lw lwA
              rw [if_neg (by rw [HN.out]; omega), if_neg (by rw [HN.out]; omega)]
              exact e3
            · unfold lw
              rw [if_neg (by rw [HN.out]; omega)]
              exact e3
            · exact e3
          have cj := own_cell hgl htl (tcells_get (T := Tr) (i := j) (by have := HR1.out.1; omega))
          have fj : wr.frozen? ⟨gl, j, none⟩ = false := free_row hgl j
          have hput := HpAt.put hL HS.out.1 hvl (j := j) (by have := HR1.out.1; omega) m
          have HP := hide hput
          have HML := hide hml
          clear hput hml hve hvl hgl htl hsub HB
          have hjn : j < n := by omega
          have hnot : ¬ b < n ∨ ¬ b < 2 * j + 3 := by omega
          clear hbn
          by_cases hm3 : n < 2 * j + 3
          case' pos =>
            have hnb : ¬ b < n := by omega
          case' neg =>
            have hnb : ¬ b < 2 * j + 3 := by omega
          all_goals
            clear hnot
            have hab := above_any j (wr.setCell ⟨gl, j, none⟩ (.int .i64 (m : Int))) (by omega)
            generalize hk2 : (j + 1) / 2 = k2 at *
            have HK2 := hide hk2
            clear hk2
            go_wp2_with fail
            refine hab.mono ?_
            clear hab cj fj c4 c5
            rintro e w4 ⟨rfl, hw4⟩
            have HW := hide hw4
            clear hw4
            go_wp2
            go_roundg k2
            case measure => have := HK2.out; omega
            case rel =>
              refine ⟨rfl, by have := HK2.out; omega, Tr.set j m, by rw [List.length_set]; exact HR1.out.1, by rw [HW.out]; exact HP.out.1, ?_, ?_, ?_⟩
              · rw [← HR1.out.2.2.1, stl_step _ _ _ (Nat.succ_pos j), HML.out, HK2.out]
                rfl
              · intro c hc hp
                by_cases hcj : j = c
                · subst hcj
                  rw [tn_set_self (by rw [HR1.out.1]; exact hc)]
                  exact hmn
                · rw [tn_set_other hcj]
                  refine HR1.out.2.2.2.1 c hc (fun e => ?_)
                  rcases e.cases with e | e
                  · omega
                  · rw [HK2.out] at e; exact hp e
              · rw [HW.out]
                exact (HR1.out.2.2.2.2.trans HS.out.2 (fun _ _ e => .inl e)).trans HP.out.2 (fun _ _ e => .inr e)
end
end Go.Proofs.YtjfhilignbeboaaGreatDoor.Hp
/- What is asked of a heap. -/
namespace Go.Proofs.YtjfhilignbeboaaGreatDoor.Hp
open Go.RowKit
attribute [local go_sem ↓] Go.wp_at_zero Go.wp_at_succ
/-- Where the item of a handle lies. -/
def fi (E : List (Nat × Int)) (x : Int) : Option Nat := E.findIdx? (fun e => (e.1 : Int) == x)
theorem fi_lt {E : List (Nat × Int)} {x : Int} {i : Nat} (h : fi E x = some i) : i < E.length ∧ ((en E i).1 : Int) = x := by
  unfold fi at h
  rw [List.findIdx?_eq_some_iff_getElem] at h
  obtain ⟨h1, h2, _⟩ := h
  refine ⟨h1, ?_⟩
  unfold en
  rw [List.getElem?_eq_getElem h1]
  simpa using h2
theorem wf_i64 {s : Int} (h0 : -9223372036854775808 ≤ s) (h1 : s ≤ 9223372036854775807) : (Lit.int .i64 s).wf = true := by
  simp [Lit.wf, IntKind.min, IntKind.max, IntKind.signed, IntKind.bits]; omega
section
variable {w w' : World} {L : Les} {p : Hp} {E : List (Nat × Int)} {T : List Nat} {N B : Nat}
theorem own_form {w : World} {e : TypeId} {sz n : Nat} {v : Value} {xs : List Value} (h : w.ownsRow 0 e sz v n xs) : ∃ vo cap, v = .slice vo n cap ∧ n ≤ cap := by
  rcases h.2 with ⟨rfl, rfl⟩ | ⟨g, cap, cur, hv, hb, hg, hn, _⟩
  · exact ⟨none, 0, rfl, Nat.le_refl _⟩
  · exact ⟨_, cap, hv, hn⟩
set_option maxRecDepth 20000 in
theorem none_at (h : HpAt w L p E T N B) : Calls Tryz.prog 146 #[.pointer (some ⟨p.h, 0, none⟩)] w fun e w' => e = .returned (.bool false) ∧ w' = w := by
  obtain ⟨c0, -, c2, -, -, -, -⟩ := h.cells
  have hsome : (Tryz.prog.info? 190).isSome = true := by kernel_rfl
  obtain ⟨j, hj⟩ := Option.isSome_iff_exists.1 hsome
  have hs := Go.Lib.run_neq_ptr_same (P := Tryz.prog) (tp := 42) (te := 190) w ⟨p.h, 0, none⟩ Tryz.underlying42 hj
  clear h hsome hj
  go_enter Tryz.func146, Tryz.ntmps146
  go_wp2
  go_ret
  exact ⟨rfl, rfl⟩
end
end Go.Proofs.YtjfhilignbeboaaGreatDoor.Hp
/- An item goes. -/
namespace Go.Proofs.YtjfhilignbeboaaGreatDoor.Hp
open Go.RowKit
attribute [local go_sem ↓] Go.wp_at_zero Go.wp_at_succ
/-- A heap in the midst of a change: its rows' cells, what its map answers. -/
structure HpR (w : World) (L : Les) (p : Hp) (ne : Nat) (cs : List Value) (nt : Nat) (ts : List Value) (N B : Nat) (f : Int → Option Value) : Prop where
  head : w.heap[p.h]? = some (.cells (hpc L p.h (N : Int) p.ve p.vl p.mb).toArray 190 (0, 0))
  ent : w.ownsRow 0 196 2 p.ve ne cs
  lst : w.ownsRow 0 3 1 p.vl nt ts
  map : MapAt w Tryz.prog 3 p.mb B f
  inv : L.I w
  off : ∀ i, p.own i → ¬ L.F i
section
variable {w w' : World} {L : Les} {p : Hp} {E : List (Nat × Int)} {T : List Nat} {N B : Nat} {ne nt : Nat} {cs ts : List Value} {f : Int → Option Value}
theorem HpAt.raw (h : HpAt w L p E T N B) : HpR w L p E.length (ecells E) T.length (tcells T) N B (plf E) := ⟨h.head, h.ent, h.lst, h.map, h.inv, h.off⟩
theorem HpR.lt (h : HpR w L p ne cs nt ts N B f) : ∀ i, p.own i → i < w.heap.size := by
  rintro i (rfl | hi | hi | rfl)
  · exact row_lt h.head
  · exact (h.ent.lt i hi).2
  · exact (h.lst.lt i hi).2
  · exact h.map.lt
theorem HpR.far {X : Nat → Prop} (h : HpR w L p ne cs nt ts N B f) (k : Kept w w' X) (hX : ∀ i, p.own i → ¬ X i) (hI : L.I w') : HpR w' L p ne cs nt ts N B f :=
  ⟨k.at h.head (hX _ (.inl rfl)), row_same h.ent (fun g hg => k.block g (h.lt g (.inr (.inl hg))) (hX g (.inr (.inl hg)))), row_same h.lst (fun g hg => k.block g (h.lt g (.inr (.inr (.inl hg)))) (hX g (.inr (.inr (.inl hg))))), h.map.same (k.block _ h.map.lt (hX _ (.inr (.inr (.inr rfl))))), hI, h.off⟩
theorem HpR.then (hL : L.Ok) (h : HpR w L p ne cs nt ts N B f) (g : w.grownBy w' none) : HpR w' L p ne cs nt ts N B f :=
  h.far (X := fun _ => False) (Kept.new g _) (fun _ _ e => e) (hL.keep w w' (fun _ => False) h.inv (Kept.new g _) (fun _ e => e.elim))
theorem row_block {w : World} {e : TypeId} {size : Nat} {v : Value} {n : Nat} {xs : List Value} (h : w.ownsRow 0 e size v n xs) {g : Nat} (hg : v.ownBlock = some g) : ∃ cur, w.heap[g]? = some (.cells cur e (0, 0)) := by
  rcases h.2 with ⟨hq2, _⟩ | ⟨g2, c2, cu2, hq2, hq3, hq4, _⟩
  · rw [hq2] at hg; cases hg
  · rw [hq2] at hg; cases hg; exact ⟨cu2, hq4⟩
theorem HpR.apart (h : HpR w L p ne cs nt ts N B f) : (∀ g, p.ve.ownBlock = some g → g ≠ p.h ∧ g ≠ p.mb ∧ p.vl.ownBlock ≠ some g) ∧ (∀ g, p.vl.ownBlock = some g → g ≠ p.h ∧ g ≠ p.mb ∧ p.ve.ownBlock ≠ some g) ∧ p.h ≠ p.mb := by
  obtain ⟨es, ck, hm⟩ := h.map.block
  have hh := h.head
  refine ⟨fun g hg => ?_, fun g hg => ?_, fun e => by rw [e, hm] at hh; cases hh⟩
  · obtain ⟨cur, hc⟩ := row_block h.ent hg
    refine ⟨fun e => ?_, fun e => ?_, fun e => ?_⟩
    · rw [← e, hc] at hh; simp at hh
    · rw [← e, hc] at hm; cases hm
    · obtain ⟨c2, h2⟩ := row_block h.lst e; rw [hc] at h2; simp at h2
  · obtain ⟨cur, hc⟩ := row_block h.lst hg
    refine ⟨fun e => ?_, fun e => ?_, fun e => ?_⟩
    · rw [← e, hc] at hh; simp at hh
    · rw [← e, hc] at hm; cases hm
    · obtain ⟨c2, h2⟩ := row_block h.ent e; rw [hc] at h2; simp at h2
/-- The map alone turned. -/
theorem HpR.mapped (hL : L.Ok) (h : HpR w L p ne cs nt ts N B f) {B' : Nat} {f' : Int → Option Value} (hg : w.grownBy w' (some p.mb)) (hm : MapAt w' Tryz.prog 3 p.mb B' f') : HpR w' L p ne cs nt ts N B' f' ∧ Kept w w' p.own := by
  obtain ⟨a1, a2, a3⟩ := h.apart
  have k : Kept w w' (fun i => i = p.mb) := Kept.of hg (fun j e _ => (Option.some.inj e).symm)
  exact ⟨⟨k.at h.head a3, row_same h.ent (fun g hg => k.block g (h.lt g (.inr (.inl hg))) (a1 g hg).2.1), row_same h.lst (fun g hg => k.block g (h.lt g (.inr (.inr (.inl hg)))) (a2 g hg).2.1), hm, hL.keep _ _ _ h.inv k (fun i e => by rw [e]; exact h.off _ (.inr (.inr (.inr rfl)))), h.off⟩, k.mono (fun i _ e => by rw [e]; exact .inr (.inr (.inr rfl)))⟩
theorem row_cut {w : World} {e : TypeId} {size : Nat} {v : Value} {n : Nat} {xs : List Value} (h : w.ownsRow 0 e size v n xs) {m : Nat} (hm : m ≤ n) {g cap : Nat} (hv : v = .slice (some ⟨g, 0, none⟩) n cap) : w.ownsRow 0 e size (.slice (some ⟨g, 0, none⟩) m cap) m (xs.take (m * size)) := by
  refine ⟨by rw [List.length_take, h.1]; exact Nat.min_eq_left (Nat.mul_le_mul_right _ hm), ?_⟩
  rcases h.2 with ⟨h1, h0⟩ | ⟨g', cap', cur, hv', hb, hg, hn, hm', hs, ht⟩
  · rw [hv] at h1; cases h1
  · rw [hv] at hv'
    cases hv'
    refine Or.inr ⟨g, cap, cur, rfl, Nat.zero_le _, hg, by omega, hm', hs, ?_⟩
    rw [← ht, List.take_take, Nat.min_eq_left (Nat.mul_le_mul_right _ hm)]
/-- Both rows are cut. -/
theorem HpR.cut (hL : L.Ok) (h : HpR w L p ne cs nt ts N B f) {ge ce gl cl m : Nat} (hve : p.ve = .slice (some ⟨ge, 0, none⟩) ne ce) (hvl : p.vl = .slice (some ⟨gl, 0, none⟩) nt cl) (he : m ≤ ne) (hl : m ≤ nt) (hs : (w.setCell ⟨p.h, 4, none⟩ (.slice (some ⟨ge, 0, none⟩) m ce)).setCell ⟨p.h, 5, none⟩ (.slice (some ⟨gl, 0, none⟩) m cl) = w') :
    HpR w' L ⟨p.h, .slice (some ⟨ge, 0, none⟩) m ce, .slice (some ⟨gl, 0, none⟩) m cl, p.mb⟩ m (cs.take (m * 2)) m (ts.take m) N B f ∧ Kept w w' p.own := by
  obtain ⟨a1, a2, a3⟩ := h.apart
  subst hs
  have hoe : p.ve.ownBlock = some ge := by rw [hve]; rfl
  have hol : p.vl.ownBlock = some gl := by rw [hvl]; rfl
  have k := (kept_setCell w p.h 4 (.slice (some ⟨ge, 0, none⟩) m ce)).trans (kept_setCell _ p.h 5 (.slice (some ⟨gl, 0, none⟩) m cl)) (fun _ _ e => e)
  refine ⟨⟨row_setCell (row_setCell h.head 4 _) 5 _, ?_, ?_, h.map.same (k.block _ h.map.lt (fun e => a3 e.symm)), hL.keep _ _ _ h.inv k (fun i e => by rw [e]; exact h.off _ (.inl rfl)), ?_⟩, k.mono (fun i _ e => .inl e)⟩
  · exact row_cut (row_same h.ent (fun g hg => k.block g (h.lt g (.inr (.inl hg))) (a1 g hg).1)) he hve
  · have := row_cut (row_same h.lst (fun g hg => k.block g (h.lt g (.inr (.inr (.inl hg)))) (a2 g hg).1)) hl hvl
    rw [Nat.mul_one] at this
    exact this
  · rintro i (e | e | e | e)
    · exact h.off i (.inl e)
    · exact h.off i (.inr (.inl (by rw [hoe]; exact e)))
    · exact h.off i (.inr (.inr (.inl (by rw [hol]; exact e))))
    · exact h.off i (.inr (.inr (.inr e)))
theorem HpR.cells (h : HpR w L p ne cs nt ts N B f) : w.cell? ⟨p.h, 4, none⟩ = some p.ve ∧ w.cell? ⟨p.h, 5, none⟩ = some p.vl ∧ w.cell? ⟨p.h, 6, none⟩ = some (.map (some p.mb)) := ⟨cell_row h.head 4, cell_row h.head 5, cell_row h.head 6⟩
/-- No two items have one handle; all handles lie below N. -/
structure Hds (E : List (Nat × Int)) (N : Nat) : Prop where
  inj : ∀ i j, i < E.length → j < E.length → (en E i).1 = (en E j).1 → i = j
  below : ∀ i, i < E.length → (en E i).1 < N
theorem plf_eq (E : List (Nat × Int)) (x : Int) : plf E x = (fi E x).map fun (i : Nat) => Value.int .i64 (i : Int) := by unfold plf fi; cases E.findIdx? _ <;> rfl
theorem fi_at {E : List (Nat × Int)} {N : Nat} (h : Hds E N) {i : Nat} (hi : i < E.length) : fi E ((en E i).1 : Int) = some i := by
  unfold fi
  rw [List.findIdx?_eq_some_iff_getElem]
  have he : en E i = E[i] := by unfold en; rw [List.getElem?_eq_getElem hi]; rfl
  refine ⟨hi, by rw [he]; simp, fun j hj => ?_⟩
  rw [he]
  intro e
  have e2 : (en E j).1 = (en E i).1 := by
    rw [he]
    unfold en
    rw [List.getElem?_eq_getElem (show j < E.length by omega)]
    have e3 : ((E[j].1 : Nat) : Int) = ((E[i].1 : Nat) : Int) := by simpa using e
    show E[j].1 = E[i].1
    omega
  have := h.inj j i (by omega) hi e2
  omega
theorem fi_none {E : List (Nat × Int)} {x : Int} (h : ∀ i, i < E.length → ((en E i).1 : Int) ≠ x) : fi E x = none := by
  unfold fi
  rw [List.findIdx?_eq_none_iff]
  intro e he
  obtain ⟨i, hi, rfl⟩ := List.getElem_of_mem he
  have := h i hi
  unfold en at this
  rw [List.getElem?_eq_getElem hi] at this
  simpa using this
theorem fi_some {E : List (Nat × Int)} {N : Nat} (h : Hds E N) {x : Int} {i : Nat} (hi : i < E.length) (hx : ((en E i).1 : Int) = x) : fi E x = some i := by rw [← hx]; exact fi_at h hi
theorem outE_get {E : List (Nat × Int)} {i j : Nat} (hi : i < E.length) (hj : j < E.length - 1) : en (outE E i) j = if j = i then en E (E.length - 1) else en E j := by
  split
  · rename_i e
    subst e
    unfold en outE
    rw [List.getElem?_take, if_pos hj, List.getElem?_set_self hi]
    rfl
  · rename_i e
    exact en_out hj e
theorem en_inj {E : List (Nat × Int)} {N : Nat} (h : Hds E N) {i j : Nat} (hi : i < E.length) (hj : j < E.length) (e : (en E i).1 = (en E j).1) : i = j := h.inj i j hi hj e
theorem Hds.at {E : List (Nat × Int)} {N : Nat} (h : Hds E N) {i : Nat} (hi : i < E.length) : (en E i).1 < N := h.below i hi
theorem Hds.out {E : List (Nat × Int)} {N : Nat} (h : Hds E N) {i : Nat} (hi : i < E.length) : Hds (outE E i) N := by
  refine Hds.mk (fun a b ha hb e => ?_) (fun a ha => ?_)
  · rw [outE_length] at ha hb
    rw [outE_get hi ha, outE_get hi hb] at e
    split at e <;> split at e
    · omega
    · have := en_inj h (by omega) (by omega) e; omega
    · have := en_inj h (by omega) (by omega) e; omega
    · exact en_inj h (by omega) (by omega) e
  · rw [outE_length] at ha
    rw [outE_get hi ha]
    split
    · exact h.at (by omega)
    · exact h.at (by omega)
end
end Go.Proofs.YtjfhilignbeboaaGreatDoor.Hp
/- An item goes: the walk. -/
namespace Go.Proofs.YtjfhilignbeboaaGreatDoor.Hp
open Go.RowKit
attribute [local go_sem ↓] Go.wp_at_zero Go.wp_at_succ
section
variable {w w' : World} {L : Les} {p : Hp} {E : List (Nat × Int)} {T : List Nat} {N B : Nat} {ne nt : Nat} {cs ts : List Value} {f : Int → Option Value}
end
end Go.Proofs.YtjfhilignbeboaaGreatDoor.Hp
/- An item more. -/
namespace Go.Proofs.YtjfhilignbeboaaGreatDoor.Hp
open Go.RowKit
attribute [local go_sem ↓] Go.wp_at_zero Go.wp_at_succ
theorem Tryz.info196 : (Tryz.prog.info? 196).map (fun i => (i.zero, i.size, i.bytes)) = some (some (.agg #[.int .i64 0, .int .u32 0]), 2, 16) := by kernel_rfl
theorem Tryz.info3 : (Tryz.prog.info? 3).map (fun i => (i.zero, i.size, i.bytes)) = some (some (.int .i64 0), 1, 8) := by kernel_rfl
section
variable {w w' w2 : World} {L : Les} {p : Hp} {E : List (Nat × Int)} {T : List Nat} {N B : Nat} {ne nt : Nat} {cs ts : List Value} {f : Int → Option Value}
/-- The entries are appended to. -/
theorem HpR.appE (hL : L.Ok) (h : HpR w L p ne cs nt ts N B f) {v' : Value} {ne' : Nat} {cs' : List Value} (ho : w2.ownsRow 0 196 2 v' ne' cs') (hg : w.grownBy w2 p.ve.ownBlock) (hb : v'.ownBlock = p.ve.ownBlock ∨ v'.ownBlock = some w.heap.size) :
    HpR (w2.setCell ⟨p.h, 4, none⟩ v') L ⟨p.h, v', p.vl, p.mb⟩ ne' cs' nt ts N B f ∧ Kept w (w2.setCell ⟨p.h, 4, none⟩ v') p.own := by
  obtain ⟨a1, a2, a3⟩ := h.apart
  have hph := row_lt h.head
  have k1 : Kept w w2 (fun i => p.ve.ownBlock = some i) := Kept.of hg (fun j e _ => e)
  have k2 := kept_setCell w2 p.h 4 v'
  have hvh : v'.ownBlock ≠ some p.h := fun e => by
    rcases hb with hb | hb
    · rw [hb] at e; exact (a1 _ e).1 rfl
    · rw [hb] at e; have := Option.some.inj e; omega
  have kk : Kept w (w2.setCell ⟨p.h, 4, none⟩ v') (fun i => p.ve.ownBlock = some i ∨ i = p.h) := (k1.mono (fun _ _ e => .inl e)).trans k2 (fun _ _ e => .inr e)
  refine ⟨⟨?_, row_same ho (fun g hg => k2.block g (ho.lt g hg).2 (fun e => hvh (by rw [← e]; exact hg))), row_same h.lst (fun g hg => kk.block g (h.lt g (.inr (.inr (.inl hg)))) (fun e => e.elim (fun e => (a2 g hg).2.2 e) (a2 g hg).1)), h.map.same (kk.block _ h.map.lt (fun e => e.elim (fun e => (a1 _ e).2.1 rfl) (fun e => a3 e.symm))), ?_, ?_⟩, ?_⟩
  · exact row_setCell (k1.at h.head (fun e => (a1 _ e).1 rfl)) 4 v'
  · refine hL.keep _ _ _ h.inv kk (fun i e => ?_)
    rcases e with e | e
    · exact h.off i (.inr (.inl e))
    · exact h.off i (.inl e)
  · rintro i (e | e | e | e)
    · exact h.off i (.inl e)
    · rcases hb with hb | hb
      · exact h.off i (.inr (.inl (by rw [← hb]; exact e)))
      · intro hF
        have := hL.below w i h.inv hF
        have e2 : v'.ownBlock = some i := e
        rw [hb] at e2
        have := Option.some.inj e2
        omega
    · exact h.off i (.inr (.inr (.inl e)))
    · exact h.off i (.inr (.inr (.inr e)))
  · exact kk.mono (fun i _ e => e.elim (fun e => .inr (.inl e)) (fun e => .inl e))
theorem HpR.appT (hL : L.Ok) (h : HpR w L p ne cs nt ts N B f) {v' : Value} {nt' : Nat} {ts' : List Value} (ho : w2.ownsRow 0 3 1 v' nt' ts') (hg : w.grownBy w2 p.vl.ownBlock) (hb : v'.ownBlock = p.vl.ownBlock ∨ v'.ownBlock = some w.heap.size) :
    HpR (w2.setCell ⟨p.h, 5, none⟩ v') L ⟨p.h, p.ve, v', p.mb⟩ ne cs nt' ts' N B f ∧ Kept w (w2.setCell ⟨p.h, 5, none⟩ v') p.own := by
  obtain ⟨a1, a2, a3⟩ := h.apart
  have hph := row_lt h.head
  have k1 : Kept w w2 (fun i => p.vl.ownBlock = some i) := Kept.of hg (fun j e _ => e)
  have k2 := kept_setCell w2 p.h 5 v'
  have hvh : v'.ownBlock ≠ some p.h := fun e => by
    rcases hb with hb | hb
    · rw [hb] at e; exact (a2 _ e).1 rfl
    · rw [hb] at e; have := Option.some.inj e; omega
  have kk : Kept w (w2.setCell ⟨p.h, 5, none⟩ v') (fun i => p.vl.ownBlock = some i ∨ i = p.h) := (k1.mono (fun _ _ e => .inl e)).trans k2 (fun _ _ e => .inr e)
  refine ⟨⟨?_, row_same h.ent (fun g hg => kk.block g (h.lt g (.inr (.inl hg))) (fun e => e.elim (fun e => (a1 g hg).2.2 e) (a1 g hg).1)), row_same ho (fun g hg => k2.block g (ho.lt g hg).2 (fun e => hvh (by rw [← e]; exact hg))), h.map.same (kk.block _ h.map.lt (fun e => e.elim (fun e => (a2 _ e).2.1 rfl) (fun e => a3 e.symm))), ?_, ?_⟩, ?_⟩
  · exact row_setCell (k1.at h.head (fun e => (a2 _ e).1 rfl)) 5 v'
  · refine hL.keep _ _ _ h.inv kk (fun i e => ?_)
    rcases e with e | e
    · exact h.off i (.inr (.inr (.inl e)))
    · exact h.off i (.inl e)
  · rintro i (e | e | e | e)
    · exact h.off i (.inl e)
    · exact h.off i (.inr (.inl e))
    · rcases hb with hb | hb
      · exact h.off i (.inr (.inr (.inl (by rw [← hb]; exact e))))
      · intro hF
        have := hL.below w i h.inv hF
        have e2 : v'.ownBlock = some i := e
        rw [hb] at e2
        have := Option.some.inj e2
        omega
    · exact h.off i (.inr (.inr (.inr e)))
  · exact kk.mono (fun i _ e => e.elim (fun e => .inr (.inr (.inl e))) (fun e => .inl e))
/-- The next handle is counted up. -/
theorem HpR.count (hL : L.Ok) (h : HpR w L p ne cs nt ts N B f) : HpR (w.setCell ⟨p.h, 3, none⟩ (.int .i64 ((N : Int) + 1))) L p ne cs nt ts (N + 1) B f ∧ Kept w (w.setCell ⟨p.h, 3, none⟩ (.int .i64 ((N : Int) + 1))) p.own := by
  obtain ⟨a1, a2, a3⟩ := h.apart
  have k := kept_setCell w p.h 3 (.int .i64 ((N : Int) + 1))
  exact ⟨⟨row_setCell h.head 3 _, row_same h.ent (fun g hg => k.block g (h.lt g (.inr (.inl hg))) (a1 g hg).1), row_same h.lst (fun g hg => k.block g (h.lt g (.inr (.inr (.inl hg)))) (a2 g hg).1), h.map.same (k.block _ h.map.lt (fun e => a3 e.symm)), hL.keep _ _ _ h.inv k (fun i e => by rw [e]; exact h.off _ (.inl rfl)), h.off⟩, k.mono (fun i _ e => .inl e)⟩
/-- A heap, and all that is so of its items. -/
structure HS (w : World) (L : Les) (p : Hp) (E : List (Nat × Int)) (T : List Nat) (N B : Nat) : Prop where
  at_ : HpAt w L p E T N B
  good : Good L.lt E T
  hds : Hds E N
  ok : ∀ e ∈ E, L.ok e.2
/-- What a step leaves: the same heap, all else but what is its own and what less may write. -/
structure Hst (w w' : World) (L : Les) (p q : Hp) : Prop where
  h : q.h = p.h
  mb : q.mb = p.mb
  kept : Kept w w' (fun j => L.S j ∨ p.own j)
  own : ∀ j, q.own j → p.own j ∨ w.heap.size ≤ j
theorem Hst.refl (w : World) (L : Les) (p : Hp) : Hst w w L p p := ⟨rfl, rfl, Kept.refl _ _, fun _ e => .inl e⟩
theorem Hst.grown {w w' : World} (g : w.grownBy w' none) (L : Les) (p : Hp) : Hst w w' L p p := ⟨rfl, rfl, Kept.new g _, fun _ e => .inl e⟩
theorem Hst.trans {a b c : World} {L : Les} {p q r : Hp} (h : Hst a b L p q) (k : Hst b c L q r) : Hst a c L p r := by
  refine ⟨k.h.trans h.h, k.mb.trans h.mb, h.kept.trans k.kept (fun i hi e => ?_), fun j e => ?_⟩
  · rcases e with e | e
    · exact .inl e
    · rcases h.own i e with e | e
      · exact .inr e
      · omega
  · rcases k.own j e with e | e
    · exact h.own j e
    · exact .inr (Nat.le_trans h.kept.size e)
theorem Hds.push {E : List (Nat × Int)} {N : Nat} (h : Hds E N) (v : Int) : Hds (E ++ [(N, v)]) (N + 1) := by
  have hl : ∀ i, i < E.length + 1 → en (E ++ [(N, v)]) i = if i < E.length then en E i else (N, v) := by
    intro i hi
    split
    · rename_i h1; exact en_append_left h1
    · rename_i h1
      have : i = E.length := by omega
      subst this
      simp [en]
  constructor
  · intro i j hi hj e
    simp at hi hj
    rw [hl i hi, hl j hj] at e
    split at e <;> split at e
    · exact h.inj i j (by omega) (by omega) e
    · have := h.below i (by omega); simp at e; omega
    · have := h.below j (by omega); simp at e; omega
    · omega
  · intro i hi
    simp at hi
    rw [hl i hi]
    split
    · have := h.below i (by omega); omega
    · simp
theorem plf_push {E : List (Nat × Int)} {N : Nat} (h : Hds E N) (v : Int) (x : Int) : (if x = (N : Int) then some (Value.int .i64 (E.length : Int)) else plf E x) = plf (E ++ [(N, v)]) x := by
  have hp := h.push v
  have hl : ∀ i, i < E.length → en (E ++ [(N, v)]) i = en E i := fun i hi => en_append_left hi
  have hn : en (E ++ [(N, v)]) E.length = (N, v) := by simp [en]
  rw [plf_eq, plf_eq]
  split
  · rename_i e
    rw [fi_some hp (i := E.length) (by simp) (by rw [hn]; exact e.symm)]
    rfl
  · rename_i e
    cases hf : fi E x with
    | none =>
      rw [fi_none]
      intro i hi ex
      simp at hi
      by_cases h1 : i < E.length
      · rw [hl i h1] at ex
        rw [fi_some h h1 ex] at hf; cases hf
      · have : i = E.length := by omega
        subst this
        rw [hn] at ex
        exact e ex.symm
    | some i =>
      obtain ⟨h1, h2⟩ := fi_lt hf
      rw [fi_some hp (i := i) (by simp; omega) (by rw [hl i h1]; exact h2)]
theorem cell2_new (w : World) (a b : Value) (t : TypeId) : ∀ j x, [a, b][j]? = some x → (w.alloc (.cells #[a, b] t)).cell? ((⟨w.heap.size, 0, none⟩ : Addr).add j) = some x := by
  intro j x hx
  have hb : (w.alloc (.cells #[a, b] t)).heap[w.heap.size]? = some (.cells [a, b].toArray t (0, 0)) := heap_alloc_new w _
  rw [Addr.add_lit, Nat.zero_add, cell_row hb]
  exact hx
theorem cell1_new (w : World) (a : Value) (t : TypeId) : ∀ j x, [a][j]? = some x → (w.alloc (.cells #[a] t)).cell? ((⟨w.heap.size, 0, none⟩ : Addr).add j) = some x := by
  intro j x hx
  have hb : (w.alloc (.cells #[a] t)).heap[w.heap.size]? = some (.cells [a].toArray t (0, 0)) := heap_alloc_new w _
  rw [Addr.add_lit, Nat.zero_add, cell_row hb]
  exact hx
set_option maxRecDepth 20000 in
set_option maxHeartbeats 4000000 in
theorem push_any (hL : L.Ok) (h : HS w L p E T N B) (hE : E.length < 65536) (hN : N ≤ 100000000) (hB : B ≤ 100000000) (v : Int) (hv : L.ok v) :
    Calls Tryz.prog 99 #[.pointer (some ⟨p.h, 0, none⟩), .int .u32 v] w fun e w' => e = .returned (.tuple #[.int .i64 (N : Int), .int .i64 0]) ∧ ∃ q T', HS w' L q (E ++ [(N, v)]) T' (N + 1) (B + 1) ∧ Hst w w' L p q := by
  have hn := none_at h.at_
  have R0 := h.at_.raw
  rw [h.good.len] at R0
  obtain ⟨-, -, -, c3, c4, -, -⟩ := h.at_.cells
  obtain ⟨vo, cap, hve, -⟩ := own_form R0.ent
  have f3 : w.frozen? ⟨p.h, 3, none⟩ = false := free_row R0.head 3
  have hR1 := R0.count hL
  have HR0 := hide (And.intro h R0)
  clear h R0
  rw [hve] at c4
  have HVE := hide hve
  clear hve
  generalize hn1 : E.length = n at *
  have HN1 := hide hn1
  clear hn1
  have hne : ((n : Int) == 65536) = false := by simp; omega
  have hne2 : decide ((n : Int) = 65536) = false := by simp; omega
  have HR1 := hide hR1
  clear hR1
  go_enter Tryz.func99, Tryz.ntmps99
  go_wp2_with fail
  refine hn.mono ?_
  rintro e w1 ⟨rfl, hw1⟩
  obtain rfl := hw1.symm
  go_upto_region 8 with fail
  clear hn c3 f3
  generalize w.setCell ⟨p.h, 3, none⟩ (.int .i64 ((N : Int) + 1)) = w2 at *
  have hc4 := HR1.out.1.cells.1
  rw [HVE.out] at hc4
  obtain ⟨i0, hi0, hz0, hz1, hz2⟩ := info_parts Tryz.info196
  have HI0 := hide (And.intro hi0 (And.intro hz0 (And.intro hz1 hz2)))
  clear hi0 hz0 hz1 hz2 c4
  have gA := World.grownBy_alloc w2 (.cells #[.int .i64 (N : Int), .int .u32 v] 196) none
  have hRA := HR1.out.1.then hL gA
  have HRA := hide (And.intro hRA gA)
  clear hRA gA
  have hph4 : (w2.alloc (.cells #[.int .i64 (N : Int), .int .u32 v] 196)).cell? ⟨p.h, 4, none⟩ = some p.ve := HRA.out.1.cells.1
  clear hph4
  go_wp2_with (at_builtin; refine wpList_append_own_at _ rfl (.tmp 32) (.tmp 36) 187 rfl 0 196 i0 (.agg #[.int .i64 0, .int .u32 0]) 2 16 Tryz.underlying187 HI0.out.1 HI0.out.2.1 HI0.out.2.2.1 HI0.out.2.2.2 rfl (by decide) (.slice vo n cap) n (ecells E) rfl (by rw [← HVE.out]; exact HRA.out.1.ent) ⟨w2.heap.size, 0, none⟩ 1 1 [.int .i64 (N : Int), .int .u32 v] rfl rfl (cell2_new _ _ _ _) (by simp [Value.oneCell']) (by unfold maxLen; omega) (by omega) (Nat.zero_le _) ?_)
  intro v3 w3 ho3 hg3 hv3 hb3
  rw [← HVE.out] at hg3 hb3
  obtain ⟨vo3, cap3, rfl, -⟩ := own_form ho3
  have hcE := HRA.out.1.appE hL ho3 hg3 (by rw [World.size_alloc]; exact hb3)
  have ph3 := hg3.cell (HRA.out.1.cells.1) (fun e => (HRA.out.1.apart.1 p.h e.symm).1 rfl)
  have pf3 : w3.frozen? ⟨p.h, 4, none⟩ = false := free_row ((Kept.of hg3 (S := fun j => p.ve.ownBlock = some j) (fun j e _ => e)).at HRA.out.1.head (fun e => (HRA.out.1.apart.1 p.h e).1 rfl)) 4
  have HE3 := hide (And.intro hcE hb3)
  clear hcE hg3 hv3 hb3 ho3
  go_upto_region 9 with fail
  generalize w3.setCell ⟨p.h, 4, none⟩ (.slice vo3 (n + 1) cap3) = w4 at *
  clear ph3 pf3 hc4
  obtain ⟨pE, hpE⟩ : ∃ q : Hp, q = ⟨p.h, .slice vo3 (n + 1) cap3, p.vl, p.mb⟩ := ⟨_, rfl⟩
  have hR4 := HE3.out.1.1
  have hK4 := ((Kept.new HRA.out.2 p.own).trans HE3.out.1.2 (fun _ _ e => e))
  have hB4 : ∀ j, pE.own j → p.own j ∨ w2.heap.size ≤ j := by
    rw [hpE]
    rintro j (e | e | e | e)
    · exact .inl (.inl e)
    · rcases HE3.out.2 with h1 | h1
      · exact .inl (.inr (.inl (by rw [← h1]; exact e)))
      · have e2 : some (w2.heap.size + 1) = some j := by rw [← h1]; exact e
        have := Option.some.inj e2
        exact .inr (by omega)
    · exact .inl (.inr (.inr (.inl e)))
    · exact .inl (.inr (.inr (.inr e)))
  rw [← hpE] at hR4
  have hpEh : pE.h = p.h := by rw [hpE]
  have hpEm : pE.mb = p.mb := by rw [hpE]
  have HPM := hide hpEm
  clear hpEm
  have hpEl : pE.vl = p.vl := by rw [hpE]
  have H4 := hide (And.intro hR4 (And.intro hK4 (And.intro hB4 hpEl)))
  clear hR4 hK4 hB4 hpE HE3 HI0
  obtain ⟨vl, capl, hvl, -⟩ := own_form H4.out.1.lst
  obtain ⟨-, c5, -⟩ := H4.out.1.cells
  rw [hpEh, hvl] at c5
  have HVL := hide hvl
  clear hvl
  obtain ⟨i0, hi0, hz0, hz1, hz2⟩ := info_parts Tryz.info3
  have HI0 := hide (And.intro hi0 (And.intro hz0 (And.intro hz1 hz2)))
  clear hi0 hz0 hz1 hz2
  have gA := World.grownBy_alloc w4 (.cells #[.int .i64 (n : Int)] 3) none
  have hRB := H4.out.1.then hL gA
  have HRB := hide (And.intro hRB gA)
  clear hRB gA
  go_wp2_with (at_builtin; refine wpList_append_own_at _ rfl (.tmp 44) (.tmp 46) 188 rfl 0 3 i0 (.int .i64 0) 1 8 Tryz.underlying188 HI0.out.1 HI0.out.2.1 HI0.out.2.2.1 HI0.out.2.2.2 rfl (by decide) (.slice vl n capl) n (tcells T) rfl (by rw [← HVL.out]; exact HRB.out.1.lst) ⟨w4.heap.size, 0, none⟩ 1 1 [.int .i64 (n : Int)] rfl rfl (cell1_new _ _ _) (by simp [Value.oneCell']) (by unfold maxLen; omega) (by omega) (Nat.zero_le _) ?_)
  intro v5 w5 ho5 hg5 hv5 hb5
  rw [← HVL.out] at hg5 hb5
  obtain ⟨vo5, cap5, rfl, -⟩ := own_form ho5
  have hcT := HRB.out.1.appT hL ho5 hg5 (by rw [World.size_alloc]; exact hb5)
  have ph5 := hg5.cell (HRB.out.1.cells.2.1) (fun e => (HRB.out.1.apart.2.1 pE.h e.symm).1 rfl)
  have pf5 : w5.frozen? ⟨pE.h, 5, none⟩ = false := free_row ((Kept.of hg5 (S := fun j => pE.vl.ownBlock = some j) (fun j e _ => e)).at HRB.out.1.head (fun e => (HRB.out.1.apart.2.1 pE.h e).1 rfl)) 5
  rw [hpEh] at ph5 pf5
  have HT5 := hide (And.intro hcT hb5)
  clear hcT hg5 hv5 hb5 ho5
  go_upto_region 10 with fail
  have hcT2 := HT5.out.1
  rw [hpEh] at hcT2
  generalize w5.setCell ⟨p.h, 5, none⟩ (.slice vo5 (n + 1) cap5) = w6 at *
  clear ph5 pf5 c5
  obtain ⟨q, hq⟩ : ∃ q : Hp, q = ⟨p.h, pE.ve, .slice vo5 (n + 1) cap5, pE.mb⟩ := ⟨_, rfl⟩
  have hR6 := hcT2.1
  have hK6 := ((Kept.new HRB.out.2 pE.own).trans hcT2.2 (fun _ _ e => e))
  have hB6 : ∀ j, q.own j → pE.own j ∨ w4.heap.size ≤ j := by
    rw [hq]
    rintro j (e | e | e | e)
    · exact .inl (.inl (by rw [hpEh]; exact e))
    · exact .inl (.inr (.inl e))
    · rcases HT5.out.2 with h1 | h1
      · exact .inl (.inr (.inr (.inl (by rw [← h1]; exact e))))
      · have e2 : some (w4.heap.size + 1) = some j := by rw [← h1]; exact e
        have := Option.some.inj e2
        exact .inr (by omega)
    · exact .inl (.inr (.inr (.inr e)))
  rw [← hq] at hR6
  have hqh : q.h = p.h := by rw [hq]
  have hqm : q.mb = pE.mb := by rw [hq]
  have hx : (Lit.int .i64 (N : Int)).wf = true := wf_i64 (by omega) (by omega)
  have k3 : Tryz.prog.underlying 3 = some (.int .i64) := by first | exact Tryz.underlying3 | kernel_rfl
  obtain ⟨w7, hrun7, hmap7, hg7⟩ := hR6.map.store k3 Tryz.underlying186 (by unfold maxLen; omega) hx (.int .i64 (n : Int))
  obtain ⟨R7, K7⟩ := hR6.mapped hL hg7 hmap7
  have hs1 : Hst w w2 L p p := ⟨rfl, rfl, HR1.out.2.mono (fun _ _ e => .inr e), fun _ e => .inl e⟩
  have hs2 : Hst w2 w4 L p pE := ⟨hpEh, HPM.out, H4.out.2.1.mono (fun _ _ e => .inr e), H4.out.2.2.1⟩
  have hs3 : Hst w4 w6 L pE q := ⟨hqh.trans hpEh.symm, hqm, hK6.mono (fun _ _ e => .inr e), hB6⟩
  have hs4 : Hst w6 w7 L q q := ⟨rfl, rfl, K7.mono (fun _ _ e => .inr e), fun _ e => .inl e⟩
  have hst7 := ((hs1.trans hs2).trans hs3).trans hs4
  have hc6 := hR6.cells.2.2
  rw [hqh] at hc6
  have hA7 : HpAt w7 L q (E ++ [(N, v)]) (T ++ [n]) (N + 1) (B + 1) := by
    refine ⟨R7.head, ?_, ?_, ?_, R7.inv, R7.off⟩
    · rw [List.length_append, HN1.out, ecells_snoc]; exact R7.ent
    · rw [List.length_append, HR0.out.1.good.len, HN1.out, tcells_snoc]; exact R7.lst
    · refine MapAt.congr R7.map (fun y => ?_)
      have := plf_push HR0.out.1.hds v y
      rw [HN1.out] at this
      exact this
  have hgd := HR0.out.1.good.push (N, v)
  rw [HN1.out] at hgd
  have hTl : T.length = n := by rw [HR0.out.1.good.len, HN1.out]
  have hok2 : ∀ e ∈ E ++ [(N, v)], L.ok e.2 := by
    intro e he
    rcases List.mem_append.1 he with h1 | h1
    · exact HR0.out.1.ok e h1
    · simp at h1; rw [h1]; exact hv
  have hEl : (E ++ [(N, v)]).length = n + 1 := by rw [List.length_append, HN1.out]; rfl
  have hst := settle_any hL hA7 (by rw [hEl, List.length_append, hTl]; rfl) (by rw [hEl]; omega) (n + 1) (by rw [hEl]; omega) (by
    rw [hEl]
    intro b hb hp
    by_cases h1 : b < n
    · rw [tn_append_left (by omega)]
      have := (HR0.out.1.good.sub b (by rw [HN1.out]; exact h1)).2
      rw [HN1.out] at this
      omega
    · exact absurd (by rw [show n = b by omega]; exact Pth.self b) hp) hok2
  rw [hqh, show (((n + 1 : Nat) : Int)) - 1 = (n : Int) by omega] at hst
  have HF := hide (And.intro hgd (And.intro hok2 hst7))
  have HMB := hide hmap7
  clear hqm hgd hok2 hst7 hs1 hs2 hs3 hs4 hA7 R7 K7 hR6 hK6 hB6 hq hmap7 hg7 hcT2 hTl hEl HT5 HRB hpEl
  go_wp2_with fail
  refine hst.mono ?_
  clear hst hrun7 hc6
  rintro e w8 ⟨rfl, hA8, k8⟩
  have H8 := hide (And.intro hA8 k8)
  clear hA8 k8
  go_wp2
  go_ret2
  refine ⟨rfl, q, _, ⟨H8.out.1, HF.out.1, HR0.out.1.hds.push v, HF.out.2.1⟩, HF.out.2.2.trans ⟨rfl, rfl, H8.out.2.mono (fun j _ e => e.imp_right (fun e => .inr (.inr (.inl e)))), fun _ e => .inl e⟩⟩
end
end Go.Proofs.YtjfhilignbeboaaGreatDoor.Hp
