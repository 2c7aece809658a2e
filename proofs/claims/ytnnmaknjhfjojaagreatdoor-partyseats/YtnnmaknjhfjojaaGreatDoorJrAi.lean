/- Texts joined: X1. -/
import Derived.Test.YtnnmaknjhfjojaaGreatDoorJrAh
/- Lists of spans that lie apart, and the lists that were grown out of them: what keeps both. Plain lemmas for flatSpans. -/
namespace Go.Proofs.YtnnmaknjhfjojaaGreatDoor.Af
open Go.RowKit

theorem Tryz.info33 : (Tryz.prog.info? 33).map (fun i => (i.zero, i.size, i.bytes)) = some (some (.slice none 0 0), 1, 24) := by kernel_rfl
theorem make_lists (K : Nat) (h : K ≤ 400000) (w : World) : (Instr.makeSlice 43 (.int .i64 (K : Int)) (.int .i64 (K : Int))).run Tryz.prog w = .ok (.slice (some ⟨w.heap.size, 0, none⟩) K K) (w.alloc (.cells (List.replicate K (Value.slice none 0 0)).toArray 33)) := by
  rw [run_make_row' (P := Tryz.prog) 43 33 (.slice none 0 0) 24 Tryz.underlying43 Tryz.info33 rfl .i64 .i64 K (by omega) (by omega) w, Ap.made_lists]

/-- What a longer row over the same place leaves of a shorter one. -/
theorem own_shorter {w w' : World} {B n N : Nat} {v g : Value} {xs ys : List Value} (hv : w.ownsRow B 64 2 v n xs) (hg : w.ownsRow B 64 2 g N ys) (hb : g.ownBlock = v.ownBlock) (h' : w'.ownsRow B 64 2 g N ys) (hn : n ≤ N) (hx : ys.take (n * 2) = xs) : w'.ownsRow B 64 2 v n xs := by
  refine ⟨hv.1, ?_⟩
  rcases hv.2 with ⟨rfl, h0⟩ | ⟨b, cap, cur, rfl, hB, hc, hnc, hcm, hcs, htk⟩
  · exact Or.inl ⟨rfl, h0⟩
  · rcases hg.2 with ⟨rfl, _⟩ | ⟨b2, cap2, cur2, rfl, _, hc2, _, _, hcs2, _⟩
    · simp [Value.ownBlock] at hb
    · simp only [Value.ownBlock, Option.some.injEq] at hb
      subst hb
      rw [hc] at hc2
      simp at hc2
      subst hc2
      have hcap : cap2 = cap := by omega
      subst hcap
      rcases h'.2 with ⟨h1, _⟩ | ⟨b3, cap3, cur3, h1, _, hc3, _, _, hcs3, htk3⟩
      · cases h1
      · cases h1
        refine Or.inr ⟨b2, cap2, cur3, rfl, hB, hc3, hnc, hcm, hcs3, ?_⟩
        rw [← hx, ← htk3, List.take_take]
        congr 1
        omega

/-- What was grown out of the first j lists: u k of n k + 64 bytes, that hold h k. -/
structure Gl (w : World) (B K : Nat) (gsv lsv : Value) (v u : Nat → Value) (n : Nat → Nat) (j : Nat) (h : Nat → List Value) : Prop where
  gs : w.ownsRow B 33 1 gsv K ((List.range K).map u)
  ne : gsv.ownBlock ≠ lsv.ownBlock
  row : ∀ k, k < j → w.ownsRow B 64 2 (u k) (n k + 64) (h k)
  uv : ∀ i k, i < j → k < K → i ≠ k → (u i).ownBlock = none ∨ (u i).ownBlock ≠ (v k).ownBlock
  uu : ∀ i k, i < j → k < j → i ≠ k → (u i).ownBlock = none ∨ (u i).ownBlock ≠ (u k).ownBlock
theorem Gl.kept {w w' : World} {B K : Nat} {gsv lsv : Value} {v u : Nat → Value} {n : Nat → Nat} {j : Nat} {h : Nat → List Value} (hh : Gl w B K gsv lsv v u n j h) (hg : w.grownBy w' none) : Gl w' B K gsv lsv v u n j h :=
  ⟨hh.gs.kept hg (by cases gsv.ownBlock <;> simp), hh.ne, fun k hk => (hh.row k hk).kept hg (by cases (u k).ownBlock <;> simp), hh.uv, hh.uu⟩

/-- A row that is being grown out of list j: it lies where list j lies, or in a place that is newer than all others. -/
def Out (S : Nat) (g vj : Value) : Prop := g.ownBlock = vj.ownBlock ∨ ∀ k, g.ownBlock = some k → S ≤ k
theorem Out.ne {w : World} {S B n sz : Nat} {g vj x : Value} {e : TypeId} {xs : List Value} (h : Out S g vj) (hx : w.ownsRow B e sz x n xs) (hS : w.heap.size ≤ S) (ha : x.ownBlock = none ∨ x.ownBlock ≠ vj.ownBlock) : x.ownBlock = none ∨ x.ownBlock ≠ g.ownBlock := by
  rcases h with h | h
  · rw [h]; exact ha
  · cases hb : x.ownBlock with
    | none => exact Or.inl rfl
    | some k =>
      right
      intro e
      have := h k e.symm
      have := (hx.lt k hb).2
      omega

/-- One step of growing: the lists and what was grown before stay. -/
theorem grow_step {w w' wS : World} {B K S N : Nat} {gsv lsv g g' : Value} {v u : Nat → Value} {n : Nat → Nat} {f h : Nat → List Value} {j : Nat} {ys : List Value} (hF : Fl w B K lsv v n f) (hG : Gl w B K gsv lsv v u n j h) (hj : j < K)
    (hFS : Fl wS B K lsv v n f) (hGS : Gl wS B K gsv lsv v u n j h) (hS : wS.heap.size ≤ S) (hSw : S ≤ w.heap.size) (hg : w.ownsRow B 64 2 g N ys) (ho : Out S g (v j)) (hN : n j ≤ N) (hys : ys.take (n j * 2) = f j)
    (hk : w'.ownsRow B 64 2 g N ys) (hgr : w.grownBy w' g.ownBlock) (hnew : g'.ownBlock = g.ownBlock ∨ ∀ k, g'.ownBlock = some k → w.heap.size ≤ k) :
    Fl w' B K lsv v n f ∧ Gl w' B K gsv lsv v u n j h ∧ Out S g' (v j) := by
  refine ⟨⟨hF.ls.kept hgr (Ap.own_ne hF.ls hg (by decide)), fun k hk' => ?_, hF.apart⟩, ⟨hG.gs.kept hgr (Ap.own_ne hG.gs hg (by decide)), hG.ne, fun k hk' => ?_, hG.uv, hG.uu⟩, ?_⟩
  · by_cases e : k = j
    · subst e
      by_cases hb : g.ownBlock = (v k).ownBlock
      · exact own_shorter (hF.row k hk') hg hb hk hN hys
      · refine (hF.row k hk').kept hgr ?_
        exact Or.inr (fun e => hb e.symm)
    · exact (hF.row k hk').kept hgr (ho.ne (hFS.row k hk') hS (hF.apart k j hk' hj e))
  · exact (hG.row k hk').kept hgr (ho.ne (hGS.row k hk') hS (hG.uv k j hk' hj (by omega)))
  · rcases hnew with h1 | h1
    · rcases ho with h2 | h2
      · exact Or.inl (h1.trans h2)
      · exact Or.inr (fun k e => h2 k (h1 ▸ e))
    · exact Or.inr (fun k e => Nat.le_trans hSw (h1 k e))

/-- A write into a place that is newer than all of them. -/
theorem Fl.fresh {w w' wS : World} {B K S : Nat} {lsv : Value} {v : Nat → Value} {n : Nat → Nat} {f : Nat → List Value} (h : Fl w B K lsv v n f) (hS : Fl wS B K lsv v n f) (hs : wS.heap.size ≤ S) (hg : w.grownBy w' (some S)) : Fl w' B K lsv v n f :=
  ⟨h.ls.kept hg (Or.inr (fun e => by have := (hS.ls.lt S e).2; omega)), fun k hk => (h.row k hk).kept hg (Or.inr (fun e => by have := ((hS.row k hk).lt S e).2; omega)), h.apart⟩
theorem Gl.fresh {w w' wS : World} {B K S : Nat} {gsv lsv : Value} {v u : Nat → Value} {n : Nat → Nat} {j : Nat} {h : Nat → List Value} (hh : Gl w B K gsv lsv v u n j h) (hS : Gl wS B K gsv lsv v u n j h) (hs : wS.heap.size ≤ S) (hg : w.grownBy w' (some S)) : Gl w' B K gsv lsv v u n j h :=
  ⟨hh.gs.kept hg (Or.inr (fun e => by have := (hS.gs.lt S e).2; omega)), hh.ne, fun k hk => (hh.row k hk).kept hg (Or.inr (fun e => by have := ((hS.row k hk).lt S e).2; omega)), hh.uv, hh.uu⟩

/-- What was grown is put into its place among the grown. -/
def upd (u : Nat → Value) (j : Nat) (g : Value) (k : Nat) : Value := if k = j then g else u k
theorem map_upd (u : Nat → Value) (j K : Nat) (g : Value) (hj : j < K) : ((List.range K).map u).set j g = (List.range K).map (upd u j g) := by
  apply List.ext_getElem?
  intro k
  by_cases e : k = j
  · subst e
    rw [List.getElem?_set_self (by simpa using hj)]
    simp [hj, upd]
  · rw [List.getElem?_set_ne (fun h => e h.symm), List.getElem?_map, List.getElem?_map]
    by_cases hk : k < K
    · simp [hk, upd, e]
    · simp [hk]
theorem Gl.put {w wS : World} {B K S G cap : Nat} {lsv g : Value} {v u : Nat → Value} {n : Nat → Nat} {f h : Nat → List Value} {j : Nat} (hF : Fl w B K lsv v n f) (hG : Gl w B K (.slice (some ⟨G, 0, none⟩) K cap) lsv v u n j h) (hj : j < K)
    (hFS : Fl wS B K lsv v n f) (hGS : Gl wS B K (.slice (some ⟨G, 0, none⟩) K cap) lsv v u n j h) (hS : wS.heap.size ≤ S) (ho : Out S g (v j)) (hg : w.ownsRow B 64 2 g (n j + 64) (h j)) :
    Fl (w.setCell ⟨G, j, none⟩ g) B K lsv v n f ∧ Gl (w.setCell ⟨G, j, none⟩ g) B K (.slice (some ⟨G, 0, none⟩) K cap) lsv v (upd u j g) n (j + 1) h ∧ w.grownBy (w.setCell ⟨G, j, none⟩ g) (some G) := by
  have hst := hG.gs.stored j g
  have hgG : (Value.slice (some ⟨G, 0, none⟩) K cap).ownBlock = some G := rfl
  refine ⟨⟨hF.ls.kept hst.2 (Or.inr (fun e => hG.ne (by rw [hgG]; exact e.symm))), fun k hk => (hF.row k hk).kept hst.2 (by have := Ap.own_ne (hF.row k hk) hG.gs (by decide); rwa [hgG] at this), hF.apart⟩, ⟨?_, hG.ne, fun k hk => ?_, fun i k hi hk hik => ?_, fun i k hi hk hik => ?_⟩, hst.2⟩
  · rw [← map_upd u j K g hj]; exact hst.1
  · unfold upd
    split
    · rename_i e; subst e
      exact hg.kept hst.2 (by have := Ap.own_ne hg hG.gs (by decide); rwa [hgG] at this)
    · exact (hG.row k (by omega)).kept hst.2 (by have := Ap.own_ne (hG.row k (by omega)) hG.gs (by decide); rwa [hgG] at this)
  · unfold upd
    split
    · rename_i e; subst e
      rcases ho with h1 | h1
      · rw [h1]; exact hF.apart i k hj hk hik
      · cases hb : g.ownBlock with
        | none => exact Or.inl rfl
        | some b =>
          right
          intro e
          have h2 := h1 b hb
          have h3 := ((hFS.row k hk).lt b e.symm).2
          omega
    · exact hG.uv i k (by omega) hk hik
  · unfold upd
    by_cases e1 : i = j
    · subst e1
      rw [if_pos rfl, if_neg (fun e => hik e.symm)]
      have h4 := ho.ne (hGS.row k (by omega)) hS (hG.uv k i (by omega) hj (by omega))
      rcases h4 with h5 | h5
      · cases hb : g.ownBlock with
        | none => exact Or.inl rfl
        | some b => exact Or.inr (by rw [h5]; simp)
      · exact Or.inr (fun e => h5 e.symm)
    · rw [if_neg e1]
      by_cases e2 : k = j
      · subst e2
        rw [if_pos rfl]
        exact ho.ne (hGS.row i (by omega)) hS (hG.uv i k (by omega) hj hik)
      · rw [if_neg e2]
        exact hG.uu i k (by omega) (by omega) hik
end Go.Proofs.YtnnmaknjhfjojaaGreatDoor.Af
