/- Texts joined: KFlat1, KFlat, X0. -/
import Derived.Test.YtnnmaknjhfjojaaGreatDoorJrAg
import Derived.Test.YtnnmaknjhfjojaaGreatDoorJrAb
import Derived.ArgAppend
/- Rows of bytes that lie apart, and the lists that were grown out of them: what keeps both. Plain lemmas for flatBytes. -/
namespace Go.Proofs.YtnnmaknjhfjojaaGreatDoor.Ap
open Go.RowKit

theorem Tryz.info31 : (Tryz.prog.info? 31).map (fun i => (i.zero, i.size, i.bytes)) = some (some (.slice none 0 0), 1, 24) := by kernel_rfl
theorem made_lists (n : Nat) : madeCells #[.slice none 0 0] n = (List.replicate n (Value.slice none 0 0)).toArray := by
  apply Array.ext'
  rw [toList_madeCells_one]
theorem make_lists (K : Nat) (h : K ≤ 400000) (w : World) : (Instr.makeSlice 75 (.int .i64 (K : Int)) (.int .i64 (K : Int))).run Tryz.prog w = .ok (.slice (some ⟨w.heap.size, 0, none⟩) K K) (w.alloc (.cells (List.replicate K (Value.slice none 0 0)).toArray 31)) := by
  rw [run_make_row' (P := Tryz.prog) 75 31 (.slice none 0 0) 24 Tryz.underlying75 Tryz.info31 rfl .i64 .i64 K (by omega) (by omega) w, made_lists]

/-- What a longer row over the same place leaves of a shorter one. -/
theorem own_shorter {w w' : World} {B n N : Nat} {v g : Value} {xs ys : List Value} (hv : w.ownsRow B 5 1 v n xs) (hg : w.ownsRow B 5 1 g N ys) (hb : g.ownBlock = v.ownBlock) (h' : w'.ownsRow B 5 1 g N ys) (hn : n ≤ N) (hx : ys.take n = xs) : w'.ownsRow B 5 1 v n xs := by
  refine ⟨hv.1, ?_⟩
  rcases hv.2 with ⟨rfl, h0⟩ | ⟨b, cap, cur, rfl, hB, hc, hnc, hcm, hcs, htk⟩
  · exact Or.inl ⟨rfl, h0⟩
  · rcases hg.2 with ⟨rfl, _⟩ | ⟨b2, cap2, cur2, rfl, _, hc2, _, _, hcs2, _⟩
    · simp [Value.ownBlock] at hb
    · simp only [Value.ownBlock, Option.some.injEq] at hb
      subst hb
      rw [hc] at hc2
      simp at hc2
      subst hc2
      have hcap : cap2 = cap := by omega
      subst hcap
      rcases h'.2 with ⟨h1, _⟩ | ⟨b3, cap3, cur3, h1, _, hc3, _, _, hcs3, htk3⟩
      · cases h1
      · cases h1
        refine Or.inr ⟨b2, cap2, cur3, rfl, hB, hc3, hnc, hcm, hcs3, ?_⟩
        rw [← hx, ← htk3, List.take_take, Nat.mul_one, Nat.mul_one]
        congr 1
        omega

/-- What was grown out of the first j lists: u k of n k + 64 bytes, that hold h k. -/
structure Gl (w : World) (B K : Nat) (gsv lsv : Value) (v u : Nat → Value) (n : Nat → Nat) (j : Nat) (h : Nat → List Value) : Prop where
  gs : w.ownsRow B 31 1 gsv K ((List.range K).map u)
  ne : gsv.ownBlock ≠ lsv.ownBlock
  row : ∀ k, k < j → w.ownsRow B 5 1 (u k) (n k + 64) (h k)
  uv : ∀ i k, i < j → k < K → i ≠ k → (u i).ownBlock = none ∨ (u i).ownBlock ≠ (v k).ownBlock
  uu : ∀ i k, i < j → k < j → i ≠ k → (u i).ownBlock = none ∨ (u i).ownBlock ≠ (u k).ownBlock
theorem Gl.kept {w w' : World} {B K : Nat} {gsv lsv : Value} {v u : Nat → Value} {n : Nat → Nat} {j : Nat} {h : Nat → List Value} (hh : Gl w B K gsv lsv v u n j h) (hg : w.grownBy w' none) : Gl w' B K gsv lsv v u n j h :=
  ⟨hh.gs.kept hg (by cases gsv.ownBlock <;> simp), hh.ne, fun k hk => (hh.row k hk).kept hg (by cases (u k).ownBlock <;> simp), hh.uv, hh.uu⟩

/-- A row that is being grown out of list j: it lies where list j lies, or in a place that is newer than all others. -/
def Out (S : Nat) (g vj : Value) : Prop := g.ownBlock = vj.ownBlock ∨ ∀ k, g.ownBlock = some k → S ≤ k
theorem Out.ne {w : World} {S B n : Nat} {g vj x : Value} {e : TypeId} {xs : List Value} (h : Out S g vj) (hx : w.ownsRow B e 1 x n xs) (hS : w.heap.size ≤ S) (ha : x.ownBlock = none ∨ x.ownBlock ≠ vj.ownBlock) : x.ownBlock = none ∨ x.ownBlock ≠ g.ownBlock := by
  rcases h with h | h
  · rw [h]; exact ha
  · cases hb : x.ownBlock with
    | none => exact Or.inl rfl
    | some k =>
      right
      intro e
      have := h k e.symm
      have := (hx.lt k hb).2
      omega

/-- One step of growing: the lists and what was grown before stay. -/
theorem grow_step {w w' wS : World} {B K S N : Nat} {gsv lsv g g' : Value} {v u : Nat → Value} {n : Nat → Nat} {f h : Nat → List Value} {j : Nat} {ys : List Value} (hF : Fl w B K lsv v n f) (hG : Gl w B K gsv lsv v u n j h) (hj : j < K)
    (hFS : Fl wS B K lsv v n f) (hGS : Gl wS B K gsv lsv v u n j h) (hS : wS.heap.size ≤ S) (hSw : S ≤ w.heap.size) (hg : w.ownsRow B 5 1 g N ys) (ho : Out S g (v j)) (hN : n j ≤ N) (hys : ys.take (n j) = f j)
    (hk : w'.ownsRow B 5 1 g N ys) (hgr : w.grownBy w' g.ownBlock) (hnew : g'.ownBlock = g.ownBlock ∨ ∀ k, g'.ownBlock = some k → w.heap.size ≤ k) :
    Fl w' B K lsv v n f ∧ Gl w' B K gsv lsv v u n j h ∧ Out S g' (v j) := by
  refine ⟨⟨hF.ls.kept hgr (own_ne hF.ls hg (by decide)), fun k hk' => ?_, hF.apart⟩, ⟨hG.gs.kept hgr (own_ne hG.gs hg (by decide)), hG.ne, fun k hk' => ?_, hG.uv, hG.uu⟩, ?_⟩
  · by_cases e : k = j
    · subst e
      by_cases hb : g.ownBlock = (v k).ownBlock
      · exact own_shorter (hF.row k hk') hg hb hk hN hys
      · refine (hF.row k hk').kept hgr ?_
        exact Or.inr (fun e => hb e.symm)
    · exact (hF.row k hk').kept hgr (ho.ne (hFS.row k hk') hS (hF.apart k j hk' hj e))
  · exact (hG.row k hk').kept hgr (ho.ne (hGS.row k hk') hS (hG.uv k j hk' hj (by omega)))
  · rcases hnew with h1 | h1
    · rcases ho with h2 | h2
      · exact Or.inl (h1.trans h2)
      · exact Or.inr (fun k e => h2 k (h1 ▸ e))
    · exact Or.inr (fun k e => Nat.le_trans hSw (h1 k e))

/-- A write into a place that is newer than all of them. -/
theorem Fl.fresh {w w' wS : World} {B K S : Nat} {lsv : Value} {v : Nat → Value} {n : Nat → Nat} {f : Nat → List Value} (h : Fl w B K lsv v n f) (hS : Fl wS B K lsv v n f) (hs : wS.heap.size ≤ S) (hg : w.grownBy w' (some S)) : Fl w' B K lsv v n f :=
  ⟨h.ls.kept hg (Or.inr (fun e => by have := (hS.ls.lt S e).2; omega)), fun k hk => (h.row k hk).kept hg (Or.inr (fun e => by have := ((hS.row k hk).lt S e).2; omega)), h.apart⟩
theorem Gl.fresh {w w' wS : World} {B K S : Nat} {gsv lsv : Value} {v u : Nat → Value} {n : Nat → Nat} {j : Nat} {h : Nat → List Value} (hh : Gl w B K gsv lsv v u n j h) (hS : Gl wS B K gsv lsv v u n j h) (hs : wS.heap.size ≤ S) (hg : w.grownBy w' (some S)) : Gl w' B K gsv lsv v u n j h :=
  ⟨hh.gs.kept hg (Or.inr (fun e => by have := (hS.gs.lt S e).2; omega)), hh.ne, fun k hk => (hh.row k hk).kept hg (Or.inr (fun e => by have := ((hS.row k hk).lt S e).2; omega)), hh.uv, hh.uu⟩

/-- What was grown is put into its place among the grown. -/
def upd (u : Nat → Value) (j : Nat) (g : Value) (k : Nat) : Value := if k = j then g else u k
theorem map_upd (u : Nat → Value) (j K : Nat) (g : Value) (hj : j < K) : ((List.range K).map u).set j g = (List.range K).map (upd u j g) := by
  apply List.ext_getElem?
  intro k
  by_cases e : k = j
  · subst e
    rw [List.getElem?_set_self (by simpa using hj)]
    simp [hj, upd]
  · rw [List.getElem?_set_ne (fun h => e h.symm), List.getElem?_map, List.getElem?_map]
    by_cases hk : k < K
    · simp [hk, upd, e]
    · simp [hk]
theorem Gl.put {w wS : World} {B K S G cap : Nat} {lsv g : Value} {v u : Nat → Value} {n : Nat → Nat} {f h : Nat → List Value} {j : Nat} (hF : Fl w B K lsv v n f) (hG : Gl w B K (.slice (some ⟨G, 0, none⟩) K cap) lsv v u n j h) (hj : j < K)
    (hFS : Fl wS B K lsv v n f) (hGS : Gl wS B K (.slice (some ⟨G, 0, none⟩) K cap) lsv v u n j h) (hS : wS.heap.size ≤ S) (ho : Out S g (v j)) (hg : w.ownsRow B 5 1 g (n j + 64) (h j)) :
    Fl (w.setCell ⟨G, j, none⟩ g) B K lsv v n f ∧ Gl (w.setCell ⟨G, j, none⟩ g) B K (.slice (some ⟨G, 0, none⟩) K cap) lsv v (upd u j g) n (j + 1) h ∧ w.grownBy (w.setCell ⟨G, j, none⟩ g) (some G) := by
  have hst := hG.gs.stored j g
  have hgG : (Value.slice (some ⟨G, 0, none⟩) K cap).ownBlock = some G := rfl
  refine ⟨⟨hF.ls.kept hst.2 (Or.inr (fun e => hG.ne (by rw [hgG]; exact e.symm))), fun k hk => (hF.row k hk).kept hst.2 (by have := own_ne (hF.row k hk) hG.gs (by decide); rwa [hgG] at this), hF.apart⟩, ⟨?_, hG.ne, fun k hk => ?_, fun i k hi hk hik => ?_, fun i k hi hk hik => ?_⟩, hst.2⟩
  · rw [← map_upd u j K g hj]; exact hst.1
  · unfold upd
    split
    · rename_i e; subst e
      exact hg.kept hst.2 (by have := own_ne hg hG.gs (by decide); rwa [hgG] at this)
    · exact (hG.row k (by omega)).kept hst.2 (by have := own_ne (hG.row k (by omega)) hG.gs (by decide); rwa [hgG] at this)
  · unfold upd
    split
    · rename_i e; subst e
      rcases ho with h1 | h1
      · rw [h1]; exact hF.apart i k hj hk hik
      · cases hb : g.ownBlock with
        | none => exact Or.inl rfl
        | some b =>
          right
          intro e
          have h2 := h1 b hb
          have h3 := ((hFS.row k hk).lt b e.symm).2
          omega
    · exact hG.uv i k (by omega) hk hik
  · unfold upd
    by_cases e1 : i = j
    · subst e1
      rw [if_pos rfl, if_neg (fun e => hik e.symm)]
      have h4 := ho.ne (hGS.row k (by omega)) hS (hG.uv k i (by omega) hj (by omega))
      rcases h4 with h5 | h5
      · cases hb : g.ownBlock with
        | none => exact Or.inl rfl
        | some b => exact Or.inr (by rw [h5]; simp)
      · exact Or.inr (fun e => h5 e.symm)
    · rw [if_neg e1]
      by_cases e2 : k = j
      · subst e2
        rw [if_pos rfl]
        exact ho.ne (hGS.row i (by omega)) hS (hG.uv i k (by omega) hj hik)
      · rw [if_neg e2]
        exact hG.uu i k (by omega) (by omega) hik
end Go.Proofs.YtnnmaknjhfjojaaGreatDoor.Ap
/- The contract of flatBytes: rows of bytes that lie apart are told so. -/
namespace Go.Proofs.YtnnmaknjhfjojaaGreatDoor.Ap
open Go.RowKit
attribute [local go_sem ↓] Go.wp_at_zero Go.wp_at_succ

/-- What the rows hold, while the j-th is being marked (t bytes of it are). -/
def fillF (n : Nat → Nat) (f : Nat → List Value) (j t : Nat) (k : Nat) : List Value :=
  if k < j then bv (marks (k : Int) (n k)) else if k = j then bv (marks (j : Int) t) ++ (f j).drop t else f k
theorem fillF_start (n : Nat → Nat) (f : Nat → List Value) : fillF n f 0 0 = f := by
  funext k; unfold fillF; simp [marks, bv]; intro h; rw [h]
theorem fillF_next (n : Nat → Nat) (f : Nat → List Value) (j : Nat) (h : (f j).length = n j) : fillF n f j (n j) = fillF n f (j + 1) 0 := by
  funext k; unfold fillF
  by_cases h1 : k < j
  · simp [h1, show k < j + 1 by omega]
  · by_cases h2 : k = j
    · subst h2; simp [List.drop_of_length_le (show (f k).length ≤ n k by omega)]
    · by_cases h3 : k = j + 1
      · subst h3; simp [marks, bv]; omega
      · simp [h1, h2, h3, show ¬ k < j + 1 by omega]
theorem fillF_at (n : Nat → Nat) (f : Nat → List Value) (j t : Nat) : fillF n f j t j = bv (marks (j : Int) t) ++ (f j).drop t := by unfold fillF; simp
theorem fillF_set (n : Nat → Nat) (f : Nat → List Value) (j t : Nat) (ht : t < (f j).length) : (fillF n f j t j).set t (.int .u8 ((mkN (j : Int) t : Nat) : Int)) = fillF n f j (t + 1) j := by
  have hm : (bv (marks (j : Int) t)).length = t := by rw [bv_length, marks_length]
  rw [fillF_at, fillF_at, List.set_append_right _ _ (by omega), hm, Nat.sub_self, marks_succ, bv_append, List.append_assoc]
  congr 1
  rw [List.drop_eq_getElem_cons ht]
  rfl
theorem fillF_other (n : Nat → Nat) (f : Nat → List Value) (j t k : Nat) (h : k ≠ j) : fillF n f j (t + 1) k = fillF n f j t k := by unfold fillF; simp [h]

/-- The cell of ls at k. -/
theorem Fl.cell {w : World} {B K L cap : Nat} {v : Nat → Value} {n : Nat → Nat} {f : Nat → List Value} (h : Fl w B K (.slice (some ⟨L, 0, none⟩) K cap) v n f) {k : Nat} (hk : k < K) : w.cell? ⟨L, k, none⟩ = some (v k) := by
  rw [h.ls.cellAt k (by omega)]; simp [hk]
/-- A row that has a byte has a place. -/
theorem own_place {w : World} {B n : Nat} {v : Value} {xs : List Value} (h : w.ownsRow B 5 1 v n xs) (hn : 0 < n) : ∃ g cap, v = .slice (some ⟨g, 0, none⟩) n cap ∧ B ≤ g ∧ n ≤ cap ∧ cap ≤ maxLen := by
  rcases h.2 with ⟨_, h0⟩ | ⟨g, cap, cur, rfl, hb, _, hnc, hcm, _⟩
  · omega
  · exact ⟨g, cap, rfl, hb, hnc, hcm⟩
theorem own_len {w : World} {B n : Nat} {v : Value} {xs : List Value} (h : w.ownsRow B 5 1 v n xs) : ∃ ao cap, v = .slice ao n cap := by
  rcases h.2 with ⟨rfl, rfl⟩ | ⟨g, cap, cur, rfl, _⟩
  · exact ⟨_, _, rfl⟩
  · exact ⟨_, _, rfl⟩

theorem bv_marks_take (k : Int) (a b : Nat) : (bv (marks k (a + b))).take a = bv (marks k a) := by
  unfold bv marks
  rw [← List.map_take, ← List.map_take, List.take_range, Nat.min_eq_left (by omega)]
theorem make_many (w : World) : (Instr.makeSlice 31 (.int .i64 64) (.int .i64 64)).run Tryz.prog w = .ok (.slice (some ⟨w.heap.size, 0, none⟩) 64 64) (w.alloc (.cells (zrow 64).toArray 5)) := by
  have h := run_make_row' (P := Tryz.prog) 31 5 (.int .u8 0) 1 Tryz.underlying31 Tryz.info5 rfl .i64 .i64 64 (by omega) (by omega) w
  rw [made_zrow] at h
  exact h
theorem map_nils (K : Nat) : (List.range K).map (fun _ => Value.slice none 0 0) = List.replicate K (Value.slice none 0 0) := by rw [List.map_const', List.length_range]

/-- What lay ahead stays, but for blocks of T. -/
structure GrownT (T : Nat → Prop) (a b : World) : Prop where
  os : b.os = a.os
  tape : b.tape = a.tape
  output : b.output = a.output
  size : a.heap.size ≤ b.heap.size
  block : ∀ k, k < a.heap.size → ¬ T k → b.heap[k]? = a.heap[k]?
theorem GrownT.refl (T : Nat → Prop) (a : World) : GrownT T a a := ⟨rfl, rfl, rfl, Nat.le_refl _, fun _ _ _ => rfl⟩
theorem GrownT.step {T : Nat → Prop} {a b c : World} {row : Option Nat} (h : GrownT T a b) (k : b.grownBy c row) (hr : ∀ j, row = some j → a.heap.size ≤ j ∨ T j) : GrownT T a c :=
  ⟨k.os.trans h.os, k.tape.trans h.tape, k.output.trans h.output, Nat.le_trans h.size k.size, fun i hi hT => (k.block i (Nat.lt_of_lt_of_le hi h.size) (fun e => by
    rcases hr i e.symm with h1 | h1
    · omega
    · exact hT h1)).trans (h.block i hi hT)⟩
/-- Where no block of T lay ahead, all that lay ahead stays. -/
theorem GrownT.grown {T : Nat → Prop} {a b : World} (h : GrownT T a b) (hT : ∀ k, T k → a.heap.size ≤ k) : a.grownBy b none :=
  ⟨h.os, h.tape, h.output, h.size, fun k hk _ => h.block k hk (fun t => by have := hT k t; omega)⟩
/-- What lies ahead of w0 stays, but for blocks of T, and so does the bag. -/
def Kp (T : Nat → Prop) (w0 w : World) (bb : Nat) (cb : Array Value) : Prop := GrownT T w0 w ∧ w.heap[bb]? = some (.cells cb 90 (0, 0))
theorem Kp.step {T : Nat → Prop} {w0 w w' : World} {bb : Nat} {cb : Array Value} {row : Option Nat} (h : Kp T w0 w bb cb) (hg : w.grownBy w' row) (hrow : ∀ k, row = some k → w0.heap.size ≤ k ∨ T k) (hne : row ≠ some bb) : Kp T w0 w' bb cb :=
  ⟨h.1.step hg hrow, (hg.block bb (row_lt h.2) (fun e => hne e.symm)).trans h.2⟩
theorem Kp.new {T : Nat → Prop} {w0 w w' : World} {bb : Nat} {cb : Array Value} (h : Kp T w0 w bb cb) (hg : w.grownBy w' none) : Kp T w0 w' bb cb := h.step hg (fun k e => by cases e) (by simp)
theorem own_bag {w : World} {B n bb : Nat} {e : TypeId} {v : Value} {xs : List Value} {cb : Array Value} (h : w.ownsRow B e 1 v n xs) (hb : w.heap[bb]? = some (.cells cb 90 (0, 0))) (he : e ≠ 90) : v.ownBlock ≠ some bb := by
  rcases h.2 with ⟨rfl, _⟩ | ⟨g, cap, cur, rfl, _, hg, _⟩
  · simp [Value.ownBlock]
  · simp only [Value.ownBlock, ne_eq, Option.some.injEq]
    rintro rfl
    rw [hb] at hg
    simp at hg
    exact he hg.2.symm

set_option maxRecDepth 100000 in
set_option maxHeartbeats 4000000 in
theorem flat_any (B K L cap : Nat) (v : Nat → Value) (n : Nat → Nat) (f : Nat → List Value) (T : Nat → Prop) (w0 w : World) (bb : Nat) (cb : Array Value) (hF : Fl w B K (.slice (some ⟨L, 0, none⟩) K cap) v n f) (hG : Kp T w0 w bb cb) (hT : ∀ i, i < K → ∀ k, (v i).ownBlock = some k → w0.heap.size ≤ k ∨ T k) (hK : K ≤ 400000) (hn : ∀ k, k < K → n k ≤ 140737488355000) (hBw : B ≤ w.heap.size) :
    Calls Tryz.prog 54 #[.slice (some ⟨L, 0, none⟩) K cap] w fun e w' => e = .returned (.bool true) ∧ Kp T w0 w' bb cb := by
  have HF := hide (And.intro hF hG)
  have HN := hide hn
  have HT := hide hT
  clear hT
  have hlen : ∀ k, k < K → (f k).length = n k := fun k hk => by simpa using (hF.row k hk).1
  have HL := hide hlen
  clear hF hG hn hlen
  go_enter Tryz.func54, Tryz.ntmps54
  go_wp2
  go_loopg [3, 4] K (fun g i _ wr => ∃ j : Nat, g + j = K ∧ i = .int .i64 j ∧ Fl wr B K (.slice (some ⟨L, 0, none⟩) K cap) v n (fillF n f j 0) ∧ Kp T w0 wr bb cb ∧ w.heap.size ≤ wr.heap.size)
  case atStart => exact ⟨0, by omega, rfl, by rw [fillF_start]; exact HF.out.1, HF.out.2, Nat.le_refl _⟩
  case round =>
    obtain ⟨j, hgj, rfl, hF, hG, hsz⟩ := hrel
    clear HF
    by_cases hk : 0 < gk
    · have hj : j < K := by omega
      have hjK : (j : Int) < (K : Int) := by omega
      have HF := hide (And.intro hF hG)
      clear hF hG
      go_wp2
      go_loopg [4] (n j) (fun g i wr' => ∃ t : Nat, g + t = n j ∧ i = .int .i64 t ∧ Fl wr' B K (.slice (some ⟨L, 0, none⟩) K cap) v n (fillF n f j t) ∧ Kp T w0 wr' bb cb ∧ w.heap.size ≤ wr'.heap.size)
      case atStart => exact ⟨0, by omega, rfl, HF.out.1, HF.out.2, hsz⟩
      case round =>
        obtain ⟨t, hgt, rfl, hF, hG, hsz2⟩ := hrel
        clear HF
        have hcl := hF.cell hj
        by_cases hk2 : 0 < gk
        · obtain ⟨g, c, hv, hBg, hnc, hcm⟩ := own_place (hF.row j hj) (by omega)
          rw [hv] at hcl
          have hrow := hF.row j hj
          rw [hv] at hrow
          have htl : t < (f j).length := by rw [HL.out j hj]; omega
          have hcell := hrow.cellAt t (by omega)
          have hfr := hrow.frozenAt t
          have hml : (bv (marks (j : Int) t)).length = t := by rw [bv_length, marks_length]
          rw [fillF_at, List.getElem?_append_right (by omega), hml, Nat.sub_self, List.getElem?_drop, Nat.add_zero, List.getElem?_eq_getElem htl] at hcell
          have hmk := fun w => markN_any (j : Int) t w (by omega) (by omega) (by have := HN.out j hj; omega)
          have HM := hide hmk
          have HQ := hide (And.intro hF (And.intro hG (And.intro hv (fillF_set n f j t htl))))
          generalize (f j)[t] = y at *
          generalize mkN (j : Int) t = mk at *
          have h1 : (t : Int) < (n j : Int) := by omega
          unfold maxLen at hcm
          clear hF hG hv hrow htl hml hmk
          generalize hnj : n j = nj at *
          go_wp2
          go_region_with (go_at_call 81; refine (HM.out _).mono ?_; rintro e wA ⟨rfl, rfl⟩)
          all_goals
            go_wp2
            go_roundg (gk - 1)
            case measure => omega
            case rel =>
              obtain ⟨hF, hG, hv, hset⟩ := HQ.out
              have hrow := hF.row j hj
              rw [hv, hnj] at hrow
              have hst := hrow.stored t (.int .u8 ((mk : Nat) : Int))
              have hst2 := grown_trans hst.2 (grown_drew _ (some g))
              refine ⟨t + 1, by omega, by go_num, ?_, ?_, ?_⟩
              · refine hF.wrote j hj (by rw [hv]; exact hst2) ?_ (fun k hk => fillF_other n f j t k hk)
                rw [← hset, hv, hnj]; exact hst.1.drew
              · exact hG.step hst2 (fun k e => by cases e; exact HT.out j hj g (by rw [hv]; rfl)) (own_bag hrow hG.2 (by decide))
              · exact Nat.le_trans hsz2 hst2.size
        · have ht : t = n j := by omega
          obtain ⟨ao, c, hv⟩ := own_len (hF.row j hj)
          rw [hv] at hcl
          rw [ht, fillF_next n f j (HL.out j hj)] at hF
          have h1 : ¬ (t : Int) < (n j : Int) := by omega
          have HQ := hide (And.intro hF hG)
          clear hF hG hv ht
          go_wp2
          go_roundg (K - (j + 1))
          case measure => omega
          case rel => exact ⟨j + 1, by omega, by go_num, HQ.out.1, HQ.out.2, hsz2⟩
    · have hjK : j = K := by omega
      have hjK1 : ¬ (j : Int) < (K : Int) := by omega
      have hfin : ∀ k, k < K → fillF n f j 0 k = bv (marks (k : Int) (n k)) := fun k hk => by unfold fillF; simp [show k < j by omega]
      have hF1 : Fl wr B K (.slice (some ⟨L, 0, none⟩) K cap) v n (fun k => bv (marks (k : Int) (n k))) := ⟨hF.ls, fun k hk => by have := hF.row k hk; rw [hfin k hk] at this; exact this, hF.apart⟩
      have H1 := hide (And.intro hF1 hG)
      have hmk := make_lists K hK
      have hwr : B ≤ wr.heap.size := by omega
      clear hF hG hfin hF1 hjK HL hsz hBw
      go_wp2
      clear hmk
      obtain ⟨G, hGe⟩ : ∃ G, G = wr.heap.size := ⟨_, rfl⟩
      have HGe := hide hGe
      have hGw : w0.heap.size ≤ G := by rw [hGe]; exact H1.out.2.1.size
      rw [← hGe]
      clear hGe
      go_loopg [6, 7, 8] K (fun q i _ _ wx => ∃ (j : Nat) (u : Nat → Value), q + j = K ∧ i = .int .i64 j ∧ Fl wx B K (.slice (some ⟨L, 0, none⟩) K cap) v n (fun k => bv (marks (k : Int) (n k))) ∧ Gl wx B K (.slice (some ⟨G, 0, none⟩) K K) (.slice (some ⟨L, 0, none⟩) K cap) v u n j (fun k => bv (marks (k : Int) (n k + 64))) ∧ Kp T w0 wx bb cb ∧ B ≤ wx.heap.size)
      case atStart =>
        obtain ⟨hF1, hG1⟩ := H1.out
        have ga := World.grownBy_alloc wr (Obj.cells (List.replicate K (Value.slice none 0 0)).toArray 31) none
        refine ⟨0, fun _ => .slice none 0 0, by omega, rfl, hF1.kept ga, ⟨?_, ?_, (fun k hk => by omega), (fun i k hi => by omega), (fun i k hi => by omega)⟩, hG1.new ga, Nat.le_trans hwr ga.size⟩
        · have := World.ownsRow_lit (base := B) (e := 31) (size := 1) wr (List.replicate K (Value.slice none 0 0)).toArray K hwr (by unfold maxLen; omega) (by simp)
          rw [HGe.out, map_nils]
          simpa using this
        · simp only [Value.ownBlock, ne_eq, Option.some.injEq]
          intro e
          have := (hF1.ls.lt L rfl).2
          rw [HGe.out] at e
          omega
      case round =>
        obtain ⟨j, u, hgj, rfl, hF, hGl, hG, hBx⟩ := hrel
        clear H1 HGe
        by_cases hk : 0 < gk
        · have hj : j < K := by omega
          have hjK : (j : Int) < (K : Int) := by omega
          have hcl := hF.cell hj
          obtain ⟨ao, c, hv⟩ := own_len (hF.row j hj)
          rw [hv] at hcl
          obtain ⟨S, hS⟩ : ∃ S, S = wr.heap.size := ⟨_, rfl⟩
          have HS : Hid ((∃ wS, Fl wS B K (.slice (some ⟨L, 0, none⟩) K cap) v n (fun k => bv (marks (k : Int) (n k))) ∧ Gl wS B K (.slice (some ⟨G, 0, none⟩) K K) (.slice (some ⟨L, 0, none⟩) K cap) v u n j (fun k => bv (marks (k : Int) (n k + 64))) ∧ wS.heap.size ≤ S) ∧ v j = .slice ao (n j) c) := ⟨⟨wr, hF, hGl, Nat.le_of_eq hS.symm⟩, hv⟩
          have HS0 := hide (And.intro hF (And.intro hGl (And.intro hG hS)))
          obtain ⟨nj, hnj⟩ : ∃ x, x = n j := ⟨_, rfl⟩
          rw [← hnj] at hcl
          have HNJ := hide (And.intro hnj (by have := HN.out j hj; omega : n j ≤ 140737488355000))
          have hnjb : nj ≤ 140737488355000 := by rw [hnj]; exact HNJ.out.2
          have hBS : B ≤ S := by omega
          have hS0 : w0.heap.size ≤ S := by rw [hS]; exact hG.1.size
          clear hF hGl hG hv hnj hS
          go_wp2
          go_loopg [7, 8] 64 (fun q x i wy => ∃ t : Nat, q + t = 64 ∧ i = .int .i64 t ∧ Out S x (v j) ∧ wy.ownsRow B 5 1 x (nj + t) (bv (marks (j : Int) (nj + t))) ∧ Fl wy B K (.slice (some ⟨L, 0, none⟩) K cap) v n (fun k => bv (marks (k : Int) (n k))) ∧ Gl wy B K (.slice (some ⟨G, 0, none⟩) K K) (.slice (some ⟨L, 0, none⟩) K cap) v u n j (fun k => bv (marks (k : Int) (n k + 64))) ∧ Kp T w0 wy bb cb ∧ S ≤ wy.heap.size)
          case atStart =>
            obtain ⟨hF, hGl, hG, hS⟩ := HS0.out
            have hv := HS.out.2
            refine ⟨0, rfl, rfl, ?_, ?_, hF, hGl, hG, Nat.le_of_eq hS⟩
            · rw [hv, HNJ.out.1]; exact Or.inl rfl
            · have := hF.row j hj
              rw [hv, ← HNJ.out.1] at this
              exact this
          case round =>
            obtain ⟨t, hgt, rfl, hout, hown, hF, hGl, hG, hsz⟩ := hrel
            clear HS0
            by_cases hk2 : 0 < gk
            · have hcl2 := hF.cell hj
              rw [HS.out.2, ← HNJ.out.1] at hcl2
              have hmk : ∀ w, Calls Tryz.prog 81 #[.int .i64 (j : Int), .int .i64 ((nj : Int) + (t : Int))] w fun e w' => e = .returned (.int .u8 ((mkN (j : Int) (nj + t) : Nat) : Int)) ∧ w' = w := fun w => by
                rw [show (nj : Int) + (t : Int) = ((nj + t : Nat) : Int) by omega]
                exact markN_any (j : Int) (nj + t) w (by omega) (by omega) (by omega)
              have HM := hide hmk
              have HQ := hide (And.intro hout (And.intro hown (And.intro hF (And.intro hGl hG))))
              obtain ⟨ax, cx, hxv⟩ := own_len hown
              subst hxv
              have ht64 : (t : Int) < 64 := by omega
              clear hout hown hF hGl hG hmk hcl
              go_wp2_with (first | (go_at_call 81; refine (HM.out _).mono ?_; rintro e wr ⟨rfl, rfl⟩) | (at_builtin; refine wpList_append_keep rfl (.tmp 57) (.tmp 67) rfl B (.slice ax (nj + t) cx) (nj + t) (bv (marks (j : Int) (nj + t))) rfl (HQ.out.2.1.alloc _) ⟨_, 0, none⟩ 1 1 [mkN (j : Int) (nj + t)] rfl rfl (by decide) ?_ (by omega) ?_ ?_))
              · exact at_new _ [mkN (j : Int) (nj + t)] _ rfl 5
              · simp; omega
              · intro v' w' hown' hkeep hgr hnew
                obtain ⟨hout, hown, hF, hGl, hG⟩ := HQ.out
                obtain ⟨⟨wS, hFS, hGS, hS⟩, hvj⟩ := HS.out
                have ga := World.grownBy_alloc wr (Obj.cells #[Value.int IntKind.u8 ((mkN (j : Int) (nj + t) : Nat) : Int)] 5) none
                have hstep := grow_step (g' := v') (hF.kept ga) (hGl.kept ga) hj hFS hGS hS (Nat.le_trans hsz ga.size) (hown.alloc _) hout (by rw [← HNJ.out.1]; omega) (by rw [← HNJ.out.1]; exact bv_marks_take _ _ _) hkeep hgr (by rw [World.size_alloc]; exact hnew)
                have hG' : Kp T w0 w' bb cb := (hG.new ga).step hgr (fun k e => by
                  rcases hout with h1 | h1
                  · exact HT.out j hj k (h1 ▸ e)
                  · exact Or.inl (Nat.le_trans hS0 (h1 k e))) (own_bag (hown.alloc _) (hG.new ga).2 (by decide))
                have hown2 : w'.ownsRow B 5 1 v' (nj + (t + 1)) (bv (marks (j : Int) (nj + (t + 1)))) := by
                  rw [← Nat.add_assoc, marks_succ, bv_append]; exact hown'
                have HQ2 := hide (And.intro hstep (And.intro hG' (And.intro hown2 (Nat.le_trans hsz (Nat.le_trans ga.size hgr.size)))))
                clear hout hown hF hGl hG hFS hGS hS hvj ga hstep hG' hown2 hown' hkeep hgr hnew
                go_wp2
                go_roundg (gk - 1)
                case measure => omega
                case rel =>
                  obtain ⟨⟨h1, h2, h3⟩, h4, h5, h6⟩ := HQ2.out
                  exact ⟨t + 1, by omega, by go_num, h3, h5, h1, h2, h4, h6⟩
            · have ht : t = 64 := by omega
              have ht64 : ¬ (t : Int) < 64 := by omega
              subst ht
              obtain ⟨⟨wS, hFS, hGS, hS⟩, hvj⟩ := HS.out
              rw [HNJ.out.1] at hown
              obtain ⟨ax, cx, hxv⟩ := own_len hown
              subst hxv
              have hput := hGl.put hF hj hFS hGS hS hout hown
              have hcg : wr.cell? ⟨G, j, none⟩ = some (u j) := by rw [hGl.gs.cellAt j (by omega)]; simp [hj]
              have hfg : wr.frozen? ⟨G, j, none⟩ = false := hGl.gs.frozenAt j
              have hG' : Kp T w0 (wr.setCell ⟨G, j, none⟩ (.slice ax (n j + 64) cx)) bb cb := hG.step hput.2.2 (fun k e => by cases e; exact Or.inl hGw) (own_bag hGl.gs hG.2 (by decide))
              have HQ2 := hide (And.intro hput.1 (And.intro hput.2.1 (And.intro hG' (Nat.le_trans hBS (Nat.le_trans hsz hput.2.2.size)))))
              generalize u j = uj at *
              clear hout hown hF hGl hG hFS hGS hS hvj hput hG' HS hcl
              go_wp2
              go_roundg (K - (j + 1))
              case measure => omega
              case rel => exact ⟨j + 1, _, by omega, by go_num, HQ2.out.1, HQ2.out.2.1, HQ2.out.2.2.1, HQ2.out.2.2.2⟩
        · have hjK : j = K := by omega
          have hjK1 : ¬ (j : Int) < (K : Int) := by omega
          rw [hjK] at hGl
          have H2 := hide (And.intro hF (And.intro hGl hG))
          clear hF hGl hG hjK
          go_wp2
          go_loopg [9, 10] K (fun q i _ wx => ∃ j : Nat, q + j = K ∧ i = .int .i64 j ∧ Fl wx B K (.slice (some ⟨L, 0, none⟩) K cap) v n (fun k => bv (marks (k : Int) (n k))) ∧ Gl wx B K (.slice (some ⟨G, 0, none⟩) K K) (.slice (some ⟨L, 0, none⟩) K cap) v u n K (fun k => bv (marks (k : Int) (n k + 64))) ∧ Kp T w0 wx bb cb ∧ B ≤ wx.heap.size)
          case atStart => exact ⟨0, by omega, rfl, H2.out.1, H2.out.2.1, H2.out.2.2, hBx⟩
          case round =>
            obtain ⟨j, hgj, rfl, hF, hGl, hG, hBy⟩ := hrel
            clear H2
            by_cases hk : 0 < gk
            · have hj : j < K := by omega
              have hjK : (j : Int) < (K : Int) := by omega
              have hcl := hF.cell hj
              have hcg : wr.cell? ⟨G, j, none⟩ = some (u j) := by rw [hGl.gs.cellAt j (by omega)]; simp [hj]
              obtain ⟨ao, c, hv⟩ := own_len (hF.row j hj)
              obtain ⟨gu, cu, hu, hBu, hncu, hcmu⟩ := own_place (hGl.row j hj) (by omega)
              have HS := hide (And.intro hF (And.intro hGl (And.intro hG (And.intro hv hu))))
              clear hF hGl hG hcl hcg hv hu
              go_wp2
              go_loopg [10] (n j + 64) (fun q i wx => ∃ t : Nat, q + t = n j + 64 ∧ i = .int .i64 t ∧ Fl wx B K (.slice (some ⟨L, 0, none⟩) K cap) v n (fun k => bv (marks (k : Int) (n k))) ∧ Gl wx B K (.slice (some ⟨G, 0, none⟩) K K) (.slice (some ⟨L, 0, none⟩) K cap) v u n K (fun k => bv (marks (k : Int) (n k + 64))) ∧ Kp T w0 wx bb cb ∧ B ≤ wx.heap.size)
              case atStart => exact ⟨0, by omega, rfl, HS.out.1, HS.out.2.1, HS.out.2.2.1, hBy⟩
              case round =>
                obtain ⟨t, hgt, rfl, hF, hGl, hG, hBz⟩ := hrel
                obtain ⟨-, -, -, hv, hu⟩ := HS.out
                have hcl := hF.cell hj
                have hcg : wr.cell? ⟨G, j, none⟩ = some (u j) := by rw [hGl.gs.cellAt j (by omega)]; simp [hj]
                rw [hv] at hcl
                rw [hu] at hcg
                have hnb := HN.out j hj
                by_cases hk2 : 0 < gk
                · have hrowg := hGl.row j hj
                  rw [hu] at hrowg
                  have hcell := hrowg.cellAt t (by omega)
                  rw [bv_get _ _ _ (marks_get (j : Int) (n j + 64) t (by omega))] at hcell
                  have hmk := fun w => markN_any (j : Int) t w (by omega) (by omega) (by omega)
                  have HM := hide hmk
                  have ht1 : (t : Int) < ((n j + 64 : Nat) : Int) := by omega
                  unfold maxLen at hcmu
                  by_cases htn : t < n j
                  · have hrowv := hF.row j hj
                    obtain ⟨gv, cv, hv2, _, _, _⟩ := own_place hrowv (by omega)
                    rw [hv2] at hrowv
                    have hcell2 := hrowv.cellAt t (by omega)
                    rw [bv_get _ _ _ (marks_get (j : Int) (n j) t htn)] at hcell2
                    rw [hv] at hv2
                    cases hv2
                    have htn1 : (t : Int) < (n j : Int) := by omega
                    have HQ := hide (And.intro hF (And.intro hGl hG))
                    generalize mkN (j : Int) t = mk at *
                    obtain ⟨nj, hnj⟩ : ∃ x, x = n j := ⟨_, rfl⟩
                    rw [← hnj] at hcl hcg ht1 htn1 hnb
                    clear hF hGl hG hv hu hrowg hrowv hmk hnj
                    go_wp2
                    go_quiet ((go_at_call 81; exact Calls.quiet_of_same (HM.out _)))
                    go_wp2
                    go_roundg (gk - 1)
                    case measure => omega
                    case rel => exact ⟨t + 1, by omega, by go_num, HQ.out.1.kept (grown_drewN _ _ _), HQ.out.2.1.kept (grown_drewN _ _ _), HQ.out.2.2.new (grown_drewN _ _ _), hBz⟩
                  · have htn1 : ¬ (t : Int) < (n j : Int) := by omega
                    have HQ := hide (And.intro hF (And.intro hGl hG))
                    generalize mkN (j : Int) t = mk at *
                    obtain ⟨nj, hnj⟩ : ∃ x, x = n j := ⟨_, rfl⟩
                    rw [← hnj] at hcl hcg ht1 htn1 hnb
                    have hd1 : decide ((t : Int) < (nj : Int)) = false := by simp; omega
                    have hd2 : decide (t < nj) = false := by simp; omega
                    clear hF hGl hG hv hu hrowg hmk hnj
                    go_wp2
                    go_quiet ((go_at_call 81; exact Calls.quiet_of_same (HM.out _)))
                    go_wp2
                    go_roundg (gk - 1)
                    case measure => omega
                    case rel => exact ⟨t + 1, by omega, by go_num, HQ.out.1.kept (grown_drewN _ _ _), HQ.out.2.1.kept (grown_drewN _ _ _), HQ.out.2.2.new (grown_drewN _ _ _), hBz⟩
                · have ht1 : ¬ (t : Int) < ((n j + 64 : Nat) : Int) := by omega
                  have HQ := hide (And.intro hF (And.intro hGl hG))
                  obtain ⟨nj, hnj⟩ : ∃ x, x = n j := ⟨_, rfl⟩
                  rw [← hnj] at hcl hcg ht1
                  clear hF hGl hG hv hu HS hnb hncu hnj hcl
                  go_wp2
                  go_roundg (K - (j + 1))
                  case measure => omega
                  case rel => exact ⟨j + 1, by omega, by go_num, HQ.out.1, HQ.out.2.1, HQ.out.2.2, hBz⟩
            · have hjK1 : ¬ (j : Int) < (K : Int) := by omega
              have H3 := hide (And.intro hF (And.intro hGl.gs (And.intro hGl.ne hG)))
              clear hF hGl hG
              have hm64 := make_many
              go_wp2
              go_loopg [11, 12, 13] K (fun q i _ _ wx => ∃ (j : Nat) (u : Nat → Value), q + j = K ∧ i = .int .i64 j ∧ Fl wx B K (.slice (some ⟨L, 0, none⟩) K cap) v n (fun k => bv (marks (k : Int) (n k))) ∧ Gl wx B K (.slice (some ⟨G, 0, none⟩) K K) (.slice (some ⟨L, 0, none⟩) K cap) v u n j (fun k => bv (marks (k : Int) (n k) ++ marks ((k + K : Nat) : Int) 64)) ∧ Kp T w0 wx bb cb ∧ B ≤ wx.heap.size)
              case atStart => exact ⟨0, u, by omega, rfl, H3.out.1, ⟨H3.out.2.1, H3.out.2.2.1, (fun k hk => by omega), (fun i k hi => by omega), (fun i k hi => by omega)⟩, H3.out.2.2.2, hBy⟩
              case round =>
                obtain ⟨j, u, hgj, rfl, hF, hGl, hG, hBy⟩ := hrel
                clear H3
                by_cases hk : 0 < gk
                · have hj : j < K := by omega
                  have hjK : (j : Int) < (K : Int) := by omega
                  have HS := hide (And.intro hF (And.intro hGl hG))
                  obtain ⟨S, hS⟩ : ∃ S, S = wr.heap.size := ⟨_, rfl⟩
                  have HSe : Hid (∃ wS, Fl wS B K (.slice (some ⟨L, 0, none⟩) K cap) v n (fun k => bv (marks (k : Int) (n k))) ∧ Gl wS B K (.slice (some ⟨G, 0, none⟩) K K) (.slice (some ⟨L, 0, none⟩) K cap) v u n j (fun k => bv (marks (k : Int) (n k) ++ marks ((k + K : Nat) : Int) 64)) ∧ wS.heap.size ≤ S) := ⟨wr, hF, hGl, Nat.le_of_eq hS.symm⟩
                  have hBS : B ≤ S := by omega
                  have hS0 : w0.heap.size ≤ S := by rw [hS]; exact hG.1.size
                  have HSq := hide hS
                  clear hF hGl hG hS
                  go_wp2
                  rw [← HSq.out]
                  go_loopg [13] 64 (fun q i wx => ∃ t : Nat, q + t = 64 ∧ i = .int .i64 t ∧ wx.ownsRow S 5 1 (.slice (some ⟨S, 0, none⟩) 64 64) 64 (bv (marks ((j + K : Nat) : Int) t ++ List.replicate (64 - t) 0)) ∧ Fl wx B K (.slice (some ⟨L, 0, none⟩) K cap) v n (fun k => bv (marks (k : Int) (n k))) ∧ Gl wx B K (.slice (some ⟨G, 0, none⟩) K K) (.slice (some ⟨L, 0, none⟩) K cap) v u n j (fun k => bv (marks (k : Int) (n k) ++ marks ((k + K : Nat) : Int) 64)) ∧ Kp T w0 wx bb cb ∧ S + 1 ≤ wx.heap.size)
                  case atStart =>
                    obtain ⟨hF, hGl, hG⟩ := HS.out
                    have ga := World.grownBy_alloc wr (Obj.cells (zrow 64).toArray 5) none
                    refine ⟨0, rfl, rfl, ?_, hF.kept ga, hGl.kept ga, hG.new ga, by rw [HSq.out]; simp⟩
                    have h := World.ownsRow_lit (base := S) (e := 5) (size := 1) wr (zrow 64).toArray 64 (Nat.le_of_eq HSq.out) (by unfold maxLen; omega) (by simp [zrow])
                    rw [← HSq.out] at h
                    have e : (zrow 64) = bv (marks ((j + K : Nat) : Int) 0 ++ List.replicate (64 - 0) 0) := by simp [zrow, marks, bv]
                    rw [← e]
                    simpa using h
                  case round =>
                    obtain ⟨t, hgt, rfl, hmany, hF, hGl, hG, hsz⟩ := hrel
                    clear HS HSq
                    by_cases hk2 : 0 < gk
                    · have ht1 : (t : Int) < 64 := by omega
                      have hml : (marks ((j + K : Nat) : Int) t).length = t := marks_length _ _
                      have hcell := hmany.cellAt t (by omega)
                      rw [bv_get _ t 0 (by rw [List.getElem?_append_right (by omega), hml, Nat.sub_self, List.getElem?_replicate, if_pos (by omega)])] at hcell
                      have hfr := hmany.frozenAt t
                      have hmk : ∀ w, Calls Tryz.prog 81 #[.int .i64 ((j : Int) + (K : Int)), .int .i64 (t : Int)] w fun e w' => e = .returned (.int .u8 ((mkN ((j + K : Nat) : Int) t : Nat) : Int)) ∧ w' = w := fun w => by
                        rw [show (j : Int) + (K : Int) = ((j + K : Nat) : Int) by omega]
                        exact markN_any ((j + K : Nat) : Int) t w (by omega) (by omega) (by omega)
                      have HM := hide hmk
                      have hset : (marks ((j + K : Nat) : Int) t ++ List.replicate (64 - t) 0).set t (mkN ((j + K : Nat) : Int) t) = marks ((j + K : Nat) : Int) (t + 1) ++ List.replicate (64 - (t + 1)) 0 := by
                        rw [List.set_append_right _ _ (by omega), hml, Nat.sub_self, show 64 - t = (64 - (t + 1)) + 1 by omega, List.replicate_succ, List.set_cons_zero, marks_succ, List.append_assoc]
                        rfl
                      have HQ := hide (And.intro hmany (And.intro hF (And.intro hGl (And.intro hG hset))))
                      generalize mkN ((j + K : Nat) : Int) t = mk at *
                      clear hmany hF hGl hG hml hmk hset
                      go_wp2_with (first | (go_at_call 81; refine (HM.out _).mono ?_; rintro e wr ⟨rfl, rfl⟩) | go_in)
                      go_roundg (gk - 1)
                      case measure => omega
                      case rel =>
                        obtain ⟨hmany, hF, hGl, hG, hset⟩ := HQ.out
                        obtain ⟨wS, hFS, hGS, hS⟩ := HSe.out
                        have hst := hmany.stored t (.int .u8 ((mk : Nat) : Int))
                        refine ⟨t + 1, by omega, by go_num, ?_, hF.fresh hFS hS hst.2, hGl.fresh hGS hS hst.2, hG.step hst.2 (fun k e => by cases e; exact Or.inl hS0) (own_bag hmany hG.2 (by decide)), Nat.le_trans hsz hst.2.size⟩
                        rw [← hset, bv_set]; exact hst.1
                    · have ht : t = 64 := by omega
                      have ht1 : ¬ (t : Int) < 64 := by omega
                      subst ht
                      rw [show 64 - 64 = 0 by omega, List.replicate_zero, List.append_nil] at hmany
                      obtain ⟨am, cm, em, -, -, -, hatm, -⟩ := own_at hmany
                      cases em
                      have hcl := hF.cell hj
                      obtain ⟨ao, c, hv⟩ := own_len (hF.row j hj)
                      rw [hv] at hcl
                      have hrow := hF.row j hj
                      rw [hv] at hrow
                      have hcg : ∀ w', wr.grownBy w' (v j).ownBlock → w'.cell? ⟨G, j, none⟩ = some (u j) ∧ w'.frozen? ⟨G, j, none⟩ = false := by
                        intro w' hg'
                        have h := hGl.gs.kept hg' (own_ne hGl.gs (hF.row j hj) (by decide))
                        exact ⟨by rw [h.cellAt j (by omega)]; simp [hj], h.frozenAt j⟩
                      have hnb := HN.out j hj
                      have HQ := hide (And.intro hF (And.intro hGl (And.intro hG (And.intro hv (And.intro hatm (And.intro hrow (And.intro hcg (marks_length ((j + K : Nat) : Int) 64))))))))
                      obtain ⟨nj, hnj⟩ : ∃ x, x = n j := ⟨_, rfl⟩
                      rw [← hnj] at hcl hnb
                      have HNJ := hide hnj
                      clear hF hGl hG hv hatm hrow hcg hmany hnj HSe
                      go_wp2_with (at_builtin; refine wpList_append_keep rfl (.tmp 148) (.tmp 149) rfl B (.slice ao nj c) nj (bv (marks (j : Int) nj)) rfl (by rw [HNJ.out]; exact HQ.out.2.2.2.2.2.1) ⟨S, 0, none⟩ 64 64 (marks ((j + K : Nat) : Int) 64) rfl HQ.out.2.2.2.2.2.2.2 (by decide) HQ.out.2.2.2.2.1 (by omega) (by omega) ?_)
                      intro v' w' hown' hkeep hgr hnew
                      rw [HNJ.out] at hown' hkeep hgr hnew
                      obtain ⟨hF, hGl, hG, hv, hatm, hrow, hcg, -⟩ := HQ.out
                      rw [← hv] at hkeep hgr hnew
                      obtain ⟨hc1, hc2⟩ := hcg w' hgr
                      have hstep := grow_step (g' := v') hF hGl hj hF hGl (Nat.le_refl _) (Nat.le_refl _) (hF.row j hj) (Or.inl rfl) (Nat.le_refl _) (by rw [List.take_of_length_le (by rw [bv_length, marks_length]; exact Nat.le_refl _)]) hkeep hgr hnew
                      rw [← bv_append] at hown'
                      have hput := hstep.2.1.put hstep.1 hj hF hGl (Nat.le_refl _) hstep.2.2 hown'
                      obtain ⟨ax, cx, hxv⟩ := own_len hown'
                      subst hxv
                      have hG1 : Kp T w0 w' bb cb := hG.step hgr (fun k e => HT.out j hj k e) (own_bag (hF.row j hj) hG.2 (by decide))
                      have hG' : Kp T w0 (w'.setCell ⟨G, j, none⟩ (.slice ax (n j + 64) cx)) bb cb := hG1.step hput.2.2 (fun k e => by cases e; exact Or.inl hGw) (own_bag hstep.2.1.gs hG1.2 (by decide))
                      have HQ2 := hide (And.intro hput.1 (And.intro hput.2.1 (And.intro hG' (Nat.le_trans (Nat.le_trans (show B ≤ wr.heap.size by omega) hgr.size) hput.2.2.size))))
                      generalize u j = uj at *
                      clear hF hGl hG hv hatm hrow hcg hstep hput hG1 hG' hown' hkeep hgr hnew HQ HNJ hcl
                      go_wp2
                      go_roundg (K - (j + 1))
                      case measure => omega
                      case rel => exact ⟨j + 1, _, by omega, by go_num, HQ2.out.1, HQ2.out.2.1, HQ2.out.2.2.1, HQ2.out.2.2.2⟩
                · have hjK : j = K := by omega
                  have hjK1 : ¬ (j : Int) < (K : Int) := by omega
                  rw [hjK] at hGl
                  have H4 := hide (And.intro hF (And.intro hGl hG))
                  clear hF hGl hG hjK hm64
                  go_wp2
                  go_loopg [14, 15] K (fun q i _ wx => ∃ j : Nat, q + j = K ∧ i = .int .i64 j ∧ Fl wx B K (.slice (some ⟨L, 0, none⟩) K cap) v n (fun k => bv (marks (k : Int) (n k))) ∧ Gl wx B K (.slice (some ⟨G, 0, none⟩) K K) (.slice (some ⟨L, 0, none⟩) K cap) v u n K (fun k => bv (marks (k : Int) (n k) ++ marks ((k + K : Nat) : Int) 64)) ∧ Kp T w0 wx bb cb)
                  case atStart => exact ⟨0, by omega, rfl, H4.out.1, H4.out.2.1, H4.out.2.2⟩
                  case round =>
                    obtain ⟨j, hgj, rfl, hF, hGl, hG⟩ := hrel
                    clear H4
                    by_cases hk : 0 < gk
                    · have hj : j < K := by omega
                      have hjK : (j : Int) < (K : Int) := by omega
                      obtain ⟨ao, c, hv⟩ := own_len (hF.row j hj)
                      obtain ⟨gu, cu, hu, hBu, hncu, hcmu⟩ := own_place (hGl.row j hj) (by omega)
                      have HS := hide (And.intro hF (And.intro hGl (And.intro hG (And.intro hv hu))))
                      clear hF hGl hG hv hu
                      go_wp2
                      go_loopg [15] (n j) (fun q i wx => ∃ t : Nat, q + t = n j ∧ i = .int .i64 t ∧ Fl wx B K (.slice (some ⟨L, 0, none⟩) K cap) v n (fun k => bv (marks (k : Int) (n k))) ∧ Gl wx B K (.slice (some ⟨G, 0, none⟩) K K) (.slice (some ⟨L, 0, none⟩) K cap) v u n K (fun k => bv (marks (k : Int) (n k) ++ marks ((k + K : Nat) : Int) 64)) ∧ Kp T w0 wx bb cb)
                      case atStart => exact ⟨0, by omega, rfl, HS.out.1, HS.out.2.1, HS.out.2.2.1⟩
                      case round =>
                        obtain ⟨t, hgt, rfl, hF, hGl, hG⟩ := hrel
                        obtain ⟨-, -, -, hv, hu⟩ := HS.out
                        have hcl := hF.cell hj
                        have hcg : wr.cell? ⟨G, j, none⟩ = some (u j) := by rw [hGl.gs.cellAt j (by omega)]; simp [hj]
                        rw [hv] at hcl
                        rw [hu] at hcg
                        have hnb := HN.out j hj
                        by_cases hk2 : 0 < gk
                        · have hrowg := hGl.row j hj
                          rw [hu] at hrowg
                          have hcell := hrowg.cellAt t (by omega)
                          rw [bv_get _ _ _ (show _ = some (mkN (j : Int) t) by rw [List.getElem?_append_left (by rw [marks_length]; omega)]; exact marks_get (j : Int) (n j) t (by omega))] at hcell
                          have hmk := fun w => markN_any (j : Int) t w (by omega) (by omega) (by omega)
                          have HM := hide hmk
                          have ht1 : (t : Int) < ((n j + 64 : Nat) : Int) := by omega
                          unfold maxLen at hcmu
                          have hrowv := hF.row j hj
                          obtain ⟨gv, cv, hv2, _, _, _⟩ := own_place hrowv (by omega)
                          rw [hv2] at hrowv
                          have hcell2 := hrowv.cellAt t (by omega)
                          rw [bv_get _ _ _ (marks_get (j : Int) (n j) t (by omega))] at hcell2
                          rw [hv] at hv2
                          cases hv2
                          have htn1 : (t : Int) < (n j : Int) := by omega
                          have HQ := hide (And.intro hF (And.intro hGl hG))
                          generalize mkN (j : Int) t = mk at *
                          obtain ⟨nj, hnj⟩ : ∃ x, x = n j := ⟨_, rfl⟩
                          rw [← hnj] at hcl hcg ht1 htn1 hnb
                          clear hF hGl hG hv hu hrowg hrowv hmk hnj
                          go_wp2
                          go_quiet ((go_at_call 81; exact Calls.quiet_of_same (HM.out _)))
                          go_wp2
                          go_roundg (gk - 1)
                          case measure => omega
                          case rel => exact ⟨t + 1, by omega, by go_num, HQ.out.1.kept (grown_drewN _ _ _), HQ.out.2.1.kept (grown_drewN _ _ _), HQ.out.2.2.new (grown_drewN _ _ _)⟩
                        · have ht1 : ¬ (t : Int) < (n j : Int) := by omega
                          have HQ := hide (And.intro hF (And.intro hGl hG))
                          obtain ⟨nj, hnj⟩ : ∃ x, x = n j := ⟨_, rfl⟩
                          rw [← hnj] at hcl hcg ht1
                          clear hF hGl hG hv hu HS hnb hncu hnj hcg
                          go_wp2
                          go_roundg (K - (j + 1))
                          case measure => omega
                          case rel => exact ⟨j + 1, by omega, by go_num, HQ.out.1, HQ.out.2.1, HQ.out.2.2⟩
                    · have hjK1 : ¬ (j : Int) < (K : Int) := by omega
                      have HQ := hide hG
                      clear hF hGl hG
                      go_wp2
                      go_ret
                      exact ⟨rfl, HQ.out⟩
end Go.Proofs.YtnnmaknjhfjojaaGreatDoor.Ap
/- Lists of spans that lie apart: what keeps them; append that leaves the list ahead of it as it was. Plain lemmas for flatSpans. -/
namespace Go.Proofs.YtnnmaknjhfjojaaGreatDoor.Af
open Go.RowKit
attribute [local go_sem ↓] Go.wp_at_zero Go.wp_at_succ

/-- The cells of a mark. -/
def fm (m : Nat) : List Value := [.int .i64 (m : Int), .int .i64 0]
def fmV (m : Nat) : Value := .agg #[.int .i64 (m : Int), .int .i64 0]
/-- Marks as they lie in cells. -/
def fv (ms : List Nat) : List Value := ms.flatMap fm
theorem fv_cons (m : Nat) (ms : List Nat) : fv (m :: ms) = fm m ++ fv ms := by simp [fv]
theorem fv_append (xs ys : List Nat) : fv (xs ++ ys) = fv xs ++ fv ys := by simp [fv]
theorem fv_one (m : Nat) : fv [m] = fm m := by simp [fv]
theorem fv_length : ∀ (l : List Nat), (fv l).length = l.length * 2
  | [] => rfl
  | x :: l => by have := fv_length l; rw [fv_cons, List.length_append, this, List.length_cons]; show 2 + _ = _; omega
theorem fv_at : ∀ (l : List Nat) (i : Nat) (m : Nat), l[i]? = some m → (fv l)[i * 2]? = some (.int .i64 (m : Int)) ∧ (fv l)[i * 2 + 1]? = some (.int .i64 0)
  | [], i, x, h => by simp at h
  | y :: l, 0, x, h => by simp at h; subst h; exact ⟨rfl, rfl⟩
  | y :: l, i + 1, x, h => by
    have := fv_at l i x (by simpa using h)
    have e : fv (y :: l) = .int .i64 (y : Int) :: .int .i64 0 :: fv l := rfl
    rw [e, show (i + 1) * 2 = i * 2 + 1 + 1 by omega]
    simpa [Nat.add_assoc] using this
theorem fv_one_cell (l : List Nat) : ∀ u ∈ fv l, u.oneCell' = true := by
  intro u hu
  simp only [fv, List.mem_flatMap, fm] at hu
  obtain ⟨m, _, h⟩ := hu
  simp at h
  rcases h with rfl | rfl <;> rfl
/-- The mark of a place. -/
def mkN (k : Int) (i : Nat) : Nat := (1000003 * (k + 7) + (i : Int)).toNat
theorem mkN_le (k : Int) (i : Nat) (hk : k ≤ 1000000) (hi : i ≤ 1000000000000000000) : ((mkN k i : Nat) : Int) ≤ 2000000000000000000 := by unfold mkN; omega
def marks (k : Int) (j : Nat) : List Nat := (List.range j).map fun (i : Nat) => mkN k i
theorem marks_length (k : Int) (j : Nat) : (marks k j).length = j := by simp [marks]
theorem marks_succ (k : Int) (j : Nat) : marks k (j + 1) = marks k j ++ [mkN k j] := by simp [marks, List.range_succ]
theorem marks_get (k : Int) (j i : Nat) (h : i < j) : (marks k j)[i]? = some (mkN k i) := by simp [marks, h]
theorem marks_take (k : Int) (a b : Nat) : (fv (marks k (a + b))).take (a * 2) = fv (marks k a) := by
  have e : marks k (a + b) = marks k a ++ (marks k (a + b)).drop a := by
    have h1 : (marks k (a + b)).take a = marks k a := by unfold marks; rw [← List.map_take, List.take_range, Nat.min_eq_left (by omega)]
    rw [← h1, List.take_append_drop]
  rw [e, fv_append, List.take_append_of_le_length (by rw [fv_length, marks_length]; exact Nat.le_refl _), List.take_of_length_le (by rw [fv_length, marks_length]; exact Nat.le_refl _)]
set_option maxHeartbeats 400000 in
theorem mark_any (k i : Int) (w : World) (_hk0 : 0 ≤ k) (_hk : k ≤ 1000000) (_hi0 : 0 ≤ i) (_hi : i ≤ 1000000000000000000) :
    Calls Tryz.prog 44 #[.int .i64 k, .int .i64 i] w fun e w' => e = .returned (.int .i64 (1000003 * (k + 7) + i)) ∧ w' = w := by
  go_enter Tryz.func44, Tryz.ntmps44
  go_wp2
  go_ret
  exact ⟨rfl, rfl⟩
set_option maxHeartbeats 400000 in
theorem markSpan_any (k : Int) (i : Nat) (w : World) (hk0 : 0 ≤ k) (hk : k ≤ 1000000) (hi : i ≤ 1000000000000000000) :
    Calls Tryz.prog 83 #[.int .i64 k, .int .i64 (i : Int)] w fun e w' => e = .returned (fmV (mkN k i)) ∧ w.grownBy w' none := by
  have HM := hide (fun w => mark_any k (i : Int) w hk0 hk (by omega) (by omega))
  have e : 1000003 * (k + 7) + (i : Int) = ((mkN k i : Nat) : Int) := by unfold mkN; omega
  have hl := mkN_le k i hk hi
  rw [e] at HM
  clear e
  generalize mkN k i = m at *
  unfold fmV
  have G : Hid (∀ o, w.grownBy (w.alloc o) none) := fun o => World.grownBy_alloc w o none
  go_enter Tryz.func83, Tryz.ntmps83
  go_wp2_with fail
  refine (HM.out _).mono ?_
  rintro e w2 ⟨rfl, rfl⟩
  go_wp2
  refine bodyPost_ret (results_cell_row rfl _ _ w.heap.size 64 #[.int .i64 (m : Int), .int .i64 0] (0, 0) _ rfl (heap_alloc_new w _) Tryz.underlying64 rfl (by kernel_rfl)) rfl ⟨rfl, G.out _⟩
/-- append(s, x...), s the call's own, x marks that lie somewhere: s still reads as it did; what is answered lies where s lies, or in a new place. -/
theorem run_append_keep (w : World) (ty : TypeId) (base : Nat) (v : Value) (n : Nat) (xs : List Value) (hown : w.ownsRow base 64 2 v n xs) (a : Addr) (m c : Nat) (ys : List Nat) (hl : ys.length = m) (h0 : 0 < m) (hnews : ∀ j u, (fv ys)[j]? = some u → w.cell? (a.add j) = some u)
    (hbytes : n + m ≤ 3000000000000) (hbase : base ≤ w.heap.size) :
    ∃ v' w', (Builtin.append_ #[33, 33] ty #[v, .slice (some a) m c]).run Tryz.prog w = .ok v' w' ∧ w'.ownsRow base 64 2 v' (n + m) (xs ++ fv ys) ∧ w'.ownsRow base 64 2 v n xs ∧ w.grownBy w' v.ownBlock ∧
      (v'.ownBlock = v.ownBlock ∨ ∀ k, v'.ownBlock = some k → w.heap.size ≤ k) := by
  obtain ⟨i0, hi, hz0, hz1, hz2⟩ := info_parts Tryz.info64
  have h1 := fv_one_cell ys
  have hbl : (fv ys).length = m * 2 := by rw [fv_length, hl]
  rcases hown.2 with ⟨rfl, rfl⟩ | ⟨g, cap, cur, rfl, hbg, hg, hnc, hcm, hcs, htake⟩
  · have hx : xs = [] := List.eq_nil_of_length_eq_zero (by simpa using hown.1)
    subst hx
    have hr := run_append_nil (P := Tryz.prog) w 33 ty 64 i0 (.agg #[.int .i64 0, .int .i64 0]) Tryz.underlying33 hi hz0 a m c (fv ys) (by rw [hz1, hbl]) hnews h0 (by omega) (by rw [hz2]; omega)
    have hge := grownCap_ge w m 0 64
    have hcm2 : grownCap w m 0 64 ≤ maxLen := grownCap_le_maxLen w m 0 64 (by unfold maxLen; omega)
    have hgr : w.grownBy (w.drew.alloc (.cells ((fv ys).toArray ++ Builtin.zeroCells (Value.agg #[.int .i64 0, .int .i64 0]).cells (grownCap w m 0 64 - m)) 64)) none := grown_trans (grown_drew w none) (World.grownBy_alloc w.drew _ none)
    refine ⟨_, _, hr, ⟨by simp [hbl], .inr ⟨w.heap.size, _, _, by rw [Nat.zero_add], hbase, heap_alloc_new w.drew _, by omega, hcm2, ?_, ?_⟩⟩, World.ownsRow_nil _ _ _ _, hgr, Or.inr (fun k e => by cases e; exact Nat.le_refl _)⟩
    · simp only [Array.size_append, List.size_toArray, size_zeroCells, hbl]
      have : (Value.agg #[.int .i64 0, .int .i64 0]).cells.size = 2 := rfl
      rw [this, Nat.sub_mul]
      have : m * 2 ≤ grownCap w m 0 64 * 2 := Nat.mul_le_mul_right 2 (by omega)
      omega
    · simp only [Array.toList_append, List.nil_append, Nat.zero_add]
      rw [List.take_append_of_le_length (by simp [hbl]), List.take_of_length_le (by simp [hbl])]
  · by_cases hroom : n + m ≤ cap
    · have hfit : n * i0.size + (fv ys).length ≤ cur.size := by rw [hz1, hbl, hcs]; omega
      have hr := run_append_room (P := Tryz.prog) w 33 ty 64 i0 Tryz.underlying33 hi g n cap cur hg a m c (fv ys) (by rw [hz1, hbl]) hnews h1 hroom hfit
      rw [hz1, hbl] at hr
      have hxl : xs.length = n * 2 := hown.1
      have hlen2 : (cur.toList.take (n * 2) ++ fv ys ++ cur.toList.drop (n * 2 + m * 2)).toArray.size = cap * 2 := by
        simp only [List.size_toArray, List.length_append, List.length_take, List.length_drop, Array.length_toList, hbl]; omega
      refine ⟨_, _, hr, ⟨by simp [hxl, hbl]; omega, .inr ⟨g, cap, _, rfl, hbg, setRow_heap w g cur _ 64 _ hg, hroom, hcm, hlen2, ?_⟩⟩, ⟨hown.1, .inr ⟨g, cap, _, rfl, hbg, setRow_heap w g cur _ 64 _ hg, hnc, hcm, hlen2, ?_⟩⟩, (⟨rfl, rfl, rfl, by simp, fun k _ hk => setRow_other w g k _ (fun e => hk (by simp [Value.ownBlock, e]))⟩), Or.inl rfl⟩
      · rw [htake]
        rw [List.take_append_of_le_length (by simp [hxl, hbl]; omega), List.take_of_length_le (by simp [hxl, hbl]; omega)]
      · rw [htake, List.append_assoc]
        rw [List.take_append_of_le_length (by omega), List.take_of_length_le (by omega)]
    · have holds : ∀ j u, xs[j]? = some u → w.cell? ((⟨g, 0, none⟩ : Addr).add j) = some u := hown.cells (g := g) rfl
      obtain ⟨v', w', hr, h2, h3⟩ := run_append_arg_grows (P := Tryz.prog) w 33 ty 64 i0 (.agg #[.int .i64 0, .int .i64 0]) 2 16 Tryz.underlying33 hi hz0 hz1 hz2 rfl (by decide) ⟨g, 0, none⟩ n cap xs hown.1 holds a m c (fv ys) (by rw [hbl]) hnews (by omega) (by unfold maxLen; omega) (by omega)
      refine ⟨v', w', hr, Ap.ownsRow_le h2 hbase, hown.kept h3 (Or.inr (by simp [Value.ownBlock])), grown_none h3 _, Or.inr (fun k e => (h2.lt k e).1)⟩

/-- The same as a step of the walk. -/
theorem wpList_append_keep {w : World} {ops : Array Oper} {rest : List Oper} {o : Oper} {a : Act} {Q : Exit → Act → World → Prop} (hgd : o.guard = none) (s x : Operand)
    (ho : o.op = .call { callee := .builtin .append, args := #[s, x], argTypes := #[33, 33] }) (base : Nat) (v : Value) (n : Nat) (xs : List Value) (hs : a.eval s = v) (hown : w.ownsRow base 64 2 v n xs)
    (ad : Addr) (m c : Nat) (ys : List Nat) (hx : a.eval x = .slice (some ad) m c) (hl : ys.length = m) (h0 : 0 < m) (hat : ∀ j u, (fv ys)[j]? = some u → w.cell? (ad.add j) = some u) (hbytes : n + m ≤ 3000000000000) (hbase : base ≤ w.heap.size)
    (h : ∀ v' w', w'.ownsRow base 64 2 v' (n + m) (xs ++ fv ys) → w'.ownsRow base 64 2 v n xs → w.grownBy w' v.ownBlock → (v'.ownBlock = v.ownBlock ∨ ∀ k, v'.ownBlock = some k → w.heap.size ≤ k) → wpList Tryz.prog ops Q rest (a.put o.dst v') w') : wpList Tryz.prog ops Q (o :: rest) a w := by
  refine wpList_plain hgd fun K hK => ?_
  obtain ⟨v', w', hr, h1, h2, h3, h4⟩ := run_append_keep w o.type base v n xs hown ad m c ys hl h0 hat hbytes hbase
  unfold Oper.wp execOp
  simp only [ho, resolve, invoke, builtin, Sem.run_bind, Sem.run_pure, Result.andThen_ok, List.map_toArray, List.map_cons, List.map_nil, hs, hx, hr]
  exact hK _ _ (h v' w' h1 h2 h3 h4)

/-- The lists ls, each a row of its own: K values v k of n k spans, that hold f k. -/
structure Fl (w : World) (B K : Nat) (lsv : Value) (v : Nat → Value) (n : Nat → Nat) (f : Nat → List Value) : Prop where
  ls : w.ownsRow B 33 1 lsv K ((List.range K).map v)
  row : ∀ k, k < K → w.ownsRow B 64 2 (v k) (n k) (f k)
  apart : ∀ i k, i < K → k < K → i ≠ k → (v i).ownBlock = none ∨ (v i).ownBlock ≠ (v k).ownBlock
theorem Fl.kept {w w' : World} {B K : Nat} {lsv : Value} {v : Nat → Value} {n : Nat → Nat} {f : Nat → List Value} (h : Fl w B K lsv v n f) (hg : w.grownBy w' none) : Fl w' B K lsv v n f :=
  ⟨h.ls.kept hg (by cases lsv.ownBlock <;> simp), fun k hk => (h.row k hk).kept hg (by cases (v k).ownBlock <;> simp), h.apart⟩
/-- One row is written; the others stay. -/
theorem Fl.wrote {w w' : World} {B K : Nat} {lsv : Value} {v : Nat → Value} {n : Nat → Nat} {f f' : Nat → List Value} (h : Fl w B K lsv v n f) (j : Nat) (hj : j < K) (hg : w.grownBy w' (v j).ownBlock) (hrow : w'.ownsRow B 64 2 (v j) (n j) (f' j))
    (hf : ∀ k, k ≠ j → f' k = f k) : Fl w' B K lsv v n f' := by
  refine ⟨h.ls.kept hg (Ap.own_ne h.ls (h.row j hj) (by decide)), fun k hk => ?_, h.apart⟩
  by_cases e : k = j
  · subst e; exact hrow
  · rw [hf k e]
    exact (h.row k hk).kept hg (h.apart k j hk hj e)
end Go.Proofs.YtnnmaknjhfjojaaGreatDoor.Af
