/- Texts joined: KFlat0, KFlat1. -/
import Derived.Test.YtofdijaipjkfbaaGreatDoorJkAi
import Derived.ArgAppend
/- Rows of bytes that lie apart: what keeps them; append that leaves the row ahead of it as it was. Plain lemmas for flatBytes. -/
namespace Go.Proofs.YtofdijaipjkfbaaGreatDoor.Ap
open Go.RowKit

theorem ownsRow_le {w : World} {base base' size n : Nat} {e : TypeId} {v : Value} {xs : List Value} (h : w.ownsRow base e size v n xs) (hb : base' ≤ base) : w.ownsRow base' e size v n xs := by
  refine ⟨h.1, ?_⟩
  rcases h.2 with h1 | ⟨g, cap, cur, h1, h2, h3⟩
  · exact Or.inl h1
  · exact Or.inr ⟨g, cap, cur, h1, by omega, h3⟩
/-- append(s, x...), s the call's own, x bytes that lie somewhere: s still reads as it did; what is answered lies where s lies, or in a new place. -/
theorem run_append_keep (w : World) (ty : TypeId) (base : Nat) (v : Value) (n : Nat) (xs : List Value) (hown : w.ownsRow base 5 1 v n xs) (a : Addr) (m c : Nat) (ys : List Nat) (hl : ys.length = m) (h0 : 0 < m) (hat : At w (some a) ys)
    (hbytes : n + m ≤ 140737488355328) (hbase : base ≤ w.heap.size) :
    ∃ v' w', (Builtin.append_ #[39, 39] ty #[v, .slice (some a) m c]).run Tryz.prog w = .ok v' w' ∧ w'.ownsRow base 5 1 v' (n + m) (xs ++ bv ys) ∧ w'.ownsRow base 5 1 v n xs ∧ w.grownBy w' v.ownBlock ∧
      (v'.ownBlock = v.ownBlock ∨ ∀ k, v'.ownBlock = some k → w.heap.size ≤ k) := by
  obtain ⟨i0, hi, hz0, hz1, hz2⟩ := info_parts Tryz.info5
  have hnews : ∀ j u, (bv ys)[j]? = some u → w.cell? (a.add j) = some u := by
    intro j u hu
    rw [bv, List.getElem?_map] at hu
    cases hj : ys[j]? with
    | none => simp [hj] at hu
    | some y =>
      simp [hj] at hu
      obtain ⟨a', ha', hc'⟩ := hat j y hj
      cases ha'
      rw [← hu]; exact hc'
  have h1 : ∀ u ∈ bv ys, u.oneCell' = true := by intro u hu; rw [bv, List.mem_map] at hu; obtain ⟨y, _, rfl⟩ := hu; rfl
  have hbl : (bv ys).length = m := by rw [bv_length, hl]
  rcases hown.2 with ⟨rfl, rfl⟩ | ⟨g, cap, cur, rfl, hbg, hg, hnc, hcm, hcs, htake⟩
  · have hx : xs = [] := List.eq_nil_of_length_eq_zero (by simpa using hown.1)
    subst hx
    have hr := run_append_nil (P := Tryz.prog) w 39 ty 5 i0 (.int .u8 0) Tryz.underlying39 hi hz0 a m c (bv ys) (by rw [hz1, hbl, Nat.mul_one]) hnews h0 (by omega) (by rw [hz2]; omega)
    have hge := grownCap_ge w m 0 5
    have hcm2 : grownCap w m 0 5 ≤ maxLen := grownCap_le_maxLen w m 0 5 (by unfold maxLen; omega)
    have hgr : w.grownBy (w.drew.alloc (.cells ((bv ys).toArray ++ Builtin.zeroCells (Value.int .u8 0).cells (grownCap w m 0 5 - m)) 5)) none := grown_trans (grown_drew w none) (World.grownBy_alloc w.drew _ none)
    refine ⟨_, _, hr, ⟨by simp [hbl], .inr ⟨w.heap.size, _, _, by rw [Nat.zero_add], hbase, heap_alloc_new w.drew _, by omega, hcm2, ?_, ?_⟩⟩, World.ownsRow_nil _ _ _ _, hgr, Or.inr (fun k e => by cases e; exact Nat.le_refl _)⟩
    · simp only [Array.size_append, List.size_toArray, size_zeroCells, hbl, Nat.mul_one]
      have : (Value.int .u8 0).cells.size = 1 := rfl
      rw [this]; omega
    · simp only [Array.toList_append, List.nil_append, Nat.zero_add, Nat.mul_one]
      rw [List.take_append_of_le_length (by simp [hbl]), List.take_of_length_le (by simp [hbl])]
  · by_cases hroom : n + m ≤ cap
    · have hfit : n * i0.size + (bv ys).length ≤ cur.size := by rw [hz1, hbl, hcs]; omega
      have hr := run_append_room (P := Tryz.prog) w 39 ty 5 i0 Tryz.underlying39 hi g n cap cur hg a m c (bv ys) (by rw [hz1, hbl, Nat.mul_one]) hnews h1 hroom hfit
      rw [hz1, Nat.mul_one, hbl] at hr
      have hxl : xs.length = n := by simpa using hown.1
      rw [Nat.mul_one] at htake
      have hlen2 : (cur.toList.take n ++ bv ys ++ cur.toList.drop (n + m)).toArray.size = cap * 1 := by
        simp only [List.size_toArray, List.length_append, List.length_take, List.length_drop, Array.length_toList, hbl]; omega
      refine ⟨_, _, hr, ⟨by simp [hxl, hbl], .inr ⟨g, cap, _, rfl, hbg, setRow_heap w g cur _ 5 _ hg, hroom, hcm, hlen2, ?_⟩⟩, ⟨hown.1, .inr ⟨g, cap, _, rfl, hbg, setRow_heap w g cur _ 5 _ hg, hnc, hcm, hlen2, ?_⟩⟩, (⟨rfl, rfl, rfl, by simp, fun k _ hk => setRow_other w g k _ (fun e => hk (by simp [Value.ownBlock, e]))⟩), Or.inl rfl⟩
      · rw [htake, Nat.mul_one]
        rw [List.take_append_of_le_length (by simp [hxl, hbl]), List.take_of_length_le (by simp [hxl, hbl])]
      · rw [htake, Nat.mul_one, List.append_assoc]
        rw [List.take_append_of_le_length (by omega), List.take_of_length_le (by omega)]
    · have holds : ∀ j u, xs[j]? = some u → w.cell? ((⟨g, 0, none⟩ : Addr).add j) = some u := hown.cells (g := g) rfl
      obtain ⟨v', w', hr, h2, h3⟩ := run_append_arg_grows (P := Tryz.prog) w 39 ty 5 i0 (.int .u8 0) 1 1 Tryz.underlying39 hi hz0 hz1 hz2 rfl (by decide) ⟨g, 0, none⟩ n cap xs hown.1 holds a m c (bv ys) (by simp [hbl]) hnews (by omega) (by unfold maxLen; omega) (by omega)
      refine ⟨v', w', hr, ownsRow_le h2 hbase, hown.kept h3 (Or.inr (by simp [Value.ownBlock])), grown_none h3 _, Or.inr (fun k e => (h2.lt k e).1)⟩

/-- The same as a step of the walk. -/
theorem wpList_append_keep {w : World} {ops : Array Oper} {rest : List Oper} {o : Oper} {a : Act} {Q : Exit → Act → World → Prop} (hgd : o.guard = none) (s x : Operand)
    (ho : o.op = .call { callee := .builtin .append, args := #[s, x], argTypes := #[39, 39] }) (base : Nat) (v : Value) (n : Nat) (xs : List Value) (hs : a.eval s = v) (hown : w.ownsRow base 5 1 v n xs)
    (ad : Addr) (m c : Nat) (ys : List Nat) (hx : a.eval x = .slice (some ad) m c) (hl : ys.length = m) (h0 : 0 < m) (hat : At w (some ad) ys) (hbytes : n + m ≤ 140737488355328) (hbase : base ≤ w.heap.size)
    (h : ∀ v' w', w'.ownsRow base 5 1 v' (n + m) (xs ++ bv ys) → w'.ownsRow base 5 1 v n xs → w.grownBy w' v.ownBlock → (v'.ownBlock = v.ownBlock ∨ ∀ k, v'.ownBlock = some k → w.heap.size ≤ k) → wpList Tryz.prog ops Q rest (a.put o.dst v') w') : wpList Tryz.prog ops Q (o :: rest) a w := by
  refine wpList_plain hgd fun K hK => ?_
  obtain ⟨v', w', hr, h1, h2, h3, h4⟩ := run_append_keep w o.type base v n xs hown ad m c ys hl h0 hat hbytes hbase
  unfold Oper.wp execOp
  simp only [ho, resolve, invoke, builtin, Sem.run_bind, Sem.run_pure, Result.andThen_ok, List.map_toArray, List.map_cons, List.map_nil, hs, hx, hr]
  exact hK _ _ (h v' w' h1 h2 h3 h4)

/-- Two rows of unlike kinds of cells lie apart. -/
theorem own_ne {w : World} {B B' n n' s s' : Nat} {e e' : TypeId} {v v' : Value} {xs xs' : List Value} (h : w.ownsRow B e s v n xs) (h' : w.ownsRow B' e' s' v' n' xs') (he : e ≠ e') : v.ownBlock = none ∨ v.ownBlock ≠ v'.ownBlock := by
  rcases h.2 with ⟨rfl, _⟩ | ⟨g, cap, cur, rfl, _, hg, _⟩
  · exact Or.inl rfl
  · right
    rcases h'.2 with ⟨rfl, _⟩ | ⟨g', cap', cur', rfl, _, hg', _⟩
    · simp [Value.ownBlock]
    · simp only [Value.ownBlock, ne_eq, Option.some.injEq]
      rintro rfl
      rw [hg] at hg'
      simp at hg'
      exact he hg'.2

/-- The lists ls, each a row of its own: K values v k of n k bytes, that hold f k. -/
structure Fl (w : World) (B K : Nat) (lsv : Value) (v : Nat → Value) (n : Nat → Nat) (f : Nat → List Value) : Prop where
  ls : w.ownsRow B 39 1 lsv K ((List.range K).map v)
  row : ∀ k, k < K → w.ownsRow B 5 1 (v k) (n k) (f k)
  apart : ∀ i k, i < K → k < K → i ≠ k → (v i).ownBlock = none ∨ (v i).ownBlock ≠ (v k).ownBlock
theorem Fl.kept {w w' : World} {B K : Nat} {lsv : Value} {v : Nat → Value} {n : Nat → Nat} {f : Nat → List Value} (h : Fl w B K lsv v n f) (hg : w.grownBy w' none) : Fl w' B K lsv v n f :=
  ⟨h.ls.kept hg (by cases lsv.ownBlock <;> simp), fun k hk => (h.row k hk).kept hg (by cases (v k).ownBlock <;> simp), h.apart⟩
/-- One row is written; the others stay. -/
theorem Fl.wrote {w w' : World} {B K : Nat} {lsv : Value} {v : Nat → Value} {n : Nat → Nat} {f f' : Nat → List Value} (h : Fl w B K lsv v n f) (j : Nat) (hj : j < K) (hg : w.grownBy w' (v j).ownBlock) (hrow : w'.ownsRow B 5 1 (v j) (n j) (f' j))
    (hf : ∀ k, k ≠ j → f' k = f k) : Fl w' B K lsv v n f' := by
  refine ⟨h.ls.kept hg (own_ne h.ls (h.row j hj) (by decide)), fun k hk => ?_, h.apart⟩
  by_cases e : k = j
  · subst e; exact hrow
  · rw [hf k e]
    exact (h.row k hk).kept hg (h.apart k j hk hj e)
end Go.Proofs.YtofdijaipjkfbaaGreatDoor.Ap
/- Rows of bytes that lie apart, and the lists that were grown out of them: what keeps both. Plain lemmas for flatBytes. -/
namespace Go.Proofs.YtofdijaipjkfbaaGreatDoor.Ap
open Go.RowKit

theorem Tryz.info39 : (Tryz.prog.info? 39).map (fun i => (i.zero, i.size, i.bytes)) = some (some (.slice none 0 0), 1, 24) := by kernel_rfl
theorem made_lists (n : Nat) : madeCells #[.slice none 0 0] n = (List.replicate n (Value.slice none 0 0)).toArray := by
  apply Array.ext'
  rw [toList_madeCells_one]
theorem make_lists (K : Nat) (h : K ≤ 400000) (w : World) : (Instr.makeSlice 51 (.int .i64 (K : Int)) (.int .i64 (K : Int))).run Tryz.prog w = .ok (.slice (some ⟨w.heap.size, 0, none⟩) K K) (w.alloc (.cells (List.replicate K (Value.slice none 0 0)).toArray 39)) := by
  rw [run_make_row' (P := Tryz.prog) 51 39 (.slice none 0 0) 24 Tryz.underlying51 Tryz.info39 rfl .i64 .i64 K (by omega) (by omega) w, made_lists]

/-- What a longer row over the same place leaves of a shorter one. -/
theorem own_shorter {w w' : World} {B n N : Nat} {v g : Value} {xs ys : List Value} (hv : w.ownsRow B 5 1 v n xs) (hg : w.ownsRow B 5 1 g N ys) (hb : g.ownBlock = v.ownBlock) (h' : w'.ownsRow B 5 1 g N ys) (hn : n ≤ N) (hx : ys.take n = xs) : w'.ownsRow B 5 1 v n xs := by
  refine ⟨hv.1, ?_⟩
  rcases hv.2 with ⟨rfl, h0⟩ | ⟨b, cap, cur, rfl, hB, hc, hnc, hcm, hcs, htk⟩
  · exact Or.inl ⟨rfl, h0⟩
  · rcases hg.2 with ⟨rfl, _⟩ | ⟨b2, cap2, cur2, rfl, _, hc2, _, _, hcs2, _⟩
    · simp [Value.ownBlock] at hb
    · simp only [Value.ownBlock, Option.some.injEq] at hb
      subst hb
      rw [hc] at hc2
      simp at hc2
      subst hc2
      have hcap : cap2 = cap := by omega
      subst hcap
      rcases h'.2 with ⟨h1, _⟩ | ⟨b3, cap3, cur3, h1, _, hc3, _, _, hcs3, htk3⟩
      · cases h1
      · cases h1
        refine Or.inr ⟨b2, cap2, cur3, rfl, hB, hc3, hnc, hcm, hcs3, ?_⟩
        rw [← hx, ← htk3, List.take_take, Nat.mul_one, Nat.mul_one]
        congr 1
        omega

/-- What was grown out of the first j lists: u k of n k + 64 bytes, that hold h k. -/
structure Gl (w : World) (B K : Nat) (gsv lsv : Value) (v u : Nat → Value) (n : Nat → Nat) (j : Nat) (h : Nat → List Value) : Prop where
  gs : w.ownsRow B 39 1 gsv K ((List.range K).map u)
  ne : gsv.ownBlock ≠ lsv.ownBlock
  row : ∀ k, k < j → w.ownsRow B 5 1 (u k) (n k + 64) (h k)
  uv : ∀ i k, i < j → k < K → i ≠ k → (u i).ownBlock = none ∨ (u i).ownBlock ≠ (v k).ownBlock
  uu : ∀ i k, i < j → k < j → i ≠ k → (u i).ownBlock = none ∨ (u i).ownBlock ≠ (u k).ownBlock
theorem Gl.kept {w w' : World} {B K : Nat} {gsv lsv : Value} {v u : Nat → Value} {n : Nat → Nat} {j : Nat} {h : Nat → List Value} (hh : Gl w B K gsv lsv v u n j h) (hg : w.grownBy w' none) : Gl w' B K gsv lsv v u n j h :=
  ⟨hh.gs.kept hg (by cases gsv.ownBlock <;> simp), hh.ne, fun k hk => (hh.row k hk).kept hg (by cases (u k).ownBlock <;> simp), hh.uv, hh.uu⟩

/-- A row that is being grown out of list j: it lies where list j lies, or in a place that is newer than all others. -/
def Out (S : Nat) (g vj : Value) : Prop := g.ownBlock = vj.ownBlock ∨ ∀ k, g.ownBlock = some k → S ≤ k
theorem Out.ne {w : World} {S B n : Nat} {g vj x : Value} {e : TypeId} {xs : List Value} (h : Out S g vj) (hx : w.ownsRow B e 1 x n xs) (hS : w.heap.size ≤ S) (ha : x.ownBlock = none ∨ x.ownBlock ≠ vj.ownBlock) : x.ownBlock = none ∨ x.ownBlock ≠ g.ownBlock := by
  rcases h with h | h
  · rw [h]; exact ha
  · cases hb : x.ownBlock with
    | none => exact Or.inl rfl
    | some k =>
      right
      intro e
      have := h k e.symm
      have := (hx.lt k hb).2
      omega

/-- One step of growing: the lists and what was grown before stay. -/
theorem grow_step {w w' wS : World} {B K S N : Nat} {gsv lsv g g' : Value} {v u : Nat → Value} {n : Nat → Nat} {f h : Nat → List Value} {j : Nat} {ys : List Value} (hF : Fl w B K lsv v n f) (hG : Gl w B K gsv lsv v u n j h) (hj : j < K)
    (hFS : Fl wS B K lsv v n f) (hGS : Gl wS B K gsv lsv v u n j h) (hS : wS.heap.size ≤ S) (hSw : S ≤ w.heap.size) (hg : w.ownsRow B 5 1 g N ys) (ho : Out S g (v j)) (hN : n j ≤ N) (hys : ys.take (n j) = f j)
    (hk : w'.ownsRow B 5 1 g N ys) (hgr : w.grownBy w' g.ownBlock) (hnew : g'.ownBlock = g.ownBlock ∨ ∀ k, g'.ownBlock = some k → w.heap.size ≤ k) :
    Fl w' B K lsv v n f ∧ Gl w' B K gsv lsv v u n j h ∧ Out S g' (v j) := by
  refine ⟨⟨hF.ls.kept hgr (own_ne hF.ls hg (by decide)), fun k hk' => ?_, hF.apart⟩, ⟨hG.gs.kept hgr (own_ne hG.gs hg (by decide)), hG.ne, fun k hk' => ?_, hG.uv, hG.uu⟩, ?_⟩
  · by_cases e : k = j
    · subst e
      by_cases hb : g.ownBlock = (v k).ownBlock
      · exact own_shorter (hF.row k hk') hg hb hk hN hys
      · refine (hF.row k hk').kept hgr ?_
        exact Or.inr (fun e => hb e.symm)
    · exact (hF.row k hk').kept hgr (ho.ne (hFS.row k hk') hS (hF.apart k j hk' hj e))
  · exact (hG.row k hk').kept hgr (ho.ne (hGS.row k hk') hS (hG.uv k j hk' hj (by omega)))
  · rcases hnew with h1 | h1
    · rcases ho with h2 | h2
      · exact Or.inl (h1.trans h2)
      · exact Or.inr (fun k e => h2 k (h1 ▸ e))
    · exact Or.inr (fun k e => Nat.le_trans hSw (h1 k e))

/-- A write into a place that is newer than all of them. -/
theorem Fl.fresh {w w' wS : World} {B K S : Nat} {lsv : Value} {v : Nat → Value} {n : Nat → Nat} {f : Nat → List Value} (h : Fl w B K lsv v n f) (hS : Fl wS B K lsv v n f) (hs : wS.heap.size ≤ S) (hg : w.grownBy w' (some S)) : Fl w' B K lsv v n f :=
  ⟨h.ls.kept hg (Or.inr (fun e => by have := (hS.ls.lt S e).2; omega)), fun k hk => (h.row k hk).kept hg (Or.inr (fun e => by have := ((hS.row k hk).lt S e).2; omega)), h.apart⟩
theorem Gl.fresh {w w' wS : World} {B K S : Nat} {gsv lsv : Value} {v u : Nat → Value} {n : Nat → Nat} {j : Nat} {h : Nat → List Value} (hh : Gl w B K gsv lsv v u n j h) (hS : Gl wS B K gsv lsv v u n j h) (hs : wS.heap.size ≤ S) (hg : w.grownBy w' (some S)) : Gl w' B K gsv lsv v u n j h :=
  ⟨hh.gs.kept hg (Or.inr (fun e => by have := (hS.gs.lt S e).2; omega)), hh.ne, fun k hk => (hh.row k hk).kept hg (Or.inr (fun e => by have := ((hS.row k hk).lt S e).2; omega)), hh.uv, hh.uu⟩

/-- What was grown is put into its place among the grown. -/
def upd (u : Nat → Value) (j : Nat) (g : Value) (k : Nat) : Value := if k = j then g else u k
theorem map_upd (u : Nat → Value) (j K : Nat) (g : Value) (hj : j < K) : ((List.range K).map u).set j g = (List.range K).map (upd u j g) := by
  apply List.ext_getElem?
  intro k
  by_cases e : k = j
  · subst e
    rw [List.getElem?_set_self (by simpa using hj)]
    simp [hj, upd]
  · rw [List.getElem?_set_ne (fun h => e h.symm), List.getElem?_map, List.getElem?_map]
    by_cases hk : k < K
    · simp [hk, upd, e]
    · simp [hk]
theorem Gl.put {w wS : World} {B K S G cap : Nat} {lsv g : Value} {v u : Nat → Value} {n : Nat → Nat} {f h : Nat → List Value} {j : Nat} (hF : Fl w B K lsv v n f) (hG : Gl w B K (.slice (some ⟨G, 0, none⟩) K cap) lsv v u n j h) (hj : j < K)
    (hFS : Fl wS B K lsv v n f) (hGS : Gl wS B K (.slice (some ⟨G, 0, none⟩) K cap) lsv v u n j h) (hS : wS.heap.size ≤ S) (ho : Out S g (v j)) (hg : w.ownsRow B 5 1 g (n j + 64) (h j)) :
    Fl (w.setCell ⟨G, j, none⟩ g) B K lsv v n f ∧ Gl (w.setCell ⟨G, j, none⟩ g) B K (.slice (some ⟨G, 0, none⟩) K cap) lsv v (upd u j g) n (j + 1) h ∧ w.grownBy (w.setCell ⟨G, j, none⟩ g) (some G) := by
  have hst := hG.gs.stored j g
  have hgG : (Value.slice (some ⟨G, 0, none⟩) K cap).ownBlock = some G := rfl
  refine ⟨⟨hF.ls.kept hst.2 (Or.inr (fun e => hG.ne (by rw [hgG]; exact e.symm))), fun k hk => (hF.row k hk).kept hst.2 (by have := own_ne (hF.row k hk) hG.gs (by decide); rwa [hgG] at this), hF.apart⟩, ⟨?_, hG.ne, fun k hk => ?_, fun i k hi hk hik => ?_, fun i k hi hk hik => ?_⟩, hst.2⟩
  · rw [← map_upd u j K g hj]; exact hst.1
  · unfold upd
    split
    · rename_i e; subst e
      exact hg.kept hst.2 (by have := own_ne hg hG.gs (by decide); rwa [hgG] at this)
    · exact (hG.row k (by omega)).kept hst.2 (by have := own_ne (hG.row k (by omega)) hG.gs (by decide); rwa [hgG] at this)
  · unfold upd
    split
    · rename_i e; subst e
      rcases ho with h1 | h1
      · rw [h1]; exact hF.apart i k hj hk hik
      · cases hb : g.ownBlock with
        | none => exact Or.inl rfl
        | some b =>
          right
          intro e
          have h2 := h1 b hb
          have h3 := ((hFS.row k hk).lt b e.symm).2
          omega
    · exact hG.uv i k (by omega) hk hik
  · unfold upd
    by_cases e1 : i = j
    · subst e1
      rw [if_pos rfl, if_neg (fun e => hik e.symm)]
      have h4 := ho.ne (hGS.row k (by omega)) hS (hG.uv k i (by omega) hj (by omega))
      rcases h4 with h5 | h5
      · cases hb : g.ownBlock with
        | none => exact Or.inl rfl
        | some b => exact Or.inr (by rw [h5]; simp)
      · exact Or.inr (fun e => h5 e.symm)
    · rw [if_neg e1]
      by_cases e2 : k = j
      · subst e2
        rw [if_pos rfl]
        exact ho.ne (hGS.row i (by omega)) hS (hG.uv i k (by omega) hj hik)
      · rw [if_neg e2]
        exact hG.uu i k (by omega) (by omega) hik
end Go.Proofs.YtofdijaipjkfbaaGreatDoor.Ap
