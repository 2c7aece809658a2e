/- Texts joined: FX0, FX1. -/
import Derived.Test.YtofdijaipjkfbaaGreatDoorJsAb
import Derived.Test.YtofdijaipjkfbaaGreatDoorJkAz
import Derived.ArgAppend
/- Lists of frames that lie apart: what keeps them; append that leaves the list ahead of it as it was. Plain lemmas for flatFrames. -/
namespace Go.Proofs.YtofdijaipjkfbaaGreatDoor.Fm.Af
open Go.RowKit
attribute [local go_sem ↓] Go.wp_at_zero Go.wp_at_succ

/-- The cells of a mark. -/
def fm (m : Nat) : List Value := [.int .u64 0, .int .u64 (m : Int), .slice none 0 0]
def fmV (m : Nat) : Value := .agg #[.int .u64 0, .int .u64 (m : Int), .slice none 0 0]
/-- Marks as they lie in cells. -/
def fv (ms : List Nat) : List Value := ms.flatMap fm
theorem fv_cons (m : Nat) (ms : List Nat) : fv (m :: ms) = fm m ++ fv ms := by simp [fv]
theorem fv_append (xs ys : List Nat) : fv (xs ++ ys) = fv xs ++ fv ys := by simp [fv]
theorem fv_one (m : Nat) : fv [m] = fm m := by simp [fv]
theorem fv_length : ∀ (l : List Nat), (fv l).length = l.length * 3
  | [] => rfl
  | x :: l => by have := fv_length l; rw [fv_cons, List.length_append, this, List.length_cons]; show 3 + _ = _; omega
theorem fv_at : ∀ (l : List Nat) (i : Nat) (m : Nat), l[i]? = some m → (fv l)[i * 3]? = some (.int .u64 0) ∧ (fv l)[i * 3 + 1]? = some (.int .u64 (m : Int)) ∧ (fv l)[i * 3 + 2]? = some (.slice none 0 0)
  | [], i, x, h => by simp at h
  | y :: l, 0, x, h => by simp at h; subst h; exact ⟨rfl, rfl, rfl⟩
  | y :: l, i + 1, x, h => by
    have := fv_at l i x (by simpa using h)
    have e : fv (y :: l) = .int .u64 0 :: .int .u64 (y : Int) :: .slice none 0 0 :: fv l := rfl
    rw [e, show (i + 1) * 3 = i * 3 + 1 + 1 + 1 by omega]
    simpa [Nat.add_assoc] using this
theorem fv_one_cell (l : List Nat) : ∀ u ∈ fv l, u.oneCell' = true := by
  intro u hu
  simp only [fv, List.mem_flatMap, fm] at hu
  obtain ⟨m, _, h⟩ := hu
  simp at h
  rcases h with rfl | rfl | rfl <;> rfl
/-- The mark of a place. -/
def mkN (k : Int) (i : Nat) : Nat := (1000003 * (k + 7) + (i : Int)).toNat
theorem mkN_le (k : Int) (i : Nat) (hk : k ≤ 1000000) (hi : i ≤ 1000000000000000000) : ((mkN k i : Nat) : Int) ≤ 2000000000000000000 := by unfold mkN; omega
def marks (k : Int) (j : Nat) : List Nat := (List.range j).map fun (i : Nat) => mkN k i
theorem marks_length (k : Int) (j : Nat) : (marks k j).length = j := by simp [marks]
theorem marks_succ (k : Int) (j : Nat) : marks k (j + 1) = marks k j ++ [mkN k j] := by simp [marks, List.range_succ]
theorem marks_get (k : Int) (j i : Nat) (h : i < j) : (marks k j)[i]? = some (mkN k i) := by simp [marks, h]
theorem marks_take (k : Int) (a b : Nat) : (fv (marks k (a + b))).take (a * 3) = fv (marks k a) := by
  have e : marks k (a + b) = marks k a ++ (marks k (a + b)).drop a := by
    have h1 : (marks k (a + b)).take a = marks k a := by unfold marks; rw [← List.map_take, List.take_range, Nat.min_eq_left (by omega)]
    rw [← h1, List.take_append_drop]
  rw [e, fv_append, List.take_append_of_le_length (by rw [fv_length, marks_length]; exact Nat.le_refl _), List.take_of_length_le (by rw [fv_length, marks_length]; exact Nat.le_refl _)]
set_option maxHeartbeats 400000 in
theorem mark_any (k i : Int) (w : World) (_hk0 : 0 ≤ k) (_hk : k ≤ 1000000) (_hi0 : 0 ≤ i) (_hi : i ≤ 1000000000000000000) :
    Calls Tryz.prog 116 #[.int .i64 k, .int .i64 i] w fun e w' => e = .returned (.int .i64 (1000003 * (k + 7) + i)) ∧ w' = w := by
  go_enter Tryz.func116, Tryz.ntmps116
  go_wp2
  go_ret
  exact ⟨rfl, rfl⟩
set_option maxHeartbeats 400000 in
theorem markFrame_any (k : Int) (i : Nat) (w : World) (hk0 : 0 ≤ k) (hk : k ≤ 1000000) (hi : i ≤ 1000000000000000000) :
    Calls Tryz.prog 165 #[.int .i64 k, .int .i64 (i : Int)] w fun e w' => e = .returned (fmV (mkN k i)) ∧ w.grownBy w' none := by
  have HM := hide (fun w => mark_any k (i : Int) w hk0 hk (by omega) (by omega))
  have e : 1000003 * (k + 7) + (i : Int) = ((mkN k i : Nat) : Int) := by unfold mkN; omega
  have hl := mkN_le k i hk hi
  rw [e] at HM
  clear e
  generalize mkN k i = m at *
  unfold fmV
  have hw : IntKind.u64.wrap (m : Int) = (m : Int) := by rw [IntKind.wrap_u64]; omega
  have G : Hid (∀ o, w.grownBy (w.alloc o) none) := fun o => World.grownBy_alloc w o none
  go_enter Tryz.func165, Tryz.ntmps165
  go_wp2_with fail
  refine (HM.out _).mono ?_
  rintro e w2 ⟨rfl, rfl⟩
  go_wp2
  refine bodyPost_ret (results_cell_row rfl _ _ w.heap.size 104 #[.int .u64 0, .int .u64 (m : Int), .slice none 0 0] (0, 0) _ rfl (heap_alloc_new w _) Tryz.underlying104 rfl (by kernel_rfl)) rfl ⟨rfl, G.out _⟩
theorem sameMark (m : Nat) (w : World) : Calls Tryz.prog 77 #[fmV m, fmV m] w fun r w' => r = .returned (.bool true) ∧ w.grownBy w' none :=
  sameFr 0 (m : Int) none none 0 0 0 [] w rfl (fun j u hu => by simp at hu) (fun j u hu => by simp at hu) (by omega)

/-- append(s, x...), s the call's own, x marks that lie somewhere: s still reads as it did; what is answered lies where s lies, or in a new place. -/
theorem run_append_keep (w : World) (ty : TypeId) (base : Nat) (v : Value) (n : Nat) (xs : List Value) (hown : w.ownsRow base 104 3 v n xs) (a : Addr) (m c : Nat) (ys : List Nat) (hl : ys.length = m) (h0 : 0 < m) (hnews : ∀ j u, (fv ys)[j]? = some u → w.cell? (a.add j) = some u)
    (hbytes : n + m ≤ 3000000000000) (hbase : base ≤ w.heap.size) :
    ∃ v' w', (Builtin.append_ #[54, 54] ty #[v, .slice (some a) m c]).run Tryz.prog w = .ok v' w' ∧ w'.ownsRow base 104 3 v' (n + m) (xs ++ fv ys) ∧ w'.ownsRow base 104 3 v n xs ∧ w.grownBy w' v.ownBlock ∧
      (v'.ownBlock = v.ownBlock ∨ ∀ k, v'.ownBlock = some k → w.heap.size ≤ k) := by
  obtain ⟨i0, hi, hz0, hz1, hz2⟩ := info_parts Tryz.info104
  have h1 := fv_one_cell ys
  have hbl : (fv ys).length = m * 3 := by rw [fv_length, hl]
  rcases hown.2 with ⟨rfl, rfl⟩ | ⟨g, cap, cur, rfl, hbg, hg, hnc, hcm, hcs, htake⟩
  · have hx : xs = [] := List.eq_nil_of_length_eq_zero (by simpa using hown.1)
    subst hx
    have hr := run_append_nil (P := Tryz.prog) w 54 ty 104 i0 (.agg #[.int .u64 0, .int .u64 0, .slice none 0 0]) Tryz.underlying54 hi hz0 a m c (fv ys) (by rw [hz1, hbl]) hnews h0 (by omega) (by rw [hz2]; omega)
    have hge := grownCap_ge w m 0 104
    have hcm2 : grownCap w m 0 104 ≤ maxLen := grownCap_le_maxLen w m 0 104 (by unfold maxLen; omega)
    have hgr : w.grownBy (w.drew.alloc (.cells ((fv ys).toArray ++ Builtin.zeroCells (Value.agg #[.int .u64 0, .int .u64 0, .slice none 0 0]).cells (grownCap w m 0 104 - m)) 104)) none := grown_trans (grown_drew w none) (World.grownBy_alloc w.drew _ none)
    refine ⟨_, _, hr, ⟨by simp [hbl], .inr ⟨w.heap.size, _, _, by rw [Nat.zero_add], hbase, heap_alloc_new w.drew _, by omega, hcm2, ?_, ?_⟩⟩, World.ownsRow_nil _ _ _ _, hgr, Or.inr (fun k e => by cases e; exact Nat.le_refl _)⟩
    · simp only [Array.size_append, List.size_toArray, size_zeroCells, hbl]
      have : (Value.agg #[.int .u64 0, .int .u64 0, .slice none 0 0]).cells.size = 3 := rfl
      rw [this, Nat.sub_mul]
      have : m * 3 ≤ grownCap w m 0 104 * 3 := Nat.mul_le_mul_right 3 (by omega)
      omega
    · simp only [Array.toList_append, List.nil_append, Nat.zero_add]
      rw [List.take_append_of_le_length (by simp [hbl]), List.take_of_length_le (by simp [hbl])]
  · by_cases hroom : n + m ≤ cap
    · have hfit : n * i0.size + (fv ys).length ≤ cur.size := by rw [hz1, hbl, hcs]; omega
      have hr := run_append_room (P := Tryz.prog) w 54 ty 104 i0 Tryz.underlying54 hi g n cap cur hg a m c (fv ys) (by rw [hz1, hbl]) hnews h1 hroom hfit
      rw [hz1, hbl] at hr
      have hxl : xs.length = n * 3 := hown.1
      have hlen2 : (cur.toList.take (n * 3) ++ fv ys ++ cur.toList.drop (n * 3 + m * 3)).toArray.size = cap * 3 := by
        simp only [List.size_toArray, List.length_append, List.length_take, List.length_drop, Array.length_toList, hbl]; omega
      refine ⟨_, _, hr, ⟨by simp [hxl, hbl]; omega, .inr ⟨g, cap, _, rfl, hbg, setRow_heap w g cur _ 104 _ hg, hroom, hcm, hlen2, ?_⟩⟩, ⟨hown.1, .inr ⟨g, cap, _, rfl, hbg, setRow_heap w g cur _ 104 _ hg, hnc, hcm, hlen2, ?_⟩⟩, (⟨rfl, rfl, rfl, by simp, fun k _ hk => setRow_other w g k _ (fun e => hk (by simp [Value.ownBlock, e]))⟩), Or.inl rfl⟩
      · rw [htake]
        rw [List.take_append_of_le_length (by simp [hxl, hbl]; omega), List.take_of_length_le (by simp [hxl, hbl]; omega)]
      · rw [htake, List.append_assoc]
        rw [List.take_append_of_le_length (by omega), List.take_of_length_le (by omega)]
    · have holds : ∀ j u, xs[j]? = some u → w.cell? ((⟨g, 0, none⟩ : Addr).add j) = some u := hown.cells (g := g) rfl
      obtain ⟨v', w', hr, h2, h3⟩ := run_append_arg_grows (P := Tryz.prog) w 54 ty 104 i0 (.agg #[.int .u64 0, .int .u64 0, .slice none 0 0]) 3 40 Tryz.underlying54 hi hz0 hz1 hz2 rfl (by decide) ⟨g, 0, none⟩ n cap xs hown.1 holds a m c (fv ys) (by rw [hbl]) hnews (by omega) (by unfold maxLen; omega) (by omega)
      refine ⟨v', w', hr, Ap.ownsRow_le h2 hbase, hown.kept h3 (Or.inr (by simp [Value.ownBlock])), grown_none h3 _, Or.inr (fun k e => (h2.lt k e).1)⟩

/-- The same as a step of the walk. -/
theorem wpList_append_keep {w : World} {ops : Array Oper} {rest : List Oper} {o : Oper} {a : Act} {Q : Exit → Act → World → Prop} (hgd : o.guard = none) (s x : Operand)
    (ho : o.op = .call { callee := .builtin .append, args := #[s, x], argTypes := #[54, 54] }) (base : Nat) (v : Value) (n : Nat) (xs : List Value) (hs : a.eval s = v) (hown : w.ownsRow base 104 3 v n xs)
    (ad : Addr) (m c : Nat) (ys : List Nat) (hx : a.eval x = .slice (some ad) m c) (hl : ys.length = m) (h0 : 0 < m) (hat : ∀ j u, (fv ys)[j]? = some u → w.cell? (ad.add j) = some u) (hbytes : n + m ≤ 3000000000000) (hbase : base ≤ w.heap.size)
    (h : ∀ v' w', w'.ownsRow base 104 3 v' (n + m) (xs ++ fv ys) → w'.ownsRow base 104 3 v n xs → w.grownBy w' v.ownBlock → (v'.ownBlock = v.ownBlock ∨ ∀ k, v'.ownBlock = some k → w.heap.size ≤ k) → wpList Tryz.prog ops Q rest (a.put o.dst v') w') : wpList Tryz.prog ops Q (o :: rest) a w := by
  refine wpList_plain hgd fun K hK => ?_
  obtain ⟨v', w', hr, h1, h2, h3, h4⟩ := run_append_keep w o.type base v n xs hown ad m c ys hl h0 hat hbytes hbase
  unfold Oper.wp execOp
  simp only [ho, resolve, invoke, builtin, Sem.run_bind, Sem.run_pure, Result.andThen_ok, List.map_toArray, List.map_cons, List.map_nil, hs, hx, hr]
  exact hK _ _ (h v' w' h1 h2 h3 h4)

/-- The lists ls, each a row of its own: K values v k of n k frames, that hold f k. -/
structure Fl (w : World) (B K : Nat) (lsv : Value) (v : Nat → Value) (n : Nat → Nat) (f : Nat → List Value) : Prop where
  ls : w.ownsRow B 54 1 lsv K ((List.range K).map v)
  row : ∀ k, k < K → w.ownsRow B 104 3 (v k) (n k) (f k)
  apart : ∀ i k, i < K → k < K → i ≠ k → (v i).ownBlock = none ∨ (v i).ownBlock ≠ (v k).ownBlock
theorem Fl.kept {w w' : World} {B K : Nat} {lsv : Value} {v : Nat → Value} {n : Nat → Nat} {f : Nat → List Value} (h : Fl w B K lsv v n f) (hg : w.grownBy w' none) : Fl w' B K lsv v n f :=
  ⟨h.ls.kept hg (by cases lsv.ownBlock <;> simp), fun k hk => (h.row k hk).kept hg (by cases (v k).ownBlock <;> simp), h.apart⟩
/-- One row is written; the others stay. -/
theorem Fl.wrote {w w' : World} {B K : Nat} {lsv : Value} {v : Nat → Value} {n : Nat → Nat} {f f' : Nat → List Value} (h : Fl w B K lsv v n f) (j : Nat) (hj : j < K) (hg : w.grownBy w' (v j).ownBlock) (hrow : w'.ownsRow B 104 3 (v j) (n j) (f' j))
    (hf : ∀ k, k ≠ j → f' k = f k) : Fl w' B K lsv v n f' := by
  refine ⟨h.ls.kept hg (Ap.own_ne h.ls (h.row j hj) (by decide)), fun k hk => ?_, h.apart⟩
  by_cases e : k = j
  · subst e; exact hrow
  · rw [hf k e]
    exact (h.row k hk).kept hg (h.apart k j hk hj e)
end Go.Proofs.YtofdijaipjkfbaaGreatDoor.Fm.Af
/- Lists of frames that lie apart, and the lists that were grown out of them: what keeps both. Plain lemmas for flatFrames. -/
namespace Go.Proofs.YtofdijaipjkfbaaGreatDoor.Fm.Af
open Go.RowKit

theorem Tryz.info54 : (Tryz.prog.info? 54).map (fun i => (i.zero, i.size, i.bytes)) = some (some (.slice none 0 0), 1, 24) := by kernel_rfl
theorem make_lists (K : Nat) (h : K ≤ 400000) (w : World) : (Instr.makeSlice 75 (.int .i64 (K : Int)) (.int .i64 (K : Int))).run Tryz.prog w = .ok (.slice (some ⟨w.heap.size, 0, none⟩) K K) (w.alloc (.cells (List.replicate K (Value.slice none 0 0)).toArray 54)) := by
  rw [run_make_row' (P := Tryz.prog) 75 54 (.slice none 0 0) 24 Tryz.underlying75 Tryz.info54 rfl .i64 .i64 K (by omega) (by omega) w, Ap.made_lists]

/-- What a longer row over the same place leaves of a shorter one. -/
theorem own_shorter {w w' : World} {B n N : Nat} {v g : Value} {xs ys : List Value} (hv : w.ownsRow B 104 3 v n xs) (hg : w.ownsRow B 104 3 g N ys) (hb : g.ownBlock = v.ownBlock) (h' : w'.ownsRow B 104 3 g N ys) (hn : n ≤ N) (hx : ys.take (n * 3) = xs) : w'.ownsRow B 104 3 v n xs := by
  refine ⟨hv.1, ?_⟩
  rcases hv.2 with ⟨rfl, h0⟩ | ⟨b, cap, cur, rfl, hB, hc, hnc, hcm, hcs, htk⟩
  · exact Or.inl ⟨rfl, h0⟩
  · rcases hg.2 with ⟨rfl, _⟩ | ⟨b2, cap2, cur2, rfl, _, hc2, _, _, hcs2, _⟩
    · simp [Value.ownBlock] at hb
    · simp only [Value.ownBlock, Option.some.injEq] at hb
      subst hb
      rw [hc] at hc2
      simp at hc2
      subst hc2
      have hcap : cap2 = cap := by omega
      subst hcap
      rcases h'.2 with ⟨h1, _⟩ | ⟨b3, cap3, cur3, h1, _, hc3, _, _, hcs3, htk3⟩
      · cases h1
      · cases h1
        refine Or.inr ⟨b2, cap2, cur3, rfl, hB, hc3, hnc, hcm, hcs3, ?_⟩
        rw [← hx, ← htk3, List.take_take]
        congr 1
        omega

/-- What was grown out of the first j lists: u k of n k + 64 bytes, that hold h k. -/
structure Gl (w : World) (B K : Nat) (gsv lsv : Value) (v u : Nat → Value) (n : Nat → Nat) (j : Nat) (h : Nat → List Value) : Prop where
  gs : w.ownsRow B 54 1 gsv K ((List.range K).map u)
  ne : gsv.ownBlock ≠ lsv.ownBlock
  row : ∀ k, k < j → w.ownsRow B 104 3 (u k) (n k + 64) (h k)
  uv : ∀ i k, i < j → k < K → i ≠ k → (u i).ownBlock = none ∨ (u i).ownBlock ≠ (v k).ownBlock
  uu : ∀ i k, i < j → k < j → i ≠ k → (u i).ownBlock = none ∨ (u i).ownBlock ≠ (u k).ownBlock
theorem Gl.kept {w w' : World} {B K : Nat} {gsv lsv : Value} {v u : Nat → Value} {n : Nat → Nat} {j : Nat} {h : Nat → List Value} (hh : Gl w B K gsv lsv v u n j h) (hg : w.grownBy w' none) : Gl w' B K gsv lsv v u n j h :=
  ⟨hh.gs.kept hg (by cases gsv.ownBlock <;> simp), hh.ne, fun k hk => (hh.row k hk).kept hg (by cases (u k).ownBlock <;> simp), hh.uv, hh.uu⟩

/-- A row that is being grown out of list j: it lies where list j lies, or in a place that is newer than all others. -/
def Out (S : Nat) (g vj : Value) : Prop := g.ownBlock = vj.ownBlock ∨ ∀ k, g.ownBlock = some k → S ≤ k
theorem Out.ne {w : World} {S B n sz : Nat} {g vj x : Value} {e : TypeId} {xs : List Value} (h : Out S g vj) (hx : w.ownsRow B e sz x n xs) (hS : w.heap.size ≤ S) (ha : x.ownBlock = none ∨ x.ownBlock ≠ vj.ownBlock) : x.ownBlock = none ∨ x.ownBlock ≠ g.ownBlock := by
  rcases h with h | h
  · rw [h]; exact ha
  · cases hb : x.ownBlock with
    | none => exact Or.inl rfl
    | some k =>
      right
      intro e
      have := h k e.symm
      have := (hx.lt k hb).2
      omega

/-- One step of growing: the lists and what was grown before stay. -/
theorem grow_step {w w' wS : World} {B K S N : Nat} {gsv lsv g g' : Value} {v u : Nat → Value} {n : Nat → Nat} {f h : Nat → List Value} {j : Nat} {ys : List Value} (hF : Fl w B K lsv v n f) (hG : Gl w B K gsv lsv v u n j h) (hj : j < K)
    (hFS : Fl wS B K lsv v n f) (hGS : Gl wS B K gsv lsv v u n j h) (hS : wS.heap.size ≤ S) (hSw : S ≤ w.heap.size) (hg : w.ownsRow B 104 3 g N ys) (ho : Out S g (v j)) (hN : n j ≤ N) (hys : ys.take (n j * 3) = f j)
    (hk : w'.ownsRow B 104 3 g N ys) (hgr : w.grownBy w' g.ownBlock) (hnew : g'.ownBlock = g.ownBlock ∨ ∀ k, g'.ownBlock = some k → w.heap.size ≤ k) :
    Fl w' B K lsv v n f ∧ Gl w' B K gsv lsv v u n j h ∧ Out S g' (v j) := by
  refine ⟨⟨hF.ls.kept hgr (Ap.own_ne hF.ls hg (by decide)), fun k hk' => ?_, hF.apart⟩, ⟨hG.gs.kept hgr (Ap.own_ne hG.gs hg (by decide)), hG.ne, fun k hk' => ?_, hG.uv, hG.uu⟩, ?_⟩
  · by_cases e : k = j
    · subst e
      by_cases hb : g.ownBlock = (v k).ownBlock
      · exact own_shorter (hF.row k hk') hg hb hk hN hys
      · refine (hF.row k hk').kept hgr ?_
        exact Or.inr (fun e => hb e.symm)
    · exact (hF.row k hk').kept hgr (ho.ne (hFS.row k hk') hS (hF.apart k j hk' hj e))
  · exact (hG.row k hk').kept hgr (ho.ne (hGS.row k hk') hS (hG.uv k j hk' hj (by omega)))
  · rcases hnew with h1 | h1
    · rcases ho with h2 | h2
      · exact Or.inl (h1.trans h2)
      · exact Or.inr (fun k e => h2 k (h1 ▸ e))
    · exact Or.inr (fun k e => Nat.le_trans hSw (h1 k e))

/-- A write into a place that is newer than all of them. -/
theorem Fl.fresh {w w' wS : World} {B K S : Nat} {lsv : Value} {v : Nat → Value} {n : Nat → Nat} {f : Nat → List Value} (h : Fl w B K lsv v n f) (hS : Fl wS B K lsv v n f) (hs : wS.heap.size ≤ S) (hg : w.grownBy w' (some S)) : Fl w' B K lsv v n f :=
  ⟨h.ls.kept hg (Or.inr (fun e => by have := (hS.ls.lt S e).2; omega)), fun k hk => (h.row k hk).kept hg (Or.inr (fun e => by have := ((hS.row k hk).lt S e).2; omega)), h.apart⟩
theorem Gl.fresh {w w' wS : World} {B K S : Nat} {gsv lsv : Value} {v u : Nat → Value} {n : Nat → Nat} {j : Nat} {h : Nat → List Value} (hh : Gl w B K gsv lsv v u n j h) (hS : Gl wS B K gsv lsv v u n j h) (hs : wS.heap.size ≤ S) (hg : w.grownBy w' (some S)) : Gl w' B K gsv lsv v u n j h :=
  ⟨hh.gs.kept hg (Or.inr (fun e => by have := (hS.gs.lt S e).2; omega)), hh.ne, fun k hk => (hh.row k hk).kept hg (Or.inr (fun e => by have := ((hS.row k hk).lt S e).2; omega)), hh.uv, hh.uu⟩

/-- What was grown is put into its place among the grown. -/
def upd (u : Nat → Value) (j : Nat) (g : Value) (k : Nat) : Value := if k = j then g else u k
theorem map_upd (u : Nat → Value) (j K : Nat) (g : Value) (hj : j < K) : ((List.range K).map u).set j g = (List.range K).map (upd u j g) := by
  apply List.ext_getElem?
  intro k
  by_cases e : k = j
  · subst e
    rw [List.getElem?_set_self (by simpa using hj)]
    simp [hj, upd]
  · rw [List.getElem?_set_ne (fun h => e h.symm), List.getElem?_map, List.getElem?_map]
    by_cases hk : k < K
    · simp [hk, upd, e]
    · simp [hk]
theorem Gl.put {w wS : World} {B K S G cap : Nat} {lsv g : Value} {v u : Nat → Value} {n : Nat → Nat} {f h : Nat → List Value} {j : Nat} (hF : Fl w B K lsv v n f) (hG : Gl w B K (.slice (some ⟨G, 0, none⟩) K cap) lsv v u n j h) (hj : j < K)
    (hFS : Fl wS B K lsv v n f) (hGS : Gl wS B K (.slice (some ⟨G, 0, none⟩) K cap) lsv v u n j h) (hS : wS.heap.size ≤ S) (ho : Out S g (v j)) (hg : w.ownsRow B 104 3 g (n j + 64) (h j)) :
    Fl (w.setCell ⟨G, j, none⟩ g) B K lsv v n f ∧ Gl (w.setCell ⟨G, j, none⟩ g) B K (.slice (some ⟨G, 0, none⟩) K cap) lsv v (upd u j g) n (j + 1) h ∧ w.grownBy (w.setCell ⟨G, j, none⟩ g) (some G) := by
  have hst := hG.gs.stored j g
  have hgG : (Value.slice (some ⟨G, 0, none⟩) K cap).ownBlock = some G := rfl
  refine ⟨⟨hF.ls.kept hst.2 (Or.inr (fun e => hG.ne (by rw [hgG]; exact e.symm))), fun k hk => (hF.row k hk).kept hst.2 (by have := Ap.own_ne (hF.row k hk) hG.gs (by decide); rwa [hgG] at this), hF.apart⟩, ⟨?_, hG.ne, fun k hk => ?_, fun i k hi hk hik => ?_, fun i k hi hk hik => ?_⟩, hst.2⟩
  · rw [← map_upd u j K g hj]; exact hst.1
  · unfold upd
    split
    · rename_i e; subst e
      exact hg.kept hst.2 (by have := Ap.own_ne hg hG.gs (by decide); rwa [hgG] at this)
    · exact (hG.row k (by omega)).kept hst.2 (by have := Ap.own_ne (hG.row k (by omega)) hG.gs (by decide); rwa [hgG] at this)
  · unfold upd
    split
    · rename_i e; subst e
      rcases ho with h1 | h1
      · rw [h1]; exact hF.apart i k hj hk hik
      · cases hb : g.ownBlock with
        | none => exact Or.inl rfl
        | some b =>
          right
          intro e
          have h2 := h1 b hb
          have h3 := ((hFS.row k hk).lt b e.symm).2
          omega
    · exact hG.uv i k (by omega) hk hik
  · unfold upd
    by_cases e1 : i = j
    · subst e1
      rw [if_pos rfl, if_neg (fun e => hik e.symm)]
      have h4 := ho.ne (hGS.row k (by omega)) hS (hG.uv k i (by omega) hj (by omega))
      rcases h4 with h5 | h5
      · cases hb : g.ownBlock with
        | none => exact Or.inl rfl
        | some b => exact Or.inr (by rw [h5]; simp)
      · exact Or.inr (fun e => h5 e.symm)
    · rw [if_neg e1]
      by_cases e2 : k = j
      · subst e2
        rw [if_pos rfl]
        exact ho.ne (hGS.row i (by omega)) hS (hG.uv i k (by omega) hj hik)
      · rw [if_neg e2]
        exact hG.uu i k (by omega) (by omega) hik
end Go.Proofs.YtofdijaipjkfbaaGreatDoor.Fm.Af
