/- Lists of spans that lie apart: what keeps them; append that leaves the list ahead of it as it was. Plain lemmas for flatSpans. -/
import Derived.Test.YtomoclicbjkpoabDoorKFlat
import Derived.Test.YtomoclicbjkpoabDoorCi
import Derived.ArgAppend
namespace Go.Proofs.YtomoclicbjkpoabDoor.Af
open Go.RowKit
attribute [local go_sem ↓] Go.wp_at_zero Go.wp_at_succ

/-- The cells of a mark. -/
def fm (m : Nat) : List Value := [.int .i64 (m : Int), .int .i64 0]
def fmV (m : Nat) : Value := .agg #[.int .i64 (m : Int), .int .i64 0]
/-- Marks as they lie in cells. -/
def fv (ms : List Nat) : List Value := ms.flatMap fm
theorem fv_cons (m : Nat) (ms : List Nat) : fv (m :: ms) = fm m ++ fv ms := by simp [fv]
theorem fv_append (xs ys : List Nat) : fv (xs ++ ys) = fv xs ++ fv ys := by simp [fv]
theorem fv_one (m : Nat) : fv [m] = fm m := by simp [fv]
theorem fv_length : ∀ (l : List Nat), (fv l).length = l.length * 2
  | [] => rfl
  | x :: l => by have := fv_length l; rw [fv_cons, List.length_append, this, List.length_cons]; show 2 + _ = _; omega
theorem fv_at : ∀ (l : List Nat) (i : Nat) (m : Nat), l[i]? = some m → (fv l)[i * 2]? = some (.int .i64 (m : Int)) ∧ (fv l)[i * 2 + 1]? = some (.int .i64 0)
  | [], i, x, h => by simp at h
  | y :: l, 0, x, h => by simp at h; subst h; exact ⟨rfl, rfl⟩
  | y :: l, i + 1, x, h => by
    have := fv_at l i x (by simpa using h)
    have e : fv (y :: l) = .int .i64 (y : Int) :: .int .i64 0 :: fv l := rfl
    rw [e, show (i + 1) * 2 = i * 2 + 1 + 1 by omega]
    simpa [Nat.add_assoc] using this
theorem fv_one_cell (l : List Nat) : ∀ u ∈ fv l, u.oneCell' = true := by
  intro u hu
  simp only [fv, List.mem_flatMap, fm] at hu
  obtain ⟨m, _, h⟩ := hu
  simp at h
  rcases h with rfl | rfl <;> rfl
/-- The mark of a place. -/
def mkN (k : Int) (i : Nat) : Nat := (1000003 * (k + 7) + (i : Int)).toNat
theorem mkN_le (k : Int) (i : Nat) (hk : k ≤ 1000000) (hi : i ≤ 1000000000000000000) : ((mkN k i : Nat) : Int) ≤ 2000000000000000000 := by unfold mkN; omega
def marks (k : Int) (j : Nat) : List Nat := (List.range j).map fun (i : Nat) => mkN k i
theorem marks_length (k : Int) (j : Nat) : (marks k j).length = j := by simp [marks]
theorem marks_succ (k : Int) (j : Nat) : marks k (j + 1) = marks k j ++ [mkN k j] := by simp [marks, List.range_succ]
theorem marks_get (k : Int) (j i : Nat) (h : i < j) : (marks k j)[i]? = some (mkN k i) := by simp [marks, h]
theorem marks_take (k : Int) (a b : Nat) : (fv (marks k (a + b))).take (a * 2) = fv (marks k a) := by
  have e : marks k (a + b) = marks k a ++ (marks k (a + b)).drop a := by
    have h1 : (marks k (a + b)).take a = marks k a := by unfold marks; rw [← List.map_take, List.take_range, Nat.min_eq_left (by omega)]
    rw [← h1, List.take_append_drop]
  rw [e, fv_append, List.take_append_of_le_length (by rw [fv_length, marks_length]; exact Nat.le_refl _), List.take_of_length_le (by rw [fv_length, marks_length]; exact Nat.le_refl _)]
set_option maxHeartbeats 400000 in
theorem mark_any (k i : Int) (w : World) (_hk0 : 0 ≤ k) (_hk : k ≤ 1000000) (_hi0 : 0 ≤ i) (_hi : i ≤ 1000000000000000000) :
    Calls Tryd.prog 48 #[.int .i64 k, .int .i64 i] w fun e w' => e = .returned (.int .i64 (1000003 * (k + 7) + i)) ∧ w' = w := by
  go_enter Tryd.func48, Tryd.ntmps48
  go_wp2
  go_ret
  exact ⟨rfl, rfl⟩
set_option maxHeartbeats 400000 in
theorem markSpan_any (k : Int) (i : Nat) (w : World) (hk0 : 0 ≤ k) (hk : k ≤ 1000000) (hi : i ≤ 1000000000000000000) :
    Calls Tryd.prog 52 #[.int .i64 k, .int .i64 (i : Int)] w fun e w' => e = .returned (fmV (mkN k i)) ∧ w.grownBy w' none := by
  have HM := hide (fun w => mark_any k (i : Int) w hk0 hk (by omega) (by omega))
  have e : 1000003 * (k + 7) + (i : Int) = ((mkN k i : Nat) : Int) := by unfold mkN; omega
  have hl := mkN_le k i hk hi
  rw [e] at HM
  clear e
  generalize mkN k i = m at *
  unfold fmV
  have G : Hid (∀ o, w.grownBy (w.alloc o) none) := fun o => World.grownBy_alloc w o none
  go_enter Tryd.func52, Tryd.ntmps52
  go_wp2_with fail
  refine (HM.out _).mono ?_
  rintro e w2 ⟨rfl, rfl⟩
  go_wp2
  refine bodyPost_ret (results_cell_row rfl _ _ w.heap.size 52 #[.int .i64 (m : Int), .int .i64 0] (0, 0) _ rfl (heap_alloc_new w _) Tryd.underlying52 rfl (by kernel_rfl)) rfl ⟨rfl, G.out _⟩
/-- append(s, x...), s the call's own, x marks that lie somewhere: s still reads as it did; what is answered lies where s lies, or in a new place. -/
theorem run_append_keep (w : World) (ty : TypeId) (base : Nat) (v : Value) (n : Nat) (xs : List Value) (hown : w.ownsRow base 52 2 v n xs) (a : Addr) (m c : Nat) (ys : List Nat) (hl : ys.length = m) (h0 : 0 < m) (hnews : ∀ j u, (fv ys)[j]? = some u → w.cell? (a.add j) = some u)
    (hbytes : n + m ≤ 3000000000000) (hbase : base ≤ w.heap.size) :
    ∃ v' w', (Builtin.append_ #[27, 27] ty #[v, .slice (some a) m c]).run Tryd.prog w = .ok v' w' ∧ w'.ownsRow base 52 2 v' (n + m) (xs ++ fv ys) ∧ w'.ownsRow base 52 2 v n xs ∧ w.grownBy w' v.ownBlock ∧
      (v'.ownBlock = v.ownBlock ∨ ∀ k, v'.ownBlock = some k → w.heap.size ≤ k) := by
  obtain ⟨i0, hi, hz0, hz1, hz2⟩ := info_parts Tryd.info52
  have h1 := fv_one_cell ys
  have hbl : (fv ys).length = m * 2 := by rw [fv_length, hl]
  rcases hown.2 with ⟨rfl, rfl⟩ | ⟨g, cap, cur, rfl, hbg, hg, hnc, hcm, hcs, htake⟩
  · have hx : xs = [] := List.eq_nil_of_length_eq_zero (by simpa using hown.1)
    subst hx
    have hr := run_append_nil (P := Tryd.prog) w 27 ty 52 i0 (.agg #[.int .i64 0, .int .i64 0]) Tryd.underlying27 hi hz0 a m c (fv ys) (by rw [hz1, hbl]) hnews h0 (by omega) (by rw [hz2]; omega)
    have hge := grownCap_ge w m 0 52
    have hcm2 : grownCap w m 0 52 ≤ maxLen := grownCap_le_maxLen w m 0 52 (by unfold maxLen; omega)
    have hgr : w.grownBy (w.drew.alloc (.cells ((fv ys).toArray ++ Builtin.zeroCells (Value.agg #[.int .i64 0, .int .i64 0]).cells (grownCap w m 0 52 - m)) 52)) none := grown_trans (grown_drew w none) (World.grownBy_alloc w.drew _ none)
    refine ⟨_, _, hr, ⟨by simp [hbl], .inr ⟨w.heap.size, _, _, by rw [Nat.zero_add], hbase, heap_alloc_new w.drew _, by omega, hcm2, ?_, ?_⟩⟩, World.ownsRow_nil _ _ _ _, hgr, Or.inr (fun k e => by cases e; exact Nat.le_refl _)⟩
    · simp only [Array.size_append, List.size_toArray, size_zeroCells, hbl]
      have : (Value.agg #[.int .i64 0, .int .i64 0]).cells.size = 2 := rfl
      rw [this, Nat.sub_mul]
      have : m * 2 ≤ grownCap w m 0 52 * 2 := Nat.mul_le_mul_right 2 (by omega)
      omega
    · simp only [Array.toList_append, List.nil_append, Nat.zero_add]
      rw [List.take_append_of_le_length (by simp [hbl]), List.take_of_length_le (by simp [hbl])]
  · by_cases hroom : n + m ≤ cap
    · have hfit : n * i0.size + (fv ys).length ≤ cur.size := by rw [hz1, hbl, hcs]; omega
      have hr := run_append_room (P := Tryd.prog) w 27 ty 52 i0 Tryd.underlying27 hi g n cap cur hg a m c (fv ys) (by rw [hz1, hbl]) hnews h1 hroom hfit
      rw [hz1, hbl] at hr
      have hxl : xs.length = n * 2 := hown.1
      have hlen2 : (cur.toList.take (n * 2) ++ fv ys ++ cur.toList.drop (n * 2 + m * 2)).toArray.size = cap * 2 := by
        simp only [List.size_toArray, List.length_append, List.length_take, List.length_drop, Array.length_toList, hbl]; omega
      refine ⟨_, _, hr, ⟨by simp [hxl, hbl]; omega, .inr ⟨g, cap, _, rfl, hbg, setRow_heap w g cur _ 52 _ hg, hroom, hcm, hlen2, ?_⟩⟩, ⟨hown.1, .inr ⟨g, cap, _, rfl, hbg, setRow_heap w g cur _ 52 _ hg, hnc, hcm, hlen2, ?_⟩⟩, (⟨rfl, rfl, rfl, by simp, fun k _ hk => setRow_other w g k _ (fun e => hk (by simp [Value.ownBlock, e]))⟩), Or.inl rfl⟩
      · rw [htake]
        rw [List.take_append_of_le_length (by simp [hxl, hbl]; omega), List.take_of_length_le (by simp [hxl, hbl]; omega)]
      · rw [htake, List.append_assoc]
        rw [List.take_append_of_le_length (by omega), List.take_of_length_le (by omega)]
    · have holds : ∀ j u, xs[j]? = some u → w.cell? ((⟨g, 0, none⟩ : Addr).add j) = some u := hown.cells (g := g) rfl
      obtain ⟨v', w', hr, h2, h3⟩ := run_append_arg_grows (P := Tryd.prog) w 27 ty 52 i0 (.agg #[.int .i64 0, .int .i64 0]) 2 16 Tryd.underlying27 hi hz0 hz1 hz2 rfl (by decide) ⟨g, 0, none⟩ n cap xs hown.1 holds a m c (fv ys) (by rw [hbl]) hnews (by omega) (by unfold maxLen; omega) (by omega)
      refine ⟨v', w', hr, Ap.ownsRow_le h2 hbase, hown.kept h3 (Or.inr (by simp [Value.ownBlock])), grown_none h3 _, Or.inr (fun k e => (h2.lt k e).1)⟩

/-- The same as a step of the walk. -/
theorem wpList_append_keep {w : World} {ops : Array Oper} {rest : List Oper} {o : Oper} {a : Act} {Q : Exit → Act → World → Prop} (hgd : o.guard = none) (s x : Operand)
    (ho : o.op = .call { callee := .builtin .append, args := #[s, x], argTypes := #[27, 27] }) (base : Nat) (v : Value) (n : Nat) (xs : List Value) (hs : a.eval s = v) (hown : w.ownsRow base 52 2 v n xs)
    (ad : Addr) (m c : Nat) (ys : List Nat) (hx : a.eval x = .slice (some ad) m c) (hl : ys.length = m) (h0 : 0 < m) (hat : ∀ j u, (fv ys)[j]? = some u → w.cell? (ad.add j) = some u) (hbytes : n + m ≤ 3000000000000) (hbase : base ≤ w.heap.size)
    (h : ∀ v' w', w'.ownsRow base 52 2 v' (n + m) (xs ++ fv ys) → w'.ownsRow base 52 2 v n xs → w.grownBy w' v.ownBlock → (v'.ownBlock = v.ownBlock ∨ ∀ k, v'.ownBlock = some k → w.heap.size ≤ k) → wpList Tryd.prog ops Q rest (a.put o.dst v') w') : wpList Tryd.prog ops Q (o :: rest) a w := by
  refine wpList_plain hgd fun K hK => ?_
  obtain ⟨v', w', hr, h1, h2, h3, h4⟩ := run_append_keep w o.type base v n xs hown ad m c ys hl h0 hat hbytes hbase
  unfold Oper.wp execOp
  simp only [ho, resolve, invoke, builtin, Sem.run_bind, Sem.run_pure, Result.andThen_ok, List.map_toArray, List.map_cons, List.map_nil, hs, hx, hr]
  exact hK _ _ (h v' w' h1 h2 h3 h4)

/-- The lists ls, each a row of its own: K values v k of n k spans, that hold f k. -/
structure Fl (w : World) (B K : Nat) (lsv : Value) (v : Nat → Value) (n : Nat → Nat) (f : Nat → List Value) : Prop where
  ls : w.ownsRow B 27 1 lsv K ((List.range K).map v)
  row : ∀ k, k < K → w.ownsRow B 52 2 (v k) (n k) (f k)
  apart : ∀ i k, i < K → k < K → i ≠ k → (v i).ownBlock = none ∨ (v i).ownBlock ≠ (v k).ownBlock
theorem Fl.kept {w w' : World} {B K : Nat} {lsv : Value} {v : Nat → Value} {n : Nat → Nat} {f : Nat → List Value} (h : Fl w B K lsv v n f) (hg : w.grownBy w' none) : Fl w' B K lsv v n f :=
  ⟨h.ls.kept hg (by cases lsv.ownBlock <;> simp), fun k hk => (h.row k hk).kept hg (by cases (v k).ownBlock <;> simp), h.apart⟩
/-- One row is written; the others stay. -/
theorem Fl.wrote {w w' : World} {B K : Nat} {lsv : Value} {v : Nat → Value} {n : Nat → Nat} {f f' : Nat → List Value} (h : Fl w B K lsv v n f) (j : Nat) (hj : j < K) (hg : w.grownBy w' (v j).ownBlock) (hrow : w'.ownsRow B 52 2 (v j) (n j) (f' j))
    (hf : ∀ k, k ≠ j → f' k = f k) : Fl w' B K lsv v n f' := by
  refine ⟨h.ls.kept hg (Ap.own_ne h.ls (h.row j hj) (by decide)), fun k hk => ?_, h.apart⟩
  by_cases e : k = j
  · subst e; exact hrow
  · rw [hf k e]
    exact (h.row k hk).kept hg (h.apart k j hk hj e)
end Go.Proofs.YtomoclicbjkpoabDoor.Af
