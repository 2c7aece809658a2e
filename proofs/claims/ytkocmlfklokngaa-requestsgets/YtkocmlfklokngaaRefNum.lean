/- The contract of the document's own Number; appends that tell where the row lies; a Writer's copy. -/
import Derived.Test.YtkocmlfklokngaaOver
import Derived.Maps.AppendAt
namespace Go.Proofs.Ytkocmlfklokngaa
open Go.RowKit

/-- append(s, x...), s the call's own, x bytes that lie somewhere (or nil); where the row lies then. -/
theorem wpList_append_lie {w : World} {ops : Array Oper} {rest : List Oper} {o : Oper} {a : Act} {Q : Exit → Act → World → Prop} (hgd : o.guard = none) (s x : Operand)
    (ho : o.op = .call { callee := .builtin .append, args := #[s, x], argTypes := #[27, 27] }) (base : Nat) (v : Value) (n : Nat) (xs : List Value) (hs : a.eval s = v) (hown : w.ownsRow base 5 1 v n xs)
    (ao : Option Addr) (m c : Nat) (ys : List Int) (hx : a.eval x = .slice ao m c) (hm : ys.length = m) (hat : At w ao ys) (hnil : ao = none → m = 0 ∧ c = 0)
    (hbytes : n + m ≤ 140737488355328) (hbase : base ≤ w.heap.size)
    (h : ∀ v' w', w'.ownsRow base 5 1 v' (n + m) (xs ++ ys.map (Value.int .u8)) → w.grownBy w' v.ownBlock → (v'.ownBlock = v.ownBlock ∨ v'.ownBlock = some w.heap.size) → wpList Try.prog ops Q rest (a.put o.dst v') w') : wpList Try.prog ops Q (o :: rest) a w := by
  obtain ⟨i0, hi, hz0, hz1, hz2⟩ := info_parts Try.info5
  cases ao with
  | none =>
    obtain ⟨rfl, rfl⟩ := hnil rfl
    refine wpList_append_own_none hgd s x 27 ho base 5 i0 1 Try.underlying27 hi v n xs hs hown hx (h v w ?_ (grown_refl w _) (Or.inl rfl))
    have : ys = [] := List.eq_nil_of_length_eq_zero hm
    subst this
    simpa using hown
  | some ad =>
    refine wpList_append_own_at _ hgd s x 27 ho base 5 i0 (.int .u8 0) 1 1 Try.underlying27 hi hz0 hz1 hz2 rfl (by decide) v n xs hs hown ad m c (ys.map (Value.int .u8)) hx (by simp [hm]) ?_ ?_ (by unfold maxLen; omega) (by omega) hbase (fun v' w' h1 h2 _ h4 => h v' w' h1 h2 h4)
    · intro j u hu
      rw [List.getElem?_map] at hu
      cases hj : ys[j]? with
      | none => simp [hj] at hu
      | some y =>
        simp [hj] at hu
        obtain ⟨a', ha', hc'⟩ := hat j y hj
        cases ha'
        rw [← hu]; exact hc'
    · intro u hu; rw [List.mem_map] at hu; obtain ⟨y, _, rfl⟩ := hu; rfl

theorem div_pow (N : Int) (j : Nat) : N / 2 ^ (8 * j) / 256 = N / 2 ^ (8 * (j + 1)) := by
  rw [pow_succ8, Int.mul_comm, Int.ediv_ediv_of_nonneg (Int.le_of_lt (Int.pow_pos (by omega)))]

set_option maxHeartbeats 1000000 in
theorem refnum_any (N S : Int) (size : Nat) (w : World) (hS : S = (size : Int)) (hs : size ≤ 8) (h0 : 0 ≤ N) (h1 : N < 18446744073709551616) :
    Calls Try.prog 28 #[.int .u64 N, .int .i64 S] w fun e w' => ∃ v, e = .returned v ∧ w'.ownsRow w.heap.size 5 1 v size ((leB N size).map (Value.int .u8)) ∧ w.grownBy w' none := by
  subst hS
  go_enter Try.func28, Try.ntmps28
  go_wp2
  go_loopg [0, 5, 6] size (fun k n v i wr => ∃ j : Nat, k + j = size ∧ n = .int .u64 (N / 2 ^ (8 * j)) ∧ i = .int .i64 j ∧ wr.ownsRow w.heap.size 5 1 v j ((leB N j).map (Value.int .u8)) ∧ w.grownBy wr none)
  case atStart => exact ⟨0, by omega, by simp, rfl, by simpa [leB] using World.ownsRow_nil w w.heap.size 5 1, grown_refl _ _⟩
  case round =>
    obtain ⟨j, hkj, rfl, rfl, hown, hg⟩ := hrel
    have HO := hide (And.intro hown hg)
    have hm0 : 0 ≤ N / 2 ^ (8 * j) := Int.ediv_nonneg h0 (Int.le_of_lt (Int.pow_pos (by omega)))
    have hm1 : N / 2 ^ (8 * j) < 18446744073709551616 := by
      have : N / 2 ^ (8 * j) ≤ N := Int.ediv_le_self _ h0
      omega
    have HD := hide (And.intro (leB_succ N j) (div_pow N j))
    by_cases hk : 0 < gk
    · clear hown hg
      generalize N / 2 ^ (8 * j) = M at *
      go_wp2_with (at_builtin; refine wpList_append_at rfl (.tmp 12) (.tmp 16) rfl w.heap.size _ j ((leB N j).map (Value.int .u8)) rfl (HO.out.1.alloc _) (some ⟨_, 0, none⟩) 1 1 [M % 256] rfl rfl ?_ (fun e => by cases e) (by omega) ?_ ?_)
      · exact at_new _ [M % 256] _ rfl
      · have := HO.out.2.size; simp; omega
      · intro v' w' hown' hg'
        go_wp2
        go_roundg (gk - 1)
        case measure => omega
        case rel =>
          refine ⟨j + 1, by omega, by rw [← HD.out.2], by go_num, ?_, grown_then (grown_trans HO.out.2 (World.grownBy_alloc _ _ none)) hg' (fun k e => Or.inl (HO.out.1.lt k e).1)⟩
          rw [HD.out.1]; simpa using hown'
    · have hj : j = size := by omega
      subst hj
      obtain ⟨ao', cap', rfl, hr⟩ := own_at hown
      clear hown hg hr
      go_wp2
      go_ret
      exact ⟨_, rfl, HO.out.1, HO.out.2⟩

/-- The cells behind a store of a whole block. -/
theorem setCells_all : ∀ (vs l : List Value) (w : World) (g o : Nat) (t : TypeId) (pre : List Value), w.heap[g]? = some (.cells (pre ++ l).toArray t (0, 0)) → pre.length = o → l.length = vs.length → (w.setCells g o vs).heap[g]? = some (.cells (pre ++ vs).toArray t (0, 0))
  | [], l, w, g, o, t, pre, h, _, hl => by
    have : l = [] := List.eq_nil_of_length_eq_zero (by simpa using hl)
    subst this
    exact h
  | v :: vs, l, w, g, o, t, pre, h, hp, hl => by
    cases l with
    | nil => simp at hl
    | cons x l =>
      have h1 := row_setCell h o v
      rw [List.set_append_right _ _ (by omega), hp, Nat.sub_self, List.set_cons_zero] at h1
      have h2 : (w.setCell ⟨g, o, none⟩ v).heap[g]? = some (.cells ((pre ++ [v]) ++ l).toArray t (0, 0)) := by rw [h1]; simp
      have h3 := setCells_all vs l (w.setCell ⟨g, o, none⟩ v) g (o + 1) t (pre ++ [v]) h2 (by simp [hp]) (by simpa using hl)
      simp only [World.setCells]
      rw [h3]; simp
theorem grown_setCells : ∀ (vs : List Value) (w : World) (g o : Nat), w.grownBy (w.setCells g o vs) (some g)
  | [], w, _, _ => grown_refl w _
  | v :: vs, w, g, o => grown_trans (grown_setCell w g o v) (grown_setCells vs _ g (o + 1))
/-- A Writer's copy, in a block of its own. -/
theorem twin_wr {w : World} {g : Nat} {D : List Int} {row : List Value} {C : Array Value} (h : WrAt w g D) (hrow : w.heap[g]? = some (.cells row.toArray 46 (0, 0))) (hC : C.size = row.length) :
    WrAt ((w.alloc (.cells C 46)).setCells w.heap.size 0 row) w.heap.size D ∧ WrAt ((w.alloc (.cells C 46)).setCells w.heap.size 0 row) g D ∧ w.grownBy ((w.alloc (.cells C 46)).setCells w.heap.size 0 row) none := by
  have hg : w.grownBy ((w.alloc (.cells C 46)).setCells w.heap.size 0 row) none := grown_then (World.grownBy_alloc w _ none) (grown_setCells row _ _ 0) (fun k e => by cases e; exact Or.inl (Nat.le_refl _))
  refine ⟨?_, h.kept hg (by simp) (NoBlock.none _), hg⟩
  obtain ⟨v, cs, op, hb, hl, hc, he⟩ := h
  have hr : row = wrow v op D.length := by
    rw [hrow] at hb
    simp only [Option.some.injEq, Obj.cells.injEq, and_true] at hb
    exact congrArg Array.toList hb
  have h1 : (w.alloc (.cells C 46)).heap[w.heap.size]? = some (.cells ([] ++ C.toList).toArray 46 (0, 0)) := by simpa using heap_alloc_new w (.cells C 46)
  have h2 := setCells_all row C.toList _ w.heap.size 0 46 [] h1 rfl (by simp [hC])
  refine ⟨v, cs, op, ?_, hl, Chain.kept hg (NoBlock.none _) cs v hc, he⟩
  rw [← hr]; simpa using h2
end Go.Proofs.Ytkocmlfklokngaa
