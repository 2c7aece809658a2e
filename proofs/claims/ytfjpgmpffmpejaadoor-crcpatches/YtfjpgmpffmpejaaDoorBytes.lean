/- Rows of bytes: append, Clone, CopyBytes, SameBytes. -/
import Derived.Test.YtfjpgmpffmpejaaDoorMore
import Derived.Laws.AppendOwnNone
import Derived.Laws.BitsAllLaws
import Derived.Laws.OwnMore
namespace Go.Proofs.YtfjpgmpffmpejaaDoor
open Go.RowKit
theorem Tryd.info5 : (Tryd.prog.info? 5).map (fun i => (i.zero, i.size, i.bytes)) = some (some (.int .u8 0), 1, 1) := by kernel_rfl

/-- Bytes as they lie in cells. -/
def bv (xs : List Nat) : List Value := xs.map fun (x : Nat) => Value.int .u8 (x : Int)
theorem bv_length (xs : List Nat) : (bv xs).length = xs.length := by simp [bv]
theorem bv_append (xs ys : List Nat) : bv (xs ++ ys) = bv xs ++ bv ys := by simp [bv]
theorem bv_get (xs : List Nat) (j u : Nat) (h : xs[j]? = some u) : (bv xs)[j]? = some (.int .u8 (u : Int)) := by simp [bv, h]
theorem bv_set (xs : List Nat) (j u : Nat) : bv (xs.set j u) = (bv xs).set j (.int .u8 (u : Int)) := by simp [bv, List.map_set]
theorem At.take {w : World} {ao : Option Addr} {xs : List Nat} (h : At w ao xs) (j : Nat) : At w ao (xs.take j) := by
  intro i u hu
  rw [List.getElem?_take] at hu
  split at hu
  · exact h i u hu
  · cases hu
theorem at_row {w : World} {A : Nat} {xs : List Nat} {t : TypeId} {fr : Nat × Nat} (h : w.heap[A]? = some (.cells (bv xs).toArray t fr)) : At w (some ⟨A, 0, none⟩) xs := by
  intro j u hu
  refine ⟨_, rfl, ?_⟩
  rw [Addr.add_lit, Nat.zero_add, cell_row h, bv_get xs j u hu]
theorem at_new (w : World) (xs : List Nat) (C : Array Value) (hC : C = (bv xs).toArray) (t : TypeId) : At (w.alloc (.cells C t)) (some ⟨w.heap.size, 0, none⟩) xs := by
  subst hC; exact at_row (heap_alloc_new w _)
/-- append(s, x...), s the call's own, x bytes that lie somewhere (or nil). -/
theorem wpList_append_at {w : World} {ops : Array Oper} {rest : List Oper} {o : Oper} {a : Act} {Q : Exit → Act → World → Prop} (hgd : o.guard = none) (s x : Operand)
    (ho : o.op = .call { callee := .builtin .append, args := #[s, x], argTypes := #[23, 23] }) (base : Nat) (v : Value) (n : Nat) (xs : List Nat) (hs : a.eval s = v) (hown : w.ownsRow base 5 1 v n (bv xs))
    (ao : Option Addr) (m c : Nat) (ys : List Nat) (hx : a.eval x = .slice ao m c) (hm : ys.length = m) (hat : At w ao ys) (hnil : ao = none → m = 0 ∧ c = 0)
    (hbytes : n + m ≤ 140737488355328) (hbase : base ≤ w.heap.size)
    (h : ∀ v' w', w'.ownsRow base 5 1 v' (n + m) (bv (xs ++ ys)) → w.grownBy w' v.ownBlock → wpList Tryd.prog ops Q rest (a.put o.dst v') w') : wpList Tryd.prog ops Q (o :: rest) a w := by
  obtain ⟨i0, hi, hz0, hz1, hz2⟩ := info_parts Tryd.info5
  cases ao with
  | none =>
    obtain ⟨rfl, rfl⟩ := hnil rfl
    refine wpList_append_own_none hgd s x 23 ho base 5 i0 1 Tryd.underlying23 hi v n (bv xs) hs hown hx (h v w ?_ (grown_refl w _))
    have : ys = [] := List.eq_nil_of_length_eq_zero hm
    subst this
    simpa using hown
  | some ad =>
    refine wpList_append_own _ hgd s x 23 ho base 5 i0 (.int .u8 0) 1 1 Tryd.underlying23 hi hz0 hz1 hz2 rfl (by decide) v n (bv xs) hs hown ad m c (bv ys) hx (by simp [bv_length, hm]) ?_ ?_ (by unfold maxLen; omega) (by omega) hbase (fun v' w' h1 h2 _ => h v' w' (by rw [bv_append]; exact h1) h2)
    · intro j u hu
      rw [bv, List.getElem?_map] at hu
      cases hj : ys[j]? with
      | none => simp [hj] at hu
      | some y =>
        simp [hj] at hu
        obtain ⟨a', ha', hc'⟩ := hat j y hj
        cases ha'
        rw [← hu]; exact hc'
    · intro u hu; rw [bv, List.mem_map] at hu; obtain ⟨y, _, rfl⟩ := hu; rfl

/-- An owned row of bytes, as bytes that lie somewhere. -/
theorem own_at {w : World} {base n : Nat} {v : Value} {xs : List Nat} (h : w.ownsRow base 5 1 v n (bv xs)) :
    ∃ ao cap, v = .slice ao n cap ∧ xs.length = n ∧ n ≤ cap ∧ cap ≤ maxLen ∧ At w ao xs ∧ (ao = none → n = 0 ∧ cap = 0) ∧ (∀ a, ao = some a → a = ⟨a.block, 0, none⟩ ∧ base ≤ a.block ∧ a.block < w.heap.size) := by
  obtain ⟨hl, h⟩ := h
  simp [bv_length] at hl
  rcases h with ⟨rfl, rfl⟩ | ⟨g, cap, cur, rfl, hb, hg, hn, hm, hs, ht⟩
  · have : xs = [] := List.eq_nil_of_length_eq_zero hl
    subst this
    exact ⟨none, 0, rfl, rfl, Nat.le_refl _, Nat.zero_le _, At.nil _ _, fun _ => ⟨rfl, rfl⟩, fun a e => by cases e⟩
  · refine ⟨some ⟨g, 0, none⟩, cap, rfl, hl, hn, hm, ?_, (fun e => by cases e), fun a e => by cases e; exact ⟨rfl, hb, row_lt hg⟩⟩
    intro j u hu
    refine ⟨_, rfl, ?_⟩
    rw [Addr.add_lit, Nat.zero_add, cell_of_row w g j cur 5 (0, 0) hg]
    have h1 : (cur.toList.take (n * 1))[j]? = some (Value.int .u8 u) := by rw [ht]; exact bv_get xs j u hu
    rw [List.getElem?_take] at h1
    split at h1
    · simpa using h1
    · cases h1

attribute [local go_sem ↓] Go.wp_at_zero Go.wp_at_succ

set_option maxHeartbeats 400000 in
theorem clone_any (ao : Option Addr) (n cap : Nat) (xs : List Nat) (w : World) (hn : xs.length = n) (hat : At w ao xs) (hnil : ao = none → n = 0 ∧ cap = 0) (hb : n ≤ 140737488355328) :
    Calls Tryd.prog 30 #[.slice ao n cap] w fun e w' => ∃ v, e = .returned v ∧ w'.ownsRow w.heap.size 5 1 v n (bv xs) ∧ w.grownBy w' none := by
  have Hn := hide hn
  clear hn
  have hq := fun w' => Lib.run_eql_slice_nil (P := Tryd.prog) w' 23 5 ao n cap 0 0 Tryd.underlying23
  cases ao with
  | none =>
    obtain ⟨rfl, rfl⟩ := hnil rfl
    have : xs = [] := List.eq_nil_of_length_eq_zero Hn.out
    subst this
    clear Hn
    go_enter Tryd.func30, Tryd.ntmps30
    go_wp2
    go_ret
    exact ⟨_, rfl, World.ownsRow_nil _ _ _ _, grown_refl _ _⟩
  | some a =>
    go_enter Tryd.func30, Tryd.ntmps30
    go_wp2_with (at_builtin; refine wpList_append_at rfl (.tmp 5) (.tmp 6) rfl w.heap.size (.slice (some ⟨w.heap.size, 0, none⟩) 0 0) 0 [] rfl ?_ (some a) n cap xs rfl Hn.out ?_ (fun e => by cases e) (by omega) (by simp) ?_)
    · exact World.ownsRow_made w #[] 0 (Nat.le_refl _) (Nat.zero_le _) rfl
    · exact hat.kept (World.grownBy_alloc w _ none) (by simp)
    · intro v' w' hown hg
      obtain ⟨ao', cap', rfl, hr⟩ := own_at hown
      clear hr
      go_wp2
      go_ret
      exact ⟨_, rfl, by simpa using hown, grown_then (World.grownBy_alloc w _ none) hg (fun k e => by cases e; exact Or.inl (Nat.le_refl _))⟩

set_option maxHeartbeats 400000 in
theorem copy_any (ao : Option Addr) (n cap : Nat) (xs : List Nat) (w : World) (hn : xs.length = n) (hat : At w ao xs) (hnil : ao = none → n = 0 ∧ cap = 0) (hb : n ≤ 140737488355328) :
    Calls Tryd.prog 23 #[.slice ao n cap] w fun e w' => ∃ v, e = .returned v ∧ w'.ownsRow w.heap.size 5 1 v n (bv xs) ∧ w.grownBy w' none := by
  have Hn := hide hn
  clear hn
  go_enter Tryd.func23, Tryd.ntmps23
  go_wp2_with (at_builtin; refine wpList_append_at rfl (.tmp 4) (.tmp 5) rfl w.heap.size (.slice none 0 0) 0 [] rfl (World.ownsRow_nil _ _ _ _) ao n cap xs rfl Hn.out hat hnil (by omega) (Nat.le_refl _) ?_)
  intro v' w' hown hg
  obtain ⟨ao', cap', rfl, hr⟩ := own_at hown
  clear hr
  go_wp2
  go_ret
  exact ⟨_, rfl, by simpa using hown, grown_then (grown_refl w none) hg (fun k e => by cases e)⟩

set_option maxHeartbeats 1000000 in
theorem sameBytes_eq (ao bo : Option Addr) (n c d : Nat) (xs : List Nat) (w : World) (hn : xs.length = n) (ha : At w ao xs) (hb : At w bo xs) (hm : n ≤ 4611686018427387904) :
    Calls Tryd.prog 20 #[.slice ao n c, .slice bo n d] w fun e w' => e = .returned (.bool true) ∧ w.grownBy w' none := by
  have HA := hide (And.intro hn (And.intro ha hb))
  clear hn ha hb
  go_enter Tryd.func20, Tryd.ntmps20
  go_wp2
  go_loopg [5] n (fun k i wr => ∃ j : Nat, k + j = n ∧ i = .int .i64 j ∧ w.grownBy wr none)
  case atStart => exact ⟨0, by omega, rfl, grown_refl _ _⟩
  case round =>
    obtain ⟨j, hkj, rfl, hg⟩ := hrel
    by_cases hk : 0 < gk
    · obtain ⟨hn, ha, hb⟩ := HA.out
      have hj : j < xs.length := by omega
      obtain ⟨a, rfl, hca⟩ := ha j xs[j] (by simp [hj])
      obtain ⟨b, rfl, hcb⟩ := hb j xs[j] (by simp [hj])
      have hca' := hg.cell hca (by simp)
      have hcb' := hg.cell hcb (by simp)
      have h1 : (0 : Int) ≤ (j : Int) := by omega
      have h2 : (j : Int) < (n : Int) := by omega
      generalize xs[j] = x at *
      clear hn ha hb hca hcb hj
      go_wp2
      go_region_held3 (fun w' => w'.cell? (a.add j) = some (.int .u8 (x : Int)) ∧ w'.cell? (b.add j) = some (.int .u8 (x : Int))) (go_keep) (fail)
      go_wp2
      go_roundg (gk - 1)
      case measure => omega
      case rel => exact ⟨j + 1, by omega, by go_num, grown_trans hg (grown_drew _ _)⟩
    · have hj : j = n := by omega
      subst hj
      go_wp2
      go_ret
      exact ⟨rfl, hg⟩
end Go.Proofs.YtfjpgmpffmpejaaDoor
