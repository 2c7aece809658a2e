/- The contracts of a Reader's calls, of Of and of bytes.Clone. -/
import Derived.Test.YtoflohjlmagjpaaDoorOut
import Derived.Laws.AppendOwnNone
namespace Go.Proofs.YtoflohjlmagjpaaDoor
open Go.RowKit

/-- append(s, x...), s the call's own, x bytes that lie somewhere (or nil). -/
theorem wpList_append_at {w : World} {ops : Array Oper} {rest : List Oper} {o : Oper} {a : Act} {Q : Exit → Act → World → Prop} (hgd : o.guard = none) (s x : Operand)
    (ho : o.op = .call { callee := .builtin .append, args := #[s, x], argTypes := #[27, 27] }) (base : Nat) (v : Value) (n : Nat) (xs : List Value) (hs : a.eval s = v) (hown : w.ownsRow base 5 1 v n xs)
    (ao : Option Addr) (m c : Nat) (ys : List Int) (hx : a.eval x = .slice ao m c) (hm : ys.length = m) (hat : At w ao ys) (hnil : ao = none → m = 0 ∧ c = 0)
    (hbytes : n + m ≤ 140737488355328) (hbase : base ≤ w.heap.size)
    (h : ∀ v' w', w'.ownsRow base 5 1 v' (n + m) (xs ++ ys.map (Value.int .u8)) → w.grownBy w' v.ownBlock → wpList Tryd.prog ops Q rest (a.put o.dst v') w') : wpList Tryd.prog ops Q (o :: rest) a w := by
  obtain ⟨i0, hi, hz0, hz1, hz2⟩ := info_parts Tryd.info5
  cases ao with
  | none =>
    obtain ⟨rfl, rfl⟩ := hnil rfl
    refine wpList_append_own_none hgd s x 27 ho base 5 i0 1 Tryd.underlying27 hi v n xs hs hown hx (h v w ?_ (grown_refl w _))
    have : ys = [] := List.eq_nil_of_length_eq_zero hm
    subst this
    simpa using hown
  | some ad =>
    refine wpList_append_own _ hgd s x 27 ho base 5 i0 (.int .u8 0) 1 1 Tryd.underlying27 hi hz0 hz1 hz2 rfl (by decide) v n xs hs hown ad m c (ys.map (Value.int .u8)) hx (by simp [hm]) ?_ ?_ (by unfold maxLen; omega) (by omega) hbase (fun v' w' h1 h2 _ => h v' w' h1 h2)
    · intro j u hu
      rw [List.getElem?_map] at hu
      cases hj : ys[j]? with
      | none => simp [hj] at hu
      | some y =>
        simp [hj] at hu
        obtain ⟨a', ha', hc'⟩ := hat j y hj
        cases ha'
        rw [← hu]; exact hc'
    · intro u hu; rw [List.mem_map] at hu; obtain ⟨y, _, rfl⟩ := hu; rfl

/-- An owned row of bytes, as bytes that lie somewhere. -/
theorem own_at {w : World} {base n : Nat} {v : Value} {xs : List Int} (h : w.ownsRow base 5 1 v n (xs.map (Value.int .u8))) :
    ∃ ao cap, v = .slice ao n cap ∧ xs.length = n ∧ n ≤ cap ∧ cap ≤ maxLen ∧ At w ao xs ∧ (ao = none → n = 0 ∧ cap = 0) ∧ (∀ a, ao = some a → base ≤ a.block ∧ a.block < w.heap.size ∧ ∃ c, w.heap[a.block]? = some (.cells c 5 (0, 0))) := by
  obtain ⟨hl, h⟩ := h
  simp at hl
  rcases h with ⟨rfl, rfl⟩ | ⟨g, cap, cur, rfl, hb, hg, hn, hm, hs, ht⟩
  · have : xs = [] := List.eq_nil_of_length_eq_zero hl
    subst this
    exact ⟨none, 0, rfl, rfl, Nat.le_refl _, Nat.zero_le _, At.nil _ _, fun _ => ⟨rfl, rfl⟩, fun a e => by cases e⟩
  · refine ⟨some ⟨g, 0, none⟩, cap, rfl, hl, hn, hm, ?_, (fun e => by cases e), fun a e => by cases e; exact ⟨hb, row_lt hg, cur, hg⟩⟩
    intro j u hu
    refine ⟨_, rfl, ?_⟩
    rw [Addr.add_lit, Nat.zero_add, cell_of_row w g j cur 5 (0, 0) hg]
    have h1 : (cur.toList.take (n * 1))[j]? = some (Value.int .u8 u) := by rw [ht, List.getElem?_map, hu]; rfl
    rw [List.getElem?_take] at h1
    split at h1
    · simpa using h1
    · cases h1

set_option maxHeartbeats 400000 in
theorem clone_any (ao : Option Addr) (n cap : Nat) (xs : List Int) (w : World) (hn : xs.length = n) (hat : At w ao xs) (hnil : ao = none → n = 0 ∧ cap = 0) (hb : n ≤ 140737488355328) :
    Calls Tryd.prog 64 #[.slice ao n cap] w fun e w' => ∃ v, e = .returned v ∧ w'.ownsRow w.heap.size 5 1 v n (xs.map (Value.int .u8)) ∧ w.grownBy w' none := by
  have Hn := hide hn
  clear hn
  have hq := fun w' => Lib.run_eql_slice_nil (P := Tryd.prog) w' 27 5 ao n cap 0 0 Tryd.underlying27
  cases ao with
  | none =>
    obtain ⟨rfl, rfl⟩ := hnil rfl
    have : xs = [] := List.eq_nil_of_length_eq_zero Hn.out
    subst this
    clear Hn
    go_enter Tryd.func64, Tryd.ntmps64
    go_wp2
    go_ret
    exact ⟨_, rfl, World.ownsRow_nil _ _ _ _, grown_refl _ _⟩
  | some a =>
    go_enter Tryd.func64, Tryd.ntmps64
    go_wp2_with (at_builtin; refine wpList_append_at rfl (.tmp 5) (.tmp 6) rfl w.heap.size (.slice (some ⟨w.heap.size, 0, none⟩) 0 0) 0 [] rfl ?_ (some a) n cap xs rfl Hn.out ?_ (fun e => by cases e) (by omega) (by simp) ?_)
    · exact World.ownsRow_made w #[] 0 (Nat.le_refl _) (Nat.zero_le _) rfl
    · exact hat.kept (World.grownBy_alloc w _ none) (by simp)
    · intro v' w' hown hg
      obtain ⟨ao', cap', rfl, hr⟩ := own_at hown
      clear hr
      go_wp2
      go_ret
      exact ⟨_, rfl, hown, grown_then (World.grownBy_alloc w _ none) hg (fun k e => by cases e; exact Or.inl (Nat.le_refl _))⟩

/-- The cells of a Reader. -/
def rrow (ao : Option Addr) (n cap : Nat) (e : Int) : List Value := [.slice ao n cap, .int .i64 e, .bool true]
/-- The Reader at the head of block b has the bytes xs left, and the error e. -/
def RdAt (w : World) (b : Nat) (xs : List Int) (e : Int) : Prop :=
  ∃ ao cap, w.heap[b]? = some (.cells (rrow ao xs.length cap e).toArray 119 (0, 0)) ∧ xs.length ≤ cap ∧ cap ≤ maxLen ∧ At w ao xs ∧ Off ao b ∧ (ao = none → cap = 0) ∧ (e ≠ 0 → xs = []) ∧ (∀ a, ao = some a → ∃ c, w.heap[a.block]? = some (.cells c 5 (0, 0)))

theorem RdAt.lt {w : World} {b : Nat} {xs : List Int} {e : Int} (h : RdAt w b xs e) : b < w.heap.size := by obtain ⟨ao, cap, hb, _⟩ := h; exact row_lt hb
theorem RdAt.noBlock {w : World} {b : Nat} {xs : List Int} {e : Int} (h : RdAt w b xs e) : NoBlock w (some b) := by obtain ⟨ao, cap, hb, _⟩ := h; exact NoBlock.of hb (by decide)

/-- The row that may be written holds no bytes. -/
def NoBytes (w : World) (row : Option Nat) : Prop := ∀ k c fr, row = some k → w.heap[k]? ≠ some (.cells c 5 fr)
theorem NoBytes.none (w : World) : NoBytes w none := fun _ _ _ e => by cases e
theorem NoBytes.of {w : World} {g : Nat} {c : Array Value} {t : TypeId} {fr : Nat × Nat} (h : w.heap[g]? = some (.cells c t fr)) (ht : t ≠ 5) : NoBytes w (some g) := by
  intro k c' fr' e h'
  cases e
  rw [h] at h'
  simp at h'
  exact ht h'.2.1
theorem RdAt.noBytes {w : World} {b : Nat} {xs : List Int} {e : Int} (h : RdAt w b xs e) : NoBytes w (some b) := by obtain ⟨ao, cap, hb, _⟩ := h; exact NoBytes.of hb (by decide)
theorem WrAt.noBytes {w : World} {g : Nat} {bs : List Int} (h : WrAt w g bs) : NoBytes w (some g) := by obtain ⟨v, cs, op, hb, _⟩ := h; exact NoBytes.of hb (by decide)

theorem RdAt.kept {w w' : World} {b : Nat} {xs : List Int} {e : Int} {row : Option Nat} (h : RdAt w b xs e) (hg : w.grownBy w' row) (hne : row ≠ some b) (hr : NoBytes w row) : RdAt w' b xs e := by
  obtain ⟨ao, cap, hb, h1, h2, hat, ho, h3, h4, h5⟩ := h
  have hne' : ∀ a, ao = some a → some a.block ≠ row := fun a ha e => by
    obtain ⟨c, hc⟩ := h5 a ha
    exact hr a.block c (0, 0) e.symm hc
  refine ⟨ao, cap, (hg.block b (row_lt hb) (fun e => hne e.symm)).trans hb, h1, h2, hat.kept hg hne', ho, h3, h4, fun a ha => ?_⟩
  obtain ⟨c, hc⟩ := h5 a ha
  exact ⟨c, (hg.block _ (row_lt hc) (hne' a ha)).trans hc⟩

/-- What n bytes taken off leave: what is given, what is left, the error. -/
def takeF (xs : List Int) (e n : Int) : List Int × List Int × Int :=
  if e ≠ 0 then ([], xs, e) else if n < 0 then ([], [], 2) else if (xs.length : Int) < n then ([], [], 4) else (xs.take n.toNat, xs.drop n.toNat, 0)

theorem rrow_set (ao ao' : Option Addr) (n n' cap cap' : Nat) (e : Int) : (rrow ao n cap e).set 0 (.slice ao' n' cap') = rrow ao' n' cap' e := rfl

/-- A slice that was given. -/
def Given (w : World) (b : Nat) (v : Value) (xs : List Int) : Prop :=
  ∃ ao cap, v = .slice ao xs.length cap ∧ xs.length ≤ cap ∧ cap ≤ maxLen ∧ At w ao xs ∧ Off ao b ∧ (ao = none → cap = 0) ∧ (∀ a, ao = some a → ∃ c, w.heap[a.block]? = some (.cells c 5 (0, 0)))

theorem given_nil (w : World) (b : Nat) : Given w b (.slice none 0 0) [] := ⟨none, 0, rfl, Nat.le_refl _, Nat.zero_le _, At.nil _ _, (fun a e => by cases e), fun _ => rfl, (fun a e => by cases e)⟩
/-- A Reader that has met an error. -/
theorem rd_err {w : World} {b n cap : Nat} {ao : Option Addr} {e E : Int} (hb : w.heap[b]? = some (.cells (rrow ao n cap e).toArray 119 (0, 0))) :
    RdAt ((w.setCell ⟨b, 0, none⟩ (.slice none 0 0)).setCell ⟨b, 1, none⟩ (.int .i64 E)) b [] E ∧ w.grownBy ((w.setCell ⟨b, 0, none⟩ (.slice none 0 0)).setCell ⟨b, 1, none⟩ (.int .i64 E)) (some b) := by
  refine ⟨⟨none, 0, ?_, Nat.le_refl _, Nat.zero_le _, At.nil _ _, (fun a e => by cases e), fun _ => rfl, fun _ => rfl, (fun a e => by cases e)⟩, grown_trans (grown_setCell w b 0 _) (grown_setCell _ b 1 _)⟩
  exact row_setCell (row_setCell hb 0 _) 1 _

/-- A Reader off which n bytes were taken. -/
theorem rd_cut {w : World} {b n cap : Nat} {ao : Option Addr} {xs : List Int} (hb : w.heap[b]? = some (.cells (rrow ao xs.length cap 0).toArray 119 (0, 0))) (hn : n ≤ xs.length) (h1 : xs.length ≤ cap) (h2 : cap ≤ maxLen) (hat : At w ao xs) (ho : Off ao b) (h3 : ao = none → cap = 0)
    (h5 : ∀ a, ao = some a → ∃ c, w.heap[a.block]? = some (.cells c 5 (0, 0))) :
    Given (w.setCell ⟨b, 0, none⟩ (.slice (cutA ao n cap) (xs.length - n) (cap - n))) b (.slice ao n cap) (xs.take n) ∧
    RdAt (w.setCell ⟨b, 0, none⟩ (.slice (cutA ao n cap) (xs.length - n) (cap - n))) b (xs.drop n) 0 ∧ w.grownBy (w.setCell ⟨b, 0, none⟩ (.slice (cutA ao n cap) (xs.length - n) (cap - n))) (some b) := by
  have hg := grown_setCell w b 0 (.slice (cutA ao n cap) (xs.length - n) (cap - n))
  have hat' := hat.kept hg ho.ne
  have hl : (xs.take n).length = n := by simp; omega
  have hd : (xs.drop n).length = xs.length - n := by simp
  have h5' : ∀ a, ao = some a → ∃ c, (w.setCell ⟨b, 0, none⟩ (.slice (cutA ao n cap) (xs.length - n) (cap - n))).heap[a.block]? = some (.cells c 5 (0, 0)) := fun a ha => by
    obtain ⟨c, hc⟩ := h5 a ha
    exact ⟨c, (hg.block _ (row_lt hc) (ho.ne a ha)).trans hc⟩
  refine ⟨⟨ao, cap, by rw [hl], by omega, h2, hat'.take n, ho, h3, h5'⟩, ⟨cutA ao n cap, cap - n, ?_, by omega, by omega, hat'.cut n cap h1, ho.cut n cap, ?_, fun h => absurd rfl h, ?_⟩, hg⟩
  · rw [hd, row_setCell hb, rrow_set]
  · intro e
    unfold cutA at e
    split at e
    · omega
    · cases ao with
      | none => have := h3 rfl; omega
      | some a => simp at e
  · intro a ha
    unfold cutA at ha
    split at ha
    · exact h5' a ha
    · cases ao with
      | none => simp at ha
      | some x => simp at ha; rw [← ha, addr_add_block]; exact h5' x rfl

set_option maxHeartbeats 1000000 in
theorem cut_any (b : Nat) (xs : List Int) (e n : Int) (w : World) (hR : RdAt w b xs e) (hm1 : -9223372036854775808 ≤ n) (hm2 : n ≤ 9223372036854775807) :
    Calls Tryd.prog 97 #[.pointer (some ⟨b, 0, none⟩), .int .i64 n] w fun r w' => ∃ v, r = .returned v ∧ Given w' b v (takeF xs e n).1 ∧ RdAt w' b (takeF xs e n).2.1 (takeF xs e n).2.2 ∧ w.grownBy w' (some b) := by
  obtain ⟨ao, cap, hb, h1, h2, hat, ho, h3, h4, h5⟩ := hR
  unfold maxLen at h2
  have c0 : w.cell? ⟨b, 0, none⟩ = some (.slice ao xs.length cap) := by rw [cell_row hb]; rfl
  have c1 : w.cell? ⟨b, 1, none⟩ = some (.int .i64 e) := by rw [cell_row hb]; rfl
  have f0 : w.frozen? ⟨b, 0, none⟩ = false := free_row hb _
  have f1 : w.frozen? ⟨b, 1, none⟩ = false := free_row hb _
  have HB := hide (And.intro hb (And.intro hat (And.intro ho (And.intro h4 (And.intro h3 h5)))))
  clear hb hat ho h4 h3 h5
  by_cases he : e = 0
  · subst he
    by_cases hn : n < 0
    · have HT : Hid (takeF xs 0 n = ([], [], 2)) := by show _ = _; simp [takeF, hn]
      go_enter Tryd.func97, Tryd.ntmps97
      go_wp2
      go_ret
      obtain ⟨e1, e2⟩ := rd_err (E := 2) HB.out.1
      rw [HT.out]
      exact ⟨_, rfl, given_nil _ _, e1, e2⟩
    · by_cases hl : (xs.length : Int) < n
      · have HT : Hid (takeF xs 0 n = ([], [], 4)) := by show _ = _; simp [takeF, hn, hl]
        go_enter Tryd.func97, Tryd.ntmps97
        go_wp2
        go_ret
        obtain ⟨e1, e2⟩ := rd_err (E := 4) HB.out.1
        rw [HT.out]
        exact ⟨_, rfl, given_nil _ _, e1, e2⟩
      · obtain ⟨k, rfl⟩ := Int.eq_ofNat_of_zero_le (Int.not_lt.1 hn)
        have hk : k ≤ xs.length := by omega
        have HT : Hid (takeF xs 0 k = (xs.take k, xs.drop k, 0)) := by show _ = _; simp [takeF, hl]
        have hcut := slice_from ao xs.length cap k hk
        go_enter Tryd.func97, Tryd.ntmps97
        go_wp2
        go_ret
        obtain ⟨hb, hat, ho, h4, h3, h5⟩ := HB.out
        obtain ⟨e1, e2, e3⟩ := rd_cut (n := k) hb hk h1 (by unfold maxLen; exact h2) hat ho h3 h5
        rw [HT.out]
        exact ⟨_, rfl, e1, e2, e3⟩
  · have HT : Hid (takeF xs e n = ([], xs, e)) := by show _ = _; simp [takeF, he]
    have he' : (e == 0) = false := beq_eq_false_iff_ne.2 he
    go_enter Tryd.func97, Tryd.ntmps97
    go_wp2
    go_ret
    obtain ⟨hb, hat, ho, h4, h3, h5⟩ := HB.out
    rw [HT.out]
    exact ⟨_, rfl, given_nil _ _, ⟨ao, cap, hb, h1, h2, hat, ho, h3, h4, h5⟩, grown_refl _ _⟩
end Go.Proofs.YtoflohjlmagjpaaDoor
