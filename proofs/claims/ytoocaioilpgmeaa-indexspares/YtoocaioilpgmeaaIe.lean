/- Put, Set, Get of an index. -/
import Derived.Test.YtoocaioilpgmeaaId
namespace Go.Proofs.Ytoocaioilpgmeaa
open Go.RowKit Ix
attribute [local go_sem ↓] Go.wp_at_zero Go.wp_at_succ
/-- Where an index lies. -/
structure Ip where
  x : Nat
  g : Nat
  n : Nat
  m : Nat
def Ip.own (p : Ip) (i : Nat) : Prop := i = p.x ∨ i = p.g
def Ip.v (p : Ip) : Value := .pointer (some ⟨p.x, 0, none⟩)
/-- An index with the items M; was one looked for yet. -/
def Io (w : World) (p : Ip) (M : List (Nat × Int)) (lo : Bool) : Prop := ∃ st S, IxAt w p.x p.g p.n p.m st S M ∧ (lo = true ↔ 1 ≤ st)
section
variable {w w' : World} {p : Ip} {M : List (Nat × Int)} {lo : Bool}
theorem IxAt.far {X : Nat → Prop} {x g n m st : Nat} {S : List (Option (Nat × Int))} (h : IxAt w x g n m st S M) (k : Kept w w' X) (hx : ¬ X x) (hg : ¬ X g) : IxAt w' x g n m st S M := { h with at_ := h.at_.far k hx hg }
theorem Io.far {X : Nat → Prop} (h : Io w p M lo) (k : Kept w w' X) (hX : ∀ i, p.own i → ¬ X i) : Io w' p M lo := by
  obtain ⟨st, S, h1, h2⟩ := h
  exact ⟨st, S, h1.far k (hX _ (.inl rfl)) (hX _ (.inr rfl)), h2⟩
theorem Io.then (h : Io w p M lo) (k : w.grownBy w' none) : Io w' p M lo := h.far (Kept.new k (fun _ => False)) (fun _ _ e => e)
theorem Io.lt (h : Io w p M lo) : ∀ i, p.own i → i < w.heap.size := by
  obtain ⟨st, S, h1, h2⟩ := h
  rintro i (rfl | rfl)
  · exact row_lt h1.at_.head
  · exact row_lt h1.at_.row
theorem Io.asc (h : Io w p M lo) : Asc M := by obtain ⟨st, S, h1, h2⟩ := h; exact h1.inv.asc
theorem Io.few (h : Io w p M lo) : M.length ≤ p.m ∧ p.m ≤ 4096 ∧ 1 ≤ p.m ∧ Sz p.m p.n := by obtain ⟨st, S, h1, h2⟩ := h; exact ⟨h1.full, h1.m2, h1.m1, h1.sz⟩
theorem Io.ids (h : Io w p M lo) : ∀ y ∈ M, y.1 < 4294967296 ∧ -9223372036854775808 ≤ y.2 ∧ y.2 ≤ 9223372036854775807 := by obtain ⟨st, S, h1, h2⟩ := h; exact h1.ids
theorem Io.most (h : Io w p M lo) : Calls Try.prog 13 #[.pointer (some ⟨p.x, 0, none⟩)] w fun e w' => e = .returned (.int .i64 (p.m : Int)) ∧ w' = w := by obtain ⟨st, S, h1, h2⟩ := h; exact most_at h1.at_
theorem Io.len (h : Io w p M lo) : Calls Try.prog 14 #[.pointer (some ⟨p.x, 0, none⟩)] w fun e w' => e = .returned (.int .i64 (M.length : Int)) ∧ w' = w := by obtain ⟨st, S, h1, h2⟩ := h; exact len_at h1.at_
theorem Io.slots (h : Io w p M lo) : Calls Try.prog 16 #[.pointer (some ⟨p.x, 0, none⟩)] w fun e w' => e = .returned (.int .i64 (p.n : Int)) ∧ w' = w := by obtain ⟨st, S, h1, h2⟩ := h; exact slots_at h1.at_
theorem Io.steps (h : Io w p M lo) : ∃ st : Nat, st ≤ p.n ∧ (lo = true ↔ 1 ≤ st) ∧ ∀ W, (∀ i, p.own i → W.heap[i]? = w.heap[i]?) → Calls Try.prog 15 #[.pointer (some ⟨p.x, 0, none⟩)] W fun e w' => e = .returned (.int .i64 (st : Int)) ∧ w' = W := by
  obtain ⟨st, S, h1, h2⟩ := h
  exact ⟨st, h1.st, h2, fun W hW => steps_at ⟨(hW _ (.inl rfl)).trans h1.at_.head, (hW _ (.inr rfl)).trans h1.at_.row, h1.at_.len, h1.at_.pos, h1.at_.most⟩⟩
/-- What a search leaves. -/
theorem Io.find (h : Io w p M lo) (k : Nat) (hk : k < 4294967296) :
    Calls Try.prog 29 #[.pointer (some ⟨p.x, 0, none⟩), .int .u32 (k : Int)] w fun e w' => ∃ (q : Nat) (S : List (Option (Nat × Int))), e = .returned (.tuple #[.int .i64 (q : Int), .bool (lk M k).isSome]) ∧ Fnd (hs p.n) p.n S k q (lk M k).isSome ∧ IxAt w' p.x p.g p.n p.m (wy p.n (hs p.n k) q + 1) S M ∧ Kept w w' (fun i => i = p.x) := by
  obtain ⟨st, S, h1, h2⟩ := h
  refine (find_at h1.at_ k hk (h1.inv.free h1.at_.pos)).mono ?_
  rintro e w' ⟨q, there, rfl, hf, hr, hk⟩
  obtain ⟨e1, _⟩ := h1.inv.fnd hf
  subst e1
  exact ⟨q, S, rfl, hf, { h1 with at_ := hr, st := by have := wy_lt (h1.inv.home k) hf.lt; omega }, hk⟩
theorem IxAt.io {st : Nat} {S : List (Option (Nat × Int))} (h : IxAt w p.x p.g p.n p.m (st + 1) S M) : Io w p M true := ⟨st + 1, S, h, by simp⟩
theorem lk_val {M : List (Nat × Int)} {k : Nat} (h : Asc M) {b : Bool} (hb : (lk M k).isSome = b) : (b = true → ∃ v, lk M k = some v ∧ (k, v) ∈ M) ∧ (b = false → lk M k = none) := by
  subst hb
  cases hq : lk M k with
  | none => exact ⟨(fun e => by cases e), fun _ => rfl⟩
  | some v => exact ⟨(fun _ => ⟨v, rfl, (lk_some h).1 hq⟩), fun e => by cases e⟩
/-- The three cells of a slot, written. -/
theorem IxR.put {x g n m c st q : Nat} {S : List (Option (Nat × Int))} (h : IxR w x g n m c st S) (_hq : q < n) (y : Option (Nat × Int)) : IxR (((w.setCell ⟨g, q * 3, none⟩ (.bool y.isSome)).setCell ⟨g, q * 3 + 1, none⟩ (.int .u32 (idN y : Int))).setCell ⟨g, q * 3 + 2, none⟩ (.int .i64 (vlN y))) x g n m c st (S.set q y) ∧ Kept w (((w.setCell ⟨g, q * 3, none⟩ (.bool y.isSome)).setCell ⟨g, q * 3 + 1, none⟩ (.int .u32 (idN y : Int))).setCell ⟨g, q * 3 + 2, none⟩ (.int .i64 (vlN y))) (fun i => i = g) := by
  have k1 := kept_setCell w g (q * 3) (.bool y.isSome)
  have k2 := kept_setCell (w.setCell ⟨g, q * 3, none⟩ (.bool y.isSome)) g (q * 3 + 1) (.int .u32 (idN y : Int))
  have k3 := kept_setCell ((w.setCell ⟨g, q * 3, none⟩ (.bool y.isSome)).setCell ⟨g, q * 3 + 1, none⟩ (.int .u32 (idN y : Int))) g (q * 3 + 2) (.int .i64 (vlN y))
  have k := (k1.trans k2 (fun _ _ e => e)).trans k3 (fun _ _ e => e)
  have r := row_setCell (row_setCell (row_setCell h.row (q * 3) (.bool y.isSome)) (q * 3 + 1) (.int .u32 (idN y : Int))) (q * 3 + 2) (.int .i64 (vlN y))
  rw [← scells_set] at r
  exact ⟨⟨k.at h.head h.ne, r, by rw [List.length_set]; exact h.len, h.pos, h.most⟩, k⟩
theorem get_io (h : Io w p M lo) (k : Nat) (hk : k < 4294967296) :
    Calls Try.prog 8 #[.pointer (some ⟨p.x, 0, none⟩), .int .u32 (k : Int)] w fun e w' => e = .returned (.tuple #[.int .i64 ((lk M k).getD 0), .bool (lk M k).isSome]) ∧ Io w' p M true ∧ Kept w w' p.own := by
  have hf := h.find k hk
  have HA := hide h.asc
  clear h
  obtain ⟨b, hb⟩ : ∃ b, (lk M k).isSome = b := ⟨_, rfl⟩
  obtain ⟨hy, hn⟩ := lk_val HA.out hb
  rw [hb] at hf ⊢
  cases b with
  | false =>
    rw [hn rfl]
    simp only [Option.getD]
    have HH := hide (And.intro hy hn)
    clear hy hn
    go_enter Try.func8, Try.ntmps8
    go_wp2_with fail
    refine hf.mono ?_
    clear hf
    rintro e w1 ⟨q, S, rfl, hF, hI, hK⟩
    have H1 : Hid (Io w1 p M true ∧ Kept w w1 p.own) := ⟨hI.io, hK.mono (fun i _ e => .inl e)⟩
    clear hI hK hF
    go_wp2
    go_ret2
    exact ⟨rfl, H1.out⟩
  | true =>
    obtain ⟨v, hv, -⟩ := hy rfl
    have HV := hide hv
    rw [hv]
    simp only [Option.getD]
    clear hy hn hv hb
    go_enter Try.func8, Try.ntmps8
    go_wp2_with fail
    refine hf.mono ?_
    clear hf
    rintro e w1 ⟨q, S, rfl, hF, hI, hK⟩
    have hS := (hI.inv.fnd hF).2 v HV.out
    obtain ⟨-, -, -, -, c4⟩ := hI.at_.cells
    obtain ⟨-, -, d3⟩ := hI.at_.slot hF.lt
    rw [hS] at d3
    simp only [vlN, Option.map, Option.getD] at d3
    have hq := hF.lt
    have H1 : Hid (Io w1 p M true ∧ Kept w w1 p.own) := ⟨hI.io, hK.mono (fun i _ e => .inl e)⟩
    clear hI hK hF hS
    generalize p.n = n at *
    go_wp2
    go_ret2
    exact ⟨rfl, H1.out⟩
theorem set_same {l : List Value} {j : Nat} {u : Value} (h : l[j]? = some u) : l.set j u = l := by
  apply List.ext_getElem?
  intro i
  rw [List.getElem?_set]
  have := (List.getElem?_eq_some_iff.1 h).1
  split
  · rename_i e
    subst e
    rw [h]
  · rfl
theorem up_none {M : List (Nat × Int)} {k : Nat} {v : Int} (h : lk M k = none) : up M k v = M := by
  rw [lk_none] at h
  unfold up
  have : M.map (fun x => if x.1 = k then (k, v) else x) = M.map id := by
    apply List.map_congr_left
    rintro ⟨a, b⟩ hx
    by_cases e : a = k
    · subst e; exact absurd hx (h b)
    · simp [e]
  rw [this, List.map_id]
theorem dr_none {M : List (Nat × Int)} {k : Nat} (h : lk M k = none) : dr M k = M := by
  rw [lk_none] at h
  unfold dr
  rw [List.filter_eq_self]
  rintro ⟨a, b⟩ hx
  have : a ≠ k := fun e => by subst e; exact h b hx
  simpa using this
theorem set_io (h : Io w p M lo) (k : Nat) (hk : k < 4294967296) (v : Int) (hv0 : -9223372036854775808 ≤ v) (hv1 : v ≤ 9223372036854775807) :
    Calls Try.prog 11 #[.pointer (some ⟨p.x, 0, none⟩), .int .u32 (k : Int), .int .i64 v] w fun e w' => e = .returned (.bool (lk M k).isSome) ∧ Io w' p (up M k v) true ∧ Kept w w' p.own := by
  have hf := h.find k hk
  have HA := hide h.asc
  have HB := hide (And.intro hk (And.intro hv0 hv1))
  clear h hk hv0 hv1
  obtain ⟨b, hb⟩ : ∃ b, (lk M k).isSome = b := ⟨_, rfl⟩
  obtain ⟨hy, hn⟩ := lk_val HA.out hb
  rw [hb] at hf ⊢
  cases b with
  | false =>
    have hn0 := hn rfl
    rw [up_none hn0]
    clear hy hn hn0
    go_enter Try.func11, Try.ntmps11
    go_wp2_with fail
    refine hf.mono ?_
    clear hf
    rintro e w1 ⟨q, S, rfl, hF, hI, hK⟩
    have H1 : Hid (Io w1 p M true ∧ Kept w w1 p.own) := ⟨hI.io, hK.mono (fun i _ e => .inl e)⟩
    clear hI hK hF
    go_wp2
    go_ret
    exact ⟨rfl, H1.out⟩
  | true =>
    obtain ⟨u, hu, -⟩ := hy rfl
    have HV := hide hu
    clear hy hn hu hb
    go_enter Try.func11, Try.ntmps11
    go_wp2_with fail
    refine hf.mono ?_
    clear hf
    rintro e w1 ⟨q, S, rfl, hF, hI, hK⟩
    have hS := (hI.inv.fnd hF).2 u HV.out
    obtain ⟨-, -, -, -, c4⟩ := hI.at_.cells
    obtain ⟨e1, e2, e3⟩ := hI.at_.slot hF.lt
    have f3 := free_row hI.at_.row (q * 3 + 2)
    have hq := hF.lt
    have H1 : Hid (Io (w1.setCell ⟨p.g, q * 3 + 2, none⟩ (.int .i64 v)) p (up M k v) true ∧ Kept w (w1.setCell ⟨p.g, q * 3 + 2, none⟩ (.int .i64 v)) p.own) := by
      have k3 := kept_setCell w1 p.g (q * 3 + 2) (.int .i64 v)
      have r := row_setCell hI.at_.row (q * 3 + 2) (.int .i64 v)
      have hc : (scells S).set (q * 3 + 2) (.int .i64 v) = scells (S.set q (some (k, v))) := by
        have hql : q < S.length := by rw [hI.at_.len]; exact hq
        obtain ⟨g1, g2, g3⟩ := scells_get hql
        rw [hS] at g1 g2
        rw [scells_set]
        congr 1
        rw [set_same (show (scells S)[q * 3]? = some (.bool (some (k, v)).isSome) from g1), set_same (show (scells S)[q * 3 + 1]? = some (.int .u32 (idN (some (k, v)) : Int)) from g2)]
      rw [hc] at r
      refine ⟨⟨_, S.set q (some (k, v)), { at_ := ⟨?_, r, by rw [List.length_set]; exact hI.at_.len, hI.at_.pos, hI.at_.most⟩, inv := hI.inv.up v hF, sz := hI.sz, m1 := hI.m1, m2 := hI.m2, full := by rw [up_length]; exact hI.full, st := hI.st, ids := fun y hy => ?_ }, by simp⟩, (hK.mono (fun i _ e => .inl e)).trans k3 (fun i _ e => .inr e)⟩
      · rw [up_length]; exact k3.at hI.at_.head hI.at_.ne
      · rcases up_mem.1 hy with ⟨rfl, _⟩ | ⟨hy, _⟩
        · exact HB.out
        · exact hI.ids y hy
    clear hI hK hF hS
    generalize hW : w1.setCell ⟨p.g, q * 3 + 2, none⟩ (.int .i64 v) = W at *
    generalize p.n = n at *
    go_wp2
    go_ret
    exact ⟨rfl, H1.out⟩
/-- What Put answers, what it leaves. -/
def putE (M : List (Nat × Int)) (k m : Nat) : Int := if (lk M k).isSome then 7 else if M.length = m then 6 else 0
def putM (M : List (Nat × Int)) (k m : Nat) (v : Int) : List (Nat × Int) := if (lk M k).isSome then M else if M.length = m then M else ins M (k, v)
set_option maxRecDepth 20000 in
theorem put_io (h : Io w p M lo) (k : Nat) (hk : k < 4294967296) (v : Int) (hv0 : -9223372036854775808 ≤ v) (hv1 : v ≤ 9223372036854775807) :
    Calls Try.prog 10 #[.pointer (some ⟨p.x, 0, none⟩), .int .u32 (k : Int), .int .i64 v] w fun e w' => e = .returned (.int .i64 (putE M k p.m)) ∧ Io w' p (putM M k p.m v) true ∧ Kept w w' p.own := by
  have hf := h.find k hk
  have hno : Calls Try.prog 30 #[.pointer (some ⟨p.x, 0, none⟩)] w fun e w' => e = .returned (.bool false) ∧ w' = w := by obtain ⟨st, S, h1, _⟩ := h; exact none_at h1.at_
  have HA := hide h.asc
  have HB := hide (And.intro hk (And.intro hv0 hv1))
  clear h hk hv0 hv1
  obtain ⟨b, hb⟩ : ∃ b, (lk M k).isSome = b := ⟨_, rfl⟩
  obtain ⟨hy, hn⟩ := lk_val HA.out hb
  unfold putE putM
  rw [hb] at hf ⊢
  cases b with
  | true =>
    simp only [if_true]
    clear hy hn
    go_enter Try.func10, Try.ntmps10
    go_wp2_with fail
    refine hno.mono ?_
    clear hno
    rintro e w0 ⟨rfl, hw0⟩
    obtain rfl := hw0.symm
    go_wp2_with fail
    refine hf.mono ?_
    clear hf
    rintro e w1 ⟨q, S, rfl, hF, hI, hK⟩
    have H1 : Hid (Io w1 p M true ∧ Kept w w1 p.own) := ⟨hI.io, hK.mono (fun i _ e => .inl e)⟩
    clear hI hK hF
    go_wp2
    go_ret
    exact ⟨rfl, H1.out⟩
  | false =>
    simp only [if_false, Bool.false_eq_true]
    have HN := hide (hn rfl)
    clear hy hn hb
    by_cases hm : M.length = p.m
    · rw [if_pos hm, if_pos hm]
      go_enter Try.func10, Try.ntmps10
      go_wp2_with fail
      refine hno.mono ?_
      clear hno
      rintro e w0 ⟨rfl, hw0⟩
      obtain rfl := hw0.symm
      go_wp2_with fail
      refine hf.mono ?_
      clear hf
      rintro e w1 ⟨q, S, rfl, hF, hI, hK⟩
      obtain ⟨-, c1, c2, -, -⟩ := hI.at_.cells
      rw [hm] at c2
      have H1 : Hid (Io w1 p M true ∧ Kept w w1 p.own) := ⟨hI.io, hK.mono (fun i _ e => .inl e)⟩
      clear hI hK hF hm
      generalize p.m = m at *
      go_wp2
      go_quiet (fail)
      go_wp2
      go_ret
      exact ⟨rfl, H1.out.1.then (grown_drewN _ _ _), H1.out.2.trans (Kept.new (grown_drewN _ _ none) p.own) (fun _ _ e => e)⟩
    · rw [if_neg hm, if_neg hm]
      go_enter Try.func10, Try.ntmps10
      go_wp2_with fail
      refine hno.mono ?_
      clear hno
      rintro e w0 ⟨rfl, hw0⟩
      obtain rfl := hw0.symm
      go_wp2_with fail
      refine hf.mono ?_
      clear hf
      rintro e w1 ⟨q, S, rfl, hF, hI, hK⟩
      obtain ⟨-, c1, c2, -, -⟩ := hI.at_.cells
      have q1 : ((M.length : Int) == (p.m : Int)) = false := by simp; omega
      have q2 : decide ((M.length : Int) = (p.m : Int)) = false := by simp; omega
      obtain ⟨c, hc⟩ : ∃ c, c = M.length := ⟨_, rfl⟩
      have hc9 : c < 4096 := by have := hI.full; have := hI.m2; omega
      have hwr : IntKind.i64.wrap ((c : Int) + 1) = ((c + 1 : Nat) : Int) := by rw [IntKind.wrap_i64]; omega
      have H1 : Hid (∀ w2, w1.grownBy w2 none → ∀ W, ((w2.setCell ⟨p.g, q * 3, none⟩ (.bool true)).setCell ⟨p.g, q * 3 + 1, none⟩ (.int .u32 (k : Int))).setCell ⟨p.g, q * 3 + 2, none⟩ (.int .i64 v) = W → (w2.cell? ⟨p.x, 4, none⟩ = some (.slice (some ⟨p.g, 0, none⟩) p.n p.n) ∧ (∃ u, w2.cell? ⟨p.g, q * 3, none⟩ = some u) ∧ (∃ u, w2.cell? ⟨p.g, q * 3 + 1, none⟩ = some u) ∧ (∃ u, w2.cell? ⟨p.g, q * 3 + 2, none⟩ = some u) ∧ (∀ j, w2.frozen? ⟨p.g, j, none⟩ = false) ∧ W.cell? ⟨p.x, 2, none⟩ = some (.int .i64 (c : Int)) ∧ W.frozen? ⟨p.x, 2, none⟩ = false ∧ Io (W.setCell ⟨p.x, 2, none⟩ (.int .i64 ((c + 1 : Nat) : Int))) p (ins M (k, v)) true ∧ Kept w (W.setCell ⟨p.x, 2, none⟩ (.int .i64 ((c + 1 : Nat) : Int))) p.own)) := by
        rintro w2 hg W rfl
        have hI2 := hI.far (Kept.new hg (fun _ => False)) (fun e => e) (fun e => e)
        obtain ⟨-, -, -, -, c4⟩ := hI2.at_.cells
        obtain ⟨s1, s2, s3⟩ := hI2.at_.slot hF.lt
        obtain ⟨r1, r2⟩ := hI2.at_.put hF.lt (some (k, v))
        obtain ⟨-, -, t2, -, -⟩ := r1.cells
        have r3 := r1.count (c + 1)
        refine ⟨c4, ⟨_, s1⟩, ⟨_, s2⟩, ⟨_, s3⟩, fun j => free_row hI2.at_.row j, by rw [hc]; exact t2, free_row r1.head 2, ⟨_, S.set q (some (k, v)), { at_ := ?_, inv := hI.inv.put v hF (by have := hI.sz.le; have := hI.full; omega), sz := hI.sz, m1 := hI.m1, m2 := hI.m2, full := by rw [ins_length]; have := hI.full; omega, st := hI.st, ids := fun y hy => ?_ }, by simp⟩, ?_⟩
        · rw [ins_length, ← hc]; exact r3
        · rcases ins_mem.1 hy with rfl | hy
          · exact HB.out
          · exact hI.ids y hy
        · exact (((hK.mono (fun i _ e => Or.inl e)).trans (Kept.new hg p.own) (fun _ _ e => e)).trans r2 (fun i _ e => .inr e)).trans (kept_setCell _ p.x 2 _) (fun i _ e => .inl e)
      have hq := hF.lt
      rw [← hc] at c2 q1 q2
      clear hI hK hF hm hc
      generalize p.m = m at *
      go_wp2
      go_quiet (fail)
      generalize hw2 : w1.drewN _ = w2
      obtain ⟨c4, ⟨u1, s1⟩, ⟨u2, s2⟩, ⟨u3, s3⟩, fz, t2, f2, H2⟩ := H1.out w2 (by rw [← hw2]; exact grown_drewN _ _ _) _ rfl
      have HH := hide H2
      clear hw2 c1 c2 H1 H2
      generalize p.n = n at *
      generalize hW : ((w2.setCell ⟨p.g, q * 3, none⟩ (.bool true)).setCell ⟨p.g, q * 3 + 1, none⟩ (.int .u32 (k : Int))).setCell ⟨p.g, q * 3 + 2, none⟩ (.int .i64 v) = W at *
      go_wp2
      go_ret
      exact ⟨rfl, HH.out⟩
end
end Go.Proofs.Ytoocaioilpgmeaa
