/- Rows of ints that a call has made; the contract of some. -/
import Derived.Test.YtomoclicbjkpoabDoorCg
import Derived.Laws.AppendOwnNone
namespace Go.Proofs.YtomoclicbjkpoabDoor
open Go.RowKit Cx
attribute [local go_sem ↓] Go.wp_at_zero Go.wp_at_succ

theorem Tryd.info3 : (Tryd.prog.info? 3).map (fun i => (i.zero, i.size, i.bytes)) = some (some (.int .i64 0), 1, 8) := by kernel_rfl
theorem wpList_append_at {w : World} {ops : Array Oper} {rest : List Oper} {o : Oper} {a : Act} {Q : Exit → Act → World → Prop} (hgd : o.guard = none) (s x : Operand)
    (ho : o.op = .call { callee := .builtin .append, args := #[s, x], argTypes := #[23, 23] }) (base : Nat) (v : Value) (n : Nat) (xs : List Value) (hs : a.eval s = v) (hown : w.ownsRow base 3 1 v n xs)
    (ao : Option Addr) (m c : Nat) (ys : List Int) (hx : a.eval x = .slice ao m c) (hm : ys.length = m) (hat : At w ao ys) (hnil : ao = none → m = 0 ∧ c = 0)
    (hbytes : n + m ≤ 17592186044416) (hbase : base ≤ w.heap.size)
    (h : ∀ v' w', w'.ownsRow base 3 1 v' (n + m) (xs ++ ys.map (Value.int .i64)) → w.grownBy w' v.ownBlock → wpList Tryd.prog ops Q rest (a.put o.dst v') w') : wpList Tryd.prog ops Q (o :: rest) a w := by
  obtain ⟨i0, hi, hz0, hz1, hz2⟩ := info_parts Tryd.info3
  cases ao with
  | none =>
    obtain ⟨rfl, rfl⟩ := hnil rfl
    refine wpList_append_own_none hgd s x 23 ho base 3 i0 1 Tryd.underlying23 hi v n xs hs hown hx (h v w ?_ (grown_refl w _))
    have : ys = [] := List.eq_nil_of_length_eq_zero hm
    subst this
    simpa using hown
  | some ad =>
    refine wpList_append_own _ hgd s x 23 ho base 3 i0 (.int .i64 0) 1 8 Tryd.underlying23 hi hz0 hz1 hz2 rfl (by decide) v n xs hs hown ad m c (ys.map (Value.int .i64)) hx (by simp [hm]) ?_ ?_ (by unfold maxLen; omega) (by omega) hbase (fun v' w' h1 h2 _ => h v' w' h1 h2)
    · intro j u hu
      rw [List.getElem?_map] at hu
      cases hj : ys[j]? with
      | none => simp [hj] at hu
      | some y =>
        simp [hj] at hu
        obtain ⟨a', ha', hc'⟩ := hat j y hj
        cases ha'
        rw [← hu]; exact hc'
    · intro u hu; rw [List.mem_map] at hu; obtain ⟨y, _, rfl⟩ := hu; rfl
theorem own_at {w : World} {base n : Nat} {v : Value} {xs : List Int} (h : w.ownsRow base 3 1 v n (xs.map (Value.int .i64))) :
    ∃ ao cap, v = .slice ao n cap ∧ xs.length = n ∧ n ≤ cap ∧ cap ≤ maxLen ∧ At w ao xs ∧ (ao = none → n = 0 ∧ cap = 0) ∧ (∀ a, ao = some a → base ≤ a.block ∧ a.block < w.heap.size ∧ ∃ c, w.heap[a.block]? = some (.cells c 3 (0, 0))) := by
  obtain ⟨hl, h⟩ := h
  simp at hl
  rcases h with ⟨rfl, rfl⟩ | ⟨g, cap, cur, rfl, hb, hg, hn, hm, hs, ht⟩
  · have : xs = [] := List.eq_nil_of_length_eq_zero hl
    subst this
    exact ⟨none, 0, rfl, rfl, Nat.le_refl _, Nat.zero_le _, At.nil _ _, fun _ => ⟨rfl, rfl⟩, fun a e => by cases e⟩
  · refine ⟨some ⟨g, 0, none⟩, cap, rfl, hl, hn, hm, ?_, (fun e => by cases e), fun a e => by cases e; exact ⟨hb, row_lt hg, cur, hg⟩⟩
    intro j u hu
    refine ⟨_, rfl, ?_⟩
    rw [Addr.add_lit, Nat.zero_add, cell_of_row w g j cur 3 (0, 0) hg]
    have h1 : (cur.toList.take (n * 1))[j]? = some (Value.int .i64 u) := by rw [ht, List.getElem?_map, hu]; rfl
    rw [List.getElem?_take] at h1
    split at h1
    · simpa using h1
    · cases h1
theorem own_kept {w w' : World} {base n k : Nat} {v : Value} {xs : List Value} {c : Array Value} {t : TypeId} {fr : Nat × Nat} (h : w.ownsRow base 3 1 v n xs) (hg : w.grownBy w' (some k)) (hk : w.heap[k]? = some (.cells c t fr)) (hne : t ≠ 3) : w'.ownsRow base 3 1 v n xs := by
  obtain ⟨hl, h⟩ := h
  refine ⟨hl, ?_⟩
  rcases h with h | ⟨g, cap, cur, rfl, hb, hgc, hr⟩
  · exact Or.inl h
  · refine Or.inr ⟨g, cap, cur, rfl, hb, heap_kept hgc hg ?_, hr⟩
    intro e
    cases e
    rw [hk] at hgc
    cases hgc
    exact hne rfl
theorem own_grown {w w' : World} {base n : Nat} {v : Value} {xs : List Value} (h : w.ownsRow base 3 1 v n xs) (hg : w.grownBy w' none) : w'.ownsRow base 3 1 v n xs := by
  obtain ⟨hl, h⟩ := h
  refine ⟨hl, ?_⟩
  rcases h with h | ⟨g, cap, cur, rfl, hb, hgc, hr⟩
  · exact Or.inl h
  · exact Or.inr ⟨g, cap, cur, rfl, hb, heap_kept hgc hg (by simp), hr⟩

theorem rise_more {W W' : Int} (h : W ≤ W') {xs : List Int} : ∀ {l : Int}, rise W l xs → rise W' l xs := by
  induction xs with
  | nil => intro l _; trivial
  | cons x t ih => intro l h1; exact ⟨h1.1, by have := h1.2.1; omega, ih h1.2.2⟩
theorem last_lt {W l : Int} {xs : List Int} (h : rise W l xs) (hl : l < W) : xs.getLastD l < W := by
  cases hx : xs.getLast? with
  | none => rw [List.getLastD_eq_getLast?, hx]; exact hl
  | some y =>
    rw [List.getLastD_eq_getLast?, hx]
    exact (rise_mem h y (List.mem_of_getLast? hx)).2
theorem cb_own {w : World} {base n : Nat} {v : Value} {L : List Int} (h : w.ownsRow base 3 1 v n (L.map (Value.int .i64))) (hn : n ≤ 17592186044000) : ∃ ao cap, v = .slice ao n cap ∧ CbIn w ao n cap L ∧ ∀ a, ao = some a → base ≤ a.block := by
  obtain ⟨ao, cap, rfl, h1, h2, h3, h4, h5, h6⟩ := own_at h
  exact ⟨ao, cap, rfl, ⟨h4, h1, h5, h2, h3, hn⟩, fun a e => (h6 a e).1⟩
theorem at_new1 (w : World) (x : Int) : At (w.alloc (.cells #[.int .i64 x] 3)) (some ⟨w.heap.size, 0, none⟩) [x] := by
  have h := heap_alloc_new w (.cells #[.int .i64 x] 3)
  intro j u hu
  refine ⟨_, rfl, ?_⟩
  rw [Addr.add_lit, Nat.zero_add, cell_row (l := [.int .i64 x]) h]
  cases j with
  | zero => simp at hu; subst hu; rfl
  | succ k => simp at hu

theorem set3 {w : World} {g : Nat} {u v x : Value} {t : TypeId} (h : w.heap[g]? = some (.cells #[u, v, x] t)) (u' v' x' : Value) :
    (((w.setCell ⟨g, 0, none⟩ u').setCell ⟨g, 1, none⟩ v').setCell ⟨g, 2, none⟩ x').heap[g]? = some (.cells #[u', v', x'] t) ∧ w.grownBy (((w.setCell ⟨g, 0, none⟩ u').setCell ⟨g, 1, none⟩ v').setCell ⟨g, 2, none⟩ x') (some g) := by
  refine ⟨?_, grown_trans (grown_trans (grown_setCell _ _ _ _) (grown_setCell _ _ _ _)) (grown_setCell _ _ _ _)⟩
  exact row_setCell (l := [u', v', x]) (row_setCell (l := [u', v, x]) (row_setCell (l := [u, v, x]) h 0 u') 1 v') 2 x'
/-- A cabin that the call made, of R rows, W wide. -/
def Made (w' : World) (e : Ending) (R W : Nat) : Prop := ∃ (L : List Int) (ao : Option Addr) (n cap : Nat), e = .returned (cbV R W (.slice ao n cap)) ∧ CbIn w' ao n cap L ∧ Ok R W L
set_option maxHeartbeats 1000000 in
set_option maxRecDepth 100000 in
theorem some_any (x y b : Int) (w : World) :
    Calls Tryd.prog 5 #[.int .i64 x, .int .i64 y, .int .i64 b] w fun e w' => Made w' e ((x % 64).toNat + 1) ((y % 16).toNat + 1) ∧ w.grownBy w' none := by
  have P1 := hide (pick_nat x 64 (by omega) (by omega))
  have P2 := hide (pick_nat y 16 (by omega) (by omega))
  have hx : (x % ((64 : Nat) : Int)).toNat < 64 := by omega
  have hy : (y % ((16 : Nat) : Int)).toNat < 16 := by omega
  have e1 : (x % 64).toNat = (x % ((64 : Nat) : Int)).toNat := rfl
  have e2 : (y % 16).toNat = (y % ((16 : Nat) : Int)).toNat := rfl
  rw [e1, e2]
  clear e1 e2
  generalize (x % ((64 : Nat) : Int)).toNat = r at *
  generalize (y % ((16 : Nat) : Int)).toNat = q at *
  have hwr : IntKind.i64.wrap (1 + (r : Int)) = 1 + (r : Int) := IntWalk.i64_in _ (by omega)
  have hwq : IntKind.i64.wrap (1 + (q : Int)) = 1 + (q : Int) := IntWalk.i64_in _ (by omega)
  go_enter Tryd.func5, Tryd.ntmps5
  go_wp2_with fail
  refine (P1.out _).mono ?_
  rintro e w1 ⟨rfl, rfl⟩
  go_wp2_with fail
  refine (P2.out _).mono ?_
  rintro e w1 ⟨rfl, rfl⟩
  go_wp2
  go_loopg [8] q (fun k i wr => ∃ (j : Nat) (L : List Int) (v : Value), k + j = q + 1 ∧ 1 ≤ j ∧ i = .int .i64 (j : Int) ∧ wr.heap[w.heap.size]? = some (.cells #[.int .i64 0, .int .i64 0, .slice none 0 0] 25 (0, 0)) ∧ wr.heap[w.heap.size + 1]? = some (.cells #[.int .i64 (1 + (r : Int)), .int .i64 (1 + (q : Int)), v] 25 (0, 0)) ∧ wr.ownsRow (w.heap.size + 2) 3 1 v L.length (L.map (Value.int .i64)) ∧ rise (j : Int) 0 L ∧ L.length < j ∧ w.grownBy wr none)
  case atStart =>
    obtain ⟨h1, h2, h3⟩ := alloc3 w (.cells #[.int .i64 0, .int .i64 0, .slice none 0 0] 25) (.cells #[.int .i64 (1 + (r : Int)), .int .i64 (1 + (q : Int)), .slice none 0 0] 25) (.cells #[] 25)
    refine ⟨1, [], .slice none 0 0, by omega, by omega, rfl, ?_, ?_, World.ownsRow_nil _ _ _ _, trivial, by simp, grown2 w _ _⟩
    · exact heap_kept (heap_alloc_new w _) (grown_alloc _ _) (by simp)
    · have := heap_alloc_new (w.alloc (.cells #[.int .i64 0, .int .i64 0, .slice none 0 0] 25)) (.cells #[.int .i64 (1 + (r : Int)), .int .i64 (1 + (q : Int)), .slice none 0 0] 25)
      rwa [alloc_size] at this
  case round =>
    obtain ⟨j, L, v, hkj, hj1, rfl, hb0, hb1, hown, hr, hlen, hg⟩ := hrel
    obtain ⟨c0, c1, c2⟩ := box3 hb1
    by_cases hk : 0 < gk
    · have hlt : (j : Int) < 1 + (q : Int) := by omega
      have h0 : (0 : Int) ≤ (j : Int) := by omega
      have HB := hide (And.intro hb0 (And.intro hb1 (And.intro hown (And.intro hr hg))))
      clear hb0 hb1 hown hr hg
      by_cases hbit : (bits .and .i64 (b / 2 ^ j) 1 == 1) = true
      · go_wp2_with (at_builtin; refine wpList_append_at rfl (.tmp 29) (.tmp 31) rfl (w.heap.size + 2) v L.length (L.map (Value.int .i64)) rfl (HB.out.2.2.1.alloc _) (some ⟨_, 0, none⟩) 1 1 [(j : Int)] rfl rfl (at_new1 _ _) (fun e => by cases e) (by omega) ?_ ?_)
        · have h1 := row_lt HB.out.2.1
          simp; omega
        · intro v' w' hown' hg'
          obtain ⟨hb0, hb1, hown, hr, hg⟩ := HB.out
          have hne : ∀ k, k < w.heap.size + 2 → v.ownBlock ≠ some k := fun k hk e => by
            have := (hown.lt k e).1; omega
          have k0 := heap_kept (heap_kept hb0 (grown_alloc wr (.cells #[.int .i64 (j : Int)] 3)) (by simp)) hg' (fun e => hne w.heap.size (by omega) e.symm)
          have k1 := heap_kept (heap_kept hb1 (grown_alloc wr (.cells #[.int .i64 (j : Int)] 3)) (by simp)) hg' (fun e => hne (w.heap.size + 1) (by omega) e.symm)
          obtain ⟨d0, d1, d2⟩ := box3 k1
          have f2 := free_row k1 2
          have hv' : v'.oneCell' = true := by obtain ⟨ao', cap', rfl, _⟩ := own_at (xs := L ++ [(j : Int)]) (by simpa using hown'); rfl
          have HK := hide (And.intro k0 (And.intro k1 (And.intro hown' (grown_then (grown_trans hg (grown_alloc _ _)) hg' (fun k e => Or.inl (by have := (hown.lt k e).1; omega))))))
          obtain ⟨ao', cap', rfl, _⟩ := own_at (xs := L ++ [(j : Int)]) (by simpa using hown')
          clear hb0 hb1 hown hr hg hg' hown' k0 k1 hne c0 c1 c2
          go_wp2
          go_roundg (gk - 1)
          case measure => omega
          case rel =>
            obtain ⟨k0, k1, hown', hg'⟩ := HK.out
            have hs := grown_setCell w' (w.heap.size + 1) 2 (.slice ao' (L.length + 1) cap')
            refine ⟨j + 1, L ++ [(j : Int)], .slice ao' (L.length + 1) cap', by omega, by omega, by go_num, ?_, ?_, ?_, ?_, by simp; omega, ?_⟩
            · exact heap_kept k0 hs (by simp)
            · exact row_setCell (l := [.int .i64 (1 + (r : Int)), .int .i64 (1 + (q : Int)), v]) k1 2 _
            · have := own_kept hown' hs k1 (by decide)
              simpa using this
            · rw [rise_snoc]
              have hr := HB.out.2.2.2.1
              exact ⟨rise_more (by omega) hr, last_lt hr (by omega), by omega⟩
            · exact grown_then hg' hs (fun k e => by cases e; exact Or.inl (by omega))
      · have hbit2 : (bits .and .i64 (b / 2 ^ j) 1 == 1) = false := by simpa using hbit
        clear hbit
        go_wp2
        go_roundg (gk - 1)
        case measure => omega
        case rel =>
          obtain ⟨hb0, hb1, hown, hr, hg⟩ := HB.out
          exact ⟨j + 1, L, v, by omega, by omega, by go_num, hb0, hb1, hown, rise_more (by omega) hr, by omega, hg⟩
    · have hj : (j : Int) = 1 + (q : Int) := by omega
      obtain ⟨ao', cap', rfl, hl, hbs⟩ := cb_own hown (by omega)
      have hnl : ¬ (j : Int) < 1 + (q : Int) := by omega
      have HB := hide (And.intro hb0 (And.intro hb1 (And.intro hl (And.intro hr (And.intro hg (And.intro hj hbs))))))
      obtain ⟨d0, d1, d2⟩ := box3 hb0
      have f0 := free_row hb0 0
      have f1 := free_row hb0 1
      have f2 := free_row hb0 2
      clear hb0 hb1 hl hr hg hown hj hbs
      go_wp2
      obtain ⟨hb0, hb1, hl, hr, hg, hj, hbs⟩ := HB.out
      obtain ⟨hs1, hs2⟩ := set3 hb0 (.int .i64 (1 + (r : Int))) (.int .i64 (1 + (q : Int))) (.slice ao' L.length cap')
      refine bodyPost_ret (results_cell_row rfl _ _ w.heap.size 25 #[.int .i64 (1 + (r : Int)), .int .i64 (1 + (q : Int)), .slice ao' L.length cap'] (0, 0) _ rfl hs1 Tryd.underlying25 rfl (by kernel_rfl)) rfl ⟨⟨L, ao', L.length, cap', ?_, ?_, ?_⟩, ?_⟩
      · unfold cbV
        rw [show ((r + 1 : Nat) : Int) = 1 + (r : Int) by omega, show ((q + 1 : Nat) : Int) = 1 + (q : Int) by omega]
      · exact hl.kept hs2 (fun a e h => by have h1 := hbs a e; simp at h; omega)
      · refine ⟨by omega, by omega, by omega, by omega, ?_⟩
        rw [show ((q + 1 : Nat) : Int) = (j : Int) by omega]; exact hr
      · exact grown_then hg hs2 (fun k e => by cases e; exact Or.inl (Nat.le_refl _))
end Go.Proofs.YtomoclicbjkpoabDoor
