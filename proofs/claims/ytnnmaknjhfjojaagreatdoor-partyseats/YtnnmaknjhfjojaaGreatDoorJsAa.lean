/- Texts joined: Qf, Qg, Qh, L0. -/
import Derived.Test.YtnnmaknjhfjojaaGreatDoorJrAl
import Derived.WalkKit
import Derived.WalkSpells
import Derived.WalkLawsBesides
import Derived.Laws.CopyOwn
import Derived.Laws.Bits64b
import Derived.Laws.Bits64
import Derived.Deep.MidRow
import Derived.Test.YtnnmaknjhfjojaaGreatDoorChecked
import Derived.Deep.LoopGhost
import Derived.Deep.RegionHeld3
import Derived.Deep.DrawnRows
import Derived.Deep.QuietTactic
import Derived.Deep.RegionWith
import Derived.BigQuiet
import Derived.Deep.OwnRows
import Derived.Laws.AppendOwnNone
import Derived.Laws.BitsAllLaws
import Derived.Laws.OwnMore
import Derived.ArgAppend
/- The document's next run; runs that are used up, left out. -/
namespace Go.Proofs.YtnnmaknjhfjojaaGreatDoor
open Go.RowKit Cx Pn
attribute [local go_sem ↓] Go.wp_at_zero Go.wp_at_succ

/-- The next run among the first k. -/
def Bq (Q : List (Nat × Nat)) (n i k : Nat) : Prop :=
  ∃ r, Q[i]? = some r ∧ i < k ∧ ((n ≤ r.2 ∧ ∀ j q, j < k → Q[j]? = some q → n ≤ q.2 → r.2 < q.2 ∨ (r.2 = q.2 ∧ i ≤ j)) ∨ (r.2 < n ∧ ∀ j q, j < k → Q[j]? = some q → q.2 < n ∧ (q.2 < r.2 ∨ (q.2 = r.2 ∧ i ≤ j))))
theorem Bq.one {Q : List (Nat × Nat)} {n : Nat} (h : 0 < Q.length) : Bq Q n 0 1 := by
  have hq := List.getElem?_eq_getElem h
  refine ⟨Q[0], hq, by omega, ?_⟩
  rcases Nat.lt_or_ge Q[0].2 n with g | g
  · refine Or.inr ⟨g, fun j q hj e => ?_⟩
    obtain rfl : j = 0 := by omega
    rw [hq] at e
    obtain rfl := Option.some.inj e
    exact ⟨g, Or.inr ⟨rfl, Nat.le_refl _⟩⟩
  · refine Or.inl ⟨g, fun j q hj e _ => ?_⟩
    obtain rfl : j = 0 := by omega
    rw [hq] at e
    obtain rfl := Option.some.inj e
    exact Or.inr ⟨rfl, Nat.le_refl _⟩
theorem Bq.up {Q : List (Nat × Nat)} {n i k : Nat} {r s : Nat × Nat} (h : Bq Q n i k) (hr : Q[i]? = some r) (hs : Q[k]? = some s) (hd : (n ≤ s.2 ∧ r.2 < n) ∨ (n ≤ s.2 ∧ s.2 < r.2) ∨ (s.2 < n ∧ r.2 < n ∧ r.2 < s.2)) : Bq Q n k (k + 1) := by
  obtain ⟨r', e, hi, h⟩ := h
  rw [hr] at e
  obtain rfl := Option.some.inj e
  refine ⟨s, hs, by omega, ?_⟩
  have hlast : ∀ j q, ¬ j < k → j < k + 1 → Q[j]? = some q → j = k ∧ q = s := fun j q a b c => by
    obtain rfl : j = k := by omega
    rw [hs] at c
    exact ⟨rfl, (Option.some.inj c).symm⟩
  rcases hd with ⟨h1, h2⟩ | ⟨h1, h2⟩ | ⟨h1, h2, h3⟩
  · refine Or.inl ⟨h1, fun j q hj e hn => ?_⟩
    by_cases hjk : j < k
    · rcases h with ⟨a, -⟩ | ⟨-, b⟩
      · omega
      · have := (b j q hjk e).1; omega
    · obtain ⟨rfl, rfl⟩ := hlast j q hjk hj e
      exact Or.inr ⟨rfl, Nat.le_refl _⟩
  · refine Or.inl ⟨h1, fun j q hj e hn => ?_⟩
    by_cases hjk : j < k
    · rcases h with ⟨-, b⟩ | ⟨a, b⟩
      · have := b j q hjk e hn; omega
      · omega
    · obtain ⟨rfl, rfl⟩ := hlast j q hjk hj e
      exact Or.inr ⟨rfl, Nat.le_refl _⟩
  · refine Or.inr ⟨h1, fun j q hj e => ?_⟩
    by_cases hjk : j < k
    · rcases h with ⟨a, -⟩ | ⟨-, b⟩
      · omega
      · have := b j q hjk e; omega
    · obtain ⟨rfl, rfl⟩ := hlast j q hjk hj e
      exact ⟨h1, Or.inr ⟨rfl, Nat.le_refl _⟩⟩
theorem Bq.stay {Q : List (Nat × Nat)} {n i k : Nat} {r s : Nat × Nat} (h : Bq Q n i k) (hr : Q[i]? = some r) (hs : Q[k]? = some s) (hd : (n ≤ s.2 ∧ n ≤ r.2 ∧ r.2 ≤ s.2) ∨ (s.2 < n ∧ n ≤ r.2) ∨ (s.2 < n ∧ r.2 < n ∧ s.2 ≤ r.2)) : Bq Q n i (k + 1) := by
  obtain ⟨r', e, hi, h⟩ := h
  rw [hr] at e
  obtain rfl := Option.some.inj e
  refine ⟨r, hr, by omega, ?_⟩
  have hlast : ∀ j q, ¬ j < k → j < k + 1 → Q[j]? = some q → j = k ∧ q = s := fun j q a b c => by
    obtain rfl : j = k := by omega
    rw [hs] at c
    exact ⟨rfl, (Option.some.inj c).symm⟩
  rcases h with ⟨a, b⟩ | ⟨a, b⟩
  · refine Or.inl ⟨a, fun j q hj e hn => ?_⟩
    by_cases hjk : j < k
    · exact b j q hjk e hn
    · obtain ⟨rfl, rfl⟩ := hlast j q hjk hj e
      omega
  · refine Or.inr ⟨a, fun j q hj e => ?_⟩
    by_cases hjk : j < k
    · exact b j q hjk e
    · obtain ⟨rfl, rfl⟩ := hlast j q hjk hj e
      omega
theorem Bq.all {Q : List (Nat × Nat)} {n i : Nat} (h : Bq Q n i Q.length) (hp : ∀ q ∈ Q, 0 < q.2) : Bs Q n i := by
  obtain ⟨r, e, hi, h⟩ := h
  refine ⟨r, e, hp r (List.mem_of_getElem? e), ?_⟩
  rcases h with ⟨a, b⟩ | ⟨-, b⟩
  · exact Or.inl ⟨a, fun j q e' hn => b j q (List.getElem?_eq_some_iff.1 e').1 e' hn⟩
  · exact Or.inr fun j q e' => b j q (List.getElem?_eq_some_iff.1 e').1 e'

/-- The runs that are not used up. -/
def pz (P : List (Nat × Nat)) : List (Nat × Nat) := P.filter fun p => decide (0 < p.2)
theorem pz_pos {P : List (Nat × Nat)} : ∀ q ∈ pz P, 0 < q.2 := fun q hq => by
  have := (List.mem_filter.1 hq).2
  simpa using this
theorem pz_all {P : List (Nat × Nat)} (h : ∀ q ∈ P, 0 < q.2) : pz P = P := by
  unfold pz
  rw [List.filter_eq_self]
  intro q hq
  simpa using h q hq
theorem pz_split : ∀ {P : List (Nat × Nat)} {a : Nat} {r : Nat × Nat}, (pz P)[a]? = some r → ∃ i, P[i]? = some r ∧ pz (P.take i) = (pz P).take a ∧ pz (P.drop (i + 1)) = (pz P).drop (a + 1)
  | [], a, r, h => by simp [pz] at h
  | p :: t, a, r, h => by
    by_cases hp : 0 < p.2
    · have e : pz (p :: t) = p :: pz t := by unfold pz; rw [List.filter_cons_of_pos (by simpa using hp)]
      rw [e] at h ⊢
      cases a with
      | zero =>
        refine ⟨0, ?_, by simp [pz], by simp⟩
        simpa using h
      | succ a =>
        rw [List.getElem?_cons_succ] at h
        obtain ⟨i, h1, h2, h3⟩ := pz_split h
        refine ⟨i + 1, by rw [List.getElem?_cons_succ]; exact h1, ?_, by rw [List.drop_succ_cons, List.drop_succ_cons]; exact h3⟩
        rw [List.take_succ_cons, List.take_succ_cons]
        show pz (p :: t.take i) = _
        rw [show pz (p :: t.take i) = p :: pz (t.take i) by unfold pz; rw [List.filter_cons_of_pos (by simpa using hp)], h2]
    · have e : pz (p :: t) = pz t := by unfold pz; rw [List.filter_cons_of_neg (by simpa using hp)]
      rw [e] at h ⊢
      obtain ⟨i, h1, h2, h3⟩ := pz_split h
      refine ⟨i + 1, by rw [List.getElem?_cons_succ]; exact h1, ?_, by rw [List.drop_succ_cons]; exact h3⟩
      rw [List.take_succ_cons]
      show pz (p :: t.take i) = _
      rw [show pz (p :: t.take i) = pz (t.take i) by unfold pz; rw [List.filter_cons_of_neg (by simpa using hp)], h2]
theorem pz_app (a b : List (Nat × Nat)) : pz (a ++ b) = pz a ++ pz b := by unfold pz; rw [List.filter_append]
theorem split_at {P : List (Nat × Nat)} {i : Nat} {r : Nat × Nat} (h : P[i]? = some r) : P = P.take i ++ r :: P.drop (i + 1) := by
  obtain ⟨hi, e⟩ := List.getElem?_eq_some_iff.1 h
  rw [← e, ← List.drop_eq_getElem_cons hi, List.take_append_drop]
theorem pz_set {P : List (Nat × Nat)} {i : Nat} {r : Nat × Nat} (h : P[i]? = some r) : pz (P.set i (0, 0)) = pz (P.take i) ++ pz (P.drop (i + 1)) := by
  have hi := (List.getElem?_eq_some_iff.1 h).1
  have e : P.set i (0, 0) = P.take i ++ (0, 0) :: P.drop (i + 1) := by
    rw [List.set_eq_take_append_cons_drop, if_pos hi]
  rw [e, pz_app]
  congr 1
theorem pz_best {P : List (Nat × Nat)} {n a : Nat} (hn : 0 < n) (h : Bs (pz P) n a) : ∃ i r, (pz P)[a]? = some r ∧ P[i]? = some r ∧ Bs P n i ∧ pz (P.set i (0, 0)) = (pz P).take a ++ (pz P).drop (a + 1) := by
  obtain ⟨r, e, hr, hb⟩ := h
  obtain ⟨i, h1, h2, h3⟩ := pz_split e
  refine ⟨i, r, e, h1, ⟨r, h1, hr, ?_⟩, by rw [pz_set h1, h2, h3]⟩
  have hlow : ∀ j q, P[j]? = some q → 0 < q.2 → j < i → ∃ b, b < a ∧ (pz P)[b]? = some q := by
    intro j q hj hq hji
    have hm : q ∈ pz (P.take i) := List.mem_filter.2 ⟨List.mem_of_getElem? (i := j) (by rw [List.getElem?_take, if_pos hji]; exact hj), by simpa using hq⟩
    rw [h2] at hm
    obtain ⟨b, hb⟩ := List.mem_iff_getElem?.1 hm
    rw [List.getElem?_take] at hb
    split at hb
    · exact ⟨b, by assumption, hb⟩
    · cases hb
  have hup : ∀ j q, P[j]? = some q → 0 < q.2 → i < j → ∃ b, a < b ∧ (pz P)[b]? = some q := by
    intro j q hj hq hji
    have hm : q ∈ pz (P.drop (i + 1)) := List.mem_filter.2 ⟨List.mem_of_getElem? (i := j - (i + 1)) (by rw [List.getElem?_drop, show i + 1 + (j - (i + 1)) = j by omega]; exact hj), by simpa using hq⟩
    rw [h3] at hm
    obtain ⟨b, hb⟩ := List.mem_iff_getElem?.1 hm
    rw [List.getElem?_drop] at hb
    exact ⟨a + 1 + b, by omega, hb⟩
  rcases hb with ⟨h4, h5⟩ | h5
  · refine Or.inl ⟨h4, fun j q hj hq => ?_⟩
    rcases Nat.lt_trichotomy j i with g | g | g
    · obtain ⟨b, b1, b2⟩ := hlow j q hj (by omega) g
      have := h5 b q b2 hq; omega
    · subst g
      rw [h1] at hj
      obtain rfl := Option.some.inj hj
      exact Or.inr ⟨rfl, Nat.le_refl _⟩
    · obtain ⟨b, b1, b2⟩ := hup j q hj (by omega) g
      have := h5 b q b2 hq; omega
  · refine Or.inr fun j q hj => ?_
    have hra := h5 a r e
    rcases Nat.eq_zero_or_pos q.2 with z | z
    · omega
    · rcases Nat.lt_trichotomy j i with g | g | g
      · obtain ⟨b, b1, b2⟩ := hlow j q hj z g
        have := h5 b q b2; omega
      · subst g
        rw [h1] at hj
        obtain rfl := Option.some.inj hj
        exact ⟨hra.1, Or.inr ⟨rfl, Nat.le_refl _⟩⟩
      · obtain ⟨b, b1, b2⟩ := hup j q hj z g
        have := h5 b q b2; omega
theorem span_cells {w : World} {base : Nat} {vo : Option Addr} {n vc : Nat} {P : List (Nat × Nat)} (h : w.ownsRow base 64 2 (.slice vo n vc) n (spC P)) (hn : n = P.length) {i : Nat} {p : Nat × Nat} (hp : P[i]? = some p) :
    ∃ g0, vo = some ⟨g0, 0, none⟩ ∧ w.cell? ⟨g0, i * 2, none⟩ = some (.int .i64 (p.1 : Int)) ∧ w.cell? ⟨g0, i * 2 + 1, none⟩ = some (.int .i64 (p.2 : Int)) := by
  subst hn
  have hi := (List.getElem?_eq_some_iff.1 hp).1
  obtain ⟨g0, c0, cur0, e0, hb0, hg0, -, ht0⟩ := span_row h (by omega)
  injection e0 with e1 e2 e3
  subst e1
  obtain ⟨hx, hy⟩ := spC_get hp
  exact ⟨g0, rfl, span_cell hg0 ht0 hx, span_cell hg0 ht0 hy⟩
set_option maxRecDepth 20000 in
set_option maxHeartbeats 4000000 in
theorem rbest_any (base : Nat) (vo : Option Addr) (N vc n : Nat) (Q : List (Nat × Nat)) (w : World) (h : w.ownsRow base 64 2 (.slice vo N vc) N (spC Q)) (hN : N = Q.length) (h0 : 0 < N) (hm : N ≤ 100000) :
    Calls Tryz.prog 39 #[.slice vo N vc, .int .i64 (n : Int)] w fun e w' => ∃ i, e = .returned (.int .i64 ((i : Nat) : Int)) ∧ Bq Q n i N ∧ w.grownBy w' none := by
  have H := hide (And.intro h hN)
  clear h hN
  obtain ⟨n1, hn1⟩ : ∃ n1 : Int, n1 = (n : Int) := ⟨_, rfl⟩
  rw [← hn1]
  have Hn := hide hn1
  clear hn1
  go_enter Tryz.func39, Tryz.ntmps39
  go_wp2
  go_loopg [5, 6] (N - 1) (fun k a i wr => ∃ x j : Nat, k + j = N ∧ 1 ≤ j ∧ i = .int .i64 (j : Int) ∧ a = .int .i64 (x : Int) ∧ Bq Q n x j ∧ w.grownBy wr none)
  case atStart => exact ⟨0, 1, by omega, by omega, rfl, rfl, Bq.one (by rw [← H.out.2]; exact h0), grown_refl _ _⟩
  case round =>
    obtain ⟨x, j, hkj, hj1, rfl, rfl, hbq, hg⟩ := hrel
    have HB := hide (And.intro hbq hg)
    by_cases hk : 0 < gk
    · have hxj : x < j := by obtain ⟨r, -, hx, -⟩ := hbq; exact hx
      obtain ⟨r, hr⟩ : ∃ r, Q[x]? = some r := ⟨_, List.getElem?_eq_getElem (by rw [← H.out.2]; omega)⟩
      obtain ⟨s, hs⟩ : ∃ s, Q[j]? = some s := ⟨_, List.getElem?_eq_getElem (by rw [← H.out.2]; omega)⟩
      obtain ⟨g0, rfl, -, x1⟩ := span_cells (span_grown H.out.1 hg) H.out.2 hr
      obtain ⟨g0', e0, -, x2⟩ := span_cells (span_grown H.out.1 hg) H.out.2 hs
      cases e0
      obtain ⟨C1, hC1⟩ : ∃ C1 : Int, C1 = (r.2 : Int) := ⟨_, rfl⟩
      obtain ⟨C2, hC2⟩ : ∃ C2 : Int, C2 = (s.2 : Int) := ⟨_, rfl⟩
      rw [← hC1] at x1
      rw [← hC2] at x2
      have hn1 := Hn.out
      have a1 : (0 : Int) ≤ (x : Int) := by omega
      have a2 : (x : Int) < (N : Int) := by omega
      have a3 : (0 : Int) ≤ (j : Int) := by omega
      have a4 : (j : Int) < (N : Int) := by omega
      have hd : (decide (n1 ≤ C2) = true ∧ decide (n1 ≤ C1) = false ∧ Bq Q n j (j + 1)) ∨ (decide (n1 ≤ C2) = true ∧ decide (n1 ≤ C1) = true ∧ decide (C2 < C1) = true ∧ Bq Q n j (j + 1)) ∨ (decide (n1 ≤ C2) = true ∧ decide (n1 ≤ C1) = true ∧ decide (C2 < C1) = false ∧ Bq Q n x (j + 1)) ∨
          (decide (n1 ≤ C2) = false ∧ decide (n1 ≤ C1) = true ∧ Bq Q n x (j + 1)) ∨ (decide (n1 ≤ C2) = false ∧ decide (n1 ≤ C1) = false ∧ decide (C1 < C2) = true ∧ Bq Q n j (j + 1)) ∨ (decide (n1 ≤ C2) = false ∧ decide (n1 ≤ C1) = false ∧ decide (C1 < C2) = false ∧ Bq Q n x (j + 1)) := by
        simp only [decide_eq_true_eq, decide_eq_false_iff_not]
        by_cases b1 : n1 ≤ C2
        · by_cases b2 : n1 ≤ C1
          · by_cases b3 : C2 < C1
            · exact Or.inr (Or.inl ⟨b1, b2, b3, hbq.up hr hs (by omega)⟩)
            · exact Or.inr (Or.inr (Or.inl ⟨b1, b2, b3, hbq.stay hr hs (by omega)⟩))
          · exact Or.inl ⟨b1, b2, hbq.up hr hs (by omega)⟩
        · by_cases b2 : n1 ≤ C1
          · exact Or.inr (Or.inr (Or.inr (Or.inl ⟨b1, b2, hbq.stay hr hs (by omega)⟩)))
          · by_cases b3 : C1 < C2
            · exact Or.inr (Or.inr (Or.inr (Or.inr (Or.inl ⟨b1, b2, b3, hbq.up hr hs (by omega)⟩))))
            · exact Or.inr (Or.inr (Or.inr (Or.inr (Or.inr ⟨b1, b2, b3, hbq.stay hr hs (by omega)⟩))))
      clear hbq hg hr hs hC1 hC2 hn1
      rcases hd with ⟨d1, d2, hb⟩ | ⟨d1, d2, d3, hb⟩ | ⟨d1, d2, d3, hb⟩ | ⟨d1, d2, hb⟩ | ⟨d1, d2, d3, hb⟩ | ⟨d1, d2, d3, hb⟩
      all_goals
        have HZ := hide hb
        clear hb
        go_wp2
        go_quiet (fail)
        go_wp2
        go_quiet (fail)
        go_wp2
        go_roundg (gk - 1)
        case measure => omega
        case rel => first | exact ⟨j, j + 1, by omega, by omega, by go_num, rfl, HZ.out, grown_trans HB.out.2 (grown_drewN _ _ _)⟩ | exact ⟨x, j + 1, by omega, by omega, by go_num, rfl, HZ.out, grown_trans HB.out.2 (grown_drewN _ _ _)⟩
    · have hj : j = N := by omega
      subst hj
      clear hbq hg
      go_wp2
      go_ret
      exact ⟨x, rfl, HB.out.1, HB.out.2⟩
end Go.Proofs.YtnnmaknjhfjojaaGreatDoor
/- What a party is told, in all cases; slices of runs, appended. -/
namespace Go.Proofs.YtnnmaknjhfjojaaGreatDoor
open Go.RowKit Cx Pn

theorem spC_one (l : List (Nat × Nat)) : ∀ u ∈ spC l, u.oneCell' = true := by
  intro u hu
  simp only [spC, List.mem_flatMap] at hu
  obtain ⟨p, _, h⟩ := hu
  simp at h
  rcases h with rfl | rfl <;> rfl
theorem wpList_append_spans {w : World} {ops : Array Oper} {rest : List Oper} {o : Oper} {a : Act} {Q : Exit → Act → World → Prop} (hgd : o.guard = none) (s x : Operand)
    (ho : o.op = .call { callee := .builtin .append, args := #[s, x], argTypes := #[33, 33] }) (base : Nat) (v : Value) (l : List (Nat × Nat)) (hs : a.eval s = v) (hown : w.ownsRow base 64 2 v l.length (spC l))
    (ad : Addr) (m c : Nat) (ys : List (Nat × Nat)) (hx : a.eval x = .slice (some ad) m c) (hm : ys.length = m) (hat : ∀ j u, (spC ys)[j]? = some u → w.cell? (ad.add j) = some u)
    (hlen : l.length + m ≤ 100000) (hbase : base ≤ w.heap.size)
    (h : ∀ v' w', w'.ownsRow base 64 2 v' (l ++ ys).length (spC (l ++ ys)) → w.grownBy w' v.ownBlock → wpList Tryz.prog ops Q rest (a.put o.dst v') w') : wpList Tryz.prog ops Q (o :: rest) a w := by
  obtain ⟨i0, hi, hz0, hz1, hz2⟩ := info_parts Tryz.info64
  refine wpList_append_own _ hgd s x 33 ho base 64 i0 (.agg #[.int .i64 0, .int .i64 0]) 2 16 Tryz.underlying33 hi hz0 hz1 hz2 rfl (by decide) v l.length (spC l) hs hown ad m c (spC ys) hx (by rw [spC_len]; omega) hat (spC_one ys) (by unfold maxLen; omega) (by omega) hbase (fun v' w' h1 h2 _ => h v' w' ?_ h2)
  rw [← spC_app] at h1
  rw [List.length_append, hm]
  exact h1
theorem sl_to (a : Addr) (N cap i : Nat) (h : i ≤ cap) (w : World) : (Instr.slice 33 (.slice (some a) N cap) none (some (.int .i64 (i : Int))) none).run Tryz.prog w = .ok (.slice (some a) i cap) w := by
  simp [Instr.slice, run_underlying Tryz.underlying33, Instr.sliceBounds, Instr.sliceBound, asIntOf, h]
  simp [Addr.add]
theorem sl_from (a : Addr) (N cap i : Nat) (h : i ≤ N) (hc : N ≤ cap) (w : World) : (Instr.slice 33 (.slice (some a) N cap) (some (.int .i64 (i : Int))) none none).run Tryz.prog w = .ok (.slice (some (if cap = i then a else a.add (i * 2))) (N - i) (cap - i)) w := by
  obtain ⟨i0, hi, hz0, hz1, hz2⟩ := info_parts Tryz.info64
  have h2 : i ≤ cap := by omega
  simp [Instr.slice, run_underlying Tryz.underlying33, Instr.sliceBounds, Instr.sliceBound, asIntOf, h, sizeOf, typeInfo, hi, hz1, Result.andThen]
  split <;> rfl
/-- A row is kept when one of another kind grows. -/
theorem own_other {w w' : World} {base n sz base' m sz' : Nat} {e e' : TypeId} {v u : Value} {xs ys : List Value} (h : w.ownsRow base e sz v n xs) (hu : w.ownsRow base' e' sz' u m ys) (hg : w.grownBy w' u.ownBlock) (hne : e ≠ e') : w'.ownsRow base e sz v n xs := by
  obtain ⟨hl, h⟩ := h
  refine ⟨hl, ?_⟩
  rcases h with h | ⟨g, cap, cur, rfl, hb, hgc, hr⟩
  · exact Or.inl h
  · refine Or.inr ⟨g, cap, cur, rfl, hb, heap_kept hgc hg ?_, hr⟩
    intro e1
    rcases hu.2 with ⟨rfl, -⟩ | ⟨g', cap', cur', rfl, -, hgc', -⟩
    · cases e1
    · have e2 : g = g' := by simpa [Value.ownBlock] using e1
      subst e2
      rw [hgc] at hgc'
      simp at hgc'
      exact hne hgc'.2

/-- What a party is told: a code and seats. -/
def Told (E : Int) (P : List (Nat × Nat)) (k ec : Int) (xs : List Nat) : Prop :=
  (E ≠ 0 ∧ ec = E ∧ xs = []) ∨ (E = 0 ∧ (k < 1 ∨ 16 < k) ∧ ec = 270 ∧ xs = []) ∨ (E = 0 ∧ 1 ≤ k ∧ k ≤ 16 ∧ ((P.map Prod.snd).sum : Int) < k ∧ ec = 6 ∧ xs = []) ∨
    (E = 0 ∧ ∃ (n : Nat) (ps : List (Nat × Nat)), k = (n : Int) ∧ 1 ≤ n ∧ n ≤ 16 ∧ n ≤ (P.map Prod.snd).sum ∧ ec = 0 ∧ Gr P n ps ∧ xs = srt P ps P.length)
theorem Told.uniq {E k ec ec' : Int} {P : List (Nat × Nat)} {xs xs' : List Nat} (h : Told E P k ec xs) (h' : Told E P k ec' xs') : ec' = ec ∧ xs' = xs := by
  rcases h with ⟨a1, a2, a3⟩ | ⟨a1, a2, a3, a4⟩ | ⟨a1, a2, a3, a4, a5, a6⟩ | ⟨a1, n, ps, a2, a3, a4, a5, a6, a7, a8⟩ <;>
    rcases h' with ⟨b1, b2, b3⟩ | ⟨b1, b2, b3, b4⟩ | ⟨b1, b2, b3, b4, b5, b6⟩ | ⟨b1, n', ps', b2, b3, b4, b5, b6, b7, b8⟩
  · exact ⟨by rw [a2, b2], by rw [a3, b3]⟩
  · exact absurd b1 a1
  · exact absurd b1 a1
  · exact absurd b1 a1
  · exact absurd a1 b1
  · exact ⟨by rw [a3, b3], by rw [a4, b4]⟩
  · omega
  · omega
  · exact absurd a1 b1
  · omega
  · exact ⟨by rw [a5, b5], by rw [a6, b6]⟩
  · omega
  · exact absurd a1 b1
  · omega
  · omega
  · obtain rfl : n = n' := by omega
    obtain rfl := a7.uniq b7
    exact ⟨by rw [a6, b6], by rw [a8, b8]⟩
theorem own_nil (w : World) (base : Nat) : w.ownsRow base 3 1 (.slice none 0 0) ([] : List Nat).length ((ni []).map (Value.int .i64)) := World.ownsRow_nil _ _ _ _
theorem runs_ne (R W : Int) (ao : Option Addr) (n cap : Nat) (L : List Int) (b g B : Nat) (T : List Int) (w : World) (hc : CbIn w ao n cap L) (hs : Bt.SetAt w b g (tkL B T)) (hE : rE R W L B ≠ 0) :
    Calls Tryz.prog 8 #[cbV R W (.slice ao n cap), .pointer (some ⟨b, 0, none⟩)] w fun e w' => e = .returned (.tuple #[.slice none 0 0, .int .i64 (rE R W L B)]) ∧ w.grownBy w' none := by
  have hl := tkL_len B T
  unfold rE at hE ⊢
  by_cases ho : Ok R W L
  · obtain ⟨r, c, rfl, rfl⟩ := ok_nat ho
    rw [if_pos ho] at hE ⊢
    by_cases hb : (B : Int) = (r : Int) * (c : Int)
    · rw [if_pos hb] at hE; exact absurd rfl hE
    · rw [if_neg hb]
      exact runs_err (.slice none 0 0) 3 r c ao n cap (some ⟨b, 0, none⟩) w (by omega) fun w' hg => blocksOf_long r c ao n cap L b g (tkL B T) w' (hc.grown hg) ho (Set_grown hs hg) (by rw [hl]; exact hb)
  · rw [if_neg ho]
    exact runs_err (.slice none 0 0) 2 R W ao n cap (some ⟨b, 0, none⟩) w (by omega) fun w' hg => blocksOf_bad R W ao n cap L _ w' (hc.grown hg) ho
theorem seat_all (R W : Int) (ao : Option Addr) (n cap : Nat) (L : List Int) (b g B : Nat) (T : List Int) (k : Int) (w : World) (hc : CbIn w ao n cap L) (hs : Bt.SetAt w b g (tkL B T)) (hT : Bt.Tab w) :
    Calls Tryz.prog 16 #[cbV R W (.slice ao n cap), .pointer (some ⟨b, 0, none⟩), .int .i64 k] w fun e w' => ∃ v ec xs, e = .returned (.tuple #[v, .int .i64 ec]) ∧ Told (rE R W L B) (rP R W L B T) k ec xs ∧ w'.ownsRow w.heap.size 3 1 v xs.length ((ni xs).map (Value.int .i64)) ∧ w.grownBy w' none := by
  by_cases hE : rE R W L B = 0
  · have hl := tkL_len B T
    have hob : Ok R W L ∧ (B : Int) = R * W := by
      unfold rE at hE
      by_cases ho : Ok R W L
      · rw [if_pos ho] at hE
        by_cases hb : (B : Int) = R * W
        · exact ⟨ho, hb⟩
        · rw [if_neg hb] at hE; omega
      · rw [if_neg ho] at hE; omega
    obtain ⟨ho, hb⟩ := hob
    obtain ⟨r, c, rfl, rfl⟩ := ok_nat ho
    have hBM : B = r * c := by
      have : (B : Int) = ((r * c : Nat) : Int) := by rw [hb]; simp
      omega
    have h := seat_ok r c ao n cap L b g (tkL B T) k w hc ho hs hT (by rw [hl, hBM])
    rw [← hBM] at h
    have hP : rP (r : Int) (c : Int) L B T = dr (fr (tkL B T)) (bg c L) B := by unfold rP; rw [if_pos ⟨ho, hb⟩]; rfl
    rw [hE, hP]
    refine h.mono ?_
    rintro e w' ⟨h1, hg⟩
    rcases h1 with ⟨h, rfl⟩ | ⟨m, rfl, h3, h4, ⟨h5, rfl⟩ | ⟨h5, v, ps, rfl, hgr, hown⟩⟩
    · exact ⟨_, _, [], rfl, Or.inr (Or.inl ⟨rfl, h, rfl, rfl⟩), own_nil _ _, hg⟩
    · exact ⟨_, _, [], rfl, Or.inr (Or.inr (Or.inl ⟨rfl, by omega, by omega, by omega, rfl, rfl⟩)), own_nil _ _, hg⟩
    · refine ⟨_, _, _, rfl, Or.inr (Or.inr (Or.inr ⟨rfl, m, ps, rfl, h3, h4, h5, rfl, hgr, rfl⟩)), ?_, hg⟩
      rw [srt_len (dr_ris _ _ _) hgr]
      exact hown
  · refine (seat_err _ R W k ao n cap (some ⟨b, 0, none⟩) w hE fun w' hg => ?_).mono (fun e w' h => ⟨_, _, [], h.1, Or.inl ⟨hE, rfl, rfl⟩, own_nil _ _, h.2⟩)
    exact runs_ne R W ao n cap L b g B T w' (hc.grown hg) (Set_grown hs hg) hE
end Go.Proofs.YtnnmaknjhfjojaaGreatDoor
/- The document's seats of a party. -/
namespace Go.Proofs.YtnnmaknjhfjojaaGreatDoor
open Go.RowKit Cx Pn
attribute [local go_sem ↓] Go.wp_at_zero Go.wp_at_succ

def sm (P : List (Nat × Nat)) (j : Nat) : Nat := ((P.take j).map Prod.snd).sum
theorem sm_step {P : List (Nat × Nat)} {j : Nat} {p : Nat × Nat} (h : P[j]? = some p) : sm P (j + 1) = sm P j + p.2 := by
  unfold sm
  rw [List.take_add_one, h]
  simp
theorem sm_all (P : List (Nat × Nat)) : sm P P.length = (P.map Prod.snd).sum := by unfold sm; rw [List.take_length]
theorem sm_le (P : List (Nat × Nat)) : ∀ (j m : Nat), sm P j ≤ sm P (j + m)
  | _, 0 => Nat.le_refl _
  | j, m + 1 => by
    have h1 := sm_le P j m
    rw [← Nat.add_assoc]
    rcases Nat.lt_or_ge (j + m) P.length with g | g
    · rw [sm_step (List.getElem?_eq_getElem g)]; omega
    · have : sm P (j + m + 1) = sm P (j + m) := by unfold sm; rw [List.take_of_length_le (by omega), List.take_of_length_le g]
      omega
theorem sm_top (P : List (Nat × Nat)) (j : Nat) (h : j ≤ P.length) : sm P j ≤ (P.map Prod.snd).sum := by
  have := sm_le P j (P.length - j)
  rw [show j + (P.length - j) = P.length by omega, sm_all] at this
  exact this
/-- The seats below j that are among some. -/
def amg (xs : List Nat) (j : Nat) : List Nat := (List.range j).filter fun x => decide (x ∈ xs)
theorem amg_step (xs : List Nat) (j : Nat) : amg xs (j + 1) = if j ∈ xs then amg xs j ++ [j] else amg xs j := by
  unfold amg
  rw [List.range_succ, List.filter_append]
  by_cases h : j ∈ xs <;> simp [h]
theorem amg_len (xs : List Nat) (j : Nat) : (amg xs j).length ≤ j := by
  have := List.length_filter_le (fun x => decide (x ∈ xs)) (List.range j)
  rw [List.length_range] at this
  exact this
theorem amg_all {P ps : List (Nat × Nat)} {n B : Nat} (hr : Ris P) (hg : Gr P n ps) (hb : ∀ (i : Nat) (p : Nat × Nat), P[i]? = some p → p.1 + p.2 ≤ B) : amg (sts P ps) B = srt P ps P.length := by
  refine rise_uniq (List.Pairwise.filter _ List.pairwise_lt_range) (srt_rise hr hg _ (Nat.le_refl _)) fun x => ?_
  unfold amg
  rw [List.mem_filter, List.mem_range]
  constructor
  · rintro ⟨-, h⟩
    exact (mem_sts hg).1 (by simpa using h)
  · intro h
    refine ⟨?_, by simpa using (mem_sts hg).2 h⟩
    obtain ⟨j, h1, h2, h3⟩ := mem_srt.1 h
    have h4 := tk_le hg j
    have h5 := hb j _ (List.getElem?_eq_getElem h1)
    have e : P.getD j (0, 0) = P[j] := by rw [List.getD_eq_getElem?_getD, List.getElem?_eq_getElem h1]; rfl
    rw [e] at h3 h4
    omega
theorem con_ni (xs : List Nat) (x : Nat) : (ni xs).contains (x : Int) = decide (x ∈ xs) := by
  rw [Bool.eq_iff_iff, List.contains_iff_mem, decide_eq_true_eq]
  unfold ni
  rw [List.mem_map]
  constructor
  · rintro ⟨a, h, e⟩
    obtain rfl : a = x := by omega
    exact h
  · intro h
    exact ⟨x, h, rfl⟩

set_option maxRecDepth 40000 in
set_option maxHeartbeats 8000000 in
theorem rseat_all (R W : Int) (ao : Option Addr) (n cap : Nat) (L : List Int) (B : Nat) (to : Option Addr) (m tc : Nat) (T : List Int) (k : Int) (w : World) (hc : CbIn w ao n cap L) (ht : CbIn w to m tc T) (hB : B ≤ 2000) :
    Calls Tryz.prog 17 #[cbV R W (.slice ao n cap), .int .i64 (B : Int), .slice to m tc, .int .i64 k] w fun e w' => ∃ v ec xs, e = .returned (.tuple #[v, .int .i64 ec]) ∧ Told (rE R W L B) (rP R W L B T) k ec xs ∧ w'.ownsRow w.heap.size 3 1 v xs.length ((ni xs).map (Value.int .i64)) ∧ w.grownBy w' none := by
  have hG := grown_alloc w (.cells #[.int .i64 R, .int .i64 W, .slice ao n cap] 24)
  have hX := heap_alloc_new w (.cells #[.int .i64 R, .int .i64 W, .slice ao n cap] 24)
  have hsz := alloc_size w (.cells #[.int .i64 R, .int .i64 W, .slice ao n cap] 24)
  have HR := hide (rruns_all R W ao n cap L B to m tc T _ (hc.grown hG) (ht.grown hG))
  have hpl := rP_len R W L B T
  have hPr : Ris (rP R W L B T) := by
    unfold rP
    split
    · exact dr_ris _ _ _
    · intro i j p q h; simp at h
  have hPb : ∀ (i : Nat) (p : Nat × Nat), (rP R W L B T)[i]? = some p → 1 ≤ p.2 ∧ p.1 + p.2 ≤ B := by
    intro i p h
    unfold rP at h
    split at h
    · exact dr_pos (List.mem_of_getElem? h)
    · simp at h
  have hPs : ((rP R W L B T).map Prod.snd).sum ≤ B := by
    unfold rP
    split
    · rw [dr_sum]
      have h2 := fc_all (tkL B T)
      rw [tkL_len] at h2
      omega
    · simp
  rw [hsz] at HR
  clear hc ht hsz
  generalize rE R W L B = E at *
  generalize rP R W L B T = P at *
  have HP := hide (And.intro hPr hPb)
  have HG := hide (And.intro hG hX)
  clear hPr hPb hG hX
  unfold cbV at *
  obtain ⟨b0, b1, b2⟩ := box3 HG.out.2
  go_enter Tryz.func17, Tryz.ntmps17
  go_wp2_with fail
  refine HR.out.mono ?_
  rintro e w1 ⟨v1, rfl, hown1, hg1⟩
  obtain ⟨N, hN⟩ : ∃ N, N = P.length := ⟨_, rfl⟩
  obtain ⟨vo, vc, rfl⟩ := span_form hown1
  have hsz1 := (grown_trans HG.out.1 hg1).size
  have H1 := hide (And.intro (span_base (base' := w.heap.size) hown1 (by omega)) (grown_trans HG.out.1 hg1))
  rw [← hN] at hpl ⊢
  have HN := hide hN
  clear hown1 hg1 hN b0 b1 b2 HR
  by_cases hE : E = 0
  · subst hE
    by_cases hk1 : k < 1
    · go_wp2
      go_ret2
      exact ⟨_, _, [], rfl, Or.inr (Or.inl ⟨rfl, Or.inl hk1, rfl, rfl⟩), own_nil _ _, H1.out.2⟩
    · by_cases hk2 : 16 < k
      · go_wp2
        go_ret2
        exact ⟨_, _, [], rfl, Or.inr (Or.inl ⟨rfl, Or.inr hk2, rfl, rfl⟩), own_nil _ _, H1.out.2⟩
      · obtain ⟨n0, rfl⟩ : ∃ n0 : Nat, k = (n0 : Int) := ⟨k.toNat, by omega⟩
        go_wp2
        go_loopg [12, 13] N (fun k f i wr => ∃ j : Nat, k + j = N ∧ i = .int .i64 (j : Int) ∧ f = .int .i64 ((sm P j : Nat) : Int) ∧ w1.grownBy wr none)
        case atStart => exact ⟨0, by omega, rfl, rfl, grown_refl _ _⟩
        case round =>
          obtain ⟨j, hkj, rfl, rfl, hgw⟩ := hrel
          have HJ := hide hgw
          by_cases hk : 0 < gk
          · obtain ⟨p, hp⟩ : ∃ p, P[j]? = some p := ⟨_, List.getElem?_eq_getElem (by rw [← HN.out]; omega)⟩
            obtain ⟨g0, rfl, -, x1⟩ := span_cells (span_grown (by have := H1.out.1; rw [← HN.out] at this; exact this) hgw) HN.out hp
            have hst := sm_step hp
            have htop := sm_top P (j + 1) (by have := (List.getElem?_eq_some_iff.1 hp).1; omega)
            have h5 : (0 : Int) ≤ (j : Int) := by omega
            have h6 : (j : Int) < (N : Int) := by omega
            have h7 : (sm P j : Int) + (p.2 : Int) ≤ 2000 := by omega
            have h8 : (0 : Int) ≤ (sm P j : Int) := by omega
            have HST := hide hst
            clear hp hst htop hgw
            generalize p.2 = C at *
            generalize hq : sm P j = q at *
            have HQ := hide hq
            clear hq
            go_wp2
            go_roundg (gk - 1)
            case measure => omega
            case rel => exact ⟨j + 1, by omega, by go_num, by rw [HST.out]; go_num, HJ.out⟩
          · have hj : j = N := by omega
            subst hj
            have hall : sm P j = (P.map Prod.snd).sum := by have := HN.out; rw [this]; exact sm_all P
            rw [hall]
            obtain ⟨Z, hZ⟩ : ∃ Z, Z = (P.map Prod.snd).sum := ⟨_, rfl⟩
            rw [← hZ] at hPs ⊢
            have HZ := hide hZ
            clear hall hZ hgw
            by_cases hzn : (Z : Int) < (n0 : Int)
            · go_wp2
              go_ret2
              exact ⟨_, _, [], rfl, Or.inr (Or.inr (Or.inl ⟨rfl, by omega, by omega, by rw [← HZ.out]; exact hzn, rfl, rfl⟩)), own_nil _ _, grown_trans H1.out.2 HJ.out⟩
            · go_wp2
              have HJ2 := hide (And.intro (span_grown (by have := H1.out.1; rw [← HN.out] at this; exact this) HJ.out) (grown_trans H1.out.2 HJ.out))
              have hszz := HJ2.out.2.size
              obtain ⟨wz, hwz⟩ : ∃ wz, wz = wr := ⟨_, rfl⟩
              rw [← hwz] at HJ2 hszz ⊢
              clear hwz HJ
              have hn0 : n0 ≤ 16 := by omega
              have hn1 : 1 ≤ n0 := by omega
              go_loopg [3, 10, 14] n0 (fun K nv l mi wx => ∃ (P' ps : List (Nat × Nat)), nv = .int .i64 (K : Int) ∧ P'.length = P.length ∧ GrS P n0 P' K ps ∧ (ps.map Prod.snd).sum + K = n0 ∧ K ≤ (P'.map Prod.snd).sum ∧ (∀ (i : Nat) (q : Nat × Nat), P'[i]? = some q → q = (0, 0) ∨ P[i]? = some q) ∧ wx.ownsRow w.heap.size 64 2 l (pz P').length (spC (pz P')) ∧ wx.ownsRow w.heap.size 3 1 mi (sts P ps).length ((ni (sts P ps)).map (Value.int .i64)) ∧ w.grownBy wx none)
              case atStart =>
                have hpz := pz_all (P := P) (fun q hq => by obtain ⟨i, hi⟩ := List.mem_iff_getElem?.1 hq; have := HP.out.2 i q hi; omega)
                refine ⟨P, [], rfl, rfl, GrS.start P n0, by simp, by rw [← HZ.out]; omega, fun i q h => Or.inr h, ?_, own_nil _ _, HJ2.out.2⟩
                rw [hpz, ← HN.out]
                exact HJ2.out.1
              case round =>
                obtain ⟨P', ps, rfl, hl', hgs, hsm, hks, hor, hol, hom, hgw⟩ := hrel
                have HI := hide (And.intro hl' (And.intro hgs (And.intro hsm (And.intro hks (And.intro hor (And.intro hol (And.intro hom hgw)))))))
                obtain ⟨lo, lc, rfl⟩ := span_form hol
                obtain ⟨mo, mc, rfl, -, -, -, -, -, -⟩ := own_at hom
                by_cases hk3 : 0 < gk
                · have hK0 : (0 : Int) < (gk : Int) := by omega
                  have hpl0 : 0 < (pz P').length := by
                    rcases Nat.eq_zero_or_pos (pz P').length with e | e
                    · exfalso
                      have h1 := List.eq_nil_of_length_eq_zero e
                      have h2 : (P'.map Prod.snd).sum = 0 := sum_pos (fun i q hi hq => by
                        rcases Nat.eq_zero_or_pos q.2 with z | z
                        · exact z
                        · have : q ∈ pz P' := List.mem_filter.2 ⟨List.mem_of_getElem? hq, by simpa using z⟩
                          rw [h1] at this; cases this)
                      omega
                    · exact e
                  have hpl1 : (pz P').length ≤ P'.length := List.length_filter_le _ _
                  obtain ⟨NQ, hNQ⟩ : ∃ NQ, NQ = (pz P').length := ⟨_, rfl⟩
                  have hlen1 : NQ ≤ 2000 := by have := HN.out; omega
                  have HNQ := hide hNQ
                  rw [← hNQ] at hpl0 ⊢
                  have hB5 := hide (rbest_any w.heap.size lo NQ lc gk (pz P') wr (by rw [hNQ]; exact hol) hNQ hpl0 (by omega))
                  clear hl' hgs hsm hks hor hol hom hgw hpl1 hNQ
                  go_wp2_with fail
                  refine hB5.out.mono ?_
                  rintro e w5 ⟨a, rfl, hbq, hg5⟩
                  clear hB5
                  rw [HNQ.out] at hbq
                  obtain ⟨i, r, hqa, hpi, hbs, hset⟩ := pz_best hk3 (hbq.all pz_pos)
                  have haN : a < NQ := by rw [HNQ.out]; exact (List.getElem?_eq_some_iff.1 hqa).1
                  have hrb : r.1 + r.2 ≤ 2000 := by
                    rcases HI.out.2.2.2.2.1 i r hpi with e | e
                    · rw [e]; simp
                    · have := HP.out.2 i r e; omega
                  have hr0 : 0 < r.2 := by obtain ⟨r', e1, e2, -⟩ := hbs; rw [hpi] at e1; cases e1; exact e2
                  have hpr : (P.getD i (0, 0)).1 = r.1 := by
                    rcases HI.out.2.2.2.2.1 i r hpi with e | e
                    · rw [e] at hr0; simp at hr0
                    · rw [List.getD_eq_getElem?_getD, e]; rfl
                  have hol5 := span_grown HI.out.2.2.2.2.2.1 hg5
                  rw [← HNQ.out] at hol5
                  obtain ⟨gq, rfl, x0, x1⟩ := span_cells hol5 HNQ.out hqa
                  obtain ⟨F, C⟩ := r
                  simp only at x0 x1 hrb hr0 hpr
                  have HA := hide (And.intro hqa (And.intro hpi (And.intro hbs (And.intro hset (And.intro hpr (And.intro hol5 (And.intro (own_grown HI.out.2.2.2.2.2.2.1 hg5) (grown_trans HI.out.2.2.2.2.2.2.2 hg5))))))))
                  have a0 : (0 : Int) ≤ (a : Int) := by omega
                  have a1 : (a : Int) < (NQ : Int) := by omega
                  have hgk16 : gk ≤ 16 := by have := HI.out.2.2.1; omega
                  clear hbq hqa hpi hbs hset hpr hol5 hg5
                  go_wp2
                  obtain ⟨mm, hmm⟩ : ∃ mm, mm = min C gk := ⟨_, rfl⟩
                  have hmi : min (gk : Int) (C : Int) = (mm : Int) := by omega
                  rw [hmi]
                  clear hmi x0 x1
                  have hmC : mm ≤ C := by omega
                  have hmg : mm ≤ gk := by omega
                  have hm0 : 0 < mm := by omega
                  obtain ⟨K, hK⟩ : ∃ K, K = gk := ⟨_, rfl⟩
                  have HMM := hide hmm
                  have hsl : (sts P ps).length ≤ 16 := by rw [sts_len]; have := HI.out.2.2.1; omega
                  clear hmm
                  go_loopg [14, 17] mm (fun q mi i wi => ∃ x : Nat, q + x = mm ∧ i = .int .i64 (x : Int) ∧ wi.ownsRow w.heap.size 64 2 (.slice (some ⟨gq, 0, none⟩) NQ lc) NQ (spC (pz P')) ∧ wi.ownsRow w.heap.size 3 1 mi ((sts P ps).length + x) ((ni (sts P ps ++ List.range' F x)).map (Value.int .i64)) ∧ w.grownBy wi none)
                  case atStart => exact ⟨0, by omega, rfl, HA.out.2.2.2.2.2.1, by simpa using HA.out.2.2.2.2.2.2.1, HA.out.2.2.2.2.2.2.2⟩
                  case round =>
                    obtain ⟨x, hqx, rfl, hq1, hq2, hq3⟩ := hrel
                    have HV := hide (And.intro hq1 (And.intro hq2 hq3))
                    obtain ⟨mo2, mc2, rfl, -, -, -, -, -, -⟩ := own_at hq2
                    clear hq1 hq2 hq3
                    by_cases hk4 : 0 < gk
                    · obtain ⟨g', e', x0, -⟩ := span_cells HV.out.1 HNQ.out HA.out.1
                      cases e'
                      simp only at x0
                      have hxm : (x : Int) < (mm : Int) := by omega
                      have hwlt := HV.out.2.2.size
                      go_wp2_with (at_builtin; refine wpList_append_at rfl (.tmp 70) (.tmp 78) rfl w.heap.size _ ((sts P ps).length + x) _ rfl (own_grown HV.out.2.1 (grown_alloc wr _)) (some ⟨wr.heap.size, 0, none⟩) 1 1 [(F : Int) + (x : Int)] rfl rfl (at_new1 wr _) (fun e => by cases e) (by omega) ?_ ?_)
                      · simp; omega
                      · intro v' w' hown' hg'
                        have ha := grown_alloc wr (.cells #[.int .i64 ((F : Int) + (x : Int))] 3)
                        have hl2 := own_other (span_grown HV.out.1 ha) (own_grown HV.out.2.1 ha) hg' (by decide)
                        have hlo := fun k (e : _ = some k) => (HV.out.2.1.lt k e).1
                        have hgw' := grown_then (grown_trans HV.out.2.2 ha) hg' (fun k e => Or.inl (hlo _ e))
                        have HZ5 := hide (And.intro hl2 (And.intro hown' hgw'))
                        clear hl2 hown' hgw' hlo ha hg' x0
                        go_wp2
                        go_roundg (gk - 1)
                        case measure => omega
                        case rel =>
                          refine ⟨x + 1, by omega, by go_num, HZ5.out.1, ?_, HZ5.out.2.2⟩
                          have h5 := HZ5.out.2.1
                          rw [List.range'_concat, ← List.append_assoc, ni_app, List.map_append]
                          simpa [ni, Nat.add_assoc] using h5
                    · have hx : x = mm := by omega
                      subst hx
                      have hcap : NQ ≤ lc := by
                        obtain ⟨g7, c7, cur7, e7, -, -, h7, -⟩ := span_row HV.out.1 hpl0
                        injection e7 with e71 e72 e73
                        omega
                      have hst1 : ∀ w', (Instr.slice 33 (.slice (some ⟨gq, 0, none⟩) NQ lc) none (some (.int .i64 (a : Int))) none).run Tryz.prog w' = .ok (.slice (some ⟨gq, 0, none⟩) a lc) w' := sl_to _ NQ lc a (by omega)
                      obtain ⟨ad, had⟩ : ∃ ad : Addr, ad = if lc = a + 1 then ⟨gq, 0, none⟩ else (⟨gq, 0, none⟩ : Addr).add ((a + 1) * 2) := ⟨_, rfl⟩
                      have hst2 : ∀ w', (Instr.slice 33 (.slice (some ⟨gq, 0, none⟩) NQ lc) (some (.int .i64 ((a : Int) + 1))) none none).run Tryz.prog w' = .ok (.slice (some ad) (NQ - (a + 1)) (lc - (a + 1))) w' := by rw [had]; exact sl_from _ NQ lc (a + 1) (by omega) hcap
                      have HAd := hide had
                      clear had
                      have hxx : ¬ ((x : Int) < (x : Int)) := by omega
                      obtain ⟨g8, c8, cur8, e8, -, hg8, -, ht8⟩ := span_row HV.out.1 hpl0
                      injection e8 with e81 e82 e83
                      injection e81 with e81
                      injection e81 with e81
                      subst e81
                      have hcells : ∀ w', wr.grownBy w' none → ∀ j u, (spC (pz P'))[j]? = some u → w'.cell? ⟨gq, j, none⟩ = some u := fun w' hg' j u hu => hg'.cell (span_cell hg8 ht8 hu) (by simp)
                      have hspl : ∀ b, spC (pz P') = spC ((pz P').take b) ++ spC ((pz P').drop b) := fun b => by rw [← spC_app, List.take_append_drop]
                      have htl : ((pz P').take a).length = a := by rw [List.length_take, ← HNQ.out]; omega
                      have hdl : ((pz P').drop (a + 1)).length = NQ - (a + 1) := by rw [List.length_drop, ← HNQ.out]
                      have HCe := hide (And.intro hcells (And.intro hspl (And.intro htl hdl)))
                      have hwlt := HV.out.2.2.size
                      clear hg8 ht8 hcells hspl htl hdl e82 e83
                      go_wp2_with (at_builtin; refine wpList_append_spans rfl (.tmp 83) (.tmp 86) rfl w.heap.size (.slice none 0 0) [] rfl (World.ownsRow_nil _ _ _ _) ⟨gq, 0, none⟩ a lc ((pz P').take a) rfl HCe.out.2.2.1 ?_ (by simp; omega) hwlt ?_)
                      · intro j u hu
                        have h9 : (spC (pz P'))[j]? = some u := by
                          rw [HCe.out.2.1 a, List.getElem?_append_left (List.getElem?_eq_some_iff.1 hu).1]; exact hu
                        have := HCe.out.1 wr (grown_refl _ _) j u h9
                        exact this
                      · intro v' w' hown' hg'
                        have hown' : w'.ownsRow w.heap.size 64 2 v' ((pz P').take a).length (spC ((pz P').take a)) := by rw [List.length_take]; simpa using hown'
                        have hg1' : wr.grownBy w' none := hg'
                        have HW6 := hide (And.intro hown' (And.intro hg1' (own_grown HV.out.2.1 hg1')))
                        have hwlt2 := (grown_trans HV.out.2.2 hg1').size
                        clear hown' hg' hg1'
                        go_wp2_with (at_builtin; refine wpList_append_spans rfl (.tmp 88) (.tmp 92) rfl w.heap.size v' ((pz P').take a) rfl HW6.out.1 ad (NQ - (a + 1)) (lc - (a + 1)) ((pz P').drop (a + 1)) rfl HCe.out.2.2.2 ?_ (by rw [HCe.out.2.2.1]; omega) hwlt2 ?_)
                        · intro j u hu
                          have hlt := (List.getElem?_eq_some_iff.1 hu).1
                          rw [spC_len, HCe.out.2.2.2] at hlt
                          have hne : ¬ lc = a + 1 := by omega
                          have h9 : (spC (pz P'))[(a + 1) * 2 + j]? = some u := by
                            have htl1 : ((pz P').take (a + 1)).length = a + 1 := by rw [List.length_take, ← HNQ.out]; omega
                            rw [HCe.out.2.1 (a + 1), List.getElem?_append_right (by rw [spC_len, htl1]; omega), spC_len, htl1, show (a + 1) * 2 + j - 2 * (a + 1) = j by omega]; exact hu
                          have := HCe.out.1 w' HW6.out.2.1 _ u h9
                          rw [HAd.out, if_neg hne, Addr.add_lit, Addr.add_lit, Nat.zero_add]
                          exact this
                        · intro v9 w9 hown9 hg9
                          have hown9 : w9.ownsRow w.heap.size 64 2 v9 (pz (P'.set i (0, 0))).length (spC (pz (P'.set i (0, 0)))) := by
                            rw [HA.out.2.2.2.1, List.length_append, List.length_take, List.length_drop]; simpa using hown9
                          have hm9 := own_other HW6.out.2.2 HW6.out.1 hg9 (by decide)
                          have hg9' := grown_then (grown_trans HV.out.2.2 HW6.out.2.1) hg9 (fun k e => Or.inl (HW6.out.1.lt k e).1)
                          have HY9 := hide (And.intro hown9 (And.intro hm9 hg9'))
                          clear hown9 hm9 hg9' hg9
                          go_wp2
                          go_roundg (K - x)
                          case measure => omega
                          case rel =>
                            have hmx := HMM.out
                            have hss := sum_set HA.out.2.1
                            simp only at hss
                            refine ⟨P'.set i (0, 0), ps ++ [(i, x)], ?_, by rw [List.length_set]; exact HI.out.1, ?_, ?_, ?_, ?_, HY9.out.1, ?_, HY9.out.2.2⟩
                            · congr 1; omega
                            · have h5 := GrS.step HI.out.2.1 (by omega) HA.out.2.1 HA.out.2.2.1
                              simp only at h5
                              rw [← hK] at hmx h5
                              rw [← hmx] at h5
                              exact h5
                            · have := HI.out.2.2.1
                              simp; omega
                            · have := HI.out.2.2.2.1
                              omega
                            · intro j' q' hj'
                              by_cases hij : i = j'
                              · subst hij
                                rw [List.getElem?_set_self (by have := (List.getElem?_eq_some_iff.1 HA.out.2.1).1; omega)] at hj'
                                exact Or.inl (Option.some.inj hj').symm
                              · rw [List.getElem?_set_ne hij] at hj'
                                exact HI.out.2.2.2.2.1 j' q' hj'
                            · rw [sts_snoc, HA.out.2.2.2.2.1, List.length_append, List.length_range']
                              exact HY9.out.2.1
                · have hK0 : gk = 0 := by omega
                  subst hK0
                  have hgr := hgs.fin
                  have hmiu := fun w' (h : wr.grownBy w' none) => cb_own (own_grown hom h) (by rw [sts_len]; omega)
                  have HGr := hide (And.intro hgr (And.intro hgw hmiu))
                  clear hl' hgs hsm hks hor hol hom hgw hgr hmiu
                  go_wp2
                  obtain ⟨wy, hwy⟩ : ∃ wy, wy = wr := ⟨_, rfl⟩
                  rw [← hwy] at HGr ⊢
                  clear hwy HI
                  go_loopg [19, 20] B (fun q u i wx => ∃ x : Nat, q + x = B ∧ i = .int .i64 (x : Int) ∧ wx.ownsRow wy.heap.size 3 1 u (amg (sts P ps) x).length ((ni (amg (sts P ps) x)).map (Value.int .i64)) ∧ wy.grownBy wx none)
                  case atStart => exact ⟨0, by omega, rfl, own_nil _ _, grown_refl _ _⟩
                  case round =>
                    obtain ⟨x, hqx, rfl, hown, hgx⟩ := hrel
                    have HV := hide (And.intro hown hgx)
                    obtain ⟨uo, uc, rfl, -, -, -, -, -, -⟩ := own_at hown
                    clear hown hgx
                    by_cases hk4 : 0 < gk
                    · obtain ⟨ao9, cap9, e9, hcb9, -⟩ := HGr.out.2.2 wr HV.out.2
                      injection e9 with e91 e92 e93
                      subst e91
                      subst e93
                      have hst := amg_step (sts P ps) x
                      have hle := amg_len (sts P ps) x
                      have hrh := rhas_any mo _ mc (ni (sts P ps)) (x : Int) wr hcb9
                      rw [con_ni] at hrh
                      have HRh := hide hrh
                      have HSt := hide hst
                      have hxB : (x : Int) < (B : Int) := by omega
                      clear e92 hcb9 hrh hst
                      by_cases hmem : x ∈ sts P ps
                      · rw [decide_eq_true hmem] at HRh
                        rw [if_pos hmem] at HSt
                        clear hmem
                        go_wp2_with fail
                        refine HRh.out.mono ?_
                        rintro e w5 ⟨rfl, rfl⟩
                        have hwlt := HV.out.2.size
                        go_wp2_with (at_builtin; refine wpList_append_at rfl (.tmp 102) (.tmp 104) rfl wy.heap.size _ (amg (sts P ps) x).length _ rfl (own_grown HV.out.1 (grown_alloc w5 _)) (some ⟨w5.heap.size, 0, none⟩) 1 1 [(x : Int)] rfl rfl (at_new1 w5 _) (fun e => by cases e) (by omega) ?_ ?_)
                        · simp; omega
                        · intro v' w' hown' hg'
                          have ha := grown_alloc w5 (.cells #[.int .i64 (x : Int)] 3)
                          have hgw' := grown_then (grown_trans HV.out.2 ha) hg' (fun k e => Or.inl (HV.out.1.lt k e).1)
                          have HZ5 := hide (And.intro hown' hgw')
                          clear hown' hgw' ha hg'
                          go_wp2
                          go_roundg (gk - 1)
                          case measure => omega
                          case rel =>
                            refine ⟨x + 1, by omega, by go_num, ?_, HZ5.out.2⟩
                            have h5 := HZ5.out.1
                            rw [HSt.out, ni_app, List.map_append, List.length_append]
                            simpa [ni] using h5
                      · rw [decide_eq_false hmem] at HRh
                        rw [if_neg hmem] at HSt
                        clear hmem
                        go_wp2_with fail
                        refine HRh.out.mono ?_
                        rintro e w5 ⟨rfl, rfl⟩
                        go_wp2
                        go_roundg (gk - 1)
                        case measure => omega
                        case rel => exact ⟨x + 1, by omega, by go_num, by rw [HSt.out]; exact HV.out.1, HV.out.2⟩
                    · have hx : x = B := by omega
                      subst hx
                      go_wp2
                      go_ret2
                      have hamg := amg_all HP.out.1 HGr.out.1 (fun i p h => (HP.out.2 i p h).2)
                      refine ⟨_, _, srt P ps P.length, rfl, Or.inr (Or.inr (Or.inr ⟨rfl, n0, ps, rfl, hn1, hn0, by rw [← HZ.out]; omega, rfl, HGr.out.1, rfl⟩)), ?_, grown_trans HGr.out.2.1 HV.out.2⟩
                      rw [← hamg]
                      exact own_base (base' := w.heap.size) HV.out.1 HGr.out.2.1.size
  · have hE2 : (E == 0) = false := by simpa using hE
    go_wp2
    go_ret2
    exact ⟨_, _, [], rfl, Or.inl ⟨hE, rfl, rfl⟩, own_nil _ _, H1.out.2⟩
end Go.Proofs.YtnnmaknjhfjojaaGreatDoor
/- Rows of bytes, and the marks of places: shared by the texts on lists that lie apart. -/
namespace Go.Proofs.YtnnmaknjhfjojaaGreatDoor.Al
open Go.RowKit

theorem hide {p : Prop} (h : p) : Hid p := h

theorem grown_then {a b c : World} {row row' : Option Nat} (h : a.grownBy b row) (k : b.grownBy c row') (hr : ∀ j, row' = some j → a.heap.size ≤ j ∨ row = some j) : a.grownBy c row :=
  ⟨k.os.trans h.os, k.tape.trans h.tape, k.output.trans h.output, Nat.le_trans h.size k.size, fun i hi hne =>
    (k.block i (Nat.lt_of_lt_of_le hi h.size) (fun e => by
      rcases hr i e.symm with h1 | h1
      · omega
      · exact hne h1.symm)).trans (h.block i hi hne)⟩
theorem grown_trans {a b c : World} {row : Option Nat} (h : a.grownBy b row) (k : b.grownBy c row) : a.grownBy c row := grown_then h k (fun _ e => Or.inr e)
theorem grown_refl (w : World) (row : Option Nat) : w.grownBy w row := ⟨rfl, rfl, rfl, Nat.le_refl _, fun _ _ _ => rfl⟩
theorem grown_drew (w : World) (row : Option Nat) : w.grownBy w.drew row := ⟨rfl, rfl, rfl, Nat.le_refl _, fun _ _ _ => rfl⟩
theorem grown_none {a b : World} (h : a.grownBy b none) (row : Option Nat) : a.grownBy b row := grown_then (grown_refl a row) h (fun _ e => by cases e)
theorem grown_setCell (w : World) (g j : Nat) (u : Value) : w.grownBy (w.setCell ⟨g, j, none⟩ u) (some g) :=
  ⟨rfl, rfl, rfl, by simp [World.setCell], fun k _ hne => Below.heap_setCell _ _ _ _ (by intro e; exact hne (by simp [e]))⟩
theorem grown_below {a b : World} (h : a.grownBy b none) : Below a.heap.size a b := ⟨h.os, h.tape, h.output, h.size, fun k hk => h.block k hk (fun e => by cases e)⟩
theorem below_grown {a b : World} (h : Below a.heap.size a b) : a.grownBy b none := ⟨h.os, h.tape, h.output, h.size, fun k hk _ => h.block k hk⟩

theorem cell_row {w : World} {g : Nat} {l : List Value} {t : TypeId} {fr : Nat × Nat} (h : w.heap[g]? = some (.cells l.toArray t fr)) (j : Nat) : w.cell? ⟨g, j, none⟩ = l[j]? := by
  rw [cell_of_row w g j l.toArray t fr h]; simp
theorem free_row {w : World} {g : Nat} {c : Array Value} {t : TypeId} (h : w.heap[g]? = some (.cells c t (0, 0))) (j : Nat) : w.frozen? ⟨g, j, none⟩ = false := by
  simp [World.frozen?, h]
theorem row_setCell {w : World} {g : Nat} {l : List Value} {t : TypeId} {fr : Nat × Nat} (h : w.heap[g]? = some (.cells l.toArray t fr)) (j : Nat) (u : Value) : (w.setCell ⟨g, j, none⟩ u).heap[g]? = some (.cells (l.set j u).toArray t fr) := by
  simp [World.setCell, Array.getElem?_modify, h]
theorem row_lt {w : World} {g : Nat} {o : Obj} (h : w.heap[g]? = some o) : g < w.heap.size := (Array.getElem?_eq_some_iff.1 h).1


/-- The bytes xs lie where ao leads. -/
def At (w : World) (ao : Option Addr) (xs : List Nat) : Prop := ∀ j u, xs[j]? = some u → ∃ a, ao = some a ∧ w.cell? (a.add j) = some (.int .i64 ((u : Nat) : Int))
theorem addr_add_block (a : Addr) (j : Nat) : (a.add j).block = a.block := by unfold Addr.add; split <;> rfl
theorem At.nil (w : World) (ao : Option Addr) : At w ao [] := fun j u h => by simp at h
theorem At.kept {w w' : World} {ao : Option Addr} {xs : List Nat} {row : Option Nat} (h : At w ao xs) (hg : w.grownBy w' row) (hr : ∀ a, ao = some a → some a.block ≠ row) : At w' ao xs := by
  intro j u hu
  obtain ⟨a, ha, hcell⟩ := h j u hu
  exact ⟨a, ha, hg.cell hcell (by rw [addr_add_block]; exact hr a ha)⟩
theorem At.grown {w w' : World} {ao : Option Addr} {xs : List Nat} (h : At w ao xs) (hg : w.grownBy w' none) : At w' ao xs := h.kept hg (by simp)
/-- They are bytes. -/
def Bytes (xs : List Nat) : Prop := ∀ x ∈ xs, x < 256

theorem Tryz.info3 : (Tryz.prog.info? 3).map (fun i => (i.zero, i.size, i.bytes)) = some (some (.int .i64 0), 1, 8) := by kernel_rfl

/-- Bytes as they lie in cells. -/
def bv (xs : List Nat) : List Value := xs.map fun (x : Nat) => Value.int .i64 (x : Int)
theorem bv_length (xs : List Nat) : (bv xs).length = xs.length := by simp [bv]
theorem bv_append (xs ys : List Nat) : bv (xs ++ ys) = bv xs ++ bv ys := by simp [bv]
theorem bv_get (xs : List Nat) (j u : Nat) (h : xs[j]? = some u) : (bv xs)[j]? = some (.int .i64 (u : Int)) := by simp [bv, h]
theorem bv_set (xs : List Nat) (j u : Nat) : bv (xs.set j u) = (bv xs).set j (.int .i64 (u : Int)) := by simp [bv, List.map_set]
theorem At.take {w : World} {ao : Option Addr} {xs : List Nat} (h : At w ao xs) (j : Nat) : At w ao (xs.take j) := by
  intro i u hu
  rw [List.getElem?_take] at hu
  split at hu
  · exact h i u hu
  · cases hu
theorem at_row {w : World} {A : Nat} {xs : List Nat} {t : TypeId} {fr : Nat × Nat} (h : w.heap[A]? = some (.cells (bv xs).toArray t fr)) : At w (some ⟨A, 0, none⟩) xs := by
  intro j u hu
  refine ⟨_, rfl, ?_⟩
  rw [Addr.add_lit, Nat.zero_add, cell_row h, bv_get xs j u hu]
theorem at_new (w : World) (xs : List Nat) (C : Array Value) (hC : C = (bv xs).toArray) (t : TypeId) : At (w.alloc (.cells C t)) (some ⟨w.heap.size, 0, none⟩) xs := by
  subst hC; exact at_row (heap_alloc_new w _)
/-- append(s, x...), s the call's own, x bytes that lie somewhere (or nil). -/
theorem wpList_append_at {w : World} {ops : Array Oper} {rest : List Oper} {o : Oper} {a : Act} {Q : Exit → Act → World → Prop} (hgd : o.guard = none) (s x : Operand)
    (ho : o.op = .call { callee := .builtin .append, args := #[s, x], argTypes := #[22, 22] }) (base : Nat) (v : Value) (n : Nat) (xs : List Nat) (hs : a.eval s = v) (hown : w.ownsRow base 3 1 v n (bv xs))
    (ao : Option Addr) (m c : Nat) (ys : List Nat) (hx : a.eval x = .slice ao m c) (hm : ys.length = m) (hat : At w ao ys) (hnil : ao = none → m = 0 ∧ c = 0)
    (hbytes : n + m ≤ 17592186044416) (hbase : base ≤ w.heap.size)
    (h : ∀ v' w', w'.ownsRow base 3 1 v' (n + m) (bv (xs ++ ys)) → w.grownBy w' v.ownBlock → wpList Tryz.prog ops Q rest (a.put o.dst v') w') : wpList Tryz.prog ops Q (o :: rest) a w := by
  obtain ⟨i0, hi, hz0, hz1, hz2⟩ := info_parts Tryz.info3
  cases ao with
  | none =>
    obtain ⟨rfl, rfl⟩ := hnil rfl
    refine wpList_append_own_none hgd s x 22 ho base 3 i0 1 Tryz.underlying22 hi v n (bv xs) hs hown hx (h v w ?_ (grown_refl w _))
    have : ys = [] := List.eq_nil_of_length_eq_zero hm
    subst this
    simpa using hown
  | some ad =>
    refine wpList_append_own _ hgd s x 22 ho base 3 i0 (.int .i64 0) 1 8 Tryz.underlying22 hi hz0 hz1 hz2 rfl (by decide) v n (bv xs) hs hown ad m c (bv ys) hx (by simp [bv_length, hm]) ?_ ?_ (by unfold maxLen; omega) (by omega) hbase (fun v' w' h1 h2 _ => h v' w' (by rw [bv_append]; exact h1) h2)
    · intro j u hu
      rw [bv, List.getElem?_map] at hu
      cases hj : ys[j]? with
      | none => simp [hj] at hu
      | some y =>
        simp [hj] at hu
        obtain ⟨a', ha', hc'⟩ := hat j y hj
        cases ha'
        rw [← hu]; exact hc'
    · intro u hu; rw [bv, List.mem_map] at hu; obtain ⟨y, _, rfl⟩ := hu; rfl

/-- An owned row of bytes, as bytes that lie somewhere. -/
theorem own_at {w : World} {base n : Nat} {v : Value} {xs : List Nat} (h : w.ownsRow base 3 1 v n (bv xs)) :
    ∃ ao cap, v = .slice ao n cap ∧ xs.length = n ∧ n ≤ cap ∧ cap ≤ maxLen ∧ At w ao xs ∧ (ao = none → n = 0 ∧ cap = 0) ∧ (∀ a, ao = some a → a = ⟨a.block, 0, none⟩ ∧ base ≤ a.block ∧ a.block < w.heap.size) := by
  obtain ⟨hl, h⟩ := h
  simp [bv_length] at hl
  rcases h with ⟨rfl, rfl⟩ | ⟨g, cap, cur, rfl, hb, hg, hn, hm, hs, ht⟩
  · have : xs = [] := List.eq_nil_of_length_eq_zero hl
    subst this
    exact ⟨none, 0, rfl, rfl, Nat.le_refl _, Nat.zero_le _, At.nil _ _, fun _ => ⟨rfl, rfl⟩, fun a e => by cases e⟩
  · refine ⟨some ⟨g, 0, none⟩, cap, rfl, hl, hn, hm, ?_, (fun e => by cases e), fun a e => by cases e; exact ⟨rfl, hb, row_lt hg⟩⟩
    intro j u hu
    refine ⟨_, rfl, ?_⟩
    rw [Addr.add_lit, Nat.zero_add, cell_of_row w g j cur 3 (0, 0) hg]
    have h1 : (cur.toList.take (n * 1))[j]? = some (Value.int .i64 u) := by rw [ht]; exact bv_get xs j u hu
    rw [List.getElem?_take] at h1
    split at h1
    · simpa using h1
    · cases h1

theorem grown_drewN (w : World) (n : Nat) (row : Option Nat) : w.grownBy (w.drewN n) row := ⟨rfl, rfl, rfl, Nat.le_refl _, fun _ _ _ => rfl⟩
attribute [local go_sem ↓] Go.wp_at_zero Go.wp_at_succ

/-- The mark of a place. -/
def markB (k i : Int) : Int := 1000003 * (k + 7) + i
set_option maxHeartbeats 400000 in
theorem mark_any (k i : Int) (w : World) (_hk0 : 0 ≤ k) (_hk : k ≤ 1000000) (_hi0 : 0 ≤ i) (_hi : i ≤ 1000000000000000000) :
    Calls Tryz.prog 44 #[.int .i64 k, .int .i64 i] w fun e w' => e = .returned (.int .i64 (markB k i)) ∧ w' = w := by
  go_enter Tryz.func44, Tryz.ntmps44
  go_wp2
  go_ret
  exact ⟨rfl, rfl⟩

/-- The first j marks. -/
def mkN (k : Int) (i : Nat) : Nat := (markB k (i : Int)).toNat
theorem mkN_cast (k : Int) (i : Nat) (hk : 0 ≤ k) : markB k (i : Int) = ((mkN k i : Nat) : Int) := by unfold mkN markB; omega
theorem mkN_le (k : Int) (i : Nat) (hk0 : 0 ≤ k) (hk : k ≤ 1000000) (hi : i ≤ 1000000000000000000) : ((mkN k i : Nat) : Int) ≤ 2000000000000000000 := by unfold mkN markB; omega
theorem mkN_wrap (k : Int) (i : Nat) (hk0 : 0 ≤ k) (hk : k ≤ 1000000) (hi : i ≤ 1000000000000000000) : IntKind.u64.wrap ((mkN k i : Nat) : Int) = ((mkN k i : Nat) : Int) := by have := mkN_le k i hk0 hk hi; rw [IntKind.wrap_u64]; omega
def marks (k : Int) (j : Nat) : List Nat := (List.range j).map fun (i : Nat) => mkN k i
theorem marks_length (k : Int) (j : Nat) : (marks k j).length = j := by simp [marks]
theorem marks_succ (k : Int) (j : Nat) : marks k (j + 1) = marks k j ++ [mkN k j] := by simp [marks, List.range_succ]
theorem marks_get (k : Int) (j i : Nat) (h : i < j) : (marks k j)[i]? = some (mkN k i) := by simp [marks, h]
theorem markN_any (k : Int) (i : Nat) (w : World) (hk0 : 0 ≤ k) (hk : k ≤ 1000000) (hi : i ≤ 1000000000000000000) :
    Calls Tryz.prog 44 #[.int .i64 k, .int .i64 (i : Int)] w fun e w' => e = .returned (.int .i64 ((mkN k i : Nat) : Int)) ∧ w' = w := by
  rw [← mkN_cast k i hk0]; exact mark_any k (i : Int) w hk0 hk (by omega) (by omega)

theorem made_zrow (n : Nat) : madeCells #[.int .i64 0] n = (List.replicate n (Value.int .i64 0)).toArray := by
  apply Array.ext'
  rw [toList_madeCells_one]
def zrow (n : Nat) : List Value := List.replicate n (.int .i64 0)
theorem cell_new (w : World) (v : Value) (t : TypeId) : (w.alloc (.cells #[v] t)).cell? ⟨w.heap.size, 0, none⟩ = some v := by
  rw [cell_of_row _ _ 0 #[v] t (0, 0) (heap_alloc_new w _)]; rfl

end Go.Proofs.YtnnmaknjhfjojaaGreatDoor.Al
