/- Texts joined: Pd, Pe, Pf. -/
import Derived.Test.YtnnmaknjhfjojaaGreatDoorJrAd
/- The best run: of those with room the tightest, else the longest. -/
namespace Go.Proofs.YtnnmaknjhfjojaaGreatDoor
open Go.RowKit Cx Pn
attribute [local go_sem ↓] Go.wp_at_zero Go.wp_at_succ

/-- A span as a value; the closures of choose, the second over where left lies. -/
def sp (a c : Nat) : Value := .agg #[.int .i64 (a : Int), .int .i64 (c : Int)]
def fvL : Value := .func (.func 70) #[] #[]
def fvT (lb : Nat) : Value := .func (.func 71) #[] #[.pointer (some ⟨lb, 0, none⟩)]

set_option maxHeartbeats 1000000 in
theorem longest_any (a c a' c' : Nat) (w : World) : Calls Tryz.prog 70 #[sp a c, sp a' c'] w fun e w' => e = .returned (.bool (decide (c' < c))) ∧ w.grownBy w' none := by
  unfold sp
  go_enter Tryz.func70, Tryz.ntmps70
  have hb := heap_alloc_new w (.cells #[.int .i64 (a : Int), .int .i64 (c : Int)] 64)
  have hb1 := heap_kept hb (grown_alloc _ (.cells #[.int .i64 (a' : Int), .int .i64 (c' : Int)] 64)) (by simp)
  have hb2 := heap_alloc_new (w.alloc (.cells #[.int .i64 (a : Int), .int .i64 (c : Int)] 64)) (.cells #[.int .i64 (a' : Int), .int .i64 (c' : Int)] 64)
  rw [alloc_size] at hb2
  obtain ⟨-, x1⟩ := box2c hb1
  obtain ⟨-, y1⟩ := box2c hb2
  clear hb hb1 hb2
  go_wp2
  go_ret
  exact ⟨by simp, grown_trans (grown_alloc _ _) (grown_alloc _ _)⟩

set_option maxHeartbeats 2000000 in
theorem tightest_any (a c a' c' lb n : Nat) (w : World) (hl : w.cell? ⟨lb, 0, none⟩ = some (.int .i64 (n : Int))) : Calls Tryz.prog 71 #[sp a c, sp a' c', .pointer (some ⟨lb, 0, none⟩)] w fun e w' => e = .returned (.bool (decide (n ≤ c ∧ (c' < n ∨ c < c')))) ∧ w.grownBy w' none := by
  unfold sp
  obtain ⟨r, hr⟩ : ∃ r, r = decide (n ≤ c ∧ (c' < n ∨ c < c')) := ⟨_, rfl⟩
  have HR := hide hr
  rw [← hr]
  clear hr
  go_enter Tryz.func71, Tryz.ntmps71
  have hb := heap_alloc_new w (.cells #[.int .i64 (a : Int), .int .i64 (c : Int)] 64)
  have hb1 := heap_kept hb (grown_alloc _ (.cells #[.int .i64 (a' : Int), .int .i64 (c' : Int)] 64)) (by simp)
  have hb2 := heap_alloc_new (w.alloc (.cells #[.int .i64 (a : Int), .int .i64 (c : Int)] 64)) (.cells #[.int .i64 (a' : Int), .int .i64 (c' : Int)] 64)
  rw [alloc_size] at hb2
  obtain ⟨-, x1⟩ := box2c hb1
  obtain ⟨-, y1⟩ := box2c hb2
  have hg2 := grown_trans (grown_alloc w (.cells #[.int .i64 (a : Int), .int .i64 (c : Int)] 64)) (grown_alloc _ (.cells #[.int .i64 (a' : Int), .int .i64 (c' : Int)] 64))
  have hl2 := hg2.cell hl (by simp)
  have HG := hide hg2
  clear hb hb1 hb2 hg2 hl
  by_cases h1 : (n : Int) ≤ (c : Int)
  · by_cases h2 : (c' : Int) < (n : Int)
    · go_wp2
      go_ret
      exact ⟨by rw [HR.out, decide_eq_true (show n ≤ c ∧ (c' < n ∨ c < c') by omega)]; rfl, HG.out⟩
    · by_cases h3 : (c : Int) < (c' : Int)
      · go_wp2
        go_ret
        exact ⟨by rw [HR.out, decide_eq_true (show n ≤ c ∧ (c' < n ∨ c < c') by omega)]; rfl, HG.out⟩
      · go_wp2
        go_ret
        exact ⟨by rw [HR.out, decide_eq_false (show ¬ (n ≤ c ∧ (c' < n ∨ c < c')) by omega)]; rfl, HG.out⟩
  · by_cases h2 : (c' : Int) < (n : Int)
    · go_wp2
      go_ret
      exact ⟨by rw [HR.out, decide_eq_false (show ¬ (n ≤ c ∧ (c' < n ∨ c < c')) by omega)]; rfl, HG.out⟩
    · go_wp2
      go_ret
      exact ⟨by rw [HR.out, decide_eq_false (show ¬ (n ≤ c ∧ (c' < n ∨ c < c')) by omega)]; rfl, HG.out⟩

/-- What seek knows of the first j runs: the tightest with room for n; the longest. -/
def Tg (P : List (Nat × Nat)) (n j : Nat) (p : Int) (bc : Nat) : Prop :=
  (p = -1 ∧ bc = 0 ∧ ∀ i q, i < j → P[i]? = some q → q.2 < n) ∨ ∃ i q, i < j ∧ p = (i : Int) ∧ P[i]? = some q ∧ q.2 = bc ∧ n ≤ bc ∧ ∀ i' q', i' < j → P[i']? = some q' → n ≤ q'.2 → bc < q'.2 ∨ (bc = q'.2 ∧ i ≤ i')
def Lg (P : List (Nat × Nat)) (j : Nat) (p : Int) (bc : Nat) : Prop :=
  (p = -1 ∧ bc = 0 ∧ ∀ i q, i < j → P[i]? = some q → q.2 = 0) ∨ ∃ i q, i < j ∧ p = (i : Int) ∧ P[i]? = some q ∧ q.2 = bc ∧ 0 < bc ∧ ∀ i' q', i' < j → P[i']? = some q' → q'.2 < bc ∨ (q'.2 = bc ∧ i ≤ i')
theorem Tg.step {P : List (Nat × Nat)} {n j bc : Nat} {p : Int} {r : Nat × Nat} (hn : 0 < n) (h : Tg P n j p bc) (hr : P[j]? = some r) :
    (n ≤ r.2 ∧ (bc < n ∨ r.2 < bc) → Tg P n (j + 1) (j : Int) r.2) ∧ (¬ (n ≤ r.2 ∧ (bc < n ∨ r.2 < bc)) → Tg P n (j + 1) p bc) := by
  have hcase : ∀ i q, i < j + 1 → P[i]? = some q → (i < j ∧ P[i]? = some q) ∨ (i = j ∧ q = r) := by
    intro i q hi hq
    rcases Nat.lt_or_ge i j with g | g
    · exact Or.inl ⟨g, hq⟩
    · obtain rfl : i = j := by omega
      rw [hr] at hq
      exact Or.inr ⟨rfl, (Option.some.inj hq).symm⟩
  constructor
  · rintro ⟨h1, h2⟩
    refine Or.inr ⟨j, r, by omega, rfl, hr, rfl, h1, fun i' q' hi hq hn' => ?_⟩
    rcases hcase i' q' hi hq with ⟨a, b⟩ | ⟨rfl, rfl⟩
    · rcases h with ⟨-, -, h⟩ | ⟨i, q, e1, e2, e3, e4, e5, e6⟩
      · have := h i' q' a b; omega
      · have := e6 i' q' a b hn'; omega
    · exact Or.inr ⟨rfl, Nat.le_refl _⟩
  · intro h1
    rcases h with ⟨a1, a2, h⟩ | ⟨i, q, e1, e2, e3, e4, e5, e6⟩
    · refine Or.inl ⟨a1, a2, fun i q hi hq => ?_⟩
      rcases hcase i q hi hq with ⟨a, b⟩ | ⟨rfl, rfl⟩
      · exact h i q a b
      · omega
    · refine Or.inr ⟨i, q, by omega, e2, e3, e4, e5, fun i' q' hi hq hn' => ?_⟩
      rcases hcase i' q' hi hq with ⟨a, b⟩ | ⟨rfl, rfl⟩
      · exact e6 i' q' a b hn'
      · omega
theorem Lg.step {P : List (Nat × Nat)} {j bc : Nat} {p : Int} {r : Nat × Nat} (h : Lg P j p bc) (hr : P[j]? = some r) :
    (bc < r.2 → Lg P (j + 1) (j : Int) r.2) ∧ (¬ bc < r.2 → Lg P (j + 1) p bc) := by
  have hcase : ∀ i q, i < j + 1 → P[i]? = some q → (i < j ∧ P[i]? = some q) ∨ (i = j ∧ q = r) := by
    intro i q hi hq
    rcases Nat.lt_or_ge i j with g | g
    · exact Or.inl ⟨g, hq⟩
    · obtain rfl : i = j := by omega
      rw [hr] at hq
      exact Or.inr ⟨rfl, (Option.some.inj hq).symm⟩
  constructor
  · intro h1
    refine Or.inr ⟨j, r, by omega, rfl, hr, rfl, by omega, fun i' q' hi hq => ?_⟩
    rcases hcase i' q' hi hq with ⟨a, b⟩ | ⟨rfl, rfl⟩
    · rcases h with ⟨-, -, h⟩ | ⟨i, q, e1, e2, e3, e4, e5, e6⟩
      · have := h i' q' a b; omega
      · have := e6 i' q' a b; omega
    · exact Or.inr ⟨rfl, Nat.le_refl _⟩
  · intro h1
    rcases h with ⟨a1, a2, h⟩ | ⟨i, q, e1, e2, e3, e4, e5, e6⟩
    · refine Or.inl ⟨a1, a2, fun i q hi hq => ?_⟩
      rcases hcase i q hi hq with ⟨a, b⟩ | ⟨rfl, rfl⟩
      · exact h i q a b
      · omega
    · refine Or.inr ⟨i, q, by omega, e2, e3, e4, e5, fun i' q' hi hq => ?_⟩
      rcases hcase i' q' hi hq with ⟨a, b⟩ | ⟨rfl, rfl⟩
      · exact e6 i' q' a b
      · omega

/-- The runs as they lie: each span's two cells. -/
def SpIn (w : World) (g : Nat) (P : List (Nat × Nat)) : Prop := ∀ i q, P[i]? = some q → w.cell? ⟨g, i * 2, none⟩ = some (.int .i64 (q.1 : Int)) ∧ w.cell? ⟨g, i * 2 + 1, none⟩ = some (.int .i64 (q.2 : Int))
theorem SpIn.grown {w w' : World} {g : Nat} {P : List (Nat × Nat)} (h : SpIn w g P) (hg : w.grownBy w' none) : SpIn w' g P := fun i q hq => ⟨hg.cell (h i q hq).1 (by simp), hg.cell (h i q hq).2 (by simp)⟩

theorem set2 {w : World} {g : Nat} {u v : Value} {t : TypeId} (h : w.heap[g]? = some (.cells #[u, v] t)) (u' v' : Value) :
    ((w.setCell ⟨g, 0, none⟩ u').setCell ⟨g, 1, none⟩ v').heap[g]? = some (.cells #[u', v'] t) ∧ w.grownBy ((w.setCell ⟨g, 0, none⟩ u').setCell ⟨g, 1, none⟩ v') (some g) := by
  refine ⟨?_, grown_trans (grown_setCell _ _ _ _) (grown_setCell _ _ _ _)⟩
  exact row_setCell (l := [u', v]) (row_setCell (l := [u, v]) h 0 u') 1 v'

set_option maxHeartbeats 2000000 in
theorem seekT_any (g cap n lb : Nat) (P : List (Nat × Nat)) (w : World) (hs : SpIn w g P) (hP : P.length ≤ 100000) (hn : 0 < n) (hl : w.cell? ⟨lb, 0, none⟩ = some (.int .i64 (n : Int))) :
    Calls Tryz.prog 72 #[.slice (some ⟨g, 0, none⟩) P.length cap, fvT lb] w fun e w' => ∃ p bc, e = .returned (.int .i64 p) ∧ Tg P n P.length p bc ∧ w.grownBy w' none := by
  have HS := hide (And.intro hs hn)
  have H := hide (fun a c a' c' w' (hg : w.grownBy w' none) => tightest_any a c a' c' lb n w' (hg.cell hl (by simp)))
  clear hs hl hn
  obtain ⟨N, hN⟩ : ∃ N, N = P.length := ⟨_, rfl⟩
  have HN := hide hN
  rw [← hN] at hP ⊢
  clear hN
  unfold fvT
  go_enter Tryz.func72, Tryz.ntmps72
  go_wp2
  have hg0 := grown_alloc w (.cells #[.int .i64 0, .int .i64 0] 64)
  have hb0 : (w.alloc (.cells #[.int .i64 0, .int .i64 0] 64)).heap[w.heap.size]? = some (.cells #[.int .i64 ((0 : Nat) : Int), .int .i64 ((0 : Nat) : Int)] 64) := heap_alloc_new w _
  go_loopg [5, 12] N (fun k v i wr => ∃ (j ba bc : Nat) (p : Int), k + j = N ∧ i = .int .i64 (j : Int) ∧ v = .int .i64 p ∧ Tg P n j p bc ∧ wr.heap[w.heap.size]? = some (.cells #[.int .i64 (ba : Int), .int .i64 (bc : Int)] 64) ∧ w.grownBy wr none)
  case atStart => exact ⟨0, 0, 0, -1, by omega, rfl, rfl, Or.inl ⟨rfl, rfl, fun i q h => by omega⟩, hb0, hg0⟩
  case round =>
    obtain ⟨j, ba, bc, p, hkj, rfl, rfl, ht, hb, hg⟩ := hrel
    by_cases hk : 0 < gk
    · have hj : j < P.length := by have := HN.out; omega
      obtain ⟨q, hq⟩ : ∃ q, P[j]? = some q := ⟨_, List.getElem?_eq_getElem hj⟩
      obtain ⟨x1, y1⟩ := (HS.out.1.grown hg) j q hq
      have hst := ht.step HS.out.2 hq
      obtain ⟨a, c⟩ := q
      simp only at x1 y1 hst
      obtain ⟨b0, b1⟩ := box2c hb
      have HW := hide (And.intro hb (And.intro hg hst))
      have hj0 : (0 : Int) ≤ (j : Int) := by omega
      have hj1 : (j : Int) < (N : Int) := by omega
      have Hc := hide (H.out a c ba bc)
      clear hb hg hst ht hq
      have hal := grown_alloc wr (.cells #[.int .i64 (a : Int), .int .i64 (c : Int)] 64)
      obtain ⟨r0, r1⟩ := box2c (heap_alloc_new wr (.cells #[.int .i64 (a : Int), .int .i64 (c : Int)] 64))
      clear b0 b1
      obtain ⟨b0, b1⟩ := box2c (heap_kept HW.out.1 hal (by simp))
      go_wp2_with fail
      refine ((Hc.out _ (grown_trans HW.out.2.1 hal))).mono ?_
      rintro e w5 ⟨rfl, hg5⟩
      have hb5 := heap_kept (heap_kept HW.out.1 hal (by simp)) hg5 (by simp)
      have hr5 := heap_kept (heap_alloc_new wr (.cells #[.int .i64 (a : Int), .int .i64 (c : Int)] 64)) hg5 (by simp)
      have hne : w.heap.size < w5.heap.size := row_lt hb5
      have HV := hide (And.intro hb5 (grown_trans (grown_trans HW.out.2.1 hal) hg5))
      clear r0 r1 b0 b1 hg5
      obtain ⟨r0, r1⟩ := box2c hr5
      have f0 := free_row hb5 0
      have f1 := free_row hb5 1
      obtain ⟨b0, b1⟩ := box2c hb5
      clear hb5 hr5 x1 y1
      by_cases hd : n ≤ c ∧ (bc < n ∨ c < bc)
      · rw [decide_eq_true hd]
        go_wp2
        go_region_law (fail)
        all_goals
          go_wp2
          go_roundg (gk - 1)
          case measure => omega
          case rel =>
            have hz := set2 HV.out.1 (.int .i64 (a : Int)) (.int .i64 (c : Int))
            exact ⟨j + 1, a, c, (j : Int), by omega, by go_num, rfl, HW.out.2.2.1 hd, hz.1, grown_trans (grown_then HV.out.2 hz.2 (fun k e => by cases e; exact Or.inl (Nat.le_refl _))) (grown_drew _ none)⟩
      · rw [decide_eq_false hd]
        go_wp2
        go_roundg (gk - 1)
        case measure => omega
        case rel => exact ⟨j + 1, ba, bc, p, by omega, by go_num, rfl, HW.out.2.2.2 hd, HV.out.1, HV.out.2⟩
    · have hj : j = N := by omega
      subst hj
      have HW := hide hg
      have HT := hide ht
      clear hg hb ht
      go_wp2
      go_ret
      exact ⟨p, bc, rfl, HT.out, HW.out⟩
set_option maxHeartbeats 2000000 in
theorem seekL_any (g cap : Nat) (P : List (Nat × Nat)) (w : World) (hs : SpIn w g P) (hP : P.length ≤ 100000) :
    Calls Tryz.prog 72 #[.slice (some ⟨g, 0, none⟩) P.length cap, fvL] w fun e w' => ∃ p bc, e = .returned (.int .i64 p) ∧ Lg P P.length p bc ∧ w.grownBy w' none := by
  have HS := hide (And.intro hs trivial)
  have H := hide (fun a c a' c' w' (hg : w.grownBy w' none) => longest_any a c a' c' w')
  clear hs
  obtain ⟨N, hN⟩ : ∃ N, N = P.length := ⟨_, rfl⟩
  have HN := hide hN
  rw [← hN] at hP ⊢
  clear hN
  unfold fvL
  go_enter Tryz.func72, Tryz.ntmps72
  go_wp2
  have hg0 := grown_alloc w (.cells #[.int .i64 0, .int .i64 0] 64)
  have hb0 : (w.alloc (.cells #[.int .i64 0, .int .i64 0] 64)).heap[w.heap.size]? = some (.cells #[.int .i64 ((0 : Nat) : Int), .int .i64 ((0 : Nat) : Int)] 64) := heap_alloc_new w _
  go_loopg [5, 12] N (fun k v i wr => ∃ (j ba bc : Nat) (p : Int), k + j = N ∧ i = .int .i64 (j : Int) ∧ v = .int .i64 p ∧ Lg P j p bc ∧ wr.heap[w.heap.size]? = some (.cells #[.int .i64 (ba : Int), .int .i64 (bc : Int)] 64) ∧ w.grownBy wr none)
  case atStart => exact ⟨0, 0, 0, -1, by omega, rfl, rfl, Or.inl ⟨rfl, rfl, fun i q h => by omega⟩, hb0, hg0⟩
  case round =>
    obtain ⟨j, ba, bc, p, hkj, rfl, rfl, ht, hb, hg⟩ := hrel
    by_cases hk : 0 < gk
    · have hj : j < P.length := by have := HN.out; omega
      obtain ⟨q, hq⟩ : ∃ q, P[j]? = some q := ⟨_, List.getElem?_eq_getElem hj⟩
      obtain ⟨x1, y1⟩ := (HS.out.1.grown hg) j q hq
      have hst := ht.step hq
      obtain ⟨a, c⟩ := q
      simp only at x1 y1 hst
      obtain ⟨b0, b1⟩ := box2c hb
      have HW := hide (And.intro hb (And.intro hg hst))
      have hj0 : (0 : Int) ≤ (j : Int) := by omega
      have hj1 : (j : Int) < (N : Int) := by omega
      have Hc := hide (H.out a c ba bc)
      clear hb hg hst ht hq
      have hal := grown_alloc wr (.cells #[.int .i64 (a : Int), .int .i64 (c : Int)] 64)
      obtain ⟨r0, r1⟩ := box2c (heap_alloc_new wr (.cells #[.int .i64 (a : Int), .int .i64 (c : Int)] 64))
      clear b0 b1
      obtain ⟨b0, b1⟩ := box2c (heap_kept HW.out.1 hal (by simp))
      go_wp2_with fail
      refine ((Hc.out _ (grown_trans HW.out.2.1 hal))).mono ?_
      rintro e w5 ⟨rfl, hg5⟩
      have hb5 := heap_kept (heap_kept HW.out.1 hal (by simp)) hg5 (by simp)
      have hr5 := heap_kept (heap_alloc_new wr (.cells #[.int .i64 (a : Int), .int .i64 (c : Int)] 64)) hg5 (by simp)
      have hne : w.heap.size < w5.heap.size := row_lt hb5
      have HV := hide (And.intro hb5 (grown_trans (grown_trans HW.out.2.1 hal) hg5))
      clear r0 r1 b0 b1 hg5
      obtain ⟨r0, r1⟩ := box2c hr5
      have f0 := free_row hb5 0
      have f1 := free_row hb5 1
      obtain ⟨b0, b1⟩ := box2c hb5
      clear hb5 hr5 x1 y1
      by_cases hd : bc < c
      · rw [decide_eq_true hd]
        go_wp2
        go_region_law (fail)
        all_goals
          go_wp2
          go_roundg (gk - 1)
          case measure => omega
          case rel =>
            have hz := set2 HV.out.1 (.int .i64 (a : Int)) (.int .i64 (c : Int))
            exact ⟨j + 1, a, c, (j : Int), by omega, by go_num, rfl, HW.out.2.2.1 hd, hz.1, grown_trans (grown_then HV.out.2 hz.2 (fun k e => by cases e; exact Or.inl (Nat.le_refl _))) (grown_drew _ none)⟩
      · rw [decide_eq_false hd]
        go_wp2
        go_roundg (gk - 1)
        case measure => omega
        case rel => exact ⟨j + 1, ba, bc, p, by omega, by go_num, rfl, HW.out.2.2.2 hd, HV.out.1, HV.out.2⟩
    · have hj : j = N := by omega
      subst hj
      have HW := hide hg
      have HT := hide ht
      clear hg hb ht
      go_wp2
      go_ret
      exact ⟨p, bc, rfl, HT.out, HW.out⟩
end Go.Proofs.YtnnmaknjhfjojaaGreatDoor
/- What a party gets of the runs. -/
namespace Go.Proofs.YtnnmaknjhfjojaaGreatDoor
open Go.RowKit Cx Pn
attribute [local go_sem ↓] Go.wp_at_zero Go.wp_at_succ

def ni (l : List Nat) : List Int := l.map fun (x : Nat) => (x : Int)
theorem ni_app (a b : List Nat) : ni (a ++ b) = ni a ++ ni b := by simp [ni]
theorem ni_len (a : List Nat) : (ni a).length = a.length := by simp [ni]

/-- The runs lie in the block g. -/
def SpRow (w : World) (g : Nat) (P : List (Nat × Nat)) : Prop := ∃ cur : Array Value, w.heap[g]? = some (.cells cur 64 (0, 0)) ∧ cur.toList.take (P.length * 2) = spC P
theorem SpRow.in_ {w : World} {g : Nat} {P : List (Nat × Nat)} (h : SpRow w g P) : SpIn w g P := by
  obtain ⟨cur, h1, h2⟩ := h
  intro i q hq
  obtain ⟨hx, hy⟩ := spC_get hq
  exact ⟨span_cell h1 h2 hx, span_cell h1 h2 hy⟩
theorem SpRow.free {w : World} {g : Nat} {P : List (Nat × Nat)} (h : SpRow w g P) (j : Nat) : w.frozen? ⟨g, j, none⟩ = false := by
  obtain ⟨cur, h1, _⟩ := h
  exact free_row h1 j
theorem SpRow.lt {w : World} {g : Nat} {P : List (Nat × Nat)} (h : SpRow w g P) : g < w.heap.size := by
  obtain ⟨cur, h1, _⟩ := h
  exact row_lt h1
theorem SpRow.kept {w w' : World} {g : Nat} {P : List (Nat × Nat)} {row : Option Nat} (h : SpRow w g P) (hg : w.grownBy w' row) (hr : some g ≠ row) : SpRow w' g P := by
  obtain ⟨cur, h1, h2⟩ := h
  exact ⟨cur, heap_kept h1 hg hr, h2⟩
theorem spC_set (P : List (Nat × Nat)) : ∀ (i : Nat) (q : Nat × Nat), spC (P.set i q) = ((spC P).set (i * 2) (.int .i64 (q.1 : Int))).set (i * 2 + 1) (.int .i64 (q.2 : Int)) := by
  induction P with
  | nil => intro i q; simp [spC]
  | cons p t ih =>
    intro i q
    cases i with
    | zero => simp [spC]
    | succ i =>
      have e : (i + 1) * 2 = i * 2 + 2 := by omega
      rw [List.set_cons_succ, e]
      show [Value.int .i64 (p.1 : Int), .int .i64 (p.2 : Int)] ++ spC (t.set i q) = (([Value.int .i64 (p.1 : Int), .int .i64 (p.2 : Int)] ++ spC t).set (i * 2 + 2) _).set (i * 2 + 2 + 1) _
      rw [ih i q]
      rfl
theorem SpRow.set {w : World} {g : Nat} {P : List (Nat × Nat)} (h : SpRow w g P) (i : Nat) (q : Nat × Nat) : SpRow ((w.setCell ⟨g, i * 2, none⟩ (.int .i64 (q.1 : Int))).setCell ⟨g, i * 2 + 1, none⟩ (.int .i64 (q.2 : Int))) g (P.set i q) := by
  obtain ⟨cur, h1, h2⟩ := h
  have h3 : w.heap[g]? = some (.cells cur.toList.toArray 64 (0, 0)) := by simpa using h1
  refine ⟨_, row_setCell (row_setCell h3 (i * 2) (.int .i64 (q.1 : Int))) (i * 2 + 1) (.int .i64 (q.2 : Int)), ?_⟩
  rw [List.length_set, spC_set, ← h2, List.take_set, List.take_set]
theorem own_ne {w : World} {base n b : Nat} {v : Value} {xs : List Value} {c : Array Value} {t : TypeId} {fr : Nat × Nat} (h : w.ownsRow base 3 1 v n xs) (hk : w.heap[b]? = some (.cells c t fr)) (ht : t ≠ 3) : some b ≠ v.ownBlock := by
  obtain ⟨_, h⟩ := h
  rcases h with ⟨rfl, _⟩ | ⟨g, cap, cur, rfl, hb, hgc, hr⟩
  · simp [Value.ownBlock]
  · intro e
    simp [Value.ownBlock] at e
    subst e
    rw [hk] at hgc
    cases hgc
    exact ht rfl
theorem own_below {w w' : World} {base n k : Nat} {v : Value} {xs : List Value} (h : w.ownsRow base 3 1 v n xs) (hg : w.grownBy w' (some k)) (hk : k < base) : w'.ownsRow base 3 1 v n xs := by
  obtain ⟨hl, h⟩ := h
  refine ⟨hl, ?_⟩
  rcases h with h | ⟨g, cap, cur, rfl, hb, hgc, hr⟩
  · exact Or.inl h
  · exact Or.inr ⟨g, cap, cur, rfl, hb, heap_kept hgc hg (fun e => by cases e; omega), hr⟩
theorem own_base {w : World} {base base' n : Nat} {v : Value} {xs : List Value} (h : w.ownsRow base 3 1 v n xs) (hb : base' ≤ base) : w.ownsRow base' 3 1 v n xs := by
  obtain ⟨hl, h⟩ := h
  refine ⟨hl, ?_⟩
  rcases h with h | ⟨g, cap, cur, rfl, hb', hgc, hr⟩
  · exact Or.inl h
  · exact Or.inr ⟨g, cap, cur, rfl, Nat.le_trans hb hb', hgc, hr⟩
theorem sum_set {P : List (Nat × Nat)} : ∀ {i : Nat} {r : Nat × Nat}, P[i]? = some r → ((P.set i (0, 0)).map Prod.snd).sum + r.2 = (P.map Prod.snd).sum := by
  induction P with
  | nil => intro i r h; simp at h
  | cons p t ih =>
    intro i r h
    cases i with
    | zero => simp at h; subst h; simp; omega
    | succ i =>
      simp at h
      have := ih h
      rw [List.set_cons_succ, List.map_cons, List.map_cons, List.sum_cons, List.sum_cons]
      omega
theorem sum_pos {P : List (Nat × Nat)} (h : ∀ i q, i < P.length → P[i]? = some q → q.2 = 0) : (P.map Prod.snd).sum = 0 := by
  induction P with
  | nil => rfl
  | cons p t ih =>
    have h1 := h 0 p (by simp) rfl
    have h2 := ih fun i q hi hq => h (i + 1) q (by simp; omega) (by simpa using hq)
    simp; omega
/-- What the two searches find is the run that is taken next. -/
theorem bs_of_t {P : List (Nat × Nat)} {n i bc : Nat} {q : Nat × Nat} (hn : 0 < n) (h1 : P[i]? = some q) (h2 : q.2 = bc) (h3 : n ≤ bc) (h4 : ∀ i' q', i' < P.length → P[i']? = some q' → n ≤ q'.2 → bc < q'.2 ∨ (bc = q'.2 ∧ i ≤ i')) : Bs P n i :=
  ⟨q, h1, by omega, Or.inl ⟨by omega, fun j q' hq hj => by have := h4 j q' (List.getElem?_eq_some_iff.1 hq).1 hq hj; omega⟩⟩
theorem bs_of_l {P : List (Nat × Nat)} {n i bc : Nat} {q : Nat × Nat} (h0 : ∀ i q, i < P.length → P[i]? = some q → q.2 < n) (h1 : P[i]? = some q) (h2 : q.2 = bc) (h3 : 0 < bc) (h4 : ∀ i' q', i' < P.length → P[i']? = some q' → q'.2 < bc ∨ (q'.2 = bc ∧ i ≤ i')) : Bs P n i :=
  ⟨q, h1, by omega, Or.inr fun j q' hq => by
    have hj := (List.getElem?_eq_some_iff.1 hq).1
    exact ⟨h0 j q' hj hq, by have := h4 j q' hj hq; omega⟩⟩
theorem perm_uniq : ∀ {a b : List Int}, a.Pairwise (· ≤ ·) → b.Pairwise (· ≤ ·) → a.Perm b → a = b
  | [], b, _, _, h => (List.Perm.nil_eq h)
  | x :: s, [], _, _, h => by have := h.length_eq; simp at this
  | x :: s, y :: t, ha, hb, h => by
    rw [List.pairwise_cons] at ha hb
    have hx : x ∈ y :: t := h.subset (List.mem_cons_self)
    have hy : y ∈ x :: s := h.symm.subset (List.mem_cons_self)
    have e : x = y := by
      rcases List.mem_cons.1 hx with e | e
      · exact e
      · rcases List.mem_cons.1 hy with e2 | e2
        · exact e2.symm
        · have := ha.1 y e2; have := hb.1 x e; omega
    subst e
    rw [perm_uniq ha.2 hb.2 (List.Perm.cons_inv h)]
theorem sort_srt {P ps : List (Nat × Nat)} {n : Nat} (hr : Ris P) (hg : Gr P n ps) : (ni (sts P ps)).mergeSort (fun x y => decide (x ≤ y)) = ni (srt P ps P.length) := by
  have hs := srt_rise hr hg _ (Nat.le_refl _)
  refine perm_uniq ?_ ?_ ?_
  · have h := List.pairwise_mergeSort (le := fun (x y : Int) => decide (x ≤ y)) (fun a b c h1 h2 => by simp at *; omega) (fun a b => by simp; omega) (ni (sts P ps))
    exact h.imp (by simp)
  · unfold ni
    rw [List.pairwise_map]
    exact hs.imp (by intro a b h; omega)
  · refine (List.mergeSort_perm _ _).trans ?_
    unfold ni
    refine List.Perm.map _ ?_
    exact (List.perm_ext_iff_of_nodup (sts_nodup hr hg.nodup hg.mem) (hs.imp (by intro a b h; omega))).2 fun x => mem_sts hg

theorem made_ints (n : Nat) : madeCells #[Value.int .i64 0] n = (List.replicate n (Value.int .i64 0)).toArray := by
  unfold madeCells
  apply Array.ext'
  simp [Nat.mod_one, List.map_const']
theorem make_few (n : Nat) (h : n ≤ 1000) (w : World) : (Instr.makeSlice 22 (.int .i64 0) (.int .i64 (n : Int))).run Tryz.prog w = .ok (.slice (some ⟨w.heap.size, 0, none⟩) 0 n) (w.alloc (.cells (List.replicate n (Value.int .i64 0)).toArray 3)) := by
  obtain ⟨i0, hi, hz0, hz1, hz2⟩ := info_parts Tryz.info3
  have h1 : (n : Int).toNat = n := Int.toNat_natCast n
  have h2 : (Value.int .i64 0).cells = #[Value.int .i64 0] := rfl
  rw [run_make (P := Tryz.prog) (w := w) 22 3 i0 (.int .i64 0) Tryz.underlying22 hi hz0 .i64 .i64 0 (n : Int) (by omega) (by omega) (by rw [hz2]; omega) (by omega), hz1, h1, h2, Nat.mul_one, made_ints]
  rfl

def ChI (w : World) (g n : Nat) (P : List (Nat × Nat)) (left : Nat) (v : Value) (wr : World) : Prop :=
  ∃ (P' ps : List (Nat × Nat)), (P'.length = P.length ∧ GrS P n P' left ps ∧ left + (ps.map Prod.snd).sum = n ∧ left ≤ (P'.map Prod.snd).sum ∧ ∀ (i : Nat) (q : Nat × Nat), P'[i]? = some q → q = (0, 0) ∨ P[i]? = some q) ∧
    SpRow wr g P' ∧ wr.heap[w.heap.size]? = some (.cells #[.int .i64 (left : Int)] 3) ∧ wr.ownsRow (w.heap.size + 1) 3 1 v (sts P ps).length ((ni (sts P ps)).map (Value.int .i64)) ∧ w.grownBy wr (some g)

set_option maxHeartbeats 2000000 in
theorem choose_any (g cap n : Nat) (P : List (Nat × Nat)) (w : World) (hs : SpRow w g P) (hP : P.length ≤ 10000) (hb : ∀ (i : Nat) (p : Nat × Nat), P[i]? = some p → p.1 + p.2 ≤ 10000) (hr : Ris P) (h0 : 1 ≤ n) (h1 : n ≤ 16) (hsum : n ≤ (P.map Prod.snd).sum) :
    Calls Tryz.prog 38 #[.slice (some ⟨g, 0, none⟩) P.length cap, .int .i64 (n : Int)] w fun e w' => ∃ v ps, e = .returned v ∧ Gr P n ps ∧ w'.ownsRow w.heap.size 3 1 v n ((ni (srt P ps P.length)).map (Value.int .i64)) ∧ w.grownBy w' (some g) := by
  have HS := hide (And.intro hs (And.intro hb (And.intro hr (And.intro h0 hsum))))
  have hmk := make_few n (by omega) (w.alloc (.cells #[.int .i64 (n : Int)] 3))
  rw [alloc_size] at hmk
  clear hs hb hr h0 hsum
  obtain ⟨N, hN⟩ : ∃ N, N = P.length := ⟨_, rfl⟩
  have HN := hide hN
  rw [← hN] at hP ⊢
  clear hN
  go_enter Tryz.func38, Tryz.ntmps38
  go_wp2
  have G0 := hide (grown_trans (grown_alloc w (.cells #[.int .i64 (n : Int)] 3)) (grown_alloc _ (.cells (List.replicate n (Value.int .i64 0)).toArray 3)))
  clear hmk
  go_loopg [8] n (fun k v wr => ChI w g n P k v wr)
  case atStart =>
    refine ⟨P, [], ⟨rfl, GrS.start P n, by simp, HS.out.2.2.2.2, fun i q h => Or.inr h⟩, HS.out.1.kept G0.out (by simp), ?_, ?_, grown_none G0.out _⟩
    · exact heap_kept (heap_alloc_new w _) (grown_alloc _ _) (by simp)
    · have := World.ownsRow_made (base := w.heap.size + 1) (e := 3) (size := 1) (w.alloc (.cells #[.int .i64 (n : Int)] 3)) (List.replicate n (Value.int .i64 0)).toArray n (by simp) (by unfold maxLen; omega) (by simp)
      rw [alloc_size] at this
      exact this
  case round =>
    obtain ⟨P', ps, hp, hs, hl, hown, hg⟩ := hrel
    have hlc := cell_row (l := [.int .i64 (gk : Int)]) hl 0
    by_cases hk : 0 < gk
    · have H := hide (And.intro hp (And.intro hs (And.intro hl (And.intro hown hg))))
      have HT := hide (seekT_any g cap gk w.heap.size P' wr hs.in_ (by have := HN.out; omega) hk hlc)
      have hNe : P'.length = N := by rw [hp.1, HN.out]
      rw [hNe] at HT
      clear hp hs hl hown hg
      have hk2 : (0 : Int) < (gk : Int) := by omega
      go_wp2_with fail
      refine (HT.out).mono ?_
      rintro e w5 ⟨p, bc, rfl, ht, hg5⟩
      clear HT
      rcases ht with ⟨rfl, rfl, hno⟩ | ⟨i, q, hi, rfl, hq, hqb, hgb, hbest⟩
      · have HL := hide (seekL_any g cap P' w5 (H.out.2.1.in_.grown hg5) (by omega))
        rw [hNe] at HL
        have HNo := hide (And.intro hno hg5)
        clear hno hg5 hlc
        go_wp2_with fail
        refine (HL.out).mono ?_
        rintro e w6 ⟨p, bc, rfl, hl, hg6⟩
        clear HL
        rcases hl with ⟨rfl, rfl, hz⟩ | ⟨i, q, hi, rfl, hq, hqb, hgb, hbest⟩
        · exfalso
          rw [← hNe] at hz
          have := sum_pos hz
          have := H.out.1.2.2.2.1
          omega
        · have hgn := grown_trans HNo.out.2 hg6
          rw [← hNe] at hi hbest HNo
          have hbs := bs_of_l HNo.out.1 hq hqb hgb hbest
          clear hg6 HNo
          rw [hNe] at hi
          clear hqb hgb hbest hk2
          have hlw := row_lt H.out.2.2.1
          have hsz := hgn.size
          have HB := hide (And.intro hq (And.intro hbs hgn))
          obtain ⟨x1, y1⟩ := (H.out.2.1.in_.grown hgn) i q hq
          have hbd : q.1 + q.2 ≤ 10000 := by
            rcases H.out.1.2.2.2.2 i q hq with e | e
            · rw [e]; simp
            · exact HS.out.2.1 i q e
          obtain ⟨a, c⟩ := q
          simp only at x1 y1 hbd
          have hl5 := hgn.cell (cell_row (l := [.int .i64 (gk : Int)]) H.out.2.2.1 0) (by simp)
          have hi0 : (0 : Int) ≤ (i : Int) := by omega
          have hi1 : (i : Int) < (N : Int) := by omega
          have hne : w.heap.size < w6.heap.size := by omega
          have hng : g < w6.heap.size := by have := H.out.2.1.lt; omega
          have hpa : (c ≠ 0) ∧ ((P.getD i (0, 0)).1 = a) := by
            obtain ⟨r, e1, e2, _⟩ := hbs
            rw [hq] at e1
            obtain rfl := Option.some.inj e1
            refine ⟨by simp at e2; omega, ?_⟩
            rcases H.out.1.2.2.2.2 i _ hq with e | e
            · cases e; simp at e2
            · rw [List.getD_eq_getElem?_getD, e]; rfl
          clear hq hbs hgn
          go_wp2
          clear hl5 x1 y1
          obtain ⟨m, hm⟩ : ∃ m, m = min c gk := ⟨_, rfl⟩
          have hmi : min (c : Int) (gk : Int) = (m : Int) := by omega
          rw [hmi]
          clear hmi
          have hm16 : m ≤ 16 := by have := H.out.1.2.2.1; omega
          have hmc : m ≤ c := by omega
          have hmg : m ≤ gk := by omega
          have hm0 : 0 < m := by omega
          have HM := hide (And.intro hm hpa)
          clear hm hpa
          obtain ⟨K, rfl⟩ : ∃ K, K = gk := ⟨_, rfl⟩
          have hal := grown_alloc w6 (.cells #[.int .i64 (a : Int), .int .i64 (c : Int)] 64)
          have hgw := grown_trans HB.out.2.2 hal
          have HI := hide (And.intro (H.out.2.1.kept hgw (by simp)) (And.intro (heap_kept H.out.2.2.1 hgw (by simp)) (And.intro (own_grown H.out.2.2.2.1 hgw) (grown_then H.out.2.2.2.2 hgw (fun k e => by cases e)))))
          clear hgw hal hsz hlw
          go_loopg [8, 36] m (fun k v i wi => ∃ x : Nat, k + x = m ∧ i = .int .i64 (x : Int) ∧ SpRow wi g P' ∧ wi.heap[w.heap.size]? = some (.cells #[.int .i64 (K : Int)] 3) ∧ wi.heap[w6.heap.size]? = some (.cells #[.int .i64 (a : Int), .int .i64 (c : Int)] 64) ∧ wi.ownsRow (w.heap.size + 1) 3 1 v ((sts P ps).length + x) ((ni (sts P ps ++ List.range' a x)).map (Value.int .i64)) ∧ w.grownBy wi (some g))
          case atStart => exact ⟨0, by omega, rfl, HI.out.1, HI.out.2.1, heap_alloc_new w6 _, by simpa using HI.out.2.2.1, HI.out.2.2.2⟩
          case round =>
            obtain ⟨x, hkx, rfl, hsp, hlf, hbx, hown, hg⟩ := hrel
            have HV := hide (And.intro hsp (And.intro hlf (And.intro hbx (And.intro hown hg))))
            by_cases hk2 : 0 < gk
            · obtain ⟨b0, b1⟩ := box2c hbx
              have hxm : (x : Int) < (m : Int) := by omega
              clear hsp hlf hbx hown hg
              have hlen : (sts P ps).length ≤ 16 := by rw [sts_len]; have := H.out.1.2.2.1; omega
              have hrb : w.heap.size + 1 ≤ wr.heap.size := by have := row_lt HV.out.2.2.1; omega
              go_wp2_with (at_builtin; refine wpList_append_at rfl (.tmp 39) (.tmp 44) rfl (w.heap.size + 1) _ ((sts P ps).length + x) _ rfl (own_grown HV.out.2.2.2.1 (grown_alloc wr _)) (some ⟨wr.heap.size, 0, none⟩) 1 1 [(a : Int) + (x : Int)] rfl rfl (at_new1 wr _) (fun e => by cases e) (by omega) ?_ ?_)
              · simp; omega
              · intro v' w' hown' hg'
                have ha := grown_alloc wr (.cells #[.int .i64 ((a : Int) + (x : Int))] 3)
                have hn1 := own_ne (own_grown HV.out.2.2.2.1 ha) (heap_kept HV.out.2.2.1 ha (by simp)) (by decide)
                have hlo := fun k (e : _ = some k) => (HV.out.2.2.2.1.lt k e).1
                have hsp' : SpRow w' g P' := by
                  refine (HV.out.1.kept ha (by simp)).kept hg' ?_
                  obtain ⟨cur, e1, _⟩ := HV.out.1.kept ha (by simp)
                  exact own_ne (own_grown HV.out.2.2.2.1 ha) e1 (by decide)
                have hlf' := heap_kept (heap_kept HV.out.2.1 ha (by simp)) hg' (fun e => by have h7 := hlo _ e.symm; exact absurd h7 (by omega))
                have hbx' := heap_kept (heap_kept HV.out.2.2.1 ha (by simp)) hg' hn1
                have hgw' := grown_then (grown_then HV.out.2.2.2.2 ha (fun k e => by cases e)) hg' (fun k e => Or.inl (by have := hlo _ e; omega))
                have HZ := hide (And.intro hsp' (And.intro hlf' (And.intro hbx' (And.intro hown' hgw'))))
                clear hsp' hlf' hbx' hown' hgw' hn1 hlo ha hg'
                go_wp2
                go_roundg (gk - 1)
                case measure => omega
                case rel =>
                  refine ⟨x + 1, by omega, by go_num, HZ.out.1, HZ.out.2.1, HZ.out.2.2.1, ?_, HZ.out.2.2.2.2⟩
                  have h5 := HZ.out.2.2.2.1
                  rw [List.range'_concat, ← List.append_assoc, ni_app, List.map_append]
                  simpa [ni, Nat.add_assoc] using h5
            · obtain rfl : x = m := by omega
              obtain ⟨x1, y1⟩ := HV.out.1.in_ i (a, c) HB.out.1
              have f1 := HV.out.1.free (i * 2)
              have f2 := HV.out.1.free (i * 2 + 1)
              have hl5 := cell_row (l := [.int .i64 (K : Int)]) HV.out.2.1 0
              have f3 := free_row HV.out.2.1 0
              have hgl : g ≠ w.heap.size := by have := HS.out.1.lt; omega
              have hxx : ¬ ((x : Int) < (x : Int)) := by omega
              clear hsp hlf hbx hown hg
              go_wp2
              have hx := HM.out.1
              go_roundg (K - x)
              case measure => omega
              case rel =>
                have hq := HB.out.1
                have e : Value.int .i64 (wrap64 ((K : Int) - (x : Int))) = Value.int .i64 ((K - x : Nat) : Int) := by
                  have hK16 : K ≤ 16 := by have := H.out.1.2.2.1; omega
                  rw [Int.ofNat_sub (by omega)]
                  rw [show wrap64 ((K : Int) - (x : Int)) = (K : Int) - (x : Int) by unfold wrap64; omega]
                have G1 := grown_setCell wr g (i * 2) (.int .i64 0)
                have G2 := grown_setCell (wr.setCell ⟨g, i * 2, none⟩ (.int .i64 0)) g (i * 2 + 1) (.int .i64 0)
                have hsr := HV.out.1.set i (0, 0)
                have hlr := heap_kept HV.out.2.1 (grown_trans G1 G2) (by simpa using hgl.symm)
                obtain ⟨cur, e1, _⟩ := HV.out.1
                have e2 : (wr.setCell ⟨g, i * 2, none⟩ (.int .i64 0)).heap[g]? = some (.cells _ 64 (0, 0)) := row_setCell (l := cur.toList) (by simpa using e1) (i * 2) (.int .i64 0)
                have hor := own_kept (own_kept HV.out.2.2.2.1 G1 e1 (by decide)) G2 e2 (by decide)
                rw [e]
                generalize hwz : (wr.setCell ⟨g, i * 2, none⟩ (.int .i64 0)).setCell ⟨g, i * 2 + 1, none⟩ (.int .i64 0) = wz at hlr hor
                have hwz' : (wr.setCell ⟨g, i * 2, none⟩ (.int .i64 (((0, 0) : Nat × Nat).1 : Int))).setCell ⟨g, i * 2 + 1, none⟩ (.int .i64 (((0, 0) : Nat × Nat).2 : Int)) = wz := hwz
                rw [hwz'] at hsr
                have G3 : wr.grownBy wz (some g) := by rw [← hwz]; exact grown_trans G1 G2
                have G4 := grown_setCell wz w.heap.size 0 (.int .i64 ((K - x : Nat) : Int))
                have hss := sum_set hq
                simp only at hss
                refine ⟨P'.set i (0, 0), ps ++ [(i, x)], ⟨by rw [List.length_set]; exact H.out.1.1, ?_, ?_, ?_, ?_⟩, hsr.kept G4 (by simpa using hgl), row_setCell (l := [.int .i64 (K : Int)]) hlr 0 _, ?_, grown_then (grown_then HV.out.2.2.2.2 G3 (fun k e => by cases e; exact Or.inr rfl)) G4 (fun k e => by cases e; exact Or.inl (Nat.le_refl _))⟩
                · have h5 := GrS.step H.out.1.2.1 hk hq HB.out.2.1
                  simp only at h5
                  rw [← hx] at h5
                  exact h5
                · have := H.out.1.2.2.1
                  simp; omega
                · have := H.out.1.2.2.2.1
                  omega
                · intro j q hj
                  by_cases hij : i = j
                  · subst hij
                    rw [List.getElem?_set_self (by omega)] at hj
                    exact Or.inl (Option.some.inj hj).symm
                  · rw [List.getElem?_set_ne hij] at hj
                    exact H.out.1.2.2.2.2 j q hj
                · have h6 := own_below hor G4 (by omega)
                  rw [sts_snoc, HM.out.2.2, List.length_append, List.length_range']
                  exact h6
      · have hgn := hg5
        rw [← hNe] at hi hbest
        have hbs := bs_of_t hk hq hqb hgb hbest
        clear hg5 hlc
        rw [hNe] at hi
        clear hqb hgb hbest hk2
        have hlw := row_lt H.out.2.2.1
        have hsz := hgn.size
        have HB := hide (And.intro hq (And.intro hbs hgn))
        obtain ⟨x1, y1⟩ := (H.out.2.1.in_.grown hgn) i q hq
        have hbd : q.1 + q.2 ≤ 10000 := by
          rcases H.out.1.2.2.2.2 i q hq with e | e
          · rw [e]; simp
          · exact HS.out.2.1 i q e
        obtain ⟨a, c⟩ := q
        simp only at x1 y1 hbd
        have hl5 := hgn.cell (cell_row (l := [.int .i64 (gk : Int)]) H.out.2.2.1 0) (by simp)
        have hi0 : (0 : Int) ≤ (i : Int) := by omega
        have hi1 : (i : Int) < (N : Int) := by omega
        have hne : w.heap.size < w5.heap.size := by omega
        have hng : g < w5.heap.size := by have := H.out.2.1.lt; omega
        have hpa : (c ≠ 0) ∧ ((P.getD i (0, 0)).1 = a) := by
          obtain ⟨r, e1, e2, _⟩ := hbs
          rw [hq] at e1
          obtain rfl := Option.some.inj e1
          refine ⟨by simp at e2; omega, ?_⟩
          rcases H.out.1.2.2.2.2 i _ hq with e | e
          · cases e; simp at e2
          · rw [List.getD_eq_getElem?_getD, e]; rfl
        clear hq hbs hgn
        go_wp2
        clear hl5 x1 y1
        obtain ⟨m, hm⟩ : ∃ m, m = min c gk := ⟨_, rfl⟩
        have hmi : min (c : Int) (gk : Int) = (m : Int) := by omega
        rw [hmi]
        clear hmi
        have hm16 : m ≤ 16 := by have := H.out.1.2.2.1; omega
        have hmc : m ≤ c := by omega
        have hmg : m ≤ gk := by omega
        have hm0 : 0 < m := by omega
        have HM := hide (And.intro hm hpa)
        clear hm hpa
        obtain ⟨K, rfl⟩ : ∃ K, K = gk := ⟨_, rfl⟩
        have hal := grown_alloc w5 (.cells #[.int .i64 (a : Int), .int .i64 (c : Int)] 64)
        have hgw := grown_trans HB.out.2.2 hal
        have HI := hide (And.intro (H.out.2.1.kept hgw (by simp)) (And.intro (heap_kept H.out.2.2.1 hgw (by simp)) (And.intro (own_grown H.out.2.2.2.1 hgw) (grown_then H.out.2.2.2.2 hgw (fun k e => by cases e)))))
        clear hgw hal hsz hlw
        go_loopg [8, 36] m (fun k v i wi => ∃ x : Nat, k + x = m ∧ i = .int .i64 (x : Int) ∧ SpRow wi g P' ∧ wi.heap[w.heap.size]? = some (.cells #[.int .i64 (K : Int)] 3) ∧ wi.heap[w5.heap.size]? = some (.cells #[.int .i64 (a : Int), .int .i64 (c : Int)] 64) ∧ wi.ownsRow (w.heap.size + 1) 3 1 v ((sts P ps).length + x) ((ni (sts P ps ++ List.range' a x)).map (Value.int .i64)) ∧ w.grownBy wi (some g))
        case atStart => exact ⟨0, by omega, rfl, HI.out.1, HI.out.2.1, heap_alloc_new w5 _, by simpa using HI.out.2.2.1, HI.out.2.2.2⟩
        case round =>
          obtain ⟨x, hkx, rfl, hsp, hlf, hbx, hown, hg⟩ := hrel
          have HV := hide (And.intro hsp (And.intro hlf (And.intro hbx (And.intro hown hg))))
          by_cases hk2 : 0 < gk
          · obtain ⟨b0, b1⟩ := box2c hbx
            have hxm : (x : Int) < (m : Int) := by omega
            clear hsp hlf hbx hown hg
            have hlen : (sts P ps).length ≤ 16 := by rw [sts_len]; have := H.out.1.2.2.1; omega
            have hrb : w.heap.size + 1 ≤ wr.heap.size := by have := row_lt HV.out.2.2.1; omega
            go_wp2_with (at_builtin; refine wpList_append_at rfl (.tmp 39) (.tmp 44) rfl (w.heap.size + 1) _ ((sts P ps).length + x) _ rfl (own_grown HV.out.2.2.2.1 (grown_alloc wr _)) (some ⟨wr.heap.size, 0, none⟩) 1 1 [(a : Int) + (x : Int)] rfl rfl (at_new1 wr _) (fun e => by cases e) (by omega) ?_ ?_)
            · simp; omega
            · intro v' w' hown' hg'
              have ha := grown_alloc wr (.cells #[.int .i64 ((a : Int) + (x : Int))] 3)
              have hn1 := own_ne (own_grown HV.out.2.2.2.1 ha) (heap_kept HV.out.2.2.1 ha (by simp)) (by decide)
              have hlo := fun k (e : _ = some k) => (HV.out.2.2.2.1.lt k e).1
              have hsp' : SpRow w' g P' := by
                refine (HV.out.1.kept ha (by simp)).kept hg' ?_
                obtain ⟨cur, e1, _⟩ := HV.out.1.kept ha (by simp)
                exact own_ne (own_grown HV.out.2.2.2.1 ha) e1 (by decide)
              have hlf' := heap_kept (heap_kept HV.out.2.1 ha (by simp)) hg' (fun e => by have h7 := hlo _ e.symm; exact absurd h7 (by omega))
              have hbx' := heap_kept (heap_kept HV.out.2.2.1 ha (by simp)) hg' hn1
              have hgw' := grown_then (grown_then HV.out.2.2.2.2 ha (fun k e => by cases e)) hg' (fun k e => Or.inl (by have := hlo _ e; omega))
              have HZ := hide (And.intro hsp' (And.intro hlf' (And.intro hbx' (And.intro hown' hgw'))))
              clear hsp' hlf' hbx' hown' hgw' hn1 hlo ha hg'
              go_wp2
              go_roundg (gk - 1)
              case measure => omega
              case rel =>
                refine ⟨x + 1, by omega, by go_num, HZ.out.1, HZ.out.2.1, HZ.out.2.2.1, ?_, HZ.out.2.2.2.2⟩
                have h5 := HZ.out.2.2.2.1
                rw [List.range'_concat, ← List.append_assoc, ni_app, List.map_append]
                simpa [ni, Nat.add_assoc] using h5
          · obtain rfl : x = m := by omega
            obtain ⟨x1, y1⟩ := HV.out.1.in_ i (a, c) HB.out.1
            have f1 := HV.out.1.free (i * 2)
            have f2 := HV.out.1.free (i * 2 + 1)
            have hl5 := cell_row (l := [.int .i64 (K : Int)]) HV.out.2.1 0
            have f3 := free_row HV.out.2.1 0
            have hgl : g ≠ w.heap.size := by have := HS.out.1.lt; omega
            have hxx : ¬ ((x : Int) < (x : Int)) := by omega
            clear hsp hlf hbx hown hg
            go_wp2
            have hx := HM.out.1
            go_roundg (K - x)
            case measure => omega
            case rel =>
              have hq := HB.out.1
              have e : Value.int .i64 (wrap64 ((K : Int) - (x : Int))) = Value.int .i64 ((K - x : Nat) : Int) := by
                have hK16 : K ≤ 16 := by have := H.out.1.2.2.1; omega
                rw [Int.ofNat_sub (by omega)]
                rw [show wrap64 ((K : Int) - (x : Int)) = (K : Int) - (x : Int) by unfold wrap64; omega]
              have G1 := grown_setCell wr g (i * 2) (.int .i64 0)
              have G2 := grown_setCell (wr.setCell ⟨g, i * 2, none⟩ (.int .i64 0)) g (i * 2 + 1) (.int .i64 0)
              have hsr := HV.out.1.set i (0, 0)
              have hlr := heap_kept HV.out.2.1 (grown_trans G1 G2) (by simpa using hgl.symm)
              obtain ⟨cur, e1, _⟩ := HV.out.1
              have e2 : (wr.setCell ⟨g, i * 2, none⟩ (.int .i64 0)).heap[g]? = some (.cells _ 64 (0, 0)) := row_setCell (l := cur.toList) (by simpa using e1) (i * 2) (.int .i64 0)
              have hor := own_kept (own_kept HV.out.2.2.2.1 G1 e1 (by decide)) G2 e2 (by decide)
              rw [e]
              generalize hwz : (wr.setCell ⟨g, i * 2, none⟩ (.int .i64 0)).setCell ⟨g, i * 2 + 1, none⟩ (.int .i64 0) = wz at hlr hor
              have hwz' : (wr.setCell ⟨g, i * 2, none⟩ (.int .i64 (((0, 0) : Nat × Nat).1 : Int))).setCell ⟨g, i * 2 + 1, none⟩ (.int .i64 (((0, 0) : Nat × Nat).2 : Int)) = wz := hwz
              rw [hwz'] at hsr
              have G3 : wr.grownBy wz (some g) := by rw [← hwz]; exact grown_trans G1 G2
              have G4 := grown_setCell wz w.heap.size 0 (.int .i64 ((K - x : Nat) : Int))
              have hss := sum_set hq
              simp only at hss
              refine ⟨P'.set i (0, 0), ps ++ [(i, x)], ⟨by rw [List.length_set]; exact H.out.1.1, ?_, ?_, ?_, ?_⟩, hsr.kept G4 (by simpa using hgl), row_setCell (l := [.int .i64 (K : Int)]) hlr 0 _, ?_, grown_then (grown_then HV.out.2.2.2.2 G3 (fun k e => by cases e; exact Or.inr rfl)) G4 (fun k e => by cases e; exact Or.inl (Nat.le_refl _))⟩
              · have h5 := GrS.step H.out.1.2.1 hk hq HB.out.2.1
                simp only at h5
                rw [← hx] at h5
                exact h5
              · have := H.out.1.2.2.1
                simp; omega
              · have := H.out.1.2.2.2.1
                omega
              · intro j q hj
                by_cases hij : i = j
                · subst hij
                  rw [List.getElem?_set_self (by omega)] at hj
                  exact Or.inl (Option.some.inj hj).symm
                · rw [List.getElem?_set_ne hij] at hj
                  exact H.out.1.2.2.2.2 j q hj
              · have h6 := own_below hor G4 (by omega)
                rw [sts_snoc, HM.out.2.2, List.length_append, List.length_range']
                exact h6
    · have hk0 : gk = 0 := by omega
      subst hk0
      have hlen : (sts P ps).length = n := by rw [sts_len]; have := hp.2.2.1; omega
      have hgr := hp.2.1.fin
      have hso := sort_srt HS.out.2.2.1 hgr
      rw [hlen] at hown
      have HQ := hide (And.intro hgr (And.intro hso (And.intro hown hg)))
      have HSo := hide (sort_any _ n u8 _ wr (by have := HS.out.2.2.2.1; omega) hown (by omega))
      clear hp hs hl hown hg hgr hso
      have hz : ¬ (((0 : Nat) : Int) > 0) := by omega
      go_wp2_with fail
      refine HSo.out.mono ?_
      rintro e w9 ⟨rfl, hown9, hg9⟩
      have hlo := fun k e => (HQ.out.2.2.1.lt k e).1
      have hg9' := grown_then HQ.out.2.2.2 hg9 (fun k e => Or.inl (by have := hlo k e; omega))
      rw [HQ.out.2.1, ← HN.out] at hown9
      have HR := hide (And.intro (own_base hown9 (Nat.le_succ _)) hg9')
      clear hown9 hg9 hg9' hlo
      go_wp2
      go_ret
      exact ⟨_, ps, rfl, HQ.out.1, HR.out.1, HR.out.2⟩
end Go.Proofs.YtnnmaknjhfjojaaGreatDoor
/- A party's seats. -/
namespace Go.Proofs.YtnnmaknjhfjojaaGreatDoor
open Go.RowKit Cx Pn
attribute [local go_sem ↓] Go.wp_at_zero Go.wp_at_succ

theorem fc_cnt (S : List Bool) : ∀ n, n ≤ S.length → fc (fr S) n + Bt.cnt (fun i => S.getD i false) n = n
  | 0, _ => rfl
  | n + 1, h => by
    have ih := fc_cnt S n (by omega)
    rw [fc_succ, Bt.cnt, fr_of (by omega)]
    generalize S.getD n false = x
    cases x
    · show fc (fr S) n + 1 + (Bt.cnt (fun i => S.getD i false) n + 0) = n + 1; omega
    · show fc (fr S) n + 0 + (Bt.cnt (fun i => S.getD i false) n + 1) = n + 1; omega
theorem fc_all (S : List Bool) : fc (fr S) S.length + Bt.cntL S = S.length := fc_cnt S _ (Nat.le_refl _)

set_option maxHeartbeats 1000000 in
theorem seat_err (c R W k : Int) (ao : Option Addr) (n cap : Nat) (p : Option Addr) (w : World) (hc : c ≠ 0)
    (h : ∀ w', w.grownBy w' none → Calls Tryz.prog 8 #[cbV R W (.slice ao n cap), .pointer p] w' fun e w'' => e = .returned (.tuple #[.slice none 0 0, .int .i64 c]) ∧ w'.grownBy w'' none) :
    Calls Tryz.prog 16 #[cbV R W (.slice ao n cap), .pointer p, .int .i64 k] w fun e w' => e = .returned (.tuple #[.slice none 0 0, .int .i64 c]) ∧ w.grownBy w' none := by
  have C := hide h
  clear h
  unfold cbV at *
  go_enter Tryz.func16, Tryz.ntmps16
  go_wp2_with fail
  refine (C.out _ (grown_alloc w _)).mono ?_
  rintro e w1 ⟨rfl, hw1⟩
  have G1 := hide (grown_trans (grown_alloc w _) hw1)
  clear hw1
  go_wp2
  go_ret2
  exact ⟨rfl, G1.out⟩

/-- What Seat answers to k people, where the runs are P. -/
def SeatP (B : Nat) (P : List (Nat × Nat)) (k : Int) (e : Ending) (w' : World) : Prop :=
  ((k < 1 ∨ 16 < k) ∧ e = .returned (.tuple #[.slice none 0 0, .int .i64 270])) ∨
    ∃ n : Nat, k = (n : Int) ∧ 1 ≤ n ∧ n ≤ 16 ∧ (((P.map Prod.snd).sum < n ∧ e = .returned (.tuple #[.slice none 0 0, .int .i64 6])) ∨
      (n ≤ (P.map Prod.snd).sum ∧ ∃ v ps, e = .returned (.tuple #[v, .int .i64 0]) ∧ Gr P n ps ∧ w'.ownsRow B 3 1 v n ((ni (srt P ps P.length)).map (Value.int .i64))))

set_option maxHeartbeats 2000000 in
theorem seat_ok (R W : Nat) (ao : Option Addr) (n cap : Nat) (L : List Int) (b g : Nat) (S : List Bool) (k : Int) (w : World) (hc : CbIn w ao n cap L) (ho : Ok R W L) (hs : Bt.SetAt w b g S) (hT : Bt.Tab w) (hn : S.length = R * W) :
    Calls Tryz.prog 16 #[cbV R W (.slice ao n cap), .pointer (some ⟨b, 0, none⟩), .int .i64 k] w fun e w' => SeatP w.heap.size (dr (fr S) (bg W L) (R * W)) k e w' ∧ w.grownBy w' none := by
  have C := hide (fun w' (hg : w.grownBy w' none) => runs_ok R W ao n cap L b g S w' (hc.grown hg) ho (Set_grown hs hg) (Tab_grown hT hg) hn)
  have B1 := hide (fun w' (hg : w.grownBy w' none) => Bt.bound_any b g S w' (Set_grown hs hg))
  have B2 := hide (fun w' (hg : w.grownBy w' none) => Bt.count_any b g S w' (Set_grown hs hg))
  have hsm := hs.small
  have hcl := Bt.cntL_le S
  have hfa := fc_all S
  have hsum := dr_sum (fr S) (bg W L) (R * W)
  have hbd : ∀ (i : Nat) (p : Nat × Nat), (dr (fr S) (bg W L) (R * W))[i]? = some p → p.1 + p.2 ≤ R * W := fun i p h => (dr_pos (List.mem_of_getElem? h)).2
  have hdl := dr_len (fr S) (bg W L) (R * W)
  have hri := dr_ris (fr S) (bg W L) (R * W)
  have h1024 : R * W ≤ 1024 := by
    have h1 := ho.2.1
    have h2 := ho.2.2.2.1
    exact Nat.mul_le_mul (show R ≤ 64 by omega) (show W ≤ 16 by omega)
  rw [hn] at hsm hcl hfa B1
  rw [← hsum] at hfa
  clear hc ho hs hT hn hsum
  generalize dr (fr S) (bg W L) (R * W) = P at *
  generalize R * W = M at *
  have HP := hide (And.intro hbd hri)
  clear hbd hri
  obtain ⟨cc, hcc⟩ : ∃ cc, cc = Bt.cntL S := ⟨_, rfl⟩
  rw [← hcc] at B2 hcl hfa
  clear hcc
  unfold cbV at *
  go_enter Tryz.func16, Tryz.ntmps16
  go_wp2_with fail
  refine (C.out _ (grown_alloc w _)).mono ?_
  rintro e w1 ⟨v0, rfl, hown, hw1⟩
  have G1 := hide (And.intro (grown_trans (grown_alloc w _) hw1) (span_base (base' := w.heap.size) hown (by simp)))
  clear hw1 hown
  obtain ⟨vo, vc, rfl⟩ := span_form G1.out.2
  by_cases hk1 : k < 1
  · go_wp2
    go_ret2
    exact ⟨Or.inl ⟨Or.inl hk1, rfl⟩, G1.out.1⟩
  by_cases hk2 : 16 < k
  · go_wp2
    go_ret2
    exact ⟨Or.inl ⟨Or.inr hk2, rfl⟩, G1.out.1⟩
  obtain ⟨m, rfl⟩ : ∃ m : Nat, k = (m : Int) := ⟨k.toNat, by omega⟩
  by_cases hf : (M : Int) - (cc : Int) < (m : Int)
  · go_wp2_with (first | (go_at_call 36; refine (B1.out _ G1.out.1).mono ?_; rintro e w' ⟨rfl, rfl⟩) | (go_at_call 37; refine (B2.out _ G1.out.1).mono ?_; rintro e w' ⟨rfl, rfl⟩))
    go_ret2
    exact ⟨Or.inr ⟨m, rfl, by omega, by omega, Or.inl ⟨by omega, rfl⟩⟩, G1.out.1⟩
  · have hm1 : 1 ≤ m := by omega
    have hm2 : m ≤ (P.map Prod.snd).sum := by omega
    have hne : 0 < P.length := by
      rcases P with _ | ⟨p, t⟩
      · simp at hm2; omega
      · simp
    obtain ⟨g0, c0, cur0, e0, hb0, hg0, -, ht0⟩ := span_row G1.out.2 hne
    cases e0
    have hsp : SpRow w1 g0 P := ⟨cur0, hg0, ht0⟩
    have HC := hide (choose_any g0 vc m P w1 hsp (by omega) (fun i p h => by have := HP.out.1 i p h; omega) HP.out.2 hm1 (by omega) hm2)
    clear hsp hg0 ht0
    go_wp2_with (first | (go_at_call 36; refine (B1.out _ G1.out.1).mono ?_; rintro e w' ⟨rfl, rfl⟩) | (go_at_call 37; refine (B2.out _ G1.out.1).mono ?_; rintro e w' ⟨rfl, rfl⟩) | fail)
    refine HC.out.mono ?_
    rintro e w9 ⟨v, ps, rfl, hgr, hown, hg9⟩
    have HZ := hide (And.intro hgr (And.intro (own_base hown G1.out.1.size) (grown_then G1.out.1 hg9 (fun k e => by cases e; exact Or.inl hb0))))
    clear hgr hown hg9
    go_wp2
    go_ret2
    exact ⟨Or.inr ⟨m, rfl, hm1, by omega, Or.inr ⟨hm2, v, ps, rfl, HZ.out.1, HZ.out.2.1⟩⟩, HZ.out.2.2⟩
end Go.Proofs.YtnnmaknjhfjojaaGreatDoor
