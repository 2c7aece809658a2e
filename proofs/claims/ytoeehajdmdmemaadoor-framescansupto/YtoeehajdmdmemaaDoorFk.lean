/- The contracts of the statements' own helpers for frames: SameFrame, LentFrame, KeptFrame, OverFrame, Pick. -/
import Derived.Test.YtoeehajdmdmemaaDoorFa
namespace Go.Proofs.YtoeehajdmdmemaaDoor
open Go.RowKit
attribute [local go_sem ↓] Go.wp_at_zero Go.wp_at_succ

theorem tmod_neg (x : Int) (n : Nat) (hn : 1 ≤ n) (h : x.tmod (n : Int) < 0) : x.tmod (n : Int) + (n : Int) = x % (n : Int) := by
  have h1 := Int.tmod_eq_emod (a := x) (b := (n : Int))
  have h2 := Int.emod_nonneg x (show (n : Int) ≠ 0 by omega)
  have h3 := Int.emod_lt_of_pos x (show (0 : Int) < (n : Int) by omega)
  rw [h1] at h ⊢
  split at h
  · omega
  · rename_i h4
    rw [if_neg h4]
    simp
theorem tmod_nonneg (x : Int) (n : Nat) (hn : 1 ≤ n) (h : 0 ≤ x.tmod (n : Int)) : x.tmod (n : Int) = x % (n : Int) := by
  have h1 := Int.tmod_eq_emod (a := x) (b := (n : Int))
  have h2 := Int.emod_nonneg x (show (n : Int) ≠ 0 by omega)
  have h3 := Int.emod_lt_of_pos x (show (0 : Int) < (n : Int) by omega)
  rw [h1] at h ⊢
  split
  · omega
  · rename_i h4
    rw [if_neg h4] at h
    simp at h
    omega

set_option maxHeartbeats 400000 in
theorem pick_any (x N : Int) (n : Nat) (w : World) (hN : N = (n : Int)) (hn : 1 ≤ n) (hn2 : n ≤ 4611686018427387904) :
    Calls Tryd.prog 31 #[.int .i64 x, .int .i64 N] w fun e w' => e = .returned (.int .i64 (x % (n : Int))) ∧ w' = w := by
  subst hN
  have h1 : (1 : Int) ≤ (n : Int) := by omega
  have h2 : ((n : Int) == 0) = false := by simp; omega
  have hb := Int.tmod_lt_of_pos x (show (0 : Int) < (n : Int) by omega)
  have hb2 := Int.lt_tmod_of_pos x (show (0 : Int) < (n : Int) by omega)
  have hr1 := tmod_neg x n hn
  have hr2 := tmod_nonneg x n hn
  by_cases hs : x.tmod (n : Int) < 0
  · have hr := hr1 hs
    have HR := hide hr
    clear hr hr1 hr2
    go_enter Tryd.func31, Tryd.ntmps31
    go_wp2
    go_ret
    exact ⟨by rw [← HR.out]; rfl, rfl⟩
  · have hs2 : 0 ≤ x.tmod (n : Int) := by omega
    have hr := hr2 hs2
    have HR := hide hr
    clear hr hr1 hr2
    go_enter Tryd.func31, Tryd.ntmps31
    go_wp2
    go_ret
    exact ⟨by rw [← HR.out]; rfl, rfl⟩



theorem results_cell1 {fn : Func} {p : Tmp} {ty : TypeId} (h : fn.results = #[.cell p ty]) (tmps : Array Value) (P : Program) (w : World) :
    (results fn tmps).run P w = ((asAddr (tmps.getD p undef)).run P w).andThen fun a w₁ => (loadVar ty a).run P w₁ := by
  simp only [results, h]
  simp [Sem.run_bind, Result.andThen]

set_option maxHeartbeats 1000000 in
theorem sameFr (e s : Int) (ao bo : Option Addr) (n c d : Nat) (xs : List Int) (w : World) (hn : xs.length = n) (ha : At w ao xs) (hb : At w bo xs) (hm : n ≤ 4611686018427387904) :
    Calls Tryd.prog 23 #[frV e s (.slice ao n c), frV e s (.slice bo n d)] w fun r w' => r = .returned (.bool true) ∧ w.grownBy w' none := by
  unfold frV
  have HA := hide (And.intro hn (And.intro ha hb))
  clear hn ha hb
  go_enter Tryd.func23, Tryd.ntmps23
  go_wp2_with fail
  have g := grown_trans (World.grownBy_alloc w (.cells #[.int .u64 e, .int .u64 s, .slice ao n c] 25) none) (World.grownBy_alloc _ (.cells #[.int .u64 e, .int .u64 s, .slice bo n d] 25) none)
  refine (same_eq ao bo n c d xs _ HA.out.1 (HA.out.2.1.kept g (fun _ _ e => by cases e)) (HA.out.2.2.kept g (fun _ _ e => by cases e)) hm).mono ?_
  rintro r w1 ⟨rfl, hg⟩
  have G := hide (grown_trans g hg)
  clear g hg
  go_wp2
  go_ret
  exact ⟨rfl, G.out⟩

theorem LentAt.kept {w w' : World} {B k : Nat} {v : Value} {xs : List Int} {c : Array Value} {t : TypeId} {fr : Nat × Nat} (h : LentAt w B v xs) (hg : w.grownBy w' (some k)) (hk : w.heap[k]? = some (.cells c t fr)) (hne : t ≠ 5) : LentAt w' B v xs := by
  obtain ⟨g, cap, hv, ho⟩ := h
  exact ⟨g, cap, hv, own_kept ho hg hk hne⟩
theorem LentAt.grown {w w' : World} {B : Nat} {v : Value} {xs : List Int} (h : LentAt w B v xs) (hg : w.grownBy w' none) : LentAt w' B v xs := by
  obtain ⟨g, cap, hv, ho⟩ := h
  exact ⟨g, cap, hv, own_grown ho hg⟩
theorem LentAt.base {w : World} {B B' : Nat} {v : Value} {xs : List Int} (h : LentAt w B v xs) (hb : B' ≤ B) : LentAt w B' v xs := by
  obtain ⟨g, cap, hv, ho⟩ := h
  exact ⟨g, cap, hv, own_base ho hb⟩

set_option maxHeartbeats 1000000 in
theorem lentFr (e s : Int) (ao : Option Addr) (n cap : Nat) (xs : List Int) (w : World) (hn : xs.length = n) (hat : At w ao xs) (hnil : ao = none → n = 0 ∧ cap = 0) (hb : n ≤ 140737488355000) :
    Calls Tryd.prog 10 #[frV e s (.slice ao n cap)] w fun r w' => ∃ v, r = .returned (frV e s v) ∧ LentAt w' w.heap.size v xs ∧ w.grownBy w' none := by
  unfold frV
  have HA := hide (And.intro hn (And.intro hat hnil))
  clear hn hat hnil
  go_enter Tryd.func10, Tryd.ntmps10
  go_wp2_with fail
  have g := grown_trans (World.grownBy_alloc w (.cells #[.int .u64 e, .int .u64 s, .slice ao n cap] 25) none) (World.grownBy_alloc _ (.cells #[.int .u64 0, .int .u64 0, .slice none 0 0] 25) none)
  have bx : ((w.alloc (.cells #[.int .u64 e, .int .u64 s, .slice ao n cap] 25)).alloc (.cells #[.int .u64 0, .int .u64 0, .slice none 0 0] 25)).heap[w.heap.size]? = some (.cells [Value.int .u64 e, .int .u64 s, .slice ao n cap].toArray 25 (0, 0)) := (Below.heap_alloc _ _ _ (by simp)).trans (heap_alloc_new w _)
  have by' : ((w.alloc (.cells #[.int .u64 e, .int .u64 s, .slice ao n cap] 25)).alloc (.cells #[.int .u64 0, .int .u64 0, .slice none 0 0] 25)).heap[w.heap.size + 1]? = some (.cells [Value.int .u64 0, .int .u64 0, .slice none 0 0].toArray 25 (0, 0)) := by
    have := heap_alloc_new (w.alloc (.cells #[.int .u64 e, .int .u64 s, .slice ao n cap] 25)) (.cells [Value.int .u64 0, .int .u64 0, .slice none 0 0].toArray 25)
    rwa [World.size_alloc] at this
  refine (lent_any ao n cap xs _ HA.out.1 (HA.out.2.1.kept g (fun _ _ e => by cases e)) HA.out.2.2 hb).mono ?_
  rintro r w1 ⟨v, rfl, hl, hg⟩
  obtain ⟨gv, vc, rfl, l1, l2, l3, l4, l5, l6⟩ := hl.all
  have HL := hide (And.intro hl (And.intro g (And.intro hg l3)))
  have BX := hide ((hg.block _ (row_lt bx) (by simp)).trans bx)
  have BY := hide ((hg.block _ (row_lt by') (by simp)).trans by')
  clear hl g hg bx by' l1 l2 l3 l4 l5 l6
  obtain ⟨c0, c1, c2⟩ := box_cells BX.out
  obtain ⟨d0, d1, d2⟩ := box_cells BY.out
  have f2 := free_row BX.out 2
  have k0 := free_row BY.out 0
  have k1 := free_row BY.out 1
  have k2 := free_row BY.out 2
  go_wp2
  obtain ⟨hl, g, hg, l3⟩ := HL.out
  have hs1 := grown_setCell w1 w.heap.size 2 (.slice (some ⟨gv, 0, none⟩) xs.length vc)
  have hl1 := hl.kept hs1 BX.out (by decide)
  have hy1 := (hs1.block _ (row_lt BY.out) (by simp)).trans BY.out
  obtain ⟨eb, eg⟩ := set3 hy1 (.int .u64 e) (.int .u64 s) (.slice (some ⟨gv, 0, none⟩) xs.length vc)
  have hl2 := hl1.kept eg hy1 (by decide)
  obtain ⟨e0, e1, e2⟩ := box_cells eb
  have HZ : Hid (_ ∧ _) := And.intro (hl2.base (B' := w.heap.size) (by simp; omega)) (grown_then (grown_then (grown_trans g hg) hs1 (fun j e => by cases e; exact Or.inl (Nat.le_refl _))) eg (fun j e => by cases e; exact Or.inl (by omega)))
  clear hl g hg l3 hs1 hl1 hy1 eb eg hl2 HL BX BY c0 c1 c2 d0 d1 d2 f2 k0 k1 k2
  generalize (((w1.setCell ⟨w.heap.size, 2, none⟩ (.slice (some ⟨gv, 0, none⟩) xs.length vc)).setCell ⟨w.heap.size + 1, 0, none⟩ (.int .u64 e)).setCell ⟨w.heap.size + 1, 1, none⟩ (.int .u64 s)).setCell ⟨w.heap.size + 1, 2, none⟩ (.slice (some ⟨gv, 0, none⟩) xs.length vc) = w2 at *
  refine bodyPost_ret (v := .agg #[.int .u64 e, .int .u64 s, .slice (some ⟨gv, 0, none⟩) xs.length vc]) ?_ rfl ?_
  · rw [results_cell1 rfl]; go_simp
  exact ⟨_, rfl, HZ.out.1, HZ.out.2⟩

set_option maxHeartbeats 1000000 in
theorem keptFr (e s : Int) (g cap : Nat) (bo : Option Addr) (n d : Nat) (xs : List Int) (w : World) (hn : xs.length = n) (hc1 : n + 12 ≤ cap) (hc2 : cap ≤ maxLen) (ha : At w (some ⟨g, 0, none⟩) (xs ++ marks 1 12)) (hb : At w bo xs) (hm : n ≤ 140737488355328) :
    Calls Tryd.prog 13 #[frV e s (.slice (some ⟨g, 0, none⟩) n cap), frV e s (.slice bo n d)] w fun r w' => r = .returned (.bool true) ∧ w.grownBy w' none := by
  unfold frV
  have HA := hide (And.intro hn (And.intro ha hb))
  have HC := hide (And.intro hc1 hc2)
  clear hn ha hb hc1 hc2
  have g1 := grown_trans (World.grownBy_alloc w (.cells #[.int .u64 e, .int .u64 s, .slice (some ⟨g, 0, none⟩) n cap] 25) none) (World.grownBy_alloc _ (.cells #[.int .u64 e, .int .u64 s, .slice bo n d] 25) none)
  have bx : ((w.alloc (.cells #[.int .u64 e, .int .u64 s, .slice (some ⟨g, 0, none⟩) n cap] 25)).alloc (.cells #[.int .u64 e, .int .u64 s, .slice bo n d] 25)).heap[w.heap.size]? = some (.cells [Value.int .u64 e, .int .u64 s, .slice (some ⟨g, 0, none⟩) n cap].toArray 25 (0, 0)) := (Below.heap_alloc _ _ _ (by simp)).trans (heap_alloc_new w _)
  have by' : ((w.alloc (.cells #[.int .u64 e, .int .u64 s, .slice (some ⟨g, 0, none⟩) n cap] 25)).alloc (.cells #[.int .u64 e, .int .u64 s, .slice bo n d] 25)).heap[w.heap.size + 1]? = some (.cells [Value.int .u64 e, .int .u64 s, .slice bo n d].toArray 25 (0, 0)) := by
    have := heap_alloc_new (w.alloc (.cells #[.int .u64 e, .int .u64 s, .slice (some ⟨g, 0, none⟩) n cap] 25)) (.cells [Value.int .u64 e, .int .u64 s, .slice bo n d].toArray 25)
    rwa [World.size_alloc] at this
  have HG := hide (And.intro g1 (And.intro bx by'))
  clear g1 bx by'
  go_enter Tryd.func13, Tryd.ntmps13
  go_wp2_with fail
  generalize (w.alloc (.cells #[.int .u64 e, .int .u64 s, .slice (some ⟨g, 0, none⟩) n cap] 25)).alloc (.cells #[.int .u64 e, .int .u64 s, .slice bo n d] 25) = w1 at *
  refine (sameFr e s (some ⟨g, 0, none⟩) bo n cap d xs w1 HA.out.1 ?_ (HA.out.2.2.kept HG.out.1 (fun _ _ e => by cases e)) (by omega)).mono ?_
  · have := (HA.out.2.1.kept HG.out.1 (fun _ _ e => by cases e)).take n
    rwa [List.take_left' HA.out.1] at this
  rintro r w2 ⟨rfl, hg⟩
  have HG2 := hide (grown_trans HG.out.1 hg)
  have BX := hide ((hg.block _ (row_lt HG.out.2.1) (by simp)).trans HG.out.2.1)
  have BY := hide ((hg.block _ (row_lt HG.out.2.2) (by simp)).trans HG.out.2.2)
  obtain ⟨c0, c1, c2⟩ := box_cells BX.out
  obtain ⟨d0, d1, d2⟩ := box_cells BY.out
  clear hg HG
  go_wp2_with fail
  refine (kept_any g cap bo n d xs w2 HA.out.1 HC.out.1 HC.out.2 (HA.out.2.1.kept HG2.out (fun _ _ e => by cases e)) (HA.out.2.2.kept HG2.out (fun _ _ e => by cases e)) hm).mono ?_
  rintro r w3 ⟨rfl, hg⟩
  have HG3 := hide (grown_trans HG2.out hg)
  clear hg
  go_wp2
  go_ret
  exact ⟨rfl, HG3.out⟩

set_option maxHeartbeats 1000000 in
theorem overFr (e s : Int) (g cap n : Nat) (w : World) (hb : ∃ cur, w.heap[g]? = some (.cells cur 5 (0, 0)) ∧ cur.size = cap) (hc1 : n + 12 ≤ cap) (hc2 : cap ≤ maxLen) (hm : n ≤ 140737488355328) :
    Calls Tryd.prog 14 #[frV e s (.slice (some ⟨g, 0, none⟩) n cap)] w fun r w' => r = .returned (.tuple #[]) ∧ w.grownBy w' (some g) := by
  unfold frV
  have HA := hide (And.intro hb (And.intro hc1 hc2))
  clear hb hc1 hc2
  go_enter Tryd.func14, Tryd.ntmps14
  go_wp2_with fail
  have g1 := World.grownBy_alloc w (.cells #[.int .u64 e, .int .u64 s, .slice (some ⟨g, 0, none⟩) n cap] 25) none
  refine (over_any g cap n _ ?_ HA.out.2.1 HA.out.2.2 hm).mono ?_
  · obtain ⟨cur, hc, hs⟩ := HA.out.1
    exact ⟨cur, (g1.block _ (row_lt hc) (by simp)).trans hc, hs⟩
  rintro r w1 ⟨rfl, hg⟩
  have G := hide (grown_trans (grown_none g1 (some g)) hg)
  clear g1 hg
  go_wp2
  go_end0
  exact ⟨rfl, G.out⟩
end Go.Proofs.YtoeehajdmdmemaaDoor
