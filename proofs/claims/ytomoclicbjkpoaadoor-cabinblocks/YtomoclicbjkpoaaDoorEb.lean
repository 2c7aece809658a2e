/- The contracts of the statements' own helpers for cabins: LentCabin, SameCabin, KeptCabin, OverCabin. -/
import Derived.Test.YtomoclicbjkpoaaDoorEa
namespace Go.Proofs.YtomoclicbjkpoaaDoor
open Go.RowKit Cx
attribute [local go_sem ↓] Go.wp_at_zero Go.wp_at_succ

theorem own_base {w : World} {base base' n : Nat} {v : Value} {xs : List Value} (h : w.ownsRow base 3 1 v n xs) (hb : base' ≤ base) : w.ownsRow base' 3 1 v n xs := by
  obtain ⟨hl, h⟩ := h
  refine ⟨hl, ?_⟩
  rcases h with h | ⟨g, cap, cur, rfl, hb', hr⟩
  · exact Or.inl h
  · exact Or.inr ⟨g, cap, cur, rfl, by omega, hr⟩
theorem LentAt.kept {w w' : World} {B k : Nat} {v : Value} {xs : List Int} {c : Array Value} {t : TypeId} {fr : Nat × Nat} (h : LentAt w B v xs) (hg : w.grownBy w' (some k)) (hk : w.heap[k]? = some (.cells c t fr)) (hne : t ≠ 3) : LentAt w' B v xs := by
  obtain ⟨g, cap, hv, ho⟩ := h
  exact ⟨g, cap, hv, own_kept ho hg hk hne⟩
theorem LentAt.grown {w w' : World} {B : Nat} {v : Value} {xs : List Int} (h : LentAt w B v xs) (hg : w.grownBy w' none) : LentAt w' B v xs := by
  obtain ⟨g, cap, hv, ho⟩ := h
  exact ⟨g, cap, hv, own_grown ho hg⟩
theorem LentAt.base {w : World} {B B' : Nat} {v : Value} {xs : List Int} (h : LentAt w B v xs) (hb : B' ≤ B) : LentAt w B' v xs := by
  obtain ⟨g, cap, hv, ho⟩ := h
  exact ⟨g, cap, hv, own_base ho hb⟩
theorem LentAt.cb {w : World} {B : Nat} {v : Value} {xs : List Int} (h : LentAt w B v xs) (hs : xs.length ≤ 17592186044000) : ∃ g cap, v = .slice (some ⟨g, 0, none⟩) xs.length cap ∧ CbIn w (some ⟨g, 0, none⟩) xs.length cap xs := by
  obtain ⟨g, cap, hv, h1, h2, h3, h4, h5, -⟩ := h.at
  exact ⟨g, cap, hv, h5, rfl, (fun e => by cases e), h1, h2, hs⟩

set_option maxHeartbeats 1000000 in
theorem lentCabin_any (R W : Int) (ao : Option Addr) (n cap : Nat) (L : List Int) (w : World) (hc : CbIn w ao n cap L) :
    Calls Tryd.prog 10 #[cbV R W (.slice ao n cap)] w fun e w' => ∃ v, e = .returned (cbV R W v) ∧ LentAt w' w.heap.size v L ∧ w.grownBy w' none := by
  have C := hide (fun w' (hg : w.grownBy w' none) => lent_any ao n cap L w' hc.len (hc.at_.grown hg) hc.nil (by have := hc.sm; omega))
  clear hc
  unfold cbV
  have g2 := grown2 w (.cells #[.int .i64 R, .int .i64 W, .slice ao n cap] 24) (.cells #[.int .i64 0, .int .i64 0, .slice none 0 0] 24)
  have hb1 : ((w.alloc (.cells #[.int .i64 R, .int .i64 W, .slice ao n cap] 24)).alloc (.cells #[.int .i64 0, .int .i64 0, .slice none 0 0] 24)).heap[w.heap.size]? = _ := heap_kept (heap_alloc_new w (.cells #[.int .i64 R, .int .i64 W, .slice ao n cap] 24)) (grown_alloc _ _) (by simp)
  have hb2 := heap_alloc_new (w.alloc (.cells #[.int .i64 R, .int .i64 W, .slice ao n cap] 24)) (.cells #[.int .i64 0, .int .i64 0, .slice none 0 0] 24)
  rw [alloc_size] at hb2
  have HB := hide (And.intro g2 (And.intro hb1 hb2))
  clear g2 hb1 hb2
  go_enter Tryd.func10, Tryd.ntmps10
  go_wp2_with fail
  refine (C.out _ HB.out.1).mono ?_
  rintro e w1 ⟨v, rfl, hl, hg1⟩
  have hl2 := hl.base (B' := w.heap.size) HB.out.1.size
  have k1 := heap_kept HB.out.2.1 hg1 (by simp)
  have k2 := heap_kept HB.out.2.2 hg1 (by simp)
  obtain ⟨gv, vc, rfl, -⟩ := hl.all
  have HR := hide (And.intro hl2 (And.intro (grown_trans HB.out.1 hg1) (And.intro k1 k2)))
  obtain ⟨c0, c1, c2⟩ := box3 k1
  obtain ⟨d0, d1, d2⟩ := box3 k2
  have f2 := free_row k1 2
  have e0 := free_row k2 0
  have e1 := free_row k2 1
  have e2 := free_row k2 2
  clear hl hl2 hg1 k1 k2 HB C
  go_wp2
  obtain ⟨hl, hg1, k1, k2⟩ := HR.out
  have s1 := grown_setCell w1 w.heap.size 2 (.slice (some ⟨gv, 0, none⟩) L.length vc)
  have k3 := heap_kept k2 s1 (by simp)
  obtain ⟨s2, s3⟩ := set3 k3 (.int .i64 R) (.int .i64 W) (.slice (some ⟨gv, 0, none⟩) L.length vc)
  refine bodyPost_ret (results_cell_row rfl _ _ (w.heap.size + 1) 24 #[.int .i64 R, .int .i64 W, .slice (some ⟨gv, 0, none⟩) L.length vc] (0, 0) _ rfl s2 Tryd.underlying24 rfl (by kernel_rfl)) rfl ⟨_, rfl, ?_, ?_⟩
  · exact (hl.kept s1 k1 (by decide)).kept s3 k3 (by decide)
  · exact grown_then (grown_then hg1 s1 (fun k e => by cases e; exact Or.inl (Nat.le_refl _))) s3 (fun k e => by cases e; exact Or.inl (by omega))

set_option maxHeartbeats 1000000 in
theorem sameCabin_any (R W : Int) (ao bo : Option Addr) (n c d : Nat) (L : List Int) (w : World) (hn : L.length = n) (ha : At w ao L) (hb : At w bo L) (hm : n ≤ 4611686018427387904) :
    Calls Tryd.prog 37 #[cbV R W (.slice ao n c), cbV R W (.slice bo n d)] w fun r w' => r = .returned (.bool true) ∧ w.grownBy w' none := by
  unfold cbV
  have HA := hide (And.intro hn (And.intro ha hb))
  clear hn ha hb
  go_enter Tryd.func37, Tryd.ntmps37
  go_wp2_with fail
  have g := grown2 w (.cells #[.int .i64 R, .int .i64 W, .slice ao n c] 24) (.cells #[.int .i64 R, .int .i64 W, .slice bo n d] 24)
  refine (same_eq ao bo n c d L _ HA.out.1 (HA.out.2.1.grown g) (HA.out.2.2.grown g) hm).mono ?_
  rintro r w1 ⟨rfl, hg⟩
  have G := hide (grown_trans g hg)
  clear g hg
  go_wp2
  go_ret
  exact ⟨rfl, G.out⟩

set_option maxHeartbeats 1000000 in
theorem keptCabin_any (R W : Int) (g cap : Nat) (bo : Option Addr) (n d : Nat) (L : List Int) (w : World) (hn : L.length = n) (hc1 : n + 12 ≤ cap) (hc2 : cap ≤ maxLen) (ha : At w (some ⟨g, 0, none⟩) (L ++ marks 1 12)) (hb : At w bo L) (hm : n ≤ 17592186044300) :
    Calls Tryd.prog 16 #[cbV R W (.slice (some ⟨g, 0, none⟩) n cap), cbV R W (.slice bo n d)] w fun r w' => r = .returned (.bool true) ∧ w.grownBy w' none := by
  unfold cbV
  have HA := hide (And.intro hn (And.intro ha hb))
  have HC := hide (And.intro hc1 hc2)
  clear hn ha hb hc1 hc2
  have g1 := grown2 w (.cells #[.int .i64 R, .int .i64 W, .slice (some ⟨g, 0, none⟩) n cap] 24) (.cells #[.int .i64 R, .int .i64 W, .slice bo n d] 24)
  have bx : ((w.alloc (.cells #[.int .i64 R, .int .i64 W, .slice (some ⟨g, 0, none⟩) n cap] 24)).alloc (.cells #[.int .i64 R, .int .i64 W, .slice bo n d] 24)).heap[w.heap.size]? = _ := heap_kept (heap_alloc_new w _) (grown_alloc _ _) (by simp)
  have by' := heap_alloc_new (w.alloc (.cells #[.int .i64 R, .int .i64 W, .slice (some ⟨g, 0, none⟩) n cap] 24)) (.cells #[.int .i64 R, .int .i64 W, .slice bo n d] 24)
  rw [alloc_size] at by'
  have HG := hide (And.intro g1 (And.intro bx by'))
  clear g1 bx by'
  go_enter Tryd.func16, Tryd.ntmps16
  go_wp2_with fail
  have X := sameCabin_any R W (some ⟨g, 0, none⟩) bo n cap d L ((w.alloc (.cells #[.int .i64 R, .int .i64 W, .slice (some ⟨g, 0, none⟩) n cap] 24)).alloc (.cells #[.int .i64 R, .int .i64 W, .slice bo n d] 24)) HA.out.1 (by
    have := (HA.out.2.1.grown HG.out.1).take n
    rwa [List.take_left' HA.out.1] at this) (HA.out.2.2.grown HG.out.1) (by omega)
  refine X.mono ?_
  clear X
  rintro r w1 ⟨rfl, hg⟩
  have k1 := heap_kept HG.out.2.1 hg (by simp)
  have k2 := heap_kept HG.out.2.2 hg (by simp)
  have G := hide (grown_trans HG.out.1 hg)
  obtain ⟨c0, c1, c2⟩ := box3 k1
  obtain ⟨d0, d1, d2⟩ := box3 k2
  clear hg k1 k2 HG
  go_wp2_with fail
  refine (kept_any g cap bo n d L _ HA.out.1 HC.out.1 HC.out.2 (HA.out.2.1.grown G.out) (HA.out.2.2.grown G.out) hm).mono ?_
  rintro r w2 ⟨rfl, hg⟩
  have G2 := hide (grown_trans G.out hg)
  clear hg
  go_wp2
  go_ret
  exact ⟨rfl, G2.out⟩
set_option maxHeartbeats 1000000 in
theorem overCabin_any (R W : Int) (g cap n : Nat) (w : World) (hb : ∃ cur, w.heap[g]? = some (.cells cur 3 (0, 0)) ∧ cur.size = cap) (hc1 : n + 12 ≤ cap) (hc2 : cap ≤ maxLen) (hm : n ≤ 17592186044300) :
    Calls Tryd.prog 17 #[cbV R W (.slice (some ⟨g, 0, none⟩) n cap)] w fun r w' => r = .returned (.tuple #[]) ∧ w.grownBy w' (some g) := by
  unfold cbV
  have HB := hide (And.intro hb (And.intro hc1 hc2))
  clear hb hc1 hc2
  go_enter Tryd.func17, Tryd.ntmps17
  go_wp2_with fail
  have X := over_any g cap n (w.alloc (.cells #[.int .i64 R, .int .i64 W, .slice (some ⟨g, 0, none⟩) n cap] 24)) (by
    obtain ⟨cur, h1, h2⟩ := HB.out.1
    exact ⟨cur, heap_kept h1 (grown_alloc _ _) (by simp), h2⟩) HB.out.2.1 HB.out.2.2 hm
  refine X.mono ?_
  clear X
  rintro r w1 ⟨rfl, hg⟩
  have G := hide (grown_trans (grown_none (grown_alloc w _) _) hg)
  clear hg
  go_wp2
  go_end0
  exact ⟨rfl, G.out⟩
end Go.Proofs.YtomoclicbjkpoaaDoor
