/- The contracts of Words: what steps from one word to the next, what gathers them. -/
import Derived.Test.YtodonfdkegfmfabRow
namespace Go.Proofs.Ytodonfdkegfmfab
open Go.RowKit
attribute [local go_sem ↓] Go.wp_at_zero Go.wp_at_succ

theorem seed_step (s i : Nat) : IntKind.u64.wrap (((Mx.seedAt s i : Nat) : Int) + 11400714819323198485) = ((Mx.seedAt s (i + 1) : Nat) : Int) := by
  rw [← Mx.seedAt_succ]
  exact wrap_nat (Mx.seedAt s i + 11400714819323198485)

set_option maxHeartbeats 400000 in
theorem next_any (B s i : Nat) (w : World) (h : SeedAt w B (Mx.seedAt s i)) :
    Calls Try.prog 17 #[.pointer (some ⟨B, 0, none⟩)] w fun e w' => e = .returned (.int .u64 ((Mx.word s (i + 1) : Nat) : Int)) ∧ SeedAt w' B (Mx.seedAt s (i + 1)) ∧ w.grownBy w' (some B) := by
  have hc := h.cell
  have hf := h.free
  have hs := seed_step s i
  have C := hide (fun w => hash_any (Mx.seedAt s (i + 1)) (Mx.seedAt_lt _ _) w)
  have hS := hide (fun (h : SeedAt w B (Mx.seedAt s i)) => h.set (Mx.seedAt s (i + 1)))
  rw [show Mx.word s (i + 1) = Mx.hash (Mx.seedAt s (i + 1)) from rfl]
  generalize Mx.hash (Mx.seedAt s (i + 1)) = y at *
  generalize Mx.seedAt s (i + 1) = t at *
  generalize Mx.seedAt s i = t0 at *
  have H := hide h
  clear h
  go_enter Try.func17, Try.ntmps17
  go_wp2_with fail
  refine (C.out _).mono ?_
  rintro e w' ⟨rfl, hw⟩
  have HW : Hid (SeedAt w' B t ∧ w.grownBy w' (some B)) := by rw [hw]; exact ⟨hS.out H.out, grown_setCell w B 0 _⟩
  clear hw hS H hc hf
  go_wp2
  go_ret
  exact ⟨rfl, HW.out⟩

set_option maxHeartbeats 400000 in
theorem wordsOf_any (s : Nat) (w : World) :
    Calls Try.prog 11 #[.int .u64 (s : Int)] w fun e w' => e = .returned (.func (.func 17) #[] #[.pointer (some ⟨w.heap.size, 0, none⟩)]) ∧ SeedAt w' w.heap.size s ∧ w.grownBy w' none := by
  have HS : Hid (SeedAt (w.alloc (.cells #[.int .u64 (s : Int)] 22)) w.heap.size s) := heap_alloc_new w _
  have hmf : ∀ (fn : Fn) (first cap : Array Value) (w : World), (Instr.makeFunc fn first cap).run Try.prog w = .ok (.func fn first cap) w := fun _ _ _ _ => rfl
  go_enter Try.func11, Try.ntmps11
  go_wp2
  go_ret
  exact ⟨rfl, HS.out, grown_alloc w _⟩

set_option maxHeartbeats 1000000 in
theorem gather_any (s n B : Nat) (w : World) (h : SeedAt w B (Mx.seedAt s 0)) (hn : n ≤ 65536) :
    Calls Try.prog 10 #[.int .i64 (n : Int), .func (.func 17) #[] #[.pointer (some ⟨B, 0, none⟩)]] w fun e w' => e = .returned (.slice (some ⟨w.heap.size, 0, none⟩) n n) ∧
      w'.heap[w.heap.size]? = some (.cells (bv (Mx.words s n)).toArray 22 (0, 0)) ∧ w.grownBy w' (some B) := by
  have hmk := make_limbs n (by omega)
  have hB := h.lt
  have H := hide h
  clear h
  go_enter Try.func10, Try.ntmps10
  go_wp2
  generalize hG : w.heap.size = G at *
  have HG := hide hG
  clear hG
  go_loopg [11] n (fun k i wr => ∃ (j : Nat) (l : List Value), k + j = n ∧ i = .int .i64 (j : Int) ∧ Hid (wr.heap[G]? = some (.cells l.toArray 22 (0, 0)) ∧ l.take j = bv (Mx.words s j) ∧ SeedAt wr B (Mx.seedAt s j) ∧ w.grownBy wr (some B)) ∧ l.length = n)
  case atStart =>
    refine ⟨0, List.replicate n (Value.int .u64 0), by omega, rfl, hide ⟨?_, rfl, H.out.kept (grown_alloc w _) (by simp), World.grownBy_alloc w _ _⟩, by simp⟩
    have := heap_alloc_new w (.cells (List.replicate n (Value.int .u64 0)).toArray 22)
    rw [HG.out] at this
    simpa using this
  case round =>
    obtain ⟨j, l, hkj, rfl, hl, hll⟩ := hrel
    by_cases hk : 0 < gk
    · have h2 : (j : Int) < (n : Int) := by omega
      have hB2 : ¬ G = B := by omega
      go_wp2_with fail
      obtain ⟨k1, k2, k3, k4⟩ := hl.out
      refine (next_any B s j wr k3).mono ?_
      rintro e w2 ⟨rfl, hs2, hg2⟩
      have kl := row_lt k1
      have kr : w2.heap[G]? = some (.cells l.toArray 22 (0, 0)) := (hg2.block G kl (by simpa using hB2)).trans k1
      have hold : w2.cell? ⟨G, j, none⟩ = some l[j] := by rw [cell_row kr, List.getElem?_eq_getElem (by omega)]
      have hfr := free_row kr j
      have HN : Hid (Mx.words s (j + 1) = Mx.words s j ++ [Mx.word s (j + 1)]) := Mx.words_succ s j
      have H2 := hide (And.intro kr (And.intro hs2 (And.intro (grown_trans k4 hg2) (And.intro k2 (show w.heap.size ≤ G by rw [HG.out]; exact Nat.le_refl _)))))
      generalize Mx.word s (j + 1) = y at *
      generalize l[j] = u0 at *
      clear hl k1 k2 k3 k4 hs2 hg2 kr kl
      go_wp2
      go_roundg (gk - 1)
      case measure => omega
      case rel =>
        obtain ⟨r1, r2, r3, r4, r5⟩ := H2.out
        have hgc := grown_setCell w2 G j (.int .u64 (y : Int))
        refine ⟨j + 1, l.set j (.int .u64 (y : Int)), by omega, by go_num, hide ⟨row_setCell r1 _ _, ?_, ?_, ?_⟩, by simpa using hll⟩
        · rw [take_set_succ l j _ (by omega), r4, HN.out, bv_append]; rfl
        · exact r2.kept hgc (by simpa using hB2)
        · exact grown_then r3 hgc (fun k e => by cases e; exact Or.inl r5)
    · obtain rfl : j = n := by omega
      have hj : ¬ (j : Int) < (j : Int) := by omega
      go_wp2
      go_ret
      obtain ⟨k1, k2, k3, k4⟩ := hl.out
      rw [List.take_of_length_le (by omega)] at k2
      rw [k2] at k1
      rw [HG.out]
      exact ⟨rfl, k1, k4⟩

set_option maxHeartbeats 400000 in
theorem words_bad (s : Nat) (n : Int) (w : World) (hn : n < 0 ∨ 65536 < n) :
    Calls Try.prog 5 #[.int .u64 (s : Int), .int .i64 n] w fun e w' => e = .returned (.tuple #[.slice none 0 0, .int .i64 2]) ∧ w' = w := by
  rcases hn with h | h
  · go_enter Try.func5, Try.ntmps5
    go_wp2
    go_ret2
    exact ⟨rfl, rfl⟩
  · have h0 : ¬ n < 0 := by omega
    go_enter Try.func5, Try.ntmps5
    go_wp2
    go_ret2
    exact ⟨rfl, rfl⟩

set_option maxHeartbeats 400000 in
theorem words_any (s n : Nat) (w : World) (hs : s < 18446744073709551616) (hn : n ≤ 65536) :
    Calls Try.prog 5 #[.int .u64 (s : Int), .int .i64 (n : Int)] w fun e w' => ∃ g, e = .returned (.tuple #[.slice (some ⟨g, 0, none⟩) n n, .int .i64 0]) ∧
      w'.heap[g]? = some (.cells (bv (Mx.words s n)).toArray 22 (0, 0)) ∧ w.heap.size ≤ g ∧ w.grownBy w' none := by
  have h1 : ¬ (n : Int) < 0 := by omega
  have h2 : ¬ 65536 < (n : Int) := by omega
  have HH := hide (And.intro hs hn)
  clear hn hs
  go_enter Try.func5, Try.ntmps5
  go_wp2_with fail
  refine (wordsOf_any s w).mono ?_
  rintro e w1 ⟨rfl, hs1, hg1⟩
  have H1 := hide (And.intro hs1 hg1)
  clear hs1 hg1
  go_wp2_with fail
  obtain ⟨hs1, hg1⟩ := H1.out
  rw [← Mx.seedAt_zero HH.out.1] at hs1
  refine (gather_any s n w.heap.size w1 hs1 HH.out.2).mono ?_
  rintro e w2 ⟨rfl, hr2, hg2⟩
  have H2 : Hid (w2.heap[w1.heap.size]? = some (.cells (bv (Mx.words s n)).toArray 22 (0, 0)) ∧ w.heap.size ≤ w1.heap.size ∧ w.grownBy w2 none) := ⟨hr2, hg1.size, grown_then hg1 hg2 (fun k e => by cases e; exact Or.inl (Nat.le_refl _))⟩
  clear H1 hs1 hg1 hr2 hg2
  generalize w1.heap.size = g at *
  go_wp2
  go_ret2
  exact ⟨g, rfl, H2.out⟩
end Go.Proofs.Ytodonfdkegfmfab
