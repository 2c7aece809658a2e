/- All of a heap. -/
import Derived.Test.YtkbhjdjdjfdikaaAr
namespace Go.Proofs.Ytkbhjdjdjfdikaa
open Go.RowKit Ap Go.Shelf
attribute [local go_sem ↓] Go.wp_at_zero Go.wp_at_succ
theorem own_rowC {w : World} {B0 : Nat} {e : TypeId} {size : Nat} {v : Value} {n : Nat} {xs : List Value} (h : w.ownsRow B0 e size v n xs) (hn : 0 < n) : ∃ g cap, ∃ cur : List Value, v = .slice (some ⟨g, 0, none⟩) n cap ∧ B0 ≤ g ∧ w.heap[g]? = some (.cells cur.toArray e (0, 0)) ∧ n ≤ cap ∧ cur.take (n * size) = xs := by
  rcases h.2 with ⟨_, h0⟩ | ⟨g, cap, cur, hv, hb, hg, hn, hm, hs, ht⟩
  · omega
  · exact ⟨g, cap, cur.toList, hv, hb, by simpa using hg, hn, ht⟩
theorem own_blockC {w : World} {B0 : Nat} {e : TypeId} {size : Nat} {v : Value} {n : Nat} {xs : List Value} (h : w.ownsRow B0 e size v n xs) {g : Nat} (hg : v.ownBlock = some g) : B0 ≤ g ∧ ∃ cur : Array Value, w.heap[g]? = some (.cells cur e (0, 0)) := by
  rcases h.2 with ⟨h1, h0⟩ | ⟨q, cap, cur, hv, hb, hq, _⟩
  · rw [h1] at hg; cases hg
  · rw [hv] at hg; cases hg; exact ⟨hb, cur, hq⟩
theorem row_keepC {w w' : World} {B0 : Nat} {e : TypeId} {size : Nat} {v : Value} {n : Nat} {xs : List Value} (h : w.ownsRow B0 e size v n xs) (hb : ∀ g, v.ownBlock = some g → w'.heap[g]? = w.heap[g]?) : w'.ownsRow B0 e size v n xs := by
  obtain ⟨h1, h⟩ := h
  refine ⟨h1, ?_⟩
  rcases h with h | ⟨g, cap, cur, rfl, h2, h3, h4⟩
  · exact Or.inl h
  · exact Or.inr ⟨g, cap, cur, rfl, h2, (hb g rfl).trans h3, h4⟩
/-- The sort of a clone. -/
theorem sort_row {w : World} {B0 : Nat} {so : Option Addr} {cap : Nat} {E X : List (Nat × Int)} {N : Nat} (hr : w.ownsRow B0 82 2 (.slice so E.length cap) E.length (ecells E)) (hd : Hds E N) (hE : E.length ≤ 65536) (hX : X.Perm E) (hA : Asc X) :
    Calls Try.prog 43 #[.slice so E.length cap, .func (.func 44) #[] #[]] w fun e w' => e = .returned (.tuple #[]) ∧ w.grownBy w' (Value.slice so E.length cap).ownBlock ∧ (∀ i, i < X.length → ∃ g, so = some ⟨g, 0, none⟩ ∧ w'.cell? ⟨g, i * 2, none⟩ = some (.int .i64 ((en X i).1 : Int)) ∧ w'.cell? ⟨g, i * 2 + 1, none⟩ = some (.int .i64 (en X i).2)) := by
  have hXl : X.length = E.length := hX.length_eq
  by_cases hz : 0 < E.length
  · obtain ⟨g, c2, cur, hv, hb, hg, hn, ht⟩ := own_rowC hr hz
    cases hv
    have hh := holds_row hg ht
    have hc := sortE_any g cap E.toArray w hh (row_lt hg) (by simpa using hE)
    rw [show E.toArray.size = E.length by simp] at hc
    refine hc.mono ?_
    rintro e w' ⟨rfl, d', hp, hs, hh', hgr⟩
    have he := sorted_is hd (d' := d') (by simpa using hp) (by simpa using hs) hX hA
    subst he
    refine ⟨rfl, hgr, fun i hi => ⟨g, rfl, ?_, ?_⟩⟩
    · have := (hh'.cell (i := i) (c := 0) (by simpa using hi) (by omega)).1
      simpa [encL, en, hi] using this
    · have := (hh'.cell (i := i) (c := 1) (by simpa using hi) (by omega)).1
      simpa [encL, en, hi] using this
  · have h0 : E.length = 0 := by omega
    rw [h0]
    refine (AnyF.slices_SortFunc_none Try.sortE so cap (.func (.func 44) #[] #[]) w).mono ?_
    rintro e w' ⟨rfl, rfl⟩
    exact ⟨rfl, grown_refl _ _, fun i hi => by omega⟩
set_option maxRecDepth 20000 in
theorem all_at {L : Les} {p : Hp} {E X : List (Nat × Int)} {T : List Nat} {N B0 : Nat} {w : World} (hL : L.Ok) (h : HS w L p E T N B0) (hE : E.length ≤ 65536) (hX : X.Perm E) (hA : Asc X) :
    Calls Try.prog 15 #[.pointer (some ⟨p.h, 0, none⟩)] w fun e w' => ∃ so cap, e = .returned (.func (.func 46) #[] #[.pointer (some ⟨w.heap.size, 0, none⟩)]) ∧ ItE w' w.heap.size so cap X ∧ (∀ a, so = some a → w.heap.size ≤ a.block) ∧ w.grownBy w' none := by
  have hXl : X.length = E.length := hX.length_eq
  obtain ⟨w1, hw1⟩ : ∃ w1, w1 = w.alloc (.cells #[.slice none 0 0] 53) := ⟨_, rfl⟩
  have g1 : w.grownBy w1 none := by rw [hw1]; exact World.grownBy_alloc w _ none
  have hB1 : w1.heap[w.heap.size]? = some (.cells [Value.slice none 0 0].toArray 53 (0, 0)) := by rw [hw1]; exact heap_alloc_new w _
  have h1 := h.then hL g1
  have hn := none_at h1.at_
  obtain ⟨-, -, -, -, c4, -, -⟩ := h1.at_.cells
  have hcl := clone_any h1.at_.ent hE
  have hmf : ∀ (fn : Fn) (first cap : Array Value) (w : World), (Instr.makeFunc fn first cap).run Try.prog w = .ok (.func fn first cap) w := fun _ _ _ _ => rfl
  have HE := hide (And.intro hE (And.intro h.hds (And.intro hX (And.intro hA (And.intro g1 (And.intro hB1 hXl))))))
  rw [hw1] at hn
  obtain ⟨B, hB⟩ : ∃ B, B = w.heap.size := ⟨_, rfl⟩
  have HW1 := hide (And.intro hw1 hB)
  have HCL := hide hcl
  have HC4 := hide c4
  clear h h1 g1 hB1 hE hX hA hXl hcl c4
  go_enter Try.func15, Try.ntmps15
  go_wp2_with fail
  refine hn.mono ?_
  clear hn
  rintro e wz ⟨rfl, hwz⟩
  obtain rfl := hwz
  rw [← HW1.out.1, ← HW1.out.2]
  have hcl := HCL.out
  have c4 := HC4.out
  clear hw1 hB
  go_wp2_with fail
  refine hcl.mono ?_
  clear hcl
  rintro e w2 ⟨so, cap, rfl, hr2, g2⟩
  have hB2 : w2.heap[B]? = some (.cells [Value.slice none 0 0].toArray 53 (0, 0)) := by rw [HW1.out.2]; exact (g2.block _ (row_lt HE.out.2.2.2.2.2.1) (by simp)).trans HE.out.2.2.2.2.2.1
  have b0 := cell_row hB2 0
  have f0 : w2.frozen? ⟨B, 0, none⟩ = false := free_row hB2 0
  simp at b0
  have hB3 := row_setCell hB2 0 (.slice so E.length cap)
  have gB := grown_setCell w2 B 0 (.slice so E.length cap)
  have hr3 : (w2.setCell ⟨B, 0, none⟩ (.slice so E.length cap)).ownsRow w1.heap.size 82 2 (.slice so E.length cap) E.length (ecells E) := row_keepC hr2 (fun g hg => by
    obtain ⟨_, cur, hc⟩ := own_blockC hr2 hg
    exact gB.block g (row_lt hc) (fun e => by cases e; rw [hB2] at hc; simp at hc))
  have hso := sort_row hr3 HE.out.2.1 HE.out.1 HE.out.2.2.1 HE.out.2.2.2.1
  have H3 := hide (And.intro hr3 (And.intro g2 (And.intro gB (And.intro hB2 hB3))))
  clear hr2 g2 hB2 hB3 gB hr3 c4
  go_wp2_with fail
  refine hso.mono ?_
  clear hso
  rintro e w4 ⟨rfl, g4, hc4⟩
  have H4 := hide (And.intro g4 hc4)
  clear g4 hc4
  go_wp2
  go_ret
  have hsz := HE.out.2.2.2.2.1.size
  have hblk : ∀ g, (Value.slice so E.length cap).ownBlock = some g → w.heap.size ≤ g ∧ g ≠ B := fun g hg => by
    obtain ⟨h1, cur, hc⟩ := own_blockC H3.out.1 hg
    refine ⟨by omega, fun e => ?_⟩
    rw [e, H3.out.2.2.2.2] at hc
    simp at hc
  refine ⟨so, cap, by rw [← HW1.out.2]; rfl, ⟨?_, ?_, H4.out.2⟩, fun a ha => (hblk a.block (by rw [ha]; rfl)).1, ?_⟩
  · rw [← HW1.out.2, HE.out.2.2.2.2.2.2]
    exact (H4.out.1.block B (row_lt H3.out.2.2.2.2) (fun e => (hblk B e.symm).2 rfl)).trans H3.out.2.2.2.2
  · obtain ⟨vo, c2, hv, hle⟩ := own_formA H3.out.1
    cases hv
    rw [HE.out.2.2.2.2.2.2]
    exact hle
  · exact grown_then (grown_then (grown_trans HE.out.2.2.2.2.1 H3.out.2.1) H3.out.2.2.1 (fun j e => Or.inl (by cases e; rw [HW1.out.2]; exact Nat.le_refl _))) H4.out.1 (fun j e => Or.inl (hblk j e).1)
end Go.Proofs.Ytkbhjdjdjfdikaa
