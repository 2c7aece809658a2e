/- The document's index: the place of an id; Get, Set. -/
import Derived.Test.YtoocaioilpgmeaaAw
namespace Go.Proofs.Ytoocaioilpgmeaa
open Go.RowKit Ix Go.Shelf
attribute [local go_sem ↓] Go.wp_at_zero Go.wp_at_succ
structure RfAt (w : World) (B0 r m : Nat) (vl : Value) (X : List (Nat × Int)) : Prop where
  head : w.heap[r]? = some (.cells [Value.int .i64 (m : Int), vl].toArray 51 (0, 0))
  row : w.ownsRow B0 75 2 vl X.length (icells X)
  base : B0 ≤ r
/-- Where an id lies, or would be put. -/
structure Plc (X : List (Nat × Int)) (k i : Nat) : Prop where
  le : i ≤ X.length
  lo : ∀ j, j < i → (en X j).1 < k
  hi : ∀ j, i ≤ j → j < X.length → k ≤ (en X j).1
theorem en_mem {E : List (Nat × Int)} {i : Nat} (h : i < E.length) : en E i ∈ E := by
  unfold en
  rw [List.getElem?_eq_getElem h]
  exact List.getElem_mem h
theorem mem_en {E : List (Nat × Int)} {x : Nat × Int} (h : x ∈ E) : ∃ i, i < E.length ∧ en E i = x := by
  obtain ⟨i, hi, rfl⟩ := List.mem_iff_getElem.1 h
  exact ⟨i, hi, by unfold en; rw [List.getElem?_eq_getElem hi]; rfl⟩
theorem asc_en {M : List (Nat × Int)} (h : Asc M) {i j : Nat} (hij : i < j) (hj : j < M.length) : (en M i).1 < (en M j).1 := by
  have := List.pairwise_iff_getElem.1 h i j (by omega) hj hij
  unfold en
  rw [List.getElem?_eq_getElem (show i < M.length by omega), List.getElem?_eq_getElem hj]
  exact this
theorem Plc.found {X : List (Nat × Int)} {k i : Nat} (h : Plc X k i) (hA : Asc X) : (lk X k).isSome = (decide (i < X.length) && decide ((en X i).1 = k)) ∧ (i < X.length → (en X i).1 = k → lk X k = some (en X i).2) := by
  have h2 : i < X.length → (en X i).1 = k → lk X k = some (en X i).2 := fun hi he => (lk_some hA).2 (by have := en_mem hi; rw [← he]; exact this)
  refine ⟨?_, h2⟩
  by_cases hi : i < X.length
  · by_cases he : (en X i).1 = k
    · rw [h2 hi he]; simp [hi, he]
    · have hn : lk X k = none := by
        rw [lk_none]
        intro v hv
        obtain ⟨j, hj, e⟩ := mem_en hv
        rcases Nat.lt_or_ge j i with h3 | h3
        · have := h.lo j h3; rw [e] at this; simp at this
        · rcases Nat.eq_or_lt_of_le h3 with h4 | h4
          · subst h4; rw [e] at he; exact he rfl
          · have := asc_en hA h4 hj; have h5 := h.hi i (Nat.le_refl _) hi; rw [e] at this; simp at this; omega
      rw [hn]; simp [he]
  · have hn : lk X k = none := by
      rw [lk_none]
      intro v hv
      obtain ⟨j, hj, e⟩ := mem_en hv
      have := h.lo j (by omega); rw [e] at this; simp at this
    rw [hn]; simp [hi]
section
variable {w w' : World} {B0 r m : Nat} {vl : Value} {X : List (Nat × Int)}
theorem RfAt.cells (h : RfAt w B0 r m vl X) : w.cell? ⟨r, 0, none⟩ = some (.int .i64 (m : Int)) ∧ w.cell? ⟨r, 1, none⟩ = some vl := ⟨cell_row h.head 0, cell_row h.head 1⟩
theorem RfAt.grown (h : RfAt w B0 r m vl X) (g : w.grownBy w' none) : RfAt w' B0 r m vl X := ⟨(g.block _ (row_lt h.head) (by simp)).trans h.head, own_grown h.row g, h.base⟩
set_option maxRecDepth 20000 in
set_option maxHeartbeats 2000000 in
theorem rat_at (h : RfAt w B0 r m vl X) (hX : X.length ≤ 65536) (hA : Asc X) (k : Nat) : Calls Try.prog 45 #[.pointer (some ⟨r, 0, none⟩), .int .u32 (k : Int)] w fun e w' => ∃ i : Nat, e = .returned (.tuple #[.int .i64 (i : Int), .bool (lk X k).isSome]) ∧ Plc X k i ∧ w.grownBy w' none := by
  obtain ⟨-, c1⟩ := h.cells
  obtain ⟨vo, cap, rfl, hcap⟩ := own_form h.row
  have HH := hide (And.intro h hA)
  clear h hA
  obtain ⟨L, hL⟩ : ∃ L, L = X.length := ⟨_, rfl⟩
  rw [← hL] at c1 hX hcap
  have HL := hide hL
  clear hL
  go_enter Try.func45, Try.ntmps45
  go_wp2
  go_quiet (fail)
  generalize hw1 : w.drewN _ = w1
  have g1 : w.grownBy w1 none := by rw [← hw1]; exact grown_drewN _ _ _
  have G1 := hide g1
  clear hw1 g1
  go_wp2
  go_loopg [6, 7] L (fun q v6 v7 wr => ∃ lo hi : Nat, v6 = .int .i64 (lo : Int) ∧ v7 = .int .i64 (hi : Int) ∧ lo ≤ hi ∧ hi ≤ L ∧ Hid (q = hi - lo ∧ w.grownBy wr none ∧ (∀ j, j < lo → (en X j).1 < k) ∧ (∀ j, hi ≤ j → j < L → k ≤ (en X j).1)))
  case atStart => exact ⟨0, L, rfl, rfl, Nat.zero_le _, Nat.le_refl _, rfl, G1.out, (fun j hj => by omega), fun j h1 h2 => by omega⟩
  case round =>
    obtain ⟨lo, hi, rfl, rfl, hlh, hhL, HR⟩ := hrel
    have d1 := HR.out.2.1.cell c1 (by simp)
    by_cases hlt : lo < hi
    · obtain ⟨md, hmd⟩ : ∃ md : Nat, md = (lo + hi) / 2 := ⟨_, rfl⟩
      have hm1 : ((lo : Int) + (hi : Int)).tdiv 2 = (md : Int) := by rw [Int.tdiv_eq_ediv_of_nonneg (by omega)]; omega
      have hm2 : IntKind.i64.wrap ((lo : Int) + (hi : Int)) = (lo : Int) + (hi : Int) := by rw [IntKind.wrap_i64]; omega
      have hm3 : md < L ∧ lo ≤ md ∧ md < hi := by omega
      obtain ⟨hm3, hm4, hm5⟩ := hm3
      obtain ⟨g, cp, cur, e1, -, hg, -, -, -, ht⟩ := own_row HH.out.1.row (by have := HL.out; omega)
      cases e1
      have z1 := HR.out.2.1.cell (own_cell hg ht (icells_get (i := md) (by rw [← HL.out]; exact hm3)).1) (by simp)
      have b1 : ((lo : Int) < (hi : Int)) = True := by simp; omega
      have b2 : ((md : Int) < (L : Int)) = True := by simp; omega
      have HM := hide (And.intro hmd (And.intro hm4 hm5))
      clear hmd hg ht hm4 hm5
      obtain ⟨y, hy⟩ : ∃ y, y = (en X md).1 := ⟨_, rfl⟩
      rw [← hy] at z1
      have HY := hide hy
      clear hy
      by_cases hyk : y < k
      · have b3 : decide (y < k) = true := by simpa using hyk
        have b4 : ((y : Int) < (k : Int)) = True := by simp; omega
        have b5 : IntKind.i64.wrap ((md : Int) + 1) = (md : Int) + 1 := by rw [IntKind.wrap_i64]; omega
        have HK := hide hyk
        clear hyk
        go_wp2
        go_roundg (hi - (md + 1))
        case rel =>
          refine ⟨md + 1, hi, by simp, rfl, by have := HM.out.2.2; omega, hhL, rfl, HR.out.2.1, fun j hj => ?_, HR.out.2.2.2⟩
          rcases Nat.lt_or_ge j md with h1 | h1
          · have := asc_en HH.out.2 h1 (by rw [← HL.out]; exact hm3); rw [← HY.out] at this; have := HK.out; omega
          · rw [show j = md by omega, ← HY.out]; exact HK.out
        case measure => have := HR.out.1; have := HM.out; omega
      · have b3 : decide (y < k) = false := by simpa using hyk
        have b4 : ((y : Int) < (k : Int)) = False := by simp; omega
        have HK := hide hyk
        clear hyk
        go_wp2
        go_roundg (md - lo)
        case rel =>
          refine ⟨lo, md, rfl, rfl, HM.out.2.1, by omega, rfl, HR.out.2.1, HR.out.2.2.1, fun j h1 h2 => ?_⟩
          rcases Nat.eq_or_lt_of_le h1 with h3 | h3
          · rw [← h3, ← HY.out]; have := HK.out; omega
          · have := asc_en HH.out.2 h3 (by rw [← HL.out]; exact h2); rw [← HY.out] at this; have := HK.out; omega
        case measure => have := HR.out.1; have := HM.out; omega
    · obtain rfl : lo = hi := by omega
      have b1 : ((lo : Int) < (lo : Int)) = False := by simp
      have hP : Plc X k lo := ⟨by rw [← HL.out]; exact hhL, HR.out.2.2.1, by rw [← HL.out]; exact HR.out.2.2.2⟩
      have hf := hP.found HH.out.2
      have HP := hide hP
      have HF := hide hf.1
      clear hP hf hlt hlh
      by_cases hln : lo < L
      · obtain ⟨g, cp, cur, e1, -, hg, -, -, -, ht⟩ := own_row HH.out.1.row (by have := HL.out; omega)
        cases e1
        have hlX : lo < X.length := by rw [← HL.out]; exact hln
        have z1 := HR.out.2.1.cell (own_cell hg ht (icells_get (i := lo) hlX).1) (by simp)
        have b3 : decide (lo < L) = true := by simpa using hln
        have b4 : ((lo : Int) < (L : Int)) = True := by simp; omega
        have HLX := hide hlX
        clear hg ht hlX
        obtain ⟨y, hy⟩ : ∃ y, y = (en X lo).1 := ⟨_, rfl⟩
        rw [← hy] at z1
        have HY := hide hy
        clear hy
        by_cases hyk : y = k
        · have hres : (lk X k).isSome = true := by rw [HF.out, ← HY.out]; simp [HLX.out, hyk]
          have HRS := hide hres
          subst hyk
          clear hres
          go_wp2
          go_quiet (fail)
          go_wp2
          go_ret2
          exact ⟨lo, by rw [HRS.out]; rfl, HP.out, grown_trans HR.out.2.1 (grown_drewN _ _ _)⟩
        · have hres : (lk X k).isSome = false := by rw [HF.out, ← HY.out]; simp [hyk]
          have HRS := hide hres
          have b5 : ((y : Int) == (k : Int)) = false := by simp; omega
          have b6 : decide ((y : Int) = (k : Int)) = false := by simp; omega
          clear hyk hres
          go_wp2
          go_quiet (fail)
          go_wp2
          go_ret2
          exact ⟨lo, by rw [HRS.out]; rfl, HP.out, grown_trans HR.out.2.1 (grown_drewN _ _ _)⟩
      · have b3 : decide (lo < L) = false := by simpa using hln
        have b4 : ((lo : Int) < (L : Int)) = False := by simp; omega
        have hres : (lk X k).isSome = false := by rw [HF.out]; simp; intro h; exact absurd h (by rw [← HL.out]; exact hln)
        have HRS := hide hres
        clear hres
        go_wp2
        go_quiet (fail)
        go_wp2
        go_ret2
        exact ⟨lo, by rw [HRS.out]; rfl, HP.out, grown_trans HR.out.2.1 (grown_drewN _ _ _)⟩
end
end Go.Proofs.Ytoocaioilpgmeaa
