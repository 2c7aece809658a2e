/- The search. -/
import Derived.Test.YtoocaioilpgmeaaIc
import Derived.WalkMore
namespace Go.Proofs.Ytoocaioilpgmeaa
open Go.RowKit Ix
attribute [local go_sem ↓] Go.wp_at_zero Go.wp_at_succ
/-- All slots from a on, up to b, have other items. -/
def Oth (S : List (Option (Nat × Int))) (k a b : Nat) : Prop := ∀ i, a ≤ i → i < b → ∃ y, sl S i = some y ∧ y.1 ≠ k
theorem Oth.snoc {S : List (Option (Nat × Int))} {k a b : Nat} (h : Oth S k a b) {y : Nat × Int} (hy : sl S b = some y) (hk : y.1 ≠ k) : Oth S k a (b + 1) := fun i h1 h2 => by
  rcases Nat.lt_or_ge i b with h3 | h3
  · exact h i h1 h3
  · rw [show i = b by omega]; exact ⟨y, hy, hk⟩
theorem fnd1 {hsf : Nat → Nat} {n k p : Nat} {S : List (Option (Nat × Int))} {there : Bool} (hp : p < n) (hh : hsf k ≤ p) (ho : Oth S k (hsf k) p) (hy : there = true → ∃ v, sl S p = some (k, v)) (hn : there = false → sl S p = none) : Fnd hsf n S k p there :=
  ⟨hp, fun i hi hlt => by
    unfold wy at hlt
    rw [if_pos hh] at hlt
    split at hlt
    · exact ho i (by omega) (by omega)
    · omega, hy, hn⟩
theorem fnd2 {hsf : Nat → Nat} {n k p : Nat} {S : List (Option (Nat × Int))} {there : Bool} (hn0 : hsf k < n) (hh : p < hsf k) (ho : Oth S k (hsf k) n) (ho2 : Oth S k 0 p) (hy : there = true → ∃ v, sl S p = some (k, v)) (hn : there = false → sl S p = none) : Fnd hsf n S k p there :=
  ⟨by omega, fun i hi hlt => by
    rcases Nat.lt_or_ge i (hsf k) with h1 | h1
    · unfold wy at hlt
      rw [if_neg (show ¬ hsf k ≤ i by omega), if_neg (show ¬ hsf k ≤ p by omega)] at hlt
      exact ho2 i (Nat.zero_le _) (by omega)
    · exact ho i h1 hi, hy, hn⟩
theorem idx0 (a b c d : Value) (w : World) : (Instr.index 84 (.agg #[a, b, c, d]) (.int .i64 0)).run Try.prog w = .ok (.agg #[a, b]) w := by
  kernel_rfl
theorem idx1 (a b c d : Value) (w : World) : (Instr.index 84 (.agg #[a, b, c, d]) (.int .i64 1)).run Try.prog w = .ok (.agg #[c, d]) w := by
  kernel_rfl
section
variable {w w' : World} {x g n m c st : Nat} {S : List (Option (Nat × Int))}
set_option maxRecDepth 20000 in
set_option maxHeartbeats 4000000 in
theorem find_at (h : IxR w x g n m c st S) (k : Nat) (hk : k < 4294967296) (hF : ∃ i, i < n ∧ sl S i = none) :
    Calls Try.prog 29 #[.pointer (some ⟨x, 0, none⟩), .int .u32 (k : Int)] w fun e w' => ∃ (p : Nat) (there : Bool), e = .returned (.tuple #[.int .i64 (p : Int), .bool there]) ∧ Fnd (hs n) n S k p there ∧ IxR w' x g n m c (wy n (hs n k) p + 1) S ∧ Kept w w' (fun i => i = x) := by
  have hno := none_at h
  have hho := home_at h k hk
  have hl := hs_lt h.pos k
  have HH := hide h
  have HK := hide hk
  have HF := hide hF
  have hn8 := h.most
  clear h hk hF
  generalize hh0 : hs n k = ho at *
  have HO := hide hh0
  clear hh0
  go_enter Try.func29, Try.ntmps29
  go_wp2
  go_step3
  go_wp2_with fail
  refine hno.mono ?_
  clear hno
  rintro e w1 ⟨rfl, hw1⟩
  obtain rfl := hw1.symm
  go_wp2_with fail
  refine hho.mono ?_
  clear hho
  rintro e w2 ⟨rfl, hg2⟩
  have h2 := HH.out.then hg2
  obtain ⟨-, -, -, c3, c4⟩ := h2.cells
  have f3 := free_row h2.head 3
  have h3 := h2.step 0
  have k3 := (Kept.new hg2 (fun i => i = x)).trans (kept_setCell w2 x 3 (.int .i64 ((0 : Nat) : Int))) (fun _ _ e => e)
  obtain ⟨-, -, -, -, d4⟩ := h3.cells
  have H3 := hide (And.intro h3 k3)
  clear h2 h3 k3 hg2
  go_wp2
  go_step3
  go_wp2
  clear c3 c4 f3 d4
  go_loopg [7, 8, 29] 2 (fun q v7 v8 v29 wr => ∃ t a : Nat, v29 = .int .i64 (t : Int) ∧ v7 = .int .i64 (a : Int) ∧ v8 = .bool false ∧ Hid (q = 2 - t ∧ ((t = 0 ∧ IxR wr x g n m c 0 S) ∨ (t = 1 ∧ Oth S k ho n ∧ IxR wr x g n m c (n - ho) S)) ∧ Kept w wr (fun i => i = x)))
  case atStart => exact ⟨0, 0, rfl, rfl, rfl, rfl, .inl ⟨rfl, H3.out.1⟩, H3.out.2⟩
  case round =>
    obtain ⟨t, a, rfl, rfl, rfl, HR⟩ := hrel
    obtain ⟨wo, hwo⟩ : ∃ wo, wo = wr := ⟨_, rfl⟩
    rw [← hwo] at HR ⊢
    clear hwo wr
    obtain ⟨B, F, T, HS⟩ : ∃ B F T : Nat, Hid ((t = 0 ∧ B = 0 ∧ F = ho ∧ T = n ∨ t = 1 ∧ B = n - ho ∧ F = 0 ∧ T = ho) ∧ IxR wo x g n m c B S ∧ (t = 1 → Oth S k ho n) ∧ Kept w wo (fun i => i = x) ∧ gk = 2 - t) := by
      obtain ⟨e0, (⟨e1, e2⟩ | ⟨e1, e2, e3⟩), e4⟩ := HR.out
      · exact ⟨0, ho, n, .inl ⟨e1, rfl, rfl, rfl⟩, e2, (fun e => by omega), e4, e0⟩
      · exact ⟨n - ho, 0, ho, .inr ⟨e1, rfl, rfl, rfl⟩, e3, (fun _ => e2), e4, e0⟩
    clear HR
    have hFT : F ≤ T ∧ T ≤ n := by obtain ⟨h1 | h1, _⟩ := HS.out <;> omega
    obtain ⟨hFT, hTn⟩ := hFT
    have hB8 : B ≤ 8192 := by obtain ⟨h1 | h1, _⟩ := HS.out <;> omega
    have hi0 := idx0
    have hi1 := idx1
    have HB := hide (And.intro hFT (And.intro hTn hB8))
    clear hFT hTn hB8
    obtain ⟨wp, hwp⟩ : ∃ wp, wp = wo.alloc (.cells #[.int .i64 (F : Int), .int .i64 (T : Int)] 83) := ⟨_, rfl⟩
    have gp : wo.grownBy wp none := by rw [hwp]; exact World.grownBy_alloc wo _ none
    have bp : wp.heap[wo.heap.size]? = some (.cells [Value.int .i64 (F : Int), .int .i64 (T : Int)].toArray 83 (0, 0)) := by rw [hwp]; exact heap_alloc_new wo _
    have hxP : x ≠ wo.heap.size := fun e => by have := row_lt HS.out.2.1.head; omega
    have hgP : g ≠ wo.heap.size := fun e => by have := row_lt HS.out.2.1.row; omega
    have HP := hide (And.intro hwp (And.intro gp (And.intro bp (And.intro hxP hgP))))
    clear hwp gp bp hxP hgP
    have key : t = 0 ∧ F = ho ∧ T = n ∨ t = 1 ∧ F = 0 ∧ T = ho := by rcases HS.out.1 with ⟨h1, _, h2, h3⟩ | ⟨h1, _, h2, h3⟩ <;> omega
    rcases key with ⟨rfl, rfl, rfl⟩ | ⟨rfl, rfl, rfl⟩
    · have HS' := HS
      obtain ⟨K, hKg⟩ : ∃ K, K = gk := ⟨_, rfl⟩
      have HKg := hide hKg
      clear hKg
      go_wp2
      rw [← HP.out.1]
      go_loopg [7, 8] (T - F) (fun q v7 v8 ws => ∃ a : Nat, v7 = .int .i64 (a : Int) ∧ v8 = .bool false ∧ Hid (q = T - a ∧ F ≤ a ∧ a ≤ T ∧ Oth S k F a ∧ IxR ws x g T m c (B + (a - F)) S ∧ ws.heap[wo.heap.size]? = some (.cells [Value.int .i64 (F : Int), .int .i64 (T : Int)].toArray 83 (0, 0)) ∧ Kept w ws (fun i => i = x)))
      case atStart => exact ⟨F, rfl, rfl, rfl, Nat.le_refl _, HB.out.1, (fun i h1 h2 => by omega), by rw [Nat.sub_self, Nat.add_zero]; exact HS.out.2.1.then HP.out.2.1, HP.out.2.2.1, HS.out.2.2.2.1.trans (Kept.new HP.out.2.1 (fun i => i = x)) (fun _ _ e => e)⟩
      case round =>
        obtain ⟨a, rfl, rfl, HL⟩ := hrel
        have pc := cell_row HL.out.2.2.2.2.2.1 1
        simp only [List.getElem?_cons_succ, List.getElem?_cons_zero] at pc
        by_cases hlt : a < T
        · have han : a < T := by have := HB.out.2.1; omega
          have hR := HL.out.2.2.2.2.1
          obtain ⟨sp, hsp⟩ : ∃ sp, sp = B + (a - F) := ⟨_, rfl⟩
          rw [← hsp] at hR
          have hs2 : sp ≤ 20000 := by have := HB.out.2.2; have := hR.most; omega
          have HSp := hide hsp
          obtain ⟨-, -, -, c3, c4⟩ := hR.cells
          have f3 := free_row hR.head 3
          have hR2 := hR.step (sp + 1)
          have HK2 := hide (HL.out.2.2.2.2.2.2.trans (kept_setCell wr x 3 (.int .i64 ((sp + 1 : Nat) : Int))) (fun _ _ e => e))
          have HP2 := hide ((kept_setCell wr x 3 (.int .i64 ((sp + 1 : Nat) : Int))).at HL.out.2.2.2.2.2.1 (fun e => HP.out.2.2.2.1 e.symm))
          have HR2 := hide hR2
          have hst : IntKind.i64.wrap ((sp : Int) + 1) = ((sp + 1 : Nat) : Int) := by rw [IntKind.wrap_i64]; omega
          obtain ⟨-, -, -, -, d4⟩ := hR2.cells
          obtain ⟨d5, d6, -⟩ := hR2.slot han
          have hlt' : ((a : Int) < (T : Int)) = True := by simp; omega
          clear hsp hR hR2 hlt
          generalize hW : wr.setCell ⟨x, 3, none⟩ (.int .i64 ((sp + 1 : Nat) : Int)) = W at *
          generalize ((sp + 1 : Nat) : Int) = s1 at *
          have hwy : wy T F a + 1 = sp + 1 := by
            have e1 := HSp.out
            have e2 := HL.out.2.1
            have e3 := HS.out.1
            unfold wy
            split <;> omega
          cases hy : sl S a with
          | none =>
            rw [hy] at d5 d6
            have HY := hide hy
            clear hy
            simp only [Option.isSome] at d5
            go_wp2
            try rw [Exit.noGoto_ret]
            go_ret2
            refine ⟨a, false, rfl, fnd1 han (by rw [HO.out]; exact HL.out.2.1) (by rw [HO.out]; exact HL.out.2.2.2.1) (fun e => by cases e) (fun _ => HY.out), by rw [hwy]; exact HR2.out, HK2.out⟩
          | some y =>
            rw [hy] at d5 d6
            have HY := hide hy
            clear hy
            simp only [Option.isSome] at d5
            rw [show idN (some y) = y.1 from rfl] at d6
            by_cases hyk : y.1 = k
            · rw [hyk] at d6
              have HYK := hide hyk
              clear hyk
              go_wp2
              try rw [Exit.noGoto_ret]
              go_ret2
              refine ⟨a, true, rfl, fnd1 han (by rw [HO.out]; exact HL.out.2.1) (by rw [HO.out]; exact HL.out.2.2.2.1) (fun _ => ⟨y.2, by rw [HY.out, ← HYK.out]⟩) (fun e => by cases e), by rw [hwy]; exact HR2.out, HK2.out⟩
            · have q1 : (((y.1 : Nat) : Int) == ((k : Nat) : Int)) = false := by simp; omega
              have q2 : decide (((y.1 : Nat) : Int) = ((k : Nat) : Int)) = false := by simp; omega
              have HSn := hide (HL.out.2.2.2.1.snoc HY.out hyk)
              clear hyk HY
              generalize y.1 = y1 at *
              go_wp2
              go_roundg (gk - 1)
              case rel =>
                have e1 := HSp.out
                have e2 := HL.out.2.1
                exact ⟨a + 1, by simp, rfl, by have := HL.out.1; omega, by omega, by omega, HSn.out, by rw [show B + (a + 1 - F) = sp + 1 by omega]; exact HR2.out, HP2.out, HK2.out⟩
              case measure => have := HL.out.1; omega
        · obtain rfl : a = T := by have := HL.out.2.2.1; omega
          have hlt' : ((a : Int) < (a : Int)) = False := by simp
          go_wp2
          go_roundg (K - 1)
          case rel => exact ⟨1, a, rfl, rfl, rfl, by have := HKg.out; have := HS.out.2.2.2.2; omega, .inr ⟨rfl, HL.out.2.2.2.1, by rcases HS.out.1 with ⟨_, hB, _⟩ | ⟨h, _⟩; (rw [hB, Nat.zero_add] at HL; exact HL.out.2.2.2.2.1); omega⟩, HL.out.2.2.2.2.2.2⟩
          case measure => have := HKg.out; have := HS.out.2.2.2.2; omega
    · have HS' := HS
      obtain ⟨K, hKg⟩ : ∃ K, K = gk := ⟨_, rfl⟩
      have HKg := hide hKg
      clear hKg
      go_wp2
      rw [show wo.alloc (.cells #[.int .i64 0, .int .i64 (T : Int)] 83) = wp from HP.out.1.symm]
      go_loopg [7, 8] (T - 0) (fun q v7 v8 ws => ∃ a : Nat, v7 = .int .i64 (a : Int) ∧ v8 = .bool false ∧ Hid (q = T - a ∧ 0 ≤ a ∧ a ≤ T ∧ Oth S k 0 a ∧ IxR ws x g n m c (B + (a - 0)) S ∧ ws.heap[wo.heap.size]? = some (.cells [Value.int .i64 ((0 : Nat) : Int), .int .i64 (T : Int)].toArray 83 (0, 0)) ∧ Kept w ws (fun i => i = x)))
      case atStart => exact ⟨0, rfl, rfl, rfl, Nat.le_refl _, HB.out.1, (fun i h1 h2 => by omega), by rw [Nat.sub_self, Nat.add_zero]; exact HS.out.2.1.then HP.out.2.1, HP.out.2.2.1, HS.out.2.2.2.1.trans (Kept.new HP.out.2.1 (fun i => i = x)) (fun _ _ e => e)⟩
      case round =>
        obtain ⟨a, rfl, rfl, HL⟩ := hrel
        have pc := cell_row HL.out.2.2.2.2.2.1 1
        simp only [List.getElem?_cons_succ, List.getElem?_cons_zero] at pc
        by_cases hlt : a < T
        · have han : a < n := by have := HB.out.2.1; omega
          have hR := HL.out.2.2.2.2.1
          obtain ⟨sp, hsp⟩ : ∃ sp, sp = B + (a - 0) := ⟨_, rfl⟩
          rw [← hsp] at hR
          have hs2 : sp ≤ 20000 := by have := HB.out.2.2; have := hR.most; omega
          have HSp := hide hsp
          obtain ⟨-, -, -, c3, c4⟩ := hR.cells
          have f3 := free_row hR.head 3
          have hR2 := hR.step (sp + 1)
          have HK2 := hide (HL.out.2.2.2.2.2.2.trans (kept_setCell wr x 3 (.int .i64 ((sp + 1 : Nat) : Int))) (fun _ _ e => e))
          have HP2 := hide ((kept_setCell wr x 3 (.int .i64 ((sp + 1 : Nat) : Int))).at HL.out.2.2.2.2.2.1 (fun e => HP.out.2.2.2.1 e.symm))
          have HR2 := hide hR2
          have hst : IntKind.i64.wrap ((sp : Int) + 1) = ((sp + 1 : Nat) : Int) := by rw [IntKind.wrap_i64]; omega
          obtain ⟨-, -, -, -, d4⟩ := hR2.cells
          obtain ⟨d5, d6, -⟩ := hR2.slot han
          have hlt' : ((a : Int) < (T : Int)) = True := by simp; omega
          have hlt2 := hlt
          clear hsp hR hR2 hlt
          generalize hW : wr.setCell ⟨x, 3, none⟩ (.int .i64 ((sp + 1 : Nat) : Int)) = W at *
          generalize ((sp + 1 : Nat) : Int) = s1 at *
          have hwy : wy n T a + 1 = sp + 1 := by
            have e1 := HSp.out
            have e2 := HL.out.2.1
            have e3 := HS.out.1
            unfold wy
            split <;> omega
          cases hy : sl S a with
          | none =>
            rw [hy] at d5 d6
            have HY := hide hy
            clear hy
            simp only [Option.isSome] at d5
            go_wp2
            try rw [Exit.noGoto_ret]
            go_ret2
            refine ⟨a, false, rfl, fnd2 (by rw [HO.out]; exact hl) (by rw [HO.out]; exact hlt2) (by rw [HO.out]; exact HS.out.2.2.1 trivial) HL.out.2.2.2.1 (fun e => by cases e) (fun _ => HY.out), by rw [hwy]; exact HR2.out, HK2.out⟩
          | some y =>
            rw [hy] at d5 d6
            have HY := hide hy
            clear hy
            simp only [Option.isSome] at d5
            rw [show idN (some y) = y.1 from rfl] at d6
            by_cases hyk : y.1 = k
            · rw [hyk] at d6
              have HYK := hide hyk
              clear hyk
              go_wp2
              try rw [Exit.noGoto_ret]
              go_ret2
              refine ⟨a, true, rfl, fnd2 (by rw [HO.out]; exact hl) (by rw [HO.out]; exact hlt2) (by rw [HO.out]; exact HS.out.2.2.1 trivial) HL.out.2.2.2.1 (fun _ => ⟨y.2, by rw [HY.out, ← HYK.out]⟩) (fun e => by cases e), by rw [hwy]; exact HR2.out, HK2.out⟩
            · have q1 : (((y.1 : Nat) : Int) == ((k : Nat) : Int)) = false := by simp; omega
              have q2 : decide (((y.1 : Nat) : Int) = ((k : Nat) : Int)) = false := by simp; omega
              have HSn := hide (HL.out.2.2.2.1.snoc HY.out hyk)
              clear hyk HY
              generalize y.1 = y1 at *
              go_wp2
              go_roundg (gk - 1)
              case rel =>
                have e1 := HSp.out
                have e2 := HL.out.2.1
                exact ⟨a + 1, by simp, rfl, by have := HL.out.1; omega, by omega, by omega, HSn.out, by rw [show B + (a + 1 - 0) = sp + 1 by omega]; exact HR2.out, HP2.out, HK2.out⟩
              case measure => have := HL.out.1; omega
        · obtain rfl : a = T := by have := HL.out.2.2.1; omega
          exfalso
          obtain ⟨i, hi, hfree⟩ := HF.out
          rcases Nat.lt_or_ge i a with h1 | h1
          · obtain ⟨y, hy, _⟩ := HL.out.2.2.2.1 i (Nat.zero_le _) h1
            rw [hfree] at hy; cases hy
          · obtain ⟨y, hy, _⟩ := HS.out.2.2.1 trivial i h1 hi
            rw [hfree] at hy; cases hy
end
end Go.Proofs.Ytoocaioilpgmeaa
