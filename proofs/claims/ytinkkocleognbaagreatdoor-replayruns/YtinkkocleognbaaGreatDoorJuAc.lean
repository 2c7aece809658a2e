/- Texts joined: JnAc. -/
import Derived.Test.YtinkkocleognbaaGreatDoorJuAb
import Derived.WalkMore
import Derived.Test.YtinkkocleognbaaGreatDoorJuAa
import Derived.WalkKit
import Derived.WalkSpells
import Derived.WalkLawsBesides
import Derived.Laws.CopyOwn
import Derived.Laws.Bits64b
import Derived.Laws.Bits64
import Derived.Deep.MidRow
import Derived.Deep.LoopGhost
import Derived.Deep.RegionHeld3
import Derived.Deep.DrawnRows
import Derived.Deep.QuietTactic
import Derived.Deep.RegionWith
import Derived.BigQuiet
import Derived.Deep.OwnRows
import Derived.Laws.AppendOwnNone
import Derived.Laws.BitsAllLaws
import Derived.Laws.OwnMore
import Derived.ArgAppend
import Derived.Test.YtinkkocleognbaaGreatDoorChecked
/- Texts joined: IxId, IxIe, IxIf, RkRx, RkRa. -/
/- The search. -/
namespace Go.Proofs.YtinkkocleognbaaGreatDoor.Ix
open Go.RowKit
attribute [local go_sem ↓] Go.wp_at_zero Go.wp_at_succ
/-- All slots from a on, up to b, have other items. -/
def Oth (S : List (Option (Nat × Int))) (k a b : Nat) : Prop := ∀ i, a ≤ i → i < b → ∃ y, sl S i = some y ∧ y.1 ≠ k
theorem Oth.snoc {S : List (Option (Nat × Int))} {k a b : Nat} (h : Oth S k a b) {y : Nat × Int} (hy : sl S b = some y) (hk : y.1 ≠ k) : Oth S k a (b + 1) := fun i h1 h2 => by
  rcases Nat.lt_or_ge i b with h3 | h3
  · exact h i h1 h3
  · rw [show i = b by omega]; exact ⟨y, hy, hk⟩
theorem fnd1 {hsf : Nat → Nat} {n k p : Nat} {S : List (Option (Nat × Int))} {there : Bool} (hp : p < n) (hh : hsf k ≤ p) (ho : Oth S k (hsf k) p) (hy : there = true → ∃ v, sl S p = some (k, v)) (hn : there = false → sl S p = none) : Fnd hsf n S k p there :=
  ⟨hp, fun i hi hlt => by
    unfold wy at hlt
    rw [if_pos hh] at hlt
    split at hlt
    · exact ho i (by omega) (by omega)
    · omega, hy, hn⟩
theorem fnd2 {hsf : Nat → Nat} {n k p : Nat} {S : List (Option (Nat × Int))} {there : Bool} (hn0 : hsf k < n) (hh : p < hsf k) (ho : Oth S k (hsf k) n) (ho2 : Oth S k 0 p) (hy : there = true → ∃ v, sl S p = some (k, v)) (hn : there = false → sl S p = none) : Fnd hsf n S k p there :=
  ⟨by omega, fun i hi hlt => by
    rcases Nat.lt_or_ge i (hsf k) with h1 | h1
    · unfold wy at hlt
      rw [if_neg (show ¬ hsf k ≤ i by omega), if_neg (show ¬ hsf k ≤ p by omega)] at hlt
      exact ho2 i (Nat.zero_le _) (by omega)
    · exact ho i h1 hi, hy, hn⟩
theorem idx0 (a b c d : Value) (w : World) : (Instr.index 221 (.agg #[a, b, c, d]) (.int .i64 0)).run Tryz.prog w = .ok (.agg #[a, b]) w := by
  kernel_rfl
theorem idx1 (a b c d : Value) (w : World) : (Instr.index 221 (.agg #[a, b, c, d]) (.int .i64 1)).run Tryz.prog w = .ok (.agg #[c, d]) w := by
  kernel_rfl
section
variable {w w' : World} {x g n m c st : Nat} {S : List (Option (Nat × Int))}
set_option maxRecDepth 20000 in
set_option maxHeartbeats 4000000 in
theorem find_at (h : IxR w x g n m c st S) (k : Nat) (hk : k < 4294967296) (hF : ∃ i, i < n ∧ sl S i = none) :
    Calls Tryz.prog 146 #[.pointer (some ⟨x, 0, none⟩), .int .u32 (k : Int)] w fun e w' => ∃ (p : Nat) (there : Bool), e = .returned (.tuple #[.int .i64 (p : Int), .bool there]) ∧ Fnd (hs n) n S k p there ∧ IxR w' x g n m c (wy n (hs n k) p + 1) S ∧ Kept w w' (fun i => i = x) := by
  have hno := none_at h
  have hho := home_at h k hk
  have hl := hs_lt h.pos k
  have HH := hide h
  have HK := hide hk
  have HF := hide hF
  have hn8 := h.most
  clear h hk hF
  generalize hh0 : hs n k = ho at *
  have HO := hide hh0
  clear hh0
  go_enter Tryz.func146, Tryz.ntmps146
  go_wp2
  go_step3
  go_wp2_with fail
  refine hno.mono ?_
  clear hno
  rintro e w1 ⟨rfl, hw1⟩
  obtain rfl := hw1.symm
  go_wp2_with fail
  refine hho.mono ?_
  clear hho
  rintro e w2 ⟨rfl, hg2⟩
  have h2 := HH.out.then hg2
  obtain ⟨-, -, -, c3, c4⟩ := h2.cells
  have f3 := free_row h2.head 3
  have h3 := h2.step 0
  have k3 := (Kept.new hg2 (fun i => i = x)).trans (kept_setCell w2 x 3 (.int .i64 ((0 : Nat) : Int))) (fun _ _ e => e)
  obtain ⟨-, -, -, -, d4⟩ := h3.cells
  have H3 := hide (And.intro h3 k3)
  clear h2 h3 k3 hg2
  go_wp2
  go_step3
  go_wp2
  clear c3 c4 f3 d4
  go_loopg [7, 8, 29] 2 (fun q v7 v8 v29 wr => ∃ t a : Nat, v29 = .int .i64 (t : Int) ∧ v7 = .int .i64 (a : Int) ∧ v8 = .bool false ∧ Hid (q = 2 - t ∧ ((t = 0 ∧ IxR wr x g n m c 0 S) ∨ (t = 1 ∧ Oth S k ho n ∧ IxR wr x g n m c (n - ho) S)) ∧ Kept w wr (fun i => i = x)))
  case atStart => exact ⟨0, 0, rfl, rfl, rfl, rfl, .inl ⟨rfl, H3.out.1⟩, H3.out.2⟩
  case round =>
    obtain ⟨t, a, rfl, rfl, rfl, HR⟩ := hrel
    obtain ⟨wo, hwo⟩ : ∃ wo, wo = wr := ⟨_, rfl⟩
    rw [← hwo] at HR ⊢
    clear hwo wr
    obtain ⟨B, F, T, HS⟩ : ∃ B F T : Nat, Hid ((t = 0 ∧ B = 0 ∧ F = ho ∧ T = n ∨ t = 1 ∧ B = n - ho ∧ F = 0 ∧ T = ho) ∧ IxR wo x g n m c B S ∧ (t = 1 → Oth S k ho n) ∧ Kept w wo (fun i => i = x) ∧ gk = 2 - t) := by
      obtain ⟨e0, (⟨e1, e2⟩ | ⟨e1, e2, e3⟩), e4⟩ := HR.out
      · exact ⟨0, ho, n, .inl ⟨e1, rfl, rfl, rfl⟩, e2, (fun e => by omega), e4, e0⟩
      · exact ⟨n - ho, 0, ho, .inr ⟨e1, rfl, rfl, rfl⟩, e3, (fun _ => e2), e4, e0⟩
    clear HR
    have hFT : F ≤ T ∧ T ≤ n := by obtain ⟨h1 | h1, _⟩ := HS.out <;> omega
    obtain ⟨hFT, hTn⟩ := hFT
    have hB8 : B ≤ 8192 := by obtain ⟨h1 | h1, _⟩ := HS.out <;> omega
    have hi0 := idx0
    have hi1 := idx1
    have HB := hide (And.intro hFT (And.intro hTn hB8))
    clear hFT hTn hB8
    obtain ⟨wp, hwp⟩ : ∃ wp, wp = wo.alloc (.cells #[.int .i64 (F : Int), .int .i64 (T : Int)] 220) := ⟨_, rfl⟩
    have gp : wo.grownBy wp none := by rw [hwp]; exact World.grownBy_alloc wo _ none
    have bp : wp.heap[wo.heap.size]? = some (.cells [Value.int .i64 (F : Int), .int .i64 (T : Int)].toArray 220 (0, 0)) := by rw [hwp]; exact heap_alloc_new wo _
    have hxP : x ≠ wo.heap.size := fun e => by have := row_lt HS.out.2.1.head; omega
    have hgP : g ≠ wo.heap.size := fun e => by have := row_lt HS.out.2.1.row; omega
    have HP := hide (And.intro hwp (And.intro gp (And.intro bp (And.intro hxP hgP))))
    clear hwp gp bp hxP hgP
    have key : t = 0 ∧ F = ho ∧ T = n ∨ t = 1 ∧ F = 0 ∧ T = ho := by rcases HS.out.1 with ⟨h1, _, h2, h3⟩ | ⟨h1, _, h2, h3⟩ <;> omega
    rcases key with ⟨rfl, rfl, rfl⟩ | ⟨rfl, rfl, rfl⟩
    · have HS' := HS
      obtain ⟨K, hKg⟩ : ∃ K, K = gk := ⟨_, rfl⟩
      have HKg := hide hKg
      clear hKg
      go_wp2
      rw [← HP.out.1]
      go_loopg [7, 8] (T - F) (fun q v7 v8 ws => ∃ a : Nat, v7 = .int .i64 (a : Int) ∧ v8 = .bool false ∧ Hid (q = T - a ∧ F ≤ a ∧ a ≤ T ∧ Oth S k F a ∧ IxR ws x g T m c (B + (a - F)) S ∧ ws.heap[wo.heap.size]? = some (.cells [Value.int .i64 (F : Int), .int .i64 (T : Int)].toArray 220 (0, 0)) ∧ Kept w ws (fun i => i = x)))
      case atStart => exact ⟨F, rfl, rfl, rfl, Nat.le_refl _, HB.out.1, (fun i h1 h2 => by omega), by rw [Nat.sub_self, Nat.add_zero]; exact HS.out.2.1.then HP.out.2.1, HP.out.2.2.1, HS.out.2.2.2.1.trans (Kept.new HP.out.2.1 (fun i => i = x)) (fun _ _ e => e)⟩
      case round =>
        obtain ⟨a, rfl, rfl, HL⟩ := hrel
        have pc := cell_row HL.out.2.2.2.2.2.1 1
        simp only [List.getElem?_cons_succ, List.getElem?_cons_zero] at pc
        by_cases hlt : a < T
        · have han : a < T := by have := HB.out.2.1; omega
          have hR := HL.out.2.2.2.2.1
          obtain ⟨sp, hsp⟩ : ∃ sp, sp = B + (a - F) := ⟨_, rfl⟩
          rw [← hsp] at hR
          have hs2 : sp ≤ 20000 := by have := HB.out.2.2; have := hR.most; omega
          have HSp := hide hsp
          obtain ⟨-, -, -, c3, c4⟩ := hR.cells
          have f3 := free_row hR.head 3
          have hR2 := hR.step (sp + 1)
          have HK2 := hide (HL.out.2.2.2.2.2.2.trans (kept_setCell wr x 3 (.int .i64 ((sp + 1 : Nat) : Int))) (fun _ _ e => e))
          have HP2 := hide ((kept_setCell wr x 3 (.int .i64 ((sp + 1 : Nat) : Int))).at HL.out.2.2.2.2.2.1 (fun e => HP.out.2.2.2.1 e.symm))
          have HR2 := hide hR2
          have hst : IntKind.i64.wrap ((sp : Int) + 1) = ((sp + 1 : Nat) : Int) := by rw [IntKind.wrap_i64]; omega
          obtain ⟨-, -, -, -, d4⟩ := hR2.cells
          obtain ⟨d5, d6, -⟩ := hR2.slot han
          have hlt' : ((a : Int) < (T : Int)) = True := by simp; omega
          clear hsp hR hR2 hlt
          generalize hW : wr.setCell ⟨x, 3, none⟩ (.int .i64 ((sp + 1 : Nat) : Int)) = W at *
          generalize ((sp + 1 : Nat) : Int) = s1 at *
          have hwy : wy T F a + 1 = sp + 1 := by
            have e1 := HSp.out
            have e2 := HL.out.2.1
            have e3 := HS.out.1
            unfold wy
            split <;> omega
          cases hy : sl S a with
          | none =>
            rw [hy] at d5 d6
            have HY := hide hy
            clear hy
            simp only [Option.isSome] at d5
            go_wp2
            try rw [Exit.noGoto_ret]
            go_ret2
            refine ⟨a, false, rfl, fnd1 han (by rw [HO.out]; exact HL.out.2.1) (by rw [HO.out]; exact HL.out.2.2.2.1) (fun e => by cases e) (fun _ => HY.out), by rw [hwy]; exact HR2.out, HK2.out⟩
          | some y =>
            rw [hy] at d5 d6
            have HY := hide hy
            clear hy
            simp only [Option.isSome] at d5
            rw [show idN (some y) = y.1 from rfl] at d6
            by_cases hyk : y.1 = k
            · rw [hyk] at d6
              have HYK := hide hyk
              clear hyk
              go_wp2
              try rw [Exit.noGoto_ret]
              go_ret2
              refine ⟨a, true, rfl, fnd1 han (by rw [HO.out]; exact HL.out.2.1) (by rw [HO.out]; exact HL.out.2.2.2.1) (fun _ => ⟨y.2, by rw [HY.out, ← HYK.out]⟩) (fun e => by cases e), by rw [hwy]; exact HR2.out, HK2.out⟩
            · have q1 : (((y.1 : Nat) : Int) == ((k : Nat) : Int)) = false := by simp; omega
              have q2 : decide (((y.1 : Nat) : Int) = ((k : Nat) : Int)) = false := by simp; omega
              have HSn := hide (HL.out.2.2.2.1.snoc HY.out hyk)
              clear hyk HY
              generalize y.1 = y1 at *
              go_wp2
              go_roundg (gk - 1)
              case rel =>
                have e1 := HSp.out
                have e2 := HL.out.2.1
                exact ⟨a + 1, by simp, rfl, by have := HL.out.1; omega, by omega, by omega, HSn.out, by rw [show B + (a + 1 - F) = sp + 1 by omega]; exact HR2.out, HP2.out, HK2.out⟩
              case measure => have := HL.out.1; omega
        · obtain rfl : a = T := by have := HL.out.2.2.1; omega
          have hlt' : ((a : Int) < (a : Int)) = False := by simp
          go_wp2
          go_roundg (K - 1)
          case rel => exact ⟨1, a, rfl, rfl, rfl, by have := HKg.out; have := HS.out.2.2.2.2; omega, .inr ⟨rfl, HL.out.2.2.2.1, by rcases HS.out.1 with ⟨_, hB, _⟩ | ⟨h, _⟩; (rw [hB, Nat.zero_add] at HL; exact HL.out.2.2.2.2.1); omega⟩, HL.out.2.2.2.2.2.2⟩
          case measure => have := HKg.out; have := HS.out.2.2.2.2; omega
    · have HS' := HS
      obtain ⟨K, hKg⟩ : ∃ K, K = gk := ⟨_, rfl⟩
      have HKg := hide hKg
      clear hKg
      go_wp2
      rw [show wo.alloc (.cells #[.int .i64 0, .int .i64 (T : Int)] 220) = wp from HP.out.1.symm]
      go_loopg [7, 8] (T - 0) (fun q v7 v8 ws => ∃ a : Nat, v7 = .int .i64 (a : Int) ∧ v8 = .bool false ∧ Hid (q = T - a ∧ 0 ≤ a ∧ a ≤ T ∧ Oth S k 0 a ∧ IxR ws x g n m c (B + (a - 0)) S ∧ ws.heap[wo.heap.size]? = some (.cells [Value.int .i64 ((0 : Nat) : Int), .int .i64 (T : Int)].toArray 220 (0, 0)) ∧ Kept w ws (fun i => i = x)))
      case atStart => exact ⟨0, rfl, rfl, rfl, Nat.le_refl _, HB.out.1, (fun i h1 h2 => by omega), by rw [Nat.sub_self, Nat.add_zero]; exact HS.out.2.1.then HP.out.2.1, HP.out.2.2.1, HS.out.2.2.2.1.trans (Kept.new HP.out.2.1 (fun i => i = x)) (fun _ _ e => e)⟩
      case round =>
        obtain ⟨a, rfl, rfl, HL⟩ := hrel
        have pc := cell_row HL.out.2.2.2.2.2.1 1
        simp only [List.getElem?_cons_succ, List.getElem?_cons_zero] at pc
        by_cases hlt : a < T
        · have han : a < n := by have := HB.out.2.1; omega
          have hR := HL.out.2.2.2.2.1
          obtain ⟨sp, hsp⟩ : ∃ sp, sp = B + (a - 0) := ⟨_, rfl⟩
          rw [← hsp] at hR
          have hs2 : sp ≤ 20000 := by have := HB.out.2.2; have := hR.most; omega
          have HSp := hide hsp
          obtain ⟨-, -, -, c3, c4⟩ := hR.cells
          have f3 := free_row hR.head 3
          have hR2 := hR.step (sp + 1)
          have HK2 := hide (HL.out.2.2.2.2.2.2.trans (kept_setCell wr x 3 (.int .i64 ((sp + 1 : Nat) : Int))) (fun _ _ e => e))
          have HP2 := hide ((kept_setCell wr x 3 (.int .i64 ((sp + 1 : Nat) : Int))).at HL.out.2.2.2.2.2.1 (fun e => HP.out.2.2.2.1 e.symm))
          have HR2 := hide hR2
          have hst : IntKind.i64.wrap ((sp : Int) + 1) = ((sp + 1 : Nat) : Int) := by rw [IntKind.wrap_i64]; omega
          obtain ⟨-, -, -, -, d4⟩ := hR2.cells
          obtain ⟨d5, d6, -⟩ := hR2.slot han
          have hlt' : ((a : Int) < (T : Int)) = True := by simp; omega
          have hlt2 := hlt
          clear hsp hR hR2 hlt
          generalize hW : wr.setCell ⟨x, 3, none⟩ (.int .i64 ((sp + 1 : Nat) : Int)) = W at *
          generalize ((sp + 1 : Nat) : Int) = s1 at *
          have hwy : wy n T a + 1 = sp + 1 := by
            have e1 := HSp.out
            have e2 := HL.out.2.1
            have e3 := HS.out.1
            unfold wy
            split <;> omega
          cases hy : sl S a with
          | none =>
            rw [hy] at d5 d6
            have HY := hide hy
            clear hy
            simp only [Option.isSome] at d5
            go_wp2
            try rw [Exit.noGoto_ret]
            go_ret2
            refine ⟨a, false, rfl, fnd2 (by rw [HO.out]; exact hl) (by rw [HO.out]; exact hlt2) (by rw [HO.out]; exact HS.out.2.2.1 trivial) HL.out.2.2.2.1 (fun e => by cases e) (fun _ => HY.out), by rw [hwy]; exact HR2.out, HK2.out⟩
          | some y =>
            rw [hy] at d5 d6
            have HY := hide hy
            clear hy
            simp only [Option.isSome] at d5
            rw [show idN (some y) = y.1 from rfl] at d6
            by_cases hyk : y.1 = k
            · rw [hyk] at d6
              have HYK := hide hyk
              clear hyk
              go_wp2
              try rw [Exit.noGoto_ret]
              go_ret2
              refine ⟨a, true, rfl, fnd2 (by rw [HO.out]; exact hl) (by rw [HO.out]; exact hlt2) (by rw [HO.out]; exact HS.out.2.2.1 trivial) HL.out.2.2.2.1 (fun _ => ⟨y.2, by rw [HY.out, ← HYK.out]⟩) (fun e => by cases e), by rw [hwy]; exact HR2.out, HK2.out⟩
            · have q1 : (((y.1 : Nat) : Int) == ((k : Nat) : Int)) = false := by simp; omega
              have q2 : decide (((y.1 : Nat) : Int) = ((k : Nat) : Int)) = false := by simp; omega
              have HSn := hide (HL.out.2.2.2.1.snoc HY.out hyk)
              clear hyk HY
              generalize y.1 = y1 at *
              go_wp2
              go_roundg (gk - 1)
              case rel =>
                have e1 := HSp.out
                have e2 := HL.out.2.1
                exact ⟨a + 1, by simp, rfl, by have := HL.out.1; omega, by omega, by omega, HSn.out, by rw [show B + (a + 1 - 0) = sp + 1 by omega]; exact HR2.out, HP2.out, HK2.out⟩
              case measure => have := HL.out.1; omega
        · obtain rfl : a = T := by have := HL.out.2.2.1; omega
          exfalso
          obtain ⟨i, hi, hfree⟩ := HF.out
          rcases Nat.lt_or_ge i a with h1 | h1
          · obtain ⟨y, hy, _⟩ := HL.out.2.2.2.1 i (Nat.zero_le _) h1
            rw [hfree] at hy; cases hy
          · obtain ⟨y, hy, _⟩ := HS.out.2.2.1 trivial i h1 hi
            rw [hfree] at hy; cases hy
end
end Go.Proofs.YtinkkocleognbaaGreatDoor.Ix
/- Put, Set, Get of an index. -/
namespace Go.Proofs.YtinkkocleognbaaGreatDoor.Ix
open Go.RowKit
attribute [local go_sem ↓] Go.wp_at_zero Go.wp_at_succ
/-- Where an index lies. -/
structure Ip where
  x : Nat
  g : Nat
  n : Nat
  m : Nat
def Ip.own (p : Ip) (i : Nat) : Prop := i = p.x ∨ i = p.g
/-- An index with the items M; was one looked for yet. -/
def Io (w : World) (p : Ip) (M : List (Nat × Int)) (lo : Bool) : Prop := ∃ st S, IxAt w p.x p.g p.n p.m st S M ∧ (lo = true ↔ 1 ≤ st)
section
variable {w w' : World} {p : Ip} {M : List (Nat × Int)} {lo : Bool}
theorem IxAt.far {X : Nat → Prop} {x g n m st : Nat} {S : List (Option (Nat × Int))} (h : IxAt w x g n m st S M) (k : Kept w w' X) (hx : ¬ X x) (hg : ¬ X g) : IxAt w' x g n m st S M := { h with at_ := h.at_.far k hx hg }
theorem Io.far {X : Nat → Prop} (h : Io w p M lo) (k : Kept w w' X) (hX : ∀ i, p.own i → ¬ X i) : Io w' p M lo := by
  obtain ⟨st, S, h1, h2⟩ := h
  exact ⟨st, S, h1.far k (hX _ (.inl rfl)) (hX _ (.inr rfl)), h2⟩
theorem Io.then (h : Io w p M lo) (k : w.grownBy w' none) : Io w' p M lo := h.far (Kept.new k (fun _ => False)) (fun _ _ e => e)
theorem Io.lt (h : Io w p M lo) : ∀ i, p.own i → i < w.heap.size := by
  obtain ⟨st, S, h1, h2⟩ := h
  rintro i (rfl | rfl)
  · exact row_lt h1.at_.head
  · exact row_lt h1.at_.row
theorem Io.asc (h : Io w p M lo) : Asc M := by obtain ⟨st, S, h1, h2⟩ := h; exact h1.inv.asc
theorem Io.few (h : Io w p M lo) : M.length ≤ p.m ∧ p.m ≤ 4096 ∧ 1 ≤ p.m ∧ Sz p.m p.n := by obtain ⟨st, S, h1, h2⟩ := h; exact ⟨h1.full, h1.m2, h1.m1, h1.sz⟩
theorem Io.ids (h : Io w p M lo) : ∀ y ∈ M, y.1 < 4294967296 ∧ -9223372036854775808 ≤ y.2 ∧ y.2 ≤ 9223372036854775807 := by obtain ⟨st, S, h1, h2⟩ := h; exact h1.ids
theorem Io.len (h : Io w p M lo) : Calls Tryz.prog 80 #[.pointer (some ⟨p.x, 0, none⟩)] w fun e w' => e = .returned (.int .i64 (M.length : Int)) ∧ w' = w := by obtain ⟨st, S, h1, h2⟩ := h; exact len_at h1.at_
/-- What a search leaves. -/
theorem Io.find (h : Io w p M lo) (k : Nat) (hk : k < 4294967296) :
    Calls Tryz.prog 146 #[.pointer (some ⟨p.x, 0, none⟩), .int .u32 (k : Int)] w fun e w' => ∃ (q : Nat) (S : List (Option (Nat × Int))), e = .returned (.tuple #[.int .i64 (q : Int), .bool (lk M k).isSome]) ∧ Fnd (hs p.n) p.n S k q (lk M k).isSome ∧ IxAt w' p.x p.g p.n p.m (wy p.n (hs p.n k) q + 1) S M ∧ Kept w w' (fun i => i = p.x) := by
  obtain ⟨st, S, h1, h2⟩ := h
  refine (find_at h1.at_ k hk (h1.inv.free h1.at_.pos)).mono ?_
  rintro e w' ⟨q, there, rfl, hf, hr, hk⟩
  obtain ⟨e1, _⟩ := h1.inv.fnd hf
  subst e1
  exact ⟨q, S, rfl, hf, { h1 with at_ := hr, st := by have := wy_lt (h1.inv.home k) hf.lt; omega }, hk⟩
theorem IxAt.io {st : Nat} {S : List (Option (Nat × Int))} (h : IxAt w p.x p.g p.n p.m (st + 1) S M) : Io w p M true := ⟨st + 1, S, h, by simp⟩
theorem lk_val {M : List (Nat × Int)} {k : Nat} (h : Asc M) {b : Bool} (hb : (lk M k).isSome = b) : (b = true → ∃ v, lk M k = some v ∧ (k, v) ∈ M) ∧ (b = false → lk M k = none) := by
  subst hb
  cases hq : lk M k with
  | none => exact ⟨(fun e => by cases e), fun _ => rfl⟩
  | some v => exact ⟨(fun _ => ⟨v, rfl, (lk_some h).1 hq⟩), fun e => by cases e⟩
/-- The three cells of a slot, written. -/
theorem IxR.put {x g n m c st q : Nat} {S : List (Option (Nat × Int))} (h : IxR w x g n m c st S) (_hq : q < n) (y : Option (Nat × Int)) : IxR (((w.setCell ⟨g, q * 3, none⟩ (.bool y.isSome)).setCell ⟨g, q * 3 + 1, none⟩ (.int .u32 (idN y : Int))).setCell ⟨g, q * 3 + 2, none⟩ (.int .i64 (vlN y))) x g n m c st (S.set q y) ∧ Kept w (((w.setCell ⟨g, q * 3, none⟩ (.bool y.isSome)).setCell ⟨g, q * 3 + 1, none⟩ (.int .u32 (idN y : Int))).setCell ⟨g, q * 3 + 2, none⟩ (.int .i64 (vlN y))) (fun i => i = g) := by
  have k1 := kept_setCell w g (q * 3) (.bool y.isSome)
  have k2 := kept_setCell (w.setCell ⟨g, q * 3, none⟩ (.bool y.isSome)) g (q * 3 + 1) (.int .u32 (idN y : Int))
  have k3 := kept_setCell ((w.setCell ⟨g, q * 3, none⟩ (.bool y.isSome)).setCell ⟨g, q * 3 + 1, none⟩ (.int .u32 (idN y : Int))) g (q * 3 + 2) (.int .i64 (vlN y))
  have k := (k1.trans k2 (fun _ _ e => e)).trans k3 (fun _ _ e => e)
  have r := row_setCell (row_setCell (row_setCell h.row (q * 3) (.bool y.isSome)) (q * 3 + 1) (.int .u32 (idN y : Int))) (q * 3 + 2) (.int .i64 (vlN y))
  rw [← scells_set] at r
  exact ⟨⟨k.at h.head h.ne, r, by rw [List.length_set]; exact h.len, h.pos, h.most⟩, k⟩
theorem get_io (h : Io w p M lo) (k : Nat) (hk : k < 4294967296) :
    Calls Tryz.prog 137 #[.pointer (some ⟨p.x, 0, none⟩), .int .u32 (k : Int)] w fun e w' => e = .returned (.tuple #[.int .i64 ((lk M k).getD 0), .bool (lk M k).isSome]) ∧ Io w' p M true ∧ Kept w w' p.own := by
  have hf := h.find k hk
  have HA := hide h.asc
  clear h
  obtain ⟨b, hb⟩ : ∃ b, (lk M k).isSome = b := ⟨_, rfl⟩
  obtain ⟨hy, hn⟩ := lk_val HA.out hb
  rw [hb] at hf ⊢
  cases b with
  | false =>
    rw [hn rfl]
    simp only [Option.getD]
    have HH := hide (And.intro hy hn)
    clear hy hn
    go_enter Tryz.func137, Tryz.ntmps137
    go_wp2_with fail
    refine hf.mono ?_
    clear hf
    rintro e w1 ⟨q, S, rfl, hF, hI, hK⟩
    have H1 : Hid (Io w1 p M true ∧ Kept w w1 p.own) := ⟨hI.io, hK.mono (fun i _ e => .inl e)⟩
    clear hI hK hF
    go_wp2
    go_ret2
    exact ⟨rfl, H1.out⟩
  | true =>
    obtain ⟨v, hv, -⟩ := hy rfl
    have HV := hide hv
    rw [hv]
    simp only [Option.getD]
    clear hy hn hv hb
    go_enter Tryz.func137, Tryz.ntmps137
    go_wp2_with fail
    refine hf.mono ?_
    clear hf
    rintro e w1 ⟨q, S, rfl, hF, hI, hK⟩
    have hS := (hI.inv.fnd hF).2 v HV.out
    obtain ⟨-, -, -, -, c4⟩ := hI.at_.cells
    obtain ⟨-, -, d3⟩ := hI.at_.slot hF.lt
    rw [hS] at d3
    simp only [vlN, Option.map, Option.getD] at d3
    have hq := hF.lt
    have H1 : Hid (Io w1 p M true ∧ Kept w w1 p.own) := ⟨hI.io, hK.mono (fun i _ e => .inl e)⟩
    clear hI hK hF hS
    generalize p.n = n at *
    go_wp2
    go_ret2
    exact ⟨rfl, H1.out⟩
theorem set_same {l : List Value} {j : Nat} {u : Value} (h : l[j]? = some u) : l.set j u = l := by
  apply List.ext_getElem?
  intro i
  rw [List.getElem?_set]
  have := (List.getElem?_eq_some_iff.1 h).1
  split
  · rename_i e
    subst e
    rw [h]
  · rfl
theorem up_none {M : List (Nat × Int)} {k : Nat} {v : Int} (h : lk M k = none) : up M k v = M := by
  rw [lk_none] at h
  unfold up
  have : M.map (fun x => if x.1 = k then (k, v) else x) = M.map id := by
    apply List.map_congr_left
    rintro ⟨a, b⟩ hx
    by_cases e : a = k
    · subst e; exact absurd hx (h b)
    · simp [e]
  rw [this, List.map_id]
theorem dr_none {M : List (Nat × Int)} {k : Nat} (h : lk M k = none) : dr M k = M := by
  rw [lk_none] at h
  unfold dr
  rw [List.filter_eq_self]
  rintro ⟨a, b⟩ hx
  have : a ≠ k := fun e => by subst e; exact h b hx
  simpa using this
theorem set_io (h : Io w p M lo) (k : Nat) (hk : k < 4294967296) (v : Int) (hv0 : -9223372036854775808 ≤ v) (hv1 : v ≤ 9223372036854775807) :
    Calls Tryz.prog 143 #[.pointer (some ⟨p.x, 0, none⟩), .int .u32 (k : Int), .int .i64 v] w fun e w' => e = .returned (.bool (lk M k).isSome) ∧ Io w' p (up M k v) true ∧ Kept w w' p.own := by
  have hf := h.find k hk
  have HA := hide h.asc
  have HB := hide (And.intro hk (And.intro hv0 hv1))
  clear h hk hv0 hv1
  obtain ⟨b, hb⟩ : ∃ b, (lk M k).isSome = b := ⟨_, rfl⟩
  obtain ⟨hy, hn⟩ := lk_val HA.out hb
  rw [hb] at hf ⊢
  cases b with
  | false =>
    have hn0 := hn rfl
    rw [up_none hn0]
    clear hy hn hn0
    go_enter Tryz.func143, Tryz.ntmps143
    go_wp2_with fail
    refine hf.mono ?_
    clear hf
    rintro e w1 ⟨q, S, rfl, hF, hI, hK⟩
    have H1 : Hid (Io w1 p M true ∧ Kept w w1 p.own) := ⟨hI.io, hK.mono (fun i _ e => .inl e)⟩
    clear hI hK hF
    go_wp2
    go_ret
    exact ⟨rfl, H1.out⟩
  | true =>
    obtain ⟨u, hu, -⟩ := hy rfl
    have HV := hide hu
    clear hy hn hu hb
    go_enter Tryz.func143, Tryz.ntmps143
    go_wp2_with fail
    refine hf.mono ?_
    clear hf
    rintro e w1 ⟨q, S, rfl, hF, hI, hK⟩
    have hS := (hI.inv.fnd hF).2 u HV.out
    obtain ⟨-, -, -, -, c4⟩ := hI.at_.cells
    obtain ⟨e1, e2, e3⟩ := hI.at_.slot hF.lt
    have f3 := free_row hI.at_.row (q * 3 + 2)
    have hq := hF.lt
    have H1 : Hid (Io (w1.setCell ⟨p.g, q * 3 + 2, none⟩ (.int .i64 v)) p (up M k v) true ∧ Kept w (w1.setCell ⟨p.g, q * 3 + 2, none⟩ (.int .i64 v)) p.own) := by
      have k3 := kept_setCell w1 p.g (q * 3 + 2) (.int .i64 v)
      have r := row_setCell hI.at_.row (q * 3 + 2) (.int .i64 v)
      have hc : (scells S).set (q * 3 + 2) (.int .i64 v) = scells (S.set q (some (k, v))) := by
        have hql : q < S.length := by rw [hI.at_.len]; exact hq
        obtain ⟨g1, g2, g3⟩ := scells_get hql
        rw [hS] at g1 g2
        rw [scells_set]
        congr 1
        rw [set_same (show (scells S)[q * 3]? = some (.bool (some (k, v)).isSome) from g1), set_same (show (scells S)[q * 3 + 1]? = some (.int .u32 (idN (some (k, v)) : Int)) from g2)]
      rw [hc] at r
      refine ⟨⟨_, S.set q (some (k, v)), { at_ := ⟨?_, r, by rw [List.length_set]; exact hI.at_.len, hI.at_.pos, hI.at_.most⟩, inv := hI.inv.up v hF, sz := hI.sz, m1 := hI.m1, m2 := hI.m2, full := by rw [up_length]; exact hI.full, st := hI.st, ids := fun y hy => ?_ }, by simp⟩, (hK.mono (fun i _ e => .inl e)).trans k3 (fun i _ e => .inr e)⟩
      · rw [up_length]; exact k3.at hI.at_.head hI.at_.ne
      · rcases up_mem.1 hy with ⟨rfl, _⟩ | ⟨hy, _⟩
        · exact HB.out
        · exact hI.ids y hy
    clear hI hK hF hS
    generalize hW : w1.setCell ⟨p.g, q * 3 + 2, none⟩ (.int .i64 v) = W at *
    generalize p.n = n at *
    go_wp2
    go_ret
    exact ⟨rfl, H1.out⟩
/-- What Put answers, what it leaves. -/
def putE (M : List (Nat × Int)) (k m : Nat) : Int := if (lk M k).isSome then 7 else if M.length = m then 6 else 0
def putM (M : List (Nat × Int)) (k m : Nat) (v : Int) : List (Nat × Int) := if (lk M k).isSome then M else if M.length = m then M else ins M (k, v)
set_option maxRecDepth 20000 in
theorem put_io (h : Io w p M lo) (k : Nat) (hk : k < 4294967296) (v : Int) (hv0 : -9223372036854775808 ≤ v) (hv1 : v ≤ 9223372036854775807) :
    Calls Tryz.prog 116 #[.pointer (some ⟨p.x, 0, none⟩), .int .u32 (k : Int), .int .i64 v] w fun e w' => e = .returned (.int .i64 (putE M k p.m)) ∧ Io w' p (putM M k p.m v) true ∧ Kept w w' p.own := by
  have hf := h.find k hk
  have hno : Calls Tryz.prog 118 #[.pointer (some ⟨p.x, 0, none⟩)] w fun e w' => e = .returned (.bool false) ∧ w' = w := by obtain ⟨st, S, h1, _⟩ := h; exact none_at h1.at_
  have HA := hide h.asc
  have HB := hide (And.intro hk (And.intro hv0 hv1))
  clear h hk hv0 hv1
  obtain ⟨b, hb⟩ : ∃ b, (lk M k).isSome = b := ⟨_, rfl⟩
  obtain ⟨hy, hn⟩ := lk_val HA.out hb
  unfold putE putM
  rw [hb] at hf ⊢
  cases b with
  | true =>
    simp only [if_true]
    clear hy hn
    go_enter Tryz.func116, Tryz.ntmps116
    go_wp2_with fail
    refine hno.mono ?_
    clear hno
    rintro e w0 ⟨rfl, hw0⟩
    obtain rfl := hw0.symm
    go_wp2_with fail
    refine hf.mono ?_
    clear hf
    rintro e w1 ⟨q, S, rfl, hF, hI, hK⟩
    have H1 : Hid (Io w1 p M true ∧ Kept w w1 p.own) := ⟨hI.io, hK.mono (fun i _ e => .inl e)⟩
    clear hI hK hF
    go_wp2
    go_ret
    exact ⟨rfl, H1.out⟩
  | false =>
    simp only [if_false, Bool.false_eq_true]
    have HN := hide (hn rfl)
    clear hy hn hb
    by_cases hm : M.length = p.m
    · rw [if_pos hm, if_pos hm]
      go_enter Tryz.func116, Tryz.ntmps116
      go_wp2_with fail
      refine hno.mono ?_
      clear hno
      rintro e w0 ⟨rfl, hw0⟩
      obtain rfl := hw0.symm
      go_wp2_with fail
      refine hf.mono ?_
      clear hf
      rintro e w1 ⟨q, S, rfl, hF, hI, hK⟩
      obtain ⟨-, c1, c2, -, -⟩ := hI.at_.cells
      rw [hm] at c2
      have H1 : Hid (Io w1 p M true ∧ Kept w w1 p.own) := ⟨hI.io, hK.mono (fun i _ e => .inl e)⟩
      clear hI hK hF hm
      generalize p.m = m at *
      go_wp2
      go_quiet (fail)
      go_wp2
      go_ret
      exact ⟨rfl, H1.out.1.then (grown_drewN _ _ _), H1.out.2.trans (Kept.new (grown_drewN _ _ none) p.own) (fun _ _ e => e)⟩
    · rw [if_neg hm, if_neg hm]
      go_enter Tryz.func116, Tryz.ntmps116
      go_wp2_with fail
      refine hno.mono ?_
      clear hno
      rintro e w0 ⟨rfl, hw0⟩
      obtain rfl := hw0.symm
      go_wp2_with fail
      refine hf.mono ?_
      clear hf
      rintro e w1 ⟨q, S, rfl, hF, hI, hK⟩
      obtain ⟨-, c1, c2, -, -⟩ := hI.at_.cells
      have q1 : ((M.length : Int) == (p.m : Int)) = false := by simp; omega
      have q2 : decide ((M.length : Int) = (p.m : Int)) = false := by simp; omega
      obtain ⟨c, hc⟩ : ∃ c, c = M.length := ⟨_, rfl⟩
      have hc9 : c < 4096 := by have := hI.full; have := hI.m2; omega
      have hwr : IntKind.i64.wrap ((c : Int) + 1) = ((c + 1 : Nat) : Int) := by rw [IntKind.wrap_i64]; omega
      have H1 : Hid (∀ w2, w1.grownBy w2 none → ∀ W, ((w2.setCell ⟨p.g, q * 3, none⟩ (.bool true)).setCell ⟨p.g, q * 3 + 1, none⟩ (.int .u32 (k : Int))).setCell ⟨p.g, q * 3 + 2, none⟩ (.int .i64 v) = W → (w2.cell? ⟨p.x, 4, none⟩ = some (.slice (some ⟨p.g, 0, none⟩) p.n p.n) ∧ (∃ u, w2.cell? ⟨p.g, q * 3, none⟩ = some u) ∧ (∃ u, w2.cell? ⟨p.g, q * 3 + 1, none⟩ = some u) ∧ (∃ u, w2.cell? ⟨p.g, q * 3 + 2, none⟩ = some u) ∧ (∀ j, w2.frozen? ⟨p.g, j, none⟩ = false) ∧ W.cell? ⟨p.x, 2, none⟩ = some (.int .i64 (c : Int)) ∧ W.frozen? ⟨p.x, 2, none⟩ = false ∧ Io (W.setCell ⟨p.x, 2, none⟩ (.int .i64 ((c + 1 : Nat) : Int))) p (ins M (k, v)) true ∧ Kept w (W.setCell ⟨p.x, 2, none⟩ (.int .i64 ((c + 1 : Nat) : Int))) p.own)) := by
        rintro w2 hg W rfl
        have hI2 := hI.far (Kept.new hg (fun _ => False)) (fun e => e) (fun e => e)
        obtain ⟨-, -, -, -, c4⟩ := hI2.at_.cells
        obtain ⟨s1, s2, s3⟩ := hI2.at_.slot hF.lt
        obtain ⟨r1, r2⟩ := hI2.at_.put hF.lt (some (k, v))
        obtain ⟨-, -, t2, -, -⟩ := r1.cells
        have r3 := r1.count (c + 1)
        refine ⟨c4, ⟨_, s1⟩, ⟨_, s2⟩, ⟨_, s3⟩, fun j => free_row hI2.at_.row j, by rw [hc]; exact t2, free_row r1.head 2, ⟨_, S.set q (some (k, v)), { at_ := ?_, inv := hI.inv.put v hF (by have := hI.sz.le; have := hI.full; omega), sz := hI.sz, m1 := hI.m1, m2 := hI.m2, full := by rw [ins_length]; have := hI.full; omega, st := hI.st, ids := fun y hy => ?_ }, by simp⟩, ?_⟩
        · rw [ins_length, ← hc]; exact r3
        · rcases ins_mem.1 hy with rfl | hy
          · exact HB.out
          · exact hI.ids y hy
        · exact (((hK.mono (fun i _ e => Or.inl e)).trans (Kept.new hg p.own) (fun _ _ e => e)).trans r2 (fun i _ e => .inr e)).trans (kept_setCell _ p.x 2 _) (fun i _ e => .inl e)
      have hq := hF.lt
      rw [← hc] at c2 q1 q2
      clear hI hK hF hm hc
      generalize p.m = m at *
      go_wp2
      go_quiet (fail)
      generalize hw2 : w1.drewN _ = w2
      obtain ⟨c4, ⟨u1, s1⟩, ⟨u2, s2⟩, ⟨u3, s3⟩, fz, t2, f2, H2⟩ := H1.out w2 (by rw [← hw2]; exact grown_drewN _ _ _) _ rfl
      have HH := hide H2
      clear hw2 c1 c2 H1 H2
      generalize p.n = n at *
      generalize hW : ((w2.setCell ⟨p.g, q * 3, none⟩ (.bool true)).setCell ⟨p.g, q * 3 + 1, none⟩ (.int .u32 (k : Int))).setCell ⟨p.g, q * 3 + 2, none⟩ (.int .i64 v) = W at *
      go_wp2
      go_ret
      exact ⟨rfl, HH.out⟩
end
end Go.Proofs.YtinkkocleognbaaGreatDoor.Ix
/- Items move up; Drop. -/
namespace Go.Proofs.YtinkkocleognbaaGreatDoor.Ix
open Go.RowKit
attribute [local go_sem ↓] Go.wp_at_zero Go.wp_at_succ
section
variable {w w' : World} {x g n m c st : Nat} {S : List (Option (Nat × Int))} {M : List (Nat × Int)}
set_option maxRecDepth 20000 in
set_option maxHeartbeats 4000000 in
theorem takeOut_at (h : IxR w x g n m c st S) {g0 F : Nat} (hT : TO (hs n) n S M g0 F g0 (bh n g0)) (hA : Asc M) (hf : 2 * M.length ≤ n) (hid : ∀ y ∈ M, y.1 < 4294967296) (hst : st ≤ 20000) :
    Calls Tryz.prog 156 #[.pointer (some ⟨x, 0, none⟩), .int .i64 (g0 : Int)] w fun e w' => ∃ S', e = .returned (.tuple #[]) ∧ Inv (hs n) n S' M ∧ IxR w' x g n m c (st + wy n g0 F) S' ∧ Kept w w' (fun i => i = x ∨ i = g) := by
  have hb0 := behind_at h g0 hT.g0n
  have HH := hide (And.intro h (And.intro hT (And.intro hA (And.intro hf hid))))
  have hn8 := h.most
  have hb1 : wy n g0 (bh n g0) = 1 := by
    have h1 : wy n g0 g0 < wy n g0 F := by have := hT.ga; have := hT.aF; omega
    rw [wy_bh hT.g0n hT.g0n hT.Fn h1, wy_self]
  have HB1 := hide hb1
  clear h hT hA hf hid hb1
  generalize hbb : bh n g0 = b0 at *
  clear hbb
  go_enter Tryz.func156, Tryz.ntmps156
  go_wp2_with fail
  refine hb0.mono ?_
  clear hb0
  rintro e w1 ⟨rfl, hw1⟩
  obtain rfl := hw1.symm
  go_wp2
  go_loopg [1, 4] (wy n g0 F - 1) (fun q v1 v4 wr => ∃ gp a : Nat, v1 = .int .i64 (gp : Int) ∧ v4 = .int .i64 (a : Int) ∧ Hid (∃ S' s, TO (hs n) n S' M g0 F gp a ∧ IxR wr x g n m c s S' ∧ s + 1 = st + wy n g0 a ∧ q = wy n g0 F - wy n g0 a ∧ Kept w wr (fun i => i = x ∨ i = g)))
  case atStart => exact ⟨g0, b0, rfl, rfl, S, st, HH.out.2.1, HH.out.1, by rw [HB1.out], by rw [HB1.out], Kept.refl _ _⟩
  case round =>
    obtain ⟨gp, a, rfl, rfl, S', s, hT, hI, hs1, hq, hK⟩ := hrel
    obtain ⟨-, -, -, c3, c4⟩ := hI.cells
    have han := hT.an
    have hgn := hT.gn
    have hlF := wy_lt hT.g0n hT.Fn
    have hla := hT.aF
    obtain ⟨d0, d1, d2⟩ := hI.slot han
    cases hy : sl S' a with
    | none =>
      rw [hy] at d0
      simp only [Option.isSome] at d0
      obtain ⟨haF, hInv⟩ := hT.done HH.out.2.2.1 HH.out.2.2.2.1 hy
      have hs9 : s ≤ 40000 := by omega
      have hwr : IntKind.i64.wrap ((s : Int) + 1) = ((s + 1 : Nat) : Int) := by rw [IntKind.wrap_i64]; omega
      have f3 := free_row hI.head 3
      have hI2 := hI.step (s + 1)
      have k2 := hK.trans (kept_setCell wr x 3 (.int .i64 ((s + 1 : Nat) : Int))) (fun i _ e => .inl e)
      obtain ⟨-, -, -, -, t4⟩ := hI2.cells
      obtain ⟨t0, t1, t2⟩ := hI2.slot hgn
      have fz : ∀ j, (wr.setCell ⟨x, 3, none⟩ (.int .i64 ((s + 1 : Nat) : Int))).frozen? ⟨g, j, none⟩ = false := fun j => free_row hI2.row j
      obtain ⟨r1, r2⟩ := hI2.put hgn none
      have HR : Hid (∀ W, (((wr.setCell ⟨x, 3, none⟩ (.int .i64 ((s + 1 : Nat) : Int))).setCell ⟨g, gp * 3, none⟩ (.bool false)).setCell ⟨g, gp * 3 + 1, none⟩ (.int .u32 0)).setCell ⟨g, gp * 3 + 2, none⟩ (.int .i64 0) = W → ∃ S'', Inv (hs n) n S'' M ∧ IxR W x g n m c (st + wy n g0 F) S'' ∧ Kept w W (fun i => i = x ∨ i = g)) := by
        rintro W rfl
        refine ⟨S'.set gp none, hInv, ?_, k2.trans r2 (fun i _ e => .inr e)⟩
        rw [show st + wy n g0 F = s + 1 by rw [hs1, haF]]
        exact r1
      clear hT hI hI2 hK hy hq r1 r2 k2 hInv haF hs1 d1 d2 hlF hla
      generalize hW1 : wr.setCell ⟨x, 3, none⟩ (.int .i64 ((s + 1 : Nat) : Int)) = W1 at *
      generalize ((s + 1 : Nat) : Int) = s1 at *
      go_wp2
      go_end0
      obtain ⟨S'', h1, h2, h3⟩ := HR.out _ rfl
      exact ⟨S'', rfl, h1, h2, h3⟩
    | some y =>
      rw [hy] at d0 d1
      simp only [Option.isSome] at d0
      rw [show idN (some y) = y.1 from rfl] at d1
      have hs9 : s ≤ 40000 := by omega
      have hag : a ≠ gp := fun e => by have := hT.ga; rw [e] at this; omega
      have hyM : y ∈ M := (hT.mem y).2 ⟨a, hag, hy⟩
      have hy9 := HH.out.2.2.2.2 y hyM
      have hltF := hT.lt hy
      have hbh := wy_bh hT.g0n hT.an hT.Fn hltF
      have hwr : IntKind.i64.wrap ((s : Int) + 1) = ((s + 1 : Nat) : Int) := by rw [IntKind.wrap_i64]; omega
      have f3 := free_row hI.head 3
      have hI2 := hI.step (s + 1)
      have k2 := hK.trans (kept_setCell wr x 3 (.int .i64 ((s + 1 : Nat) : Int))) (fun i _ e => .inl e)
      obtain ⟨-, -, -, -, t4⟩ := hI2.cells
      obtain ⟨t0, t1, t2⟩ := hI2.slot han
      rw [hy] at t0 t1 t2
      rw [show idN (some y) = y.1 from rfl] at t1
      rw [show vlN (some y) = y.2 from rfl] at t2
      have hhm := home_at hI2 y.1 hy9
      have hhl := hs_lt hI2.pos y.1
      have HI2 := hide (And.intro hI2 (And.intro k2 (And.intro hT (And.intro hy (And.intro hs1 (And.intro hq (And.intro hbh hltF)))))))
      clear hT hI hI2 hK hy hq k2 hs1 d2 hlF hla hbh hltF
      have hgp1 : hs n y.1 = hs n y.1 := rfl
      obtain ⟨hm, hhm1⟩ : ∃ hm, hm = hs n y.1 := ⟨_, rfl⟩
      rw [← hhm1] at hhm hhl
      have HHM := hide hhm1
      clear hhm1 hgp1
      generalize hW1 : wr.setCell ⟨x, 3, none⟩ (.int .i64 ((s + 1 : Nat) : Int)) = W1 at *
      generalize hs1e : ((s + 1 : Nat) : Int) = s1 at *
      have HW1 := hide (And.intro hW1 hs1e)
      clear hs1e
      obtain ⟨y1, hy1⟩ : ∃ y1, y1 = y.1 := ⟨_, rfl⟩
      obtain ⟨y2, hy2⟩ : ∃ y2, y2 = y.2 := ⟨_, rfl⟩
      rw [← hy1] at d1 t1 hy9 hhm
      rw [← hy2] at t2
      have HY := hide (And.intro hy1 hy2)
      clear hy1 hy2
      go_wp2_with fail
      refine hhm.mono ?_
      clear hhm
      rintro e w2 ⟨rfl, hg2⟩
      have hJ2 := HI2.out.1.then hg2
      have K2 := hide (And.intro hJ2 (HI2.out.2.1.trans (Kept.new hg2 (fun i => i = x ∨ i = g)) (fun _ _ e => e)))
      have hw1 := way_at hJ2 hm a hhl han
      clear hg2 hJ2
      go_wp2_with fail
      refine hw1.mono ?_
      clear hw1
      rintro e w3 ⟨rfl, hg3⟩
      have hJ3 := K2.out.1.then hg3
      have K3 := hide (And.intro hJ3 (K2.out.2.trans (Kept.new hg3 (fun i => i = x ∨ i = g)) (fun _ _ e => e)))
      have hw2 := way_at hJ3 gp a hgn han
      clear hg3 hJ3 K2
      go_wp2_with fail
      refine hw2.mono ?_
      clear hw2
      rintro e w4 ⟨rfl, hg4⟩
      have hJ4 := K3.out.1.then hg4
      have K4 := hide (And.intro hJ4 (K3.out.2.trans (Kept.new hg4 (fun i => i = x ∨ i = g)) (fun _ _ e => e)))
      clear hg4 K3
      obtain ⟨-, -, -, -, v4⟩ := hJ4.cells
      obtain ⟨v0, v1, v2⟩ := hJ4.slot han
      obtain ⟨u0, u1, u2⟩ := hJ4.slot hgn
      have fz : ∀ j, w4.frozen? ⟨g, j, none⟩ = false := fun j => free_row hJ4.row j
      rw [HI2.out.2.2.2.1] at v0 v1 v2
      rw [show idN (some y) = y.1 from rfl, ← HY.out.1] at v1
      rw [show vlN (some y) = y.2 from rfl, ← HY.out.2] at v2
      simp only [Option.isSome] at v0
      clear hJ4 t0 t1 t2 t4
      by_cases hge : wy n gp a ≤ wy n hm a
      · have hge' : ((wy n gp a : Int) ≤ (wy n hm a : Int)) = True := by simp; omega
        have HG := hide (HI2.out.2.2.1.move HI2.out.2.2.2.1 (by rw [← HHM.out]; exact hge))
        clear hge
        generalize wy n gp a = p1 at *
        generalize wy n hm a = p2 at *
        go_wp2
        have hput := K4.out.1.put hgn (some y)
        rw [show idN (some y) = y.1 from rfl, show vlN (some y) = y.2 from rfl, ← HY.out.1, ← HY.out.2] at hput
        simp only [Option.isSome] at hput
        have HP := hide hput
        clear hput
        go_region
        generalize hw5 : ((w4.setCell ⟨g, gp * 3, none⟩ (.bool true)).setCell ⟨g, gp * 3 + 1, none⟩ (.int .u32 (y1 : Int))).setCell ⟨g, gp * 3 + 2, none⟩ (.int .i64 y2) = w5
        rw [hw5] at HP
        generalize hw6 : w5.drew = w6
        have g6 : w5.grownBy w6 none := by rw [← hw6]; exact grown_drew _ _
        have hJ6 := HP.out.1.then g6
        have K6 := hide (And.intro hJ6 ((K4.out.2.trans HP.out.2 (fun i _ e => .inr e)).trans (Kept.new g6 (fun i => i = x ∨ i = g)) (fun _ _ e => e)))
        have hbe := behind_at hJ6 a han
        clear hw5 hw6 g6 hJ6 HP v0 v1 v2 v4 u0 u1 u2 fz
        go_wp2_with fail
        refine hbe.mono ?_
        clear hbe
        rintro e w7 ⟨rfl, hw7⟩
        obtain rfl := hw7.symm
        go_wp2
        go_roundg (gk - 1)
        case rel => exact ⟨a, bh n a, rfl, rfl, S'.set gp (some y), s + 1, HG.out, K6.out.1, by have h1 := HI2.out.2.2.2.2.2.2.1; have h2 := HI2.out.2.2.2.2.1; omega, by have h1 := HI2.out.2.2.2.2.2.2.1; have h2 := HI2.out.2.2.2.2.2.1; omega, K6.out.2⟩
        case measure => have h1 := HI2.out.2.2.2.2.2.2.2; have h2 := HI2.out.2.2.2.2.2.1; omega
      · have hge' : ((wy n gp a : Int) ≤ (wy n hm a : Int)) = False := by simp; omega
        have HG := hide (HI2.out.2.2.1.pass HI2.out.2.2.2.1 (by rw [← HHM.out]; exact hge))
        clear hge
        have hbe := behind_at K4.out.1 a han
        generalize wy n gp a = p1 at *
        generalize wy n hm a = p2 at *
        go_wp2_with fail
        refine hbe.mono ?_
        clear hbe
        rintro e w7 ⟨rfl, hw7⟩
        obtain rfl := hw7.symm
        go_wp2
        go_roundg (gk - 1)
        case rel => exact ⟨gp, bh n a, rfl, rfl, S', s + 1, HG.out, K4.out.1, by have h1 := HI2.out.2.2.2.2.2.2.1; have h2 := HI2.out.2.2.2.2.1; omega, by have h1 := HI2.out.2.2.2.2.2.2.1; have h2 := HI2.out.2.2.2.2.2.1; omega, K4.out.2⟩
        case measure => have h1 := HI2.out.2.2.2.2.2.2.2; have h2 := HI2.out.2.2.2.2.2.1; omega
end
set_option maxRecDepth 20000 in
theorem drop_io {w : World} {p : Ip} {M : List (Nat × Int)} {lo : Bool} (h : Io w p M lo) (k : Nat) (hk : k < 4294967296) :
    Calls Tryz.prog 139 #[.pointer (some ⟨p.x, 0, none⟩), .int .u32 (k : Int)] w fun e w' => e = .returned (.bool (lk M k).isSome) ∧ Io w' p (dr M k) true ∧ Kept w w' p.own := by
  have hf := h.find k hk
  have HA := hide h.asc
  clear h
  obtain ⟨b, hb⟩ : ∃ b, (lk M k).isSome = b := ⟨_, rfl⟩
  obtain ⟨hy, hn⟩ := lk_val HA.out hb
  rw [hb] at hf ⊢
  cases b with
  | false =>
    have hn0 := hn rfl
    rw [dr_none hn0]
    clear hy hn hn0
    go_enter Tryz.func139, Tryz.ntmps139
    go_wp2_with fail
    refine hf.mono ?_
    clear hf
    rintro e w1 ⟨q, S, rfl, hF, hI, hK⟩
    have H1 : Hid (Io w1 p M true ∧ Kept w w1 p.own) := ⟨hI.io, hK.mono (fun i _ e => .inl e)⟩
    clear hI hK hF
    go_wp2
    go_ret
    exact ⟨rfl, H1.out⟩
  | true =>
    obtain ⟨u, hu, hm⟩ := hy rfl
    have HV := hide (And.intro hu hm)
    clear hy hn hu hb hm
    go_enter Tryz.func139, Tryz.ntmps139
    go_wp2_with fail
    refine hf.mono ?_
    clear hf
    rintro e w1 ⟨q, S, rfl, hF, hI, hK⟩
    obtain ⟨F, hT, hlt⟩ := TO.start hI.inv hF
    have hlen := dr_length HA.out HV.out.2
    have hq := wy_lt (hI.inv.home k) hF.lt
    have hto := takeOut_at hI.at_ hT (dr_asc HA.out k) (by have := hI.inv.few; omega) (fun y hy => (hI.ids y (dr_mem.1 hy).1).1) (by have := hI.at_.most; omega)
    have HI := hide (And.intro hI (And.intro hK (And.intro hlt hlen)))
    clear hI hK hT hlt hq hlen hF
    go_wp2_with fail
    refine hto.mono ?_
    clear hto
    rintro e w2 ⟨S2, rfl, hInv, hR, hK2⟩
    obtain ⟨-, -, c2, -, -⟩ := hR.cells
    have f2 := free_row hR.head 2
    obtain ⟨c, hc⟩ : ∃ c, c = (dr M k).length := ⟨_, rfl⟩
    have hlen := HI.out.2.2.2
    have hR2 := hR.count c
    have hfull := HI.out.1.full
    have hm2 := HI.out.1.m2
    have hml : M.length = c + 1 := by omega
    rw [hml] at c2 hfull
    have hc9 : c < 4096 := by omega
    have hwr : ((c + 1 : Nat) : Int) - 1 = (c : Int) := by omega
    have H1 : Hid (Io (w2.setCell ⟨p.x, 2, none⟩ (.int .i64 (c : Int))) p (dr M k) true ∧ Kept w (w2.setCell ⟨p.x, 2, none⟩ (.int .i64 (c : Int))) p.own) := by
      refine ⟨⟨_, S2, { at_ := by rw [← hc]; exact hR2, inv := hInv, sz := HI.out.1.sz, m1 := HI.out.1.m1, m2 := HI.out.1.m2, full := by omega, st := by have := HI.out.2.2.1; omega, ids := fun y hy => HI.out.1.ids y (dr_mem.1 hy).1 }, ?_⟩, ((HI.out.2.1.mono (fun i _ e => Or.inl e)).trans hK2 (fun i _ e => e)).trans (kept_setCell w2 p.x 2 _) (fun i _ e => .inl e)⟩
      simp
      omega
    clear hR hK2 hR2 hc hml hlen hInv hfull hm2
    go_wp2
    go_ret
    exact ⟨rfl, H1.out⟩
end Go.Proofs.YtinkkocleognbaaGreatDoor.Ix
/- Records: numbers alone. -/
namespace Go.Proofs.YtinkkocleognbaaGreatDoor
/-- A record: kind, id, seat, until, clock. -/
structure Rc where
  k : Int
  i : Int
  s : Int
  u : Int
  c : Int
/-- Its numbers are such. -/
structure Rc.Ok (r : Rc) : Prop where
  k0 : -9223372036854775808 ≤ r.k
  k1 : r.k ≤ 9223372036854775807
  i0 : 0 ≤ r.i
  i1 : r.i < 4294967296
  s0 : -9223372036854775808 ≤ r.s
  s1 : r.s ≤ 9223372036854775807
  u0 : -9223372036854775808 ≤ r.u
  u1 : r.u ≤ 9223372036854775807
  c0 : -9223372036854775808 ≤ r.c
  c1 : r.c ≤ 9223372036854775807
/-- The last tick. -/
abbrev mxC : Int := 1099511627776
/-- It may be. -/
def Rc.May (r : Rc) : Prop := (r.k = 1 ∧ 1 ≤ r.i ∧ (0 ≤ r.s ∧ r.s < 1024) ∧ (1 ≤ r.u ∧ r.u ≤ mxC) ∧ r.c = 0) ∨ ((r.k = 2 ∨ r.k = 3) ∧ 1 ≤ r.i ∧ r.s = 0 ∧ r.u = 0 ∧ r.c = 0) ∨ (r.k = 4 ∧ 1 ≤ r.i ∧ (0 ≤ r.s ∧ r.s < 1024) ∧ r.u = 0 ∧ r.c = 0) ∨ (r.k = 5 ∧ r.i = 0 ∧ r.s = 0 ∧ r.u = 0 ∧ (1 ≤ r.c ∧ r.c ≤ mxC))
instance (r : Rc) : Decidable r.May := by unfold Rc.May; exact inferInstance
def zRc : Rc := ⟨0, 0, 0, 0, 0⟩
theorem may_kind {r : Rc} (h : r.May) : r.k = 1 ∨ r.k = 2 ∨ r.k = 3 ∨ r.k = 4 ∨ r.k = 5 := by unfold Rc.May at h; omega
end Go.Proofs.YtinkkocleognbaaGreatDoor
/- records: which fields a kind has, what may be, Check, Size. -/
namespace Go.Proofs.YtinkkocleognbaaGreatDoor.Rk
open Go.RowKit
attribute [local go_sem ↓] Go.wp_at_zero Go.wp_at_succ
/-- The table of fields, cell by cell. -/
def tabB : List Bool := [false, false, false, false, true, true, true, false, true, false, false, false, true, false, false, false, true, true, false, false, false, false, false, true]
def Tab (w : World) : Prop := ∀ j, j < 24 → w.cell? ⟨0, j, none⟩ = some (.bool (tabB.getD j false))
theorem Tab.lt {w : World} (h : Tab w) : 0 < w.heap.size := by
  have := h 0 (by decide)
  cases hb : w.heap[0]? with
  | none => simp [World.cell?, hb] at this
  | some o => exact row_lt hb
theorem Tab.grown {w w' : World} {row : Option Nat} (h : Tab w) (hg : w.grownBy w' row) (hr : row ≠ some 0) : Tab w' := fun j hj => hg.cell (h j hj) (fun e => hr e.symm)
theorem Tab.new {w w' : World} (h : Tab w) (hg : w.grownBy w' none) : Tab w' := h.grown hg (by simp)
/-- Which fields a kind has. -/
def fI (k : Int) : Bool := decide (k = 1 ∨ k = 2 ∨ k = 3 ∨ k = 4)
def fS (k : Int) : Bool := decide (k = 1 ∨ k = 4)
def fU (k : Int) : Bool := decide (k = 1)
def fC (k : Int) : Bool := decide (k = 5)
def rcV (r : Rc) : Value := .agg #[.int .i64 r.k, .int .u32 r.i, .int .i64 r.s, .int .i64 r.u, .int .i64 r.c]
def rcC (r : Rc) : List Value := [.int .i64 r.k, .int .u32 r.i, .int .i64 r.s, .int .i64 r.u, .int .i64 r.c]
def isR (has : Bool) (n lo hi : Int) : Bool := if has then decide (lo ≤ n ∧ n ≤ hi) else decide (n = 0)

theorem isKind_any (k : Int) (w : World) : Calls Tryz.prog 91 #[.int .i64 k] w fun e w' => e = .returned (.bool (decide (1 ≤ k ∧ k ≤ 5))) ∧ w' = w := by
  by_cases h1 : 1 ≤ k
  · by_cases h2 : k ≤ 5
    · rw [decide_eq_true (show 1 ≤ k ∧ k ≤ 5 from ⟨h1, h2⟩)]
      go_enter Tryz.func91, Tryz.ntmps91
      go_wp2
      go_ret
      exact ⟨rfl, rfl⟩
    · rw [decide_eq_false (show ¬ (1 ≤ k ∧ k ≤ 5) from fun h => h2 h.2)]
      go_enter Tryz.func91, Tryz.ntmps91
      go_wp2
      go_ret
      exact ⟨rfl, rfl⟩
  · rw [decide_eq_false (show ¬ (1 ≤ k ∧ k ≤ 5) from fun h => h1 h.1)]
    go_enter Tryz.func91, Tryz.ntmps91
    go_wp2
    go_ret
    exact ⟨rfl, rfl⟩
theorem isRight_any (has : Bool) (n lo hi : Int) (w : World) : Calls Tryz.prog 126 #[.bool has, .int .i64 n, .int .i64 lo, .int .i64 hi] w fun e w' => e = .returned (.bool (isR has n lo hi)) ∧ w' = w := by
  cases has with
  | false =>
    rw [show isR false n lo hi = decide (n = 0) from rfl]
    by_cases h0 : n = 0
    · rw [decide_eq_true h0]
      subst h0
      go_enter Tryz.func126, Tryz.ntmps126
      go_wp2
      go_ret
      exact ⟨rfl, rfl⟩
    · rw [decide_eq_false h0]
      have h1 : (n == 0) = false := by simpa using h0
      have h2 : decide (n = 0) = false := by simpa using h0
      go_enter Tryz.func126, Tryz.ntmps126
      go_wp2
      go_ret
      exact ⟨rfl, rfl⟩
  | true =>
    rw [show isR true n lo hi = decide (lo ≤ n ∧ n ≤ hi) from rfl]
    by_cases h1 : lo ≤ n
    · by_cases h2 : n ≤ hi
      · rw [decide_eq_true (show lo ≤ n ∧ n ≤ hi from ⟨h1, h2⟩)]
        go_enter Tryz.func126, Tryz.ntmps126
        go_wp2
        go_ret
        exact ⟨rfl, rfl⟩
      · rw [decide_eq_false (show ¬ (lo ≤ n ∧ n ≤ hi) from fun h => h2 h.2)]
        go_enter Tryz.func126, Tryz.ntmps126
        go_wp2
        go_ret
        exact ⟨rfl, rfl⟩
    · rw [decide_eq_false (show ¬ (lo ≤ n ∧ n ≤ hi) from fun h => h1 h.1)]
      go_enter Tryz.func126, Tryz.ntmps126
      go_wp2
      go_ret
      exact ⟨rfl, rfl⟩
end Go.Proofs.YtinkkocleognbaaGreatDoor.Rk
