/- Texts joined: Sl4, Sl5, Sl6, Sl7, Sl8, FHd3. -/
import Derived.Test.YtonokaelbpfjnabGreatDoorJkAj
/- Two claims, sorted: the sort. -/
namespace Go.Proofs.YtonokaelbpfjnabGreatDoor
open Go.RowKit Ap
attribute [local go_sem ↓] Go.wp_at_zero Go.wp_at_succ
/-- Claims in a row. -/
def CsAt (w : World) (g : Nat) (L : List (Fm.Hd × Int)) : Prop := ∀ j p, L[j]? = some p → ∀ i v, (clC p.1 p.2)[i]? = some v → w.cell? ⟨g, j * 5 + i, none⟩ = some v
theorem CsAt.kept {w w' : World} {g : Nat} {L : List (Fm.Hd × Int)} (h : CsAt w g L) (hg : w.grownBy w' none) : CsAt w' g L := fun j p hj i v hv => hg.cell (h j p hj i v hv) (by simp)
set_option maxHeartbeats 4000000 in
theorem swap10 {w : World} {g : Nat} {cur : List Value} {x y : Fm.Hd} {a b : Int} (hf : w.heap[g]? = some (.cells cur.toArray 87 (0, 0))) (hl : 10 ≤ cur.length) :
    (∃ cur' : List Value, (((((((((((w.setCell ⟨g, 5, none⟩ (.int .u64 x.g)).setCell ⟨g, 6, none⟩ (.int .u64 x.c)).setCell ⟨g, 7, none⟩ (.int .i64 x.n)).setCell ⟨g, 8, none⟩ (.int .u32 x.s)).setCell ⟨g, 9, none⟩ (.int .i64 a)).setCell ⟨g, 0, none⟩ (.int .u64 y.g)).setCell ⟨g, 1, none⟩ (.int .u64 y.c)).setCell ⟨g, 2, none⟩ (.int .i64 y.n)).setCell ⟨g, 3, none⟩ (.int .u32 y.s)).setCell ⟨g, 4, none⟩ (.int .i64 b)).drew).heap[g]? = some (.cells cur'.toArray 87 (0, 0))) ∧ w.grownBy (((((((((((w.setCell ⟨g, 5, none⟩ (.int .u64 x.g)).setCell ⟨g, 6, none⟩ (.int .u64 x.c)).setCell ⟨g, 7, none⟩ (.int .i64 x.n)).setCell ⟨g, 8, none⟩ (.int .u32 x.s)).setCell ⟨g, 9, none⟩ (.int .i64 a)).setCell ⟨g, 0, none⟩ (.int .u64 y.g)).setCell ⟨g, 1, none⟩ (.int .u64 y.c)).setCell ⟨g, 2, none⟩ (.int .i64 y.n)).setCell ⟨g, 3, none⟩ (.int .u32 y.s)).setCell ⟨g, 4, none⟩ (.int .i64 b)).drew) (some g) ∧ CsAt (((((((((((w.setCell ⟨g, 5, none⟩ (.int .u64 x.g)).setCell ⟨g, 6, none⟩ (.int .u64 x.c)).setCell ⟨g, 7, none⟩ (.int .i64 x.n)).setCell ⟨g, 8, none⟩ (.int .u32 x.s)).setCell ⟨g, 9, none⟩ (.int .i64 a)).setCell ⟨g, 0, none⟩ (.int .u64 y.g)).setCell ⟨g, 1, none⟩ (.int .u64 y.c)).setCell ⟨g, 2, none⟩ (.int .i64 y.n)).setCell ⟨g, 3, none⟩ (.int .u32 y.s)).setCell ⟨g, 4, none⟩ (.int .i64 b)).drew) g [(y, b), (x, a)] := by
  have a0 := row_setCell hf 5 (.int .u64 x.g)
  have b0 := grown_setCell w g 5 (.int .u64 x.g)
  have a1 := row_setCell a0 6 (.int .u64 x.c)
  have b1 := grown_trans b0 (grown_setCell _ g 6 (.int .u64 x.c))
  have a2 := row_setCell a1 7 (.int .i64 x.n)
  have b2 := grown_trans b1 (grown_setCell _ g 7 (.int .i64 x.n))
  have a3 := row_setCell a2 8 (.int .u32 x.s)
  have b3 := grown_trans b2 (grown_setCell _ g 8 (.int .u32 x.s))
  have a4 := row_setCell a3 9 (.int .i64 a)
  have b4 := grown_trans b3 (grown_setCell _ g 9 (.int .i64 a))
  have a5 := row_setCell a4 0 (.int .u64 y.g)
  have b5 := grown_trans b4 (grown_setCell _ g 0 (.int .u64 y.g))
  have a6 := row_setCell a5 1 (.int .u64 y.c)
  have b6 := grown_trans b5 (grown_setCell _ g 1 (.int .u64 y.c))
  have a7 := row_setCell a6 2 (.int .i64 y.n)
  have b7 := grown_trans b6 (grown_setCell _ g 2 (.int .i64 y.n))
  have a8 := row_setCell a7 3 (.int .u32 y.s)
  have b8 := grown_trans b7 (grown_setCell _ g 3 (.int .u32 y.s))
  have a9 := row_setCell a8 4 (.int .i64 b)
  have b9 := grown_trans b8 (grown_setCell _ g 4 (.int .i64 b))
  generalize hW : ((((((((((w.setCell ⟨g, 5, none⟩ (.int .u64 x.g)).setCell ⟨g, 6, none⟩ (.int .u64 x.c)).setCell ⟨g, 7, none⟩ (.int .i64 x.n)).setCell ⟨g, 8, none⟩ (.int .u32 x.s)).setCell ⟨g, 9, none⟩ (.int .i64 a)).setCell ⟨g, 0, none⟩ (.int .u64 y.g)).setCell ⟨g, 1, none⟩ (.int .u64 y.c)).setCell ⟨g, 2, none⟩ (.int .i64 y.n)).setCell ⟨g, 3, none⟩ (.int .u32 y.s)).setCell ⟨g, 4, none⟩ (.int .i64 b)) = W at *
  refine ⟨⟨_, a9⟩, grown_trans b9 (grown_drew _ _), ?_⟩
  have h1 := a9
  suffices hs : CsAt W g [(y, b), (x, a)] from hs.kept (grown_drew _ none)
  intro j p hj i v hv
  rw [cell_row h1]
  clear h1 a0 a1 a2 a3 a4 a5 a6 a7 a8 a9 b0 b1 b2 b3 b4 b5 b6 b7 b8 b9 hW hf
  have l0 : 0 < cur.length := by omega
  have l1 : 1 < cur.length := by omega
  have l2 : 2 < cur.length := by omega
  have l3 : 3 < cur.length := by omega
  have l4 : 4 < cur.length := by omega
  have l5 : 5 < cur.length := by omega
  have l6 : 6 < cur.length := by omega
  have l7 : 7 < cur.length := by omega
  have l8 : 8 < cur.length := by omega
  have l9 : 9 < cur.length := by omega
  match j, hj with
  | 0, h =>
    cases h
    match i, hv with
    | 0, h => cases h; simp [l0]
    | 1, h => cases h; simp [l1]
    | 2, h => cases h; simp [l2]
    | 3, h => cases h; simp [l3]
    | 4, h => cases h; simp [l4]
    | i + 5, h => simp [clC] at h
  | 1, h =>
    cases h
    match i, hv with
    | 0, h => cases h; simp [l5]
    | 1, h => cases h; simp [l6]
    | 2, h => cases h; simp [l7]
    | 3, h => cases h; simp [l8]
    | 4, h => cases h; simp [l9]
    | i + 5, h => simp [clC] at h
  | j + 2, h => simp at h
set_option maxRecDepth 20000 in
set_option maxHeartbeats 2000000 in
theorem ins_few (so : Option Addr) (n cap : Nat) (w : World) (hn : n ≤ 1) (f : Value) : Calls Tryz.prog 126 #[.slice so n cap, .int .i64 0, .int .i64 (n : Int), f] w fun e w' => e = .returned (.tuple #[]) ∧ w' = w := by
  have h1 : (n : Int) ≤ 1 := by omega
  have h2 : decide ((1 : Int) < (n : Int)) = false := decide_eq_false (by omega)
  go_enter Tryz.func126, Tryz.ntmps126
  go_wp2
  go_loopg [8] 0 (fun _ i wr => i = .int .i64 1 ∧ wr = w)
  case atStart => exact ⟨rfl, rfl⟩
  case round =>
    obtain ⟨rfl, hwr⟩ := hrel
    obtain rfl := hwr.symm
    go_wp2
    go_end0
    exact ⟨rfl, rfl⟩
set_option maxRecDepth 20000 in
set_option maxHeartbeats 8000000 in
theorem ins_two (g cap : Nat) (w : World) (x y : Fm.Hd) (a b : Int) (hc : CsAt w g [(x, a), (y, b)]) (cur : List Value) (hf : w.heap[g]? = some (.cells cur.toArray 87 (0, 0))) (hcap : 2 ≤ cap) :
    Calls Tryz.prog 126 #[.slice (some ⟨g, 0, none⟩) 2 cap, .int .i64 0, .int .i64 2, .func (.func 53) #[] #[]] w fun e w' => e = .returned (.tuple #[]) ∧ w.grownBy w' (some g) ∧ (∃ cur' : List Value, w'.heap[g]? = some (.cells cur'.toArray 87 (0, 0))) ∧ CsAt w' g (if x.g < y.g then [(y, b), (x, a)] else [(x, a), (y, b)]) := by
  have HC := hide (And.intro hc hf)
  clear hc hf
  obtain ⟨LR, hLR⟩ : ∃ LR, LR = (if x.g < y.g then [(y, b), (x, a)] else [(x, a), (y, b)]) := ⟨_, rfl⟩
  rw [← hLR]
  have HLR := hide hLR
  clear hLR
  go_enter Tryz.func126, Tryz.ntmps126
  go_wp2
  go_loopg [8] 1 (fun q i wr => (q = 1 ∧ i = .int .i64 1 ∧ wr = w) ∨ (q = 0 ∧ i = .int .i64 2 ∧ Hid (w.grownBy wr (some g) ∧ (∃ cur' : List Value, wr.heap[g]? = some (.cells cur'.toArray 87 (0, 0))) ∧ CsAt wr g LR)))
  case atStart => exact .inl ⟨rfl, rfl, rfl⟩
  case round =>
    rcases hrel with ⟨rfl, rfl, hwr⟩ | ⟨rfl, rfl, HQ⟩
    · obtain rfl := hwr.symm
      go_wp2
      have HL0 := hide (less_any y x b a)
      go_loopg [9] 1 (fun q j wr => (q = 1 ∧ j = .int .i64 1 ∧ wr = w) ∨ (q = 0 ∧ j = .int .i64 0 ∧ Hid (x.g < y.g ∧ w.grownBy wr (some g) ∧ (∃ cur' : List Value, wr.heap[g]? = some (.cells cur'.toArray 87 (0, 0))) ∧ CsAt wr g [(y, b), (x, a)])))
      case atStart => exact .inl ⟨rfl, rfl, rfl⟩
      case round =>
        rcases hrel with ⟨rfl, rfl, hwr⟩ | ⟨rfl, rfl, HQ⟩
        · obtain rfl := hwr.symm
          have c := HC.out.1
          have c0 : w.cell? ⟨g, 0, none⟩ = some (.int .u64 x.g) := c 0 _ rfl 0 _ rfl
          have c1 : w.cell? ⟨g, 1, none⟩ = some (.int .u64 x.c) := c 0 _ rfl 1 _ rfl
          have c2 : w.cell? ⟨g, 2, none⟩ = some (.int .i64 x.n) := c 0 _ rfl 2 _ rfl
          have c3 : w.cell? ⟨g, 3, none⟩ = some (.int .u32 x.s) := c 0 _ rfl 3 _ rfl
          have c4 : w.cell? ⟨g, 4, none⟩ = some (.int .i64 a) := c 0 _ rfl 4 _ rfl
          have c5 : w.cell? ⟨g, 5, none⟩ = some (.int .u64 y.g) := c 1 _ rfl 0 _ rfl
          have c6 : w.cell? ⟨g, 6, none⟩ = some (.int .u64 y.c) := c 1 _ rfl 1 _ rfl
          have c7 : w.cell? ⟨g, 7, none⟩ = some (.int .i64 y.n) := c 1 _ rfl 2 _ rfl
          have c8 : w.cell? ⟨g, 8, none⟩ = some (.int .u32 y.s) := c 1 _ rfl 3 _ rfl
          have c9 : w.cell? ⟨g, 9, none⟩ = some (.int .i64 b) := c 1 _ rfl 4 _ rfl
          clear c
          unfold clV at HL0
          have hw10 : IntKind.i64.wrap (1 - 1) = 0 := rfl
          have hw11 : IntKind.i64.wrap 0 = 0 := rfl
          have hcp0 : (0 : Int) < (2 : Int) := by decide
          have hcp1 : (2 : Int) ≤ (cap : Int) := by omega
          have HK : Hid (∀ w1 : World, w.grownBy w1 none → (w1.cell? ⟨g, 0, none⟩ = some (.int .u64 x.g) ∧ w1.cell? ⟨g, 1, none⟩ = some (.int .u64 x.c) ∧ w1.cell? ⟨g, 2, none⟩ = some (.int .i64 x.n) ∧ w1.cell? ⟨g, 3, none⟩ = some (.int .u32 x.s) ∧ w1.cell? ⟨g, 4, none⟩ = some (.int .i64 a)) ∧ w1.cell? ⟨g, 5, none⟩ = some (.int .u64 y.g) ∧ w1.cell? ⟨g, 6, none⟩ = some (.int .u64 y.c) ∧ w1.cell? ⟨g, 7, none⟩ = some (.int .i64 y.n) ∧ w1.cell? ⟨g, 8, none⟩ = some (.int .u32 y.s) ∧ w1.cell? ⟨g, 9, none⟩ = some (.int .i64 b)) :=
            fun w1 hg => ⟨⟨hg.cell c0 (by simp), hg.cell c1 (by simp), hg.cell c2 (by simp), hg.cell c3 (by simp), hg.cell c4 (by simp)⟩, hg.cell c5 (by simp), hg.cell c6 (by simp), hg.cell c7 (by simp), hg.cell c8 (by simp), hg.cell c9 (by simp)⟩
          obtain ⟨r, hr⟩ : ∃ r, r = cmpI x.g y.g := ⟨_, rfl⟩
          rw [← hr] at HL0
          have HR := hide hr
          clear hr
          by_cases hlt : x.g < y.g
          · have hr0 : r = -1 := by rw [HR.out]; unfold cmpI; rw [if_pos hlt]
            subst hr0
            go_wp2_with fail
            go_region_held3 (fun w1 => (w1.cell? ⟨g, 0, none⟩ = some (.int .u64 x.g) ∧ w1.cell? ⟨g, 1, none⟩ = some (.int .u64 x.c) ∧ w1.cell? ⟨g, 2, none⟩ = some (.int .i64 x.n) ∧ w1.cell? ⟨g, 3, none⟩ = some (.int .u32 x.s) ∧ w1.cell? ⟨g, 4, none⟩ = some (.int .i64 a)) ∧ w1.cell? ⟨g, 5, none⟩ = some (.int .u64 y.g) ∧ w1.cell? ⟨g, 6, none⟩ = some (.int .u64 y.c) ∧ w1.cell? ⟨g, 7, none⟩ = some (.int .i64 y.n) ∧ w1.cell? ⟨g, 8, none⟩ = some (.int .u32 y.s) ∧ w1.cell? ⟨g, 9, none⟩ = some (.int .i64 b)) (first | assumption | exact HK.out _ (grown_drew _ none) | exact HK.out _ (grown_refl _ none)) ((go_at_call 53; refine (HL0.out _).mono ?_; rintro e3 w3 ⟨rfl, g3⟩; have Z3 := hide (grown_trans (grown_drew w none) g3); have hk3 := HK.out _ Z3.out; clear g3))
            clear c0 c1 c2 c3 c4 c5 c6 c7 c8 c9
            obtain ⟨⟨c0, c1, c2, c3, c4⟩, c5, c6, c7, c8, c9⟩ := hk3
            have hb3 := (Z3.out.block g (row_lt HC.out.2) (by simp)).trans HC.out.2
            have f0 := free_row hb3 0
            have f1 := free_row hb3 1
            have f2 := free_row hb3 2
            have f3 := free_row hb3 3
            have f4 := free_row hb3 4
            have f5 := free_row hb3 5
            have f6 := free_row hb3 6
            have f7 := free_row hb3 7
            have f8 := free_row hb3 8
            have f9 := free_row hb3 9
            have HB3 := hide hb3
            clear hb3 HL0 HK
            go_wp2_with fail
            have hl10 : 10 ≤ cur.length := by
              have h9 := cell_row HB3.out 9
              rw [c9] at h9
              have := (List.getElem?_eq_some_iff.1 h9.symm).1
              omega
            have hsw := swap10 (x := x) (y := y) (a := a) (b := b) HB3.out hl10
            have N4 := hide (And.intro hlt (And.intro (grown_trans (grown_none Z3.out (some g)) hsw.2.1) (And.intro hsw.1 hsw.2.2)))
            clear hsw
            go_region
            clear c0 c1 c2 c3 c4 c5 c6 c7 c8 c9 f0 f1 f2 f3 f4 f5 f6 f7 f8 f9
            generalize ((((((((((w3.setCell ⟨g, 5, none⟩ (.int .u64 x.g)).setCell ⟨g, 6, none⟩ (.int .u64 x.c)).setCell ⟨g, 7, none⟩ (.int .i64 x.n)).setCell ⟨g, 8, none⟩ (.int .u32 x.s)).setCell ⟨g, 9, none⟩ (.int .i64 a)).setCell ⟨g, 0, none⟩ (.int .u64 y.g)).setCell ⟨g, 1, none⟩ (.int .u64 y.c)).setCell ⟨g, 2, none⟩ (.int .i64 y.n)).setCell ⟨g, 3, none⟩ (.int .u32 y.s)).setCell ⟨g, 4, none⟩ (.int .i64 b)).drew = w4 at *
            go_wp2
            go_roundg 0
            case measure => omega
            case rel => exact .inr ⟨rfl, rfl, N4⟩
          · have hr0 : 0 ≤ r := by rw [HR.out]; unfold cmpI; rw [if_neg hlt]; split <;> omega
            go_wp2_with fail
            go_region_held3 (fun w1 => (w1.cell? ⟨g, 0, none⟩ = some (.int .u64 x.g) ∧ w1.cell? ⟨g, 1, none⟩ = some (.int .u64 x.c) ∧ w1.cell? ⟨g, 2, none⟩ = some (.int .i64 x.n) ∧ w1.cell? ⟨g, 3, none⟩ = some (.int .u32 x.s) ∧ w1.cell? ⟨g, 4, none⟩ = some (.int .i64 a)) ∧ w1.cell? ⟨g, 5, none⟩ = some (.int .u64 y.g) ∧ w1.cell? ⟨g, 6, none⟩ = some (.int .u64 y.c) ∧ w1.cell? ⟨g, 7, none⟩ = some (.int .i64 y.n) ∧ w1.cell? ⟨g, 8, none⟩ = some (.int .u32 y.s) ∧ w1.cell? ⟨g, 9, none⟩ = some (.int .i64 b)) (first | assumption | exact HK.out _ (grown_drew _ none) | exact HK.out _ (grown_refl _ none)) ((go_at_call 53; refine (HL0.out _).mono ?_; rintro e3 w3 ⟨rfl, g3⟩; have Z3 := hide (grown_trans (grown_drew w none) g3); have hk3 := HK.out _ Z3.out; clear g3))
            clear c0 c1 c2 c3 c4 c5 c6 c7 c8 c9
            have N4 : Hid (w.grownBy w3 (some g) ∧ (∃ cur' : List Value, w3.heap[g]? = some (.cells cur'.toArray 87 (0, 0))) ∧ CsAt w3 g LR) := by
              refine ⟨grown_none Z3.out _, ⟨cur, (Z3.out.block g (row_lt HC.out.2) (by simp)).trans HC.out.2⟩, ?_⟩
              rw [HLR.out, if_neg (by omega)]
              exact HC.out.1.kept Z3.out
            clear hk3
            go_wp2
            go_roundg 0
            case measure => omega
            case rel => exact .inr ⟨rfl, rfl, N4⟩
        · have N4 : Hid (w.grownBy wr (some g) ∧ (∃ cur' : List Value, wr.heap[g]? = some (.cells cur'.toArray 87 (0, 0))) ∧ CsAt wr g LR) := ⟨HQ.out.2.1, HQ.out.2.2.1, by rw [HLR.out, if_pos HQ.out.1]; exact HQ.out.2.2.2⟩
          clear HL0
          go_wp2_with fail
          go_quiet (fail)
          have N5 : Hid (w.grownBy (wr.drewN nq) (some g) ∧ (∃ cur' : List Value, (wr.drewN nq).heap[g]? = some (.cells cur'.toArray 87 (0, 0))) ∧ CsAt (wr.drewN nq) g LR) := ⟨grown_trans N4.out.1 (grown_drewN _ _ _), N4.out.2.1, N4.out.2.2.kept (grown_drewN _ _ none)⟩
          generalize wr.drewN nq = w5 at *
          go_wp2
          go_roundg 0
          case measure => omega
          case rel => exact .inr ⟨rfl, rfl, N5⟩
    · go_wp2
      go_end0
      exact ⟨rfl, HQ.out⟩
end Go.Proofs.YtonokaelbpfjnabGreatDoor
/- Claims sorted: the stable sort of a few. -/
namespace Go.Proofs.YtonokaelbpfjnabGreatDoor
open Go.RowKit Ap
attribute [local go_sem ↓] Go.wp_at_zero Go.wp_at_succ
set_option maxRecDepth 20000 in
set_option maxHeartbeats 4000000 in
theorem stable_of (so : Option Addr) (n cap : Nat) (w : World) (hn : n ≤ 2) (f : Value) (Q : World → Prop) (H : Calls Tryz.prog 126 #[.slice so n cap, .int .i64 0, .int .i64 (n : Int), f] w fun e w' => e = .returned (.tuple #[]) ∧ Q w') :
    Calls Tryz.prog 93 #[.slice so n cap, .int .i64 (n : Int), f] w fun e w' => e = .returned (.tuple #[]) ∧ Q w' := by
  have h1 : (n : Int) ≤ 2 := by omega
  have h2 : decide ((20 : Int) ≤ (n : Int)) = false := decide_eq_false (by omega)
  have h3 : decide ((20 : Int) < (n : Int)) = false := decide_eq_false (by omega)
  have h4 : (n : Int) < 20 := by omega
  have HH := hide H
  clear H
  go_enter Tryz.func93, Tryz.ntmps93
  go_wp2
  go_loopg [7, 8] 0 (fun _ i j wr => i = .int .i64 0 ∧ j = .int .i64 20 ∧ wr = w)
  case atStart => exact ⟨rfl, rfl, rfl⟩
  case round =>
    obtain ⟨rfl, rfl, hwr⟩ := hrel
    obtain rfl := hwr.symm
    go_wp2_with fail
    refine HH.out.mono ?_
    clear HH
    rintro e w2 ⟨rfl, q2⟩
    have Q2 := hide q2
    clear q2
    go_wp2
    go_loopg [6] 0 (fun _ i wr => i = .int .i64 20 ∧ Hid (Q wr))
    case atStart => exact ⟨rfl, Q2⟩
    case round =>
      obtain ⟨rfl, Q3⟩ := hrel
      go_wp2
      go_end0
      exact ⟨rfl, Q3.out⟩
set_option maxRecDepth 20000 in
set_option maxHeartbeats 4000000 in
theorem sort_of (so : Option Addr) (n cap : Nat) (w : World) (hn : n ≤ 2) (f : Value) (Q : World → Prop) (H : Calls Tryz.prog 126 #[.slice so n cap, .int .i64 0, .int .i64 (n : Int), f] w fun e w' => e = .returned (.tuple #[]) ∧ Q w') :
    Calls Tryz.prog 52 #[.slice so n cap, f] w fun e w' => e = .returned (.tuple #[]) ∧ Q w' := by
  have HH := hide (stable_of so n cap w hn f Q H)
  clear H
  go_enter Tryz.func52, Tryz.ntmps52
  go_wp2_with fail
  refine HH.out.mono ?_
  rintro e w2 ⟨rfl, q2⟩
  go_wp2
  go_end0
  exact ⟨rfl, q2⟩
end Go.Proofs.YtonokaelbpfjnabGreatDoor
/- The body of a slot. -/
namespace Go.Proofs.YtonokaelbpfjnabGreatDoor
open Go.RowKit Ap
attribute [local go_sem ↓] Go.wp_at_zero Go.wp_at_succ
section
variable {w0 w w' w2 : World} {n size b r F C : Nat} {s : Dv} {k : Dk} {D : List Nat} {W : List Wt}
theorem ReadP.pre {m M : Nat} {xs : List Nat} {v : Value} {c : Int} (g : w.grownBy w2 none) (p : ReadP w0 w2 w' n size b s k D W m M xs v c) : ReadP w0 w w' n size b s k D W m M xs v c :=
  ⟨p.code, p.dev, (Kept.new g _).trans p.kept (fun i _ e => e), fun e => by obtain ⟨g1, a1, a2, a3⟩ := p.ok e; exact ⟨g1, a1, Nat.le_trans g.size a2, a3⟩, p.no⟩
theorem ReadP.then {m M : Nat} {xs : List Nat} {v : Value} {c : Int} (p : ReadP w0 w w' n size b s k D W m M xs v c) (g : w'.grownBy w2 none) : ReadP w0 w w2 n size b s k D W m M xs v c :=
  ⟨p.code, p.dev.then g, p.kept.trans (Kept.new g _) (fun i _ e => e), fun e => by obtain ⟨g1, a1, a2, a3, a4⟩ := p.ok e; exact ⟨g1, a1, a2, (g.block _ (row_lt a3) (by simp)).trans a3, a4⟩, p.no⟩
/-- The sum of bytes. -/
def sumN (xs : List Nat) : Int := ((Fm.Cr.Poly.more 0 xs : Nat) : Int)
theorem new_off (h : Dev w0 w n size b s k D W) {X : Nat} (hX : w.heap.size ≤ X) : ¬ (k.own X ∨ X = b) := by
  rintro (e | e)
  · have := h.disk.disk.lt X (.inl e); omega
  · have := h.dev.lt; omega
set_option maxRecDepth 20000 in
set_option maxHeartbeats 8000000 in
theorem body_at (h : Dev w0 w n size b s k D W) (hr : RgAt w r b F C) (hFC : F + C ≤ n) (hd : Fm.Hd) (m : Nat) (hm : hd.n = (m : Int)) (hfit : size + m ≤ C * size) (hcnt : s.cnt + pcn size size m ≤ 100000) (hT : Fm.Cr.Tab w0) (hm2 : m ≤ 67108864) (hB : Bytes (bytesAt (now size D (abs W)) (F * size + size) m)) :
    Calls Tryz.prog 31 #[.agg #[rp r], Fm.hdV hd] w fun e w' => ∃ v c, e = .returned (.tuple #[v, .bool (decide (c = 0 ∧ sumN (bytesAt (now size D (abs W)) (F * size + size) m) = hd.s)), .int .i64 c]) ∧ ReadP w0 w w' n size b s k D W m (pcn size size m) (bytesAt (now size D (abs W)) (F * size + size) m) v c := by
  generalize hxs : bytesAt (now size D (abs W)) (F * size + size) m = xs at *
  unfold rp Fm.hdV
  have g1 := World.grownBy_alloc w (.cells #[.pointer (some ⟨r, 0, none⟩)] 77) none
  have b1 : (w.alloc (.cells #[.pointer (some ⟨r, 0, none⟩)] 77)).heap[w.heap.size]? = some (.cells [Value.pointer (some ⟨r, 0, none⟩)].toArray 77 (0, 0)) := heap_alloc_new w _
  generalize hw1 : w.alloc (.cells #[.pointer (some ⟨r, 0, none⟩)] 77) = w1 at *
  have hz1 : w1.heap.size = w.heap.size + 1 := by rw [← hw1, World.size_alloc]
  have g2 := World.grownBy_alloc w1 (.cells #[.int .u64 hd.g, .int .u64 hd.c, .int .i64 hd.n, .int .u32 hd.s] 25) none
  have b2 : (w1.alloc (.cells #[.int .u64 hd.g, .int .u64 hd.c, .int .i64 hd.n, .int .u32 hd.s] 25)).heap[w1.heap.size]? = some (.cells (Fm.hdC hd).toArray 25 (0, 0)) := heap_alloc_new w1 _
  rw [hz1] at b2
  have b1' := (g2.block _ (row_lt b1) (by simp)).trans b1
  generalize hw2 : w1.alloc (.cells #[.int .u64 hd.g, .int .u64 hd.c, .int .i64 hd.n, .int .u32 hd.s] 25) = w2 at *
  have HG := hide (grown_trans g1 g2)
  have hS2 : w2.cell? ⟨w.heap.size, 0, none⟩ = some (.pointer (some ⟨r, 0, none⟩)) ∧ w2.cell? ⟨w.heap.size + 1, 2, none⟩ = some (.int .i64 (m : Int)) ∧ w2.cell? ⟨w.heap.size + 1, 3, none⟩ = some (.int .u32 hd.s) := ⟨cell_row b1' 0, by rw [← hm]; exact cell_row b2 2, cell_row b2 3⟩
  have HK : Hid (∀ w3 : World, Kept w2 w3 (fun i => k.own i ∨ i = b) → w3.cell? ⟨w.heap.size, 0, none⟩ = some (.pointer (some ⟨r, 0, none⟩)) ∧ w3.cell? ⟨w.heap.size + 1, 2, none⟩ = some (.int .i64 (m : Int)) ∧ w3.cell? ⟨w.heap.size + 1, 3, none⟩ = some (.int .u32 hd.s)) :=
    fun w3 hk => ⟨cell_kept hk hS2.1 (new_off h (Nat.le_refl _)), cell_kept hk hS2.2.1 (new_off h (Nat.le_succ _)), cell_kept hk hS2.2.2 (new_off h (Nat.le_succ _))⟩
  have HSz := hide (gSize_at ((h.then HG.out).then (grown_drew w2 none)) ((hr.grown HG.out).grown (grown_drew w2 none)))
  have HRd : Hid (∀ w3 : World, w2.grownBy w3 none → Calls Tryz.prog 50 #[.pointer (some ⟨r, 0, none⟩), .int .i64 (size : Int), .int .i64 (m : Int)] w3 fun e w' => ∃ v c, e = .returned (.tuple #[v, .int .i64 c]) ∧ ReadP w0 w3 w' n size b s k D W m (pcn size size m) xs v c) := by
    intro w3 hg
    have q := gRead_at ((h.then HG.out).then hg) ((hr.grown HG.out).grown hg) hFC size m hfit hcnt
    rw [hxs] at q
    exact q
  have HF := hide (And.intro hT (And.intro hB (And.intro hm hm2)))
  have HW := hide (And.intro hw1 hw2)
  have HS2 := hide hS2
  clear hw2 hw1 hS2
  clear hT hB hm hxs h hr g1 g2 b1 b2 b1' hz1
  obtain ⟨ok, hok⟩ : ∃ ok : Int → Bool, ok = fun c => decide (c = 0 ∧ sumN xs = hd.s) := ⟨_, rfl⟩
  suffices hs : Calls Tryz.prog 31 #[.agg #[.pointer (some ⟨r, 0, none⟩)], .agg #[.int .u64 hd.g, .int .u64 hd.c, .int .i64 hd.n, .int .u32 hd.s]] w fun e w' => ∃ v c, e = .returned (.tuple #[v, .bool (ok c), .int .i64 c]) ∧ ReadP w0 w w' n size b s k D W m (pcn size size m) xs v c by
    rw [hok] at hs
    exact hs
  have HOK := hide hok
  clear hok
  go_enter Tryz.func31, Tryz.ntmps31
  go_wp2_with fail
  rw [HW.out.1, HW.out.2]
  clear HW
  generalize w.heap.size = X at *
  obtain ⟨c0, c1, c2⟩ := HS2.out
  go_region_held3 (fun w3 => w3.cell? ⟨X, 0, none⟩ = some (.pointer (some ⟨r, 0, none⟩)) ∧ w3.cell? ⟨X + 1, 2, none⟩ = some (.int .i64 (m : Int)) ∧ w3.cell? ⟨X + 1, 3, none⟩ = some (.int .u32 hd.s)) (first | assumption | exact HK.out _ (Kept.new (grown_drew _ none) _) | exact HS2.out) ((first | (go_at_call 45; refine HSz.out.mono ?_; rintro e3 w3 ⟨rfl, hw3⟩; obtain rfl := hw3.symm; have hk3 := HK.out _ (Kept.new (grown_drew w2 none) _)) | (go_at_call 50; refine (HRd.out _ (grown_drew w2 none)).mono ?_; rintro e4 w4 ⟨v4, c4, rfl, p4⟩; have hk4 := HK.out _ ((Kept.new (grown_drew w2 none) _).trans p4.kept (fun i _ e => e)); have HX4 : Hid (True ∧ Fm.Cr.Tab w4 ∧ w4.cell? ⟨X + 1, 3, none⟩ = some (.int .u32 hd.s)) := ⟨trivial, HF.out.1.grown p4.dev.disk.grown, hk4.2.2⟩; have P4 := hide (ReadP.pre (grown_trans HG.out (grown_drew w2 none)) p4); clear p4)))
  clear HK HSz HRd hk4 hk3 c0 c1 c2
  by_cases hc : c4 = 0
  · subst hc
    obtain ⟨gv, hv, hgv, hbv, hlv⟩ := P4.out.ok rfl
    subst hv
    have hk5 := HX4.out.2.2
    have HSu := hide (fun q => Fm.Cr.sum_any (some ⟨gv, 0, none⟩) m m xs (w4.drewN q) hlv HF.out.2.1 (at_row (w := w4.drewN q) hbv) (HX4.out.2.1.grown (grown_drewN w4 q none)) (by have := HF.out.2.2.2; omega))
    have hso : ok 0 = decide (sumN xs = hd.s) := by rw [HOK.out]; simp
    have HSO := hide hso
    clear hso hbv hlv hgv
    rw [show ((Fm.Cr.Poly.more 0 xs : Nat) : Int) = sumN xs from rfl] at HSu
    generalize sumN xs = sv at *
    by_cases hs : sv = hd.s
    · have hd1 : (sv == hd.s) = true := by simpa using hs
      have ho1 : ok 0 = true := by rw [HSO.out]; exact decide_eq_true hs
      go_wp2_with fail
      go_quiet ((go_at_call 26; exact Calls.quiet_of_same (HSu.out _)))
      go_wp2
      go_ret3
      refine ⟨.slice (some ⟨gv, 0, none⟩) m m, 0, ?_, P4.out.then (grown_drewN w4 nq none)⟩
      rw [ho1]
      rfl
    · have hd1 : (sv == hd.s) = false := by simpa using hs
      have ho1 : ok 0 = false := by rw [HSO.out]; exact decide_eq_false hs
      go_wp2_with fail
      go_quiet ((go_at_call 26; exact Calls.quiet_of_same (HSu.out _)))
      go_wp2
      go_ret3
      refine ⟨.slice (some ⟨gv, 0, none⟩) m m, 0, ?_, P4.out.then (grown_drewN w4 nq none)⟩
      rw [ho1]
      rfl
  · have hne : (c4 != 0) = true := by simpa using hc
    have ho1 : ok c4 = false := by rw [HOK.out]; exact decide_eq_false (fun e => hc e.1)
    have hv := P4.out.no hc
    subst hv
    go_wp2
    go_ret3
    refine ⟨.slice none 0 0, c4, ?_, P4.out⟩
    rw [ho1]
    rfl
end
end Go.Proofs.YtonokaelbpfjnabGreatDoor
/- Bytes written and made durable. -/
namespace Go.Proofs.YtonokaelbpfjnabGreatDoor
open Go.RowKit Ap
attribute [local go_sem ↓] Go.wp_at_zero Go.wp_at_succ
/-- What a write of bytes and a sync come to. -/
def stA (size F a : Nat) (xs : List Nat) (s : Dv) (D : List Nat) (A : List Pr) : Int × Dv × List Nat × List Pr :=
  let q := wgo (full size a xs.length) (pcn size a xs.length) 0 s
  let A1 := A ++ pcs size F a (splice (now size D A) (F * size + a) xs) q.1
  if q.2.1 = 0 then (if q.2.2.goes then (0, q.2.2.next, syncA size (D, A1)) else (60, q.2.2.next, D, A1)) else (q.2.1, q.2.2, D, A1)
/-- .. in memory. -/
structure StP (w0 w w' : World) (n size b : Nat) (k : Dk) (W : List Wt) (o : Int × Dv × List Nat × List Pr) (k' : Dk) (W' : List Wt) : Prop where
  dev : Dev w0 w' n size b o.2.1 k' o.2.2.1 W'
  abs : abs W' = o.2.2.2
  mov : DvM w w' b k k' W W'
section
variable {w0 w w' w2 : World} {n size b r F C : Nat} {s s' : Dv} {k k' : Dk} {D D' : List Nat} {W W' : List Wt}
theorem RgAt.dv (hr : RgAt w r b F C) (h : Dev w0 w n size b s k D W) (m : DvM w w' b k k' W W') : RgAt w' r b F C := by
  have h1 := h.far hr.head (by decide) (by decide) (by decide) (by decide)
  exact ⟨m.other hr.head h1.1 h1.2⟩
theorem wgo_cnt (f : Nat → Bool) : ∀ (M j : Nat) (s : Dv), (wgo f M j s).2.2.cnt ≤ s.cnt + 2 * M
  | 0, j, s => by simp [wgo]
  | M + 1, j, s => by
    rw [wgo_step]
    have h1 := s.next_le
    have h2 := s.next.next_le
    have h3 := wgo_cnt f M (j + 1) s.next
    have h4 := wgo_cnt f M (j + 1) s.next.next
    split
    · split
      · simp only; omega
      · split
        · simp only; omega
        · simp only; omega
    · simp only; omega
set_option maxRecDepth 20000 in
set_option maxHeartbeats 8000000 in
theorem settle_at (h : Dev w0 w n size b s k D W) (hr : RgAt w r b F C) (hFC : F + C ≤ n) (at_ cap m : Nat) (ao : Option Addr) (xs : List Nat) (hm : xs.length = m) (hat : At w ao xs) (hcap : m ≤ cap) (hfit : at_ + m ≤ C * size) (hoff : ∀ a, ao = some a → 0 < m → ¬ k.own a.block ∧ a.block ≠ b)
    (hW : W.length + pcn size at_ m ≤ 900000) (hcnt : s.cnt + 2 * pcn size at_ m < 90000) :
    Calls Tryz.prog 49 #[.agg #[rp r], .int .i64 (at_ : Int), .slice ao m cap] w fun e w' => e = .returned (.int .i64 (stA size F at_ xs s D (abs W)).1) ∧ ∃ k' W', StP w0 w w' n size b k W (stA size F at_ xs s D (abs W)) k' W' := by
  unfold rp
  subst hm
  have g1 := World.grownBy_alloc w (.cells #[.pointer (some ⟨r, 0, none⟩)] 77) none
  have b1 : (w.alloc (.cells #[.pointer (some ⟨r, 0, none⟩)] 77)).heap[w.heap.size]? = some (.cells [Value.pointer (some ⟨r, 0, none⟩)].toArray 77 (0, 0)) := heap_alloc_new w _
  have hwc := wgo_cnt (full size at_ xs.length) (pcn size at_ xs.length) 0 s
  generalize hw1 : w.alloc (.cells #[.pointer (some ⟨r, 0, none⟩)] 77) = w1 at *
  have HWr : Hid (Calls Tryz.prog 83 #[.pointer (some ⟨r, 0, none⟩), .int .i64 (at_ : Int), .slice ao xs.length cap] w1 fun e w' => ∃ c, e = .returned (.int .i64 c) ∧ c = (wgo (full size at_ xs.length) (pcn size at_ xs.length) 0 s).2.1 ∧ WriteP w0 w1 w' n size b s k D W F at_ xs c ∧ w'.cell? ⟨w.heap.size, 0, none⟩ = some (.pointer (some ⟨r, 0, none⟩))) := by
    refine (gWrite_at (h.then g1) (hr.grown g1) hFC at_ cap ao xs (hat.grown g1) hcap hfit hoff hW (by omega)).mono ?_
    rintro e w' ⟨c, rfl, p⟩
    refine ⟨c, rfl, p.code, p, ?_⟩
    obtain ⟨k2, W2, h2, h3, h4⟩ := p.left
    exact cell_kept h3.kept (cell_row b1 0) (new_off h (Nat.le_refl _))
  have HSy : Hid (∀ (w2 : World) (c : Int), WriteP w0 w1 w2 n size b s k D W F at_ xs c → c = 0 → Calls Tryz.prog 84 #[.pointer (some ⟨r, 0, none⟩)] w2 fun e w' => e = .returned (.int .i64 (stA size F at_ xs s D (abs W)).1) ∧ ∃ k' W', StP w0 w w' n size b k W (stA size F at_ xs s D (abs W)) k' W') := by
    intro w2 c p hc
    obtain ⟨k2, W2, h2, h3, h4⟩ := p.left
    have hq := p.code
    rw [hc] at hq
    unfold stA
    simp only
    rw [if_pos hq.symm]
    have hr2 := (hr.grown g1).dv (h.then g1) h3
    generalize hQ : wgo (full size at_ xs.length) (pcn size at_ xs.length) 0 s = Q at *
    refine (gSync_at h2 hr2 (by omega)).mono ?_
    rintro e w' ⟨rfl, k3, D3, W3, h6, h7, h8, h9⟩
    by_cases hgo : Q.2.2.goes = true
    · rw [if_pos hgo]
      rw [if_pos hgo, h4] at h8
      obtain ⟨e1, e2⟩ := Prod.mk.inj h8
      refine ⟨by rw [Dv.code_ok hgo], k3, W3, ?_, e2, ?_⟩
      · show Dev w0 w' n size b Q.2.2.next k3 _ W3
        rw [e1] at h6
        exact h6
      · exact (DvM.pre g1 h3).trans h7 (row_lt h.dev.head)
    · rw [if_neg hgo]
      rw [if_neg hgo] at h8
      obtain ⟨e1, e2⟩ := Prod.mk.inj h8
      refine ⟨by rw [Dv.code_no (by simpa using hgo)], k3, W3, ?_, by rw [e2, h4], ?_⟩
      · show Dev w0 w' n size b Q.2.2.next k3 _ W3
        rw [e1] at h6
        exact h6
      · exact (DvM.pre g1 h3).trans h7 (row_lt h.dev.head)
  have HNo : Hid (∀ (w2 : World) (c : Int), WriteP w0 w1 w2 n size b s k D W F at_ xs c → c ≠ 0 → c = (stA size F at_ xs s D (abs W)).1 ∧ ∃ k' W', StP w0 w w2 n size b k W (stA size F at_ xs s D (abs W)) k' W') := by
    intro w2 c p hc
    obtain ⟨k2, W2, h2, h3, h4⟩ := p.left
    have hq := p.code
    unfold stA
    simp only
    rw [if_neg (by rw [← hq]; exact hc)]
    exact ⟨hq, k2, W2, h2, h4, DvM.pre g1 h3⟩
  have c0 : w1.cell? ⟨w.heap.size, 0, none⟩ = some (.pointer (some ⟨r, 0, none⟩)) := cell_row b1 0
  rw [← hw1] at c0
  have HW1 := hide hw1
  clear hw1 b1 g1 h hr hat hoff
  generalize stA size F at_ xs s D (abs W) = R at *
  go_enter Tryz.func49, Tryz.ntmps49
  go_wp2_with fail
  rw [HW1.out]
  refine HWr.out.mono ?_
  clear HWr c0
  rintro e w3 ⟨c, rfl, hcq, p3, c0⟩
  have P3 := hide p3
  clear p3 HW1 hcq
  by_cases hc : c = 0
  · subst hc
    have hsy := HSy.out _ 0 P3.out rfl
    go_wp2_with fail
    refine hsy.mono ?_
    rintro e w4 ⟨rfl, hx⟩
    go_wp2
    go_ret
    exact ⟨rfl, hx⟩
  · have hne : (c != 0) = true := by simpa using hc
    have hno := hide (HNo.out _ c P3.out hc)
    go_wp2
    go_ret
    exact ⟨by rw [← hno.out.1]; rfl, hno.out.2⟩
end
end Go.Proofs.YtonokaelbpfjnabGreatDoor
/- The body, then the header's sector. -/
namespace Go.Proofs.YtonokaelbpfjnabGreatDoor
open Go.RowKit Ap
attribute [local go_sem ↓] Go.wp_at_zero Go.wp_at_succ
theorem bv_nats {ys : List Int} (h : Fm.Byt ys) : ys.map (Value.int .u8) = bv (Fm.nats ys) := by
  unfold bv Fm.nats
  rw [List.map_map]
  apply List.map_congr_left
  intro x hx
  have := h x hx
  show Value.int .u8 x = Value.int .u8 ((x.toNat : Nat) : Int)
  rw [show ((x.toNat : Nat) : Int) = x by omega]
/-- The sector of a header. -/
def sect (size : Nat) (hd : Fm.Hd) : List Nat := splice (zs size) 0 (Fm.nats hd.out)
theorem sect_length (size : Nat) (hd : Fm.Hd) (h : 32 ≤ size) : (sect size hd).length = size := by
  unfold sect
  rw [length_splice _ _ _ (by rw [Fm.nats_length, hd.out_length]; simp [zs]; omega)]
  simp [zs]
/-- What a body and its header come to. -/
def puA (size F : Nat) (hd : Fm.Hd) (xs : List Nat) (s : Dv) (D : List Nat) (A : List Pr) : Int × Dv × List Nat × List Pr :=
  if (stA size F size xs s D A).1 = 0 then stA size F 0 (sect size hd) (stA size F size xs s D A).2.1 (stA size F size xs s D A).2.2.1 (stA size F size xs s D A).2.2.2 else stA size F size xs s D A
theorem stA_ok {size F a : Nat} {xs : List Nat} {s : Dv} {D : List Nat} {A : List Pr} (h : (stA size F a xs s D A).1 = 0) : (stA size F a xs s D A).2.2.2 = [] ∧ (stA size F a xs s D A).2.1.cnt ≤ s.cnt + 2 * pcn size a xs.length + 1 := by
  have h1 := wgo_cnt (full size a xs.length) (pcn size a xs.length) 0 s
  have h2 := (wgo (full size a xs.length) (pcn size a xs.length) 0 s).2.2.next_le
  unfold stA at h ⊢
  simp only at h ⊢
  split at h
  · rename_i h3
    rw [if_pos h3]
    split at h
    · rename_i h4
      rw [if_pos h4]
      exact ⟨rfl, by simp only; omega⟩
    · simp at h
  · rename_i h3
    exact absurd h h3
section
variable {w0 w w' w2 : World} {n size b r F C : Nat} {s s' : Dv} {k k' : Dk} {D D' : List Nat} {W W' : List Wt}
set_option maxRecDepth 20000 in
set_option maxHeartbeats 16000000 in
theorem put_at (h : Dev w0 w n size b s k D W) (hr : RgAt w r b F C) (hFC : F + C ≤ n) (hd : Fm.Hd) (hok : hd.Ok) (hmay : hd.May) (cap m : Nat) (ao : Option Addr) (xs : List Nat) (hm : xs.length = m) (hat : At w ao xs) (hcap : m ≤ cap) (hC : 1 ≤ C) (hfit : size + m ≤ C * size) (hoff : ∀ a, ao = some a → a.block < w.heap.size ∧ (0 < m → ¬ k.own a.block ∧ a.block ≠ b))
    (hs32 : 32 ≤ size) (hs : size ≤ 4096) (hW : W.length ≤ 100000) (hcnt : s.cnt ≤ 10000) (hp : pcn size size m ≤ 1000) (hp0 : pcn size 0 size ≤ 1000) (hT : Fm.Cr.Tab w0) (hw : 0 < w.heap.size) :
    Calls Tryz.prog 28 #[.agg #[rp r], Fm.hdV hd, .slice ao m cap] w fun e w' => e = .returned (.int .i64 (puA size F hd xs s D (abs W)).1) ∧ ∃ k' W', StP w0 w w' n size b k W (puA size F hd xs s D (abs W)) k' W' := by
  generalize hR2 : puA size F hd xs s D (abs W) = R2
  have HR2 := hide hR2
  clear hR2
  unfold rp Fm.hdV
  have g1 := World.grownBy_alloc w (.cells #[.pointer (some ⟨r, 0, none⟩)] 77) none
  have b1 : (w.alloc (.cells #[.pointer (some ⟨r, 0, none⟩)] 77)).heap[w.heap.size]? = some (.cells [Value.pointer (some ⟨r, 0, none⟩)].toArray 77 (0, 0)) := heap_alloc_new w _
  generalize hw1 : w.alloc (.cells #[.pointer (some ⟨r, 0, none⟩)] 77) = w1 at *
  have hz1 : w1.heap.size = w.heap.size + 1 := by rw [← hw1, World.size_alloc]
  have g2 := World.grownBy_alloc w1 (.cells #[.int .u64 hd.g, .int .u64 hd.c, .int .i64 hd.n, .int .u32 hd.s] 25) none
  have b2 : (w1.alloc (.cells #[.int .u64 hd.g, .int .u64 hd.c, .int .i64 hd.n, .int .u32 hd.s] 25)).heap[w1.heap.size]? = some (.cells (Fm.hdC hd).toArray 25 (0, 0)) := heap_alloc_new w1 _
  rw [hz1] at b2
  have b1' := (g2.block _ (row_lt b1) (by simp)).trans b1
  generalize hw2 : w1.alloc (.cells #[.int .u64 hd.g, .int .u64 hd.c, .int .i64 hd.n, .int .u32 hd.s] 25) = w2 at *
  have hG := grown_trans g1 g2
  have HW := hide (And.intro hw1 hw2)
  have cX : w2.cell? ⟨w.heap.size, 0, none⟩ = some (.pointer (some ⟨r, 0, none⟩)) := cell_row b1' 0
  obtain ⟨c0, c1, c2, c3⟩ := Fm.box4 b2
  have hhd := Fm.header_any hd hok hmay w2 (hT.grown (h.then hG).disk.grown) (Nat.lt_of_lt_of_le hw hG.size)
  unfold Fm.hdV at hhd
  rw [← hw2, ← hw1] at c0 c1 c2 c3
  have HB := hide (And.intro hG (And.intro cX hhd))
  clear hw2 hw1 b1 b2 b1' hz1 g1 g2 hG cX hhd
  have HI := hide (And.intro h (And.intro hr (And.intro hat (And.intro hoff (And.intro hT hm)))))
  clear h hr hat hoff hT
  go_enter Tryz.func28, Tryz.ntmps28
  go_wp2_with fail
  rw [HW.out.1, HW.out.2]
  refine HB.out.2.2.mono ?_
  clear c0 c1 c2 c3 HW
  rintro e w3 ⟨gh, rfl, hgh, hbh, g3⟩
  have cX3 := g3.cell HB.out.2.1 (by simp)
  have H3 := hide (And.intro (grown_trans HB.out.1 g3) (And.intro hbh hgh))
  clear hbh hgh g3
  have hsz := gSize_at (HI.out.1.then H3.out.1) (HI.out.2.1.grown H3.out.1)
  go_wp2_with fail
  refine hsz.mono ?_
  clear hsz
  rintro e wx ⟨rfl, hwx⟩
  obtain rfl := hwx.symm
  have hmk := make_bytes size (by omega) w3
  have hout : w3.heap[gh]? = some (.cells (bv (Fm.nats hd.out)).toArray 5 (0, 0)) := by rw [← bv_nats hd.out_byt]; exact H3.out.2.1
  have ga := World.grownBy_alloc w3 (.cells (bv (zs size)).toArray 5) none
  obtain ⟨w5, hrun, hW5, hg5⟩ := run_copy_any (w3.alloc (.cells (bv (zs size)).toArray 5)) w3.heap.size 0 size size (some ⟨gh, 0, none⟩) 32 32 (zs size) (Fm.nats hd.out) (heap_alloc_new w3 _) (by rw [Fm.nats_length, hd.out_length]; exact (Nat.min_eq_left hs32).symm) (by rw [Fm.nats_length, hd.out_length]; simp [zs]; omega) ((at_row hout).grown ga)
  have g35 : w3.grownBy w5 none := grown_then ga hg5 (fun j e => by cases e; exact Or.inl (Nat.le_refl _))
  have cX5 := g35.cell cX3 (by simp)
  rw [Fm.nats_length, hd.out_length] at hrun
  have hlt5 := row_lt hW5
  have H5 := hide (And.intro (grown_trans H3.out.1 g35) (And.intro hW5 hlt5))
  clear hW5 hg5 g35 hout ga cX3
  have hnX := new_off HI.out.1 (Nat.le_refl w.heap.size)
  have hnY := new_off HI.out.1 (X := w3.heap.size) H3.out.1.size
  have HN := hide (And.intro hnX hnY)
  clear hnX hnY
  have HSz := hide (gSize_at ((HI.out.1.then H5.out.1).then (grown_drew w5 none)) ((HI.out.2.1.grown H5.out.1).grown (grown_drew w5 none)))
  have HSt : Hid (∀ w6 : World, w5.grownBy w6 none → Calls Tryz.prog 49 #[.agg #[.pointer (some ⟨r, 0, none⟩)], .int .i64 (size : Int), .slice ao m cap] w6 fun e w' => e = .returned (.int .i64 (stA size F size xs s D (abs W)).1) ∧ ∃ k' W', StP w0 w6 w' n size b k W (stA size F size xs s D (abs W)) k' W') := by
    intro w6 hg
    exact settle_at ((HI.out.1.then H5.out.1).then hg) ((HI.out.2.1.grown H5.out.1).grown hg) hFC size cap m ao xs HI.out.2.2.2.2.2 ((HI.out.2.2.1.grown H5.out.1).grown hg) hcap hfit (fun a e hl => (HI.out.2.2.2.1 a e).2 hl) (by omega) (by omega)
  have HS2 : Hid (∀ (w6 : World) (k' : Dk) (W' : List Wt), StP w0 w w6 n size b k W (stA size F size xs s D (abs W)) k' W' → (stA size F size xs s D (abs W)).1 = 0 → w6.heap[w3.heap.size]? = some (.cells (bv (sect size hd)).toArray 5 (0, 0)) → ¬ (k'.own w3.heap.size ∨ w3.heap.size = b) →
      Calls Tryz.prog 49 #[.agg #[.pointer (some ⟨r, 0, none⟩)], .int .i64 0, .slice (some ⟨w3.heap.size, 0, none⟩) size size] w6 fun e w' => e = .returned (.int .i64 R2.1) ∧ ∃ k' W', StP w0 w w' n size b k W R2 k' W') := by
    intro w6 k6 W6 p hz hb hny
    have hso := stA_ok hz
    have hA := p.abs
    rw [hso.1] at hA
    have hl6 : W6.length = 0 := by have := congrArg List.length hA; rw [abs_length] at this; simpa using this
    have hcn := hso.2
    rw [HI.out.2.2.2.2.2] at hcn
    have q := settle_at p.dev (HI.out.2.1.dv HI.out.1 p.mov) hFC 0 size size (some ⟨w3.heap.size, 0, none⟩) (sect size hd) (sect_length size hd hs32) (at_row hb) (Nat.le_refl _) (by rw [Nat.zero_add]; exact Nat.le_mul_of_pos_left _ hC) (fun a e _ => by cases e; exact ⟨fun e => hny (.inl e), fun e => hny (.inr e)⟩) (by omega) (by omega)
    rw [p.abs] at q
    have e1 : R2 = stA size F 0 (sect size hd) (stA size F size xs s D (abs W)).2.1 (stA size F size xs s D (abs W)).2.2.1 (stA size F size xs s D (abs W)).2.2.2 := by rw [← HR2.out]; unfold puA; rw [if_pos hz]
    rw [e1]
    refine q.mono ?_
    rintro e w' ⟨rfl, k7, W7, p7⟩
    exact ⟨rfl, k7, W7, p7.dev, p7.abs, p.mov.trans p7.mov (row_lt HI.out.1.dev.head)⟩
  have HNo : Hid ((stA size F size xs s D (abs W)).1 ≠ 0 → R2 = stA size F size xs s D (abs W)) := fun hne => by rw [← HR2.out]; unfold puA; rw [if_neg hne]
  go_wp2_with fail
  clear hrun hmk
  generalize hXX : w.heap.size = X at *
  clear HR2
  generalize stA size F size xs s D (abs W) = R1 at *
  go_region_held3 (fun w6 => w6.cell? ⟨X, 0, none⟩ = some (.pointer (some ⟨r, 0, none⟩))) (first | assumption | exact (grown_drew w5 none).cell cX5 (by simp)) ((first | (go_at_call 45; refine HSz.out.mono ?_; rintro e3 w6 ⟨rfl, hw6⟩; obtain rfl := hw6.symm; have hk3 := (grown_drew w5 none).cell cX5 (by simp)) | (go_at_call 49; refine (HSt.out _ (grown_drew w5 none)).mono ?_; rintro e4 w7 ⟨rfl, k7, W7, p7⟩; have hk4 := cell_kept ((Kept.new (grown_drew w5 none) _).trans p7.mov.kept (fun i _ e => e)) cX5 HN.out.1; have P7 := hide p7; clear p7)))
  have hP : StP w0 w w7 n size b k W R1 k7 W7 := ⟨P7.out.dev, P7.out.abs, DvM.pre (grown_trans H5.out.1 (grown_drew w5 none)) P7.out.mov⟩
  have hsec : w7.heap[w3.heap.size]? = some (.cells (bv (sect size hd)).toArray 5 (0, 0)) := P7.out.mov.kept.at H5.out.2.1 HN.out.2
  have hny : ¬ (k7.own w3.heap.size ∨ w3.heap.size = b) := by
    rintro (e | e)
    · rcases P7.out.mov.own _ e with e | e
      · exact HN.out.2 (.inl e)
      · have := H5.out.2.2
        have h5 : w5.drew.heap.size = w5.heap.size := rfl
        omega
    · exact HN.out.2 (.inr e)
  have HP := hide (And.intro hP (And.intro hsec hny))
  clear hP hsec hny P7 HSt HSz hk3
  by_cases hz : R1.1 = 0
  · have hs2 := HS2.out w7 k7 W7 HP.out.1 hz HP.out.2.1 HP.out.2.2
    have HZ := hide hz
    rw [hz]
    clear hz
    generalize w3.heap.size = Y at *
    go_wp2_with fail
    refine hs2.mono ?_
    rintro e w8 ⟨rfl, hx⟩
    go_wp2
    go_ret
    exact ⟨rfl, hx⟩
  · have hne : (R1.1 != 0) = true := by simpa using hz
    have hno := HNo.out hz
    have HR := hide (And.intro hno HP.out.1)
    clear hno HS2 HNo
    generalize hc1 : R1.1 = c1 at *
    have HC1 := hide hc1
    clear hc1
    go_wp2
    go_ret
    exact ⟨by rw [HR.out.1, HC1.out]; rfl, k7, W7, by rw [HR.out.1]; exact HR.out.2⟩
end
end Go.Proofs.YtonokaelbpfjnabGreatDoor
/- A header read of its own bytes; Header of what may not be. -/
namespace Go.Proofs.YtonokaelbpfjnabGreatDoor.Fm
open Go.RowKit
attribute [local go_sem ↓] Go.wp_at_zero Go.wp_at_succ
theorem Hd.parts (h : Hd) : h.out = [71, 65, 78, 71] ++ (leB h.g 8 ++ (leB h.c 8 ++ (leB h.n 4 ++ (leB h.s 4 ++ leB (sumI h.head) 4)))) := by
  simp [Hd.out, Hd.head, List.append_assoc]
theorem Hd.d1 (h : Hd) : h.out.drop 4 = leB h.g 8 ++ (leB h.c 8 ++ (leB h.n 4 ++ (leB h.s 4 ++ leB (sumI h.head) 4))) := by
  rw [h.parts]; exact List.drop_left' rfl
theorem Hd.d2 (h : Hd) : (h.out.drop 4).drop 8 = leB h.c 8 ++ (leB h.n 4 ++ (leB h.s 4 ++ leB (sumI h.head) 4)) := by
  rw [h.d1]; exact List.drop_left' (leB_length _ _)
theorem Hd.d3 (h : Hd) : ((h.out.drop 4).drop 8).drop 8 = leB h.n 4 ++ (leB h.s 4 ++ leB (sumI h.head) 4) := by
  rw [h.d2]; exact List.drop_left' (leB_length _ _)
theorem Hd.d4 (h : Hd) : (((h.out.drop 4).drop 8).drop 8).drop 4 = leB h.s 4 ++ leB (sumI h.head) 4 := by
  rw [h.d3]; exact List.drop_left' (leB_length _ _)
theorem Hd.d5 (h : Hd) : ((((h.out.drop 4).drop 8).drop 8).drop 4).drop 4 = leB (sumI h.head) 4 := by
  rw [h.d4]; exact List.drop_left' (leB_length _ _)
theorem leV_back {N : Int} (h : 0 ≤ N) (k : Nat) (h2 : N < 2 ^ (8 * k)) : leV (leB N k) = N := by
  rw [leV_leB N h k]
  exact Int.emod_eq_of_lt h h2
theorem hdOf_out (h : Hd) (hok : h.Ok) (hm : h.May) : hdOf h.out = h := by
  have e1 : leV ((h.out.drop 4).take 8) = h.g := by rw [h.d1, List.take_left' (leB_length _ _)]; exact leV_back hok.g0 8 (by have := hok.g1; show h.g < 18446744073709551616; omega)
  have e2 : leV (((h.out.drop 4).drop 8).take 8) = h.c := by rw [h.d2, List.take_left' (leB_length _ _)]; exact leV_back hok.c0 8 (by have := hok.c1; show h.c < 18446744073709551616; omega)
  have e3 : leV ((((h.out.drop 4).drop 8).drop 8).take 4) = h.n := by rw [h.d3, List.take_left' (leB_length _ _)]; exact leV_back hm.2.1 4 (by have := hm.2.2; show h.n < 4294967296; omega)
  have e4 : leV (((((h.out.drop 4).drop 8).drop 8).drop 4).take 4) = h.s := by rw [h.d4, List.take_left' (leB_length _ _)]; exact leV_back hok.s0 4 (by have := hok.s1; show h.s < 4294967296; omega)
  unfold hdOf
  rw [e1, e2, e3, e4]
theorem good_out (h : Hd) : HGood h.out := by
  refine ⟨by rw [h.parts]; exact List.take_left' rfl, ?_⟩
  have h1 : h.out.take 28 = h.head := List.take_left' h.head_length
  have hs := sumI_lt h.head_byt
  rw [h.d5, h1, List.take_of_length_le (by rw [leB_length]; omega)]
  exact leV_back hs.1 4 (by have := hs.2; show sumI h.head < 4294967296; omega)
/-- A header is read of its bytes as it is, with anything behind. -/
theorem readH_out (h : Hd) (hok : h.Ok) (hm : h.May) (tail : List Int) : readH (h.out ++ tail) = (h, 0) := by
  have h1 : (h.out ++ tail).take 32 = h.out := List.take_left' h.out_length
  unfold readH
  rw [if_neg (by rw [List.length_append, h.out_length]; omega), h1, if_pos (good_out h), hdOf_out h hok hm, if_pos hm]
theorem readH_short (xs : List Int) (h : xs.length < 32) : readH xs = (zHd, 4) := by unfold readH; rw [if_pos h]
set_option maxRecDepth 20000 in
set_option maxHeartbeats 2000000 in
theorem header_bad (h : Hd) (hm : ¬ h.May) (w : World) :
    Calls Tryz.prog 12 #[hdV h] w fun r w' => r = .returned (.tuple #[.slice none 0 0, .int .i64 2]) ∧ w.grownBy w' none := by
  have hmy := hide (mayBe_any h)
  rw [show decide h.May = false from decide_eq_false hm] at hmy
  clear hm
  unfold hdV at hmy ⊢
  have hb : (w.alloc (.cells #[.int .u64 h.g, .int .u64 h.c, .int .i64 h.n, .int .u32 h.s] 25)).heap[w.heap.size]? = some (.cells (hdC h).toArray 25 (0, 0)) := heap_alloc_new w _
  obtain ⟨c0, c1, c2, c3⟩ := box4 hb
  have HG := hide (World.grownBy_alloc w (.cells #[.int .u64 h.g, .int .u64 h.c, .int .i64 h.n, .int .u32 h.s] 25) none)
  clear hb
  go_enter Tryz.func12, Tryz.ntmps12
  go_wp2_with fail
  generalize (w.alloc (.cells #[.int .u64 h.g, .int .u64 h.c, .int .i64 h.n, .int .u32 h.s] 25)) = w1 at *
  refine (hmy.out w1).mono ?_
  rintro e w2 ⟨rfl, g2⟩
  have G2 := hide (grown_trans HG.out g2)
  clear c0 c1 c2 c3 g2 HG hmy
  go_wp2
  go_ret2
  exact ⟨rfl, G2.out⟩
end Go.Proofs.YtonokaelbpfjnabGreatDoor.Fm
