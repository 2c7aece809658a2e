/- Texts joined: Sl4, Sl5, Sl6, Sl7. -/
import Derived.Test.YtonokaelbpfjnaaGreatDoorJhAr
/- Two claims, sorted: the sort. -/
namespace Go.Proofs.YtonokaelbpfjnaaGreatDoor
open Go.RowKit Ap
attribute [local go_sem ↓] Go.wp_at_zero Go.wp_at_succ
/-- Claims in a row. -/
def CsAt (w : World) (g : Nat) (L : List (Fm.Hd × Int)) : Prop := ∀ j p, L[j]? = some p → ∀ i v, (clC p.1 p.2)[i]? = some v → w.cell? ⟨g, j * 5 + i, none⟩ = some v
theorem CsAt.kept {w w' : World} {g : Nat} {L : List (Fm.Hd × Int)} (h : CsAt w g L) (hg : w.grownBy w' none) : CsAt w' g L := fun j p hj i v hv => hg.cell (h j p hj i v hv) (by simp)
set_option maxHeartbeats 4000000 in
theorem swap10 {w : World} {g : Nat} {cur : List Value} {x y : Fm.Hd} {a b : Int} (hf : w.heap[g]? = some (.cells cur.toArray 117 (0, 0))) (hl : 10 ≤ cur.length) :
    (∃ cur' : List Value, (((((((((((w.setCell ⟨g, 5, none⟩ (.int .u64 x.g)).setCell ⟨g, 6, none⟩ (.int .u64 x.c)).setCell ⟨g, 7, none⟩ (.int .i64 x.n)).setCell ⟨g, 8, none⟩ (.int .u32 x.s)).setCell ⟨g, 9, none⟩ (.int .i64 a)).setCell ⟨g, 0, none⟩ (.int .u64 y.g)).setCell ⟨g, 1, none⟩ (.int .u64 y.c)).setCell ⟨g, 2, none⟩ (.int .i64 y.n)).setCell ⟨g, 3, none⟩ (.int .u32 y.s)).setCell ⟨g, 4, none⟩ (.int .i64 b)).drew).heap[g]? = some (.cells cur'.toArray 117 (0, 0))) ∧ w.grownBy (((((((((((w.setCell ⟨g, 5, none⟩ (.int .u64 x.g)).setCell ⟨g, 6, none⟩ (.int .u64 x.c)).setCell ⟨g, 7, none⟩ (.int .i64 x.n)).setCell ⟨g, 8, none⟩ (.int .u32 x.s)).setCell ⟨g, 9, none⟩ (.int .i64 a)).setCell ⟨g, 0, none⟩ (.int .u64 y.g)).setCell ⟨g, 1, none⟩ (.int .u64 y.c)).setCell ⟨g, 2, none⟩ (.int .i64 y.n)).setCell ⟨g, 3, none⟩ (.int .u32 y.s)).setCell ⟨g, 4, none⟩ (.int .i64 b)).drew) (some g) ∧ CsAt (((((((((((w.setCell ⟨g, 5, none⟩ (.int .u64 x.g)).setCell ⟨g, 6, none⟩ (.int .u64 x.c)).setCell ⟨g, 7, none⟩ (.int .i64 x.n)).setCell ⟨g, 8, none⟩ (.int .u32 x.s)).setCell ⟨g, 9, none⟩ (.int .i64 a)).setCell ⟨g, 0, none⟩ (.int .u64 y.g)).setCell ⟨g, 1, none⟩ (.int .u64 y.c)).setCell ⟨g, 2, none⟩ (.int .i64 y.n)).setCell ⟨g, 3, none⟩ (.int .u32 y.s)).setCell ⟨g, 4, none⟩ (.int .i64 b)).drew) g [(y, b), (x, a)] := by
  have a0 := row_setCell hf 5 (.int .u64 x.g)
  have b0 := grown_setCell w g 5 (.int .u64 x.g)
  have a1 := row_setCell a0 6 (.int .u64 x.c)
  have b1 := grown_trans b0 (grown_setCell _ g 6 (.int .u64 x.c))
  have a2 := row_setCell a1 7 (.int .i64 x.n)
  have b2 := grown_trans b1 (grown_setCell _ g 7 (.int .i64 x.n))
  have a3 := row_setCell a2 8 (.int .u32 x.s)
  have b3 := grown_trans b2 (grown_setCell _ g 8 (.int .u32 x.s))
  have a4 := row_setCell a3 9 (.int .i64 a)
  have b4 := grown_trans b3 (grown_setCell _ g 9 (.int .i64 a))
  have a5 := row_setCell a4 0 (.int .u64 y.g)
  have b5 := grown_trans b4 (grown_setCell _ g 0 (.int .u64 y.g))
  have a6 := row_setCell a5 1 (.int .u64 y.c)
  have b6 := grown_trans b5 (grown_setCell _ g 1 (.int .u64 y.c))
  have a7 := row_setCell a6 2 (.int .i64 y.n)
  have b7 := grown_trans b6 (grown_setCell _ g 2 (.int .i64 y.n))
  have a8 := row_setCell a7 3 (.int .u32 y.s)
  have b8 := grown_trans b7 (grown_setCell _ g 3 (.int .u32 y.s))
  have a9 := row_setCell a8 4 (.int .i64 b)
  have b9 := grown_trans b8 (grown_setCell _ g 4 (.int .i64 b))
  generalize hW : ((((((((((w.setCell ⟨g, 5, none⟩ (.int .u64 x.g)).setCell ⟨g, 6, none⟩ (.int .u64 x.c)).setCell ⟨g, 7, none⟩ (.int .i64 x.n)).setCell ⟨g, 8, none⟩ (.int .u32 x.s)).setCell ⟨g, 9, none⟩ (.int .i64 a)).setCell ⟨g, 0, none⟩ (.int .u64 y.g)).setCell ⟨g, 1, none⟩ (.int .u64 y.c)).setCell ⟨g, 2, none⟩ (.int .i64 y.n)).setCell ⟨g, 3, none⟩ (.int .u32 y.s)).setCell ⟨g, 4, none⟩ (.int .i64 b)) = W at *
  refine ⟨⟨_, a9⟩, grown_trans b9 (grown_drew _ _), ?_⟩
  have h1 := a9
  suffices hs : CsAt W g [(y, b), (x, a)] from hs.kept (grown_drew _ none)
  intro j p hj i v hv
  rw [cell_row h1]
  clear h1 a0 a1 a2 a3 a4 a5 a6 a7 a8 a9 b0 b1 b2 b3 b4 b5 b6 b7 b8 b9 hW hf
  have l0 : 0 < cur.length := by omega
  have l1 : 1 < cur.length := by omega
  have l2 : 2 < cur.length := by omega
  have l3 : 3 < cur.length := by omega
  have l4 : 4 < cur.length := by omega
  have l5 : 5 < cur.length := by omega
  have l6 : 6 < cur.length := by omega
  have l7 : 7 < cur.length := by omega
  have l8 : 8 < cur.length := by omega
  have l9 : 9 < cur.length := by omega
  match j, hj with
  | 0, h =>
    cases h
    match i, hv with
    | 0, h => cases h; simp [l0]
    | 1, h => cases h; simp [l1]
    | 2, h => cases h; simp [l2]
    | 3, h => cases h; simp [l3]
    | 4, h => cases h; simp [l4]
    | i + 5, h => simp [clC] at h
  | 1, h =>
    cases h
    match i, hv with
    | 0, h => cases h; simp [l5]
    | 1, h => cases h; simp [l6]
    | 2, h => cases h; simp [l7]
    | 3, h => cases h; simp [l8]
    | 4, h => cases h; simp [l9]
    | i + 5, h => simp [clC] at h
  | j + 2, h => simp at h
set_option maxRecDepth 20000 in
set_option maxHeartbeats 2000000 in
theorem ins_few (so : Option Addr) (n cap : Nat) (w : World) (hn : n ≤ 1) (f : Value) : Calls Tryz.prog 149 #[.slice so n cap, .int .i64 0, .int .i64 (n : Int), f] w fun e w' => e = .returned (.tuple #[]) ∧ w' = w := by
  have h1 : (n : Int) ≤ 1 := by omega
  have h2 : decide ((1 : Int) < (n : Int)) = false := decide_eq_false (by omega)
  go_enter Tryz.func149, Tryz.ntmps149
  go_wp2
  go_loopg [8] 0 (fun _ i wr => i = .int .i64 1 ∧ wr = w)
  case atStart => exact ⟨rfl, rfl⟩
  case round =>
    obtain ⟨rfl, hwr⟩ := hrel
    obtain rfl := hwr.symm
    go_wp2
    go_end0
    exact ⟨rfl, rfl⟩
set_option maxRecDepth 20000 in
set_option maxHeartbeats 8000000 in
theorem ins_two (g cap : Nat) (w : World) (x y : Fm.Hd) (a b : Int) (hc : CsAt w g [(x, a), (y, b)]) (cur : List Value) (hf : w.heap[g]? = some (.cells cur.toArray 117 (0, 0))) (hcap : 2 ≤ cap) :
    Calls Tryz.prog 149 #[.slice (some ⟨g, 0, none⟩) 2 cap, .int .i64 0, .int .i64 2, .func (.func 117) #[] #[]] w fun e w' => e = .returned (.tuple #[]) ∧ w.grownBy w' (some g) ∧ (∃ cur' : List Value, w'.heap[g]? = some (.cells cur'.toArray 117 (0, 0))) ∧ CsAt w' g (if x.g < y.g then [(y, b), (x, a)] else [(x, a), (y, b)]) := by
  have HC := hide (And.intro hc hf)
  clear hc hf
  obtain ⟨LR, hLR⟩ : ∃ LR, LR = (if x.g < y.g then [(y, b), (x, a)] else [(x, a), (y, b)]) := ⟨_, rfl⟩
  rw [← hLR]
  have HLR := hide hLR
  clear hLR
  go_enter Tryz.func149, Tryz.ntmps149
  go_wp2
  go_loopg [8] 1 (fun q i wr => (q = 1 ∧ i = .int .i64 1 ∧ wr = w) ∨ (q = 0 ∧ i = .int .i64 2 ∧ Hid (w.grownBy wr (some g) ∧ (∃ cur' : List Value, wr.heap[g]? = some (.cells cur'.toArray 117 (0, 0))) ∧ CsAt wr g LR)))
  case atStart => exact .inl ⟨rfl, rfl, rfl⟩
  case round =>
    rcases hrel with ⟨rfl, rfl, hwr⟩ | ⟨rfl, rfl, HQ⟩
    · obtain rfl := hwr.symm
      go_wp2
      have HL0 := hide (less_any y x b a)
      go_loopg [9] 1 (fun q j wr => (q = 1 ∧ j = .int .i64 1 ∧ wr = w) ∨ (q = 0 ∧ j = .int .i64 0 ∧ Hid (x.g < y.g ∧ w.grownBy wr (some g) ∧ (∃ cur' : List Value, wr.heap[g]? = some (.cells cur'.toArray 117 (0, 0))) ∧ CsAt wr g [(y, b), (x, a)])))
      case atStart => exact .inl ⟨rfl, rfl, rfl⟩
      case round =>
        rcases hrel with ⟨rfl, rfl, hwr⟩ | ⟨rfl, rfl, HQ⟩
        · obtain rfl := hwr.symm
          have c := HC.out.1
          have c0 : w.cell? ⟨g, 0, none⟩ = some (.int .u64 x.g) := c 0 _ rfl 0 _ rfl
          have c1 : w.cell? ⟨g, 1, none⟩ = some (.int .u64 x.c) := c 0 _ rfl 1 _ rfl
          have c2 : w.cell? ⟨g, 2, none⟩ = some (.int .i64 x.n) := c 0 _ rfl 2 _ rfl
          have c3 : w.cell? ⟨g, 3, none⟩ = some (.int .u32 x.s) := c 0 _ rfl 3 _ rfl
          have c4 : w.cell? ⟨g, 4, none⟩ = some (.int .i64 a) := c 0 _ rfl 4 _ rfl
          have c5 : w.cell? ⟨g, 5, none⟩ = some (.int .u64 y.g) := c 1 _ rfl 0 _ rfl
          have c6 : w.cell? ⟨g, 6, none⟩ = some (.int .u64 y.c) := c 1 _ rfl 1 _ rfl
          have c7 : w.cell? ⟨g, 7, none⟩ = some (.int .i64 y.n) := c 1 _ rfl 2 _ rfl
          have c8 : w.cell? ⟨g, 8, none⟩ = some (.int .u32 y.s) := c 1 _ rfl 3 _ rfl
          have c9 : w.cell? ⟨g, 9, none⟩ = some (.int .i64 b) := c 1 _ rfl 4 _ rfl
          clear c
          unfold clV at HL0
          have hw10 : IntKind.i64.wrap (1 - 1) = 0 := rfl
          have hw11 : IntKind.i64.wrap 0 = 0 := rfl
          have hcp0 : (0 : Int) < (2 : Int) := by decide
          have hcp1 : (2 : Int) ≤ (cap : Int) := by omega
          have HK : Hid (∀ w1 : World, w.grownBy w1 none → (w1.cell? ⟨g, 0, none⟩ = some (.int .u64 x.g) ∧ w1.cell? ⟨g, 1, none⟩ = some (.int .u64 x.c) ∧ w1.cell? ⟨g, 2, none⟩ = some (.int .i64 x.n) ∧ w1.cell? ⟨g, 3, none⟩ = some (.int .u32 x.s) ∧ w1.cell? ⟨g, 4, none⟩ = some (.int .i64 a)) ∧ w1.cell? ⟨g, 5, none⟩ = some (.int .u64 y.g) ∧ w1.cell? ⟨g, 6, none⟩ = some (.int .u64 y.c) ∧ w1.cell? ⟨g, 7, none⟩ = some (.int .i64 y.n) ∧ w1.cell? ⟨g, 8, none⟩ = some (.int .u32 y.s) ∧ w1.cell? ⟨g, 9, none⟩ = some (.int .i64 b)) :=
            fun w1 hg => ⟨⟨hg.cell c0 (by simp), hg.cell c1 (by simp), hg.cell c2 (by simp), hg.cell c3 (by simp), hg.cell c4 (by simp)⟩, hg.cell c5 (by simp), hg.cell c6 (by simp), hg.cell c7 (by simp), hg.cell c8 (by simp), hg.cell c9 (by simp)⟩
          obtain ⟨r, hr⟩ : ∃ r, r = cmpI x.g y.g := ⟨_, rfl⟩
          rw [← hr] at HL0
          have HR := hide hr
          clear hr
          by_cases hlt : x.g < y.g
          · have hr0 : r = -1 := by rw [HR.out]; unfold cmpI; rw [if_pos hlt]
            subst hr0
            go_wp2_with fail
            go_region_held3 (fun w1 => (w1.cell? ⟨g, 0, none⟩ = some (.int .u64 x.g) ∧ w1.cell? ⟨g, 1, none⟩ = some (.int .u64 x.c) ∧ w1.cell? ⟨g, 2, none⟩ = some (.int .i64 x.n) ∧ w1.cell? ⟨g, 3, none⟩ = some (.int .u32 x.s) ∧ w1.cell? ⟨g, 4, none⟩ = some (.int .i64 a)) ∧ w1.cell? ⟨g, 5, none⟩ = some (.int .u64 y.g) ∧ w1.cell? ⟨g, 6, none⟩ = some (.int .u64 y.c) ∧ w1.cell? ⟨g, 7, none⟩ = some (.int .i64 y.n) ∧ w1.cell? ⟨g, 8, none⟩ = some (.int .u32 y.s) ∧ w1.cell? ⟨g, 9, none⟩ = some (.int .i64 b)) (first | assumption | exact HK.out _ (grown_drew _ none) | exact HK.out _ (grown_refl _ none)) ((go_at_call 117; refine (HL0.out _).mono ?_; rintro e3 w3 ⟨rfl, g3⟩; have Z3 := hide (grown_trans (grown_drew w none) g3); have hk3 := HK.out _ Z3.out; clear g3))
            clear c0 c1 c2 c3 c4 c5 c6 c7 c8 c9
            obtain ⟨⟨c0, c1, c2, c3, c4⟩, c5, c6, c7, c8, c9⟩ := hk3
            have hb3 := (Z3.out.block g (row_lt HC.out.2) (by simp)).trans HC.out.2
            have f0 := free_row hb3 0
            have f1 := free_row hb3 1
            have f2 := free_row hb3 2
            have f3 := free_row hb3 3
            have f4 := free_row hb3 4
            have f5 := free_row hb3 5
            have f6 := free_row hb3 6
            have f7 := free_row hb3 7
            have f8 := free_row hb3 8
            have f9 := free_row hb3 9
            have HB3 := hide hb3
            clear hb3 HL0 HK
            go_wp2_with fail
            have hl10 : 10 ≤ cur.length := by
              have h9 := cell_row HB3.out 9
              rw [c9] at h9
              have := (List.getElem?_eq_some_iff.1 h9.symm).1
              omega
            have hsw := swap10 (x := x) (y := y) (a := a) (b := b) HB3.out hl10
            have N4 := hide (And.intro hlt (And.intro (grown_trans (grown_none Z3.out (some g)) hsw.2.1) (And.intro hsw.1 hsw.2.2)))
            clear hsw
            go_region
            clear c0 c1 c2 c3 c4 c5 c6 c7 c8 c9 f0 f1 f2 f3 f4 f5 f6 f7 f8 f9
            generalize ((((((((((w3.setCell ⟨g, 5, none⟩ (.int .u64 x.g)).setCell ⟨g, 6, none⟩ (.int .u64 x.c)).setCell ⟨g, 7, none⟩ (.int .i64 x.n)).setCell ⟨g, 8, none⟩ (.int .u32 x.s)).setCell ⟨g, 9, none⟩ (.int .i64 a)).setCell ⟨g, 0, none⟩ (.int .u64 y.g)).setCell ⟨g, 1, none⟩ (.int .u64 y.c)).setCell ⟨g, 2, none⟩ (.int .i64 y.n)).setCell ⟨g, 3, none⟩ (.int .u32 y.s)).setCell ⟨g, 4, none⟩ (.int .i64 b)).drew = w4 at *
            go_wp2
            go_roundg 0
            case measure => omega
            case rel => exact .inr ⟨rfl, rfl, N4⟩
          · have hr0 : 0 ≤ r := by rw [HR.out]; unfold cmpI; rw [if_neg hlt]; split <;> omega
            go_wp2_with fail
            go_region_held3 (fun w1 => (w1.cell? ⟨g, 0, none⟩ = some (.int .u64 x.g) ∧ w1.cell? ⟨g, 1, none⟩ = some (.int .u64 x.c) ∧ w1.cell? ⟨g, 2, none⟩ = some (.int .i64 x.n) ∧ w1.cell? ⟨g, 3, none⟩ = some (.int .u32 x.s) ∧ w1.cell? ⟨g, 4, none⟩ = some (.int .i64 a)) ∧ w1.cell? ⟨g, 5, none⟩ = some (.int .u64 y.g) ∧ w1.cell? ⟨g, 6, none⟩ = some (.int .u64 y.c) ∧ w1.cell? ⟨g, 7, none⟩ = some (.int .i64 y.n) ∧ w1.cell? ⟨g, 8, none⟩ = some (.int .u32 y.s) ∧ w1.cell? ⟨g, 9, none⟩ = some (.int .i64 b)) (first | assumption | exact HK.out _ (grown_drew _ none) | exact HK.out _ (grown_refl _ none)) ((go_at_call 117; refine (HL0.out _).mono ?_; rintro e3 w3 ⟨rfl, g3⟩; have Z3 := hide (grown_trans (grown_drew w none) g3); have hk3 := HK.out _ Z3.out; clear g3))
            clear c0 c1 c2 c3 c4 c5 c6 c7 c8 c9
            have N4 : Hid (w.grownBy w3 (some g) ∧ (∃ cur' : List Value, w3.heap[g]? = some (.cells cur'.toArray 117 (0, 0))) ∧ CsAt w3 g LR) := by
              refine ⟨grown_none Z3.out _, ⟨cur, (Z3.out.block g (row_lt HC.out.2) (by simp)).trans HC.out.2⟩, ?_⟩
              rw [HLR.out, if_neg (by omega)]
              exact HC.out.1.kept Z3.out
            clear hk3
            go_wp2
            go_roundg 0
            case measure => omega
            case rel => exact .inr ⟨rfl, rfl, N4⟩
        · have N4 : Hid (w.grownBy wr (some g) ∧ (∃ cur' : List Value, wr.heap[g]? = some (.cells cur'.toArray 117 (0, 0))) ∧ CsAt wr g LR) := ⟨HQ.out.2.1, HQ.out.2.2.1, by rw [HLR.out, if_pos HQ.out.1]; exact HQ.out.2.2.2⟩
          clear HL0
          go_wp2_with fail
          go_quiet (fail)
          have N5 : Hid (w.grownBy (wr.drewN nq) (some g) ∧ (∃ cur' : List Value, (wr.drewN nq).heap[g]? = some (.cells cur'.toArray 117 (0, 0))) ∧ CsAt (wr.drewN nq) g LR) := ⟨grown_trans N4.out.1 (grown_drewN _ _ _), N4.out.2.1, N4.out.2.2.kept (grown_drewN _ _ none)⟩
          generalize wr.drewN nq = w5 at *
          go_wp2
          go_roundg 0
          case measure => omega
          case rel => exact .inr ⟨rfl, rfl, N5⟩
    · go_wp2
      go_end0
      exact ⟨rfl, HQ.out⟩
end Go.Proofs.YtonokaelbpfjnaaGreatDoor
/- Claims sorted: the stable sort of a few. -/
namespace Go.Proofs.YtonokaelbpfjnaaGreatDoor
open Go.RowKit Ap
attribute [local go_sem ↓] Go.wp_at_zero Go.wp_at_succ
set_option maxRecDepth 20000 in
set_option maxHeartbeats 4000000 in
theorem stable_of (so : Option Addr) (n cap : Nat) (w : World) (hn : n ≤ 2) (f : Value) (Q : World → Prop) (H : Calls Tryz.prog 149 #[.slice so n cap, .int .i64 0, .int .i64 (n : Int), f] w fun e w' => e = .returned (.tuple #[]) ∧ Q w') :
    Calls Tryz.prog 141 #[.slice so n cap, .int .i64 (n : Int), f] w fun e w' => e = .returned (.tuple #[]) ∧ Q w' := by
  have h1 : (n : Int) ≤ 2 := by omega
  have h2 : decide ((20 : Int) ≤ (n : Int)) = false := decide_eq_false (by omega)
  have h3 : decide ((20 : Int) < (n : Int)) = false := decide_eq_false (by omega)
  have h4 : (n : Int) < 20 := by omega
  have HH := hide H
  clear H
  go_enter Tryz.func141, Tryz.ntmps141
  go_wp2
  go_loopg [7, 8] 0 (fun _ i j wr => i = .int .i64 0 ∧ j = .int .i64 20 ∧ wr = w)
  case atStart => exact ⟨rfl, rfl, rfl⟩
  case round =>
    obtain ⟨rfl, rfl, hwr⟩ := hrel
    obtain rfl := hwr.symm
    go_wp2_with fail
    refine HH.out.mono ?_
    clear HH
    rintro e w2 ⟨rfl, q2⟩
    have Q2 := hide q2
    clear q2
    go_wp2
    go_loopg [6] 0 (fun _ i wr => i = .int .i64 20 ∧ Hid (Q wr))
    case atStart => exact ⟨rfl, Q2⟩
    case round =>
      obtain ⟨rfl, Q3⟩ := hrel
      go_wp2
      go_end0
      exact ⟨rfl, Q3.out⟩
set_option maxRecDepth 20000 in
set_option maxHeartbeats 4000000 in
theorem sort_of (so : Option Addr) (n cap : Nat) (w : World) (hn : n ≤ 2) (f : Value) (Q : World → Prop) (H : Calls Tryz.prog 149 #[.slice so n cap, .int .i64 0, .int .i64 (n : Int), f] w fun e w' => e = .returned (.tuple #[]) ∧ Q w') :
    Calls Tryz.prog 116 #[.slice so n cap, f] w fun e w' => e = .returned (.tuple #[]) ∧ Q w' := by
  have HH := hide (stable_of so n cap w hn f Q H)
  clear H
  go_enter Tryz.func116, Tryz.ntmps116
  go_wp2_with fail
  refine HH.out.mono ?_
  rintro e w2 ⟨rfl, q2⟩
  go_wp2
  go_end0
  exact ⟨rfl, q2⟩
end Go.Proofs.YtonokaelbpfjnaaGreatDoor
/- The body of a slot. -/
namespace Go.Proofs.YtonokaelbpfjnaaGreatDoor
open Go.RowKit Ap
attribute [local go_sem ↓] Go.wp_at_zero Go.wp_at_succ
section
variable {w0 w w' w2 : World} {n size b r F C : Nat} {s : Dv} {k : Dk} {D : List Nat} {W : List Wt}
theorem ReadP.pre {m M : Nat} {xs : List Nat} {v : Value} {c : Int} (g : w.grownBy w2 none) (p : ReadP w0 w2 w' n size b s k D W m M xs v c) : ReadP w0 w w' n size b s k D W m M xs v c :=
  ⟨p.code, p.dev, (Kept.new g _).trans p.kept (fun i _ e => e), fun e => by obtain ⟨g1, a1, a2, a3⟩ := p.ok e; exact ⟨g1, a1, Nat.le_trans g.size a2, a3⟩, p.no⟩
theorem ReadP.then {m M : Nat} {xs : List Nat} {v : Value} {c : Int} (p : ReadP w0 w w' n size b s k D W m M xs v c) (g : w'.grownBy w2 none) : ReadP w0 w w2 n size b s k D W m M xs v c :=
  ⟨p.code, p.dev.then g, p.kept.trans (Kept.new g _) (fun i _ e => e), fun e => by obtain ⟨g1, a1, a2, a3, a4⟩ := p.ok e; exact ⟨g1, a1, a2, (g.block _ (row_lt a3) (by simp)).trans a3, a4⟩, p.no⟩
/-- The sum of bytes. -/
def sumN (xs : List Nat) : Int := ((Fm.Cr.Poly.more 0 xs : Nat) : Int)
theorem new_off (h : Dev w0 w n size b s k D W) {X : Nat} (hX : w.heap.size ≤ X) : ¬ (k.own X ∨ X = b) := by
  rintro (e | e)
  · have := h.disk.disk.lt X (.inl e); omega
  · have := h.dev.lt; omega
set_option maxRecDepth 20000 in
set_option maxHeartbeats 8000000 in
theorem body_at (h : Dev w0 w n size b s k D W) (hr : RgAt w r b F C) (hFC : F + C ≤ n) (hd : Fm.Hd) (m : Nat) (hm : hd.n = (m : Int)) (hfit : size + m ≤ C * size) (hcnt : s.cnt + pcn size size m ≤ 100000) (hT : Fm.Cr.Tab w0) (hm2 : m ≤ 67108864) (hB : Bytes (bytesAt (now size D (abs W)) (F * size + size) m)) :
    Calls Tryz.prog 75 #[.agg #[rp r], Fm.hdV hd] w fun e w' => ∃ v c, e = .returned (.tuple #[v, .bool (decide (c = 0 ∧ sumN (bytesAt (now size D (abs W)) (F * size + size) m) = hd.s)), .int .i64 c]) ∧ ReadP w0 w w' n size b s k D W m (pcn size size m) (bytesAt (now size D (abs W)) (F * size + size) m) v c := by
  generalize hxs : bytesAt (now size D (abs W)) (F * size + size) m = xs at *
  unfold rp Fm.hdV
  have g1 := World.grownBy_alloc w (.cells #[.pointer (some ⟨r, 0, none⟩)] 120) none
  have b1 : (w.alloc (.cells #[.pointer (some ⟨r, 0, none⟩)] 120)).heap[w.heap.size]? = some (.cells [Value.pointer (some ⟨r, 0, none⟩)].toArray 120 (0, 0)) := heap_alloc_new w _
  generalize hw1 : w.alloc (.cells #[.pointer (some ⟨r, 0, none⟩)] 120) = w1 at *
  have hz1 : w1.heap.size = w.heap.size + 1 := by rw [← hw1, World.size_alloc]
  have g2 := World.grownBy_alloc w1 (.cells #[.int .u64 hd.g, .int .u64 hd.c, .int .i64 hd.n, .int .u32 hd.s] 35) none
  have b2 : (w1.alloc (.cells #[.int .u64 hd.g, .int .u64 hd.c, .int .i64 hd.n, .int .u32 hd.s] 35)).heap[w1.heap.size]? = some (.cells (Fm.hdC hd).toArray 35 (0, 0)) := heap_alloc_new w1 _
  rw [hz1] at b2
  have b1' := (g2.block _ (row_lt b1) (by simp)).trans b1
  generalize hw2 : w1.alloc (.cells #[.int .u64 hd.g, .int .u64 hd.c, .int .i64 hd.n, .int .u32 hd.s] 35) = w2 at *
  have HG := hide (grown_trans g1 g2)
  have hS2 : w2.cell? ⟨w.heap.size, 0, none⟩ = some (.pointer (some ⟨r, 0, none⟩)) ∧ w2.cell? ⟨w.heap.size + 1, 2, none⟩ = some (.int .i64 (m : Int)) ∧ w2.cell? ⟨w.heap.size + 1, 3, none⟩ = some (.int .u32 hd.s) := ⟨cell_row b1' 0, by rw [← hm]; exact cell_row b2 2, cell_row b2 3⟩
  have HK : Hid (∀ w3 : World, Kept w2 w3 (fun i => k.own i ∨ i = b) → w3.cell? ⟨w.heap.size, 0, none⟩ = some (.pointer (some ⟨r, 0, none⟩)) ∧ w3.cell? ⟨w.heap.size + 1, 2, none⟩ = some (.int .i64 (m : Int)) ∧ w3.cell? ⟨w.heap.size + 1, 3, none⟩ = some (.int .u32 hd.s)) :=
    fun w3 hk => ⟨cell_kept hk hS2.1 (new_off h (Nat.le_refl _)), cell_kept hk hS2.2.1 (new_off h (Nat.le_succ _)), cell_kept hk hS2.2.2 (new_off h (Nat.le_succ _))⟩
  have HSz := hide (gSize_at ((h.then HG.out).then (grown_drew w2 none)) ((hr.grown HG.out).grown (grown_drew w2 none)))
  have HRd : Hid (∀ w3 : World, w2.grownBy w3 none → Calls Tryz.prog 115 #[.pointer (some ⟨r, 0, none⟩), .int .i64 (size : Int), .int .i64 (m : Int)] w3 fun e w' => ∃ v c, e = .returned (.tuple #[v, .int .i64 c]) ∧ ReadP w0 w3 w' n size b s k D W m (pcn size size m) xs v c) := by
    intro w3 hg
    have q := gRead_at ((h.then HG.out).then hg) ((hr.grown HG.out).grown hg) hFC size m hfit hcnt
    rw [hxs] at q
    exact q
  have HF := hide (And.intro hT (And.intro hB (And.intro hm hm2)))
  have HW := hide (And.intro hw1 hw2)
  have HS2 := hide hS2
  clear hw2 hw1 hS2
  clear hT hB hm hxs h hr g1 g2 b1 b2 b1' hz1
  obtain ⟨ok, hok⟩ : ∃ ok : Int → Bool, ok = fun c => decide (c = 0 ∧ sumN xs = hd.s) := ⟨_, rfl⟩
  suffices hs : Calls Tryz.prog 75 #[.agg #[.pointer (some ⟨r, 0, none⟩)], .agg #[.int .u64 hd.g, .int .u64 hd.c, .int .i64 hd.n, .int .u32 hd.s]] w fun e w' => ∃ v c, e = .returned (.tuple #[v, .bool (ok c), .int .i64 c]) ∧ ReadP w0 w w' n size b s k D W m (pcn size size m) xs v c by
    rw [hok] at hs
    exact hs
  have HOK := hide hok
  clear hok
  go_enter Tryz.func75, Tryz.ntmps75
  go_wp2_with fail
  rw [HW.out.1, HW.out.2]
  clear HW
  generalize w.heap.size = X at *
  obtain ⟨c0, c1, c2⟩ := HS2.out
  go_region_held3 (fun w3 => w3.cell? ⟨X, 0, none⟩ = some (.pointer (some ⟨r, 0, none⟩)) ∧ w3.cell? ⟨X + 1, 2, none⟩ = some (.int .i64 (m : Int)) ∧ w3.cell? ⟨X + 1, 3, none⟩ = some (.int .u32 hd.s)) (first | assumption | exact HK.out _ (Kept.new (grown_drew _ none) _) | exact HS2.out) ((first | (go_at_call 94; refine HSz.out.mono ?_; rintro e3 w3 ⟨rfl, hw3⟩; obtain rfl := hw3.symm; have hk3 := HK.out _ (Kept.new (grown_drew w2 none) _)) | (go_at_call 115; refine (HRd.out _ (grown_drew w2 none)).mono ?_; rintro e4 w4 ⟨v4, c4, rfl, p4⟩; have hk4 := HK.out _ ((Kept.new (grown_drew w2 none) _).trans p4.kept (fun i _ e => e)); have HX4 : Hid (True ∧ Fm.Cr.Tab w4 ∧ w4.cell? ⟨X + 1, 3, none⟩ = some (.int .u32 hd.s)) := ⟨trivial, HF.out.1.grown p4.dev.disk.grown, hk4.2.2⟩; have P4 := hide (ReadP.pre (grown_trans HG.out (grown_drew w2 none)) p4); clear p4)))
  clear HK HSz HRd hk4 hk3 c0 c1 c2
  by_cases hc : c4 = 0
  · subst hc
    obtain ⟨gv, hv, hgv, hbv, hlv⟩ := P4.out.ok rfl
    subst hv
    have hk5 := HX4.out.2.2
    have HSu := hide (fun q => Fm.Cr.sum_any (some ⟨gv, 0, none⟩) m m xs (w4.drewN q) hlv HF.out.2.1 (at_row (w := w4.drewN q) hbv) (HX4.out.2.1.grown (grown_drewN w4 q none)) (by have := HF.out.2.2.2; omega))
    have hso : ok 0 = decide (sumN xs = hd.s) := by rw [HOK.out]; simp
    have HSO := hide hso
    clear hso hbv hlv hgv
    rw [show ((Fm.Cr.Poly.more 0 xs : Nat) : Int) = sumN xs from rfl] at HSu
    generalize sumN xs = sv at *
    by_cases hs : sv = hd.s
    · have hd1 : (sv == hd.s) = true := by simpa using hs
      have ho1 : ok 0 = true := by rw [HSO.out]; exact decide_eq_true hs
      go_wp2_with fail
      go_quiet ((go_at_call 60; exact Calls.quiet_of_same (HSu.out _)))
      go_wp2
      go_ret3
      refine ⟨.slice (some ⟨gv, 0, none⟩) m m, 0, ?_, P4.out.then (grown_drewN w4 nq none)⟩
      rw [ho1]
      rfl
    · have hd1 : (sv == hd.s) = false := by simpa using hs
      have ho1 : ok 0 = false := by rw [HSO.out]; exact decide_eq_false hs
      go_wp2_with fail
      go_quiet ((go_at_call 60; exact Calls.quiet_of_same (HSu.out _)))
      go_wp2
      go_ret3
      refine ⟨.slice (some ⟨gv, 0, none⟩) m m, 0, ?_, P4.out.then (grown_drewN w4 nq none)⟩
      rw [ho1]
      rfl
  · have hne : (c4 != 0) = true := by simpa using hc
    have ho1 : ok c4 = false := by rw [HOK.out]; exact decide_eq_false (fun e => hc e.1)
    have hv := P4.out.no hc
    subst hv
    go_wp2
    go_ret3
    refine ⟨.slice none 0 0, c4, ?_, P4.out⟩
    rw [ho1]
    rfl
end
end Go.Proofs.YtonokaelbpfjnaaGreatDoor
/- Bytes written and made durable. -/
namespace Go.Proofs.YtonokaelbpfjnaaGreatDoor
open Go.RowKit Ap
attribute [local go_sem ↓] Go.wp_at_zero Go.wp_at_succ
/-- What a write of bytes and a sync come to. -/
def stA (size F a : Nat) (xs : List Nat) (s : Dv) (D : List Nat) (A : List Pr) : Int × Dv × List Nat × List Pr :=
  let q := wgo (full size a xs.length) (pcn size a xs.length) 0 s
  let A1 := A ++ pcs size F a (splice (now size D A) (F * size + a) xs) q.1
  if q.2.1 = 0 then (if q.2.2.goes then (0, q.2.2.next, syncA size (D, A1)) else (60, q.2.2.next, D, A1)) else (q.2.1, q.2.2, D, A1)
/-- .. in memory. -/
structure StP (w0 w w' : World) (n size b : Nat) (k : Dk) (W : List Wt) (o : Int × Dv × List Nat × List Pr) (k' : Dk) (W' : List Wt) : Prop where
  dev : Dev w0 w' n size b o.2.1 k' o.2.2.1 W'
  abs : abs W' = o.2.2.2
  mov : DvM w w' b k k' W W'
section
variable {w0 w w' w2 : World} {n size b r F C : Nat} {s s' : Dv} {k k' : Dk} {D D' : List Nat} {W W' : List Wt}
theorem RgAt.dv (hr : RgAt w r b F C) (h : Dev w0 w n size b s k D W) (m : DvM w w' b k k' W W') : RgAt w' r b F C := by
  have h1 := h.far hr.head (by decide) (by decide) (by decide) (by decide)
  exact ⟨m.other hr.head h1.1 h1.2⟩
theorem wgo_cnt (f : Nat → Bool) : ∀ (M j : Nat) (s : Dv), (wgo f M j s).2.2.cnt ≤ s.cnt + 2 * M
  | 0, j, s => by simp [wgo]
  | M + 1, j, s => by
    rw [wgo_step]
    have h1 := s.next_le
    have h2 := s.next.next_le
    have h3 := wgo_cnt f M (j + 1) s.next
    have h4 := wgo_cnt f M (j + 1) s.next.next
    split
    · split
      · simp only; omega
      · split
        · simp only; omega
        · simp only; omega
    · simp only; omega
set_option maxRecDepth 20000 in
set_option maxHeartbeats 8000000 in
theorem settle_at (h : Dev w0 w n size b s k D W) (hr : RgAt w r b F C) (hFC : F + C ≤ n) (at_ cap m : Nat) (ao : Option Addr) (xs : List Nat) (hm : xs.length = m) (hat : At w ao xs) (hcap : m ≤ cap) (hfit : at_ + m ≤ C * size) (hoff : ∀ a, ao = some a → 0 < m → ¬ k.own a.block ∧ a.block ≠ b)
    (hW : W.length + pcn size at_ m ≤ 900000) (hcnt : s.cnt + 2 * pcn size at_ m < 90000) :
    Calls Tryz.prog 120 #[.agg #[rp r], .int .i64 (at_ : Int), .slice ao m cap] w fun e w' => e = .returned (.int .i64 (stA size F at_ xs s D (abs W)).1) ∧ ∃ k' W', StP w0 w w' n size b k W (stA size F at_ xs s D (abs W)) k' W' := by
  unfold rp
  subst hm
  have g1 := World.grownBy_alloc w (.cells #[.pointer (some ⟨r, 0, none⟩)] 120) none
  have b1 : (w.alloc (.cells #[.pointer (some ⟨r, 0, none⟩)] 120)).heap[w.heap.size]? = some (.cells [Value.pointer (some ⟨r, 0, none⟩)].toArray 120 (0, 0)) := heap_alloc_new w _
  have hwc := wgo_cnt (full size at_ xs.length) (pcn size at_ xs.length) 0 s
  generalize hw1 : w.alloc (.cells #[.pointer (some ⟨r, 0, none⟩)] 120) = w1 at *
  have HWr : Hid (Calls Tryz.prog 143 #[.pointer (some ⟨r, 0, none⟩), .int .i64 (at_ : Int), .slice ao xs.length cap] w1 fun e w' => ∃ c, e = .returned (.int .i64 c) ∧ c = (wgo (full size at_ xs.length) (pcn size at_ xs.length) 0 s).2.1 ∧ WriteP w0 w1 w' n size b s k D W F at_ xs c ∧ w'.cell? ⟨w.heap.size, 0, none⟩ = some (.pointer (some ⟨r, 0, none⟩))) := by
    refine (gWrite_at (h.then g1) (hr.grown g1) hFC at_ cap ao xs (hat.grown g1) hcap hfit hoff hW (by omega)).mono ?_
    rintro e w' ⟨c, rfl, p⟩
    refine ⟨c, rfl, p.code, p, ?_⟩
    obtain ⟨k2, W2, h2, h3, h4⟩ := p.left
    exact cell_kept h3.kept (cell_row b1 0) (new_off h (Nat.le_refl _))
  have HSy : Hid (∀ (w2 : World) (c : Int), WriteP w0 w1 w2 n size b s k D W F at_ xs c → c = 0 → Calls Tryz.prog 144 #[.pointer (some ⟨r, 0, none⟩)] w2 fun e w' => e = .returned (.int .i64 (stA size F at_ xs s D (abs W)).1) ∧ ∃ k' W', StP w0 w w' n size b k W (stA size F at_ xs s D (abs W)) k' W') := by
    intro w2 c p hc
    obtain ⟨k2, W2, h2, h3, h4⟩ := p.left
    have hq := p.code
    rw [hc] at hq
    unfold stA
    simp only
    rw [if_pos hq.symm]
    have hr2 := (hr.grown g1).dv (h.then g1) h3
    generalize hQ : wgo (full size at_ xs.length) (pcn size at_ xs.length) 0 s = Q at *
    refine (gSync_at h2 hr2 (by omega)).mono ?_
    rintro e w' ⟨rfl, k3, D3, W3, h6, h7, h8, h9⟩
    by_cases hgo : Q.2.2.goes = true
    · rw [if_pos hgo]
      rw [if_pos hgo, h4] at h8
      obtain ⟨e1, e2⟩ := Prod.mk.inj h8
      refine ⟨by rw [Dv.code_ok hgo], k3, W3, ?_, e2, ?_⟩
      · show Dev w0 w' n size b Q.2.2.next k3 _ W3
        rw [e1] at h6
        exact h6
      · exact (DvM.pre g1 h3).trans h7 (row_lt h.dev.head)
    · rw [if_neg hgo]
      rw [if_neg hgo] at h8
      obtain ⟨e1, e2⟩ := Prod.mk.inj h8
      refine ⟨by rw [Dv.code_no (by simpa using hgo)], k3, W3, ?_, by rw [e2, h4], ?_⟩
      · show Dev w0 w' n size b Q.2.2.next k3 _ W3
        rw [e1] at h6
        exact h6
      · exact (DvM.pre g1 h3).trans h7 (row_lt h.dev.head)
  have HNo : Hid (∀ (w2 : World) (c : Int), WriteP w0 w1 w2 n size b s k D W F at_ xs c → c ≠ 0 → c = (stA size F at_ xs s D (abs W)).1 ∧ ∃ k' W', StP w0 w w2 n size b k W (stA size F at_ xs s D (abs W)) k' W') := by
    intro w2 c p hc
    obtain ⟨k2, W2, h2, h3, h4⟩ := p.left
    have hq := p.code
    unfold stA
    simp only
    rw [if_neg (by rw [← hq]; exact hc)]
    exact ⟨hq, k2, W2, h2, h4, DvM.pre g1 h3⟩
  have c0 : w1.cell? ⟨w.heap.size, 0, none⟩ = some (.pointer (some ⟨r, 0, none⟩)) := cell_row b1 0
  rw [← hw1] at c0
  have HW1 := hide hw1
  clear hw1 b1 g1 h hr hat hoff
  generalize stA size F at_ xs s D (abs W) = R at *
  go_enter Tryz.func120, Tryz.ntmps120
  go_wp2_with fail
  rw [HW1.out]
  refine HWr.out.mono ?_
  clear HWr c0
  rintro e w3 ⟨c, rfl, hcq, p3, c0⟩
  have P3 := hide p3
  clear p3 HW1 hcq
  by_cases hc : c = 0
  · subst hc
    have hsy := HSy.out _ 0 P3.out rfl
    go_wp2_with fail
    refine hsy.mono ?_
    rintro e w4 ⟨rfl, hx⟩
    go_wp2
    go_ret
    exact ⟨rfl, hx⟩
  · have hne : (c != 0) = true := by simpa using hc
    have hno := hide (HNo.out _ c P3.out hc)
    go_wp2
    go_ret
    exact ⟨by rw [← hno.out.1]; rfl, hno.out.2⟩
end
end Go.Proofs.YtonokaelbpfjnaaGreatDoor
