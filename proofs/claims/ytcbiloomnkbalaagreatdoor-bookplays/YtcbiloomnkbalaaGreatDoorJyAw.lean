/- Texts joined: Vb. -/
import Derived.Test.YtcbiloomnkbalaaGreatDoorJyAr
import Derived.Deep.CutRange
import Derived.Deep.DeepCutAuto
/- Bookings that are lent: KeptBookings, OverBookings. -/
namespace Go.Proofs.YtcbiloomnkbalaaGreatDoor
open Go.RowKit Go.Shelf
attribute [local go_sem ↓] Go.wp_at_zero Go.wp_at_succ
attribute [local go_sem] Oper.semAt_some
theorem eqB_op {a : Act} {o : Oper} {x y : Operand} {p q r : Int} (ho : o.op = .binOp .eql 78 x y 78) (hx : a.eval x = .agg #[.int .u32 p, .int .i64 q, .int .i64 r]) (hy : a.eval y = .agg #[.int .u32 p, .int .i64 q, .int .i64 r]) (w : World) : (execOp a.eval o).run Tryz.prog w = .ok (.value (.bool true)) w := by
  unfold execOp
  simp only [ho, hx, hy]
  go_simp
theorem geqF_op {a : Act} {o : Oper} {x y : Operand} {t : TypeId} {k : IntKind} {p q : Int} (ho : o.op = .binOp .geq t x y t) (hx : a.eval x = .int k p) (hy : a.eval y = .int k q) (h : p < q) (w : World) : (execOp a.eval o).run Tryz.prog w = .ok (.value (.bool false)) w := by
  have hd : decide (p ≥ q) = false := by rw [decide_eq_false_iff_not]; omega
  unfold execOp
  simp only [ho, hx, hy]
  go_simp
theorem geqT_op {a : Act} {o : Oper} {x y : Operand} {t : TypeId} {k : IntKind} {p q : Int} (ho : o.op = .binOp .geq t x y t) (hx : a.eval x = .int k p) (hy : a.eval y = .int k q) (h : q ≤ p) (w : World) : (execOp a.eval o).run Tryz.prog w = .ok (.value (.bool true)) w := by
  have hd : decide (p ≥ q) = true := by rw [decide_eq_true_iff]; omega
  unfold execOp
  simp only [ho, hx, hy]
  go_simp
theorem lssF_op {a : Act} {o : Oper} {x y : Operand} {t : TypeId} {k : IntKind} {p q : Int} (ho : o.op = .binOp .lss t x y t) (hx : a.eval x = .int k p) (hy : a.eval y = .int k q) (h : q ≤ p) (w : World) : (execOp a.eval o).run Tryz.prog w = .ok (.value (.bool false)) w := by
  have hd : decide (p < q) = false := by rw [decide_eq_false_iff_not]; omega
  unfold execOp
  simp only [ho, hx, hy]
  go_simp
theorem bws_own {w : World} {B0 : Nat} {so : Option Addr} {cap : Nat} {l : List Bw} (h : w.ownsRow B0 78 3 (.slice so l.length cap) l.length (bwcs l)) : BwsAt w so l := by
  intro j r hj
  have hl := (List.getElem?_eq_some_iff.1 hj).1
  obtain ⟨ao, cap', e, hx⟩ := (BwA.own h).ex
  cases e
  obtain ⟨g, e2, h1, h2, h3⟩ := hx j hl
  have hr : rdw l j = r := by unfold rdw; rw [hj]; rfl
  rw [hr] at h1 h2 h3
  exact ⟨g, 0, e2, by rw [Nat.zero_add]; exact h1, by rw [Nat.zero_add]; exact h2, by rw [Nat.zero_add]; exact h3⟩
theorem LentB.all {w : World} {B g cap : Nat} {rs : List Bw} (h : LentB w B g cap rs) : BwsAt w (some ⟨g, 0, none⟩) (rs ++ mks 1 12) := by
  have h1 := h.own
  have e : (rs ++ mks 1 12).length = rs.length + 12 := by rw [List.length_append, mks_length]
  rw [← e] at h1
  exact bws_own h1
theorem LentB.cap {w : World} {B g cap : Nat} {rs : List Bw} (h : LentB w B g cap rs) : rs.length + 12 ≤ cap := by
  obtain ⟨vo, cc, e, hh⟩ := Ix.own_form h.own
  cases e
  exact hh
theorem LentB.first {w : World} {B g cap : Nat} {rs : List Bw} (h : LentB w B g cap rs) : BwsAt w (some ⟨g, 0, none⟩) rs := fun j r hj => h.all j r (by rw [List.getElem?_append_left (List.getElem?_eq_some_iff.1 hj).1]; exact hj)
theorem LentB.then {w w' : World} {B g cap : Nat} {rs : List Bw} (h : LentB w B g cap rs) (hg : w.grownBy w' none) : LentB w' B g cap rs := ⟨own_keep h.own hg⟩
set_option maxRecDepth 100000 in
set_option maxHeartbeats 16000000 in
theorem keptB_any {w : World} {B g cap : Nat} {rs : List Bw} (h : LentB w B g cap rs) {bo : Option Addr} {d n : Nat} (hn : rs.length = n) (hb : BwsAt w bo rs) (hl : n ≤ 10000) : Calls Tryz.prog 13 #[.slice (some ⟨g, 0, none⟩) n cap, .slice bo n d] w fun e w' => e = .returned (.bool true) ∧ w.grownBy w' none := by
  have hcap := h.cap
  have hst := slice_toB (some ⟨g, 0, none⟩) n cap (n + 12) (by omega)
  have hst2 : ∀ w', (Instr.slice 25 (.slice (some ⟨g, 0, none⟩) n cap) none (some (.int .i64 ((n : Int) + 12))) none).run Tryz.prog w' = .ok (.slice (some ⟨g, 0, none⟩) (n + 12) cap) w' := hst
  have W1 : IntKind.i64.wrap ((n : Int) + 12) = (n : Int) + 12 := by rw [IntKind.wrap_i64]; omega
  have HX := hide (And.intro h.all (And.intro hb (And.intro hn hl)))
  clear h hb hst hcap hn hl
  go_enter Tryz.func13, Tryz.ntmps13
  go_wp2
  obtain ⟨N12, hN⟩ : ∃ m, m = n + 12 := ⟨_, rfl⟩
  rw [← hN]
  have HN := hide hN
  clear hN hst2 W1
  go_loopg [6] N12 (fun k i wr => ∃ j : Nat, k + j = N12 ∧ i = .int .i64 j ∧ w.grownBy wr none)
  case atStart => exact ⟨0, by omega, rfl, grown_refl _ _⟩
  case round =>
    obtain ⟨j, hkj, rfl, hg⟩ := hrel
    by_cases hk : 0 < gk
    · have HGK := hide (And.intro hk (And.intro hkj hg))
      have h1 : (0 : Int) ≤ (j : Int) := by omega
      have h2 : (j : Int) < (N12 : Int) := by omega
      have hjb : j < 65536 := by have := HN.out; have := HX.out.2.2.2; omega
      by_cases hj : j < n
      · obtain ⟨r, hr⟩ : ∃ r, rs[j]? = some r := ⟨rs[j]'(by have := HX.out.2.2.1; omega), List.getElem?_eq_getElem _⟩
        obtain ⟨b1, o1, e1, a0, a1, a2⟩ := (HX.out.1.grown (grown_trans hg (grown_drew wr none))) j r (by rw [List.getElem?_append_left (List.getElem?_eq_some_iff.1 hr).1]; exact hr)
        cases e1
        obtain ⟨bb, off, e1, d0, d1, d2⟩ := (HX.out.2.1.grown (grown_trans hg (grown_drew wr none))) j r hr
        subst e1
        rw [Nat.zero_add] at a0 a1 a2
        obtain ⟨ri, rs0, ru⟩ := r
        dsimp only at *
        have hK0 := And.intro a0 (And.intro a1 (And.intro a2 (And.intro d0 (And.intro d1 d2))))
        have h3 : (j : Int) < (n : Int) := by omega
        clear hr a0 a1 a2 d0 d1 d2 hk hkj hg
        go_wp2
        refine wp_region_noPanic ?_
        refine wp_region_held_drew (S := (fun W => W.cell? ⟨g, j * 3, none⟩ = some (.int .u32 (ri : Int)) ∧ W.cell? ⟨g, j * 3 + 1, none⟩ = some (.int .i64 rs0) ∧ W.cell? ⟨g, j * 3 + 2, none⟩ = some (.int .i64 ru) ∧ W.cell? ⟨bb, off + j * 3, none⟩ = some (.int .u32 (ri : Int)) ∧ W.cell? ⟨bb, off + j * 3 + 1, none⟩ = some (.int .i64 rs0) ∧ W.cell? ⟨bb, off + j * 3 + 2, none⟩ = some (.int .i64 ru))) (by kernel_rfl) ?_ (fun hHeld => ?_)
        · (exact hK0)
        refine tkQ 0 (oi := ⟨some 23, .move (.tmp 6), 3, "lent.go:432", #[], none⟩) rfl ?_
        try simp only [Act.put, pA, pB, pC]
        refine tkQ 1 (oi := ⟨some 24, .move (.tmp 1), 25, "lent.go:432", #[], none⟩) rfl ?_
        try simp only [Act.put, pA, pB, pC]
        refine tkQ 2 (oi := ⟨some 25, .call { callee := .builtin .len, args := #[.tmp 24], argTypes := #[25] }, 3, "lent.go:432", #[⟨1, .data⟩], none⟩) rfl ?_
        try simp only [Act.put, pA, pB, pC]
        refine tkQ 3 (oi := ⟨some 26, .binOp .lss 3 (.tmp 23) (.tmp 25) 3, 4, "lent.go:432", #[⟨0, .data⟩, ⟨2, .data⟩], none⟩) rfl ?_
        try simp only [Act.put, pA, pB, pC]
        refine tkQ 4 (oi := ⟨some 27, .move (.tmp 26), 4, "lent.go:432", #[⟨3, .data⟩], none⟩) rfl ?_
        try simp only [Act.put, pA, pB, pC]
        refine tkQ 5 (oi := ⟨some 28, .move (.tmp 5), 25, "lent.go:432", #[⟨4, .guard⟩], some (4, true)⟩) rfl ?_
        try simp only [Act.put, pA, pB, pC]
        refine tkQ 6 (oi := ⟨some 29, .move (.tmp 6), 3, "lent.go:432", #[⟨4, .guard⟩], some (4, true)⟩) rfl ?_
        try simp only [Act.put, pA, pB, pC]
        refine tkQ 7 (oi := ⟨some 30, .indexAddr 25 (.tmp 28) (.tmp 29), 0, "lent.go:432", #[⟨5, .data⟩, ⟨6, .data⟩, ⟨4, .guard⟩], some (4, true)⟩) rfl ?_
        try simp only [Act.put, pA, pB, pC]
        refine tkQ 8 (oi := ⟨some 31, .load 78 (.tmp 30), 78, "lent.go:432", #[⟨7, .data⟩, ⟨4, .guard⟩], some (4, true)⟩) rfl ?_
        try simp only [Act.put, pA, pB, pC]
        refine tkQ 9 (oi := ⟨some 32, .move (.tmp 1), 25, "lent.go:432", #[⟨4, .guard⟩], some (4, true)⟩) rfl ?_
        try simp only [Act.put, pA, pB, pC]
        refine tkQ 10 (oi := ⟨some 33, .move (.tmp 6), 3, "lent.go:432", #[⟨4, .guard⟩], some (4, true)⟩) rfl ?_
        try simp only [Act.put, pA, pB, pC]
        refine tkQ 11 (oi := ⟨some 34, .indexAddr 25 (.tmp 32) (.tmp 33), 0, "lent.go:432", #[⟨9, .data⟩, ⟨10, .data⟩, ⟨4, .guard⟩], some (4, true)⟩) rfl ?_
        try simp only [Act.put, pA, pB, pC]
        refine tkQ 12 (oi := ⟨some 35, .load 78 (.tmp 34), 78, "lent.go:432", #[⟨11, .data⟩, ⟨4, .guard⟩], some (4, true)⟩) rfl ?_
        try simp only [Act.put, pA, pB, pC]
        refine tkH (i := 13) (oi := ⟨some 36, .binOp .eql 78 (.tmp 31) (.tmp 35) 78, 4, "lent.go:432", #[⟨8, .data⟩, ⟨12, .data⟩, ⟨4, .guard⟩], some (4, true)⟩) (v := ?_) rfl ?_ ?_
        rotate_left
        · (intro w hSw; refine eqB_op (x := .tmp 31) (y := .tmp 35) (p := (ri : Int)) (q := rs0) (r := ru) ?_ ?_ ?_ w <;> rfl)
        try simp only [Act.put, pA, pB, pC]
        refine tkQ 14 (oi := ⟨some 37, .unOp .not 4 (.tmp 36), 4, "lent.go:432", #[⟨13, .data⟩, ⟨4, .guard⟩], some (4, true)⟩) rfl ?_
        try simp only [Act.put, pA, pB, pC]
        refine tkQ 15 (oi := ⟨some 38, .pick (.tmp 27) (.tmp 37) (.const (.bool false)), 4, "lent.go:432", #[⟨4, .data⟩, ⟨14, .data⟩], none⟩) rfl ?_
        try simp only [Act.put, pA, pB, pC]
        refine tkQ 16 (oi := ⟨some 39, .move (.tmp 38), 4, "lent.go:432", #[⟨15, .data⟩, ⟨4, .chain⟩], none⟩) rfl ?_
        try simp only [Act.put, pA, pB, pC]
        refine tkQ 17 (oi := ⟨some 40, .move (.tmp 6), 3, "lent.go:432", #[⟨16, .guard⟩], some (16, false)⟩) rfl ?_
        try simp only [Act.put, pA, pB, pC]
        refine tkQ 18 (oi := ⟨some 41, .move (.tmp 1), 25, "lent.go:432", #[⟨16, .guard⟩], some (16, false)⟩) rfl ?_
        try simp only [Act.put, pA, pB, pC]
        refine tkQ 19 (oi := ⟨some 42, .call { callee := .builtin .len, args := #[.tmp 41], argTypes := #[25] }, 3, "lent.go:432", #[⟨18, .data⟩, ⟨16, .guard⟩], some (16, false)⟩) rfl ?_
        try simp only [Act.put, pA, pB, pC]
        refine tkH (i := 20) (oi := ⟨some 43, .binOp .geq 3 (.tmp 40) (.tmp 42) 3, 4, "lent.go:432", #[⟨17, .data⟩, ⟨19, .data⟩, ⟨16, .guard⟩], some (16, false)⟩) (v := ?_) rfl ?_ ?_
        rotate_left
        · (intro w hSw; refine geqF_op (t := 3) (k := .i64) (x := .tmp 40) (y := .tmp 42) (p := (j : Int)) (q := (n : Int)) ?_ ?_ ?_ h3 w <;> rfl)
        try simp only [Act.put, pA, pB, pC]
        refine tkQ 21 (oi := ⟨some 44, .move (.tmp 43), 4, "lent.go:432", #[⟨20, .data⟩, ⟨16, .chain⟩, ⟨16, .guard⟩], some (16, false)⟩) rfl ?_
        try simp only [Act.put, pA, pB, pC]
        refine skH 22 (oi := ⟨some 45, .move (.tmp 5), 25, "lent.go:432", #[⟨21, .guard⟩], some (21, true)⟩) rfl ?_
        try simp only [Act.put, pA, pB, pC]
        refine skH 23 (oi := ⟨some 46, .move (.tmp 6), 3, "lent.go:432", #[⟨21, .guard⟩], some (21, true)⟩) rfl ?_
        try simp only [Act.put, pA, pB, pC]
        refine skH 24 (oi := ⟨some 47, .indexAddr 25 (.tmp 45) (.tmp 46), 0, "lent.go:432", #[⟨22, .data⟩, ⟨23, .data⟩, ⟨21, .guard⟩], some (21, true)⟩) rfl ?_
        try simp only [Act.put, pA, pB, pC]
        refine skH 25 (oi := ⟨some 48, .load 78 (.tmp 47), 78, "lent.go:432", #[⟨24, .data⟩, ⟨21, .guard⟩], some (21, true)⟩) rfl ?_
        try simp only [Act.put, pA, pB, pC]
        refine skH 26 (oi := ⟨some 49, .move (.tmp 6), 3, "lent.go:432", #[⟨21, .guard⟩], some (21, true)⟩) rfl ?_
        try simp only [Act.put, pA, pB, pC]
        refine skH 27 (oi := ⟨some 50, .move (.tmp 1), 25, "lent.go:432", #[⟨21, .guard⟩], some (21, true)⟩) rfl ?_
        try simp only [Act.put, pA, pB, pC]
        refine skH 28 (oi := ⟨some 51, .call { callee := .builtin .len, args := #[.tmp 50], argTypes := #[25] }, 3, "lent.go:432", #[⟨27, .data⟩, ⟨21, .guard⟩], some (21, true)⟩) rfl ?_
        try simp only [Act.put, pA, pB, pC]
        refine skH 29 (oi := ⟨some 52, .binOp .sub 3 (.tmp 49) (.tmp 51) 3, 3, "lent.go:432", #[⟨26, .data⟩, ⟨28, .data⟩, ⟨21, .guard⟩], some (21, true)⟩) rfl ?_
        try simp only [Act.put, pA, pB, pC]
        refine skH 30 (oi := ⟨some 53, .call { callee := .value (.func 38), args := #[.const (.int .i64 1), .tmp 52], argTypes := #[3, 3] }, 78, "lent.go:432", #[⟨29, .data⟩, ⟨21, .chain⟩, ⟨21, .guard⟩], some (21, true)⟩) rfl ?_
        try simp only [Act.put, pA, pB, pC]
        refine skH 31 (oi := ⟨some 54, .binOp .eql 78 (.tmp 48) (.tmp 53) 78, 4, "lent.go:432", #[⟨25, .data⟩, ⟨30, .data⟩, ⟨21, .guard⟩], some (21, true)⟩) rfl ?_
        try simp only [Act.put, pA, pB, pC]
        refine skH 32 (oi := ⟨some 55, .unOp .not 4 (.tmp 54), 4, "lent.go:432", #[⟨31, .data⟩, ⟨21, .guard⟩], some (21, true)⟩) rfl ?_
        try simp only [Act.put, pA, pB, pC]
        refine tkQ 33 (oi := ⟨some 56, .pick (.tmp 44) (.tmp 55) (.const (.bool false)), 4, "lent.go:432", #[⟨21, .data⟩, ⟨32, .data⟩, ⟨16, .guard⟩], some (16, false)⟩) rfl ?_
        try simp only [Act.put, pA, pB, pC]
        refine tkQ 34 (oi := ⟨some 57, .pick (.tmp 39) (.const (.bool true)) (.tmp 56), 4, "lent.go:432", #[⟨16, .data⟩, ⟨33, .data⟩], none⟩) rfl ?_
        try simp only [Act.put, pA, pB, pC]
        refine wpAnyH_done (by kernel_rfl) ?_ _
        refine NoPanic.normal ?_
        go_wp2
        go_roundg (gk - 1)
        case measure => have := HGK.out; omega
        case rel => exact ⟨j + 1, by have := HGK.out; omega, by go_num, grown_trans HGK.out.2.2 (grown_drew _ _)⟩
      · obtain ⟨t, ht⟩ : ∃ t, j = n + t := ⟨j - n, by omega⟩
        have htl : t < 12 := by have := HN.out; omega
        obtain ⟨b1, o1, e1, a0, a1, a2⟩ := (HX.out.1.grown (grown_trans hg (grown_drew wr none))) j (mkB 1 t) (by rw [List.getElem?_append_right (by have := HX.out.2.2.1; omega), show j - rs.length = t by have := HX.out.2.2.1; omega]; exact mks_get 1 12 t htl)
        cases e1
        rw [Nat.zero_add] at a0 a1 a2
        have HQ : Hid (∀ W, wr.grownBy W none → Calls Tryz.prog 38 #[.int .i64 1, .int .i64 (t : Int)] W fun e w' => e = .returned (.agg #[.int .u32 0, .int .i64 0, .int .i64 (mkI 1 t)]) ∧ W.grownBy w' none) := fun W _ => mk38_any 1 t (t : Int) rfl W (by decide) (by decide) (by omega)
        have hK0 : wr.drew.cell? ⟨g, j * 3, none⟩ = some (.int .u32 0) ∧ wr.drew.cell? ⟨g, j * 3 + 1, none⟩ = some (.int .i64 0) ∧ wr.drew.cell? ⟨g, j * 3 + 2, none⟩ = some (.int .i64 (mkI 1 t)) := ⟨a0, a1, a2⟩
        have HK : Hid (∀ W, wr.grownBy W none → W.cell? ⟨g, j * 3, none⟩ = some (.int .u32 0) ∧ W.cell? ⟨g, j * 3 + 1, none⟩ = some (.int .i64 0) ∧ W.cell? ⟨g, j * 3 + 2, none⟩ = some (.int .i64 (mkI 1 t))) := fun W hW => ⟨hW.cell a0 (by simp), hW.cell a1 (by simp), hW.cell a2 (by simp)⟩
        have h3 : (n : Int) ≤ (j : Int) := by omega
        have W2 : IntKind.i64.wrap ((j : Int) - (n : Int)) = (t : Int) := by rw [IntKind.wrap_i64]; omega
        generalize mkI 1 t = M at *
        clear a0 a1 a2 hk hkj hg ht htl hj
        go_wp2
        refine wp_region_noPanic ?_
        refine wp_region_held_drew (S := (fun W => W.cell? ⟨g, j * 3, none⟩ = some (.int .u32 0) ∧ W.cell? ⟨g, j * 3 + 1, none⟩ = some (.int .i64 0) ∧ W.cell? ⟨g, j * 3 + 2, none⟩ = some (.int .i64 M))) (by kernel_rfl) ?_ (fun hHeld => ?_)
        · (exact hK0)
        refine tkQ 0 (oi := ⟨some 23, .move (.tmp 6), 3, "lent.go:432", #[], none⟩) rfl ?_
        try simp only [Act.put, pA, pB, pC]
        refine tkQ 1 (oi := ⟨some 24, .move (.tmp 1), 25, "lent.go:432", #[], none⟩) rfl ?_
        try simp only [Act.put, pA, pB, pC]
        refine tkQ 2 (oi := ⟨some 25, .call { callee := .builtin .len, args := #[.tmp 24], argTypes := #[25] }, 3, "lent.go:432", #[⟨1, .data⟩], none⟩) rfl ?_
        try simp only [Act.put, pA, pB, pC]
        refine tkH (i := 3) (oi := ⟨some 26, .binOp .lss 3 (.tmp 23) (.tmp 25) 3, 4, "lent.go:432", #[⟨0, .data⟩, ⟨2, .data⟩], none⟩) (v := ?_) rfl ?_ ?_
        rotate_left
        · (intro w hSw; refine lssF_op (t := 3) (k := .i64) (x := .tmp 23) (y := .tmp 25) (p := (j : Int)) (q := (n : Int)) ?_ ?_ ?_ h3 w <;> rfl)
        try simp only [Act.put, pA, pB, pC]
        refine tkQ 4 (oi := ⟨some 27, .move (.tmp 26), 4, "lent.go:432", #[⟨3, .data⟩], none⟩) rfl ?_
        try simp only [Act.put, pA, pB, pC]
        refine skH 5 (oi := ⟨some 28, .move (.tmp 5), 25, "lent.go:432", #[⟨4, .guard⟩], some (4, true)⟩) rfl ?_
        try simp only [Act.put, pA, pB, pC]
        refine skH 6 (oi := ⟨some 29, .move (.tmp 6), 3, "lent.go:432", #[⟨4, .guard⟩], some (4, true)⟩) rfl ?_
        try simp only [Act.put, pA, pB, pC]
        refine skH 7 (oi := ⟨some 30, .indexAddr 25 (.tmp 28) (.tmp 29), 0, "lent.go:432", #[⟨5, .data⟩, ⟨6, .data⟩, ⟨4, .guard⟩], some (4, true)⟩) rfl ?_
        try simp only [Act.put, pA, pB, pC]
        refine skH 8 (oi := ⟨some 31, .load 78 (.tmp 30), 78, "lent.go:432", #[⟨7, .data⟩, ⟨4, .guard⟩], some (4, true)⟩) rfl ?_
        try simp only [Act.put, pA, pB, pC]
        refine skH 9 (oi := ⟨some 32, .move (.tmp 1), 25, "lent.go:432", #[⟨4, .guard⟩], some (4, true)⟩) rfl ?_
        try simp only [Act.put, pA, pB, pC]
        refine skH 10 (oi := ⟨some 33, .move (.tmp 6), 3, "lent.go:432", #[⟨4, .guard⟩], some (4, true)⟩) rfl ?_
        try simp only [Act.put, pA, pB, pC]
        refine skH 11 (oi := ⟨some 34, .indexAddr 25 (.tmp 32) (.tmp 33), 0, "lent.go:432", #[⟨9, .data⟩, ⟨10, .data⟩, ⟨4, .guard⟩], some (4, true)⟩) rfl ?_
        try simp only [Act.put, pA, pB, pC]
        refine skH 12 (oi := ⟨some 35, .load 78 (.tmp 34), 78, "lent.go:432", #[⟨11, .data⟩, ⟨4, .guard⟩], some (4, true)⟩) rfl ?_
        try simp only [Act.put, pA, pB, pC]
        refine skH 13 (oi := ⟨some 36, .binOp .eql 78 (.tmp 31) (.tmp 35) 78, 4, "lent.go:432", #[⟨8, .data⟩, ⟨12, .data⟩, ⟨4, .guard⟩], some (4, true)⟩) rfl ?_
        try simp only [Act.put, pA, pB, pC]
        refine skH 14 (oi := ⟨some 37, .unOp .not 4 (.tmp 36), 4, "lent.go:432", #[⟨13, .data⟩, ⟨4, .guard⟩], some (4, true)⟩) rfl ?_
        try simp only [Act.put, pA, pB, pC]
        refine tkQ 15 (oi := ⟨some 38, .pick (.tmp 27) (.tmp 37) (.const (.bool false)), 4, "lent.go:432", #[⟨4, .data⟩, ⟨14, .data⟩], none⟩) rfl ?_
        try simp only [Act.put, pA, pB, pC]
        refine tkQ 16 (oi := ⟨some 39, .move (.tmp 38), 4, "lent.go:432", #[⟨15, .data⟩, ⟨4, .chain⟩], none⟩) rfl ?_
        try simp only [Act.put, pA, pB, pC]
        refine tkQ 17 (oi := ⟨some 40, .move (.tmp 6), 3, "lent.go:432", #[⟨16, .guard⟩], some (16, false)⟩) rfl ?_
        try simp only [Act.put, pA, pB, pC]
        refine tkQ 18 (oi := ⟨some 41, .move (.tmp 1), 25, "lent.go:432", #[⟨16, .guard⟩], some (16, false)⟩) rfl ?_
        try simp only [Act.put, pA, pB, pC]
        refine tkQ 19 (oi := ⟨some 42, .call { callee := .builtin .len, args := #[.tmp 41], argTypes := #[25] }, 3, "lent.go:432", #[⟨18, .data⟩, ⟨16, .guard⟩], some (16, false)⟩) rfl ?_
        try simp only [Act.put, pA, pB, pC]
        refine tkH (i := 20) (oi := ⟨some 43, .binOp .geq 3 (.tmp 40) (.tmp 42) 3, 4, "lent.go:432", #[⟨17, .data⟩, ⟨19, .data⟩, ⟨16, .guard⟩], some (16, false)⟩) (v := ?_) rfl ?_ ?_
        rotate_left
        · (intro w hSw; refine geqT_op (t := 3) (k := .i64) (x := .tmp 40) (y := .tmp 42) (p := (j : Int)) (q := (n : Int)) ?_ ?_ ?_ h3 w <;> rfl)
        try simp only [Act.put, pA, pB, pC]
        refine tkQ 21 (oi := ⟨some 44, .move (.tmp 43), 4, "lent.go:432", #[⟨20, .data⟩, ⟨16, .chain⟩, ⟨16, .guard⟩], some (16, false)⟩) rfl ?_
        try simp only [Act.put, pA, pB, pC]
        refine tkQ 22 (oi := ⟨some 45, .move (.tmp 5), 25, "lent.go:432", #[⟨21, .guard⟩], some (21, true)⟩) rfl ?_
        try simp only [Act.put, pA, pB, pC]
        refine tkQ 23 (oi := ⟨some 46, .move (.tmp 6), 3, "lent.go:432", #[⟨21, .guard⟩], some (21, true)⟩) rfl ?_
        try simp only [Act.put, pA, pB, pC]
        refine tkQ 24 (oi := ⟨some 47, .indexAddr 25 (.tmp 45) (.tmp 46), 0, "lent.go:432", #[⟨22, .data⟩, ⟨23, .data⟩, ⟨21, .guard⟩], some (21, true)⟩) rfl ?_
        try simp only [Act.put, pA, pB, pC]
        refine tkQ 25 (oi := ⟨some 48, .load 78 (.tmp 47), 78, "lent.go:432", #[⟨24, .data⟩, ⟨21, .guard⟩], some (21, true)⟩) rfl ?_
        try simp only [Act.put, pA, pB, pC]
        refine tkQ 26 (oi := ⟨some 49, .move (.tmp 6), 3, "lent.go:432", #[⟨21, .guard⟩], some (21, true)⟩) rfl ?_
        try simp only [Act.put, pA, pB, pC]
        refine tkQ 27 (oi := ⟨some 50, .move (.tmp 1), 25, "lent.go:432", #[⟨21, .guard⟩], some (21, true)⟩) rfl ?_
        try simp only [Act.put, pA, pB, pC]
        refine tkQ 28 (oi := ⟨some 51, .call { callee := .builtin .len, args := #[.tmp 50], argTypes := #[25] }, 3, "lent.go:432", #[⟨27, .data⟩, ⟨21, .guard⟩], some (21, true)⟩) rfl ?_
        try simp only [Act.put, pA, pB, pC]
        refine tkQ 29 (oi := ⟨some 52, .binOp .sub 3 (.tmp 49) (.tmp 51) 3, 3, "lent.go:432", #[⟨26, .data⟩, ⟨28, .data⟩, ⟨21, .guard⟩], some (21, true)⟩) rfl ?_
        try simp only [Act.put, pA, pB, pC]
        refine rdH (i := 30) rfl (fun K hK => ?_)
        go_simp
        refine (HQ.out _ (grown_drew wr none)).mono ?_
        rintro e w3 ⟨rfl, hg3⟩
        have HG3 := hide (grown_trans (grown_drew wr none) hg3)
        have hK3 := HK.out _ HG3.out
        clear hg3
        go_wp2_with fail
        refine hK.out _ _ ?_ (fun hHeld => ?_)
        · ((try dsimp only); first | with_reducible assumption | exact hK3 | exact hK0)
        clear hK K
        try simp only [Act.put, pA, pB, pC]
        refine tkH (i := 31) (oi := ⟨some 54, .binOp .eql 78 (.tmp 48) (.tmp 53) 78, 4, "lent.go:432", #[⟨25, .data⟩, ⟨30, .data⟩, ⟨21, .guard⟩], some (21, true)⟩) (v := ?_) rfl ?_ ?_
        rotate_left
        · (intro w hSw; refine eqB_op (x := .tmp 48) (y := .tmp 53) (p := 0) (q := 0) (r := M) ?_ ?_ ?_ w <;> rfl)
        try simp only [Act.put, pA, pB, pC]
        refine tkQ 32 (oi := ⟨some 55, .unOp .not 4 (.tmp 54), 4, "lent.go:432", #[⟨31, .data⟩, ⟨21, .guard⟩], some (21, true)⟩) rfl ?_
        try simp only [Act.put, pA, pB, pC]
        refine tkQ 33 (oi := ⟨some 56, .pick (.tmp 44) (.tmp 55) (.const (.bool false)), 4, "lent.go:432", #[⟨21, .data⟩, ⟨32, .data⟩, ⟨16, .guard⟩], some (16, false)⟩) rfl ?_
        try simp only [Act.put, pA, pB, pC]
        refine tkQ 34 (oi := ⟨some 57, .pick (.tmp 39) (.const (.bool true)) (.tmp 56), 4, "lent.go:432", #[⟨16, .data⟩, ⟨33, .data⟩], none⟩) rfl ?_
        try simp only [Act.put, pA, pB, pC]
        refine wpAnyH_done (by kernel_rfl) ?_ _
        refine NoPanic.normal ?_
        go_wp2
        go_roundg (gk - 1)
        case measure => have := HGK.out; omega
        case rel => exact ⟨j + 1, by have := HGK.out; omega, by go_num, grown_trans HGK.out.2.2 HG3.out⟩
    · obtain rfl : j = N12 := by omega
      have HG := hide hg
      clear hg hkj hk
      go_wp2
      go_ret
      exact ⟨rfl, HG.out⟩
theorem set3g {w : World} {g o : Nat} {t : TypeId} {cur : List Value} (h : w.heap[g]? = some (.cells cur.toArray t (0, 0))) (a b c : Value) :
    (∃ cur2 : List Value, (((w.setCell ⟨g, o, none⟩ a).setCell ⟨g, o + 1, none⟩ b).setCell ⟨g, o + 2, none⟩ c).heap[g]? = some (.cells cur2.toArray t (0, 0)) ∧ cur2.length = cur.length) ∧ w.grownBy (((w.setCell ⟨g, o, none⟩ a).setCell ⟨g, o + 1, none⟩ b).setCell ⟨g, o + 2, none⟩ c) (some g) :=
  ⟨⟨_, row_setCell (row_setCell (row_setCell h o a) (o + 1) b) (o + 2) c, by simp⟩, grown_trans (grown_trans (grown_setCell w g o a) (grown_setCell _ g (o + 1) b)) (grown_setCell _ g (o + 2) c)⟩
theorem cell_at {w : World} {g o : Nat} {t : TypeId} {cur : List Value} (h : w.heap[g]? = some (.cells cur.toArray t (0, 0))) (ho : o < cur.length) : ∃ v, w.cell? ⟨g, o, none⟩ = some v := ⟨cur[o], by rw [cell_row h, List.getElem?_eq_getElem ho]⟩
set_option maxRecDepth 20000 in
set_option maxHeartbeats 8000000 in
theorem overB_any {w : World} {B g cap : Nat} {rs : List Bw} (h : LentB w B g cap rs) {n : Nat} (hn : rs.length = n) (hl : n ≤ 10000) : Calls Tryz.prog 14 #[.slice (some ⟨g, 0, none⟩) n cap] w fun e w' => e = .returned (.tuple #[]) ∧ w.grownBy w' (some g) := by
  have hcap := h.cap
  have hst := slice_toB (some ⟨g, 0, none⟩) n cap (n + 12) (by omega)
  have hst2 : ∀ w', (Instr.slice 25 (.slice (some ⟨g, 0, none⟩) n cap) none (some (.int .i64 ((n : Int) + 12))) none).run Tryz.prog w' = .ok (.slice (some ⟨g, 0, none⟩) (n + 12) cap) w' := hst
  have W1 : IntKind.i64.wrap ((n : Int) + 12) = (n : Int) + 12 := by rw [IntKind.wrap_i64]; omega
  obtain ⟨g', c', cur, e, -, hcur, -, -, hcl, -⟩ := Ix.own_row h.own (by omega)
  cases e
  have HX := hide (And.intro hcur (And.intro hcl (And.intro hl hcap)))
  clear h hst hcap hcur hcl
  go_enter Tryz.func14, Tryz.ntmps14
  go_wp2
  obtain ⟨N12, hN⟩ : ∃ m, m = n + 12 := ⟨_, rfl⟩
  rw [← hN]
  have HN := hide (And.intro hN hn)
  clear hN hst2 W1 hn hl
  go_loopg [3] N12 (fun k i wr => ∃ j : Nat, k + j = N12 ∧ i = .int .i64 j ∧ w.grownBy wr (some g) ∧ ∃ c2 : List Value, wr.heap[g]? = some (.cells c2.toArray 78 (0, 0)) ∧ c2.length = cur.length)
  case atStart => exact ⟨0, by omega, rfl, grown_refl _ _, cur, HX.out.1, rfl⟩
  case round =>
    obtain ⟨j, hkj, rfl, hg, c2, hc2, hl2⟩ := hrel
    by_cases hk : 0 < gk
    · have hjb : j < 65536 := by have := HN.out.1; have := HX.out.2.2.1; omega
      have HGK := hide (And.intro hk (And.intro hkj (And.intro hg (And.intro hc2 hl2))))
      have h1 : (0 : Int) ≤ (j : Int) := by omega
      have h2 : (j : Int) < (N12 : Int) := by omega
      have qm := mk38_any 2 j (j : Int) rfl wr (by decide) (by decide) (by omega)
      clear hk hkj hg hc2 hl2
      go_wp2_with fail
      refine qm.mono ?_
      clear qm
      rintro e w3 ⟨rfl, hg3⟩
      have hb3 : w3.heap[g]? = some (.cells c2.toArray 78 (0, 0)) := (hg3.block _ (row_lt HGK.out.2.2.2.1) (by simp)).trans HGK.out.2.2.2.1
      have hlen : j * 3 + 2 < c2.length := by have := HGK.out; have := HX.out; have := HN.out; rw [HGK.out.2.2.2.2, HX.out.2.1]; omega
      obtain ⟨v0, x0⟩ := cell_at (o := j * 3) hb3 (by omega)
      obtain ⟨v1, x1⟩ := cell_at (o := j * 3 + 1) hb3 (by omega)
      obtain ⟨v2, x2⟩ := cell_at (o := j * 3 + 2) hb3 (by omega)
      have y0 := free_row hb3 (j * 3)
      have y1 := free_row hb3 (j * 3 + 1)
      have y2 := free_row hb3 (j * 3 + 2)
      generalize mkI 2 (j : Int) = M at *
      obtain ⟨⟨c3, hc3, hl3⟩, hgs⟩ := set3g (o := j * 3) hb3 (.int .u32 0) (.int .i64 0) (.int .i64 M)
      have HZ := hide (And.intro (grown_trans HGK.out.2.2.1 (grown_trans (grown_none hg3 (some g)) hgs)) (And.intro hc3 (hl3.trans HGK.out.2.2.2.2)))
      clear hg3 hb3 hlen hc3 hl3 hgs
      go_wp2
      go_roundg (gk - 1)
      case measure => have := HGK.out; omega
      case rel => exact ⟨j + 1, by have := HGK.out; omega, by go_num, HZ.out.1, c3, HZ.out.2.1, HZ.out.2.2⟩
    · obtain rfl : j = N12 := by omega
      have HG := hide hg
      clear hg hkj hk hc2 hl2
      go_wp2
      go_end0
      exact ⟨rfl, HG.out⟩
end Go.Proofs.YtcbiloomnkbalaaGreatDoor
