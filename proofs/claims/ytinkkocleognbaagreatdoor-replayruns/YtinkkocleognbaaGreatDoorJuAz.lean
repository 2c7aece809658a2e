/- Texts joined: Q2, Q3. -/
import Derived.Test.YtinkkocleognbaaGreatDoorJuAy
/- Frames that are lent: KeptFrames, OverFrames. -/
namespace Go.Proofs.YtinkkocleognbaaGreatDoor
open Go.RowKit Go.Shelf
attribute [local go_sem ↓] Go.wp_at_zero Go.wp_at_succ
attribute [local go_sem] Oper.semAt_some
/-- Frames lent, as they lie: their row, their bodies. -/
structure LfC (W : World) (B : Nat) (v : Value) (fs : List Fm) (L : List Lf) : Prop where
  row : W.ownsRow B 41 3 v L.length (lfcs L)
  bod : ∀ (i : Nat) f x, fs[i]? = some f → L[i]? = some x → x.e = f.e ∧ x.s = f.s ∧ Oc.LentAt W B x.u f.xs
  ap : ∀ (i k : Nat) x y b, i < k → L[i]? = some x → L[k]? = some y → x.u.ownBlock = some b → y.u.ownBlock ≠ some b
theorem LfS.c {w W : World} {v : Value} {fs : List Fm} {L : List Lf} (h : LfS w W v fs L) : LfC W w.heap.size v fs L := ⟨h.row, h.bod, h.ap⟩
/-- The blocks of frames lent. -/
def Lfo (v : Value) (L : List Lf) (b : Nat) : Prop := v.ownBlock = some b ∨ ∃ x ∈ L, x.u.ownBlock = some b
section
variable {W W' : World} {B : Nat} {v : Value} {fs : List Fm} {L : List Lf}
theorem lent_far {u : Value} {xs : List Int} {X : Nat → Prop} (h : Oc.LentAt W B u xs) (k : Kept W W' X) (hX : ∀ b, u.ownBlock = some b → ¬ X b) : Oc.LentAt W' B u xs := by
  obtain ⟨g, c, rfl, hr⟩ := h
  exact ⟨g, c, rfl, Ix.row_keep hr (fun q hq => by obtain ⟨-, cur, hc⟩ := Ix.own_block hr hq; exact k.block q (row_lt hc) (hX q hq))⟩
theorem LfC.far {X : Nat → Prop} (h : LfC W B v fs L) (k : Kept W W' X) (hX : ∀ b, Lfo v L b → ¬ X b) : LfC W' B v fs L :=
  ⟨Ix.row_keep h.row (fun q hq => by obtain ⟨-, cur, hc⟩ := Ix.own_block h.row hq; exact k.block q (row_lt hc) (hX q (.inl hq))), fun i f x hf hx => ⟨(h.bod i f x hf hx).1, (h.bod i f x hf hx).2.1, lent_far (h.bod i f x hf hx).2.2 k (fun b e => hX b (.inr ⟨x, List.mem_of_getElem? hx, e⟩))⟩, h.ap⟩
theorem LfC.then (h : LfC W B v fs L) (g : W.grownBy W' none) : LfC W' B v fs L := h.far (Kept.new g (fun _ => False)) (fun _ _ e => e)
theorem LfC.cells {g c n : Nat} (h : LfC W B (.slice (some ⟨g, 0, none⟩) n c) fs L) {i : Nat} {x : Lf} (hx : L[i]? = some x) : W.cell? ⟨g, i * 3, none⟩ = some (.int .u64 x.e) ∧ W.cell? ⟨g, i * 3 + 1, none⟩ = some (.int .u64 x.s) ∧ W.cell? ⟨g, i * 3 + 2, none⟩ = some x.u := by
  have hl := (List.getElem?_eq_some_iff.1 hx).1
  have hr := h.row
  obtain ⟨g', c', cur, e1, e2, e3, e4, e5, e6, e7⟩ := Ix.own_row hr (by omega)
  cases e1
  have key : ∀ o u, o < 3 → (lfc x)[o]? = some u → W.cell? ⟨g, i * 3 + o, none⟩ = some u := fun o u ho hu => by
    have := Ix.own_cell e3 e7 ((lfcs_at hx ho).trans hu)
    exact this
  exact ⟨key 0 _ (by omega) rfl, key 1 _ (by omega) rfl, key 2 _ (by omega) rfl⟩
end
set_option maxRecDepth 100000 in
set_option maxHeartbeats 16000000 in
theorem keptFs_any {W : World} {B g c : Nat} {fs : List Fm} {L : List Lf} {n : Nat} (hn : fs.length = n) (hL : L.length = n) (h : LfC W B (.slice (some ⟨g, 0, none⟩) (n + 12) c) fs (L ++ mkFs 1 12)) {FB : Nat → Prop} {bo : Option Addr} {cap : Nat} (hF : FmsAt W FB bo fs) (hO : ∀ f ∈ fs, f.Ok) (hb : n ≤ 10000) : Calls Tryz.prog 30 #[.slice (some ⟨g, 0, none⟩) n c, .slice bo n cap] W fun e w' => e = .returned (.bool true) ∧ W.grownBy w' none := by
  have hcap : n + 12 ≤ c := by
    have hr := h.row
    rw [List.length_append, mkFs_length, hL] at hr
    obtain ⟨vo, cc, e, hh⟩ := Ix.own_form hr
    cases e
    exact hh
  have hst := slice_toF (some ⟨g, 0, none⟩) n c (n + 12) (by omega)
  have hst2 : ∀ w', (Instr.slice 42 (.slice (some ⟨g, 0, none⟩) n c) none (some (.int .i64 ((n : Int) + 12))) none).run Tryz.prog w' = .ok (.slice (some ⟨g, 0, none⟩) (n + 12) c) w' := hst
  have W1 : IntKind.i64.wrap ((n : Int) + 12) = (n : Int) + 12 := by rw [IntKind.wrap_i64]; omega
  have HX := hide (And.intro h (And.intro hF (And.intro hn (And.intro hL (And.intro hO hb)))))
  clear h hF hst hcap hn hL hO hb
  go_enter Tryz.func30, Tryz.ntmps30
  go_wp2
  obtain ⟨N12, hN⟩ : ∃ m, m = n + 12 := ⟨_, rfl⟩
  rw [← hN]
  have HN := hide hN
  clear hN hst2 W1
  go_loopg [6] N12 (fun k i wr => ∃ j : Nat, k + j = N12 ∧ i = .int .i64 j ∧ W.grownBy wr none)
  case atStart => exact ⟨0, by omega, rfl, grown_refl _ _⟩
  case round =>
    obtain ⟨j, hkj, rfl, hg⟩ := hrel
    by_cases hk : 0 < gk
    · have HGK := hide (And.intro hk (And.intro hkj hg))
      have h1 : (0 : Int) ≤ (j : Int) := by omega
      have h2 : (j : Int) < (N12 : Int) := by omega
      have hjb : j < 65536 := by have := HN.out; have := HX.out.2.2.2.2.2; omega
      by_cases hj : j < n
      · obtain ⟨f, hf⟩ : ∃ f, fs[j]? = some f := ⟨fs[j]'(by have := HX.out.2.2.1; omega), List.getElem?_eq_getElem _⟩
        obtain ⟨x, hx⟩ : ∃ x, L[j]? = some x := ⟨L[j]'(by have := HX.out.2.2.2.1; omega), List.getElem?_eq_getElem _⟩
        have hx2 : (L ++ mkFs 1 12)[j]? = some x := by rw [List.getElem?_append_left (List.getElem?_eq_some_iff.1 hx).1]; exact hx
        have hC := HX.out.1.then (grown_trans hg (grown_drew wr none))
        obtain ⟨a0, a1, a2⟩ := hC.cells hx2
        obtain ⟨be, bs, hlent⟩ := hC.bod j f x hf hx2
        obtain ⟨bb, off, hbo, -, d0, d1, d2, hat, -⟩ := (HX.out.2.1.then (grown_trans hg (grown_drew wr none))) j f hf
        subst hbo
        have hok := HX.out.2.2.2.2.1 f (List.mem_of_getElem? hf)
        obtain ⟨gu, cu, hu, q1, q2, -, -, hall, -⟩ := Oc.LentAt.all hlent
        rw [hu] at a2
        rw [be] at a0
        rw [bs] at a1
        rw [hok.len] at a2 q1
        have HAll := hide (And.intro hall (And.intro hat (And.intro hok (And.intro q1 q2))))
        obtain ⟨fe, fsq, fao, fn, fcap, fxs⟩ := f
        dsimp only at *
        have HQ : Hid (∀ W2, wr.drew.grownBy W2 none → Calls Tryz.prog 61 #[.agg #[.int .u64 fe, .int .u64 fsq, .slice (some ⟨gu, 0, none⟩) fn cu], .agg #[.int .u64 fe, .int .u64 fsq, .slice fao fn fcap]] W2 fun e w' => e = .returned (.bool true) ∧ W2.grownBy w' none) := fun W2 hW2 => by
          have g9 : wr.drew.grownBy W2 none := hW2
          exact Oc.keptFr fe fsq gu cu fao fn fcap fxs W2 HAll.out.2.2.1.len HAll.out.2.2.2.1 HAll.out.2.2.2.2 (HAll.out.1.kept g9 (fun _ _ e => by cases e)) (HAll.out.2.1.kept g9 (fun _ _ e => by cases e)) HAll.out.2.2.1.few
        have hK0 : ((wr.drew.cell? ⟨g, j * 3, none⟩ = some (.int .u64 fe) ∧ wr.drew.cell? ⟨g, j * 3 + 1, none⟩ = some (.int .u64 fsq) ∧ wr.drew.cell? ⟨g, j * 3 + 2, none⟩ = some (.slice (some ⟨gu, 0, none⟩) fn cu)) ∧ (wr.drew.cell? ⟨bb, off + j * 3, none⟩ = some (.int .u64 fe) ∧ wr.drew.cell? ⟨bb, off + j * 3 + 1, none⟩ = some (.int .u64 fsq) ∧ wr.drew.cell? ⟨bb, off + j * 3 + 2, none⟩ = some (.slice fao fn fcap))) := ⟨⟨a0, a1, a2⟩, d0, d1, d2⟩
        have HK : Hid (∀ W, wr.grownBy W none → (W.cell? ⟨g, j * 3, none⟩ = some (.int .u64 fe) ∧ W.cell? ⟨g, j * 3 + 1, none⟩ = some (.int .u64 fsq) ∧ W.cell? ⟨g, j * 3 + 2, none⟩ = some (.slice (some ⟨gu, 0, none⟩) fn cu)) ∧ (W.cell? ⟨bb, off + j * 3, none⟩ = some (.int .u64 fe) ∧ W.cell? ⟨bb, off + j * 3 + 1, none⟩ = some (.int .u64 fsq) ∧ W.cell? ⟨bb, off + j * 3 + 2, none⟩ = some (.slice fao fn fcap))) := fun W hW => ⟨⟨hW.cell a0 (by simp), hW.cell a1 (by simp), hW.cell a2 (by simp)⟩, hW.cell d0 (by simp), hW.cell d1 (by simp), hW.cell d2 (by simp)⟩
        have h3 : (j : Int) < (n : Int) := by omega
        clear hf hx hx2 hC be bs hlent hat hok hu q1 q2 hall a0 a1 a2 d0 d1 d2 hk hkj hg
        go_wp2
        refine wp_region_noPanic ?_
        refine wp_region_held_drew (S := (fun W => (W.cell? ⟨g, j * 3, none⟩ = some (.int .u64 fe) ∧ W.cell? ⟨g, j * 3 + 1, none⟩ = some (.int .u64 fsq) ∧ W.cell? ⟨g, j * 3 + 2, none⟩ = some (.slice (some ⟨gu, 0, none⟩) fn cu)) ∧ (W.cell? ⟨bb, off + j * 3, none⟩ = some (.int .u64 fe) ∧ W.cell? ⟨bb, off + j * 3 + 1, none⟩ = some (.int .u64 fsq) ∧ W.cell? ⟨bb, off + j * 3 + 2, none⟩ = some (.slice fao fn fcap)))) (by kernel_rfl) ?_ (fun hHeld => ?_)
        · (exact hK0)
        refine tkQ 0 (oi := ⟨some 23, .move (.tmp 6), 3, "lent.go:319", #[], none⟩) rfl ?_
        try simp only [Act.put, pA, pB, pC]
        refine tkQ 1 (oi := ⟨some 24, .move (.tmp 1), 42, "lent.go:319", #[], none⟩) rfl ?_
        try simp only [Act.put, pA, pB, pC]
        refine tkQ 2 (oi := ⟨some 25, .call { callee := .builtin .len, args := #[.tmp 24], argTypes := #[42] }, 3, "lent.go:319", #[⟨1, .data⟩], none⟩) rfl ?_
        try simp only [Act.put, pA, pB, pC]
        refine tkQ 3 (oi := ⟨some 26, .binOp .lss 3 (.tmp 23) (.tmp 25) 3, 4, "lent.go:319", #[⟨0, .data⟩, ⟨2, .data⟩], none⟩) rfl ?_
        try simp only [Act.put, pA, pB, pC]
        refine tkQ 4 (oi := ⟨some 27, .move (.tmp 26), 4, "lent.go:319", #[⟨3, .data⟩], none⟩) rfl ?_
        try simp only [Act.put, pA, pB, pC]
        refine tkQ 5 (oi := ⟨some 28, .move (.tmp 5), 42, "lent.go:319", #[⟨4, .guard⟩], some (4, true)⟩) rfl ?_
        try simp only [Act.put, pA, pB, pC]
        refine tkQ 6 (oi := ⟨some 29, .move (.tmp 6), 3, "lent.go:319", #[⟨4, .guard⟩], some (4, true)⟩) rfl ?_
        try simp only [Act.put, pA, pB, pC]
        refine tkQ 7 (oi := ⟨some 30, .indexAddr 42 (.tmp 28) (.tmp 29), 0, "lent.go:319", #[⟨5, .data⟩, ⟨6, .data⟩, ⟨4, .guard⟩], some (4, true)⟩) rfl ?_
        try simp only [Act.put, pA, pB, pC]
        refine tkQ 8 (oi := ⟨some 31, .load 41 (.tmp 30), 41, "lent.go:319", #[⟨7, .data⟩, ⟨4, .guard⟩], some (4, true)⟩) rfl ?_
        try simp only [Act.put, pA, pB, pC]
        refine tkQ 9 (oi := ⟨some 32, .move (.tmp 1), 42, "lent.go:319", #[⟨4, .guard⟩], some (4, true)⟩) rfl ?_
        try simp only [Act.put, pA, pB, pC]
        refine tkQ 10 (oi := ⟨some 33, .move (.tmp 6), 3, "lent.go:319", #[⟨4, .guard⟩], some (4, true)⟩) rfl ?_
        try simp only [Act.put, pA, pB, pC]
        refine tkQ 11 (oi := ⟨some 34, .indexAddr 42 (.tmp 32) (.tmp 33), 0, "lent.go:319", #[⟨9, .data⟩, ⟨10, .data⟩, ⟨4, .guard⟩], some (4, true)⟩) rfl ?_
        try simp only [Act.put, pA, pB, pC]
        refine tkQ 12 (oi := ⟨some 35, .load 41 (.tmp 34), 41, "lent.go:319", #[⟨11, .data⟩, ⟨4, .guard⟩], some (4, true)⟩) rfl ?_
        try simp only [Act.put, pA, pB, pC]
        refine rdH (i := 13) rfl (fun K hK => ?_)
        go_simp
        refine (HQ.out _ (grown_refl _ _)).mono ?_
        rintro e w3 ⟨rfl, hg3⟩
        have HG3 := hide (grown_trans (grown_drew wr none) hg3)
        have hK3 := HK.out _ HG3.out
        clear hg3
        go_wp2_with fail
        refine hK.out _ _ ?_ (fun hHeld => ?_)
        · ((try dsimp only); first | with_reducible assumption | exact hK3 | exact hK0)
        clear hK K
        try simp only [Act.put, pA, pB, pC]
        refine tkQ 14 (oi := ⟨some 37, .unOp .not 4 (.tmp 36), 4, "lent.go:319", #[⟨13, .data⟩, ⟨4, .guard⟩], some (4, true)⟩) rfl ?_
        try simp only [Act.put, pA, pB, pC]
        refine tkQ 15 (oi := ⟨some 38, .pick (.tmp 27) (.tmp 37) (.const (.bool false)), 4, "lent.go:319", #[⟨4, .data⟩, ⟨14, .data⟩], none⟩) rfl ?_
        try simp only [Act.put, pA, pB, pC]
        refine tkQ 16 (oi := ⟨some 39, .move (.tmp 38), 4, "lent.go:319", #[⟨15, .data⟩, ⟨13, .chain⟩], none⟩) rfl ?_
        try simp only [Act.put, pA, pB, pC]
        refine tkQ 17 (oi := ⟨some 40, .move (.tmp 6), 3, "lent.go:319", #[⟨16, .guard⟩], some (16, false)⟩) rfl ?_
        try simp only [Act.put, pA, pB, pC]
        refine tkQ 18 (oi := ⟨some 41, .move (.tmp 1), 42, "lent.go:319", #[⟨16, .guard⟩], some (16, false)⟩) rfl ?_
        try simp only [Act.put, pA, pB, pC]
        refine tkQ 19 (oi := ⟨some 42, .call { callee := .builtin .len, args := #[.tmp 41], argTypes := #[42] }, 3, "lent.go:319", #[⟨18, .data⟩, ⟨16, .guard⟩], some (16, false)⟩) rfl ?_
        try simp only [Act.put, pA, pB, pC]
        refine tkH (i := 20) (oi := ⟨some 43, .binOp .geq 3 (.tmp 40) (.tmp 42) 3, 4, "lent.go:319", #[⟨17, .data⟩, ⟨19, .data⟩, ⟨16, .guard⟩], some (16, false)⟩) (v := ?_) rfl ?_ ?_
        rotate_left
        · (intro w hSw; refine geqF_op (t := 3) (k := .i64) (x := .tmp 40) (y := .tmp 42) (p := (j : Int)) (q := (n : Int)) ?_ ?_ ?_ h3 w <;> rfl)
        try simp only [Act.put, pA, pB, pC]
        refine tkQ 21 (oi := ⟨some 44, .move (.tmp 43), 4, "lent.go:319", #[⟨20, .data⟩, ⟨16, .chain⟩, ⟨16, .guard⟩], some (16, false)⟩) rfl ?_
        try simp only [Act.put, pA, pB, pC]
        refine skH 22 (oi := ⟨some 45, .move (.tmp 5), 42, "lent.go:319", #[⟨21, .guard⟩], some (21, true)⟩) rfl ?_
        try simp only [Act.put, pA, pB, pC]
        refine skH 23 (oi := ⟨some 46, .move (.tmp 6), 3, "lent.go:319", #[⟨21, .guard⟩], some (21, true)⟩) rfl ?_
        try simp only [Act.put, pA, pB, pC]
        refine skH 24 (oi := ⟨some 47, .indexAddr 42 (.tmp 45) (.tmp 46), 0, "lent.go:319", #[⟨22, .data⟩, ⟨23, .data⟩, ⟨21, .guard⟩], some (21, true)⟩) rfl ?_
        try simp only [Act.put, pA, pB, pC]
        refine skH 25 (oi := ⟨some 48, .load 41 (.tmp 47), 41, "lent.go:319", #[⟨24, .data⟩, ⟨21, .guard⟩], some (21, true)⟩) rfl ?_
        try simp only [Act.put, pA, pB, pC]
        refine skH 26 (oi := ⟨some 49, .move (.tmp 6), 3, "lent.go:319", #[⟨21, .guard⟩], some (21, true)⟩) rfl ?_
        try simp only [Act.put, pA, pB, pC]
        refine skH 27 (oi := ⟨some 50, .move (.tmp 1), 42, "lent.go:319", #[⟨21, .guard⟩], some (21, true)⟩) rfl ?_
        try simp only [Act.put, pA, pB, pC]
        refine skH 28 (oi := ⟨some 51, .call { callee := .builtin .len, args := #[.tmp 50], argTypes := #[42] }, 3, "lent.go:319", #[⟨27, .data⟩, ⟨21, .guard⟩], some (21, true)⟩) rfl ?_
        try simp only [Act.put, pA, pB, pC]
        refine skH 29 (oi := ⟨some 52, .binOp .sub 3 (.tmp 49) (.tmp 51) 3, 3, "lent.go:319", #[⟨26, .data⟩, ⟨28, .data⟩, ⟨21, .guard⟩], some (21, true)⟩) rfl ?_
        try simp only [Act.put, pA, pB, pC]
        refine skH 30 (oi := ⟨some 53, .call { callee := .value (.func 59), args := #[.const (.int .i64 1), .tmp 52], argTypes := #[3, 3] }, 41, "lent.go:319", #[⟨29, .data⟩, ⟨21, .chain⟩, ⟨21, .guard⟩], some (21, true)⟩) rfl ?_
        try simp only [Act.put, pA, pB, pC]
        refine skH 31 (oi := ⟨some 54, .call { callee := .value (.func 62), args := #[.tmp 48, .tmp 53], argTypes := #[41, 41] }, 4, "lent.go:319", #[⟨25, .data⟩, ⟨30, .data⟩, ⟨30, .chain⟩, ⟨21, .guard⟩], some (21, true)⟩) rfl ?_
        try simp only [Act.put, pA, pB, pC]
        refine skH 32 (oi := ⟨some 55, .unOp .not 4 (.tmp 54), 4, "lent.go:319", #[⟨31, .data⟩, ⟨21, .guard⟩], some (21, true)⟩) rfl ?_
        try simp only [Act.put, pA, pB, pC]
        refine tkQ 33 (oi := ⟨some 56, .pick (.tmp 44) (.tmp 55) (.const (.bool false)), 4, "lent.go:319", #[⟨21, .data⟩, ⟨32, .data⟩, ⟨16, .guard⟩], some (16, false)⟩) rfl ?_
        try simp only [Act.put, pA, pB, pC]
        refine tkQ 34 (oi := ⟨some 57, .pick (.tmp 39) (.const (.bool true)) (.tmp 56), 4, "lent.go:319", #[⟨16, .data⟩, ⟨33, .data⟩], none⟩) rfl ?_
        try simp only [Act.put, pA, pB, pC]
        refine wpAnyH_done (by kernel_rfl) ?_ _
        refine NoPanic.normal ?_
        go_wp2
        go_roundg (gk - 1)
        case measure => have := HGK.out; omega
        case rel => exact ⟨j + 1, by have := HGK.out; omega, by go_num, grown_trans HGK.out.2.2 HG3.out⟩
      · obtain ⟨t, ht⟩ : ∃ t, j = n + t := ⟨j - n, by omega⟩
        have htl : t < 12 := by have := HN.out; omega
        have hx2 : (L ++ mkFs 1 12)[j]? = some (mkFr 1 t) := by rw [List.getElem?_append_right (by have := HX.out.2.2.2.1; omega), show j - L.length = t by have := HX.out.2.2.2.1; omega]; exact mkFs_get 1 12 t htl
        obtain ⟨a0, a1, a2⟩ := (HX.out.1.then (grown_trans hg (grown_drew wr none))).cells hx2
        simp only [mkFr] at a0 a1 a2
        have HQ : Hid (∀ W, wr.grownBy W none → Calls Tryz.prog 59 #[.int .i64 1, .int .i64 (t : Int)] W fun e w' => e = .returned (.agg #[.int .u64 0, .int .u64 (mkI 1 t), .slice none 0 0]) ∧ W.grownBy w' none) := fun W _ => mk59_any 1 t (t : Int) rfl W (by decide) (by decide) (by omega)
        have HQ2 : Hid (∀ W, Calls Tryz.prog 62 #[.agg #[.int .u64 0, .int .u64 (mkI 1 t), .slice none 0 0], .agg #[.int .u64 0, .int .u64 (mkI 1 t), .slice none 0 0]] W fun e w' => e = .returned (.bool true) ∧ W.grownBy w' none) := fun W => Oc.sameFr 0 (mkI 1 t) none none 0 0 0 [] W rfl (Oc.At.nil _ _) (Oc.At.nil _ _) (by omega)
        have hK0 : wr.drew.cell? ⟨g, j * 3, none⟩ = some (.int .u64 0) ∧ wr.drew.cell? ⟨g, j * 3 + 1, none⟩ = some (.int .u64 (mkI 1 t)) ∧ wr.drew.cell? ⟨g, j * 3 + 2, none⟩ = some (.slice none 0 0) := ⟨a0, a1, a2⟩
        have HK : Hid (∀ W, wr.grownBy W none → W.cell? ⟨g, j * 3, none⟩ = some (.int .u64 0) ∧ W.cell? ⟨g, j * 3 + 1, none⟩ = some (.int .u64 (mkI 1 t)) ∧ W.cell? ⟨g, j * 3 + 2, none⟩ = some (.slice none 0 0)) := fun W hW => ⟨hW.cell a0 (by simp), hW.cell a1 (by simp), hW.cell a2 (by simp)⟩
        have h3 : (n : Int) ≤ (j : Int) := by omega
        have W2 : IntKind.i64.wrap ((j : Int) - (n : Int)) = (t : Int) := by rw [IntKind.wrap_i64]; omega
        generalize mkI 1 t = M at *
        clear a0 a1 a2 hx2 hk hkj hg ht htl hj
        go_wp2
        refine wp_region_noPanic ?_
        refine wp_region_held_drew (S := (fun W => W.cell? ⟨g, j * 3, none⟩ = some (.int .u64 0) ∧ W.cell? ⟨g, j * 3 + 1, none⟩ = some (.int .u64 M) ∧ W.cell? ⟨g, j * 3 + 2, none⟩ = some (.slice none 0 0))) (by kernel_rfl) ?_ (fun hHeld => ?_)
        · (exact hK0)
        refine tkQ 0 (oi := ⟨some 23, .move (.tmp 6), 3, "lent.go:319", #[], none⟩) rfl ?_
        try simp only [Act.put, pA, pB, pC]
        refine tkQ 1 (oi := ⟨some 24, .move (.tmp 1), 42, "lent.go:319", #[], none⟩) rfl ?_
        try simp only [Act.put, pA, pB, pC]
        refine tkQ 2 (oi := ⟨some 25, .call { callee := .builtin .len, args := #[.tmp 24], argTypes := #[42] }, 3, "lent.go:319", #[⟨1, .data⟩], none⟩) rfl ?_
        try simp only [Act.put, pA, pB, pC]
        refine tkH (i := 3) (oi := ⟨some 26, .binOp .lss 3 (.tmp 23) (.tmp 25) 3, 4, "lent.go:319", #[⟨0, .data⟩, ⟨2, .data⟩], none⟩) (v := ?_) rfl ?_ ?_
        rotate_left
        · (intro w hSw; refine lssF_op (t := 3) (k := .i64) (x := .tmp 23) (y := .tmp 25) (p := (j : Int)) (q := (n : Int)) ?_ ?_ ?_ h3 w <;> rfl)
        try simp only [Act.put, pA, pB, pC]
        refine tkQ 4 (oi := ⟨some 27, .move (.tmp 26), 4, "lent.go:319", #[⟨3, .data⟩], none⟩) rfl ?_
        try simp only [Act.put, pA, pB, pC]
        refine skH 5 (oi := ⟨some 28, .move (.tmp 5), 42, "lent.go:319", #[⟨4, .guard⟩], some (4, true)⟩) rfl ?_
        try simp only [Act.put, pA, pB, pC]
        refine skH 6 (oi := ⟨some 29, .move (.tmp 6), 3, "lent.go:319", #[⟨4, .guard⟩], some (4, true)⟩) rfl ?_
        try simp only [Act.put, pA, pB, pC]
        refine skH 7 (oi := ⟨some 30, .indexAddr 42 (.tmp 28) (.tmp 29), 0, "lent.go:319", #[⟨5, .data⟩, ⟨6, .data⟩, ⟨4, .guard⟩], some (4, true)⟩) rfl ?_
        try simp only [Act.put, pA, pB, pC]
        refine skH 8 (oi := ⟨some 31, .load 41 (.tmp 30), 41, "lent.go:319", #[⟨7, .data⟩, ⟨4, .guard⟩], some (4, true)⟩) rfl ?_
        try simp only [Act.put, pA, pB, pC]
        refine skH 9 (oi := ⟨some 32, .move (.tmp 1), 42, "lent.go:319", #[⟨4, .guard⟩], some (4, true)⟩) rfl ?_
        try simp only [Act.put, pA, pB, pC]
        refine skH 10 (oi := ⟨some 33, .move (.tmp 6), 3, "lent.go:319", #[⟨4, .guard⟩], some (4, true)⟩) rfl ?_
        try simp only [Act.put, pA, pB, pC]
        refine skH 11 (oi := ⟨some 34, .indexAddr 42 (.tmp 32) (.tmp 33), 0, "lent.go:319", #[⟨9, .data⟩, ⟨10, .data⟩, ⟨4, .guard⟩], some (4, true)⟩) rfl ?_
        try simp only [Act.put, pA, pB, pC]
        refine skH 12 (oi := ⟨some 35, .load 41 (.tmp 34), 41, "lent.go:319", #[⟨11, .data⟩, ⟨4, .guard⟩], some (4, true)⟩) rfl ?_
        try simp only [Act.put, pA, pB, pC]
        refine skH 13 (oi := ⟨some 36, .call { callee := .value (.func 61), args := #[.tmp 31, .tmp 35], argTypes := #[41, 41] }, 4, "lent.go:319", #[⟨8, .data⟩, ⟨12, .data⟩, ⟨4, .chain⟩, ⟨4, .guard⟩], some (4, true)⟩) rfl ?_
        try simp only [Act.put, pA, pB, pC]
        refine skH 14 (oi := ⟨some 37, .unOp .not 4 (.tmp 36), 4, "lent.go:319", #[⟨13, .data⟩, ⟨4, .guard⟩], some (4, true)⟩) rfl ?_
        try simp only [Act.put, pA, pB, pC]
        refine tkQ 15 (oi := ⟨some 38, .pick (.tmp 27) (.tmp 37) (.const (.bool false)), 4, "lent.go:319", #[⟨4, .data⟩, ⟨14, .data⟩], none⟩) rfl ?_
        try simp only [Act.put, pA, pB, pC]
        refine tkQ 16 (oi := ⟨some 39, .move (.tmp 38), 4, "lent.go:319", #[⟨15, .data⟩, ⟨13, .chain⟩], none⟩) rfl ?_
        try simp only [Act.put, pA, pB, pC]
        refine tkQ 17 (oi := ⟨some 40, .move (.tmp 6), 3, "lent.go:319", #[⟨16, .guard⟩], some (16, false)⟩) rfl ?_
        try simp only [Act.put, pA, pB, pC]
        refine tkQ 18 (oi := ⟨some 41, .move (.tmp 1), 42, "lent.go:319", #[⟨16, .guard⟩], some (16, false)⟩) rfl ?_
        try simp only [Act.put, pA, pB, pC]
        refine tkQ 19 (oi := ⟨some 42, .call { callee := .builtin .len, args := #[.tmp 41], argTypes := #[42] }, 3, "lent.go:319", #[⟨18, .data⟩, ⟨16, .guard⟩], some (16, false)⟩) rfl ?_
        try simp only [Act.put, pA, pB, pC]
        refine tkH (i := 20) (oi := ⟨some 43, .binOp .geq 3 (.tmp 40) (.tmp 42) 3, 4, "lent.go:319", #[⟨17, .data⟩, ⟨19, .data⟩, ⟨16, .guard⟩], some (16, false)⟩) (v := ?_) rfl ?_ ?_
        rotate_left
        · (intro w hSw; refine geqT_op (t := 3) (k := .i64) (x := .tmp 40) (y := .tmp 42) (p := (j : Int)) (q := (n : Int)) ?_ ?_ ?_ h3 w <;> rfl)
        try simp only [Act.put, pA, pB, pC]
        refine tkQ 21 (oi := ⟨some 44, .move (.tmp 43), 4, "lent.go:319", #[⟨20, .data⟩, ⟨16, .chain⟩, ⟨16, .guard⟩], some (16, false)⟩) rfl ?_
        try simp only [Act.put, pA, pB, pC]
        refine tkQ 22 (oi := ⟨some 45, .move (.tmp 5), 42, "lent.go:319", #[⟨21, .guard⟩], some (21, true)⟩) rfl ?_
        try simp only [Act.put, pA, pB, pC]
        refine tkQ 23 (oi := ⟨some 46, .move (.tmp 6), 3, "lent.go:319", #[⟨21, .guard⟩], some (21, true)⟩) rfl ?_
        try simp only [Act.put, pA, pB, pC]
        refine tkQ 24 (oi := ⟨some 47, .indexAddr 42 (.tmp 45) (.tmp 46), 0, "lent.go:319", #[⟨22, .data⟩, ⟨23, .data⟩, ⟨21, .guard⟩], some (21, true)⟩) rfl ?_
        try simp only [Act.put, pA, pB, pC]
        refine tkQ 25 (oi := ⟨some 48, .load 41 (.tmp 47), 41, "lent.go:319", #[⟨24, .data⟩, ⟨21, .guard⟩], some (21, true)⟩) rfl ?_
        try simp only [Act.put, pA, pB, pC]
        refine tkQ 26 (oi := ⟨some 49, .move (.tmp 6), 3, "lent.go:319", #[⟨21, .guard⟩], some (21, true)⟩) rfl ?_
        try simp only [Act.put, pA, pB, pC]
        refine tkQ 27 (oi := ⟨some 50, .move (.tmp 1), 42, "lent.go:319", #[⟨21, .guard⟩], some (21, true)⟩) rfl ?_
        try simp only [Act.put, pA, pB, pC]
        refine tkQ 28 (oi := ⟨some 51, .call { callee := .builtin .len, args := #[.tmp 50], argTypes := #[42] }, 3, "lent.go:319", #[⟨27, .data⟩, ⟨21, .guard⟩], some (21, true)⟩) rfl ?_
        try simp only [Act.put, pA, pB, pC]
        refine tkQ 29 (oi := ⟨some 52, .binOp .sub 3 (.tmp 49) (.tmp 51) 3, 3, "lent.go:319", #[⟨26, .data⟩, ⟨28, .data⟩, ⟨21, .guard⟩], some (21, true)⟩) rfl ?_
        try simp only [Act.put, pA, pB, pC]
        refine rdH (i := 30) rfl (fun K hK => ?_)
        go_simp
        refine (HQ.out _ (grown_drew wr none)).mono ?_
        rintro e w3 ⟨rfl, hg3⟩
        have HG3 := hide (grown_trans (grown_drew wr none) hg3)
        have hK3 := HK.out _ HG3.out
        clear hg3
        go_wp2_with fail
        refine hK.out _ _ ?_ (fun hHeld => ?_)
        · ((try dsimp only); first | with_reducible assumption | exact hK3 | exact hK4 | exact hK0)
        clear hK K
        try simp only [Act.put, pA, pB, pC]
        refine rdH (i := 31) rfl (fun K hK => ?_)
        go_simp
        refine (HQ2.out _).mono ?_
        rintro e w4 ⟨rfl, hg4⟩
        have HG4 := hide (grown_trans HG3.out hg4)
        have hK4 := HK.out _ HG4.out
        clear hg4
        go_wp2_with fail
        refine hK.out _ _ ?_ (fun hHeld => ?_)
        · ((try dsimp only); first | with_reducible assumption | exact hK3 | exact hK4 | exact hK0)
        clear hK K
        try simp only [Act.put, pA, pB, pC]
        refine tkQ 32 (oi := ⟨some 55, .unOp .not 4 (.tmp 54), 4, "lent.go:319", #[⟨31, .data⟩, ⟨21, .guard⟩], some (21, true)⟩) rfl ?_
        try simp only [Act.put, pA, pB, pC]
        refine tkQ 33 (oi := ⟨some 56, .pick (.tmp 44) (.tmp 55) (.const (.bool false)), 4, "lent.go:319", #[⟨21, .data⟩, ⟨32, .data⟩, ⟨16, .guard⟩], some (16, false)⟩) rfl ?_
        try simp only [Act.put, pA, pB, pC]
        refine tkQ 34 (oi := ⟨some 57, .pick (.tmp 39) (.const (.bool true)) (.tmp 56), 4, "lent.go:319", #[⟨16, .data⟩, ⟨33, .data⟩], none⟩) rfl ?_
        try simp only [Act.put, pA, pB, pC]
        refine wpAnyH_done (by kernel_rfl) ?_ _
        refine NoPanic.normal ?_
        go_wp2
        go_roundg (gk - 1)
        case measure => have := HGK.out; omega
        case rel => exact ⟨j + 1, by have := HGK.out; omega, by go_num, grown_trans HGK.out.2.2 HG4.out⟩
    · obtain rfl : j = N12 := by omega
      have HG := hide hg
      clear hg hkj hk
      go_wp2
      go_ret
      exact ⟨rfl, HG.out⟩
end Go.Proofs.YtinkkocleognbaaGreatDoor
/- Frames that are lent: OverFrames. -/
namespace Go.Proofs.YtinkkocleognbaaGreatDoor
open Go.RowKit Go.Shelf
attribute [local go_sem ↓] Go.wp_at_zero Go.wp_at_succ
attribute [local go_sem] Oper.semAt_some
theorem lf_cells {W : World} {B g c n : Nat} {L : List Lf} (hr : W.ownsRow B 41 3 (.slice (some ⟨g, 0, none⟩) n c) L.length (lfcs L)) {i : Nat} {x : Lf} (hx : L[i]? = some x) : W.cell? ⟨g, i * 3, none⟩ = some (.int .u64 x.e) ∧ W.cell? ⟨g, i * 3 + 1, none⟩ = some (.int .u64 x.s) ∧ W.cell? ⟨g, i * 3 + 2, none⟩ = some x.u := by
  have hl := (List.getElem?_eq_some_iff.1 hx).1
  obtain ⟨g', c', cur, e1, e2, e3, e4, e5, e6, e7⟩ := Ix.own_row hr (by omega)
  cases e1
  have key : ∀ o u, o < 3 → (lfc x)[o]? = some u → W.cell? ⟨g, i * 3 + o, none⟩ = some u := fun o u ho hu => by
    have := Ix.own_cell e3 e7 ((lfcs_at hx ho).trans hu)
    exact this
  exact ⟨key 0 _ (by omega) rfl, key 1 _ (by omega) rfl, key 2 _ (by omega) rfl⟩
theorem set3F {w : World} {g o : Nat} {t : TypeId} {cur : List Value} (h : w.heap[g]? = some (.cells cur.toArray t (0, 0))) (a b c : Value) :
    (∃ cur2 : List Value, (((w.setCell ⟨g, o, none⟩ a).setCell ⟨g, o + 1, none⟩ b).setCell ⟨g, o + 2, none⟩ c).heap[g]? = some (.cells cur2.toArray t (0, 0)) ∧ cur2.length = cur.length) ∧ w.grownBy (((w.setCell ⟨g, o, none⟩ a).setCell ⟨g, o + 1, none⟩ b).setCell ⟨g, o + 2, none⟩ c) (some g) :=
  ⟨⟨_, row_setCell (row_setCell (row_setCell h o a) (o + 1) b) (o + 2) c, by simp⟩, grown_trans (grown_trans (grown_setCell w g o a) (grown_setCell _ g (o + 1) b)) (grown_setCell _ g (o + 2) c)⟩
/-- The bodies' blocks before a place. -/
def Lfb (L : List Lf) (j : Nat) (b : Nat) : Prop := ∃ i x, i < j ∧ L[i]? = some x ∧ x.u.ownBlock = some b
set_option maxRecDepth 100000 in
set_option maxHeartbeats 16000000 in
theorem overFs_any {W : World} {B g c : Nat} {fs : List Fm} {L : List Lf} {n : Nat} (hn : fs.length = n) (hL : L.length = n) (h : LfC W B (.slice (some ⟨g, 0, none⟩) (n + 12) c) fs (L ++ mkFs 1 12)) (hO : ∀ f ∈ fs, f.Ok) (hb : n ≤ 10000) : Calls Tryz.prog 31 #[.slice (some ⟨g, 0, none⟩) n c] W fun e w' => e = .returned (.tuple #[]) ∧ Kept W w' (Lfo (.slice (some ⟨g, 0, none⟩) (n + 12) c) L) := by
  have hr := h.row
  have hrow := h.row
  have hlen : (L ++ mkFs 1 12).length = n + 12 := by rw [List.length_append, mkFs_length, hL]
  rw [hlen] at hr
  obtain ⟨g', c', cur, e, -, hcur, hcap, -, hcl, -⟩ := Ix.own_row hr (by omega)
  cases e
  have hst := slice_toF (some ⟨g, 0, none⟩) n c (n + 12) (by omega)
  have hst2 : ∀ w', (Instr.slice 42 (.slice (some ⟨g, 0, none⟩) n c) none (some (.int .i64 ((n : Int) + 12))) none).run Tryz.prog w' = .ok (.slice (some ⟨g, 0, none⟩) (n + 12) c) w' := hst
  have W1 : IntKind.i64.wrap ((n : Int) + 12) = (n : Int) + 12 := by rw [IntKind.wrap_i64]; omega
  have HX := hide (And.intro h (And.intro hn (And.intro hL (And.intro hO hb))))
  have HC := hide (And.intro hcur (And.intro hcl hcap))
  -- a body's block is not the row's
  have HF : Hid (∀ j, ¬ Lfb L j g) := fun j ⟨i, y, hi, hy, hyb⟩ => by
    obtain ⟨fi, hfi⟩ : ∃ f, fs[i]? = some f := ⟨fs[i]'(by have := (List.getElem?_eq_some_iff.1 hy).1; omega), List.getElem?_eq_getElem _⟩
    have hy2 : (L ++ mkFs 1 12)[i]? = some y := by rw [List.getElem?_append_left (List.getElem?_eq_some_iff.1 hy).1]; exact hy
    obtain ⟨gu, cu, hu, -, -, -, -, -, cv, hcv, -⟩ := Oc.LentAt.all (h.bod i fi y hfi hy2).2.2
    rw [hu] at hyb
    simp only [Value.ownBlock, Option.some.injEq] at hyb
    subst hyb
    rw [hcur] at hcv
    simp at hcv
  have HR := hide hrow
  clear h hst hcap hn hL hO hb hr hrow hcur hcl hlen
  go_enter Tryz.func31, Tryz.ntmps31
  go_wp2
  go_loopg [2] n (fun k i wr => ∃ j : Nat, k + j = n ∧ i = .int .i64 j ∧ Kept W wr (Lfb L j))
  case atStart => exact ⟨0, by omega, rfl, Kept.refl _ _⟩
  case round =>
    obtain ⟨j, hkj, rfl, hg⟩ := hrel
    by_cases hk : 0 < gk
    · have HGK := hide (And.intro hk (And.intro hkj hg))
      have h1 : (0 : Int) ≤ (j : Int) := by omega
      have h2 : (j : Int) < (n : Int) := by omega
      have hjb : j < 65536 := by have := HX.out.2.2.2.2; omega
      obtain ⟨f, hf⟩ : ∃ f, fs[j]? = some f := ⟨fs[j]'(by have := HX.out.2.1; omega), List.getElem?_eq_getElem _⟩
      obtain ⟨x, hx⟩ : ∃ x, L[j]? = some x := ⟨L[j]'(by have := HX.out.2.2.1; omega), List.getElem?_eq_getElem _⟩
      have hx2 : (L ++ mkFs 1 12)[j]? = some x := by rw [List.getElem?_append_left (List.getElem?_eq_some_iff.1 hx).1]; exact hx
      have hok := HX.out.2.2.2.1 f (List.mem_of_getElem? hf)
      obtain ⟨-, -, hlent⟩ := HX.out.1.bod j f x hf hx2
      obtain ⟨gu, cu, hu, q1, q2, -, -, -, cv, hcv, hcs⟩ := Oc.LentAt.all hlent
      have hfar : ¬ Lfb L j gu := by
        rintro ⟨i, y, hi, hy, hyb⟩
        have hy2 : (L ++ mkFs 1 12)[i]? = some y := by rw [List.getElem?_append_left (List.getElem?_eq_some_iff.1 hy).1]; exact hy
        exact HX.out.1.ap i j y x gu hi hy2 hx2 hyb (by rw [hu]; rfl)
      have hcv2 := hg.at hcv hfar
      have hrw := Ix.row_keep HR.out (fun q hq => by
        simp only [Value.ownBlock, Option.some.injEq] at hq
        subst hq
        exact hg.block _ (row_lt HC.out.1) (HF.out j))
      obtain ⟨a0, a1, a2⟩ := lf_cells hrw hx2
      rw [hu] at a2
      have qo : Calls Tryz.prog 63 #[.agg #[.int .u64 x.e, .int .u64 x.s, .slice (some ⟨gu, 0, none⟩) f.xs.length cu]] wr fun r w' => r = .returned (.tuple #[]) ∧ wr.grownBy w' (some gu) := Oc.overFr x.e x.s gu cu f.xs.length wr ⟨cv, hcv2, hcs⟩ q1 q2 (by rw [hok.len]; exact hok.few)
      have HN1 : Hid (Lfb L (j + 1) gu) := ⟨j, x, by omega, hx, by rw [hu]; rfl⟩
      obtain ⟨xe, xs, xu⟩ := x
      dsimp only at *
      clear hk hkj hg hf hx hx2 hok hlent q1 q2 hcv hcs hfar hcv2 hrw hu
      go_wp2_with fail
      refine qo.mono ?_
      clear qo
      rintro e w3 ⟨rfl, hg3⟩
      have HZ : Hid (Kept W w3 (Lfb L (j + 1))) := ((HGK.out.2.2.mono (S' := Lfb L (j + 1)) (fun b _ ⟨i, y, hi, hy⟩ => ⟨i, y, by omega, hy⟩)).trans (Kept.of hg3 (S := fun b => b = gu) (fun _ e _ => (Option.some.inj e).symm)) (fun b _ e => e ▸ HN1.out))
      clear hg3 a0 a1 a2
      go_wp2
      go_roundg (gk - 1)
      case measure => have := HGK.out; omega
      case rel => exact ⟨j + 1, by have := HGK.out; omega, by go_num, HZ.out⟩
    · obtain rfl : j = n := by omega
      have HB : Hid (Kept W wr (Lfo (.slice (some ⟨g, 0, none⟩) (j + 12) c) L) ∧ wr.heap[g]? = some (.cells cur.toArray 41 (0, 0))) := ⟨hg.mono (fun b _ ⟨i, y, hi, hy, hyb⟩ => .inr ⟨y, List.mem_of_getElem? hy, hyb⟩), hg.at HC.out.1 (HF.out _)⟩
      have HN2 : Hid (j ≤ 10000) := HX.out.2.2.2.2
      clear hg hkj hk HR HF HX
      go_wp2
      obtain ⟨N12, hN⟩ : ∃ m, m = j + 12 := ⟨_, rfl⟩
      rw [← hN]
      have HN := hide hN
      clear hN hst2 W1
      go_loopg [4] N12 (fun k i wr => ∃ t : Nat, k + t = N12 ∧ i = .int .i64 t ∧ Kept W wr (Lfo (.slice (some ⟨g, 0, none⟩) (j + 12) c) L) ∧ ∃ c2 : List Value, wr.heap[g]? = some (.cells c2.toArray 41 (0, 0)) ∧ c2.length = cur.length)
      case atStart => exact ⟨0, by omega, rfl, HB.out.1, cur, HB.out.2, rfl⟩
      case round =>
        obtain ⟨t, hkt, rfl, hg, c2, hc2, hl2⟩ := hrel
        by_cases hk : 0 < gk
        · have htb : t < 65536 := by have := HN.out; have := HN2.out; omega
          have HGK := hide (And.intro hk (And.intro hkt (And.intro hg (And.intro hc2 hl2))))
          have h1 : (0 : Int) ≤ (t : Int) := by omega
          have h2 : (t : Int) < (N12 : Int) := by omega
          have qm := mk59_any 2 t (t : Int) rfl wr (by decide) (by decide) (by omega)
          clear hk hkt hg hc2 hl2
          go_wp2_with fail
          refine qm.mono ?_
          clear qm
          rintro e w3 ⟨rfl, hg3⟩
          have hb3 : w3.heap[g]? = some (.cells c2.toArray 41 (0, 0)) := (hg3.block _ (row_lt HGK.out.2.2.2.1) (by simp)).trans HGK.out.2.2.2.1
          have hlen : t * 3 + 2 < c2.length := by have := HGK.out; have := HC.out; have := HN.out; rw [HGK.out.2.2.2.2, HC.out.2.1]; omega
          obtain ⟨v0, x0⟩ := cell_at (o := t * 3) hb3 (by omega)
          obtain ⟨v1, x1⟩ := cell_at (o := t * 3 + 1) hb3 (by omega)
          obtain ⟨v2, x2⟩ := cell_at (o := t * 3 + 2) hb3 (by omega)
          have y0 := free_row hb3 (t * 3)
          have y1 := free_row hb3 (t * 3 + 1)
          have y2 := free_row hb3 (t * 3 + 2)
          generalize mkI 2 (t : Int) = M at *
          obtain ⟨⟨c3, hc3, hl3⟩, hgs⟩ := set3F (o := t * 3) hb3 (.int .u64 0) (.int .u64 M) (.slice none 0 0)
          have HZ : Hid (Kept W (((w3.setCell ⟨g, t * 3, none⟩ (.int .u64 0)).setCell ⟨g, t * 3 + 1, none⟩ (.int .u64 M)).setCell ⟨g, t * 3 + 2, none⟩ (.slice none 0 0)) (Lfo (.slice (some ⟨g, 0, none⟩) (j + 12) c) L)) := HGK.out.2.2.1.trans (Kept.of (grown_trans (grown_none hg3 (some g)) hgs) (S := fun b => b = g) (fun _ e _ => (Option.some.inj e).symm)) (fun b _ e => .inl (by rw [e]; rfl))
          have HZ2 := hide (And.intro hc3 (hl3.trans HGK.out.2.2.2.2))
          clear hg3 hb3 hlen hc3 hl3 hgs
          go_wp2
          go_roundg (gk - 1)
          case measure => have := HGK.out; omega
          case rel => exact ⟨t + 1, by have := HGK.out; omega, by go_num, HZ.out, c3, HZ2.out.1, HZ2.out.2⟩
        · have HG := hide hg
          obtain rfl : t = N12 := by omega
          clear hg hkt hk hc2 hl2
          go_wp2
          go_end0
          exact ⟨rfl, HG.out⟩
end Go.Proofs.YtinkkocleognbaaGreatDoor
