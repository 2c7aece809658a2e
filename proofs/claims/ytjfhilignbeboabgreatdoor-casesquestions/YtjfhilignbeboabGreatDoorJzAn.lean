/- Texts joined: Cs2, Cs3, Cr, Cs4, Cs5, Cs6. -/
import Derived.Test.YtjfhilignbeboabGreatDoorJzAm
import Derived.Test.YtjfhilignbeboabGreatDoorJzAc
import Derived.Laws.EntriesVeiled
import Derived.Laws.ResultCell
import Derived.LoopN
namespace Go.Proofs.YtjfhilignbeboabGreatDoor
/- cases: the checks that ask the book. -/
open Go.RowKit
attribute [local go_sem ↓] Go.wp_at_zero Go.wp_at_succ
attribute [local go_sem] Oper.semAt_some
theorem fieldA (a b c : Int) (w : World) : (Instr.field 44 (.agg #[.int .i64 a, .int .i64 b, .int .i64 c]) 0).run Tryz.prog w = .ok (.int .i64 a) w := by kernel_rfl
theorem fieldB (a b c : Int) (w : World) : (Instr.field 44 (.agg #[.int .i64 a, .int .i64 b, .int .i64 c]) 1).run Tryz.prog w = .ok (.int .i64 b) w := by kernel_rfl
theorem geq_f {a : Act} {o : Oper} {x y : Operand} {t : TypeId} {k : IntKind} {p q : Int} (ho : o.op = .binOp .geq t x y t) (hx : a.eval x = .int k p) (hy : a.eval y = .int k q) (h : p < q) (w : World) : (execOp a.eval o).run Tryz.prog w = .ok (.value (.bool false)) w := by
  have hd : decide (p ≥ q) = false := by rw [decide_eq_false_iff_not]; omega
  unfold execOp
  simp only [ho, hx, hy]
  go_simp
theorem geq_t {a : Act} {o : Oper} {x y : Operand} {t : TypeId} {k : IntKind} {p q : Int} (ho : o.op = .binOp .geq t x y t) (hx : a.eval x = .int k p) (hy : a.eval y = .int k q) (h : q ≤ p) (w : World) : (execOp a.eval o).run Tryz.prog w = .ok (.value (.bool true)) w := by
  have hd : decide (p ≥ q) = true := by rw [decide_eq_true_iff]; omega
  unfold execOp
  simp only [ho, hx, hy]
  go_simp
section
variable {w : World} {p : Bp} {S : Sb} {K : Nat}
/-- The matter in its box, the book below. -/
theorem Bm.ma {W : World} {X : Nat} {b : Nat} {room : Int} {q : Rs.Rq} (h : Bm w W X (maC b room q) 106 p S K) : W.cell? ⟨X, 0, none⟩ = some (.pointer (some ⟨b, 0, none⟩)) ∧ W.cell? ⟨X, 1, none⟩ = some (.int .i64 room) ∧ W.cell? ⟨X, 2, none⟩ = some (.int .i64 q.k) ∧ W.cell? ⟨X, 3, none⟩ = some (.int .u32 q.t) ∧ W.cell? ⟨X, 4, none⟩ = some (.int .u32 q.i) ∧ W.cell? ⟨X, 5, none⟩ = some (.int .i64 q.s) ∧ W.cell? ⟨X, 6, none⟩ = some (.int .i64 q.u) := bx7 h.box
set_option maxHeartbeats 4000000 in
theorem seatIs_any (h : BkAt w p S K) (room : Int) (q : Rs.Rq) : Calls Tryz.prog 88 #[maV p.b room q] w fun e w' => e = .returned (.int .i64 (stE S q)) ∧ w.grownBy w' none := by
  have m0 := Bm.start h (maC p.b room q) 106
  have HS : Hid (∀ W, w.grownBy W none → Calls Tryz.prog 7 #[.pointer (some ⟨p.b, 0, none⟩)] W fun e w' => e = .returned (limV S.a S.b S.c) ∧ W.grownBy w' none) := fun W g => shape_any (h.then g)
  obtain ⟨c0, c1, c2, c3, c4, c5, c6⟩ := m0.ma
  have HM := hide m0
  clear h m0
  unfold maV
  unfold limV at HS
  unfold maC at HM c0 c1 c2 c3 c4 c5 c6
  unfold stE
  generalize hb : p.b = b at *
  have HB := hide hb
  clear hb
  generalize (S.a : Int) = sa at *
  generalize (S.b : Int) = sb' at *
  generalize (S.c : Int) = sc' at *
  generalize q.s = s at *
  have hfd := fieldA sa sb' sc'
  by_cases hs : s < sa
  · rw [if_pos hs]
    go_enter Tryz.func88, Tryz.ntmps88
    go_wp2
    generalize World.alloc w _ = w1 at *
    go_region_with (go_at_call 7; refine (HS.out _ (grown_trans HM.out.gr (grown_drew _ none))).mono ?_; rintro e w2 ⟨rfl, hg2⟩; have m2 := (HM.out.then (grown_drew w1 none)).then hg2; have d0 := m2.cells 0 _ rfl; have d5 := m2.cells 5 _ rfl; have H2 := hide m2; clear m2 hg2)
    all_goals go_wp2
    all_goals go_ret
    all_goals exact ⟨rfl, H2.out.gr⟩
  · rw [if_neg hs]
    have hs2 : sa ≤ s := by omega
    clear hs
    go_enter Tryz.func88, Tryz.ntmps88
    go_wp2
    generalize World.alloc w _ = w1 at *
    go_region_with (go_at_call 7; refine (HS.out _ (grown_trans HM.out.gr (grown_drew _ none))).mono ?_; rintro e w2 ⟨rfl, hg2⟩; have m2 := (HM.out.then (grown_drew w1 none)).then hg2; have d0 := m2.cells 0 _ rfl; have d5 := m2.cells 5 _ rfl; have H2 := hide m2; clear m2 hg2)
    all_goals go_wp2
    all_goals go_ret
    all_goals exact ⟨rfl, H2.out.gr⟩
set_option maxHeartbeats 4000000 in
theorem then_any (h : BkAt w p S K) (room : Int) (q : Rs.Rq) (h0 : 0 ≤ S.t) (h1 : S.t ≤ mxC) (h2 : 1 ≤ q.u) (h3 : q.u ≤ mxT) : Calls Tryz.prog 112 #[maV p.b room q] w fun e w' => e = .returned (.int .i64 (S.t + q.u)) ∧ w.grownBy w' none := by
  have m0 := Bm.start h (maC p.b room q) 106
  have HS : Hid (∀ W, w.grownBy W none → Calls Tryz.prog 132 #[.pointer (some ⟨p.b, 0, none⟩)] W fun e w' => e = .returned (.int .i64 S.t) ∧ w' = W) := fun W g => clock_any (h.then g)
  obtain ⟨c0, c1, c2, c3, c4, c5, c6⟩ := m0.ma
  have HM := hide m0
  clear h m0
  have hw : IntKind.i64.wrap (S.t + q.u) = S.t + q.u := by unfold mxT at h3; unfold mxC at h1; rw [IntKind.wrap_i64]; omega
  clear h0 h1 h2 h3
  unfold maV
  unfold maC at HM c0 c1 c2 c3 c4 c5 c6
  generalize hb : p.b = b at *
  have HB := hide hb
  clear hb
  generalize S.t = t at *
  generalize q.u = u at *
  go_enter Tryz.func112, Tryz.ntmps112
  go_wp2
  generalize World.alloc w _ = w1 at *
  go_region_held3 (fun W => W.cell? ⟨w.heap.size, 0, none⟩ = some (.pointer (some ⟨b, 0, none⟩)) ∧ W.cell? ⟨w.heap.size, 6, none⟩ = some (.int .i64 u)) (first | assumption | exact ⟨c0, c6⟩) ((go_at_call 132; refine (HS.out _ (grown_trans HM.out.gr (grown_drew _ none))).mono ?_; rintro e w2 ⟨rfl, hw2⟩; obtain rfl := hw2.symm; have m2 := HM.out.then (grown_drew w1 none); have hK := And.intro (m2.cells 0 _ rfl) (m2.cells 6 _ rfl)))
  go_wp2
  go_ret
  exact ⟨rfl, m2.gr⟩
set_option maxHeartbeats 4000000 in
theorem clock_ck (h : BkAt w p S K) (room : Int) (q : Rs.Rq) (h0 : 0 ≤ S.t) (h1 : S.t ≤ mxC) (h2 : 1 ≤ q.u) (h3 : q.u ≤ mxT) : Calls Tryz.prog 90 #[maV p.b room q] w fun e w' => e = .returned (.int .i64 (clE S q)) ∧ w.grownBy w' none := by
  have hG := hide (grown_alloc w (.cells (maC p.b room q).toArray 106))
  have HT := hide (then_any (h.then hG.out) room q h0 h1 h2 h3)
  unfold clE
  clear h h0 h1 h2 h3
  unfold maV at *
  unfold maC at *
  generalize p.b = b at *
  generalize S.t + q.u = tu at *
  by_cases hc : mxC < tu
  · rw [if_pos hc]
    have hc1 : (1099511627776 : Int) < tu := hc
    clear hc
    go_enter Tryz.func90, Tryz.ntmps90
    go_wp2_with fail
    refine HT.out.mono ?_
    rintro e w2 ⟨rfl, hg⟩
    go_wp2
    go_ret
    exact ⟨rfl, grown_trans hG.out hg⟩
  · rw [if_neg hc]
    have hc2 : tu ≤ (1099511627776 : Int) := by unfold mxC at hc; omega
    clear hc
    go_enter Tryz.func90, Tryz.ntmps90
    go_wp2_with fail
    refine HT.out.mono ?_
    rintro e w2 ⟨rfl, hg⟩
    go_wp2
    go_ret
    exact ⟨rfl, grown_trans hG.out hg⟩
set_option maxHeartbeats 4000000 in
theorem free_ck (h : BkAt w p S K) (hw : S.Wk) (room : Int) (q : Rs.Rq) : Calls Tryz.prog 91 #[maV p.b room q] w fun e w' => e = .returned (.int .i64 (frE S q)) ∧ w.grownBy w' none := by
  have m0 := Bm.start h (maC p.b room q) 106
  have HS : Hid (∀ W, w.grownBy W none → Calls Tryz.prog 20 #[.pointer (some ⟨p.b, 0, none⟩), .int .i64 q.s] W fun e w' => e = .returned (.tuple #[bgV (atX S q.s), .int .i64 (atE S q.s)]) ∧ W.grownBy w' none) := fun W g => at_any (h.then g) hw q.s
  obtain ⟨c0, c1, c2, c3, c4, c5, c6⟩ := m0.ma
  have HM := hide m0
  clear h m0 hw
  unfold frE
  generalize atX S q.s = x at *
  generalize atE S q.s = er at *
  obtain ⟨xi, xs, xu⟩ := x
  unfold bgV at HS
  unfold maV
  unfold maC at HM c0 c1 c2 c3 c4 c5 c6
  generalize hb : p.b = b at *
  have HB := hide hb
  clear hb
  simp only at HS ⊢
  generalize hwa : World.alloc w _ = w1 at HM c0 c1 c2 c3 c4 c5 c6
  have HA := hide hwa
  by_cases he : er = 0
  · subst he
    by_cases hi : (xi : Int) = q.i
    · rw [if_neg (by rintro ⟨-, h⟩; exact h hi)]
      have f1 : ((xi : Int) != q.i) = false := by rw [hi]; simp
      have f2 : decide ((xi : Int) = q.i) = true := decide_eq_true hi
      clear hi
      go_enter Tryz.func91, Tryz.ntmps91
      go_wp2_with fail
      clear hwa
      refine (HS.out w1 HM.out.gr).mono ?_
      rintro e w2 ⟨rfl, hg⟩
      have m2 := (HM.out.then hg).then (grown_alloc w2 (.cells #[.int .u32 (xi : Int), .int .i64 (xs : Int), .int .i64 xu] 34))
      have d4 := m2.cells 4 _ rfl
      have H2 := hide m2
      clear m2 hg HM
      go_wp2
      go_ret
      exact ⟨rfl, H2.out.gr⟩
    · rw [if_pos ⟨rfl, hi⟩]
      have f1 : ((xi : Int) != q.i) = true := by simpa using hi
      have f2 : decide ((xi : Int) = q.i) = false := decide_eq_false hi
      clear hi
      go_enter Tryz.func91, Tryz.ntmps91
      go_wp2_with fail
      clear hwa
      refine (HS.out w1 HM.out.gr).mono ?_
      rintro e w2 ⟨rfl, hg⟩
      have m2 := (HM.out.then hg).then (grown_alloc w2 (.cells #[.int .u32 (xi : Int), .int .i64 (xs : Int), .int .i64 xu] 34))
      have d4 := m2.cells 4 _ rfl
      have H2 := hide m2
      clear m2 hg HM
      go_wp2
      go_ret
      exact ⟨rfl, H2.out.gr⟩
  · rw [if_neg (by rintro ⟨h, -⟩; exact he h)]
    have f1 : (er == 0) = false := by simpa using he
    have f2 : decide (er = 0) = false := decide_eq_false he
    clear he
    go_enter Tryz.func91, Tryz.ntmps91
    go_wp2_with fail
    clear hwa
    refine (HS.out w1 HM.out.gr).mono ?_
    rintro e w2 ⟨rfl, hg⟩
    have m2 := (HM.out.then hg).then (grown_alloc w2 (.cells #[.int .u32 (xi : Int), .int .i64 (xs : Int), .int .i64 xu] 34))
    have d4 := m2.cells 4 _ rfl
    have H2 := hide m2
    clear m2 hg HM
    go_wp2
    go_ret
    exact ⟨rfl, H2.out.gr⟩
set_option maxHeartbeats 4000000 in
theorem idIs_any (h : BkAt w p S K) (hw : S.Wk) (room : Int) (q : Rs.Rq) (h0 : 0 ≤ q.i) (h1 : q.i < 4294967296) : Calls Tryz.prog 95 #[maV p.b room q] w fun e w' => e = .returned (.int .i64 (idE S q)) ∧ Mt w w' p S K [] := by
  have m0 := (Mt.start h).box (maC p.b room q) 106
  obtain ⟨n, hn⟩ := Int.eq_ofNat_of_zero_le h0
  have HG := get_any m0.bk hw n (by omega)
  rw [← hn] at HG
  unfold idE
  rw [hn, Int.toNat_natCast]
  generalize (fnd S.L n).getD ⟨0, 0, 0⟩ = x at *
  generalize (if (fnd S.L n).isSome = true then (0 : Int) else 171) = er at *
  obtain ⟨xi, xs, xu⟩ := x
  unfold bgV at HG
  obtain ⟨c0, c1, c2, c3, c4, c5, c6⟩ := bx7 (m0.bx (w.heap.size, maC p.b room q, 106) (by simp)).1
  have HM := hide m0
  clear h m0 hw h0 h1 hn
  have HH := hide HG
  clear HG
  unfold maV
  unfold maC at HM HH
  generalize hb : p.b = b at *
  have HB := hide hb
  clear hb
  go_enter Tryz.func95, Tryz.ntmps95
  go_wp2_with fail
  refine HH.out.mono ?_
  rintro e w2 ⟨rfl, hA, hk⟩
  go_wp2
  go_ret
  exact ⟨rfl, ((HM.out.go hk hA).then (grown_alloc w2 _)).bare⟩
set_option maxHeartbeats 4000000 in
theorem room_ck (h : BkAt w p S K) (room : Int) (q : Rs.Rq) : Calls Tryz.prog 92 #[maV p.b room q] w fun e w' => e = .returned (.int .i64 (rmE S)) ∧ w.grownBy w' none := by
  have m0 := Bm.start h (maC p.b room q) 106
  have HS : Hid (∀ W, w.grownBy W none → Calls Tryz.prog 7 #[.pointer (some ⟨p.b, 0, none⟩)] W fun e w' => e = .returned (limV S.a S.b S.c) ∧ W.grownBy w' none) := fun W g => shape_any (h.then g)
  have HL : Hid (∀ W, w.grownBy W none → Calls Tryz.prog 21 #[.pointer (some ⟨p.b, 0, none⟩)] W fun e w' => e = .returned (.int .i64 (S.L.length : Int)) ∧ w' = W) := fun W g => len_any (h.then g)
  have HN : Hid (∀ W, w.grownBy W none → Calls Tryz.prog 113 #[.pointer (some ⟨p.b, 0, none⟩)] W fun e w' => e = .returned (.int .u32 (S.n : Int)) ∧ w' = W) := fun W g => next_any (h.then g)
  obtain ⟨c0, c1, c2, c3, c4, c5, c6⟩ := m0.ma
  have HM := hide m0
  clear h m0
  unfold maV
  unfold limV at HS
  unfold maC at HM c0 c1 c2 c3 c4 c5 c6
  unfold rmE
  generalize hb : p.b = b at *
  have HB := hide hb
  clear hb
  have hq1 : (if S.b ≤ S.L.length ∨ S.n = 4294967295 then (6 : Int) else 0) = if (S.b : Int) ≤ (S.L.length : Int) ∨ (S.n : Int) = 4294967295 then 6 else 0 := by
    by_cases hh : S.b ≤ S.L.length ∨ S.n = 4294967295
    · rw [if_pos hh, if_pos (by omega)]
    · rw [if_neg hh, if_neg (by omega)]
  rw [hq1]
  clear hq1
  generalize (S.a : Int) = sa at *
  generalize (S.b : Int) = sb' at *
  generalize (S.c : Int) = sc' at *
  generalize (S.L.length : Int) = l at *
  generalize (S.n : Int) = n at *
  have hfd := fieldB sa sb' sc'
  have HK : Hid (∀ W, Bm w W w.heap.size [.pointer (some ⟨b, 0, none⟩), .int .i64 room, .int .i64 q.k, .int .u32 q.t, .int .u32 q.i, .int .i64 q.s, .int .i64 q.u] 106 p S K → W.cell? ⟨w.heap.size, 0, none⟩ = some (.pointer (some ⟨b, 0, none⟩))) := fun W hW => hW.cells 0 _ rfl
  by_cases h1 : sb' ≤ l
  · rw [if_pos (.inl h1)]
    go_enter Tryz.func92, Tryz.ntmps92
    go_wp2
    generalize World.alloc w _ = w1 at *
    refine wp_region_held_drew (S := (fun W => W.cell? ⟨w.heap.size, 0, none⟩ = some (.pointer (some ⟨b, 0, none⟩)))) (by kernel_rfl) ?_ (fun hHeld => ?_)
    · (exact HK.out _ (HM.out.then (grown_drew _ none)))
    refine tkH (i := 0) (oi := { dst := some 3, op := Go.Op.fieldAddr 106 (Go.Operand.tmp 1) 0, type := 0, pos := "cases.go:148", after := #[], guard := none }) (v := ?_) rfl ?_ ?_
    rotate_left
    · (intro w hSw; (try dsimp only at hSw); (go_simp <;> with_reducible rfl))
    try simp only [Act.put, List.setIfInBounds_toArray, List.set_cons_zero, List.set_cons_succ]
    refine tkH (i := 1) (oi := { dst := some 4, op := Go.Op.load 26 (Go.Operand.tmp 3), type := 26, pos := "cases.go:148", after := #[{ on := 0, ground := Go.Ground.data }], guard := none }) (v := ?_) rfl ?_ ?_
    rotate_left
    · (intro w hSw; (try dsimp only at hSw); (go_simp <;> with_reducible rfl))
    try simp only [Act.put, List.setIfInBounds_toArray, List.set_cons_zero, List.set_cons_succ]
    refine tkH (i := 3) (oi := { dst := some 6, op := Go.Op.fieldAddr 106 (Go.Operand.tmp 1) 0, type := 0, pos := "cases.go:148", after := #[], guard := none }) (v := ?_) rfl ?_ ?_
    rotate_left
    · (intro w hSw; (try dsimp only at hSw); (go_simp <;> with_reducible rfl))
    try simp only [Act.put, List.setIfInBounds_toArray, List.set_cons_zero, List.set_cons_succ]
    refine tkH (i := 4) (oi := { dst := some 7, op := Go.Op.load 26 (Go.Operand.tmp 6), type := 26, pos := "cases.go:148", after := #[{ on := 3, ground := Go.Ground.data }], guard := none }) (v := ?_) rfl ?_ ?_
    rotate_left
    · (intro w hSw; (try dsimp only at hSw); (go_simp <;> with_reducible rfl))
    try simp only [Act.put, List.setIfInBounds_toArray, List.set_cons_zero, List.set_cons_succ]
    refine rdH (i := 2) (o := { dst := some 5, op := Go.Op.call { callee := Go.Callee.value (Go.Operand.func 21), args := #[Go.Operand.tmp 4], argTypes := #[26] }, type := 3, pos := "cases.go:148", after := #[{ on := 1, ground := Go.Ground.data }], guard := none }) rfl (fun K hK => ?_)
    go_simp
    refine (HL.out _ (grown_trans HM.out.gr (grown_drew _ none))).mono ?_; rintro e wx ⟨rfl, hwx⟩; obtain rfl := hwx.symm
    go_wp2_with fail
    refine hK.out _ _ ?_ (fun hHeld => ?_)
    · ((try dsimp only); assumption)
    clear hK K
    try simp only [Act.put, List.setIfInBounds_toArray, List.set_cons_zero, List.set_cons_succ]
    refine rdH (i := 5) (o := { dst := some 8, op := Go.Op.call { callee := Go.Callee.value (Go.Operand.func 7), args := #[Go.Operand.tmp 7], argTypes := #[26] }, type := 44, pos := "cases.go:148", after := #[{ on := 4, ground := Go.Ground.data }, { on := 2, ground := Go.Ground.chain }], guard := none }) rfl (fun K hK => ?_)
    go_simp
    refine (HS.out _ (grown_trans HM.out.gr (grown_drew _ none))).mono ?_; rintro e w2 ⟨rfl, hg2⟩; have m2 := (HM.out.then (grown_drew w1 none)).then hg2; have hJ := HK.out _ m2
    go_wp2_with fail
    refine hK.out _ _ ?_ (fun hHeld => ?_)
    · ((try dsimp only); assumption)
    clear hK K
    try simp only [Act.put, List.setIfInBounds_toArray, List.set_cons_zero, List.set_cons_succ]
    refine tkH (i := 6) (oi := { dst := some 9, op := Go.Op.field 44 (Go.Operand.tmp 8) 1, type := 3, pos := "cases.go:148", after := #[{ on := 5, ground := Go.Ground.data }], guard := none }) (v := ?_) rfl ?_ ?_
    rotate_left
    · (intro w hSw; (try dsimp only at hSw); (go_simp <;> with_reducible rfl))
    try simp only [Act.put, List.setIfInBounds_toArray, List.set_cons_zero, List.set_cons_succ]
    refine tkH (i := 7) (oi := { dst := some 10, op := Go.Op.binOp Go.BinOp.geq 3 (Go.Operand.tmp 5) (Go.Operand.tmp 9) 3, type := 4, pos := "cases.go:148", after := #[{ on := 2, ground := Go.Ground.data }, { on := 6, ground := Go.Ground.data }], guard := none }) (v := ?_) rfl ?_ ?_
    rotate_left
    · (intro w hSw; refine geq_t (t := 3) (k := .i64) (x := .tmp 5) (y := .tmp 9) (p := l) (q := sb') ?_ ?_ ?_ h1 w <;> rfl)
    try simp only [Act.put, List.setIfInBounds_toArray, List.set_cons_zero, List.set_cons_succ]
    refine tkH (i := 8) (oi := { dst := some 11, op := Go.Op.move (Go.Operand.tmp 10), type := 4, pos := "cases.go:148", after := #[{ on := 7, ground := Go.Ground.data }, { on := 5, ground := Go.Ground.chain }], guard := none }) (v := ?_) rfl ?_ ?_
    rotate_left
    · (intro w hSw; (try dsimp only at hSw); (go_simp <;> with_reducible rfl))
    try simp only [Act.put, List.setIfInBounds_toArray, List.set_cons_zero, List.set_cons_succ]
    refine wpAnyH_take (i := 9) (oi := { dst := some 12, op := Go.Op.fieldAddr 106 (Go.Operand.tmp 1) 0, type := 0, pos := "cases.go:148", after := #[{ on := 8, ground := Go.Ground.guard }], guard := some (8, false) }) (v := undef) rfl (by kernel_rfl) (by kernel_rfl) (by kernel_rfl) (fun _ _ _ h => h) (Or.inr ⟨by rfl, rfl⟩) (by assumption) ?_
    try simp only [Act.put, List.setIfInBounds_toArray, List.set_cons_zero, List.set_cons_succ]
    refine wpAnyH_take (i := 10) (oi := { dst := some 13, op := Go.Op.load 26 (Go.Operand.tmp 12), type := 26, pos := "cases.go:148", after := #[{ on := 9, ground := Go.Ground.data }, { on := 8, ground := Go.Ground.guard }], guard := some (8, false) }) (v := undef) rfl (by kernel_rfl) (by kernel_rfl) (by kernel_rfl) (fun _ _ _ h => h) (Or.inr ⟨by rfl, rfl⟩) (by assumption) ?_
    try simp only [Act.put, List.setIfInBounds_toArray, List.set_cons_zero, List.set_cons_succ]
    refine wpAnyH_take (i := 11) (oi := { dst := some 14, op := Go.Op.call { callee := Go.Callee.value (Go.Operand.func 113), args := #[Go.Operand.tmp 13], argTypes := #[26] }, type := 23, pos := "cases.go:148", after := #[{ on := 10, ground := Go.Ground.data }, { on := 8, ground := Go.Ground.chain }, { on := 8, ground := Go.Ground.guard }], guard := some (8, false) }) (v := undef) rfl (by kernel_rfl) (by kernel_rfl) (by kernel_rfl) (fun _ _ _ h => h) (Or.inr ⟨by rfl, rfl⟩) (by assumption) ?_
    try simp only [Act.put, List.setIfInBounds_toArray, List.set_cons_zero, List.set_cons_succ]
    refine wpAnyH_take (i := 12) (oi := { dst := some 15, op := Go.Op.binOp Go.BinOp.eql 23 (Go.Operand.tmp 14) (Go.Operand.const (Go.Value.int Go.IntKind.u32 4294967295)) 23, type := 4, pos := "cases.go:148", after := #[{ on := 11, ground := Go.Ground.data }, { on := 8, ground := Go.Ground.guard }], guard := some (8, false) }) (v := undef) rfl (by kernel_rfl) (by kernel_rfl) (by kernel_rfl) (fun _ _ _ h => h) (Or.inr ⟨by rfl, rfl⟩) (by assumption) ?_
    try simp only [Act.put, List.setIfInBounds_toArray, List.set_cons_zero, List.set_cons_succ]
    refine tkH (i := 13) (oi := { dst := some 16, op := Go.Op.pick (Go.Operand.tmp 11) (Go.Operand.const (Go.Value.bool true)) (Go.Operand.tmp 15), type := 4, pos := "cases.go:148", after := #[{ on := 8, ground := Go.Ground.data }, { on := 12, ground := Go.Ground.data }], guard := none }) (v := ?_) rfl ?_ ?_
    rotate_left
    · (intro w hSw; (try dsimp only at hSw); (go_simp <;> with_reducible rfl))
    try simp only [Act.put, List.setIfInBounds_toArray, List.set_cons_zero, List.set_cons_succ]
    refine wpAnyH_done (by kernel_rfl) ?_ _
    go_wp2
    go_ret
    exact ⟨rfl, m2.gr⟩
  · have h1 : l < sb' := by omega
    by_cases h2 : n = 4294967295
    · rw [if_pos (.inr h2)]
      have f1 : (n == 4294967295) = true := by simpa using h2
      have f2 : decide (n = 4294967295) = true := by simpa using h2
      clear h2
      go_enter Tryz.func92, Tryz.ntmps92
      go_wp2
      generalize World.alloc w _ = w1 at *
      refine wp_region_held_drew (S := (fun W => W.cell? ⟨w.heap.size, 0, none⟩ = some (.pointer (some ⟨b, 0, none⟩)))) (by kernel_rfl) ?_ (fun hHeld => ?_)
      · (exact HK.out _ (HM.out.then (grown_drew _ none)))
      refine tkH (i := 0) (oi := { dst := some 3, op := Go.Op.fieldAddr 106 (Go.Operand.tmp 1) 0, type := 0, pos := "cases.go:148", after := #[], guard := none }) (v := ?_) rfl ?_ ?_
      rotate_left
      · (intro w hSw; (try dsimp only at hSw); (go_simp <;> with_reducible rfl))
      try simp only [Act.put, List.setIfInBounds_toArray, List.set_cons_zero, List.set_cons_succ]
      refine tkH (i := 1) (oi := { dst := some 4, op := Go.Op.load 26 (Go.Operand.tmp 3), type := 26, pos := "cases.go:148", after := #[{ on := 0, ground := Go.Ground.data }], guard := none }) (v := ?_) rfl ?_ ?_
      rotate_left
      · (intro w hSw; (try dsimp only at hSw); (go_simp <;> with_reducible rfl))
      try simp only [Act.put, List.setIfInBounds_toArray, List.set_cons_zero, List.set_cons_succ]
      refine tkH (i := 3) (oi := { dst := some 6, op := Go.Op.fieldAddr 106 (Go.Operand.tmp 1) 0, type := 0, pos := "cases.go:148", after := #[], guard := none }) (v := ?_) rfl ?_ ?_
      rotate_left
      · (intro w hSw; (try dsimp only at hSw); (go_simp <;> with_reducible rfl))
      try simp only [Act.put, List.setIfInBounds_toArray, List.set_cons_zero, List.set_cons_succ]
      refine tkH (i := 4) (oi := { dst := some 7, op := Go.Op.load 26 (Go.Operand.tmp 6), type := 26, pos := "cases.go:148", after := #[{ on := 3, ground := Go.Ground.data }], guard := none }) (v := ?_) rfl ?_ ?_
      rotate_left
      · (intro w hSw; (try dsimp only at hSw); (go_simp <;> with_reducible rfl))
      try simp only [Act.put, List.setIfInBounds_toArray, List.set_cons_zero, List.set_cons_succ]
      refine rdH (i := 2) (o := { dst := some 5, op := Go.Op.call { callee := Go.Callee.value (Go.Operand.func 21), args := #[Go.Operand.tmp 4], argTypes := #[26] }, type := 3, pos := "cases.go:148", after := #[{ on := 1, ground := Go.Ground.data }], guard := none }) rfl (fun K hK => ?_)
      go_simp
      refine (HL.out _ (grown_trans HM.out.gr (grown_drew _ none))).mono ?_; rintro e wx ⟨rfl, hwx⟩; obtain rfl := hwx.symm
      go_wp2_with fail
      refine hK.out _ _ ?_ (fun hHeld => ?_)
      · ((try dsimp only); assumption)
      clear hK K
      try simp only [Act.put, List.setIfInBounds_toArray, List.set_cons_zero, List.set_cons_succ]
      refine rdH (i := 5) (o := { dst := some 8, op := Go.Op.call { callee := Go.Callee.value (Go.Operand.func 7), args := #[Go.Operand.tmp 7], argTypes := #[26] }, type := 44, pos := "cases.go:148", after := #[{ on := 4, ground := Go.Ground.data }, { on := 2, ground := Go.Ground.chain }], guard := none }) rfl (fun K hK => ?_)
      go_simp
      refine (HS.out _ (grown_trans HM.out.gr (grown_drew _ none))).mono ?_; rintro e w2 ⟨rfl, hg2⟩; have m2 := (HM.out.then (grown_drew w1 none)).then hg2; have hJ := HK.out _ m2
      go_wp2_with fail
      refine hK.out _ _ ?_ (fun hHeld => ?_)
      · ((try dsimp only); assumption)
      clear hK K
      try simp only [Act.put, List.setIfInBounds_toArray, List.set_cons_zero, List.set_cons_succ]
      refine tkH (i := 6) (oi := { dst := some 9, op := Go.Op.field 44 (Go.Operand.tmp 8) 1, type := 3, pos := "cases.go:148", after := #[{ on := 5, ground := Go.Ground.data }], guard := none }) (v := ?_) rfl ?_ ?_
      rotate_left
      · (intro w hSw; (try dsimp only at hSw); (go_simp <;> with_reducible rfl))
      try simp only [Act.put, List.setIfInBounds_toArray, List.set_cons_zero, List.set_cons_succ]
      refine tkH (i := 7) (oi := { dst := some 10, op := Go.Op.binOp Go.BinOp.geq 3 (Go.Operand.tmp 5) (Go.Operand.tmp 9) 3, type := 4, pos := "cases.go:148", after := #[{ on := 2, ground := Go.Ground.data }, { on := 6, ground := Go.Ground.data }], guard := none }) (v := ?_) rfl ?_ ?_
      rotate_left
      · (intro w hSw; refine geq_f (t := 3) (k := .i64) (x := .tmp 5) (y := .tmp 9) (p := l) (q := sb') ?_ ?_ ?_ h1 w <;> rfl)
      try simp only [Act.put, List.setIfInBounds_toArray, List.set_cons_zero, List.set_cons_succ]
      refine tkH (i := 8) (oi := { dst := some 11, op := Go.Op.move (Go.Operand.tmp 10), type := 4, pos := "cases.go:148", after := #[{ on := 7, ground := Go.Ground.data }, { on := 5, ground := Go.Ground.chain }], guard := none }) (v := ?_) rfl ?_ ?_
      rotate_left
      · (intro w hSw; (try dsimp only at hSw); (go_simp <;> with_reducible rfl))
      try simp only [Act.put, List.setIfInBounds_toArray, List.set_cons_zero, List.set_cons_succ]
      refine tkH (i := 9) (oi := { dst := some 12, op := Go.Op.fieldAddr 106 (Go.Operand.tmp 1) 0, type := 0, pos := "cases.go:148", after := #[{ on := 8, ground := Go.Ground.guard }], guard := some (8, false) }) (v := ?_) rfl ?_ ?_
      rotate_left
      · (intro w hSw; (try dsimp only at hSw); (go_simp <;> with_reducible rfl))
      try simp only [Act.put, List.setIfInBounds_toArray, List.set_cons_zero, List.set_cons_succ]
      refine tkH (i := 10) (oi := { dst := some 13, op := Go.Op.load 26 (Go.Operand.tmp 12), type := 26, pos := "cases.go:148", after := #[{ on := 9, ground := Go.Ground.data }, { on := 8, ground := Go.Ground.guard }], guard := some (8, false) }) (v := ?_) rfl ?_ ?_
      rotate_left
      · (intro w hSw; (try dsimp only at hSw); (go_simp <;> with_reducible rfl))
      try simp only [Act.put, List.setIfInBounds_toArray, List.set_cons_zero, List.set_cons_succ]
      refine rdH (i := 11) (o := { dst := some 14, op := Go.Op.call { callee := Go.Callee.value (Go.Operand.func 113), args := #[Go.Operand.tmp 13], argTypes := #[26] }, type := 23, pos := "cases.go:148", after := #[{ on := 10, ground := Go.Ground.data }, { on := 8, ground := Go.Ground.chain }, { on := 8, ground := Go.Ground.guard }], guard := some (8, false) }) rfl (fun K hK => ?_)
      go_simp
      refine (HN.out _ m2.gr).mono ?_; rintro e wx ⟨rfl, hwx⟩; obtain rfl := hwx.symm
      go_wp2_with fail
      refine hK.out _ _ ?_ (fun hHeld => ?_)
      · ((try dsimp only); assumption)
      clear hK K
      try simp only [Act.put, List.setIfInBounds_toArray, List.set_cons_zero, List.set_cons_succ]
      refine tkH (i := 12) (oi := { dst := some 15, op := Go.Op.binOp Go.BinOp.eql 23 (Go.Operand.tmp 14) (Go.Operand.const (Go.Value.int Go.IntKind.u32 4294967295)) 23, type := 4, pos := "cases.go:148", after := #[{ on := 11, ground := Go.Ground.data }, { on := 8, ground := Go.Ground.guard }], guard := some (8, false) }) (v := ?_) rfl ?_ ?_
      rotate_left
      · (intro w hSw; (try dsimp only at hSw); (go_simp <;> with_reducible rfl))
      try simp only [Act.put, List.setIfInBounds_toArray, List.set_cons_zero, List.set_cons_succ]
      refine tkH (i := 13) (oi := { dst := some 16, op := Go.Op.pick (Go.Operand.tmp 11) (Go.Operand.const (Go.Value.bool true)) (Go.Operand.tmp 15), type := 4, pos := "cases.go:148", after := #[{ on := 8, ground := Go.Ground.data }, { on := 12, ground := Go.Ground.data }], guard := none }) (v := ?_) rfl ?_ ?_
      rotate_left
      · (intro w hSw; (try dsimp only at hSw); (go_simp <;> with_reducible rfl))
      try simp only [Act.put, List.setIfInBounds_toArray, List.set_cons_zero, List.set_cons_succ]
      refine wpAnyH_done (by kernel_rfl) ?_ _
      go_wp2
      go_ret
      exact ⟨rfl, m2.gr⟩
    · rw [if_neg (by omega)]
      have f1 : (n == 4294967295) = false := by simpa using h2
      have f2 : decide (n = 4294967295) = false := by simpa using h2
      clear h2
      go_enter Tryz.func92, Tryz.ntmps92
      go_wp2
      generalize World.alloc w _ = w1 at *
      refine wp_region_held_drew (S := (fun W => W.cell? ⟨w.heap.size, 0, none⟩ = some (.pointer (some ⟨b, 0, none⟩)))) (by kernel_rfl) ?_ (fun hHeld => ?_)
      · (exact HK.out _ (HM.out.then (grown_drew _ none)))
      refine tkH (i := 0) (oi := { dst := some 3, op := Go.Op.fieldAddr 106 (Go.Operand.tmp 1) 0, type := 0, pos := "cases.go:148", after := #[], guard := none }) (v := ?_) rfl ?_ ?_
      rotate_left
      · (intro w hSw; (try dsimp only at hSw); (go_simp <;> with_reducible rfl))
      try simp only [Act.put, List.setIfInBounds_toArray, List.set_cons_zero, List.set_cons_succ]
      refine tkH (i := 1) (oi := { dst := some 4, op := Go.Op.load 26 (Go.Operand.tmp 3), type := 26, pos := "cases.go:148", after := #[{ on := 0, ground := Go.Ground.data }], guard := none }) (v := ?_) rfl ?_ ?_
      rotate_left
      · (intro w hSw; (try dsimp only at hSw); (go_simp <;> with_reducible rfl))
      try simp only [Act.put, List.setIfInBounds_toArray, List.set_cons_zero, List.set_cons_succ]
      refine tkH (i := 3) (oi := { dst := some 6, op := Go.Op.fieldAddr 106 (Go.Operand.tmp 1) 0, type := 0, pos := "cases.go:148", after := #[], guard := none }) (v := ?_) rfl ?_ ?_
      rotate_left
      · (intro w hSw; (try dsimp only at hSw); (go_simp <;> with_reducible rfl))
      try simp only [Act.put, List.setIfInBounds_toArray, List.set_cons_zero, List.set_cons_succ]
      refine tkH (i := 4) (oi := { dst := some 7, op := Go.Op.load 26 (Go.Operand.tmp 6), type := 26, pos := "cases.go:148", after := #[{ on := 3, ground := Go.Ground.data }], guard := none }) (v := ?_) rfl ?_ ?_
      rotate_left
      · (intro w hSw; (try dsimp only at hSw); (go_simp <;> with_reducible rfl))
      try simp only [Act.put, List.setIfInBounds_toArray, List.set_cons_zero, List.set_cons_succ]
      refine rdH (i := 2) (o := { dst := some 5, op := Go.Op.call { callee := Go.Callee.value (Go.Operand.func 21), args := #[Go.Operand.tmp 4], argTypes := #[26] }, type := 3, pos := "cases.go:148", after := #[{ on := 1, ground := Go.Ground.data }], guard := none }) rfl (fun K hK => ?_)
      go_simp
      refine (HL.out _ (grown_trans HM.out.gr (grown_drew _ none))).mono ?_; rintro e wx ⟨rfl, hwx⟩; obtain rfl := hwx.symm
      go_wp2_with fail
      refine hK.out _ _ ?_ (fun hHeld => ?_)
      · ((try dsimp only); assumption)
      clear hK K
      try simp only [Act.put, List.setIfInBounds_toArray, List.set_cons_zero, List.set_cons_succ]
      refine rdH (i := 5) (o := { dst := some 8, op := Go.Op.call { callee := Go.Callee.value (Go.Operand.func 7), args := #[Go.Operand.tmp 7], argTypes := #[26] }, type := 44, pos := "cases.go:148", after := #[{ on := 4, ground := Go.Ground.data }, { on := 2, ground := Go.Ground.chain }], guard := none }) rfl (fun K hK => ?_)
      go_simp
      refine (HS.out _ (grown_trans HM.out.gr (grown_drew _ none))).mono ?_; rintro e w2 ⟨rfl, hg2⟩; have m2 := (HM.out.then (grown_drew w1 none)).then hg2; have hJ := HK.out _ m2
      go_wp2_with fail
      refine hK.out _ _ ?_ (fun hHeld => ?_)
      · ((try dsimp only); assumption)
      clear hK K
      try simp only [Act.put, List.setIfInBounds_toArray, List.set_cons_zero, List.set_cons_succ]
      refine tkH (i := 6) (oi := { dst := some 9, op := Go.Op.field 44 (Go.Operand.tmp 8) 1, type := 3, pos := "cases.go:148", after := #[{ on := 5, ground := Go.Ground.data }], guard := none }) (v := ?_) rfl ?_ ?_
      rotate_left
      · (intro w hSw; (try dsimp only at hSw); (go_simp <;> with_reducible rfl))
      try simp only [Act.put, List.setIfInBounds_toArray, List.set_cons_zero, List.set_cons_succ]
      refine tkH (i := 7) (oi := { dst := some 10, op := Go.Op.binOp Go.BinOp.geq 3 (Go.Operand.tmp 5) (Go.Operand.tmp 9) 3, type := 4, pos := "cases.go:148", after := #[{ on := 2, ground := Go.Ground.data }, { on := 6, ground := Go.Ground.data }], guard := none }) (v := ?_) rfl ?_ ?_
      rotate_left
      · (intro w hSw; refine geq_f (t := 3) (k := .i64) (x := .tmp 5) (y := .tmp 9) (p := l) (q := sb') ?_ ?_ ?_ h1 w <;> rfl)
      try simp only [Act.put, List.setIfInBounds_toArray, List.set_cons_zero, List.set_cons_succ]
      refine tkH (i := 8) (oi := { dst := some 11, op := Go.Op.move (Go.Operand.tmp 10), type := 4, pos := "cases.go:148", after := #[{ on := 7, ground := Go.Ground.data }, { on := 5, ground := Go.Ground.chain }], guard := none }) (v := ?_) rfl ?_ ?_
      rotate_left
      · (intro w hSw; (try dsimp only at hSw); (go_simp <;> with_reducible rfl))
      try simp only [Act.put, List.setIfInBounds_toArray, List.set_cons_zero, List.set_cons_succ]
      refine tkH (i := 9) (oi := { dst := some 12, op := Go.Op.fieldAddr 106 (Go.Operand.tmp 1) 0, type := 0, pos := "cases.go:148", after := #[{ on := 8, ground := Go.Ground.guard }], guard := some (8, false) }) (v := ?_) rfl ?_ ?_
      rotate_left
      · (intro w hSw; (try dsimp only at hSw); (go_simp <;> with_reducible rfl))
      try simp only [Act.put, List.setIfInBounds_toArray, List.set_cons_zero, List.set_cons_succ]
      refine tkH (i := 10) (oi := { dst := some 13, op := Go.Op.load 26 (Go.Operand.tmp 12), type := 26, pos := "cases.go:148", after := #[{ on := 9, ground := Go.Ground.data }, { on := 8, ground := Go.Ground.guard }], guard := some (8, false) }) (v := ?_) rfl ?_ ?_
      rotate_left
      · (intro w hSw; (try dsimp only at hSw); (go_simp <;> with_reducible rfl))
      try simp only [Act.put, List.setIfInBounds_toArray, List.set_cons_zero, List.set_cons_succ]
      refine rdH (i := 11) (o := { dst := some 14, op := Go.Op.call { callee := Go.Callee.value (Go.Operand.func 113), args := #[Go.Operand.tmp 13], argTypes := #[26] }, type := 23, pos := "cases.go:148", after := #[{ on := 10, ground := Go.Ground.data }, { on := 8, ground := Go.Ground.chain }, { on := 8, ground := Go.Ground.guard }], guard := some (8, false) }) rfl (fun K hK => ?_)
      go_simp
      refine (HN.out _ m2.gr).mono ?_; rintro e wx ⟨rfl, hwx⟩; obtain rfl := hwx.symm
      go_wp2_with fail
      refine hK.out _ _ ?_ (fun hHeld => ?_)
      · ((try dsimp only); assumption)
      clear hK K
      try simp only [Act.put, List.setIfInBounds_toArray, List.set_cons_zero, List.set_cons_succ]
      refine tkH (i := 12) (oi := { dst := some 15, op := Go.Op.binOp Go.BinOp.eql 23 (Go.Operand.tmp 14) (Go.Operand.const (Go.Value.int Go.IntKind.u32 4294967295)) 23, type := 4, pos := "cases.go:148", after := #[{ on := 11, ground := Go.Ground.data }, { on := 8, ground := Go.Ground.guard }], guard := some (8, false) }) (v := ?_) rfl ?_ ?_
      rotate_left
      · (intro w hSw; (try dsimp only at hSw); (go_simp <;> with_reducible rfl))
      try simp only [Act.put, List.setIfInBounds_toArray, List.set_cons_zero, List.set_cons_succ]
      refine tkH (i := 13) (oi := { dst := some 16, op := Go.Op.pick (Go.Operand.tmp 11) (Go.Operand.const (Go.Value.bool true)) (Go.Operand.tmp 15), type := 4, pos := "cases.go:148", after := #[{ on := 8, ground := Go.Ground.data }, { on := 12, ground := Go.Ground.data }], guard := none }) (v := ?_) rfl ?_ ?_
      rotate_left
      · (intro w hSw; (try dsimp only at hSw); (go_simp <;> with_reducible rfl))
      try simp only [Act.put, List.setIfInBounds_toArray, List.set_cons_zero, List.set_cons_succ]
      refine wpAnyH_done (by kernel_rfl) ?_ _
      go_wp2
      go_ret
      exact ⟨rfl, m2.gr⟩
end
end Go.Proofs.YtjfhilignbeboabGreatDoor
namespace Go.Proofs.YtjfhilignbeboabGreatDoor
/- cases: the room of the log, and the records. -/
open Go.RowKit
attribute [local go_sem ↓] Go.wp_at_zero Go.wp_at_succ
attribute [local go_sem] Oper.semAt_some
theorem sz_le (k : Int) : sz k ≤ 15 := by
  unfold sz
  repeat' split
  all_goals omega
section
variable {w : World} {p : Bp} {S : Sb} {K : Nat}
set_option maxHeartbeats 4000000 in
theorem log_ck (b : Nat) (room : Int) (q : Rs.Rq) (c : Nat) (k : Int) (hc : w.heap[c]? = some (.cells [Value.int .i64 k].toArray 54 (0, 0))) (hT : Rk.Tab w) : Calls Tryz.prog 114 #[maV b room q, .pointer (some ⟨c, 0, none⟩)] w fun e w' => e = .returned (.int .i64 (lgE room k)) ∧ w.grownBy w' none := by
  have hG := grown_alloc w (.cells (maC b room q).toArray 106)
  have HZ : Hid (∀ W, w.grownBy W none → Calls Tryz.prog 116 #[.int .i64 k] W fun e w' => e = .returned (.int .i64 (sz k : Int)) ∧ W.grownBy w' none) := fun W g => Rk.size_any k W (hT.grown g (by simp))
  have HF := hide (fun W => fsize_any (sz k) (by have := sz_le k; omega) W)
  have HX : Hid (∀ W, (w.alloc (.cells (maC b room q).toArray 106)).grownBy W none → W.cell? ⟨c, 0, none⟩ = some (.int .i64 k) ∧ W.cell? ⟨w.heap.size, 1, none⟩ = some (.int .i64 room)) := by
    intro W g
    refine ⟨?_, ?_⟩
    · rw [cell_row ((g.block _ (row_lt ((hG.block _ (row_lt hc) (by simp)).trans hc)) (by simp)).trans ((hG.block _ (row_lt hc) (by simp)).trans hc))]; rfl
    · rw [cell_row ((g.block _ (row_lt (heap_alloc_new w _)) (by simp)).trans (heap_alloc_new w _))]; rfl
  obtain ⟨x0, x1⟩ := HX.out _ (grown_refl _ _)
  have HG := hide hG
  clear hG hc hT
  unfold lgE
  generalize (sz k : Int) = z at *
  unfold maV
  unfold maC at HX HG x0 x1
  by_cases h1 : room < 22 + z
  · rw [if_pos h1]
    go_enter Tryz.func114, Tryz.ntmps114
    go_wp2
    generalize World.alloc w _ = w1 at *
    go_region_held3 (fun W => W.cell? ⟨c, 0, none⟩ = some (.int .i64 k) ∧ W.cell? ⟨w.heap.size, 1, none⟩ = some (.int .i64 room)) (first | assumption | exact ⟨x0, x1⟩) (first | (go_at_call 116; refine (HZ.out _ (grown_trans HG.out (grown_drew _ none))).mono ?_; rintro e w2 ⟨rfl, hg2⟩; have G2 := hide (grown_trans (grown_drew w1 none) hg2); have hJ := HX.out _ G2.out) | (go_at_call 115; refine (HF.out _).mono ?_; rintro e wx ⟨rfl, hwx⟩; obtain rfl := hwx.symm))
    go_wp2
    go_ret
    exact ⟨rfl, grown_trans HG.out G2.out⟩
  · rw [if_neg h1]
    have h2 : 22 + z ≤ room := by omega
    clear h1
    go_enter Tryz.func114, Tryz.ntmps114
    go_wp2
    generalize World.alloc w _ = w1 at *
    go_region_held3 (fun W => W.cell? ⟨c, 0, none⟩ = some (.int .i64 k) ∧ W.cell? ⟨w.heap.size, 1, none⟩ = some (.int .i64 room)) (first | assumption | exact ⟨x0, x1⟩) (first | (go_at_call 116; refine (HZ.out _ (grown_trans HG.out (grown_drew _ none))).mono ?_; rintro e w2 ⟨rfl, hg2⟩; have G2 := hide (grown_trans (grown_drew w1 none) hg2); have hJ := HX.out _ G2.out) | (go_at_call 115; refine (HF.out _).mono ?_; rintro e wx ⟨rfl, hwx⟩; obtain rfl := hwx.symm))
    go_wp2
    go_ret
    exact ⟨rfl, grown_trans HG.out G2.out⟩
set_option maxHeartbeats 2000000 in
theorem confirm_rec (b : Nat) (room : Int) (q : Rs.Rq) (w : World) : Calls Tryz.prog 96 #[maV b room q] w fun e w' => e = .returned (Rk.rcV ⟨2, q.i, 0, 0, 0⟩) ∧ w.grownBy w' none := by
  unfold maV Rk.rcV
  go_enter Tryz.func96, Tryz.ntmps96
  go_wp2
  exact bodyPost_ret (results_cell_row rfl _ _ (w.heap.size + 1) 56 _ (0, 0) _ rfl (new2 w _ _) Tryz.underlying56 rfl (by kernel_rfl)) rfl ⟨rfl, grown_alloc2 w _ _⟩
set_option maxHeartbeats 2000000 in
theorem cancel_rec (b : Nat) (room : Int) (q : Rs.Rq) (w : World) : Calls Tryz.prog 97 #[maV b room q] w fun e w' => e = .returned (Rk.rcV ⟨3, q.i, 0, 0, 0⟩) ∧ w.grownBy w' none := by
  unfold maV Rk.rcV
  go_enter Tryz.func97, Tryz.ntmps97
  go_wp2
  exact bodyPost_ret (results_cell_row rfl _ _ (w.heap.size + 1) 56 _ (0, 0) _ rfl (new2 w _ _) Tryz.underlying56 rfl (by kernel_rfl)) rfl ⟨rfl, grown_alloc2 w _ _⟩
set_option maxHeartbeats 2000000 in
theorem reseat_rec (b : Nat) (room : Int) (q : Rs.Rq) (w : World) : Calls Tryz.prog 98 #[maV b room q] w fun e w' => e = .returned (Rk.rcV ⟨4, q.i, q.s, 0, 0⟩) ∧ w.grownBy w' none := by
  unfold maV Rk.rcV
  go_enter Tryz.func98, Tryz.ntmps98
  go_wp2
  exact bodyPost_ret (results_cell_row rfl _ _ (w.heap.size + 1) 56 _ (0, 0) _ rfl (new2 w _ _) Tryz.underlying56 rfl (by kernel_rfl)) rfl ⟨rfl, grown_alloc2 w _ _⟩
set_option maxHeartbeats 4000000 in
theorem tick_rec (h : BkAt w p S K) (room : Int) (q : Rs.Rq) (h0 : 0 ≤ S.t) (h1 : S.t ≤ mxC) (h2 : 1 ≤ q.u) (h3 : q.u ≤ mxT) : Calls Tryz.prog 99 #[maV p.b room q] w fun e w' => e = .returned (Rk.rcV ⟨5, 0, 0, 0, S.t + q.u⟩) ∧ w.grownBy w' none := by
  have HT : Hid (∀ W, w.grownBy W none → Calls Tryz.prog 112 #[maV p.b room q] W fun e w' => e = .returned (.int .i64 (S.t + q.u)) ∧ W.grownBy w' none) := fun W g => then_any (h.then g) room q h0 h1 h2 h3
  clear h h0 h1 h2 h3
  generalize S.t + q.u = tu at *
  unfold maV at *
  unfold Rk.rcV
  go_enter Tryz.func99, Tryz.ntmps99
  go_wp2_with fail
  refine (HT.out _ (grown_alloc2 w _ _)).mono ?_
  rintro e w2 ⟨rfl, hg⟩
  have HB := hide (box_to (new2 w _ _) hg)
  have HG := hide (grown_trans (grown_alloc2 w _ _) hg)
  clear hg HT
  obtain ⟨⟨c0, c1, c2, c3, c4⟩, c5⟩ := bxf5 HB.out
  go_wp2
  obtain ⟨r1, r2⟩ := set5w w2 rfl HB.out (.int .i64 5) (.int .u32 0) (.int .i64 0) (.int .i64 0) (.int .i64 tu)
  exact bodyPost_ret (results_cell_row rfl _ _ (w.heap.size + 1) 56 _ (0, 0) _ rfl r1 Tryz.underlying56 rfl (by kernel_rfl)) rfl ⟨rfl, gn_own HG.out r2 (by omega)⟩
set_option maxHeartbeats 4000000 in
theorem hold_rec (h : BkAt w p S K) (room : Int) (q : Rs.Rq) (h0 : 0 ≤ S.t) (h1 : S.t ≤ mxC) (h2 : 1 ≤ q.u) (h3 : q.u ≤ mxT) : Calls Tryz.prog 94 #[maV p.b room q] w fun e w' => e = .returned (Rk.rcV ⟨1, (S.n : Int), q.s, S.t + q.u, 0⟩) ∧ w.grownBy w' none := by
  have HT : Hid (∀ W, w.grownBy W none → Calls Tryz.prog 112 #[maV p.b room q] W fun e w' => e = .returned (.int .i64 (S.t + q.u)) ∧ W.grownBy w' none) := fun W g => then_any (h.then g) room q h0 h1 h2 h3
  have HN : Hid (∀ W, w.grownBy W none → Calls Tryz.prog 113 #[.pointer (some ⟨p.b, 0, none⟩)] W fun e w' => e = .returned (.int .u32 (S.n : Int)) ∧ w' = W) := fun W g => next_any (h.then g)
  have hG := grown_alloc2 w (.cells (maC p.b room q).toArray 106) (.cells [Value.int .i64 0, .int .u32 0, .int .i64 0, .int .i64 0, .int .i64 0].toArray 56)
  have HX : Hid (∀ W, ((w.alloc (.cells (maC p.b room q).toArray 106)).alloc (.cells [Value.int .i64 0, .int .u32 0, .int .i64 0, .int .i64 0, .int .i64 0].toArray 56)).grownBy W none → W.heap[w.heap.size]? = some (.cells (maC p.b room q).toArray 106) ∧ W.heap[w.heap.size + 1]? = some (.cells [Value.int .i64 0, .int .u32 0, .int .i64 0, .int .i64 0, .int .i64 0].toArray 56)) := fun W g => ⟨box_to (new2a w _ _) g, box_to (new2 w _ _) g⟩
  have HG := hide hG
  clear hG h h0 h1 h2 h3
  generalize S.t + q.u = tu at *
  generalize (S.n : Int) = n at *
  unfold maV at *
  unfold maC at *
  unfold Rk.rcV
  generalize p.b = b at *
  obtain ⟨y0, y1⟩ := HX.out _ (grown_refl _ _)
  obtain ⟨c0, c1, c2, c3, c4, c5, c6⟩ := bx7 y0
  clear y0 y1
  go_enter Tryz.func94, Tryz.ntmps94
  go_wp2
  generalize World.alloc (World.alloc w _) _ = w1 at *
  go_region_held3 (fun W => W.cell? ⟨w.heap.size, 0, none⟩ = some (.pointer (some ⟨b, 0, none⟩)) ∧ W.cell? ⟨w.heap.size, 1, none⟩ = some (.int .i64 room) ∧ W.cell? ⟨w.heap.size, 2, none⟩ = some (.int .i64 q.k) ∧ W.cell? ⟨w.heap.size, 3, none⟩ = some (.int .u32 q.t) ∧ W.cell? ⟨w.heap.size, 4, none⟩ = some (.int .u32 q.i) ∧ W.cell? ⟨w.heap.size, 5, none⟩ = some (.int .i64 q.s) ∧ W.cell? ⟨w.heap.size, 6, none⟩ = some (.int .i64 q.u)) (first | with_reducible assumption | exact ma_set5 hJ (by omega) _ _ _ _ _ | exact ⟨c0, c1, c2, c3, c4, c5, c6⟩) (first | (go_at_call 113; refine (HN.out _ (grown_trans HG.out (grown_drew _ none))).mono ?_; rintro e wx ⟨rfl, hwx⟩; obtain rfl := hwx.symm) | (go_at_call 112; refine (HT.out _ (grown_trans HG.out (grown_drew _ none))).mono ?_; rintro e w2 ⟨rfl, hg2⟩; have G2 := hide (grown_trans (grown_drew w1 none) hg2); have hJ := bx7 (HX.out _ G2.out).1; have HB := hide (HX.out _ G2.out).2; obtain ⟨⟨d0, d1, d2, d3, d4⟩, d5⟩ := bxf5 HB.out))
  go_wp2
  obtain ⟨r1, r2⟩ := set5w w2 rfl HB.out (.int .i64 1) (.int .u32 n) (.int .i64 q.s) (.int .i64 tu) (.int .i64 0)
  exact bodyPost_ret (results_cell_row rfl _ _ (w.heap.size + 1) 56 _ (0, 0) _ rfl r1 Tryz.underlying56 rfl (by kernel_rfl)) rfl ⟨rfl, gn_own (grown_trans HG.out G2.out) r2 (by omega)⟩
end
end Go.Proofs.YtjfhilignbeboabGreatDoor
namespace Go.Proofs.YtjfhilignbeboabGreatDoor
/- cases: ruleOf. -/
open Go.RowKit
attribute [local go_sem ↓] Go.wp_at_zero Go.wp_at_succ
attribute [local go_sem] Oper.semAt_some
def fnV (f : Nat) : Value := .func (.func f) #[] #[]
def lgV (c : Nat) : Value := .func (.func 114) #[] #[.pointer (some ⟨c, 0, none⟩)]
def rlV (g n f : Nat) : Value := .agg #[.slice (some ⟨g, 0, none⟩) n n, .func (.func f) #[] #[]]
/-- A list of checks, the last of them asking for the room of a record of kind k. -/
structure RlAt (w W : World) (g c : Nat) (fs : List Nat) (k : Int) : Prop where
  row : W.heap[g]? = some (.cells (fs.map fnV ++ [lgV c]).toArray 113 (0, 0))
  box : W.heap[c]? = some (.cells [Value.int .i64 k].toArray 54 (0, 0))
  g0 : w.heap.size ≤ g
  c0 : w.heap.size ≤ c
set_option maxHeartbeats 4000000 in
theorem rule_1 (w : World) : Calls Tryz.prog 46 #[.int .i64 1] w fun e w' => ∃ g c, e = .returned (rlV g 6 94) ∧ RlAt w w' g c [88, 89, 90, 91, 92] 1 ∧ w.grownBy w' none := by
  have HL := hide (logHas_any 1)
  go_enter Tryz.func46, Tryz.ntmps46
  go_wp2_with fail
  refine (HL.out _).mono ?_
  rintro e w1 ⟨rfl, rfl⟩
  go_wp2
  exact bodyPost_ret (results_cell_row rfl _ _ w.heap.size 110 _ (0, 0) _ rfl (new13 w _ _ _) Tryz.underlying110 rfl (by kernel_rfl)) rfl ⟨_, _, rfl, ⟨new3 w _ _ _, new23 w _ _ _, by omega, by omega⟩, grown_alloc3 w _ _ _⟩
set_option maxHeartbeats 4000000 in
theorem rule_2 (w : World) : Calls Tryz.prog 46 #[.int .i64 2] w fun e w' => ∃ g c, e = .returned (rlV g 2 96) ∧ RlAt w w' g c [95] 2 ∧ w.grownBy w' none := by
  have HL := hide (logHas_any 2)
  go_enter Tryz.func46, Tryz.ntmps46
  go_wp2_with fail
  refine (HL.out _).mono ?_
  rintro e w1 ⟨rfl, rfl⟩
  go_wp2
  exact bodyPost_ret (results_cell_row rfl _ _ w.heap.size 110 _ (0, 0) _ rfl (new13 w _ _ _) Tryz.underlying110 rfl (by kernel_rfl)) rfl ⟨_, _, rfl, ⟨new3 w _ _ _, new23 w _ _ _, by omega, by omega⟩, grown_alloc3 w _ _ _⟩
set_option maxHeartbeats 4000000 in
theorem rule_3 (w : World) : Calls Tryz.prog 46 #[.int .i64 3] w fun e w' => ∃ g c, e = .returned (rlV g 2 97) ∧ RlAt w w' g c [95] 3 ∧ w.grownBy w' none := by
  have HL := hide (logHas_any 3)
  go_enter Tryz.func46, Tryz.ntmps46
  go_wp2_with fail
  refine (HL.out _).mono ?_
  rintro e w1 ⟨rfl, rfl⟩
  go_wp2
  exact bodyPost_ret (results_cell_row rfl _ _ w.heap.size 110 _ (0, 0) _ rfl (new13 w _ _ _) Tryz.underlying110 rfl (by kernel_rfl)) rfl ⟨_, _, rfl, ⟨new3 w _ _ _, new23 w _ _ _, by omega, by omega⟩, grown_alloc3 w _ _ _⟩
set_option maxHeartbeats 4000000 in
theorem rule_4 (w : World) : Calls Tryz.prog 46 #[.int .i64 4] w fun e w' => ∃ g c, e = .returned (rlV g 4 98) ∧ RlAt w w' g c [95, 88, 91] 4 ∧ w.grownBy w' none := by
  have HL := hide (logHas_any 4)
  go_enter Tryz.func46, Tryz.ntmps46
  go_wp2_with fail
  refine (HL.out _).mono ?_
  rintro e w1 ⟨rfl, rfl⟩
  go_wp2
  exact bodyPost_ret (results_cell_row rfl _ _ w.heap.size 110 _ (0, 0) _ rfl (new13 w _ _ _) Tryz.underlying110 rfl (by kernel_rfl)) rfl ⟨_, _, rfl, ⟨new3 w _ _ _, new23 w _ _ _, by omega, by omega⟩, grown_alloc3 w _ _ _⟩
set_option maxHeartbeats 4000000 in
theorem rule_7 (w : World) : Calls Tryz.prog 46 #[.int .i64 7] w fun e w' => ∃ g c, e = .returned (rlV g 3 99) ∧ RlAt w w' g c [89, 90] 5 ∧ w.grownBy w' none := by
  have HL := hide (logHas_any 5)
  go_enter Tryz.func46, Tryz.ntmps46
  go_wp2_with fail
  refine (HL.out _).mono ?_
  rintro e w1 ⟨rfl, rfl⟩
  go_wp2
  exact bodyPost_ret (results_cell_row rfl _ _ w.heap.size 110 _ (0, 0) _ rfl (new13 w _ _ _) Tryz.underlying110 rfl (by kernel_rfl)) rfl ⟨_, _, rfl, ⟨new3 w _ _ _, new23 w _ _ _, by omega, by omega⟩, grown_alloc3 w _ _ _⟩
end Go.Proofs.YtjfhilignbeboabGreatDoor
namespace Go.Proofs.YtjfhilignbeboabGreatDoor
/- cases: isNone, Decide. -/
open Go.RowKit
attribute [local go_sem ↓] Go.wp_at_zero Go.wp_at_succ
attribute [local go_sem] Oper.semAt_some
theorem BkAt.z0 {w : World} {p : Bp} {S : Sb} {K : Nat} (h : BkAt w p S K) : ¬ p.own 0 := by
  obtain ⟨Lb, R, M, E, T, N, B, C, h, -⟩ := h
  exact h.z
theorem Mt.tab {w W : World} {p : Bp} {S : Sb} {K : Nat} {Bs : List (Nat × List Value × TypeId)} (h : Mt w W p S K Bs) (hT : Rk.Tab w) : Rk.Tab W := fun j hj => h.st.cell h.bk.z0 (hT j hj)
theorem Mt.rule {w W W' : World} {p : Bp} {S : Sb} {K : Nat} {Bs : List (Nat × List Value × TypeId)} {g c : Nat} {fs : List Nat} {k : Int} (h : Mt w W p S K Bs) (hg : W.grownBy W' none) (r : RlAt W W' g c fs k) : Mt w W' p S K ((g, fs.map fnV ++ [lgV c], 113) :: (c, [.int .i64 k], 54) :: Bs) := by
  have h1 := h.then hg
  refine ⟨h1.bk, h1.st, fun x hx => ?_⟩
  rcases List.mem_cons.1 hx with rfl | hx
  · exact ⟨r.row, fun e => by have := h.bk.lt _ e; have := r.g0; omega, Nat.le_trans h.st.size r.g0⟩
  · rcases List.mem_cons.1 hx with rfl | hx
    · exact ⟨r.box, fun e => by have := h.bk.lt _ e; have := r.c0; omega, Nat.le_trans h.st.size r.c0⟩
    · exact h1.bx x hx
def dcV (d : Dc) : Value := .tuple #[Rk.rcV d.r, Rt.ryV d.y, .bool d.ok, .int .i64 d.e]
theorem results_c2t2 {fn : Func} {p q u v : Tmp} (h : fn.results = #[.cell p 56, .cell q 38, .tmp u, .tmp v]) (tmps : Array Value) (w : World) (g g2 : Nat) (cs ds : Array Value)
    (hp : tmps.getD p undef = .pointer (some ⟨g, 0, none⟩)) (hq : tmps.getD q undef = .pointer (some ⟨g2, 0, none⟩)) (hg : w.heap[g]? = some (.cells cs 56 (0, 0))) (hg2 : w.heap[g2]? = some (.cells ds 38 (0, 0))) (h5 : cs.size = 5) (h7 : ds.size = 7) :
    (results fn tmps).run Tryz.prog w = .ok (.tuple #[.agg cs, .agg ds, tmps.getD u undef, tmps.getD v undef]) w := by
  have hp' : tmps[p]?.getD undef = .pointer (some ⟨g, 0, none⟩) := by simpa using hp
  have hq' : tmps[q]?.getD undef = .pointer (some ⟨g2, 0, none⟩) := by simpa using hq
  have i5 : (Tryz.prog.info? 56).map (·.size) = some cs.size := by rw [h5]; kernel_rfl
  have i7 : (Tryz.prog.info? 38).map (·.size) = some ds.size := by rw [h7]; kernel_rfl
  simp [results, h, hp', hq', asAddr, run_loadVar_row w g 56 56 cs (0, 0) _ hg Tryz.underlying56 rfl i5, run_loadVar_row w g2 38 38 ds (0, 0) _ hg2 Tryz.underlying38 rfl i7, Sem.run_bind, Result.andThen]
section
variable {w W : World} {p : Bp} {S : Sb} {K : Nat} {Bs : List (Nat × List Value × TypeId)}
theorem dc_end {g h : Nat} {l5 l7 : List Value} (M : Mt w W p S K Bs) (m6 : (g, l5, 56) ∈ Bs) (m7 : (h, l7, 38) ∈ Bs) (hl5 : l5.length = 5) (hl7 : l7.length = 7) (hne : g ≠ h) (a b c d e s t u v x y z : Value) :
    (((((((((((((W.setCell ⟨g, 0, none⟩ a).setCell ⟨g, 1, none⟩ b).setCell ⟨g, 2, none⟩ c).setCell ⟨g, 3, none⟩ d).setCell ⟨g, 4, none⟩ e).setCell ⟨h, 0, none⟩ s).setCell ⟨h, 1, none⟩ t).setCell ⟨h, 2, none⟩ u).setCell ⟨h, 3, none⟩ v).setCell ⟨h, 4, none⟩ x).setCell ⟨h, 5, none⟩ y).setCell ⟨h, 6, none⟩ z).heap[g]? = some (.cells [a, b, c, d, e].toArray 56 (0, 0)))
    ∧ (((((((((((((W.setCell ⟨g, 0, none⟩ a).setCell ⟨g, 1, none⟩ b).setCell ⟨g, 2, none⟩ c).setCell ⟨g, 3, none⟩ d).setCell ⟨g, 4, none⟩ e).setCell ⟨h, 0, none⟩ s).setCell ⟨h, 1, none⟩ t).setCell ⟨h, 2, none⟩ u).setCell ⟨h, 3, none⟩ v).setCell ⟨h, 4, none⟩ x).setCell ⟨h, 5, none⟩ y).setCell ⟨h, 6, none⟩ z).heap[h]? = some (.cells [s, t, u, v, x, y, z].toArray 38 (0, 0)))
    ∧ Mt w ((((((((((((W.setCell ⟨g, 0, none⟩ a).setCell ⟨g, 1, none⟩ b).setCell ⟨g, 2, none⟩ c).setCell ⟨g, 3, none⟩ d).setCell ⟨g, 4, none⟩ e).setCell ⟨h, 0, none⟩ s).setCell ⟨h, 1, none⟩ t).setCell ⟨h, 2, none⟩ u).setCell ⟨h, 3, none⟩ v).setCell ⟨h, 4, none⟩ x).setCell ⟨h, 5, none⟩ y).setCell ⟨h, 6, none⟩ z) p S K [] := by
  obtain ⟨b6, n6, o6⟩ := M.bx _ m6
  obtain ⟨b7, n7, o7⟩ := M.bx _ m7
  obtain ⟨r1, r2⟩ := set5w W hl5 b6 a b c d e
  have M1 := M.wrote r2 n6 o6
  have b7' := (r2.block _ (row_lt b7) (fun e => hne (Option.some.inj e).symm)).trans b7
  obtain ⟨r3, r4⟩ := set7w _ hl7 b7' s t u v x y z
  exact ⟨(r4.block _ (row_lt r1) (fun e => hne (Option.some.inj e))).trans r1, r3, M1.wrote r4 n7 o7⟩
theorem fnd_zero (ho : S.Ok) : fnd S.L 0 = none := fnd_none.2 (fun x hx => by have := ho.id x hx; omega)
set_option maxHeartbeats 4000000 in
theorem isNone_no (h : BkAt w p S K) (ho : S.Ok) : Calls Tryz.prog 17 #[.pointer (some ⟨p.b, 0, none⟩)] w fun e w' => e = .returned (.bool false) ∧ Mt w w' p S K [] := by
  have HG := get_any h ho.wk 0 (by omega)
  rw [fnd_zero ho] at HG
  have HM := hide (Mt.start h)
  simp only [Option.getD_none, Option.isSome_none, Bool.false_eq_true, if_false] at HG
  unfold bgV at HG
  have HH := hide HG
  clear HG h ho
  generalize hb : p.b = b at *
  have HB := hide hb
  clear hb
  go_enter Tryz.func17, Tryz.ntmps17
  go_wp2_with fail
  refine HH.out.mono ?_
  rintro e w2 ⟨rfl, hA, hk⟩
  go_wp2
  go_ret
  exact ⟨rfl, ((HM.out.go hk hA).then (grown_alloc w2 _)).bare⟩
end
end Go.Proofs.YtjfhilignbeboabGreatDoor
namespace Go.Proofs.YtjfhilignbeboabGreatDoor
/- cases: Decide, kind by kind. -/
open Go.RowKit
attribute [local go_sem ↓] Go.wp_at_zero Go.wp_at_succ
attribute [local go_sem] Oper.semAt_some
theorem Mt.three {w : World} {p : Bp} {S : Sb} {K : Nat} (h : BkAt w p S K) (a b c : List Value) (s t u : TypeId) : Mt w (((w.alloc (.cells a.toArray s)).alloc (.cells b.toArray t)).alloc (.cells c.toArray u)) p S K [(w.heap.size + 1 + 1, c, u), (w.heap.size + 1, b, t), (w.heap.size, a, s)] := by
  have m0 := (((Mt.start h).box a s).box b t).box c u
  rw [show ((w.alloc (.cells a.toArray s)).alloc (.cells b.toArray t)).heap.size = w.heap.size + 1 + 1 from by show ((w.heap.push _).push _).size = _; simp, show (w.alloc (.cells a.toArray s)).heap.size = w.heap.size + 1 from by show (w.heap.push _).size = _; simp] at m0
  exact m0
section
variable {w : World} {p : Bp} {S : Sb} {K : Nat}
set_option maxHeartbeats 4000000 in
theorem decide_may (h : BkAt w p S K) (ho : S.Ok) (room : Int) (q : Rs.Rq) (hq : q.Ok) (hm : ¬ q.May) : Calls Tryz.prog 23 #[.pointer (some ⟨p.b, 0, none⟩), .int .i64 room, Rs.rqV q] w fun e w' => e = .returned (dcV ⟨zRc, Rt.zRy, false, 200⟩) ∧ Mt w w' p S K [] := by
  have HN : Hid (∀ W, BkAt W p S K → Calls Tryz.prog 17 #[.pointer (some ⟨p.b, 0, none⟩)] W fun e w' => e = .returned (.bool false) ∧ Mt W w' p S K []) := fun W hW => isNone_no hW ho
  have HQ := hide (fun W => Rs.check_any q hq W)
  have HM := hide (Mt.three h (Rs.rqC q) [Value.int .i64 0, .int .u32 0, .int .i64 0, .int .i64 0, .int .i64 0] [Value.int .u32 0, .int .i64 0, .int .i64 0, .int .u32 0, .int .i64 0, .int .i64 0, .int .i64 0] 42 56 38)
  have hk : Rs.chk q = 200 := by unfold Rs.chk; rw [if_neg hm]
  rw [hk] at HQ
  clear hk hm h ho hq
  unfold Rs.rqV at *
  unfold Rs.rqC at HM
  unfold dcV Rk.rcV Rt.ryV zRc Rt.zRy
  simp only
  generalize hb : p.b = b at *
  have HB := hide hb
  clear hb
  go_enter Tryz.func23, Tryz.ntmps23
  go_wp2_with fail
  refine (HN.out _ HM.out.bk).mono ?_
  rintro e w1 ⟨rfl, m1⟩
  have M1 := hide (HM.out.mt m1)
  clear m1 HM HN
  obtain ⟨c0, c1, c2, c3, c4⟩ := bx5 M1.out.b2
  go_wp2_with fail
  refine (HQ.out _).mono ?_
  rintro e w2 ⟨rfl, hg⟩
  have M2 := hide (M1.out.then hg)
  clear hg M1 HQ c0 c1 c2 c3 c4
  obtain ⟨⟨d0, d1, d2, d3, d4⟩, d5⟩ := bxf5 M2.out.b1
  obtain ⟨⟨x0, x1, x2, x3, x4, x5, x6⟩, x7⟩ := bxf7 M2.out.b0
  go_wp2
  obtain ⟨r1, r2, r3⟩ := dc_end M2.out (g := w.heap.size + 1) (h := w.heap.size + 1 + 1) (List.mem_cons_of_mem _ (List.mem_cons_self ..)) (List.mem_cons_self ..) rfl rfl (by omega) (.int .i64 0) (.int .u32 0) (.int .i64 0) (.int .i64 0) (.int .i64 0) (.int .u32 0) (.int .i64 0) (.int .i64 0) (.int .u32 0) (.int .i64 0) (.int .i64 0) (.int .i64 0)
  exact bodyPost_ret (results_c2t2 rfl _ _ (w.heap.size + 1) (w.heap.size + 1 + 1) _ _ rfl rfl r1 r2 rfl rfl) rfl ⟨rfl, r3⟩
set_option maxHeartbeats 4000000 in
theorem decide_kind (h : BkAt w p S K) (ho : S.Ok) (room : Int) (q : Rs.Rq) (hq : q.Ok) (hm : q.May) (hc : Rs.chg q.k = false) : Calls Tryz.prog 23 #[.pointer (some ⟨p.b, 0, none⟩), .int .i64 room, Rs.rqV q] w fun e w' => e = .returned (dcV ⟨zRc, Rt.zRy, false, 200⟩) ∧ Mt w w' p S K [] := by
  have HN : Hid (∀ W, BkAt W p S K → Calls Tryz.prog 17 #[.pointer (some ⟨p.b, 0, none⟩)] W fun e w' => e = .returned (.bool false) ∧ Mt W w' p S K []) := fun W hW => isNone_no hW ho
  have HQ := hide (fun W => Rs.check_any q hq W)
  have HM := hide (Mt.three h (Rs.rqC q) [Value.int .i64 0, .int .u32 0, .int .i64 0, .int .i64 0, .int .i64 0] [Value.int .u32 0, .int .i64 0, .int .i64 0, .int .u32 0, .int .i64 0, .int .i64 0, .int .i64 0] 42 56 38)
  have HC := hide (fun W => Rs.changes_any q.k W)
  rw [hc] at HC
  have hk : Rs.chk q = 0 := by unfold Rs.chk; rw [if_pos hm]
  rw [hk] at HQ
  clear hk hm h ho hq hc
  unfold Rs.rqV at *
  unfold Rs.rqC at HM
  unfold dcV Rk.rcV Rt.ryV zRc Rt.zRy
  simp only
  generalize hb : p.b = b at *
  have HB := hide hb
  clear hb
  go_enter Tryz.func23, Tryz.ntmps23
  go_wp2_with fail
  refine (HN.out _ HM.out.bk).mono ?_
  rintro e w1 ⟨rfl, m1⟩
  have M1 := hide (HM.out.mt m1)
  clear m1 HM HN
  obtain ⟨c0, c1, c2, c3, c4⟩ := bx5 M1.out.b2
  go_wp2_with fail
  refine (HQ.out _).mono ?_
  rintro e w2 ⟨rfl, hg⟩
  have M2 := hide (M1.out.then hg)
  clear hg M1 HQ c0 c1 c2 c3 c4
  obtain ⟨c0, c1, c2, c3, c4⟩ := bx5 M2.out.b2
  obtain ⟨⟨d0, d1, d2, d3, d4⟩, d5⟩ := bxf5 M2.out.b1
  obtain ⟨⟨x0, x1, x2, x3, x4, x5, x6⟩, x7⟩ := bxf7 M2.out.b0
  go_wp2_with fail
  refine (HC.out _).mono ?_
  rintro e wx ⟨rfl, hwx⟩
  obtain rfl := hwx.symm
  go_wp2
  obtain ⟨r1, r2, r3⟩ := dc_end M2.out (g := w.heap.size + 1) (h := w.heap.size + 1 + 1) (List.mem_cons_of_mem _ (List.mem_cons_self ..)) (List.mem_cons_self ..) rfl rfl (by omega) (.int .i64 0) (.int .u32 0) (.int .i64 0) (.int .i64 0) (.int .i64 0) (.int .u32 0) (.int .i64 0) (.int .i64 0) (.int .u32 0) (.int .i64 0) (.int .i64 0) (.int .i64 0)
  exact bodyPost_ret (results_c2t2 rfl _ _ (w.heap.size + 1) (w.heap.size + 1 + 1) _ _ rfl rfl r1 r2 rfl rfl) rfl ⟨rfl, r3⟩
end
end Go.Proofs.YtjfhilignbeboabGreatDoor
namespace Go.Proofs.YtjfhilignbeboabGreatDoor
/- cases: Decide, the changes. -/
open Go.RowKit
attribute [local go_sem ↓] Go.wp_at_zero Go.wp_at_succ
attribute [local go_sem] Oper.semAt_some
theorem ttE_zero {q : Rs.Rq} (h : ttE q = 0) : 1 ≤ q.u ∧ q.u ≤ mxT := by
  unfold ttE at h
  by_cases hc : 1 ≤ q.u ∧ q.u ≤ mxT
  · exact hc
  · rw [if_neg hc] at h; cases h
theorem bx2 {w : World} {g : Nat} {t : TypeId} {x y : Value} (h : w.heap[g]? = some (.cells [x, y].toArray t (0, 0))) : w.cell? ⟨g, 0, none⟩ = some x ∧ w.cell? ⟨g, 1, none⟩ = some y := ⟨by rw [cell_row h]; rfl, by rw [cell_row h]; rfl⟩
end Go.Proofs.YtjfhilignbeboabGreatDoor
