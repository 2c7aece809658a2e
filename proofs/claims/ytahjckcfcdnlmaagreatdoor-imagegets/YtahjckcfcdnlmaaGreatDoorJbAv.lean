/- Texts joined: Im8, ImB. -/
import Derived.Test.YtahjckcfcdnlmaaGreatDoorJbAt
import Derived.Test.YtahjckcfcdnlmaaGreatDoorJbAu
import Derived.Laws.IdiomStrings
/- A book says just what is told. -/
namespace Go.Proofs.YtahjckcfcdnlmaaGreatDoor
open Go.RowKit
attribute [local go_sem ↓] Go.wp_at_zero Go.wp_at_succ
attribute [local go_sem] Oper.semAt_some
theorem neq_op {a : Act} {o : Oper} {x y : Operand} {p q r : Int} (ho : o.op = .binOp .neq 45 x y 45) (hx : a.eval x = .agg #[.int .u32 p, .int .i64 q, .int .i64 r]) (hy : a.eval y = .agg #[.int .u32 p, .int .i64 q, .int .i64 r]) (w : World) : (execOp a.eval o).run Tryz.prog w = .ok (.value (.bool false)) w := by
  unfold execOp
  simp only [ho, hx, hy]
  go_simp
theorem neqS_op {a : Act} {o : Oper} {x y : Operand} {p q r : Int} (ho : o.op = .binOp .neq 23 x y 23) (hx : a.eval x = .agg #[.int .i64 p, .int .i64 q, .int .i64 r]) (hy : a.eval y = .agg #[.int .i64 p, .int .i64 q, .int .i64 r]) (w : World) : (execOp a.eval o).run Tryz.prog w = .ok (.value (.bool false)) w := by
  unfold execOp
  simp only [ho, hx, hy]
  go_simp
theorem geq_op {a : Act} {o : Oper} {x y : Operand} {t : TypeId} {k : IntKind} {p q : Int} (ho : o.op = .binOp .geq t x y t) (hx : a.eval x = .int k p) (hy : a.eval y = .int k q) (h : p < q) (w : World) : (execOp a.eval o).run Tryz.prog w = .ok (.value (.bool false)) w := by
  have hd : decide (p ≥ q) = false := by rw [decide_eq_false_iff_not]; omega
  unfold execOp
  simp only [ho, hx, hy]
  go_simp
theorem results_cell4 {fn : Func} {p : Tmp} (h : fn.results = #[.cell p 4]) (tmps : Array Value) (w : World) (g : Nat) (v : Value) (hp : tmps.getD p undef = .pointer (some ⟨g, 0, none⟩)) (hc : w.cell? ⟨g, 0, none⟩ = some v) :
    (results fn tmps).run Tryz.prog w = .ok v w := by
  have hp' : tmps[p]?.getD undef = .pointer (some ⟨g, 0, none⟩) := by simpa using hp
  simp [results, h, hp', asAddr]
  go_simp
/-- Inside is, between two bookings: w0 is the world behind the boxes, B2 the counter. -/
structure IsI (w0 W : World) (B2 b2 : Nat) (pre : List Bg) : Prop where
  ix : W.heap[B2]? = some (.cells [Value.int .i64 (pre.length : Int)].toArray 3 (0, 0))
  gr : w0.grownBy W none
  sz : b2 ≤ W.heap.size
theorem IsI.own_from {w0 : World} {B2 b2 B : Nat} (hB : w0.heap.size ≤ B) : OwnFrom B (fun pre W => IsI w0 W B2 b2 pre) := fun _pre W W' row h hg hr =>
  ⟨cells_own_from B () W W' row h.ix hg hr, grown_then h.gr hg (fun j e => Or.inl (Nat.le_trans hB (hr j e).1)), Nat.le_trans h.sz hg.size⟩
theorem pre_rd {L pre : List Bg} {x : Bg} (h : pre ++ [x] <+: L) : pre.length < L.length ∧ rd L pre.length = x := by
  obtain ⟨r, hr⟩ := h
  constructor
  · rw [← hr]; simp
  · unfold rd
    rw [← hr, List.append_assoc, List.getElem?_append_right (Nat.le_refl _)]
    simp
set_option maxRecDepth 100000 in
set_option maxHeartbeats 16000000 in
theorem is_any {w : World} {p : Bp} {S : Sb} {K : Nat} (h : BkAt w p S K) (hw : S.Wk) {ao : Option Addr} {cap : Nat} (hv : BgA w (.slice ao S.L.length cap) S.L) : Calls Tryz.prog 11 #[.pointer (some ⟨p.b, 0, none⟩), askV S.a S.b S.c S.n S.t ao S.L.length cap] w fun e w' => e = .returned (.bool true) ∧ w.grownBy w' none := by
  have HS : Hid (∀ W, w.grownBy W none → Calls Tryz.prog 30 #[.pointer (some ⟨p.b, 0, none⟩)] W fun e w' => e = .returned (.agg #[.int .i64 (S.a : Int), .int .i64 (S.b : Int), .int .i64 (S.c : Int)]) ∧ W.grownBy w' none) := fun W hW => shape_any (h.then hW)
  have HN : Hid (∀ W, w.grownBy W none → Calls Tryz.prog 31 #[.pointer (some ⟨p.b, 0, none⟩)] W fun e w' => e = .returned (.int .u32 (S.n : Int)) ∧ w' = W) := fun W hW => next_any (h.then hW)
  have HC : Hid (∀ W, w.grownBy W none → Calls Tryz.prog 32 #[.pointer (some ⟨p.b, 0, none⟩)] W fun e w' => e = .returned (.int .i64 S.t) ∧ w' = W) := fun W hW => clock_any (h.then hW)
  have HL : Hid (∀ W, w.grownBy W none → Calls Tryz.prog 13 #[.pointer (some ⟨p.b, 0, none⟩)] W fun e w' => e = .returned (.int .i64 (S.L.length : Int)) ∧ w' = W) := fun W hW => len_any (h.then hW)
  have HA : Hid (∀ W, w.grownBy W none → Calls Tryz.prog 33 #[.pointer (some ⟨p.b, 0, none⟩)] W fun e w' => ∃ u, e = .returned u ∧ VlV w' W.heap.size u S.L ∧ W.grownBy w' none) := fun W hg => all_any (h.then hg) hw
  have HV : Hid (∀ W, w.grownBy W none → BgA W (.slice ao S.L.length cap) S.L) := fun W hW => hv.then hW
  have hL4 : S.L.length ≤ 4096 := by have := hw.few; have := hw.b1; omega
  have k0 := ask6.new w 33 (.int .i64 (S.a : Int)) (.int .i64 (S.b : Int)) (.int .i64 (S.c : Int)) (.int .u32 (S.n : Int)) (.int .i64 S.t) (.slice ao S.L.length cap)
  obtain ⟨w0, hw0⟩ : ∃ w0, (w.alloc (.cells [.int .i64 (S.a : Int), .int .i64 (S.b : Int), .int .i64 (S.c : Int), .int .u32 (S.n : Int), .int .i64 S.t, .slice ao S.L.length cap].toArray 33)).alloc (.cells [Value.bool false].toArray 4) = w0 := ⟨_, rfl⟩
  have HG : Hid (w.grownBy w0 none) := by rw [← hw0]; exact gn_alloc (grown_alloc w _) _
  have HK : Hid (ask6 w0 w.heap.size (.int .i64 (S.a : Int)) (.int .i64 (S.b : Int)) (.int .i64 (S.c : Int)) (.int .u32 (S.n : Int)) (.int .i64 S.t) (.slice ao S.L.length cap)) := by rw [← hw0]; exact k0.then (grown_alloc _ _)
  have HRs : Hid (w0.heap[w.heap.size + 1]? = some (.cells [Value.bool false].toArray 4 (0, 0))) := by
    rw [← hw0]
    have := heap_alloc_new (w.alloc (.cells [.int .i64 (S.a : Int), .int .i64 (S.b : Int), .int .i64 (S.c : Int), .int .u32 (S.n : Int), .int .i64 S.t, .slice ao S.L.length cap].toArray 33)) (.cells [Value.bool false].toArray 4)
    rw [Ge.alloc_size] at this
    exact this
  have hz0 : w0.heap.size = w.heap.size + 2 := by rw [← hw0, Ge.alloc_size, Ge.alloc_size]
  have HW0 := hide hw0
  clear h hw hv k0 hw0
  unfold askV
  refine (callsIn_wide (n := 6)).1 (callsIn_of_wp_marks Tryz.func11 rfl trivial ?_ rfl)
  simp only [Tryz.ntmps11, List.size_toArray, List.length_cons, List.length_nil, Nat.reduceAdd, Nat.reduceSub, Array.replicate_succ, Array.replicate_zero, List.push_toArray, List.append_toArray, List.nil_append, List.cons_append]
  refine wpIn_wide.2 ?_
  generalize hnn : (S.L.length : Int) = LL at *
  generalize haa : (S.a : Int) = A at *
  generalize hbb : (S.b : Int) = Bb at *
  generalize hcc : (S.c : Int) = Cc at *
  generalize hnx : (S.n : Int) = Nx at *
  generalize htt : S.t = Tt at *
  clear haa hbb hcc hnx htt
  have HLL := hide hnn
  have hLL : ((S.L.length : Nat) : Int) = LL := hnn
  clear hnn
  go_wp2
  rw [show (World.alloc w _).alloc _ = w0 from HW0.out]
  clear HW0
  have hK0 : w0.drew.cell? ⟨w.heap.size, 0, none⟩ = some (.int .i64 A) ∧ w0.drew.cell? ⟨w.heap.size, 1, none⟩ = some (.int .i64 Bb) ∧ w0.drew.cell? ⟨w.heap.size, 2, none⟩ = some (.int .i64 Cc) ∧ w0.drew.cell? ⟨w.heap.size, 3, none⟩ = some (.int .u32 Nx) ∧ w0.drew.cell? ⟨w.heap.size, 4, none⟩ = some (.int .i64 Tt) ∧ w0.drew.cell? ⟨w.heap.size, 5, none⟩ = some (.slice ao S.L.length cap) := HK.out.then (grown_drew w0 none)
  go_cut [37] from 7 to 37 (fun v W => v = .bool false ∧ Hid (w0.grownBy W none))
  case first =>
    refine wp_region_noPanic ?_
    refine wp_region_held_drew (S := (fun W => W.cell? ⟨w.heap.size, 0, none⟩ = some (.int .i64 A) ∧ W.cell? ⟨w.heap.size, 1, none⟩ = some (.int .i64 Bb) ∧ W.cell? ⟨w.heap.size, 2, none⟩ = some (.int .i64 Cc) ∧ W.cell? ⟨w.heap.size, 3, none⟩ = some (.int .u32 Nx) ∧ W.cell? ⟨w.heap.size, 4, none⟩ = some (.int .i64 Tt) ∧ W.cell? ⟨w.heap.size, 5, none⟩ = some (.slice ao S.L.length cap))) (by kernel_rfl) ?_ (fun hHeld => ?_)
    · (exact hK0)
    refine wpAnyH_take (i := 0) (oi := { dst := some 7, op := Go.Op.move (Go.Operand.tmp 0), type := 26, pos := "law.go:34", after := #[], guard := none }) (v := ?_) rfl (by kernel_rfl) (by kernel_rfl) (by kernel_rfl) (fun _ _ _ h => h) (Or.inl ⟨by rfl, ?_⟩) (by assumption) ?_
    rotate_left
    · (intro w hSw; (try dsimp only at hSw); (go_simp <;> with_reducible rfl))
    try simp only [Act.put, List.setIfInBounds_toArray, List.set_cons_zero, List.set_cons_succ]
    refine wpAnyH_take (i := 1) (oi := { dst := some 8, op := Go.Op.binOp Go.BinOp.eql 26 (Go.Operand.tmp 7) (Go.Operand.const (Go.Value.pointer none)) 26, type := 4, pos := "law.go:34", after := #[{ on := 0, ground := Go.Ground.data }], guard := none }) (v := ?_) rfl (by kernel_rfl) (by kernel_rfl) (by kernel_rfl) (fun _ _ _ h => h) (Or.inl ⟨by rfl, ?_⟩) (by assumption) ?_
    rotate_left
    · (intro w hSw; (try dsimp only at hSw); (go_simp <;> with_reducible rfl))
    try simp only [Act.put, List.setIfInBounds_toArray, List.set_cons_zero, List.set_cons_succ]
    refine wpAnyH_take (i := 2) (oi := { dst := some 9, op := Go.Op.move (Go.Operand.tmp 8), type := 4, pos := "law.go:34", after := #[{ on := 1, ground := Go.Ground.data }], guard := none }) (v := ?_) rfl (by kernel_rfl) (by kernel_rfl) (by kernel_rfl) (fun _ _ _ h => h) (Or.inl ⟨by rfl, ?_⟩) (by assumption) ?_
    rotate_left
    · (intro w hSw; (try dsimp only at hSw); (go_simp <;> with_reducible rfl))
    try simp only [Act.put, List.setIfInBounds_toArray, List.set_cons_zero, List.set_cons_succ]
    refine wpAnyH_take (i := 3) (oi := { dst := some 10, op := Go.Op.move (Go.Operand.tmp 0), type := 26, pos := "law.go:34", after := #[{ on := 2, ground := Go.Ground.guard }], guard := some (2, false) }) (v := ?_) rfl (by kernel_rfl) (by kernel_rfl) (by kernel_rfl) (fun _ _ _ h => h) (Or.inl ⟨by rfl, ?_⟩) (by assumption) ?_
    rotate_left
    · (intro w hSw; (try dsimp only at hSw); (go_simp <;> with_reducible rfl))
    try simp only [Act.put, List.setIfInBounds_toArray, List.set_cons_zero, List.set_cons_succ]
    refine wpAnyH_take (i := 5) (oi := { dst := some 12, op := Go.Op.fieldAddr 33 (Go.Operand.tmp 3) 0, type := 0, pos := "law.go:34", after := #[{ on := 2, ground := Go.Ground.guard }], guard := some (2, false) }) (v := ?_) rfl (by kernel_rfl) (by kernel_rfl) (by kernel_rfl) (fun _ _ _ h => h) (Or.inl ⟨by rfl, ?_⟩) (by assumption) ?_
    rotate_left
    · (intro w hSw; (try dsimp only at hSw); (go_simp <;> with_reducible rfl))
    try simp only [Act.put, List.setIfInBounds_toArray, List.set_cons_zero, List.set_cons_succ]
    refine wpAnyH_take (i := 6) (oi := { dst := some 13, op := Go.Op.load 23 (Go.Operand.tmp 12), type := 23, pos := "law.go:34", after := #[{ on := 5, ground := Go.Ground.data }, { on := 2, ground := Go.Ground.guard }], guard := some (2, false) }) (v := ?_) rfl (by kernel_rfl) (by kernel_rfl) (by kernel_rfl) (fun _ _ _ h => h) (Or.inl ⟨by rfl, ?_⟩) (by assumption) ?_
    rotate_left
    · (intro w hSw; (try dsimp only at hSw); (go_simp <;> with_reducible rfl))
    try simp only [Act.put, List.setIfInBounds_toArray, List.set_cons_zero, List.set_cons_succ]
    refine wpAnyH_ready (rs := [4]) (by kernel_rfl) (by simp) ?_
    refine AllReadyH.cons (o := { dst := some 11, op := Go.Op.call { callee := Go.Callee.value (Go.Operand.func 30), args := #[Go.Operand.tmp 10], argTypes := #[26] }, type := 23, pos := "law.go:34", after := #[{ on := 3, ground := Go.Ground.data }, { on := 2, ground := Go.Ground.chain }, { on := 2, ground := Go.Ground.guard }], guard := some (2, false) }) rfl (fun K hK => ?_) ?_
    rotate_left
    · exact AllReadyH.nil
    go_simp
    refine (HS.out _ (gn_drew HG.out)).mono ?_
    rintro e w1 ⟨rfl, hg1⟩
    have HG1 := hide (grown_trans (grown_drew w0 none) hg1)
    have HGw := hide (grown_trans HG.out HG1.out)
    have hK1 := HK.out.then HG1.out
    unfold ask6 at hK1
    clear hg1
    go_wp2_with fail
    refine hK.out _ _ ?_ (fun hHeld => ?_)
    · ((try dsimp only); first | with_reducible assumption | exact hK1 | exact hK0)
    clear hK K
    try simp only [Act.put, List.setIfInBounds_toArray, List.set_cons_zero, List.set_cons_succ]
    refine wpAnyH_take (i := 7) (oi := { dst := some 14, op := Go.Op.binOp Go.BinOp.neq 23 (Go.Operand.tmp 11) (Go.Operand.tmp 13) 23, type := 4, pos := "law.go:34", after := #[{ on := 4, ground := Go.Ground.data }, { on := 6, ground := Go.Ground.data }, { on := 2, ground := Go.Ground.guard }], guard := some (2, false) }) (v := ?_) rfl (by kernel_rfl) (by kernel_rfl) (by kernel_rfl) (fun _ _ _ h => h) (Or.inl ⟨by rfl, ?_⟩) (by assumption) ?_
    rotate_left
    · (intro w hSw; refine neqS_op (x := .tmp 11) (y := .tmp 13) (p := A) (q := Bb) (r := Cc) ?_ ?_ ?_ w <;> rfl)
    try simp only [Act.put, List.setIfInBounds_toArray, List.set_cons_zero, List.set_cons_succ]
    refine wpAnyH_take (i := 8) (oi := { dst := some 15, op := Go.Op.pick (Go.Operand.tmp 9) (Go.Operand.const (Go.Value.bool true)) (Go.Operand.tmp 14), type := 4, pos := "law.go:34", after := #[{ on := 2, ground := Go.Ground.data }, { on := 7, ground := Go.Ground.data }], guard := none }) (v := ?_) rfl (by kernel_rfl) (by kernel_rfl) (by kernel_rfl) (fun _ _ _ h => h) (Or.inl ⟨by rfl, ?_⟩) (by assumption) ?_
    rotate_left
    · (intro w hSw; (try dsimp only at hSw); (go_simp <;> with_reducible rfl))
    try simp only [Act.put, List.setIfInBounds_toArray, List.set_cons_zero, List.set_cons_succ]
    refine wpAnyH_take (i := 9) (oi := { dst := some 16, op := Go.Op.move (Go.Operand.tmp 15), type := 4, pos := "law.go:34", after := #[{ on := 8, ground := Go.Ground.data }, { on := 4, ground := Go.Ground.chain }], guard := none }) (v := ?_) rfl (by kernel_rfl) (by kernel_rfl) (by kernel_rfl) (fun _ _ _ h => h) (Or.inl ⟨by rfl, ?_⟩) (by assumption) ?_
    rotate_left
    · (intro w hSw; (try dsimp only at hSw); (go_simp <;> with_reducible rfl))
    try simp only [Act.put, List.setIfInBounds_toArray, List.set_cons_zero, List.set_cons_succ]
    refine wpAnyH_take (i := 10) (oi := { dst := some 17, op := Go.Op.move (Go.Operand.tmp 0), type := 26, pos := "law.go:34", after := #[{ on := 9, ground := Go.Ground.guard }], guard := some (9, false) }) (v := ?_) rfl (by kernel_rfl) (by kernel_rfl) (by kernel_rfl) (fun _ _ _ h => h) (Or.inl ⟨by rfl, ?_⟩) (by assumption) ?_
    rotate_left
    · (intro w hSw; (try dsimp only at hSw); (go_simp <;> with_reducible rfl))
    try simp only [Act.put, List.setIfInBounds_toArray, List.set_cons_zero, List.set_cons_succ]
    refine wpAnyH_take (i := 12) (oi := { dst := some 19, op := Go.Op.fieldAddr 33 (Go.Operand.tmp 3) 1, type := 0, pos := "law.go:34", after := #[{ on := 9, ground := Go.Ground.guard }], guard := some (9, false) }) (v := ?_) rfl (by kernel_rfl) (by kernel_rfl) (by kernel_rfl) (fun _ _ _ h => h) (Or.inl ⟨by rfl, ?_⟩) (by assumption) ?_
    rotate_left
    · (intro w hSw; (try dsimp only at hSw); (go_simp <;> with_reducible rfl))
    try simp only [Act.put, List.setIfInBounds_toArray, List.set_cons_zero, List.set_cons_succ]
    refine wpAnyH_take (i := 13) (oi := { dst := some 20, op := Go.Op.load 30 (Go.Operand.tmp 19), type := 30, pos := "law.go:34", after := #[{ on := 12, ground := Go.Ground.data }, { on := 9, ground := Go.Ground.guard }], guard := some (9, false) }) (v := ?_) rfl (by kernel_rfl) (by kernel_rfl) (by kernel_rfl) (fun _ _ _ h => h) (Or.inl ⟨by rfl, ?_⟩) (by assumption) ?_
    rotate_left
    · (intro w hSw; (try dsimp only at hSw); (go_simp <;> with_reducible rfl))
    try simp only [Act.put, List.setIfInBounds_toArray, List.set_cons_zero, List.set_cons_succ]
    refine wpAnyH_ready (rs := [11]) (by kernel_rfl) (by simp) ?_
    refine AllReadyH.cons (o := { dst := some 18, op := Go.Op.call { callee := Go.Callee.value (Go.Operand.func 31), args := #[Go.Operand.tmp 17], argTypes := #[26] }, type := 30, pos := "law.go:34", after := #[{ on := 10, ground := Go.Ground.data }, { on := 9, ground := Go.Ground.chain }, { on := 9, ground := Go.Ground.guard }], guard := some (9, false) }) rfl (fun K hK => ?_) ?_
    rotate_left
    · exact AllReadyH.nil
    go_simp
    refine (HN.out _ HGw.out).mono ?_
    rintro e w2 ⟨rfl, rfl⟩
    go_wp2_with fail
    refine hK.out _ _ ?_ (fun hHeld => ?_)
    · ((try dsimp only); first | with_reducible assumption | exact hK1 | exact hK0)
    clear hK K
    try simp only [Act.put, List.setIfInBounds_toArray, List.set_cons_zero, List.set_cons_succ]
    refine wpAnyH_take (i := 14) (oi := { dst := some 21, op := Go.Op.binOp Go.BinOp.neq 30 (Go.Operand.tmp 18) (Go.Operand.tmp 20) 30, type := 4, pos := "law.go:34", after := #[{ on := 11, ground := Go.Ground.data }, { on := 13, ground := Go.Ground.data }, { on := 9, ground := Go.Ground.guard }], guard := some (9, false) }) (v := ?_) rfl (by kernel_rfl) (by kernel_rfl) (by kernel_rfl) (fun _ _ _ h => h) (Or.inl ⟨by rfl, ?_⟩) (by assumption) ?_
    rotate_left
    · (intro w hSw; (try dsimp only at hSw); (go_simp <;> with_reducible rfl))
    try simp only [Act.put, List.setIfInBounds_toArray, List.set_cons_zero, List.set_cons_succ]
    refine wpAnyH_take (i := 15) (oi := { dst := some 22, op := Go.Op.pick (Go.Operand.tmp 16) (Go.Operand.const (Go.Value.bool true)) (Go.Operand.tmp 21), type := 4, pos := "law.go:34", after := #[{ on := 9, ground := Go.Ground.data }, { on := 14, ground := Go.Ground.data }], guard := none }) (v := ?_) rfl (by kernel_rfl) (by kernel_rfl) (by kernel_rfl) (fun _ _ _ h => h) (Or.inl ⟨by rfl, ?_⟩) (by assumption) ?_
    rotate_left
    · (intro w hSw; (try dsimp only at hSw); (go_simp <;> with_reducible rfl))
    try simp only [Act.put, List.setIfInBounds_toArray, List.set_cons_zero, List.set_cons_succ]
    refine wpAnyH_take (i := 16) (oi := { dst := some 23, op := Go.Op.move (Go.Operand.tmp 22), type := 4, pos := "law.go:34", after := #[{ on := 15, ground := Go.Ground.data }, { on := 11, ground := Go.Ground.chain }], guard := none }) (v := ?_) rfl (by kernel_rfl) (by kernel_rfl) (by kernel_rfl) (fun _ _ _ h => h) (Or.inl ⟨by rfl, ?_⟩) (by assumption) ?_
    rotate_left
    · (intro w hSw; (try dsimp only at hSw); (go_simp <;> with_reducible rfl))
    try simp only [Act.put, List.setIfInBounds_toArray, List.set_cons_zero, List.set_cons_succ]
    refine wpAnyH_take (i := 17) (oi := { dst := some 24, op := Go.Op.move (Go.Operand.tmp 0), type := 26, pos := "law.go:34", after := #[{ on := 16, ground := Go.Ground.guard }], guard := some (16, false) }) (v := ?_) rfl (by kernel_rfl) (by kernel_rfl) (by kernel_rfl) (fun _ _ _ h => h) (Or.inl ⟨by rfl, ?_⟩) (by assumption) ?_
    rotate_left
    · (intro w hSw; (try dsimp only at hSw); (go_simp <;> with_reducible rfl))
    try simp only [Act.put, List.setIfInBounds_toArray, List.set_cons_zero, List.set_cons_succ]
    refine wpAnyH_take (i := 19) (oi := { dst := some 26, op := Go.Op.fieldAddr 33 (Go.Operand.tmp 3) 2, type := 0, pos := "law.go:34", after := #[{ on := 16, ground := Go.Ground.guard }], guard := some (16, false) }) (v := ?_) rfl (by kernel_rfl) (by kernel_rfl) (by kernel_rfl) (fun _ _ _ h => h) (Or.inl ⟨by rfl, ?_⟩) (by assumption) ?_
    rotate_left
    · (intro w hSw; (try dsimp only at hSw); (go_simp <;> with_reducible rfl))
    try simp only [Act.put, List.setIfInBounds_toArray, List.set_cons_zero, List.set_cons_succ]
    refine wpAnyH_take (i := 20) (oi := { dst := some 27, op := Go.Op.load 2 (Go.Operand.tmp 26), type := 2, pos := "law.go:34", after := #[{ on := 19, ground := Go.Ground.data }, { on := 16, ground := Go.Ground.guard }], guard := some (16, false) }) (v := ?_) rfl (by kernel_rfl) (by kernel_rfl) (by kernel_rfl) (fun _ _ _ h => h) (Or.inl ⟨by rfl, ?_⟩) (by assumption) ?_
    rotate_left
    · (intro w hSw; (try dsimp only at hSw); (go_simp <;> with_reducible rfl))
    try simp only [Act.put, List.setIfInBounds_toArray, List.set_cons_zero, List.set_cons_succ]
    refine wpAnyH_ready (rs := [18]) (by kernel_rfl) (by simp) ?_
    refine AllReadyH.cons (o := { dst := some 25, op := Go.Op.call { callee := Go.Callee.value (Go.Operand.func 32), args := #[Go.Operand.tmp 24], argTypes := #[26] }, type := 2, pos := "law.go:34", after := #[{ on := 17, ground := Go.Ground.data }, { on := 16, ground := Go.Ground.chain }, { on := 16, ground := Go.Ground.guard }], guard := some (16, false) }) rfl (fun K hK => ?_) ?_
    rotate_left
    · exact AllReadyH.nil
    go_simp
    refine (HC.out _ HGw.out).mono ?_
    rintro e w2 ⟨rfl, rfl⟩
    go_wp2_with fail
    refine hK.out _ _ ?_ (fun hHeld => ?_)
    · ((try dsimp only); first | with_reducible assumption | exact hK1 | exact hK0)
    clear hK K
    try simp only [Act.put, List.setIfInBounds_toArray, List.set_cons_zero, List.set_cons_succ]
    refine wpAnyH_take (i := 21) (oi := { dst := some 28, op := Go.Op.binOp Go.BinOp.neq 2 (Go.Operand.tmp 25) (Go.Operand.tmp 27) 2, type := 4, pos := "law.go:34", after := #[{ on := 18, ground := Go.Ground.data }, { on := 20, ground := Go.Ground.data }, { on := 16, ground := Go.Ground.guard }], guard := some (16, false) }) (v := ?_) rfl (by kernel_rfl) (by kernel_rfl) (by kernel_rfl) (fun _ _ _ h => h) (Or.inl ⟨by rfl, ?_⟩) (by assumption) ?_
    rotate_left
    · (intro w hSw; (try dsimp only at hSw); (go_simp <;> with_reducible rfl))
    try simp only [Act.put, List.setIfInBounds_toArray, List.set_cons_zero, List.set_cons_succ]
    refine wpAnyH_take (i := 22) (oi := { dst := some 29, op := Go.Op.pick (Go.Operand.tmp 23) (Go.Operand.const (Go.Value.bool true)) (Go.Operand.tmp 28), type := 4, pos := "law.go:34", after := #[{ on := 16, ground := Go.Ground.data }, { on := 21, ground := Go.Ground.data }], guard := none }) (v := ?_) rfl (by kernel_rfl) (by kernel_rfl) (by kernel_rfl) (fun _ _ _ h => h) (Or.inl ⟨by rfl, ?_⟩) (by assumption) ?_
    rotate_left
    · (intro w hSw; (try dsimp only at hSw); (go_simp <;> with_reducible rfl))
    try simp only [Act.put, List.setIfInBounds_toArray, List.set_cons_zero, List.set_cons_succ]
    refine wpAnyH_take (i := 23) (oi := { dst := some 30, op := Go.Op.move (Go.Operand.tmp 29), type := 4, pos := "law.go:34", after := #[{ on := 22, ground := Go.Ground.data }, { on := 18, ground := Go.Ground.chain }], guard := none }) (v := ?_) rfl (by kernel_rfl) (by kernel_rfl) (by kernel_rfl) (fun _ _ _ h => h) (Or.inl ⟨by rfl, ?_⟩) (by assumption) ?_
    rotate_left
    · (intro w hSw; (try dsimp only at hSw); (go_simp <;> with_reducible rfl))
    try simp only [Act.put, List.setIfInBounds_toArray, List.set_cons_zero, List.set_cons_succ]
    refine wpAnyH_take (i := 24) (oi := { dst := some 31, op := Go.Op.move (Go.Operand.tmp 0), type := 26, pos := "law.go:34", after := #[{ on := 23, ground := Go.Ground.guard }], guard := some (23, false) }) (v := ?_) rfl (by kernel_rfl) (by kernel_rfl) (by kernel_rfl) (fun _ _ _ h => h) (Or.inl ⟨by rfl, ?_⟩) (by assumption) ?_
    rotate_left
    · (intro w hSw; (try dsimp only at hSw); (go_simp <;> with_reducible rfl))
    try simp only [Act.put, List.setIfInBounds_toArray, List.set_cons_zero, List.set_cons_succ]
    refine wpAnyH_take (i := 26) (oi := { dst := some 33, op := Go.Op.fieldAddr 33 (Go.Operand.tmp 3) 3, type := 0, pos := "law.go:34", after := #[{ on := 23, ground := Go.Ground.guard }], guard := some (23, false) }) (v := ?_) rfl (by kernel_rfl) (by kernel_rfl) (by kernel_rfl) (fun _ _ _ h => h) (Or.inl ⟨by rfl, ?_⟩) (by assumption) ?_
    rotate_left
    · (intro w hSw; (try dsimp only at hSw); (go_simp <;> with_reducible rfl))
    try simp only [Act.put, List.setIfInBounds_toArray, List.set_cons_zero, List.set_cons_succ]
    refine wpAnyH_take (i := 27) (oi := { dst := some 34, op := Go.Op.load 31 (Go.Operand.tmp 33), type := 31, pos := "law.go:34", after := #[{ on := 26, ground := Go.Ground.data }, { on := 23, ground := Go.Ground.guard }], guard := some (23, false) }) (v := ?_) rfl (by kernel_rfl) (by kernel_rfl) (by kernel_rfl) (fun _ _ _ h => h) (Or.inl ⟨by rfl, ?_⟩) (by assumption) ?_
    rotate_left
    · (intro w hSw; (try dsimp only at hSw); (go_simp <;> with_reducible rfl))
    try simp only [Act.put, List.setIfInBounds_toArray, List.set_cons_zero, List.set_cons_succ]
    refine wpAnyH_take (i := 28) (oi := { dst := some 35, op := Go.Op.call { callee := Go.Callee.builtin Go.Builtin.len, args := #[Go.Operand.tmp 34], argTypes := #[31] }, type := 3, pos := "law.go:34", after := #[{ on := 27, ground := Go.Ground.data }, { on := 23, ground := Go.Ground.guard }], guard := some (23, false) }) (v := ?_) rfl (by kernel_rfl) (by kernel_rfl) (by kernel_rfl) (fun _ _ _ h => h) (Or.inl ⟨by rfl, ?_⟩) (by assumption) ?_
    rotate_left
    · (intro w hSw; (try dsimp only at hSw); (go_simp <;> with_reducible rfl))
    try simp only [Act.put, List.setIfInBounds_toArray, List.set_cons_zero, List.set_cons_succ]
    refine wpAnyH_ready (rs := [25]) (by kernel_rfl) (by simp) ?_
    refine AllReadyH.cons (o := { dst := some 32, op := Go.Op.call { callee := Go.Callee.value (Go.Operand.func 13), args := #[Go.Operand.tmp 31], argTypes := #[26] }, type := 3, pos := "law.go:34", after := #[{ on := 24, ground := Go.Ground.data }, { on := 23, ground := Go.Ground.chain }, { on := 23, ground := Go.Ground.guard }], guard := some (23, false) }) rfl (fun K hK => ?_) ?_
    rotate_left
    · exact AllReadyH.nil
    go_simp
    refine (HL.out _ HGw.out).mono ?_
    rintro e w2 ⟨rfl, rfl⟩
    go_wp2_with fail
    refine hK.out _ _ ?_ (fun hHeld => ?_)
    · ((try dsimp only); first | with_reducible assumption | exact hK1 | exact hK0)
    clear hK K
    try simp only [Act.put, List.setIfInBounds_toArray, List.set_cons_zero, List.set_cons_succ]
    refine wpAnyH_take (i := 29) (oi := { dst := some 36, op := Go.Op.binOp Go.BinOp.neq 3 (Go.Operand.tmp 32) (Go.Operand.tmp 35) 3, type := 4, pos := "law.go:34", after := #[{ on := 25, ground := Go.Ground.data }, { on := 28, ground := Go.Ground.data }, { on := 23, ground := Go.Ground.guard }], guard := some (23, false) }) (v := ?_) rfl (by kernel_rfl) (by kernel_rfl) (by kernel_rfl) (fun _ _ _ h => h) (Or.inl ⟨by rfl, ?_⟩) (by assumption) ?_
    rotate_left
    · (intro w hSw; (try dsimp only at hSw); (go_simp <;> with_reducible rfl))
    try simp only [Act.put, List.setIfInBounds_toArray, List.set_cons_zero, List.set_cons_succ]
    refine wpAnyH_take (i := 30) (oi := { dst := some 37, op := Go.Op.pick (Go.Operand.tmp 30) (Go.Operand.const (Go.Value.bool true)) (Go.Operand.tmp 36), type := 4, pos := "law.go:34", after := #[{ on := 23, ground := Go.Ground.data }, { on := 29, ground := Go.Ground.data }], guard := none }) (v := ?_) rfl (by kernel_rfl) (by kernel_rfl) (by kernel_rfl) (fun _ _ _ h => h) (Or.inl ⟨by rfl, ?_⟩) (by assumption) ?_
    rotate_left
    · (intro w hSw; (try dsimp only at hSw); (go_simp <;> with_reducible rfl))
    try simp only [Act.put, List.setIfInBounds_toArray, List.set_cons_zero, List.set_cons_succ]
    refine wpAnyH_done (by kernel_rfl) ?_ _
    refine NoPanic.normal ?_
    go_wp2
    go_meet
    case rel => exact ⟨rfl, HG1.out⟩
  case rest =>
  obtain ⟨rfl, HG1⟩ := hcut
  obtain ⟨w1, hw1⟩ : ∃ w1, w1 = wc := ⟨_, rfl⟩
  subst hw1
  have HGw := hide (grown_trans HG.out HG1.out)
  have HB2 := hide (heap_alloc_new w1 (.cells [Value.int .i64 0].toArray 3))
  have HGa := hide (gn_alloc HGw.out (.cells [Value.int .i64 0].toArray 3))
  have HG0a := hide (gn_alloc HG1.out (.cells [Value.int .i64 0].toArray 3))
  have hz1 := HG1.out.size
  clear hK0 HS HN HC HL
  go_wp2_with fail
  generalize hw2 : World.alloc w1 _ = w2 at *
  have hs2 : w2.heap.size = w1.heap.size + 1 := by rw [← hw2, Ge.alloc_size]
  clear hw2
  refine (HA.out _ HGa.out).mono ?_
  rintro e w3 ⟨u, rfl, ⟨B, so, scap, rfl, hI, hBq⟩, g3⟩
  have hz3 := g3.size
  have HQ : Hid (∀ i, vbk B so S.L.length i → w2.heap.size ≤ i ∧ i < w3.heap.size) := fun i hi => ⟨hBq i hi, hI.lt i hi⟩
  have I0 : Hid (IsI w0 w3 w1.heap.size w3.heap.size []) := ⟨(g3.block _ (row_lt HB2.out) (by simp)).trans HB2.out, grown_trans HG0a.out g3, Nat.le_refl _⟩
  have hw3 : w0.heap.size ≤ w3.heap.size := by omega
  have HI := hide hI
  have HGv := hide HG.out
  clear hI hBq HA HGa HG0a HB2 g3 HGw HG1
  go_wp2
  refine (wpIn_wide (n := 6)).1 (wpIn_range_V (w := w3) rfl (by decide) (gf := 90) (lb := #[.pointer (some ⟨B, 0, none⟩)]) rfl trivial (enters_of Tryz.func90 (by kernel_rfl) rfl)
    (encs := encB) (Kp := KpB (vbk B so S.L.length)) (V := fun pre x _ => pre ++ [x] <+: S.L) (S := fun ys => ys = S.L)
    (fun W hW => vt_seqV 5 (by decide) B so scap S.L (by omega) W (HI.out.grown hW))
    (fun h k => h.trans k) (fun W l o hl => KpB.put (fun hq => by have := (HQ.out l hq).2; omega)) (fun W W' _ hg => KpB.new hg) (fun _ => rfl)
    (fun pre => fun _ _ _ _ h _ _ => h)
    (fun pre W => IsI w0 W w1.heap.size w3.heap.size pre) (fun _ _ _ => False)
    (IsI.own_from hw3) (fun _ _ _ _ _ h _ _ => h) I0.out
    (fun x a' W => ∃ F, a' = { tmps := #[Value.pointer (some ⟨p.b, 0, none⟩), .agg #[.int .i64 A, .int .i64 Bb, .int .i64 Cc, .int .u32 Nx, .int .i64 Tt, .slice ao S.L.length cap], undef, Value.pointer (some ⟨w.heap.size, 0, none⟩), Value.pointer (some ⟨w.heap.size + 1, 0, none⟩), Value.pointer (some ⟨w1.heap.size, 0, none⟩), Value.pointer (some ⟨F, 0, none⟩), u7, u8, u9, u10, u11, u12, u13, u14, u15, u16, u17, u18, u19, u20, u21, u22, u23, u24, u25, u26, u27, u28, u29, u30, u31, u32, u33, u34, u35, u36, Value.bool false, Value.pointer (some ⟨p.b, 0, none⟩), Value.func (Fn.func 90) #[] #[Value.pointer (some ⟨B, 0, none⟩)], bgV x, undef, undef, undef, undef, undef, undef, undef, undef, undef, undef, undef, undef, undef, undef, undef, undef, undef, undef, undef, undef, undef], defers := [] } ∧ W.heap[F]? = some (.cells (bgc x).toArray 45 (0, 0)))
    (fun x => fun a' W W' row h hg hr => by obtain ⟨F, h1, h2⟩ := h; exact ⟨F, h1, cells_own_from w3.heap.size () W W' row h2 hg hr⟩) ?assign ?body ?done (fun _ _ _ _ _ h _ => h.elim))
  case assign =>
    rintro l pre ⟨xi, xs, xu⟩ W K hI hV hK
    simp only [encB, bgV]
    gi_wp2
    exact hK _ _ (grown_alloc W _) ⟨W.heap.size, rfl, heap_alloc_new W _⟩
  case body =>
    rintro l pre x a' W hI hV ⟨F, rfl, hF⟩
    obtain ⟨hpl, hrd⟩ := pre_rd hV
    obtain ⟨ao', cap', he, hx⟩ := (HV.out W (grown_trans HGv.out hI.gr)).ex
    cases he
    obtain ⟨gg, rfl, q0, q1, q2⟩ := hx pre.length hpl
    rw [hrd] at q0 q1 q2
    have hlt : (pre.length : Int) < LL := by omega
    have hh0 : (0 : Int) ≤ (pre.length : Int) := by omega
    have c0 : W.cell? ⟨w1.heap.size, 0, none⟩ = some (.int .i64 (pre.length : Int)) := by rw [cell_row hI.ix]; rfl
    have cf := free_row hI.ix 0
    have c5 := (HK.out.then hI.gr).2.2.2.2.2
    obtain ⟨f0, f1, f2, -⟩ := box3 hF
    have hwr : IntKind.i64.wrap ((pre.length : Int) + 1) = ((pre.length + 1 : Nat) : Int) := by rw [IntKind.wrap_i64]; omega
    have HZ : Hid (∀ a', ownPostG w3.heap.size (KpB (vbk B so S.L.length)) (fun pre W => IsI w0 W w1.heap.size w3.heap.size pre) (fun _ _ _ => False) (pre ++ [x]) W .normal a' (W.setCell ⟨w1.heap.size, 0, none⟩ (.int .i64 ((pre.length + 1 : Nat) : Int))).drew) := by
      intro a'
      have g1 : W.grownBy (W.setCell ⟨w1.heap.size, 0, none⟩ (.int .i64 ((pre.length + 1 : Nat) : Int))).drew (some w1.heap.size) := grown_trans (grown_setCell W _ _ _) (grown_drew _ _)
      refine ⟨⟨g1.size, fun k o hk ho hc => (g1.block k (row_lt ho) (fun e => by have := Option.some.inj e; omega)).trans ho⟩, KpB.of (Kept.of g1 (S := fun i => i = w1.heap.size) (fun j e _ => (Option.some.inj e).symm)) (fun i hi e2 => by have := HQ.out i hi; omega), ⟨?_, grown_then hI.gr g1 (fun j e => .inl (by cases e; exact hz1)), Nat.le_trans hI.sz g1.size⟩⟩
      rw [List.length_append]
      exact row_setCell hI.ix 0 _
    have HZ2 : Hid (∀ a', ownPostG w3.heap.size (KpB (vbk B so S.L.length)) (fun pre W => IsI w0 W w1.heap.size w3.heap.size pre) (fun _ _ _ => False) (pre ++ [x]) W .normal a' (W.setCell ⟨w1.heap.size, 0, none⟩ (.int .i64 ((pre.length + 1 : Nat) : Int)))) := by
      intro a'
      have g1 : W.grownBy (W.setCell ⟨w1.heap.size, 0, none⟩ (.int .i64 ((pre.length + 1 : Nat) : Int))) (some w1.heap.size) := grown_setCell W _ _ _
      refine ⟨⟨g1.size, fun k o hk ho hc => (g1.block k (row_lt ho) (fun e => by have := Option.some.inj e; omega)).trans ho⟩, KpB.of (Kept.of g1 (S := fun i => i = w1.heap.size) (fun j e _ => (Option.some.inj e).symm)) (fun i hi e2 => by have := HQ.out i hi; omega), ⟨?_, grown_then hI.gr g1 (fun j e => .inl (by cases e; exact hz1)), Nat.le_trans hI.sz g1.size⟩⟩
      rw [List.length_append]
      exact row_setCell hI.ix 0 _
    obtain ⟨xi, xs, xu⟩ := x
    have hK0 : W.drew.cell? ⟨w1.heap.size, 0, none⟩ = some (.int .i64 (pre.length : Int)) ∧ W.drew.cell? ⟨w.heap.size, 5, none⟩ = some (.slice (some ⟨gg, 0, none⟩) S.L.length cap) ∧ W.drew.cell? ⟨F, 0, none⟩ = some (.int .u32 (xi : Int)) ∧ W.drew.cell? ⟨F, 1, none⟩ = some (.int .i64 (xs : Int)) ∧ W.drew.cell? ⟨F, 2, none⟩ = some (.int .i64 xu) ∧ W.drew.cell? ⟨gg, pre.length * 3, none⟩ = some (.int .u32 (xi : Int)) ∧ W.drew.cell? ⟨gg, pre.length * 3 + 1, none⟩ = some (.int .i64 (xs : Int)) ∧ W.drew.cell? ⟨gg, pre.length * 3 + 2, none⟩ = some (.int .i64 xu) := ⟨c0, c5, f0, f1, f2, q0, q1, q2⟩
    have c0d : W.drew.cell? ⟨w1.heap.size, 0, none⟩ = some (.int .i64 (pre.length : Int)) := c0
    have cfd : W.drew.frozen? ⟨w1.heap.size, 0, none⟩ = false := cf
    clear hI hV hF hx hrd HK HV
    simp only [bgV] at *
    gi_wp2
    refine wpIn_round_held (S := (fun W => W.cell? ⟨w1.heap.size, 0, none⟩ = some (.int .i64 (pre.length : Int)) ∧ W.cell? ⟨w.heap.size, 5, none⟩ = some (.slice (some ⟨gg, 0, none⟩) S.L.length cap) ∧ W.cell? ⟨F, 0, none⟩ = some (.int .u32 (xi : Int)) ∧ W.cell? ⟨F, 1, none⟩ = some (.int .i64 (xs : Int)) ∧ W.cell? ⟨F, 2, none⟩ = some (.int .i64 xu) ∧ W.cell? ⟨gg, pre.length * 3, none⟩ = some (.int .u32 (xi : Int)) ∧ W.cell? ⟨gg, pre.length * 3 + 1, none⟩ = some (.int .i64 (xs : Int)) ∧ W.cell? ⟨gg, pre.length * 3 + 2, none⟩ = some (.int .i64 xu))) (by kernel_rfl) (by kernel_rfl) (by rintro ⟨_, _, h⟩; exact h) ?_ (fun hHeld => ?_)
    · (exact hK0)
    refine wpAnyH_take (i := 0) (oi := { dst := some 41, op := Go.Op.load 3 (Go.Operand.tmp 5), type := 3, pos := "law.go:39", after := #[], guard := none }) (v := ?_) rfl (by kernel_rfl) (by kernel_rfl) (by kernel_rfl) (fun _ _ _ h => h) (Or.inl ⟨by rfl, ?_⟩) (by assumption) ?_
    rotate_left
    · (intro w hSw; (try dsimp only at hSw); (go_simp <;> with_reducible rfl))
    try simp only [Act.put, List.setIfInBounds_toArray, List.set_cons_zero, List.set_cons_succ]
    refine wpAnyH_take (i := 1) (oi := { dst := some 42, op := Go.Op.fieldAddr 33 (Go.Operand.tmp 3) 3, type := 0, pos := "law.go:39", after := #[], guard := none }) (v := ?_) rfl (by kernel_rfl) (by kernel_rfl) (by kernel_rfl) (fun _ _ _ h => h) (Or.inl ⟨by rfl, ?_⟩) (by assumption) ?_
    rotate_left
    · (intro w hSw; (try dsimp only at hSw); (go_simp <;> with_reducible rfl))
    try simp only [Act.put, List.setIfInBounds_toArray, List.set_cons_zero, List.set_cons_succ]
    refine wpAnyH_take (i := 2) (oi := { dst := some 43, op := Go.Op.load 31 (Go.Operand.tmp 42), type := 31, pos := "law.go:39", after := #[{ on := 1, ground := Go.Ground.data }], guard := none }) (v := ?_) rfl (by kernel_rfl) (by kernel_rfl) (by kernel_rfl) (fun _ _ _ h => h) (Or.inl ⟨by rfl, ?_⟩) (by assumption) ?_
    rotate_left
    · (intro w hSw; (try dsimp only at hSw); (go_simp <;> with_reducible rfl))
    try simp only [Act.put, List.setIfInBounds_toArray, List.set_cons_zero, List.set_cons_succ]
    refine wpAnyH_take (i := 3) (oi := { dst := some 44, op := Go.Op.call { callee := Go.Callee.builtin Go.Builtin.len, args := #[Go.Operand.tmp 43], argTypes := #[31] }, type := 3, pos := "law.go:39", after := #[{ on := 2, ground := Go.Ground.data }], guard := none }) (v := ?_) rfl (by kernel_rfl) (by kernel_rfl) (by kernel_rfl) (fun _ _ _ h => h) (Or.inl ⟨by rfl, ?_⟩) (by assumption) ?_
    rotate_left
    · (intro w hSw; (try dsimp only at hSw); (go_simp <;> with_reducible rfl))
    try simp only [Act.put, List.setIfInBounds_toArray, List.set_cons_zero, List.set_cons_succ]
    refine wpAnyH_take (i := 4) (oi := { dst := some 45, op := Go.Op.binOp Go.BinOp.geq 3 (Go.Operand.tmp 41) (Go.Operand.tmp 44) 3, type := 4, pos := "law.go:39", after := #[{ on := 0, ground := Go.Ground.data }, { on := 3, ground := Go.Ground.data }], guard := none }) (v := ?_) rfl (by kernel_rfl) (by kernel_rfl) (by kernel_rfl) (fun _ _ _ h => h) (Or.inl ⟨by rfl, ?_⟩) (by assumption) ?_
    rotate_left
    · (intro w hSw; refine geq_op (t := 3) (k := .i64) (x := .tmp 41) (y := .tmp 44) (p := (pre.length : Int)) (q := LL) ?_ ?_ ?_ hlt w <;> rfl)
    try simp only [Act.put, List.setIfInBounds_toArray, List.set_cons_zero, List.set_cons_succ]
    refine wpAnyH_take (i := 5) (oi := { dst := some 46, op := Go.Op.move (Go.Operand.tmp 45), type := 4, pos := "law.go:39", after := #[{ on := 4, ground := Go.Ground.data }], guard := none }) (v := ?_) rfl (by kernel_rfl) (by kernel_rfl) (by kernel_rfl) (fun _ _ _ h => h) (Or.inl ⟨by rfl, ?_⟩) (by assumption) ?_
    rotate_left
    · (intro w hSw; (try dsimp only at hSw); (go_simp <;> with_reducible rfl))
    try simp only [Act.put, List.setIfInBounds_toArray, List.set_cons_zero, List.set_cons_succ]
    refine wpAnyH_take (i := 6) (oi := { dst := some 47, op := Go.Op.load 45 (Go.Operand.tmp 6), type := 45, pos := "law.go:39", after := #[{ on := 5, ground := Go.Ground.guard }], guard := some (5, false) }) (v := ?_) rfl (by kernel_rfl) (by kernel_rfl) (by kernel_rfl) (fun _ _ _ h => h) (Or.inl ⟨by rfl, ?_⟩) (by assumption) ?_
    rotate_left
    · (intro w hSw; (try dsimp only at hSw); (go_simp <;> with_reducible rfl))
    try simp only [Act.put, List.setIfInBounds_toArray, List.set_cons_zero, List.set_cons_succ]
    refine wpAnyH_take (i := 7) (oi := { dst := some 48, op := Go.Op.fieldAddr 33 (Go.Operand.tmp 3) 3, type := 0, pos := "law.go:39", after := #[{ on := 5, ground := Go.Ground.guard }], guard := some (5, false) }) (v := ?_) rfl (by kernel_rfl) (by kernel_rfl) (by kernel_rfl) (fun _ _ _ h => h) (Or.inl ⟨by rfl, ?_⟩) (by assumption) ?_
    rotate_left
    · (intro w hSw; (try dsimp only at hSw); (go_simp <;> with_reducible rfl))
    try simp only [Act.put, List.setIfInBounds_toArray, List.set_cons_zero, List.set_cons_succ]
    refine wpAnyH_take (i := 8) (oi := { dst := some 49, op := Go.Op.load 31 (Go.Operand.tmp 48), type := 31, pos := "law.go:39", after := #[{ on := 7, ground := Go.Ground.data }, { on := 5, ground := Go.Ground.guard }], guard := some (5, false) }) (v := ?_) rfl (by kernel_rfl) (by kernel_rfl) (by kernel_rfl) (fun _ _ _ h => h) (Or.inl ⟨by rfl, ?_⟩) (by assumption) ?_
    rotate_left
    · (intro w hSw; (try dsimp only at hSw); (go_simp <;> with_reducible rfl))
    try simp only [Act.put, List.setIfInBounds_toArray, List.set_cons_zero, List.set_cons_succ]
    refine wpAnyH_take (i := 9) (oi := { dst := some 50, op := Go.Op.load 3 (Go.Operand.tmp 5), type := 3, pos := "law.go:39", after := #[{ on := 5, ground := Go.Ground.guard }], guard := some (5, false) }) (v := ?_) rfl (by kernel_rfl) (by kernel_rfl) (by kernel_rfl) (fun _ _ _ h => h) (Or.inl ⟨by rfl, ?_⟩) (by assumption) ?_
    rotate_left
    · (intro w hSw; (try dsimp only at hSw); (go_simp <;> with_reducible rfl))
    try simp only [Act.put, List.setIfInBounds_toArray, List.set_cons_zero, List.set_cons_succ]
    refine wpAnyH_take (i := 10) (oi := { dst := some 51, op := Go.Op.indexAddr 31 (Go.Operand.tmp 49) (Go.Operand.tmp 50), type := 0, pos := "law.go:39", after := #[{ on := 8, ground := Go.Ground.data }, { on := 9, ground := Go.Ground.data }, { on := 5, ground := Go.Ground.guard }], guard := some (5, false) }) (v := ?_) rfl (by kernel_rfl) (by kernel_rfl) (by kernel_rfl) (fun _ _ _ h => h) (Or.inl ⟨by rfl, ?_⟩) (by assumption) ?_
    rotate_left
    · (intro w hSw; (try dsimp only at hSw); (go_simp <;> with_reducible rfl))
    try simp only [Act.put, List.setIfInBounds_toArray, List.set_cons_zero, List.set_cons_succ]
    refine wpAnyH_take (i := 11) (oi := { dst := some 52, op := Go.Op.load 45 (Go.Operand.tmp 51), type := 45, pos := "law.go:39", after := #[{ on := 10, ground := Go.Ground.data }, { on := 5, ground := Go.Ground.guard }], guard := some (5, false) }) (v := ?_) rfl (by kernel_rfl) (by kernel_rfl) (by kernel_rfl) (fun _ _ _ h => h) (Or.inl ⟨by rfl, ?_⟩) (by assumption) ?_
    rotate_left
    · (intro w hSw; (try dsimp only at hSw); (go_simp <;> with_reducible rfl))
    try simp only [Act.put, List.setIfInBounds_toArray, List.set_cons_zero, List.set_cons_succ]
    refine wpAnyH_take (i := 12) (oi := { dst := some 53, op := Go.Op.binOp Go.BinOp.neq 45 (Go.Operand.tmp 47) (Go.Operand.tmp 52) 45, type := 4, pos := "law.go:39", after := #[{ on := 6, ground := Go.Ground.data }, { on := 11, ground := Go.Ground.data }, { on := 5, ground := Go.Ground.guard }], guard := some (5, false) }) (v := ?_) rfl (by kernel_rfl) (by kernel_rfl) (by kernel_rfl) (fun _ _ _ h => h) (Or.inl ⟨by rfl, ?_⟩) (by assumption) ?_
    rotate_left
    · (intro w hSw; refine neq_op (x := .tmp 47) (y := .tmp 52) (p := (xi : Int)) (q := (xs : Int)) (r := xu) ?_ ?_ ?_ w <;> rfl)
    try simp only [Act.put, List.setIfInBounds_toArray, List.set_cons_zero, List.set_cons_succ]
    refine wpAnyH_take (i := 13) (oi := { dst := some 54, op := Go.Op.pick (Go.Operand.tmp 46) (Go.Operand.const (Go.Value.bool true)) (Go.Operand.tmp 53), type := 4, pos := "law.go:39", after := #[{ on := 5, ground := Go.Ground.data }, { on := 12, ground := Go.Ground.data }], guard := none }) (v := ?_) rfl (by kernel_rfl) (by kernel_rfl) (by kernel_rfl) (fun _ _ _ h => h) (Or.inl ⟨by rfl, ?_⟩) (by assumption) ?_
    rotate_left
    · (intro w hSw; (try dsimp only at hSw); (go_simp <;> with_reducible rfl))
    try simp only [Act.put, List.setIfInBounds_toArray, List.set_cons_zero, List.set_cons_succ]
    refine wpAnyH_done (by kernel_rfl) ?_ _
    gi_wp2
    first | exact HZ.out _ | exact HZ2.out _
  case done =>
    rintro D ys W hD rfl hI hK
    have c0 : W.cell? ⟨w1.heap.size, 0, none⟩ = some (.int .i64 LL) := by rw [cell_row hI.ix, ← HLL.out]; rfl
    have c5 := (HK.out.then hI.gr).2.2.2.2.2
    have HRw : Hid (W.heap[w.heap.size + 1]? = some (.cells [Value.bool false].toArray 4 (0, 0))) := (hI.gr.block _ (row_lt HRs.out) (by simp)).trans HRs.out
    have cr : W.cell? ⟨w.heap.size + 1, 0, none⟩ = some (.bool false) := by rw [cell_row HRw.out]; rfl
    have cz := free_row HRw.out 0
    have HX := hide (And.intro hI hK)
    have hee : (LL == LL) = true := by simp
    clear hI hK HK
    go_wp2
    obtain ⟨hI, hK⟩ := HX.out
    have g1 := grown_setCell W (w.heap.size + 1) 0 (Value.bool true)
    have hD1 : D ≠ w.heap.size + 1 := fun e => by rw [e] at hD; omega
    have hK' : (W.setCell ⟨w.heap.size + 1, 0, none⟩ (Value.bool true)).heap[D]? = _ := (g1.block D (row_lt hK) (fun e => hD1 (Option.some.inj e))).trans hK
    refine ⟨by simp, .inl ⟨_, _, rfl, run_takeDeferred hK', ?_⟩⟩
    refine ⟨_, results_cell4 rfl _ _ (w.heap.size + 1) (.bool true) rfl ?_, rfl, ?_⟩
    · exact (grownBy_putObj' _ D _).cell (by rw [cell_row (row_setCell HRw.out 0 _)]; rfl) (fun e => hD1 (Option.some.inj e).symm)
    · refine grown_then (grown_then (grown_trans HGv.out hI.gr) g1 (fun j e => .inl (by cases e; omega))) (grownBy_putObj' _ D _) (fun j e => by cases e; exact Or.inl (by omega))
end Go.Proofs.YtahjckcfcdnlmaaGreatDoor
/- The chapter's example. -/
namespace Go.Proofs.YtahjckcfcdnlmaaGreatDoor
open Go.RowKit
attribute [local go_sem ↓] Go.wp_at_zero Go.wp_at_succ
attribute [local go_sem] Oper.semAt_some
def exS : Sb := ⟨12, 8, 4, 3, 0, [⟨1, 3, 9⟩, ⟨2, 0, 0⟩]⟩
def exX : List Bw := [⟨1, 3, 9⟩, ⟨2, 0, 0⟩]
theorem exS_ok : exS.Ok := by
  refine ⟨by decide, by decide, by decide, by decide, by decide, by decide, by decide, by decide, by decide, by decide, ?_, ?_, ?_, ?_, ?_, by decide⟩
  · simp [AscB, exS]
  · simp [exS]
  · simp [exS]
  · simp [OneS, exS]
  · simp [exS, mxC]
theorem exX_right : Right 12 8 4 3 0 exX := ⟨by unfold Gx.OkS; omega, by omega, by omega, by simp only [mxC]; omega, okX_of exS_ok⟩
theorem exX_bg : exX.map Bw.bg = exS.L := rfl
theorem ex_length : (img exS).length = 48 := by rw [img_length]; rfl
theorem ex_take : (img exS).take 7 = [12, 0, 8, 0, 0, 0, 3] := by decide
theorem results_48 {fn : Func} {p : Tmp} (h : fn.results = #[.cell p 48]) (tmps : Array Value) (w : World) (g : Nat) (x0 x1 x2 x3 x4 x5 : Value) (hp : tmps.getD p undef = .pointer (some ⟨g, 0, none⟩)) (hb : w.heap[g]? = some (.cells [x0, x1, x2, x3, x4, x5].toArray 48 (0, 0))) :
    (results fn tmps).run Tryz.prog w = .ok (.agg #[x0, x1, x2, x3, x4, x5]) w := by
  have hp' : tmps[p]?.getD undef = .pointer (some ⟨g, 0, none⟩) := by simpa using hp
  have h1 : w.rangeAt g 0 [x0, x1, x2, x3, x4, x5] := fun j v hv => by rw [Nat.zero_add, cell_row hb]; exact hv
  have h2 := run_loadVar_mid w g 0 48 [x0, x1, x2, x3, x4, x5] _ h1 Tryz.underlying48 rfl (by kernel_rfl)
  simp [results, h, hp', asAddr, h2]
set_option maxRecDepth 20000 in
set_option maxHeartbeats 4000000 in
theorem example_any (w : World) : Calls Tryz.prog 28 #[] w fun e w' => ∃ g, e = .returned (.agg #[.int .i64 12, .int .i64 8, .int .i64 4, .int .u32 3, .int .i64 0, .slice (some ⟨g, 0, none⟩) 2 2]) ∧ w'.heap[g]? = some (.cells (bwcs exX).toArray 45 (0, 0)) ∧ w.grownBy w' none := by
  go_enter Tryz.func28, Tryz.ntmps28
  go_wp2
  refine bodyPost_ret (results_48 (p := 0) rfl _ _ w.heap.size (.int .i64 12) (.int .i64 8) (.int .i64 4) (.int .u32 3) (.int .i64 0) (.slice (some ⟨w.heap.size + 1, 0, none⟩) 2 2) rfl ?_) rfl ⟨w.heap.size + 1, rfl, ?_, gn_alloc (grown_alloc w _) _⟩
  · exact ((grown_alloc _ _).block _ (row_lt (heap_alloc_new w _)) (by simp)).trans (heap_alloc_new w _)
  · exact Ge.alloc2_new w _ _
theorem ex_row {w : World} {g : Nat} (h : w.heap[g]? = some (.cells (bwcs exX).toArray 45 (0, 0))) : BwC w (some ⟨g, 0, none⟩) exX := by
  intro j u hj
  refine ⟨_, rfl, ?_⟩
  rw [Addr.add_lit, Nat.zero_add, cell_row h]
  exact hj
theorem conv_ex {w : World} {G : Nat} (hb : w.heap[G]? = some (.cells ((img exS).map (Value.int .u8)).toArray 5 (0, 0))) : (convert 24 9 (.slice (some ⟨G, 0, none⟩) 7 48)).run Tryz.prog w = .ok (.string ⟨#[12, 0, 8, 0, 0, 0, 3]⟩) w := by
  refine run_convert_bytes_back (P := Tryz.prog) w 24 9 5 ⟨G, 0, none⟩ 48 [12, 0, 8, 0, 0, 0, 3] Tryz.underlying24 Tryz.underlying5 Tryz.underlying9 ?_
  intro j hj
  have hj4 : j < 7 := hj
  rw [Addr.add_lit, Nat.zero_add, cell_row hb, List.getElem?_map]
  have e : (img exS)[j]? = ([12, 0, 8, 0, 0, 0, 3] : List Int)[j]? := by rw [← ex_take, List.getElem?_take_of_lt hj4]
  rw [e]
  have : j = 0 ∨ j = 1 ∨ j = 2 ∨ j = 3 ∨ j = 4 ∨ j = 5 ∨ j = 6 := by omega
  rcases this with rfl | rfl | rfl | rfl | rfl | rfl | rfl <;> simp
theorem ex_got : GetOk 12 8 4 (img exS) ∧ getS 12 8 4 (img exS) = exS := by
  have := get_img exS_ok (a := 12) (b := 8) (c := 4) rfl rfl (by omega)
  exact this
theorem ex_not : ¬ GetOk 11 8 4 (img exS) ∧ getE 11 8 4 (img exS) = 180 := by
  have hH := hd_img exS_ok
  have eM : imM (img exS) = 2 := by unfold imM; rw [hH.hm]; rfl
  constructor
  · intro h
    have h1 := h.ha
    rw [hH.ha] at h1
    simp [exS] at h1
  · unfold getE
    rw [if_neg (by simp [Gx.OkS]), ex_length, eM]
    simp
set_option maxRecDepth 20000 in
set_option maxHeartbeats 16000000 in
theorem awake_any (w : World) : Calls Tryz.prog 9 #[] w fun e w' => e = .returned (.bool true) ∧ w.grownBy w' none := by
  have HEx := hide (example_any w)
  have HMd : Hid (∀ W g, BwC W (some ⟨g, 0, none⟩) exX → Calls Tryz.prog 17 #[.agg #[.int .i64 12, .int .i64 8, .int .i64 4, .int .u32 3, .int .i64 0, .slice (some ⟨g, 0, none⟩) 2 2]] W fun e w' => ∃ x p, e = .returned (.tuple #[.pointer (some ⟨x, 0, none⟩), .int .i64 0]) ∧ Lk W w' x exS 4096 p []) := fun W g h => made_yes (n := 3) (X := exX) rfl h (fun e => by cases e) (by omega) (by omega) exX_right
  have HPt : Hid (∀ w0 W x p, Lk w0 W x exS 4096 p [] → Calls Tryz.prog 15 #[.pointer (some ⟨x, 0, none⟩)] W fun e w' => ∃ B, e = .returned (.tuple #[.slice (some ⟨B, 0, none⟩) 48 48, .int .i64 0]) ∧ w'.heap[B]? = some (.cells ((img exS).map (Value.int .u8)).toArray 5 (0, 0)) ∧ W.grownBy w' none) := by
    intro w0 W x p h
    have := put_any h.bk exS_ok
    rw [h.eb, ex_length] at this
    refine this.mono ?_
    rintro e w' ⟨B, rfl, h1, _, h2⟩
    exact ⟨B, rfl, h1, h2⟩
  have HCp : Hid (∀ W G, W.heap[G]? = some (.cells ((img exS).map (Value.int .u8)).toArray 5 (0, 0)) → Calls Tryz.prog 14 #[.slice (some ⟨G, 0, none⟩) 48 48] W fun e w' => ∃ ao cap, e = .returned (.slice ao 48 cap) ∧ Oc.At w' ao (img exS) ∧ (ao = none → (48 : Nat) = 0 ∧ cap = 0) ∧ 48 ≤ cap ∧ cap ≤ maxLen ∧ W.grownBy w' none) := by
    intro W G h
    refine (Oc.copy_any (some ⟨G, 0, none⟩) 48 48 (img exS) W ex_length (Oc.at_row h) (fun e => by cases e) (by omega)).mono ?_
    rintro e w' ⟨v, rfl, h1, h2⟩
    obtain ⟨ao, cap, rfl, hl, hnc, hcm, hat, hnil, _⟩ := Oc.own_at h1
    exact ⟨ao, cap, rfl, hat, hnil, hnc, hcm, h2⟩
  have HGt : Hid (∀ W ao cap, Oc.At W ao (img exS) → (ao = none → (48 : Nat) = 0 ∧ cap = 0) → 48 ≤ cap → cap ≤ maxLen → Calls Tryz.prog 6 #[.agg #[.int .i64 12, .int .i64 8, .int .i64 4], .slice ao 48 cap] W fun e w' => ∃ x p, e = .returned (.tuple #[.pointer (some ⟨x, 0, none⟩), .int .i64 0]) ∧ Lk W w' x exS 4096 p []) := by
    intro W ao cap h1 h2 h3 h4
    have := get_yes ex_length h1 (byt_img exS) h2 h3 h4 ex_got.1
    rw [ex_got.2] at this
    exact this
  have HGn : Hid (∀ W G, W.heap[G]? = some (.cells ((img exS).map (Value.int .u8)).toArray 5 (0, 0)) → Calls Tryz.prog 6 #[.agg #[.int .i64 11, .int .i64 8, .int .i64 4], .slice (some ⟨G, 0, none⟩) 48 48] W fun e w' => e = .returned (.tuple #[.pointer none, .int .i64 180]) ∧ W.grownBy w' none) := by
    intro W G h
    have := get_no (a := 11) (b := 8) (c := 4) ex_length (Oc.at_row h) (byt_img exS) (fun e => by cases e) (Nat.le_refl 48) (by unfold maxLen; omega) ex_not.1
    rw [ex_not.2] at this
    exact this
  have HTd : Hid (∀ W g, BwC W (some ⟨g, 0, none⟩) exX → Calls Tryz.prog 29 #[.agg #[.int .i64 12, .int .i64 8, .int .i64 4, .int .u32 3, .int .i64 0, .slice (some ⟨g, 0, none⟩) 2 2]] W fun e w' => ∃ vo vcap r, e = .returned (.tuple #[.agg #[.int .i64 12, .int .i64 8, .int .i64 4, .int .u32 3, .int .i64 0, .slice vo 2 vcap], .bool r]) ∧ BgA w' (.slice vo 2 vcap) exS.L ∧ W.grownBy w' none) := by
    intro W g h
    refine (told_any (a := 12) (b := 8) (c := 4) (t := 0) (n := 3) (X := exX) (len := 2) (cap := 2) rfl h (fun e => by cases e) (by omega)).mono ?_
    rintro e w' ⟨vo, vcap, r, rfl, hr, h1, h2⟩
    exact ⟨vo, vcap, r, rfl, h1.bg (fun i hi => (exX_right.2.2.2.2 i hi).s0), h2⟩
  have HIs : Hid (∀ w0 W x p vo vcap, Lk w0 W x exS 4096 p [] → BgA W (.slice vo 2 vcap) exS.L → Calls Tryz.prog 11 #[.pointer (some ⟨x, 0, none⟩), .agg #[.int .i64 12, .int .i64 8, .int .i64 4, .int .u32 3, .int .i64 0, .slice vo 2 vcap]] W fun e w' => e = .returned (.bool true) ∧ W.grownBy w' none) := by
    intro w0 W x p vo vcap h hv
    have := is_any h.bk exS_ok.wk (ao := vo) (cap := vcap) hv
    rw [h.eb] at this
    exact this
  have HCv : Hid (∀ W G, W.heap[G]? = some (.cells ((img exS).map (Value.int .u8)).toArray 5 (0, 0)) → (convert 24 9 (.slice (some ⟨G, 0, none⟩) 7 48)).run Tryz.prog W = .ok (.string ⟨#[12, 0, 8, 0, 0, 0, 3]⟩) W) := fun W G h => conv_ex h
  go_enter Tryz.func9, Tryz.ntmps9
  go_wp2_with fail
  refine HEx.out.mono ?_
  rintro e w1 ⟨g, rfl, hrow, hg1⟩
  have HB := hide (ask6.new w1 48 (.int .i64 12) (.int .i64 8) (.int .i64 4) (.int .u32 3) (.int .i64 0) (.slice (some ⟨g, 0, none⟩) 2 2))
  have HRw : Hid (BwC (w1.alloc (.cells [.int .i64 12, .int .i64 8, .int .i64 4, .int .u32 3, .int .i64 0, .slice (some ⟨g, 0, none⟩) 2 2].toArray 48)) (some ⟨g, 0, none⟩) exX) := (ex_row hrow).then (grown_alloc w1 _)
  have HG1 := hide (gn_alloc hg1 (.cells [.int .i64 12, .int .i64 8, .int .i64 4, .int .u32 3, .int .i64 0, .slice (some ⟨g, 0, none⟩) 2 2].toArray 48))
  clear hrow hg1 HEx
  obtain ⟨d0, d1, d2, d3, d4, d5⟩ := HB.out
  go_wp2_with fail
  generalize hwa : World.alloc w1 _ = wa at *
  obtain ⟨Ba, hBa⟩ : ∃ Ba, w1.heap.size = Ba := ⟨_, rfl⟩
  rw [hBa] at d0 d1 d2 d3 d4 d5 HB ⊢
  clear hwa hBa
  refine (HMd.out _ _ HRw.out).mono ?_
  rintro e w2 ⟨x, p, rfl, hk2⟩
  have HK2 := hide hk2
  clear hk2 d0 d1 d2 d3 d4 d5
  go_wp2_with fail
  refine (HPt.out _ _ _ _ HK2.out).mono ?_
  rintro e w3 ⟨G, rfl, hr3, hg3⟩
  have HR3 := hide hr3
  have HGa3 := hide (grown_trans HK2.out.gr hg3)
  have HK0 : Hid (∀ W, w3.grownBy W none → W.cell? ⟨Ba, 0, none⟩ = some (.int .i64 12) ∧ W.cell? ⟨Ba, 1, none⟩ = some (.int .i64 8) ∧ W.cell? ⟨Ba, 2, none⟩ = some (.int .i64 4)) := fun W k => by have := HB.out.then (grown_trans HGa3.out k); exact ⟨this.1, this.2.1, this.2.2.1⟩
  have hK0 := HK0.out w3.drew (grown_drew w3 none)
  have HR3d : Hid (w3.drew.heap[G]? = some (.cells ((img exS).map (Value.int .u8)).toArray 5 (0, 0))) := hr3
  clear hr3 hg3
  go_wp2
  go_region_held3 (fun W => W.cell? ⟨Ba, 0, none⟩ = some (.int .i64 12) ∧ W.cell? ⟨Ba, 1, none⟩ = some (.int .i64 8) ∧ W.cell? ⟨Ba, 2, none⟩ = some (.int .i64 4)) (first | with_reducible assumption | exact hK0)
    ((first
      | (go_at_call 14; refine (HCp.out _ _ HR3d.out).mono ?_; rintro e w4 ⟨ao, cap, rfl, h1, h2, h3, h4, hg4⟩; have HA4 := hide (And.intro h1 (And.intro h2 (And.intro h3 h4))); have HG4 := hide (grown_trans (grown_drew w3 none) hg4); have hK4 := HK0.out w4 HG4.out; clear h1 h2 h3 h4 hg4)
      | (go_at_call 6; refine (HGt.out _ _ _ HA4.out.1 HA4.out.2.1 HA4.out.2.2.1 HA4.out.2.2.2).mono ?_; rintro e w5 ⟨x5, p5, rfl, hk5⟩; have HK5 := hide hk5; have HG5 := hide (grown_trans HG4.out hk5.gr); have hK5 := HK0.out w5 HG5.out; clear hk5)))
  have HR5 : Hid (w5.heap[G]? = some (.cells ((img exS).map (Value.int .u8)).toArray 5 (0, 0))) := (HG5.out.block _ (row_lt HR3.out) (by simp)).trans HR3.out
  clear hK0 hK4 hK5 HA4
  go_wp2_with fail
  refine (HGn.out _ _ HR5.out).mono ?_
  rintro e w6 ⟨rfl, hg6⟩
  have HG6 := hide hg6
  have HGa6 := hide (grown_trans (grown_trans HGa3.out HG5.out) hg6)
  obtain ⟨d0, d1, d2, d3, d4, d5⟩ := HB.out.then HGa6.out
  clear hg6
  go_wp2_with fail
  refine (HTd.out _ _ (HRw.out.then HGa6.out)).mono ?_
  rintro e w7 ⟨vo, vcap, r, rfl, hv7, hg7⟩
  have HV7 := hide (hv7.then (grown_alloc w7 (.cells [.int .i64 12, .int .i64 8, .int .i64 4, .int .u32 3, .int .i64 0, .slice vo 2 vcap].toArray 33)))
  have HG7 : Hid (w5.grownBy (w7.alloc (.cells [.int .i64 12, .int .i64 8, .int .i64 4, .int .u32 3, .int .i64 0, .slice vo 2 vcap].toArray 33)) none) := gn_alloc (grown_trans HG6.out hg7) _
  obtain ⟨f0, f1, f2, f3, f4, f5⟩ := ask6.new w7 33 (.int .i64 12) (.int .i64 8) (.int .i64 4) (.int .u32 3) (.int .i64 0) (.slice vo 2 vcap)
  have hcv := HCv.out _ _ ((HG7.out.block _ (row_lt HR5.out) (by simp)).trans HR5.out)
  clear hv7 hg7 d0 d1 d2 d3 d4 d5
  have hsl : ∀ W, (Instr.slice 24 (.slice (some ⟨G, 0, none⟩) 48 48) none (some (.int .i64 7)) none).run Tryz.prog W = .ok (.slice (some ⟨G, 0, none⟩) 7 48) W := fun W => Oc.slice_to (some ⟨G, 0, none⟩) 48 48 7 (by omega) W
  go_wp2_with fail
  refine (HIs.out _ _ _ _ _ _ (HK5.out.then HG7.out) HV7.out).mono ?_
  rintro e w8 ⟨rfl, hg8⟩
  have HG8 := hide (grown_trans (grown_trans (grown_trans (grown_trans HG1.out HGa3.out) HG5.out) HG7.out) hg8)
  clear hg8
  go_wp2
  go_ret
  exact ⟨rfl, HG8.out⟩
end Go.Proofs.YtahjckcfcdnlmaaGreatDoor
