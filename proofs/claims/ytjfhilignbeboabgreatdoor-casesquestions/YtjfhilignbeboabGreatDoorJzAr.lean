/- Texts joined: Dm. -/
import Derived.Test.YtjfhilignbeboabGreatDoorJzAn
import Derived.Test.YtjfhilignbeboabGreatDoorJzAq
namespace Go.Proofs.YtjfhilignbeboabGreatDoor
/- The document: May, of a book whose next id and clock are further on. -/
open Go.RowKit
attribute [local go_sem ↓] Go.wp_at_zero Go.wp_at_succ
attribute [local go_sem] Oper.semAt_some
theorem info4b : (Tryz.prog.info? 4).map (fun i => (i.zero, i.size, i.bytes)) = some (some (.bool false), 1, 1) := by kernel_rfl
theorem make_bools (n : Nat) (C : Int) (hC : C = (n : Int)) (h : n ≤ 1024) (w : World) : (Instr.makeSlice 88 (.int .i64 C) (.int .i64 C)).run Tryz.prog w = .ok (.slice (some ⟨w.heap.size, 0, none⟩) n n) (w.alloc (.cells (List.replicate n (Value.bool false)).toArray 4)) := by
  subst hC
  rw [run_make_row' (P := Tryz.prog) 88 4 (.bool false) 1 Tryz.underlying88 info4b rfl .i64 .i64 n (by omega) (by omega) w]
  rw [show madeCells #[.bool false] n = (List.replicate n (Value.bool false)).toArray from by apply Array.ext'; rw [toList_madeCells_one]]
def MyP (w w' : World) (S : Sb) (e : Ending) : Prop := ∃ r : Bool, e = .returned (.bool r) ∧ (r = true → S.Ok) ∧ w.grownBy w' none
structure My (w wr : World) (lo d : Nat) (v : Value) (S : Sb) (sb : Nat) (j : Nat) (bs : List Value) : Prop where
  db : Db wr lo d v S
  gr : w.grownBy wr none
  row : wr.heap[sb]? = some (.cells bs.toArray 4 (0, 0))
  len : bs.length = S.a
  ge : w.heap.size ≤ sb
  free : ∀ m, j ≤ m → m < S.L.length → bs[(rd S.L m).s]? = some (.bool false)
  til : ∀ m, m < j → m < S.L.length → (rd S.L m).u = 0 ∨ S.t < (rd S.L m).u
section
variable {w wr wr' : World} {lo d : Nat} {v : Value} {S : Sb} {sb j : Nat} {bs : List Value}
theorem My.then (h : My w wr lo d v S sb j bs) (g : wr.grownBy wr' none) : My w wr' lo d v S sb j bs := ⟨h.db.then g, grown_trans h.gr g, box_to h.row g, h.len, h.ge, h.free, h.til⟩
theorem My.next (h : My w wr lo d v S sb j bs) (hlt : ∀ i, dbo d v i → i < w.heap.size) (h1 : OneS S.L) (hj : j < S.L.length) (hu : (rd S.L j).u = 0 ∨ S.t < (rd S.L j).u) : My w (wr.setCell ⟨sb, (rd S.L j).s, none⟩ (.bool true)) lo d v S sb (j + 1) (bs.set (rd S.L j).s (.bool true)) := by
  have hge := h.ge
  refine ⟨h.db.far (kept_setCell wr sb (rd S.L j).s (.bool true)) (fun i hi e => by have := hlt i hi; omega), gn_own h.gr (grown_setCell _ _ _ _) h.ge, row_setCell h.row _ _, by rw [List.length_set]; exact h.len, h.ge, fun m hm hl => ?_, fun m hm hl => ?_⟩
  · have hne : (rd S.L j).s ≠ (rd S.L m).s := fun e => by have := h1.at (rd_get hj) (rd_get hl) e; omega
    rw [List.getElem?_set, if_neg hne]
    exact h.free m (by omega) hl
  · by_cases hmj : m < j
    · exact h.til m hmj hl
    · obtain rfl : m = j := by omega
      exact hu
theorem My.ff (h : My w wr lo d v S sb j bs) : (wr.cell? ⟨d, 1, none⟩ = some (.int .i64 (S.a : Int)) ∧ wr.cell? ⟨d, 2, none⟩ = some (.int .i64 (S.b : Int)) ∧ wr.cell? ⟨d, 4, none⟩ = some v ∧ wr.cell? ⟨d, 5, none⟩ = some (.int .u32 (S.n : Int)) ∧ wr.cell? ⟨d, 6, none⟩ = some (.int .i64 S.t)) :=
  ⟨h.db.cell rfl, h.db.cell rfl, h.db.cell rfl, h.db.cell rfl, h.db.cell rfl⟩
theorem My.seat (h : My w wr lo d v S sb j bs) (hj : j < S.L.length) : wr.cell? ⟨sb, (rd S.L j).s, none⟩ = some (.bool false) ∧ wr.frozen? ⟨sb, (rd S.L j).s, none⟩ = false := by
  refine ⟨?_, free_row h.row _⟩
  rw [cell_row h.row]
  exact h.free j (Nat.le_refl _) hj
end
theorem ok_far {S : Sb} (ho : S.Ok) {n : Nat} {t : Int} (hn : S.n ≤ n) (hn2 : n < 4294967296) (ht : S.t ≤ t) (ht2 : t ≤ mxC) (hx : ∀ m, m < S.L.length → (rd S.L m).u = 0 ∨ t < (rd S.L m).u) : Sb.Ok { S with n := n, t := t } := by
  have h0 := ho.t0
  refine ⟨ho.a0, ho.a1, ho.b0, ho.b1, ho.c0, ho.c1, Nat.le_trans ho.n0 hn, hn2, by show 0 ≤ t; omega, ht2, ho.asc, fun x hm => ?_, ho.st, ho.one, fun x hm => ?_, ho.few⟩
  · have := ho.id x hm; exact ⟨this.1, by show x.i < n; omega⟩
  · obtain ⟨m, hm2, rfl⟩ := List.mem_iff_getElem.1 hm
    have e := rd_get hm2
    rw [List.getElem?_eq_getElem hm2] at e
    rw [Option.some.inj e]
    rcases ho.til _ hm with h1 | h1
    · rw [← Option.some.inj e]; exact .inl h1
    · rcases hx m hm2 with h2 | h2
      · exact .inl h2
      · exact .inr ⟨h2, by rw [← Option.some.inj e]; exact h1.2⟩
set_option maxRecDepth 20000 in
set_option maxHeartbeats 8000000 in
theorem rmay_any {w : World} {lo d : Nat} {v : Value} {S : Sb} {n : Nat} {t : Int} (h : Db w lo d v { S with n := n, t := t }) (ho : S.Ok) (hn : S.n ≤ n) (hn2 : n < 4294967296) (ht : S.t ≤ t) (_ht2 : t ≤ 9223372036854775807) : Calls Tryz.prog 13 #[.pointer (some ⟨d, 0, none⟩)] w fun e w' => MyP w w' { S with n := n, t := t } e := by
  obtain ⟨ao, cap, rfl, hb⟩ := h.bga.ex
  have c1 := h.cell (j := 1) rfl
  have c2 := h.cell (j := 2) rfl
  have c4 := h.cell (j := 4) rfl
  have c5 := h.cell (j := 5) rfl
  have c6 := h.cell (j := 6) rfl
  have HD := hide h
  have HO := hide ho
  have hn0 : (1 : Int) ≤ (n : Int) := by have := ho.n0; omega
  have ht0 : (0 : Int) ≤ t := by have := ho.t0; omega
  have hl0 : (S.L.length : Int) ≤ (S.b : Int) := by have := ho.few; omega
  have hL : S.L.length ≤ 65536 := by have := ho.few; have := ho.b1; omega
  have HL := hide hL
  have HA : Hid (S.a ≤ 1024) := ho.a1
  have HOk : Hid (t ≤ mxC → (∀ m, m < S.L.length → (rd S.L m).u = 0 ∨ t < (rd S.L m).u) → Sb.Ok { S with n := n, t := t }) := fun h1 h2 => ok_far ho hn hn2 ht h1 h2
  have HNn : Hid (S.n ≤ n) := hn
  simp only at *
  clear h hb ho hn hn2 ht hL
  generalize hnI : (n : Int) = nI at *
  have HNI := hide hnI
  clear hnI
  have hl1 : S.L.length ≤ S.b := by omega
  have fl : decide (S.b < S.L.length) = false := by rw [decide_eq_false_iff_not]; omega
  have fl2 : decide ((S.b : Int) < (S.L.length : Int)) = false := by rw [decide_eq_false_iff_not]; omega
  have fn1 : decide (nI < 1) = false := by rw [decide_eq_false_iff_not]; omega
  have ft1 : decide (t < 0) = false := by rw [decide_eq_false_iff_not]; omega
  by_cases hm : (1099511627776 : Int) < t
  · have ft2 : decide ((1099511627776 : Int) < t) = true := decide_eq_true hm
    go_enter Tryz.func13, Tryz.ntmps13
    go_wp2
    refine wp_region_held_drew (S := (fun W => W.cell? ⟨d, 2, none⟩ = some (.int .i64 (S.b : Int)) ∧ W.cell? ⟨d, 4, none⟩ = some (.slice ao S.L.length cap) ∧ W.cell? ⟨d, 5, none⟩ = some (.int .u32 nI) ∧ W.cell? ⟨d, 6, none⟩ = some (.int .i64 t))) (by kernel_rfl) ?_ (fun hHeld => ?_)
    · (exact ⟨c2, c4, c5, c6⟩)
    refine tkH (i := 0) (oi := { dst := some 7, op := Go.Op.move (Go.Operand.tmp 0), type := 27, pos := "ref.go:43", after := #[], guard := none }) (v := ?_) rfl ?_ ?_
    rotate_left
    · (intro w hSw; (try dsimp only at hSw); (go_simp <;> with_reducible rfl))
    try simp only [Act.put, List.setIfInBounds_toArray, List.set_cons_zero, List.set_cons_succ]
    refine tkH (i := 1) (oi := { dst := some 8, op := Go.Op.nilCheck (Go.Operand.tmp 7), type := 0, pos := "ref.go:43", after := #[{ on := 0, ground := Go.Ground.data }], guard := none }) (v := ?_) rfl ?_ ?_
    rotate_left
    · (intro w hSw; (try dsimp only at hSw); (go_simp <;> with_reducible rfl))
    try simp only [Act.put, List.setIfInBounds_toArray, List.set_cons_zero, List.set_cons_succ]
    refine tkH (i := 2) (oi := { dst := some 9, op := Go.Op.fieldAddr 59 (Go.Operand.tmp 8) 3, type := 0, pos := "ref.go:43", after := #[{ on := 1, ground := Go.Ground.data }], guard := none }) (v := ?_) rfl ?_ ?_
    rotate_left
    · (intro w hSw; (try dsimp only at hSw); (go_simp <;> with_reducible rfl))
    try simp only [Act.put, List.setIfInBounds_toArray, List.set_cons_zero, List.set_cons_succ]
    refine tkH (i := 3) (oi := { dst := some 10, op := Go.Op.load 23 (Go.Operand.tmp 9), type := 23, pos := "ref.go:43", after := #[{ on := 2, ground := Go.Ground.data }], guard := none }) (v := ?_) rfl ?_ ?_
    rotate_left
    · (intro w hSw; (try dsimp only at hSw); (go_simp <;> with_reducible rfl))
    try simp only [Act.put, List.setIfInBounds_toArray, List.set_cons_zero, List.set_cons_succ]
    refine tkH (i := 4) (oi := { dst := some 11, op := Go.Op.binOp Go.BinOp.lss 23 (Go.Operand.tmp 10) (Go.Operand.const (Go.Value.int Go.IntKind.u32 1)) 23, type := 4, pos := "ref.go:43", after := #[{ on := 3, ground := Go.Ground.data }], guard := none }) (v := ?_) rfl ?_ ?_
    rotate_left
    · (intro w hSw; (try dsimp only at hSw); (go_simp <;> with_reducible rfl))
    try simp only [Act.put, List.setIfInBounds_toArray, List.set_cons_zero, List.set_cons_succ]
    refine tkH (i := 5) (oi := { dst := some 12, op := Go.Op.move (Go.Operand.tmp 11), type := 4, pos := "ref.go:43", after := #[{ on := 4, ground := Go.Ground.data }], guard := none }) (v := ?_) rfl ?_ ?_
    rotate_left
    · (intro w hSw; (try dsimp only at hSw); (go_simp <;> with_reducible rfl))
    try simp only [Act.put, List.setIfInBounds_toArray, List.set_cons_zero, List.set_cons_succ]
    refine tkH (i := 6) (oi := { dst := some 13, op := Go.Op.move (Go.Operand.tmp 0), type := 27, pos := "ref.go:43", after := #[{ on := 5, ground := Go.Ground.guard }], guard := some (5, false) }) (v := ?_) rfl ?_ ?_
    rotate_left
    · (intro w hSw; (try dsimp only at hSw); (go_simp <;> with_reducible rfl))
    try simp only [Act.put, List.setIfInBounds_toArray, List.set_cons_zero, List.set_cons_succ]
    refine tkH (i := 7) (oi := { dst := some 14, op := Go.Op.nilCheck (Go.Operand.tmp 13), type := 0, pos := "ref.go:43", after := #[{ on := 6, ground := Go.Ground.data }, { on := 5, ground := Go.Ground.guard }], guard := some (5, false) }) (v := ?_) rfl ?_ ?_
    rotate_left
    · (intro w hSw; (try dsimp only at hSw); (go_simp <;> with_reducible rfl))
    try simp only [Act.put, List.setIfInBounds_toArray, List.set_cons_zero, List.set_cons_succ]
    refine tkH (i := 8) (oi := { dst := some 15, op := Go.Op.fieldAddr 59 (Go.Operand.tmp 14) 4, type := 0, pos := "ref.go:43", after := #[{ on := 7, ground := Go.Ground.data }, { on := 5, ground := Go.Ground.guard }], guard := some (5, false) }) (v := ?_) rfl ?_ ?_
    rotate_left
    · (intro w hSw; (try dsimp only at hSw); (go_simp <;> with_reducible rfl))
    try simp only [Act.put, List.setIfInBounds_toArray, List.set_cons_zero, List.set_cons_succ]
    refine tkH (i := 9) (oi := { dst := some 16, op := Go.Op.load 2 (Go.Operand.tmp 15), type := 2, pos := "ref.go:43", after := #[{ on := 8, ground := Go.Ground.data }, { on := 5, ground := Go.Ground.guard }], guard := some (5, false) }) (v := ?_) rfl ?_ ?_
    rotate_left
    · (intro w hSw; (try dsimp only at hSw); (go_simp <;> with_reducible rfl))
    try simp only [Act.put, List.setIfInBounds_toArray, List.set_cons_zero, List.set_cons_succ]
    refine tkH (i := 10) (oi := { dst := some 17, op := Go.Op.binOp Go.BinOp.lss 2 (Go.Operand.tmp 16) (Go.Operand.const (Go.Value.int Go.IntKind.i64 0)) 2, type := 4, pos := "ref.go:43", after := #[{ on := 9, ground := Go.Ground.data }, { on := 5, ground := Go.Ground.guard }], guard := some (5, false) }) (v := ?_) rfl ?_ ?_
    rotate_left
    · (intro w hSw; (try dsimp only at hSw); (go_simp <;> with_reducible rfl))
    try simp only [Act.put, List.setIfInBounds_toArray, List.set_cons_zero, List.set_cons_succ]
    refine tkH (i := 11) (oi := { dst := some 18, op := Go.Op.pick (Go.Operand.tmp 12) (Go.Operand.const (Go.Value.bool true)) (Go.Operand.tmp 17), type := 4, pos := "ref.go:43", after := #[{ on := 5, ground := Go.Ground.data }, { on := 10, ground := Go.Ground.data }], guard := none }) (v := ?_) rfl ?_ ?_
    rotate_left
    · (intro w hSw; (try dsimp only at hSw); (go_simp <;> with_reducible rfl))
    try simp only [Act.put, List.setIfInBounds_toArray, List.set_cons_zero, List.set_cons_succ]
    refine tkH (i := 12) (oi := { dst := some 19, op := Go.Op.move (Go.Operand.tmp 18), type := 4, pos := "ref.go:43", after := #[{ on := 11, ground := Go.Ground.data }, { on := 5, ground := Go.Ground.chain }], guard := none }) (v := ?_) rfl ?_ ?_
    rotate_left
    · (intro w hSw; (try dsimp only at hSw); (go_simp <;> with_reducible rfl))
    try simp only [Act.put, List.setIfInBounds_toArray, List.set_cons_zero, List.set_cons_succ]
    refine tkH (i := 13) (oi := { dst := some 20, op := Go.Op.move (Go.Operand.tmp 0), type := 27, pos := "ref.go:43", after := #[{ on := 12, ground := Go.Ground.guard }], guard := some (12, false) }) (v := ?_) rfl ?_ ?_
    rotate_left
    · (intro w hSw; (try dsimp only at hSw); (go_simp <;> with_reducible rfl))
    try simp only [Act.put, List.setIfInBounds_toArray, List.set_cons_zero, List.set_cons_succ]
    refine tkH (i := 14) (oi := { dst := some 21, op := Go.Op.nilCheck (Go.Operand.tmp 20), type := 0, pos := "ref.go:43", after := #[{ on := 13, ground := Go.Ground.data }, { on := 12, ground := Go.Ground.guard }], guard := some (12, false) }) (v := ?_) rfl ?_ ?_
    rotate_left
    · (intro w hSw; (try dsimp only at hSw); (go_simp <;> with_reducible rfl))
    try simp only [Act.put, List.setIfInBounds_toArray, List.set_cons_zero, List.set_cons_succ]
    refine tkH (i := 15) (oi := { dst := some 22, op := Go.Op.fieldAddr 59 (Go.Operand.tmp 21) 4, type := 0, pos := "ref.go:43", after := #[{ on := 14, ground := Go.Ground.data }, { on := 12, ground := Go.Ground.guard }], guard := some (12, false) }) (v := ?_) rfl ?_ ?_
    rotate_left
    · (intro w hSw; (try dsimp only at hSw); (go_simp <;> with_reducible rfl))
    try simp only [Act.put, List.setIfInBounds_toArray, List.set_cons_zero, List.set_cons_succ]
    refine tkH (i := 16) (oi := { dst := some 23, op := Go.Op.load 2 (Go.Operand.tmp 22), type := 2, pos := "ref.go:43", after := #[{ on := 15, ground := Go.Ground.data }, { on := 12, ground := Go.Ground.guard }], guard := some (12, false) }) (v := ?_) rfl ?_ ?_
    rotate_left
    · (intro w hSw; (try dsimp only at hSw); (go_simp <;> with_reducible rfl))
    try simp only [Act.put, List.setIfInBounds_toArray, List.set_cons_zero, List.set_cons_succ]
    refine tkH (i := 17) (oi := { dst := some 24, op := Go.Op.binOp Go.BinOp.gtr 2 (Go.Operand.tmp 23) (Go.Operand.const (Go.Value.int Go.IntKind.i64 1099511627776)) 2, type := 4, pos := "ref.go:43", after := #[{ on := 16, ground := Go.Ground.data }, { on := 12, ground := Go.Ground.guard }], guard := some (12, false) }) (v := ?_) rfl ?_ ?_
    rotate_left
    · (intro w hSw; (try dsimp only at hSw); (go_simp <;> with_reducible rfl))
    try simp only [Act.put, List.setIfInBounds_toArray, List.set_cons_zero, List.set_cons_succ]
    refine tkH (i := 18) (oi := { dst := some 25, op := Go.Op.pick (Go.Operand.tmp 19) (Go.Operand.const (Go.Value.bool true)) (Go.Operand.tmp 24), type := 4, pos := "ref.go:43", after := #[{ on := 12, ground := Go.Ground.data }, { on := 17, ground := Go.Ground.data }], guard := none }) (v := ?_) rfl ?_ ?_
    rotate_left
    · (intro w hSw; (try dsimp only at hSw); (go_simp <;> with_reducible rfl))
    try simp only [Act.put, List.setIfInBounds_toArray, List.set_cons_zero, List.set_cons_succ]
    refine tkH (i := 19) (oi := { dst := some 26, op := Go.Op.move (Go.Operand.tmp 25), type := 4, pos := "ref.go:43", after := #[{ on := 18, ground := Go.Ground.data }, { on := 12, ground := Go.Ground.chain }], guard := none }) (v := ?_) rfl ?_ ?_
    rotate_left
    · (intro w hSw; (try dsimp only at hSw); (go_simp <;> with_reducible rfl))
    try simp only [Act.put, List.setIfInBounds_toArray, List.set_cons_zero, List.set_cons_succ]
    refine wpAnyH_take (i := 20) (oi := { dst := some 27, op := Go.Op.move (Go.Operand.tmp 0), type := 27, pos := "ref.go:43", after := #[{ on := 19, ground := Go.Ground.guard }], guard := some (19, false) }) (v := undef) rfl (by kernel_rfl) (by kernel_rfl) (by kernel_rfl) (fun _ _ _ h => h) (Or.inr ⟨by rfl, rfl⟩) (by assumption) ?_
    try simp only [Act.put, List.setIfInBounds_toArray, List.set_cons_zero, List.set_cons_succ]
    refine wpAnyH_take (i := 21) (oi := { dst := some 28, op := Go.Op.nilCheck (Go.Operand.tmp 27), type := 0, pos := "ref.go:43", after := #[{ on := 20, ground := Go.Ground.data }, { on := 19, ground := Go.Ground.guard }], guard := some (19, false) }) (v := undef) rfl (by kernel_rfl) (by kernel_rfl) (by kernel_rfl) (fun _ _ _ h => h) (Or.inr ⟨by rfl, rfl⟩) (by assumption) ?_
    try simp only [Act.put, List.setIfInBounds_toArray, List.set_cons_zero, List.set_cons_succ]
    refine wpAnyH_take (i := 22) (oi := { dst := some 29, op := Go.Op.fieldAddr 59 (Go.Operand.tmp 28) 2, type := 0, pos := "ref.go:43", after := #[{ on := 21, ground := Go.Ground.data }, { on := 19, ground := Go.Ground.guard }], guard := some (19, false) }) (v := undef) rfl (by kernel_rfl) (by kernel_rfl) (by kernel_rfl) (fun _ _ _ h => h) (Or.inr ⟨by rfl, rfl⟩) (by assumption) ?_
    try simp only [Act.put, List.setIfInBounds_toArray, List.set_cons_zero, List.set_cons_succ]
    refine wpAnyH_take (i := 23) (oi := { dst := some 30, op := Go.Op.load 57 (Go.Operand.tmp 29), type := 57, pos := "ref.go:43", after := #[{ on := 22, ground := Go.Ground.data }, { on := 19, ground := Go.Ground.guard }], guard := some (19, false) }) (v := undef) rfl (by kernel_rfl) (by kernel_rfl) (by kernel_rfl) (fun _ _ _ h => h) (Or.inr ⟨by rfl, rfl⟩) (by assumption) ?_
    try simp only [Act.put, List.setIfInBounds_toArray, List.set_cons_zero, List.set_cons_succ]
    refine wpAnyH_take (i := 24) (oi := { dst := some 31, op := Go.Op.call { callee := Go.Callee.builtin Go.Builtin.len, args := #[Go.Operand.tmp 30], argTypes := #[57] }, type := 3, pos := "ref.go:43", after := #[{ on := 23, ground := Go.Ground.data }, { on := 19, ground := Go.Ground.guard }], guard := some (19, false) }) (v := undef) rfl (by kernel_rfl) (by kernel_rfl) (by kernel_rfl) (fun _ _ _ h => h) (Or.inr ⟨by rfl, rfl⟩) (by assumption) ?_
    try simp only [Act.put, List.setIfInBounds_toArray, List.set_cons_zero, List.set_cons_succ]
    refine wpAnyH_take (i := 25) (oi := { dst := some 32, op := Go.Op.move (Go.Operand.tmp 0), type := 27, pos := "ref.go:43", after := #[{ on := 19, ground := Go.Ground.guard }], guard := some (19, false) }) (v := undef) rfl (by kernel_rfl) (by kernel_rfl) (by kernel_rfl) (fun _ _ _ h => h) (Or.inr ⟨by rfl, rfl⟩) (by assumption) ?_
    try simp only [Act.put, List.setIfInBounds_toArray, List.set_cons_zero, List.set_cons_succ]
    refine wpAnyH_take (i := 26) (oi := { dst := some 33, op := Go.Op.nilCheck (Go.Operand.tmp 32), type := 0, pos := "ref.go:43", after := #[{ on := 25, ground := Go.Ground.data }, { on := 19, ground := Go.Ground.guard }], guard := some (19, false) }) (v := undef) rfl (by kernel_rfl) (by kernel_rfl) (by kernel_rfl) (fun _ _ _ h => h) (Or.inr ⟨by rfl, rfl⟩) (by assumption) ?_
    try simp only [Act.put, List.setIfInBounds_toArray, List.set_cons_zero, List.set_cons_succ]
    refine wpAnyH_take (i := 27) (oi := { dst := some 34, op := Go.Op.fieldAddr 59 (Go.Operand.tmp 33) 1, type := 0, pos := "ref.go:43", after := #[{ on := 26, ground := Go.Ground.data }, { on := 19, ground := Go.Ground.guard }], guard := some (19, false) }) (v := undef) rfl (by kernel_rfl) (by kernel_rfl) (by kernel_rfl) (fun _ _ _ h => h) (Or.inr ⟨by rfl, rfl⟩) (by assumption) ?_
    try simp only [Act.put, List.setIfInBounds_toArray, List.set_cons_zero, List.set_cons_succ]
    refine wpAnyH_take (i := 28) (oi := { dst := some 35, op := Go.Op.fieldAddr 44 (Go.Operand.tmp 34) 1, type := 0, pos := "ref.go:43", after := #[{ on := 27, ground := Go.Ground.data }, { on := 19, ground := Go.Ground.guard }], guard := some (19, false) }) (v := undef) rfl (by kernel_rfl) (by kernel_rfl) (by kernel_rfl) (fun _ _ _ h => h) (Or.inr ⟨by rfl, rfl⟩) (by assumption) ?_
    try simp only [Act.put, List.setIfInBounds_toArray, List.set_cons_zero, List.set_cons_succ]
    refine wpAnyH_take (i := 29) (oi := { dst := some 36, op := Go.Op.load 3 (Go.Operand.tmp 35), type := 3, pos := "ref.go:43", after := #[{ on := 28, ground := Go.Ground.data }, { on := 19, ground := Go.Ground.guard }], guard := some (19, false) }) (v := undef) rfl (by kernel_rfl) (by kernel_rfl) (by kernel_rfl) (fun _ _ _ h => h) (Or.inr ⟨by rfl, rfl⟩) (by assumption) ?_
    try simp only [Act.put, List.setIfInBounds_toArray, List.set_cons_zero, List.set_cons_succ]
    refine wpAnyH_take (i := 30) (oi := { dst := some 37, op := Go.Op.binOp Go.BinOp.gtr 3 (Go.Operand.tmp 31) (Go.Operand.tmp 36) 3, type := 4, pos := "ref.go:43", after := #[{ on := 24, ground := Go.Ground.data }, { on := 29, ground := Go.Ground.data }, { on := 19, ground := Go.Ground.guard }], guard := some (19, false) }) (v := undef) rfl (by kernel_rfl) (by kernel_rfl) (by kernel_rfl) (fun _ _ _ h => h) (Or.inr ⟨by rfl, rfl⟩) (by assumption) ?_
    try simp only [Act.put, List.setIfInBounds_toArray, List.set_cons_zero, List.set_cons_succ]
    refine tkH (i := 31) (oi := { dst := some 38, op := Go.Op.pick (Go.Operand.tmp 26) (Go.Operand.const (Go.Value.bool true)) (Go.Operand.tmp 37), type := 4, pos := "ref.go:43", after := #[{ on := 19, ground := Go.Ground.data }, { on := 30, ground := Go.Ground.data }], guard := none }) (v := ?_) rfl ?_ ?_
    rotate_left
    · (intro w hSw; (try dsimp only at hSw); (go_simp <;> with_reducible rfl))
    try simp only [Act.put, List.setIfInBounds_toArray, List.set_cons_zero, List.set_cons_succ]
    refine wpAnyH_done (by kernel_rfl) ?_ _
    go_wp2
    go_ret
    exact ⟨false, rfl, (fun e => by cases e), grown_drew _ none⟩
  · have hm2 : t ≤ 1099511627776 := by omega
    have ft2 : decide ((1099511627776 : Int) < t) = false := decide_eq_false hm
    have HOk2 := hide (HOk.out hm2)
    have HLt : Hid (∀ i, dbo d (.slice ao S.L.length cap) i → i < w.heap.size) := HD.out.lt
    have HMk := hide (fun W => make_bools S.a (S.a : Int) rfl HA.out W)
    have hmk := HMk.out
    clear hm HOk
    go_enter Tryz.func13, Tryz.ntmps13
    go_wp2
    refine wp_region_held_drew (S := (fun W => W.cell? ⟨d, 2, none⟩ = some (.int .i64 (S.b : Int)) ∧ W.cell? ⟨d, 4, none⟩ = some (.slice ao S.L.length cap) ∧ W.cell? ⟨d, 5, none⟩ = some (.int .u32 nI) ∧ W.cell? ⟨d, 6, none⟩ = some (.int .i64 t))) (by kernel_rfl) ?_ (fun hHeld => ?_)
    · (exact ⟨c2, c4, c5, c6⟩)
    refine tkH (i := 0) (oi := { dst := some 7, op := Go.Op.move (Go.Operand.tmp 0), type := 27, pos := "ref.go:43", after := #[], guard := none }) (v := ?_) rfl ?_ ?_
    rotate_left
    · (intro w hSw; (try dsimp only at hSw); (go_simp <;> with_reducible rfl))
    try simp only [Act.put, List.setIfInBounds_toArray, List.set_cons_zero, List.set_cons_succ]
    refine tkH (i := 1) (oi := { dst := some 8, op := Go.Op.nilCheck (Go.Operand.tmp 7), type := 0, pos := "ref.go:43", after := #[{ on := 0, ground := Go.Ground.data }], guard := none }) (v := ?_) rfl ?_ ?_
    rotate_left
    · (intro w hSw; (try dsimp only at hSw); (go_simp <;> with_reducible rfl))
    try simp only [Act.put, List.setIfInBounds_toArray, List.set_cons_zero, List.set_cons_succ]
    refine tkH (i := 2) (oi := { dst := some 9, op := Go.Op.fieldAddr 59 (Go.Operand.tmp 8) 3, type := 0, pos := "ref.go:43", after := #[{ on := 1, ground := Go.Ground.data }], guard := none }) (v := ?_) rfl ?_ ?_
    rotate_left
    · (intro w hSw; (try dsimp only at hSw); (go_simp <;> with_reducible rfl))
    try simp only [Act.put, List.setIfInBounds_toArray, List.set_cons_zero, List.set_cons_succ]
    refine tkH (i := 3) (oi := { dst := some 10, op := Go.Op.load 23 (Go.Operand.tmp 9), type := 23, pos := "ref.go:43", after := #[{ on := 2, ground := Go.Ground.data }], guard := none }) (v := ?_) rfl ?_ ?_
    rotate_left
    · (intro w hSw; (try dsimp only at hSw); (go_simp <;> with_reducible rfl))
    try simp only [Act.put, List.setIfInBounds_toArray, List.set_cons_zero, List.set_cons_succ]
    refine tkH (i := 4) (oi := { dst := some 11, op := Go.Op.binOp Go.BinOp.lss 23 (Go.Operand.tmp 10) (Go.Operand.const (Go.Value.int Go.IntKind.u32 1)) 23, type := 4, pos := "ref.go:43", after := #[{ on := 3, ground := Go.Ground.data }], guard := none }) (v := ?_) rfl ?_ ?_
    rotate_left
    · (intro w hSw; (try dsimp only at hSw); (go_simp <;> with_reducible rfl))
    try simp only [Act.put, List.setIfInBounds_toArray, List.set_cons_zero, List.set_cons_succ]
    refine tkH (i := 5) (oi := { dst := some 12, op := Go.Op.move (Go.Operand.tmp 11), type := 4, pos := "ref.go:43", after := #[{ on := 4, ground := Go.Ground.data }], guard := none }) (v := ?_) rfl ?_ ?_
    rotate_left
    · (intro w hSw; (try dsimp only at hSw); (go_simp <;> with_reducible rfl))
    try simp only [Act.put, List.setIfInBounds_toArray, List.set_cons_zero, List.set_cons_succ]
    refine tkH (i := 6) (oi := { dst := some 13, op := Go.Op.move (Go.Operand.tmp 0), type := 27, pos := "ref.go:43", after := #[{ on := 5, ground := Go.Ground.guard }], guard := some (5, false) }) (v := ?_) rfl ?_ ?_
    rotate_left
    · (intro w hSw; (try dsimp only at hSw); (go_simp <;> with_reducible rfl))
    try simp only [Act.put, List.setIfInBounds_toArray, List.set_cons_zero, List.set_cons_succ]
    refine tkH (i := 7) (oi := { dst := some 14, op := Go.Op.nilCheck (Go.Operand.tmp 13), type := 0, pos := "ref.go:43", after := #[{ on := 6, ground := Go.Ground.data }, { on := 5, ground := Go.Ground.guard }], guard := some (5, false) }) (v := ?_) rfl ?_ ?_
    rotate_left
    · (intro w hSw; (try dsimp only at hSw); (go_simp <;> with_reducible rfl))
    try simp only [Act.put, List.setIfInBounds_toArray, List.set_cons_zero, List.set_cons_succ]
    refine tkH (i := 8) (oi := { dst := some 15, op := Go.Op.fieldAddr 59 (Go.Operand.tmp 14) 4, type := 0, pos := "ref.go:43", after := #[{ on := 7, ground := Go.Ground.data }, { on := 5, ground := Go.Ground.guard }], guard := some (5, false) }) (v := ?_) rfl ?_ ?_
    rotate_left
    · (intro w hSw; (try dsimp only at hSw); (go_simp <;> with_reducible rfl))
    try simp only [Act.put, List.setIfInBounds_toArray, List.set_cons_zero, List.set_cons_succ]
    refine tkH (i := 9) (oi := { dst := some 16, op := Go.Op.load 2 (Go.Operand.tmp 15), type := 2, pos := "ref.go:43", after := #[{ on := 8, ground := Go.Ground.data }, { on := 5, ground := Go.Ground.guard }], guard := some (5, false) }) (v := ?_) rfl ?_ ?_
    rotate_left
    · (intro w hSw; (try dsimp only at hSw); (go_simp <;> with_reducible rfl))
    try simp only [Act.put, List.setIfInBounds_toArray, List.set_cons_zero, List.set_cons_succ]
    refine tkH (i := 10) (oi := { dst := some 17, op := Go.Op.binOp Go.BinOp.lss 2 (Go.Operand.tmp 16) (Go.Operand.const (Go.Value.int Go.IntKind.i64 0)) 2, type := 4, pos := "ref.go:43", after := #[{ on := 9, ground := Go.Ground.data }, { on := 5, ground := Go.Ground.guard }], guard := some (5, false) }) (v := ?_) rfl ?_ ?_
    rotate_left
    · (intro w hSw; (try dsimp only at hSw); (go_simp <;> with_reducible rfl))
    try simp only [Act.put, List.setIfInBounds_toArray, List.set_cons_zero, List.set_cons_succ]
    refine tkH (i := 11) (oi := { dst := some 18, op := Go.Op.pick (Go.Operand.tmp 12) (Go.Operand.const (Go.Value.bool true)) (Go.Operand.tmp 17), type := 4, pos := "ref.go:43", after := #[{ on := 5, ground := Go.Ground.data }, { on := 10, ground := Go.Ground.data }], guard := none }) (v := ?_) rfl ?_ ?_
    rotate_left
    · (intro w hSw; (try dsimp only at hSw); (go_simp <;> with_reducible rfl))
    try simp only [Act.put, List.setIfInBounds_toArray, List.set_cons_zero, List.set_cons_succ]
    refine tkH (i := 12) (oi := { dst := some 19, op := Go.Op.move (Go.Operand.tmp 18), type := 4, pos := "ref.go:43", after := #[{ on := 11, ground := Go.Ground.data }, { on := 5, ground := Go.Ground.chain }], guard := none }) (v := ?_) rfl ?_ ?_
    rotate_left
    · (intro w hSw; (try dsimp only at hSw); (go_simp <;> with_reducible rfl))
    try simp only [Act.put, List.setIfInBounds_toArray, List.set_cons_zero, List.set_cons_succ]
    refine tkH (i := 13) (oi := { dst := some 20, op := Go.Op.move (Go.Operand.tmp 0), type := 27, pos := "ref.go:43", after := #[{ on := 12, ground := Go.Ground.guard }], guard := some (12, false) }) (v := ?_) rfl ?_ ?_
    rotate_left
    · (intro w hSw; (try dsimp only at hSw); (go_simp <;> with_reducible rfl))
    try simp only [Act.put, List.setIfInBounds_toArray, List.set_cons_zero, List.set_cons_succ]
    refine tkH (i := 14) (oi := { dst := some 21, op := Go.Op.nilCheck (Go.Operand.tmp 20), type := 0, pos := "ref.go:43", after := #[{ on := 13, ground := Go.Ground.data }, { on := 12, ground := Go.Ground.guard }], guard := some (12, false) }) (v := ?_) rfl ?_ ?_
    rotate_left
    · (intro w hSw; (try dsimp only at hSw); (go_simp <;> with_reducible rfl))
    try simp only [Act.put, List.setIfInBounds_toArray, List.set_cons_zero, List.set_cons_succ]
    refine tkH (i := 15) (oi := { dst := some 22, op := Go.Op.fieldAddr 59 (Go.Operand.tmp 21) 4, type := 0, pos := "ref.go:43", after := #[{ on := 14, ground := Go.Ground.data }, { on := 12, ground := Go.Ground.guard }], guard := some (12, false) }) (v := ?_) rfl ?_ ?_
    rotate_left
    · (intro w hSw; (try dsimp only at hSw); (go_simp <;> with_reducible rfl))
    try simp only [Act.put, List.setIfInBounds_toArray, List.set_cons_zero, List.set_cons_succ]
    refine tkH (i := 16) (oi := { dst := some 23, op := Go.Op.load 2 (Go.Operand.tmp 22), type := 2, pos := "ref.go:43", after := #[{ on := 15, ground := Go.Ground.data }, { on := 12, ground := Go.Ground.guard }], guard := some (12, false) }) (v := ?_) rfl ?_ ?_
    rotate_left
    · (intro w hSw; (try dsimp only at hSw); (go_simp <;> with_reducible rfl))
    try simp only [Act.put, List.setIfInBounds_toArray, List.set_cons_zero, List.set_cons_succ]
    refine tkH (i := 17) (oi := { dst := some 24, op := Go.Op.binOp Go.BinOp.gtr 2 (Go.Operand.tmp 23) (Go.Operand.const (Go.Value.int Go.IntKind.i64 1099511627776)) 2, type := 4, pos := "ref.go:43", after := #[{ on := 16, ground := Go.Ground.data }, { on := 12, ground := Go.Ground.guard }], guard := some (12, false) }) (v := ?_) rfl ?_ ?_
    rotate_left
    · (intro w hSw; (try dsimp only at hSw); (go_simp <;> with_reducible rfl))
    try simp only [Act.put, List.setIfInBounds_toArray, List.set_cons_zero, List.set_cons_succ]
    refine tkH (i := 18) (oi := { dst := some 25, op := Go.Op.pick (Go.Operand.tmp 19) (Go.Operand.const (Go.Value.bool true)) (Go.Operand.tmp 24), type := 4, pos := "ref.go:43", after := #[{ on := 12, ground := Go.Ground.data }, { on := 17, ground := Go.Ground.data }], guard := none }) (v := ?_) rfl ?_ ?_
    rotate_left
    · (intro w hSw; (try dsimp only at hSw); (go_simp <;> with_reducible rfl))
    try simp only [Act.put, List.setIfInBounds_toArray, List.set_cons_zero, List.set_cons_succ]
    refine tkH (i := 19) (oi := { dst := some 26, op := Go.Op.move (Go.Operand.tmp 25), type := 4, pos := "ref.go:43", after := #[{ on := 18, ground := Go.Ground.data }, { on := 12, ground := Go.Ground.chain }], guard := none }) (v := ?_) rfl ?_ ?_
    rotate_left
    · (intro w hSw; (try dsimp only at hSw); (go_simp <;> with_reducible rfl))
    try simp only [Act.put, List.setIfInBounds_toArray, List.set_cons_zero, List.set_cons_succ]
    refine tkH (i := 20) (oi := { dst := some 27, op := Go.Op.move (Go.Operand.tmp 0), type := 27, pos := "ref.go:43", after := #[{ on := 19, ground := Go.Ground.guard }], guard := some (19, false) }) (v := ?_) rfl ?_ ?_
    rotate_left
    · (intro w hSw; (try dsimp only at hSw); (go_simp <;> with_reducible rfl))
    try simp only [Act.put, List.setIfInBounds_toArray, List.set_cons_zero, List.set_cons_succ]
    refine tkH (i := 21) (oi := { dst := some 28, op := Go.Op.nilCheck (Go.Operand.tmp 27), type := 0, pos := "ref.go:43", after := #[{ on := 20, ground := Go.Ground.data }, { on := 19, ground := Go.Ground.guard }], guard := some (19, false) }) (v := ?_) rfl ?_ ?_
    rotate_left
    · (intro w hSw; (try dsimp only at hSw); (go_simp <;> with_reducible rfl))
    try simp only [Act.put, List.setIfInBounds_toArray, List.set_cons_zero, List.set_cons_succ]
    refine tkH (i := 22) (oi := { dst := some 29, op := Go.Op.fieldAddr 59 (Go.Operand.tmp 28) 2, type := 0, pos := "ref.go:43", after := #[{ on := 21, ground := Go.Ground.data }, { on := 19, ground := Go.Ground.guard }], guard := some (19, false) }) (v := ?_) rfl ?_ ?_
    rotate_left
    · (intro w hSw; (try dsimp only at hSw); (go_simp <;> with_reducible rfl))
    try simp only [Act.put, List.setIfInBounds_toArray, List.set_cons_zero, List.set_cons_succ]
    refine tkH (i := 23) (oi := { dst := some 30, op := Go.Op.load 57 (Go.Operand.tmp 29), type := 57, pos := "ref.go:43", after := #[{ on := 22, ground := Go.Ground.data }, { on := 19, ground := Go.Ground.guard }], guard := some (19, false) }) (v := ?_) rfl ?_ ?_
    rotate_left
    · (intro w hSw; (try dsimp only at hSw); (go_simp <;> with_reducible rfl))
    try simp only [Act.put, List.setIfInBounds_toArray, List.set_cons_zero, List.set_cons_succ]
    refine tkH (i := 24) (oi := { dst := some 31, op := Go.Op.call { callee := Go.Callee.builtin Go.Builtin.len, args := #[Go.Operand.tmp 30], argTypes := #[57] }, type := 3, pos := "ref.go:43", after := #[{ on := 23, ground := Go.Ground.data }, { on := 19, ground := Go.Ground.guard }], guard := some (19, false) }) (v := ?_) rfl ?_ ?_
    rotate_left
    · (intro w hSw; (try dsimp only at hSw); (go_simp <;> with_reducible rfl))
    try simp only [Act.put, List.setIfInBounds_toArray, List.set_cons_zero, List.set_cons_succ]
    refine tkH (i := 25) (oi := { dst := some 32, op := Go.Op.move (Go.Operand.tmp 0), type := 27, pos := "ref.go:43", after := #[{ on := 19, ground := Go.Ground.guard }], guard := some (19, false) }) (v := ?_) rfl ?_ ?_
    rotate_left
    · (intro w hSw; (try dsimp only at hSw); (go_simp <;> with_reducible rfl))
    try simp only [Act.put, List.setIfInBounds_toArray, List.set_cons_zero, List.set_cons_succ]
    refine tkH (i := 26) (oi := { dst := some 33, op := Go.Op.nilCheck (Go.Operand.tmp 32), type := 0, pos := "ref.go:43", after := #[{ on := 25, ground := Go.Ground.data }, { on := 19, ground := Go.Ground.guard }], guard := some (19, false) }) (v := ?_) rfl ?_ ?_
    rotate_left
    · (intro w hSw; (try dsimp only at hSw); (go_simp <;> with_reducible rfl))
    try simp only [Act.put, List.setIfInBounds_toArray, List.set_cons_zero, List.set_cons_succ]
    refine tkH (i := 27) (oi := { dst := some 34, op := Go.Op.fieldAddr 59 (Go.Operand.tmp 33) 1, type := 0, pos := "ref.go:43", after := #[{ on := 26, ground := Go.Ground.data }, { on := 19, ground := Go.Ground.guard }], guard := some (19, false) }) (v := ?_) rfl ?_ ?_
    rotate_left
    · (intro w hSw; (try dsimp only at hSw); (go_simp <;> with_reducible rfl))
    try simp only [Act.put, List.setIfInBounds_toArray, List.set_cons_zero, List.set_cons_succ]
    refine tkH (i := 28) (oi := { dst := some 35, op := Go.Op.fieldAddr 44 (Go.Operand.tmp 34) 1, type := 0, pos := "ref.go:43", after := #[{ on := 27, ground := Go.Ground.data }, { on := 19, ground := Go.Ground.guard }], guard := some (19, false) }) (v := ?_) rfl ?_ ?_
    rotate_left
    · (intro w hSw; (try dsimp only at hSw); (go_simp <;> with_reducible rfl))
    try simp only [Act.put, List.setIfInBounds_toArray, List.set_cons_zero, List.set_cons_succ]
    refine tkH (i := 29) (oi := { dst := some 36, op := Go.Op.load 3 (Go.Operand.tmp 35), type := 3, pos := "ref.go:43", after := #[{ on := 28, ground := Go.Ground.data }, { on := 19, ground := Go.Ground.guard }], guard := some (19, false) }) (v := ?_) rfl ?_ ?_
    rotate_left
    · (intro w hSw; (try dsimp only at hSw); (go_simp <;> with_reducible rfl))
    try simp only [Act.put, List.setIfInBounds_toArray, List.set_cons_zero, List.set_cons_succ]
    refine tkH (i := 30) (oi := { dst := some 37, op := Go.Op.binOp Go.BinOp.gtr 3 (Go.Operand.tmp 31) (Go.Operand.tmp 36) 3, type := 4, pos := "ref.go:43", after := #[{ on := 24, ground := Go.Ground.data }, { on := 29, ground := Go.Ground.data }, { on := 19, ground := Go.Ground.guard }], guard := some (19, false) }) (v := ?_) rfl ?_ ?_
    rotate_left
    · (intro w hSw; (try dsimp only at hSw); (go_simp <;> with_reducible rfl))
    try simp only [Act.put, List.setIfInBounds_toArray, List.set_cons_zero, List.set_cons_succ]
    refine tkH (i := 31) (oi := { dst := some 38, op := Go.Op.pick (Go.Operand.tmp 26) (Go.Operand.const (Go.Value.bool true)) (Go.Operand.tmp 37), type := 4, pos := "ref.go:43", after := #[{ on := 19, ground := Go.Ground.data }, { on := 30, ground := Go.Ground.data }], guard := none }) (v := ?_) rfl ?_ ?_
    rotate_left
    · (intro w hSw; (try dsimp only at hSw); (go_simp <;> with_reducible rfl))
    try simp only [Act.put, List.setIfInBounds_toArray, List.set_cons_zero, List.set_cons_succ]
    refine wpAnyH_done (by kernel_rfl) ?_ _
    have HD1 := hide (HD.out.then (grown_drew w none))
    have HG1 := hide (grown_drew w none)
    clear HD c1 c2 c4 c5 c6 hHeld
    generalize World.drew w = w1 at *
    have c1 := HD1.out.cell (j := 1) rfl
    go_wp2
    have HM0 : Hid (My w (w1.alloc (.cells (List.replicate S.a (Value.bool false)).toArray 4)) lo d (.slice ao S.L.length cap) { S with n := n, t := t } w1.heap.size 0 (List.replicate S.a (Value.bool false))) := ⟨HD1.out.then (grown_alloc w1 _), gn_alloc HG1.out _, heap_alloc_new w1 _, List.length_replicate, HG1.out.size, fun m _ hm => by
      have hx := HO.out.st _ (List.mem_of_getElem? (rd_get hm))
      rw [List.getElem?_replicate, if_pos hx], fun m hm => by omega⟩
    have HFi : Hid (∀ m, 0 ≤ m → m < S.L.length → 0 < (rd S.L m).i) := fun m _ hm => by have := HO.out.id _ (List.mem_of_getElem? (rd_get hm)); omega
    have HRd : Hid (∀ m, m < S.L.length → (rd S.L m).s < S.a ∧ (rd S.L m).i < n ∧ (∀ k, m + 1 ≤ k → k < S.L.length → (rd S.L m).i < (rd S.L k).i) ∧ ((rd S.L m).u = 0 ∨ (rd S.L m).u ≤ mxC)) := fun m hm => by
      have h1 := HO.out.st _ (List.mem_of_getElem? (rd_get hm))
      have h2 := HO.out.id _ (List.mem_of_getElem? (rd_get hm))
      have h3 := HO.out.til _ (List.mem_of_getElem? (rd_get hm))
      have h4 := HNn.out
      refine ⟨h1, by omega, fun k hk hl => ?_, ?_⟩
      · have hp := List.pairwise_iff_getElem.1 HO.out.asc m k hm hl (by omega)
        have e1 := rd_get hm
        have e2 := rd_get hl
        rw [List.getElem?_eq_getElem hm] at e1
        rw [List.getElem?_eq_getElem hl] at e2
        rw [← Option.some.inj e1, ← Option.some.inj e2]
        exact hp
      · rcases h3 with h3 | h3
        · exact .inl h3
        · exact .inr h3.2
    have HOne : Hid (OneS S.L) := HO.out.one
    clear HD1 HG1 c1 hmk HMk
    simp only [List.toArray_replicate] at HM0
    generalize hsb : w1.heap.size = sb at *
    clear hsb
    generalize World.alloc w1 _ = w2 at *
    go_loopg [3, 5] S.L.length (fun k q3 q5 wr => ∃ (j l : Nat) (bs : List Value), k + j = S.L.length ∧ q5 = .int .i64 (j : Int) ∧ q3 = .int .u32 (l : Int) ∧ Hid (∀ m, j ≤ m → m < S.L.length → l < (rd S.L m).i) ∧ Hid (My w wr lo d (.slice ao S.L.length cap) { S with n := n, t := t } sb j bs))
    case atStart => exact ⟨0, 0, _, by omega, rfl, rfl, HFi.out, HM0.out⟩
    case round =>
      obtain ⟨j, l, bs, hkj, rfl, rfl, HF, HM⟩ := hrel
      obtain ⟨c1, c2, c4, c5, c6⟩ := HM.out.ff
      simp only at c1 c2 c4 c5 c6
      by_cases hk : 0 < gk
      · have hj : j < S.L.length := by omega
        have h1 : (j : Int) < (S.L.length : Int) := by omega
        have h0 : (0 : Int) ≤ (j : Int) := by omega
        obtain ⟨ao2, cap2, he2, hb⟩ := HM.out.db.bga.ex
        cases he2
        obtain ⟨g, rfl, e0, e1, e2⟩ := hb j hj
        obtain ⟨hxs, hxn', hxr, hxc⟩ := HRd.out j hj
        have hlx := HF.out j (Nat.le_refl _) hj
        have HR := hide (And.intro hxr hxc)
        have M1 := hide (HM.out.then (grown_alloc wr (.cells [Value.int .u32 ((rd S.L j).i : Int), .int .i64 ((rd S.L j).s : Int), .int .i64 (rd S.L j).u].toArray 34)))
        have HX1 := hide (heap_alloc_new wr (.cells [Value.int .u32 ((rd S.L j).i : Int), .int .i64 ((rd S.L j).s : Int), .int .i64 (rd S.L j).u].toArray 34))
        have HNx : Hid (∀ W, (wr.alloc (.cells [Value.int .u32 ((rd S.L j).i : Int), .int .i64 ((rd S.L j).s : Int), .int .i64 (rd S.L j).u].toArray 34)).grownBy W none → ((rd S.L j).u = 0 ∨ t < (rd S.L j).u) → My w (W.setCell ⟨sb, (rd S.L j).s, none⟩ (.bool true)) lo d (.slice (some ⟨g, 0, none⟩) S.L.length cap) { S with n := n, t := t } sb (j + 1) (bs.set (rd S.L j).s (.bool true))) := fun W gW hu => (M1.out.then gW).next HLt.out HOne.out hj hu
        have HSt : Hid (∀ W, (wr.alloc (.cells [Value.int .u32 ((rd S.L j).i : Int), .int .i64 ((rd S.L j).s : Int), .int .i64 (rd S.L j).u].toArray 34)).grownBy W none → W.cell? ⟨sb, (rd S.L j).s, none⟩ = some (.bool false) ∧ W.frozen? ⟨sb, (rd S.L j).s, none⟩ = false) := fun W gW => (M1.out.then gW).seat hj
        clear hb hxr hxc HF
        generalize hxx : rd S.L j = x at *
        clear hxx
        obtain ⟨xi0, xsn, xu⟩ := x
        simp only at *
        have hxi1 : decide (((xi0 : Nat) : Int) ≤ (l : Int)) = false := by rw [decide_eq_false_iff_not]; omega
        have hxn : ((xi0 : Nat) : Int) < nI := by have := HNI.out; omega
        have hxa : ((xsn : Nat) : Int) < (S.a : Int) := by omega
        have hx0 : (0 : Int) ≤ ((xsn : Nat) : Int) := by omega
        have hx1 : decide (((xsn : Nat) : Int) < 0) = false := by rw [decide_eq_false_iff_not]; omega
        generalize hsa : (S.a : Int) = sa at *
        generalize hxi : ((xi0 : Nat) : Int) = xi at *
        go_wp2
        generalize hZ : wr.heap.size = Z at *
        have HZl : Hid (wr.heap.size = Z) := hZ
        generalize World.alloc wr _ = w3 at *
        clear hZ e0 e1 e2
        have HS9 : Hid (∀ W, w3.grownBy W none → ((W.cell? ⟨Z, 0, none⟩ = some (.int .u32 xi) ∧ W.cell? ⟨Z, 1, none⟩ = some (.int .i64 (xsn : Int)) ∧ W.cell? ⟨Z, 2, none⟩ = some (.int .i64 xu)) ∧ W.cell? ⟨d, 1, none⟩ = some (.int .i64 sa) ∧ W.cell? ⟨d, 5, none⟩ = some (.int .u32 nI) ∧ W.cell? ⟨sb, xsn, none⟩ = some (.bool false))) := fun W gW => ⟨by obtain ⟨z0, z1, z2, -⟩ := box3 (box_to HX1.out gW); exact ⟨z0, z1, z2⟩, (M1.out.then gW).db.cell (j := 1) (by simp [dbc, hsa]), (M1.out.then gW).db.cell (j := 5) (by simp [dbc, HNI.out]), (HSt.out W gW).1⟩
        clear c1 c2 c4 c5 c6
        refine wp_region_held_drew (S := (fun W => (W.cell? ⟨Z, 0, none⟩ = some (.int .u32 xi) ∧ W.cell? ⟨Z, 1, none⟩ = some (.int .i64 (xsn : Int)) ∧ W.cell? ⟨Z, 2, none⟩ = some (.int .i64 xu)) ∧ W.cell? ⟨d, 1, none⟩ = some (.int .i64 sa) ∧ W.cell? ⟨d, 5, none⟩ = some (.int .u32 nI) ∧ W.cell? ⟨sb, xsn, none⟩ = some (.bool false))) (by kernel_rfl) ?_ (fun hHeld => ?_)
        · (exact HS9.out _ (grown_drew _ none))
        refine tkH (i := 0) (oi := { dst := some 61, op := Go.Op.fieldAddr 34 (Go.Operand.tmp 6) 0, type := 0, pos := "ref.go:50", after := #[], guard := none }) (v := ?_) rfl ?_ ?_
        rotate_left
        · (intro w hSw; (try dsimp only at hSw); (go_simp <;> with_reducible rfl))
        try simp only [Act.put, List.setIfInBounds_toArray, List.set_cons_zero, List.set_cons_succ]
        refine tkH (i := 1) (oi := { dst := some 62, op := Go.Op.load 23 (Go.Operand.tmp 61), type := 23, pos := "ref.go:50", after := #[{ on := 0, ground := Go.Ground.data }], guard := none }) (v := ?_) rfl ?_ ?_
        rotate_left
        · (intro w hSw; (try dsimp only at hSw); (go_simp <;> with_reducible rfl))
        try simp only [Act.put, List.setIfInBounds_toArray, List.set_cons_zero, List.set_cons_succ]
        refine tkH (i := 2) (oi := { dst := some 63, op := Go.Op.move (Go.Operand.tmp 3), type := 23, pos := "ref.go:50", after := #[], guard := none }) (v := ?_) rfl ?_ ?_
        rotate_left
        · (intro w hSw; (try dsimp only at hSw); (go_simp <;> with_reducible rfl))
        try simp only [Act.put, List.setIfInBounds_toArray, List.set_cons_zero, List.set_cons_succ]
        refine tkH (i := 3) (oi := { dst := some 64, op := Go.Op.binOp Go.BinOp.leq 23 (Go.Operand.tmp 62) (Go.Operand.tmp 63) 23, type := 4, pos := "ref.go:50", after := #[{ on := 1, ground := Go.Ground.data }, { on := 2, ground := Go.Ground.data }], guard := none }) (v := ?_) rfl ?_ ?_
        rotate_left
        · (intro w hSw; (try dsimp only at hSw); (go_simp <;> with_reducible rfl))
        try simp only [Act.put, List.setIfInBounds_toArray, List.set_cons_zero, List.set_cons_succ]
        refine tkH (i := 4) (oi := { dst := some 65, op := Go.Op.move (Go.Operand.tmp 64), type := 4, pos := "ref.go:50", after := #[{ on := 3, ground := Go.Ground.data }], guard := none }) (v := ?_) rfl ?_ ?_
        rotate_left
        · (intro w hSw; (try dsimp only at hSw); (go_simp <;> with_reducible rfl))
        try simp only [Act.put, List.setIfInBounds_toArray, List.set_cons_zero, List.set_cons_succ]
        refine tkH (i := 5) (oi := { dst := some 66, op := Go.Op.fieldAddr 34 (Go.Operand.tmp 6) 0, type := 0, pos := "ref.go:50", after := #[{ on := 4, ground := Go.Ground.guard }], guard := some (4, false) }) (v := ?_) rfl ?_ ?_
        rotate_left
        · (intro w hSw; (try dsimp only at hSw); (go_simp <;> with_reducible rfl))
        try simp only [Act.put, List.setIfInBounds_toArray, List.set_cons_zero, List.set_cons_succ]
        refine tkH (i := 6) (oi := { dst := some 67, op := Go.Op.load 23 (Go.Operand.tmp 66), type := 23, pos := "ref.go:50", after := #[{ on := 5, ground := Go.Ground.data }, { on := 4, ground := Go.Ground.guard }], guard := some (4, false) }) (v := ?_) rfl ?_ ?_
        rotate_left
        · (intro w hSw; (try dsimp only at hSw); (go_simp <;> with_reducible rfl))
        try simp only [Act.put, List.setIfInBounds_toArray, List.set_cons_zero, List.set_cons_succ]
        refine tkH (i := 7) (oi := { dst := some 68, op := Go.Op.move (Go.Operand.tmp 0), type := 27, pos := "ref.go:50", after := #[{ on := 4, ground := Go.Ground.guard }], guard := some (4, false) }) (v := ?_) rfl ?_ ?_
        rotate_left
        · (intro w hSw; (try dsimp only at hSw); (go_simp <;> with_reducible rfl))
        try simp only [Act.put, List.setIfInBounds_toArray, List.set_cons_zero, List.set_cons_succ]
        refine tkH (i := 8) (oi := { dst := some 69, op := Go.Op.nilCheck (Go.Operand.tmp 68), type := 0, pos := "ref.go:50", after := #[{ on := 7, ground := Go.Ground.data }, { on := 4, ground := Go.Ground.guard }], guard := some (4, false) }) (v := ?_) rfl ?_ ?_
        rotate_left
        · (intro w hSw; (try dsimp only at hSw); (go_simp <;> with_reducible rfl))
        try simp only [Act.put, List.setIfInBounds_toArray, List.set_cons_zero, List.set_cons_succ]
        refine tkH (i := 9) (oi := { dst := some 70, op := Go.Op.fieldAddr 59 (Go.Operand.tmp 69) 3, type := 0, pos := "ref.go:50", after := #[{ on := 8, ground := Go.Ground.data }, { on := 4, ground := Go.Ground.guard }], guard := some (4, false) }) (v := ?_) rfl ?_ ?_
        rotate_left
        · (intro w hSw; (try dsimp only at hSw); (go_simp <;> with_reducible rfl))
        try simp only [Act.put, List.setIfInBounds_toArray, List.set_cons_zero, List.set_cons_succ]
        refine tkH (i := 10) (oi := { dst := some 71, op := Go.Op.load 23 (Go.Operand.tmp 70), type := 23, pos := "ref.go:50", after := #[{ on := 9, ground := Go.Ground.data }, { on := 4, ground := Go.Ground.guard }], guard := some (4, false) }) (v := ?_) rfl ?_ ?_
        rotate_left
        · (intro w hSw; (try dsimp only at hSw); (go_simp <;> with_reducible rfl))
        try simp only [Act.put, List.setIfInBounds_toArray, List.set_cons_zero, List.set_cons_succ]
        refine tkH (i := 11) (oi := { dst := some 72, op := Go.Op.binOp Go.BinOp.geq 23 (Go.Operand.tmp 67) (Go.Operand.tmp 71) 23, type := 4, pos := "ref.go:50", after := #[{ on := 6, ground := Go.Ground.data }, { on := 10, ground := Go.Ground.data }, { on := 4, ground := Go.Ground.guard }], guard := some (4, false) }) (v := ?_) rfl ?_ ?_
        rotate_left
        · (intro w hSw; refine geq_f (t := 23) (k := .u32) (x := .tmp 67) (y := .tmp 71) (p := xi) (q := nI) ?_ ?_ ?_ hxn w <;> rfl)
        try simp only [Act.put, List.setIfInBounds_toArray, List.set_cons_zero, List.set_cons_succ]
        refine tkH (i := 12) (oi := { dst := some 73, op := Go.Op.pick (Go.Operand.tmp 65) (Go.Operand.const (Go.Value.bool true)) (Go.Operand.tmp 72), type := 4, pos := "ref.go:50", after := #[{ on := 4, ground := Go.Ground.data }, { on := 11, ground := Go.Ground.data }], guard := none }) (v := ?_) rfl ?_ ?_
        rotate_left
        · (intro w hSw; (try dsimp only at hSw); (go_simp <;> with_reducible rfl))
        try simp only [Act.put, List.setIfInBounds_toArray, List.set_cons_zero, List.set_cons_succ]
        refine tkH (i := 13) (oi := { dst := some 74, op := Go.Op.move (Go.Operand.tmp 73), type := 4, pos := "ref.go:50", after := #[{ on := 12, ground := Go.Ground.data }, { on := 4, ground := Go.Ground.chain }], guard := none }) (v := ?_) rfl ?_ ?_
        rotate_left
        · (intro w hSw; (try dsimp only at hSw); (go_simp <;> with_reducible rfl))
        try simp only [Act.put, List.setIfInBounds_toArray, List.set_cons_zero, List.set_cons_succ]
        refine tkH (i := 14) (oi := { dst := some 75, op := Go.Op.fieldAddr 34 (Go.Operand.tmp 6) 1, type := 0, pos := "ref.go:50", after := #[{ on := 13, ground := Go.Ground.guard }], guard := some (13, false) }) (v := ?_) rfl ?_ ?_
        rotate_left
        · (intro w hSw; (try dsimp only at hSw); (go_simp <;> with_reducible rfl))
        try simp only [Act.put, List.setIfInBounds_toArray, List.set_cons_zero, List.set_cons_succ]
        refine tkH (i := 15) (oi := { dst := some 76, op := Go.Op.load 3 (Go.Operand.tmp 75), type := 3, pos := "ref.go:50", after := #[{ on := 14, ground := Go.Ground.data }, { on := 13, ground := Go.Ground.guard }], guard := some (13, false) }) (v := ?_) rfl ?_ ?_
        rotate_left
        · (intro w hSw; (try dsimp only at hSw); (go_simp <;> with_reducible rfl))
        try simp only [Act.put, List.setIfInBounds_toArray, List.set_cons_zero, List.set_cons_succ]
        refine tkH (i := 16) (oi := { dst := some 77, op := Go.Op.binOp Go.BinOp.lss 3 (Go.Operand.tmp 76) (Go.Operand.const (Go.Value.int Go.IntKind.i64 0)) 3, type := 4, pos := "ref.go:50", after := #[{ on := 15, ground := Go.Ground.data }, { on := 13, ground := Go.Ground.guard }], guard := some (13, false) }) (v := ?_) rfl ?_ ?_
        rotate_left
        · (intro w hSw; (try dsimp only at hSw); (go_simp <;> with_reducible rfl))
        try simp only [Act.put, List.setIfInBounds_toArray, List.set_cons_zero, List.set_cons_succ]
        refine tkH (i := 17) (oi := { dst := some 78, op := Go.Op.pick (Go.Operand.tmp 74) (Go.Operand.const (Go.Value.bool true)) (Go.Operand.tmp 77), type := 4, pos := "ref.go:50", after := #[{ on := 13, ground := Go.Ground.data }, { on := 16, ground := Go.Ground.data }], guard := none }) (v := ?_) rfl ?_ ?_
        rotate_left
        · (intro w hSw; (try dsimp only at hSw); (go_simp <;> with_reducible rfl))
        try simp only [Act.put, List.setIfInBounds_toArray, List.set_cons_zero, List.set_cons_succ]
        refine tkH (i := 18) (oi := { dst := some 79, op := Go.Op.move (Go.Operand.tmp 78), type := 4, pos := "ref.go:50", after := #[{ on := 17, ground := Go.Ground.data }, { on := 13, ground := Go.Ground.chain }], guard := none }) (v := ?_) rfl ?_ ?_
        rotate_left
        · (intro w hSw; (try dsimp only at hSw); (go_simp <;> with_reducible rfl))
        try simp only [Act.put, List.setIfInBounds_toArray, List.set_cons_zero, List.set_cons_succ]
        refine tkH (i := 19) (oi := { dst := some 80, op := Go.Op.fieldAddr 34 (Go.Operand.tmp 6) 1, type := 0, pos := "ref.go:50", after := #[{ on := 18, ground := Go.Ground.guard }], guard := some (18, false) }) (v := ?_) rfl ?_ ?_
        rotate_left
        · (intro w hSw; (try dsimp only at hSw); (go_simp <;> with_reducible rfl))
        try simp only [Act.put, List.setIfInBounds_toArray, List.set_cons_zero, List.set_cons_succ]
        refine tkH (i := 20) (oi := { dst := some 81, op := Go.Op.load 3 (Go.Operand.tmp 80), type := 3, pos := "ref.go:50", after := #[{ on := 19, ground := Go.Ground.data }, { on := 18, ground := Go.Ground.guard }], guard := some (18, false) }) (v := ?_) rfl ?_ ?_
        rotate_left
        · (intro w hSw; (try dsimp only at hSw); (go_simp <;> with_reducible rfl))
        try simp only [Act.put, List.setIfInBounds_toArray, List.set_cons_zero, List.set_cons_succ]
        refine tkH (i := 21) (oi := { dst := some 82, op := Go.Op.move (Go.Operand.tmp 0), type := 27, pos := "ref.go:50", after := #[{ on := 18, ground := Go.Ground.guard }], guard := some (18, false) }) (v := ?_) rfl ?_ ?_
        rotate_left
        · (intro w hSw; (try dsimp only at hSw); (go_simp <;> with_reducible rfl))
        try simp only [Act.put, List.setIfInBounds_toArray, List.set_cons_zero, List.set_cons_succ]
        refine tkH (i := 22) (oi := { dst := some 83, op := Go.Op.nilCheck (Go.Operand.tmp 82), type := 0, pos := "ref.go:50", after := #[{ on := 21, ground := Go.Ground.data }, { on := 18, ground := Go.Ground.guard }], guard := some (18, false) }) (v := ?_) rfl ?_ ?_
        rotate_left
        · (intro w hSw; (try dsimp only at hSw); (go_simp <;> with_reducible rfl))
        try simp only [Act.put, List.setIfInBounds_toArray, List.set_cons_zero, List.set_cons_succ]
        refine tkH (i := 23) (oi := { dst := some 84, op := Go.Op.fieldAddr 59 (Go.Operand.tmp 83) 1, type := 0, pos := "ref.go:50", after := #[{ on := 22, ground := Go.Ground.data }, { on := 18, ground := Go.Ground.guard }], guard := some (18, false) }) (v := ?_) rfl ?_ ?_
        rotate_left
        · (intro w hSw; (try dsimp only at hSw); (go_simp <;> with_reducible rfl))
        try simp only [Act.put, List.setIfInBounds_toArray, List.set_cons_zero, List.set_cons_succ]
        refine tkH (i := 24) (oi := { dst := some 85, op := Go.Op.fieldAddr 44 (Go.Operand.tmp 84) 0, type := 0, pos := "ref.go:50", after := #[{ on := 23, ground := Go.Ground.data }, { on := 18, ground := Go.Ground.guard }], guard := some (18, false) }) (v := ?_) rfl ?_ ?_
        rotate_left
        · (intro w hSw; (try dsimp only at hSw); (go_simp <;> with_reducible rfl))
        try simp only [Act.put, List.setIfInBounds_toArray, List.set_cons_zero, List.set_cons_succ]
        refine tkH (i := 25) (oi := { dst := some 86, op := Go.Op.load 3 (Go.Operand.tmp 85), type := 3, pos := "ref.go:50", after := #[{ on := 24, ground := Go.Ground.data }, { on := 18, ground := Go.Ground.guard }], guard := some (18, false) }) (v := ?_) rfl ?_ ?_
        rotate_left
        · (intro w hSw; (try dsimp only at hSw); (go_simp <;> with_reducible rfl))
        try simp only [Act.put, List.setIfInBounds_toArray, List.set_cons_zero, List.set_cons_succ]
        refine tkH (i := 26) (oi := { dst := some 87, op := Go.Op.binOp Go.BinOp.geq 3 (Go.Operand.tmp 81) (Go.Operand.tmp 86) 3, type := 4, pos := "ref.go:50", after := #[{ on := 20, ground := Go.Ground.data }, { on := 25, ground := Go.Ground.data }, { on := 18, ground := Go.Ground.guard }], guard := some (18, false) }) (v := ?_) rfl ?_ ?_
        rotate_left
        · (intro w hSw; refine geq_f (t := 3) (k := .i64) (x := .tmp 81) (y := .tmp 86) (p := (xsn : Int)) (q := sa) ?_ ?_ ?_ hxa w <;> rfl)
        try simp only [Act.put, List.setIfInBounds_toArray, List.set_cons_zero, List.set_cons_succ]
        refine tkH (i := 27) (oi := { dst := some 88, op := Go.Op.pick (Go.Operand.tmp 79) (Go.Operand.const (Go.Value.bool true)) (Go.Operand.tmp 87), type := 4, pos := "ref.go:50", after := #[{ on := 18, ground := Go.Ground.data }, { on := 26, ground := Go.Ground.data }], guard := none }) (v := ?_) rfl ?_ ?_
        rotate_left
        · (intro w hSw; (try dsimp only at hSw); (go_simp <;> with_reducible rfl))
        try simp only [Act.put, List.setIfInBounds_toArray, List.set_cons_zero, List.set_cons_succ]
        refine tkH (i := 28) (oi := { dst := some 89, op := Go.Op.move (Go.Operand.tmp 88), type := 4, pos := "ref.go:50", after := #[{ on := 27, ground := Go.Ground.data }, { on := 18, ground := Go.Ground.chain }], guard := none }) (v := ?_) rfl ?_ ?_
        rotate_left
        · (intro w hSw; (try dsimp only at hSw); (go_simp <;> with_reducible rfl))
        try simp only [Act.put, List.setIfInBounds_toArray, List.set_cons_zero, List.set_cons_succ]
        refine tkH (i := 29) (oi := { dst := some 90, op := Go.Op.move (Go.Operand.tmp 4), type := 88, pos := "ref.go:50", after := #[{ on := 28, ground := Go.Ground.guard }], guard := some (28, false) }) (v := ?_) rfl ?_ ?_
        rotate_left
        · (intro w hSw; (try dsimp only at hSw); (go_simp <;> with_reducible rfl))
        try simp only [Act.put, List.setIfInBounds_toArray, List.set_cons_zero, List.set_cons_succ]
        refine tkH (i := 30) (oi := { dst := some 91, op := Go.Op.fieldAddr 34 (Go.Operand.tmp 6) 1, type := 0, pos := "ref.go:50", after := #[{ on := 28, ground := Go.Ground.guard }], guard := some (28, false) }) (v := ?_) rfl ?_ ?_
        rotate_left
        · (intro w hSw; (try dsimp only at hSw); (go_simp <;> with_reducible rfl))
        try simp only [Act.put, List.setIfInBounds_toArray, List.set_cons_zero, List.set_cons_succ]
        refine tkH (i := 31) (oi := { dst := some 92, op := Go.Op.load 3 (Go.Operand.tmp 91), type := 3, pos := "ref.go:50", after := #[{ on := 30, ground := Go.Ground.data }, { on := 28, ground := Go.Ground.guard }], guard := some (28, false) }) (v := ?_) rfl ?_ ?_
        rotate_left
        · (intro w hSw; (try dsimp only at hSw); (go_simp <;> with_reducible rfl))
        try simp only [Act.put, List.setIfInBounds_toArray, List.set_cons_zero, List.set_cons_succ]
        refine tkH (i := 32) (oi := { dst := some 93, op := Go.Op.indexAddr 88 (Go.Operand.tmp 90) (Go.Operand.tmp 92), type := 0, pos := "ref.go:50", after := #[{ on := 29, ground := Go.Ground.data }, { on := 31, ground := Go.Ground.data }, { on := 28, ground := Go.Ground.guard }], guard := some (28, false) }) (v := ?_) rfl ?_ ?_
        rotate_left
        · (intro w hSw; (try dsimp only at hSw); (go_simp <;> with_reducible rfl))
        try simp only [Act.put, List.setIfInBounds_toArray, List.set_cons_zero, List.set_cons_succ]
        refine tkH (i := 33) (oi := { dst := some 94, op := Go.Op.load 4 (Go.Operand.tmp 93), type := 4, pos := "ref.go:50", after := #[{ on := 32, ground := Go.Ground.data }, { on := 28, ground := Go.Ground.guard }], guard := some (28, false) }) (v := ?_) rfl ?_ ?_
        rotate_left
        · (intro w hSw; (try dsimp only at hSw); (go_simp <;> with_reducible rfl))
        try simp only [Act.put, List.setIfInBounds_toArray, List.set_cons_zero, List.set_cons_succ]
        refine tkH (i := 34) (oi := { dst := some 95, op := Go.Op.pick (Go.Operand.tmp 89) (Go.Operand.const (Go.Value.bool true)) (Go.Operand.tmp 94), type := 4, pos := "ref.go:50", after := #[{ on := 28, ground := Go.Ground.data }, { on := 33, ground := Go.Ground.data }], guard := none }) (v := ?_) rfl ?_ ?_
        rotate_left
        · (intro w hSw; (try dsimp only at hSw); (go_simp <;> with_reducible rfl))
        try simp only [Act.put, List.setIfInBounds_toArray, List.set_cons_zero, List.set_cons_succ]
        refine wpAnyH_done (by kernel_rfl) ?_ _
        go_wp2
        have M2 := hide (M1.out.then (grown_drew w3 none))
        have HS2 : Hid (∀ W, (World.drew w3).grownBy W none → W.heap[Z]? = some (.cells [Value.int .u32 xi, .int .i64 (xsn : Int), .int .i64 xu].toArray 34)) := fun W gW => box_to HX1.out (grown_trans (grown_drew w3 none) gW)
        have HN2 : Hid (∀ W, (World.drew w3).grownBy W none → (xu = 0 ∨ t < xu) → My w (W.setCell ⟨sb, xsn, none⟩ (.bool true)) lo d (.slice (some ⟨g, 0, none⟩) S.L.length cap) { S with n := n, t := t } sb (j + 1) (bs.set xsn (.bool true))) := fun W gW => HNx.out W (grown_trans (grown_drew w3 none) gW)
        have HT2 : Hid (∀ W, (World.drew w3).grownBy W none → W.cell? ⟨sb, xsn, none⟩ = some (.bool false) ∧ W.frozen? ⟨sb, xsn, none⟩ = false) := fun W gW => HSt.out W (grown_trans (grown_drew w3 none) gW)
        have HZs : Hid (sb ≠ Z) := fun e => by have h1 := row_lt HM.out.row; have h2 := HZl.out; omega
        clear HNx HSt HX1 M1 HS9 hHeld
        generalize World.drew w3 = w4 at *
        obtain ⟨z0, z1, z2, -⟩ := box3 (HS2.out _ (grown_refl _ _))
        have d6 : w4.cell? ⟨d, 6, none⟩ = some (.int .i64 t) := M2.out.db.cell (j := 6) rfl
        rcases (show xu = 0 ∨ (xu ≠ 0 ∧ xu ≤ t) ∨ (xu ≠ 0 ∧ t < xu) by omega) with hu | ⟨hu, hu2⟩ | ⟨hu, hu2⟩
        · have f1 : (xu != 0) = false := by simpa using hu
          have f2 : decide (xu = 0) = true := by simpa using hu
          have HV := hide (fun W gW => HN2.out W gW (.inl hu))
          go_quiet (fail)
          have g5 := hide (grown_drewN w4 nq none)
          clear z0 z1 z2 d6
          generalize World.drewN _ nq = w5 at *
          obtain ⟨t0, t1⟩ := HT2.out _ g5.out
          obtain ⟨z0, z1, z2, -⟩ := box3 (HS2.out _ g5.out)
          have M6 := hide (HV.out _ g5.out)
          have HZ6 : Hid ((w5.setCell ⟨sb, xsn, none⟩ (.bool true)).cell? ⟨Z, 0, none⟩ = some (.int .u32 xi)) := cell_set1 z0 HZs.out
          go_upto_region 14 with fail
          generalize World.setCell w5 _ _ = w6 at *
          clear z0 z1 z2 t0 t1
          have z0 := HZ6.out
          have hL' := HL.out
          go_wp2
          go_roundg (gk - 1)
          case measure => omega
          case rel => exact ⟨j + 1, xi0, _, by omega, by go_num, by rw [hxi], HR.out.1, M6.out⟩
        · have f1 : (xu != 0) = true := by simpa using hu
          have f2 : (xu == 0) = false := by simpa using hu
          have f3 : decide (xu = 0) = false := by simpa using hu
          have f4 : decide (xu ≤ t) = true := decide_eq_true hu2
          go_quiet (fail)
          go_wp2
          go_ret
          exact ⟨false, rfl, (fun e => by cases e), grown_trans M2.out.gr (grown_drewN _ _ none)⟩
        · have f1 : (xu != 0) = true := by simpa using hu
          have f2 : (xu == 0) = false := by simpa using hu
          have f3 : decide (xu = 0) = false := by simpa using hu
          have f4 : decide (xu ≤ t) = false := by rw [decide_eq_false_iff_not]; omega
          have hu5 : xu ≤ 1099511627776 := HR.out.2.elim (fun e => absurd e hu) (fun e => e)
          have f5 : decide ((1099511627776 : Int) < xu) = false := by rw [decide_eq_false_iff_not]; omega
          have HV := hide (fun W gW => HN2.out W gW (.inr hu2))
          go_quiet (fail)
          have g5 := hide (grown_drewN w4 nq none)
          clear z0 z1 z2 d6
          generalize World.drewN _ nq = w5 at *
          obtain ⟨t0, t1⟩ := HT2.out _ g5.out
          obtain ⟨z0, z1, z2, -⟩ := box3 (HS2.out _ g5.out)
          have M6 := hide (HV.out _ g5.out)
          have HZ6 : Hid ((w5.setCell ⟨sb, xsn, none⟩ (.bool true)).cell? ⟨Z, 0, none⟩ = some (.int .u32 xi)) := cell_set1 z0 HZs.out
          go_upto_region 14 with fail
          generalize World.setCell w5 _ _ = w6 at *
          clear z0 z1 z2 t0 t1
          have z0 := HZ6.out
          have hL' := HL.out
          go_wp2
          go_roundg (gk - 1)
          case measure => omega
          case rel => exact ⟨j + 1, xi0, _, by omega, by go_num, by rw [hxi], HR.out.1, M6.out⟩
      · have hjl : j = S.L.length := by omega
        have HE : Hid (∀ m, m < S.L.length → (rd S.L m).u = 0 ∨ t < (rd S.L m).u) := fun m hm => HM.out.til m (by omega) hm
        clear HF
        subst hjl
        go_wp2
        go_ret
        exact ⟨true, rfl, fun _ => HOk2.out HE.out, HM.out.gr⟩
end Go.Proofs.YtjfhilignbeboabGreatDoor
