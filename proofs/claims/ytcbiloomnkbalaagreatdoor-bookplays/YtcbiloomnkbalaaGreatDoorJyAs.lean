/- Texts joined: Vd. -/
import Derived.Test.YtcbiloomnkbalaaGreatDoorJyAr
import Derived.Test.YtcbiloomnkbalaaGreatDoorJyAm
import Derived.Deep.CutRange
import Derived.Deep.DeepCutAuto
/- The document: a book of any bookings, May. -/
namespace Go.Proofs.YtcbiloomnkbalaaGreatDoor
open Go.RowKit
attribute [local go_sem ↓] Go.wp_at_zero Go.wp_at_succ
attribute [local go_sem] Oper.semAt_some
theorem geq_f {a : Act} {o : Oper} {x y : Operand} {t : TypeId} {k : IntKind} {p q : Int} (ho : o.op = .binOp .geq t x y t) (hx : a.eval x = .int k p) (hy : a.eval y = .int k q) (h : p < q) (w : World) : (execOp a.eval o).run Tryz.prog w = .ok (.value (.bool false)) w := by
  have hd : decide (p ≥ q) = false := by rw [decide_eq_false_iff_not]; omega
  unfold execOp
  simp only [ho, hx, hy]
  go_simp
theorem geq_t {a : Act} {o : Oper} {x y : Operand} {t : TypeId} {k : IntKind} {p q : Int} (ho : o.op = .binOp .geq t x y t) (hx : a.eval x = .int k p) (hy : a.eval y = .int k q) (h : q ≤ p) (w : World) : (execOp a.eval o).run Tryz.prog w = .ok (.value (.bool true)) w := by
  have hd : decide (p ≥ q) = true := by rw [decide_eq_true_iff]; omega
  unfold execOp
  simp only [ho, hx, hy]
  go_simp
theorem info4b : (Tryz.prog.info? 4).map (fun i => (i.zero, i.size, i.bytes)) = some (some (.bool false), 1, 1) := by kernel_rfl
theorem make_bools (n : Nat) (C : Int) (hC : C = (n : Int)) (h : n ≤ 1024) (w : World) : (Instr.makeSlice 97 (.int .i64 C) (.int .i64 C)).run Tryz.prog w = .ok (.slice (some ⟨w.heap.size, 0, none⟩) n n) (w.alloc (.cells (List.replicate n (Value.bool false)).toArray 4)) := by
  subst hC
  rw [run_make_row' (P := Tryz.prog) 97 4 (.bool false) 1 Tryz.underlying97 info4b rfl .i64 .i64 n (by omega) (by omega) w]
  rw [show madeCells #[.bool false] n = (List.replicate n (Value.bool false)).toArray from by apply Array.ext'; rw [toList_madeCells_one]]
theorem gn_own {w W W' : World} {g : Nat} (h : w.grownBy W none) (k : W.grownBy W' (some g)) (hg : w.heap.size ≤ g) : w.grownBy W' none := grown_then h k (fun j e => .inl (by cases e; exact hg))
theorem box_to {w w' : World} {g : Nat} {xs : List Value} {t : TypeId} (h : w.heap[g]? = some (.cells xs.toArray t (0, 0))) (k : w.grownBy w' none) : w'.heap[g]? = some (.cells xs.toArray t (0, 0)) := (k.block _ (row_lt h) (fun e => by cases e)).trans h
theorem cell_set1 {w : World} {g o g' o' : Nat} {v u : Value} (h : w.cell? ⟨g, o, none⟩ = some v) (hn : g' ≠ g) : (w.setCell ⟨g', o', none⟩ u).cell? ⟨g, o, none⟩ = some v := (grown_setCell w g' o' u).cell h (fun e => hn (Option.some.inj e).symm)
/-- The document's book of bookings that may be or not. -/
structure Dw (w : World) (lo d : Nat) (v : Value) (a b c n : Nat) (t : Int) (X : List Bw) : Prop where
  head : w.heap[d]? = some (.cells [Value.bool true, .int .i64 (a : Int), .int .i64 (b : Int), .int .i64 (c : Int), v, .int .u32 (n : Int), .int .i64 t].toArray 52 (0, 0))
  row : w.ownsRow lo 78 3 v X.length (bwcs X)
  ge : lo ≤ d
section
variable {w w' wr wr' : World} {lo d : Nat} {v : Value} {a b c n : Nat} {t : Int} {X : List Bw} {sb j : Nat} {bs : List Value}
theorem Dw.far {Y : Nat → Prop} (h : Dw w lo d v a b c n t X) (k : Kept w w' Y) (hX : ∀ i, dbo d v i → ¬ Y i) : Dw w' lo d v a b c n t X :=
  ⟨k.at h.head (hX _ (.inl rfl)), Ix.row_keep h.row (fun q hq => by obtain ⟨-, cur, hc⟩ := Ix.own_block h.row hq; exact k.block q (row_lt hc) (hX q (.inr hq))), h.ge⟩
theorem Dw.then (h : Dw w lo d v a b c n t X) (g : w.grownBy w' none) : Dw w' lo d v a b c n t X := h.far (Kept.new g (fun _ => False)) (fun _ _ e => e)
theorem Dw.lt (h : Dw w lo d v a b c n t X) : ∀ i, dbo d v i → i < w.heap.size := by
  rintro i (rfl | hi)
  · exact row_lt h.head
  · obtain ⟨-, cur, hc⟩ := Ix.own_block h.row hi; exact row_lt hc
theorem Dw.cell (h : Dw w lo d v a b c n t X) : ∀ j u, [Value.bool true, .int .i64 (a : Int), .int .i64 (b : Int), .int .i64 (c : Int), v, .int .u32 (n : Int), .int .i64 t][j]? = some u → w.cell? ⟨d, j, none⟩ = some u := fun j u hu => by rw [cell_row h.head]; exact hu
theorem bgs_bw {Y : List Bw} (h : ∀ y ∈ Y, 0 ≤ y.s) : bgs (Y.map Bw.bg) = bwcs Y := by
  induction Y with
  | nil => rfl
  | cons y r ih =>
    have h0 := h y (by simp)
    have e : bgc y.bg = bwc y := by unfold bgc bwc; simp only [Bw.bg]; rw [Int.toNat_of_nonneg h0]
    simp only [bgs, bwcs, List.map_cons, List.flatMap_cons] at ih ⊢
    rw [e, ih (fun z hz => h z (by simp [hz]))]
theorem Dw.db (h : Dw w lo d v a b c n t X) (hx : OkX a b n t X) : Db w lo d v ⟨a, b, c, n, t, X.map Bw.bg⟩ := by
  refine ⟨h.head, ?_, h.ge⟩
  have := h.row
  rw [← bgs_bw (fun y hy => by obtain ⟨k, hk, rfl⟩ := rdw_mem hy; exact (hx k hk).s0)] at this
  show w.ownsRow lo 78 3 v (X.map Bw.bg).length _
  rw [List.length_map]
  exact this
structure Mg (w wr : World) (lo d : Nat) (v : Value) (a b c n : Nat) (t : Int) (X : List Bw) (sb : Nat) (j : Nat) (bs : List Value) : Prop where
  db : Dw wr lo d v a b c n t X
  gr : w.grownBy wr none
  row : wr.heap[sb]? = some (.cells bs.toArray 4 (0, 0))
  len : bs.length = a
  ge : w.heap.size ≤ sb
  may : ∀ k, k < j → MayJ a b n t X k
  yes : ∀ k, k < j → bs[(rdw X k).s.toNat]? = some (.bool true)
  no : ∀ s : Nat, s < a → (∀ k, k < j → (rdw X k).s ≠ (s : Int)) → bs[s]? = some (.bool false)
theorem Mg.then (h : Mg w wr lo d v a b c n t X sb j bs) (g : wr.grownBy wr' none) : Mg w wr' lo d v a b c n t X sb j bs := ⟨h.db.then g, grown_trans h.gr g, box_to h.row g, h.len, h.ge, h.may, h.yes, h.no⟩
theorem Mg.next (h : Mg w wr lo d v a b c n t X sb j bs) (hlt : ∀ i, dbo d v i → i < w.heap.size) (m : MayJ a b n t X j) : Mg w (wr.setCell ⟨sb, (rdw X j).s.toNat, none⟩ (.bool true)) lo d v a b c n t X sb (j + 1) (bs.set (rdw X j).s.toNat (.bool true)) := by
  have hge := h.ge
  have hs0 := m.s0
  have hs1 := m.s1
  refine ⟨h.db.far (kept_setCell wr sb (rdw X j).s.toNat (.bool true)) (fun i hi e => by have := hlt i hi; omega), gn_own h.gr (grown_setCell _ _ _ _) h.ge, row_setCell h.row _ _, by rw [List.length_set]; exact h.len, h.ge, fun k hk => ?_, fun k hk => ?_, fun s hs hk => ?_⟩
  · by_cases e : k = j
    · rw [e]; exact m
    · exact h.may k (by omega)
  · by_cases e : k = j
    · rw [e, List.getElem?_set, if_pos rfl, if_pos (by rw [h.len]; omega)]
    · have h1 := m.one k (by omega)
      have h2 := (h.may k (by omega)).s0
      rw [List.getElem?_set, if_neg (by omega)]
      exact h.yes k (by omega)
  · have h1 := hk j (by omega)
    rw [List.getElem?_set, if_neg (by omega)]
    exact h.no s hs (fun k h2 => hk k (by omega))
theorem Mg.ff (h : Mg w wr lo d v a b c n t X sb j bs) : (wr.cell? ⟨d, 1, none⟩ = some (.int .i64 (a : Int)) ∧ wr.cell? ⟨d, 2, none⟩ = some (.int .i64 (b : Int)) ∧ wr.cell? ⟨d, 4, none⟩ = some v ∧ wr.cell? ⟨d, 5, none⟩ = some (.int .u32 (n : Int)) ∧ wr.cell? ⟨d, 6, none⟩ = some (.int .i64 t)) :=
  ⟨h.db.cell 1 _ rfl, h.db.cell 2 _ rfl, h.db.cell 4 _ rfl, h.db.cell 5 _ rfl, h.db.cell 6 _ rfl⟩
end
/-- The answer tells whether P is so. -/
def MgP (w w' : World) (P : Prop) (e : Ending) : Prop := ∃ r : Bool, e = .returned (.bool r) ∧ (r = true ↔ P) ∧ w.grownBy w' none
theorem MgP.no {w w' : World} {P : Prop} {e : Ending} (he : e = .returned (.bool false)) (h : ¬ P) (g : w.grownBy w' none) : MgP w w' P e := ⟨false, he, Iff.intro (fun x => by cases x) (fun x => absurd x h), g⟩
theorem MgP.yes {w w' : World} {P : Prop} {e : Ending} (he : e = .returned (.bool true)) (h : P) (g : w.grownBy w' none) : MgP w w' P e := ⟨true, he, Iff.intro (fun _ => h) (fun _ => rfl), g⟩
def HdO (a b n : Nat) (t : Int) (X : List Bw) : Prop := (1 ≤ n ∧ 0 ≤ t ∧ t ≤ mxC) ∧ OkX a b n t X
set_option maxRecDepth 100000 in
set_option maxHeartbeats 32000000 in
theorem rmayG {w : World} {lo d : Nat} {v : Value} {a b c n : Nat} {t : Int} {X : List Bw} (h : Dw w lo d v a b c n t X) (ha : a ≤ 1024) (hX : X.length ≤ 65536) : Calls Tryz.prog 19 #[.pointer (some ⟨d, 0, none⟩)] w fun e w' => MgP w w' (HdO a b n t X) e := by
  obtain ⟨ao, cap, hv, hb⟩ := (BwA.own h.row).ex
  subst hv
  have c1 := h.cell 1 _ rfl
  have c2 := h.cell 2 _ rfl
  have c4 := h.cell 4 _ rfl
  have c5 := h.cell 5 _ rfl
  have c6 := h.cell 6 _ rfl
  have HD := hide h
  have HA : Hid (a ≤ 1024) := ha
  have HNo : Hid (¬ (1 ≤ n ∧ 0 ≤ t ∧ t ≤ 1099511627776) → ¬ HdO a b n t X) := fun h1 h2 => h1 h2.1
  have HNl : Hid (b < X.length → ¬ HdO a b n t X) := fun h1 h2 => by have := (h2.2 b h1).room; omega
  have HNj : Hid (∀ j, j < X.length → ¬ MayJ a b n t X j → ¬ HdO a b n t X) := fun j h1 h2 h3 => h2 (h3.2 j h1)
  have HYs : Hid (1 ≤ n → 0 ≤ t → t ≤ 1099511627776 → (∀ j, j < X.length → MayJ a b n t X j) → HdO a b n t X) := fun h1 h2 h3 h4 => ⟨⟨h1, h2, h3⟩, h4⟩
  generalize HdO a b n t X = P at *
  have HL := hide hX
  clear h hb ha
  generalize hnI : (n : Int) = nI at *
  have HNI := hide hnI
  have hn0 : (0 : Int) ≤ nI := by omega
  clear hnI
  by_cases hn1 : nI < 1
  · have fn1 : decide (nI < 1) = true := decide_eq_true hn1
    have HW := hide (HNo.out (fun x => by have := HNI.out; omega))
    clear HYs HNj HNl
    go_enter Tryz.func19, Tryz.ntmps19
    go_wp2
    refine wp_region_held_drew (S := (fun W => W.cell? ⟨d, 2, none⟩ = some (.int .i64 (b : Int)) ∧ W.cell? ⟨d, 4, none⟩ = some (.slice ao X.length cap) ∧ W.cell? ⟨d, 5, none⟩ = some (.int .u32 nI) ∧ W.cell? ⟨d, 6, none⟩ = some (.int .i64 t))) (by kernel_rfl) ?_ (fun hHeld => ?_)
    · (exact ⟨c2, c4, c5, c6⟩)
    refine tkQ 0 (oi := ⟨some 7, .move (.tmp 0), 38, "ref.go:43", #[], none⟩) rfl ?_
    try simp only [Act.put, pA, pB, pC]
    refine tkQ 1 (oi := ⟨some 8, .nilCheck (.tmp 7), 0, "ref.go:43", #[⟨0, .data⟩], none⟩) rfl ?_
    try simp only [Act.put, pA, pB, pC]
    refine tkQ 2 (oi := ⟨some 9, .fieldAddr 52 (.tmp 8) 3, 0, "ref.go:43", #[⟨1, .data⟩], none⟩) rfl ?_
    try simp only [Act.put, pA, pB, pC]
    refine tkQ 3 (oi := ⟨some 10, .load 24 (.tmp 9), 24, "ref.go:43", #[⟨2, .data⟩], none⟩) rfl ?_
    try simp only [Act.put, pA, pB, pC]
    refine tkQ 4 (oi := ⟨some 11, .binOp .lss 24 (.tmp 10) (.const (.int .u32 1)) 24, 4, "ref.go:43", #[⟨3, .data⟩], none⟩) rfl ?_
    try simp only [Act.put, pA, pB, pC]
    refine tkQ 5 (oi := ⟨some 12, .move (.tmp 11), 4, "ref.go:43", #[⟨4, .data⟩], none⟩) rfl ?_
    try simp only [Act.put, pA, pB, pC]
    refine skH 6 (oi := ⟨some 13, .move (.tmp 0), 38, "ref.go:43", #[⟨5, .guard⟩], some (5, false)⟩) rfl ?_
    try simp only [Act.put, pA, pB, pC]
    refine skH 7 (oi := ⟨some 14, .nilCheck (.tmp 13), 0, "ref.go:43", #[⟨6, .data⟩, ⟨5, .guard⟩], some (5, false)⟩) rfl ?_
    try simp only [Act.put, pA, pB, pC]
    refine skH 8 (oi := ⟨some 15, .fieldAddr 52 (.tmp 14) 4, 0, "ref.go:43", #[⟨7, .data⟩, ⟨5, .guard⟩], some (5, false)⟩) rfl ?_
    try simp only [Act.put, pA, pB, pC]
    refine skH 9 (oi := ⟨some 16, .load 2 (.tmp 15), 2, "ref.go:43", #[⟨8, .data⟩, ⟨5, .guard⟩], some (5, false)⟩) rfl ?_
    try simp only [Act.put, pA, pB, pC]
    refine skH 10 (oi := ⟨some 17, .binOp .lss 2 (.tmp 16) (.const (.int .i64 0)) 2, 4, "ref.go:43", #[⟨9, .data⟩, ⟨5, .guard⟩], some (5, false)⟩) rfl ?_
    try simp only [Act.put, pA, pB, pC]
    refine tkQ 11 (oi := ⟨some 18, .pick (.tmp 12) (.const (.bool true)) (.tmp 17), 4, "ref.go:43", #[⟨5, .data⟩, ⟨10, .data⟩], none⟩) rfl ?_
    try simp only [Act.put, pA, pB, pC]
    refine tkQ 12 (oi := ⟨some 19, .move (.tmp 18), 4, "ref.go:43", #[⟨11, .data⟩, ⟨5, .chain⟩], none⟩) rfl ?_
    try simp only [Act.put, pA, pB, pC]
    refine skH 13 (oi := ⟨some 20, .move (.tmp 0), 38, "ref.go:43", #[⟨12, .guard⟩], some (12, false)⟩) rfl ?_
    try simp only [Act.put, pA, pB, pC]
    refine skH 14 (oi := ⟨some 21, .nilCheck (.tmp 20), 0, "ref.go:43", #[⟨13, .data⟩, ⟨12, .guard⟩], some (12, false)⟩) rfl ?_
    try simp only [Act.put, pA, pB, pC]
    refine skH 15 (oi := ⟨some 22, .fieldAddr 52 (.tmp 21) 4, 0, "ref.go:43", #[⟨14, .data⟩, ⟨12, .guard⟩], some (12, false)⟩) rfl ?_
    try simp only [Act.put, pA, pB, pC]
    refine skH 16 (oi := ⟨some 23, .load 2 (.tmp 22), 2, "ref.go:43", #[⟨15, .data⟩, ⟨12, .guard⟩], some (12, false)⟩) rfl ?_
    try simp only [Act.put, pA, pB, pC]
    refine skH 17 (oi := ⟨some 24, .binOp .gtr 2 (.tmp 23) (.const (.int .i64 1099511627776)) 2, 4, "ref.go:43", #[⟨16, .data⟩, ⟨12, .guard⟩], some (12, false)⟩) rfl ?_
    try simp only [Act.put, pA, pB, pC]
    refine tkQ 18 (oi := ⟨some 25, .pick (.tmp 19) (.const (.bool true)) (.tmp 24), 4, "ref.go:43", #[⟨12, .data⟩, ⟨17, .data⟩], none⟩) rfl ?_
    try simp only [Act.put, pA, pB, pC]
    refine tkQ 19 (oi := ⟨some 26, .move (.tmp 25), 4, "ref.go:43", #[⟨18, .data⟩, ⟨12, .chain⟩], none⟩) rfl ?_
    try simp only [Act.put, pA, pB, pC]
    refine skH 20 (oi := ⟨some 27, .move (.tmp 0), 38, "ref.go:43", #[⟨19, .guard⟩], some (19, false)⟩) rfl ?_
    try simp only [Act.put, pA, pB, pC]
    refine skH 21 (oi := ⟨some 28, .nilCheck (.tmp 27), 0, "ref.go:43", #[⟨20, .data⟩, ⟨19, .guard⟩], some (19, false)⟩) rfl ?_
    try simp only [Act.put, pA, pB, pC]
    refine skH 22 (oi := ⟨some 29, .fieldAddr 52 (.tmp 28) 2, 0, "ref.go:43", #[⟨21, .data⟩, ⟨19, .guard⟩], some (19, false)⟩) rfl ?_
    try simp only [Act.put, pA, pB, pC]
    refine skH 23 (oi := ⟨some 30, .load 25 (.tmp 29), 25, "ref.go:43", #[⟨22, .data⟩, ⟨19, .guard⟩], some (19, false)⟩) rfl ?_
    try simp only [Act.put, pA, pB, pC]
    refine skH 24 (oi := ⟨some 31, .call { callee := .builtin .len, args := #[.tmp 30], argTypes := #[25] }, 3, "ref.go:43", #[⟨23, .data⟩, ⟨19, .guard⟩], some (19, false)⟩) rfl ?_
    try simp only [Act.put, pA, pB, pC]
    refine skH 25 (oi := ⟨some 32, .move (.tmp 0), 38, "ref.go:43", #[⟨19, .guard⟩], some (19, false)⟩) rfl ?_
    try simp only [Act.put, pA, pB, pC]
    refine skH 26 (oi := ⟨some 33, .nilCheck (.tmp 32), 0, "ref.go:43", #[⟨25, .data⟩, ⟨19, .guard⟩], some (19, false)⟩) rfl ?_
    try simp only [Act.put, pA, pB, pC]
    refine skH 27 (oi := ⟨some 34, .fieldAddr 52 (.tmp 33) 1, 0, "ref.go:43", #[⟨26, .data⟩, ⟨19, .guard⟩], some (19, false)⟩) rfl ?_
    try simp only [Act.put, pA, pB, pC]
    refine skH 28 (oi := ⟨some 35, .fieldAddr 23 (.tmp 34) 1, 0, "ref.go:43", #[⟨27, .data⟩, ⟨19, .guard⟩], some (19, false)⟩) rfl ?_
    try simp only [Act.put, pA, pB, pC]
    refine skH 29 (oi := ⟨some 36, .load 3 (.tmp 35), 3, "ref.go:43", #[⟨28, .data⟩, ⟨19, .guard⟩], some (19, false)⟩) rfl ?_
    try simp only [Act.put, pA, pB, pC]
    refine skH 30 (oi := ⟨some 37, .binOp .gtr 3 (.tmp 31) (.tmp 36) 3, 4, "ref.go:43", #[⟨24, .data⟩, ⟨29, .data⟩, ⟨19, .guard⟩], some (19, false)⟩) rfl ?_
    try simp only [Act.put, pA, pB, pC]
    refine tkQ 31 (oi := ⟨some 38, .pick (.tmp 26) (.const (.bool true)) (.tmp 37), 4, "ref.go:43", #[⟨19, .data⟩, ⟨30, .data⟩], none⟩) rfl ?_
    try simp only [Act.put, pA, pB, pC]
    refine wpAnyH_done (by kernel_rfl) ?_ _
    go_wp2
    go_ret
    exact MgP.no rfl (HW.out) (grown_drew w none)
  have fn1 : decide (nI < 1) = false := decide_eq_false hn1
  by_cases ht0 : t < 0
  · have ft1 : decide (t < 0) = true := decide_eq_true ht0
    have HW := hide (HNo.out (fun x => by omega))
    clear HYs HNj HNl
    go_enter Tryz.func19, Tryz.ntmps19
    go_wp2
    refine wp_region_held_drew (S := (fun W => W.cell? ⟨d, 2, none⟩ = some (.int .i64 (b : Int)) ∧ W.cell? ⟨d, 4, none⟩ = some (.slice ao X.length cap) ∧ W.cell? ⟨d, 5, none⟩ = some (.int .u32 nI) ∧ W.cell? ⟨d, 6, none⟩ = some (.int .i64 t))) (by kernel_rfl) ?_ (fun hHeld => ?_)
    · (exact ⟨c2, c4, c5, c6⟩)
    refine tkQ 0 (oi := ⟨some 7, .move (.tmp 0), 38, "ref.go:43", #[], none⟩) rfl ?_
    try simp only [Act.put, pA, pB, pC]
    refine tkQ 1 (oi := ⟨some 8, .nilCheck (.tmp 7), 0, "ref.go:43", #[⟨0, .data⟩], none⟩) rfl ?_
    try simp only [Act.put, pA, pB, pC]
    refine tkQ 2 (oi := ⟨some 9, .fieldAddr 52 (.tmp 8) 3, 0, "ref.go:43", #[⟨1, .data⟩], none⟩) rfl ?_
    try simp only [Act.put, pA, pB, pC]
    refine tkQ 3 (oi := ⟨some 10, .load 24 (.tmp 9), 24, "ref.go:43", #[⟨2, .data⟩], none⟩) rfl ?_
    try simp only [Act.put, pA, pB, pC]
    refine tkQ 4 (oi := ⟨some 11, .binOp .lss 24 (.tmp 10) (.const (.int .u32 1)) 24, 4, "ref.go:43", #[⟨3, .data⟩], none⟩) rfl ?_
    try simp only [Act.put, pA, pB, pC]
    refine tkQ 5 (oi := ⟨some 12, .move (.tmp 11), 4, "ref.go:43", #[⟨4, .data⟩], none⟩) rfl ?_
    try simp only [Act.put, pA, pB, pC]
    refine tkQ 6 (oi := ⟨some 13, .move (.tmp 0), 38, "ref.go:43", #[⟨5, .guard⟩], some (5, false)⟩) rfl ?_
    try simp only [Act.put, pA, pB, pC]
    refine tkQ 7 (oi := ⟨some 14, .nilCheck (.tmp 13), 0, "ref.go:43", #[⟨6, .data⟩, ⟨5, .guard⟩], some (5, false)⟩) rfl ?_
    try simp only [Act.put, pA, pB, pC]
    refine tkQ 8 (oi := ⟨some 15, .fieldAddr 52 (.tmp 14) 4, 0, "ref.go:43", #[⟨7, .data⟩, ⟨5, .guard⟩], some (5, false)⟩) rfl ?_
    try simp only [Act.put, pA, pB, pC]
    refine tkQ 9 (oi := ⟨some 16, .load 2 (.tmp 15), 2, "ref.go:43", #[⟨8, .data⟩, ⟨5, .guard⟩], some (5, false)⟩) rfl ?_
    try simp only [Act.put, pA, pB, pC]
    refine tkQ 10 (oi := ⟨some 17, .binOp .lss 2 (.tmp 16) (.const (.int .i64 0)) 2, 4, "ref.go:43", #[⟨9, .data⟩, ⟨5, .guard⟩], some (5, false)⟩) rfl ?_
    try simp only [Act.put, pA, pB, pC]
    refine tkQ 11 (oi := ⟨some 18, .pick (.tmp 12) (.const (.bool true)) (.tmp 17), 4, "ref.go:43", #[⟨5, .data⟩, ⟨10, .data⟩], none⟩) rfl ?_
    try simp only [Act.put, pA, pB, pC]
    refine tkQ 12 (oi := ⟨some 19, .move (.tmp 18), 4, "ref.go:43", #[⟨11, .data⟩, ⟨5, .chain⟩], none⟩) rfl ?_
    try simp only [Act.put, pA, pB, pC]
    refine skH 13 (oi := ⟨some 20, .move (.tmp 0), 38, "ref.go:43", #[⟨12, .guard⟩], some (12, false)⟩) rfl ?_
    try simp only [Act.put, pA, pB, pC]
    refine skH 14 (oi := ⟨some 21, .nilCheck (.tmp 20), 0, "ref.go:43", #[⟨13, .data⟩, ⟨12, .guard⟩], some (12, false)⟩) rfl ?_
    try simp only [Act.put, pA, pB, pC]
    refine skH 15 (oi := ⟨some 22, .fieldAddr 52 (.tmp 21) 4, 0, "ref.go:43", #[⟨14, .data⟩, ⟨12, .guard⟩], some (12, false)⟩) rfl ?_
    try simp only [Act.put, pA, pB, pC]
    refine skH 16 (oi := ⟨some 23, .load 2 (.tmp 22), 2, "ref.go:43", #[⟨15, .data⟩, ⟨12, .guard⟩], some (12, false)⟩) rfl ?_
    try simp only [Act.put, pA, pB, pC]
    refine skH 17 (oi := ⟨some 24, .binOp .gtr 2 (.tmp 23) (.const (.int .i64 1099511627776)) 2, 4, "ref.go:43", #[⟨16, .data⟩, ⟨12, .guard⟩], some (12, false)⟩) rfl ?_
    try simp only [Act.put, pA, pB, pC]
    refine tkQ 18 (oi := ⟨some 25, .pick (.tmp 19) (.const (.bool true)) (.tmp 24), 4, "ref.go:43", #[⟨12, .data⟩, ⟨17, .data⟩], none⟩) rfl ?_
    try simp only [Act.put, pA, pB, pC]
    refine tkQ 19 (oi := ⟨some 26, .move (.tmp 25), 4, "ref.go:43", #[⟨18, .data⟩, ⟨12, .chain⟩], none⟩) rfl ?_
    try simp only [Act.put, pA, pB, pC]
    refine skH 20 (oi := ⟨some 27, .move (.tmp 0), 38, "ref.go:43", #[⟨19, .guard⟩], some (19, false)⟩) rfl ?_
    try simp only [Act.put, pA, pB, pC]
    refine skH 21 (oi := ⟨some 28, .nilCheck (.tmp 27), 0, "ref.go:43", #[⟨20, .data⟩, ⟨19, .guard⟩], some (19, false)⟩) rfl ?_
    try simp only [Act.put, pA, pB, pC]
    refine skH 22 (oi := ⟨some 29, .fieldAddr 52 (.tmp 28) 2, 0, "ref.go:43", #[⟨21, .data⟩, ⟨19, .guard⟩], some (19, false)⟩) rfl ?_
    try simp only [Act.put, pA, pB, pC]
    refine skH 23 (oi := ⟨some 30, .load 25 (.tmp 29), 25, "ref.go:43", #[⟨22, .data⟩, ⟨19, .guard⟩], some (19, false)⟩) rfl ?_
    try simp only [Act.put, pA, pB, pC]
    refine skH 24 (oi := ⟨some 31, .call { callee := .builtin .len, args := #[.tmp 30], argTypes := #[25] }, 3, "ref.go:43", #[⟨23, .data⟩, ⟨19, .guard⟩], some (19, false)⟩) rfl ?_
    try simp only [Act.put, pA, pB, pC]
    refine skH 25 (oi := ⟨some 32, .move (.tmp 0), 38, "ref.go:43", #[⟨19, .guard⟩], some (19, false)⟩) rfl ?_
    try simp only [Act.put, pA, pB, pC]
    refine skH 26 (oi := ⟨some 33, .nilCheck (.tmp 32), 0, "ref.go:43", #[⟨25, .data⟩, ⟨19, .guard⟩], some (19, false)⟩) rfl ?_
    try simp only [Act.put, pA, pB, pC]
    refine skH 27 (oi := ⟨some 34, .fieldAddr 52 (.tmp 33) 1, 0, "ref.go:43", #[⟨26, .data⟩, ⟨19, .guard⟩], some (19, false)⟩) rfl ?_
    try simp only [Act.put, pA, pB, pC]
    refine skH 28 (oi := ⟨some 35, .fieldAddr 23 (.tmp 34) 1, 0, "ref.go:43", #[⟨27, .data⟩, ⟨19, .guard⟩], some (19, false)⟩) rfl ?_
    try simp only [Act.put, pA, pB, pC]
    refine skH 29 (oi := ⟨some 36, .load 3 (.tmp 35), 3, "ref.go:43", #[⟨28, .data⟩, ⟨19, .guard⟩], some (19, false)⟩) rfl ?_
    try simp only [Act.put, pA, pB, pC]
    refine skH 30 (oi := ⟨some 37, .binOp .gtr 3 (.tmp 31) (.tmp 36) 3, 4, "ref.go:43", #[⟨24, .data⟩, ⟨29, .data⟩, ⟨19, .guard⟩], some (19, false)⟩) rfl ?_
    try simp only [Act.put, pA, pB, pC]
    refine tkQ 31 (oi := ⟨some 38, .pick (.tmp 26) (.const (.bool true)) (.tmp 37), 4, "ref.go:43", #[⟨19, .data⟩, ⟨30, .data⟩], none⟩) rfl ?_
    try simp only [Act.put, pA, pB, pC]
    refine wpAnyH_done (by kernel_rfl) ?_ _
    go_wp2
    go_ret
    exact MgP.no rfl (HW.out) (grown_drew w none)
  have ft1 : decide (t < 0) = false := decide_eq_false ht0
  by_cases hm : (1099511627776 : Int) < t
  · have ft2 : decide ((1099511627776 : Int) < t) = true := decide_eq_true hm
    have HW := hide (HNo.out (fun x => by omega))
    clear HYs HNj HNl
    go_enter Tryz.func19, Tryz.ntmps19
    go_wp2
    refine wp_region_held_drew (S := (fun W => W.cell? ⟨d, 2, none⟩ = some (.int .i64 (b : Int)) ∧ W.cell? ⟨d, 4, none⟩ = some (.slice ao X.length cap) ∧ W.cell? ⟨d, 5, none⟩ = some (.int .u32 nI) ∧ W.cell? ⟨d, 6, none⟩ = some (.int .i64 t))) (by kernel_rfl) ?_ (fun hHeld => ?_)
    · (exact ⟨c2, c4, c5, c6⟩)
    refine tkQ 0 (oi := ⟨some 7, .move (.tmp 0), 38, "ref.go:43", #[], none⟩) rfl ?_
    try simp only [Act.put, pA, pB, pC]
    refine tkQ 1 (oi := ⟨some 8, .nilCheck (.tmp 7), 0, "ref.go:43", #[⟨0, .data⟩], none⟩) rfl ?_
    try simp only [Act.put, pA, pB, pC]
    refine tkQ 2 (oi := ⟨some 9, .fieldAddr 52 (.tmp 8) 3, 0, "ref.go:43", #[⟨1, .data⟩], none⟩) rfl ?_
    try simp only [Act.put, pA, pB, pC]
    refine tkQ 3 (oi := ⟨some 10, .load 24 (.tmp 9), 24, "ref.go:43", #[⟨2, .data⟩], none⟩) rfl ?_
    try simp only [Act.put, pA, pB, pC]
    refine tkQ 4 (oi := ⟨some 11, .binOp .lss 24 (.tmp 10) (.const (.int .u32 1)) 24, 4, "ref.go:43", #[⟨3, .data⟩], none⟩) rfl ?_
    try simp only [Act.put, pA, pB, pC]
    refine tkQ 5 (oi := ⟨some 12, .move (.tmp 11), 4, "ref.go:43", #[⟨4, .data⟩], none⟩) rfl ?_
    try simp only [Act.put, pA, pB, pC]
    refine tkQ 6 (oi := ⟨some 13, .move (.tmp 0), 38, "ref.go:43", #[⟨5, .guard⟩], some (5, false)⟩) rfl ?_
    try simp only [Act.put, pA, pB, pC]
    refine tkQ 7 (oi := ⟨some 14, .nilCheck (.tmp 13), 0, "ref.go:43", #[⟨6, .data⟩, ⟨5, .guard⟩], some (5, false)⟩) rfl ?_
    try simp only [Act.put, pA, pB, pC]
    refine tkQ 8 (oi := ⟨some 15, .fieldAddr 52 (.tmp 14) 4, 0, "ref.go:43", #[⟨7, .data⟩, ⟨5, .guard⟩], some (5, false)⟩) rfl ?_
    try simp only [Act.put, pA, pB, pC]
    refine tkQ 9 (oi := ⟨some 16, .load 2 (.tmp 15), 2, "ref.go:43", #[⟨8, .data⟩, ⟨5, .guard⟩], some (5, false)⟩) rfl ?_
    try simp only [Act.put, pA, pB, pC]
    refine tkQ 10 (oi := ⟨some 17, .binOp .lss 2 (.tmp 16) (.const (.int .i64 0)) 2, 4, "ref.go:43", #[⟨9, .data⟩, ⟨5, .guard⟩], some (5, false)⟩) rfl ?_
    try simp only [Act.put, pA, pB, pC]
    refine tkQ 11 (oi := ⟨some 18, .pick (.tmp 12) (.const (.bool true)) (.tmp 17), 4, "ref.go:43", #[⟨5, .data⟩, ⟨10, .data⟩], none⟩) rfl ?_
    try simp only [Act.put, pA, pB, pC]
    refine tkQ 12 (oi := ⟨some 19, .move (.tmp 18), 4, "ref.go:43", #[⟨11, .data⟩, ⟨5, .chain⟩], none⟩) rfl ?_
    try simp only [Act.put, pA, pB, pC]
    refine tkQ 13 (oi := ⟨some 20, .move (.tmp 0), 38, "ref.go:43", #[⟨12, .guard⟩], some (12, false)⟩) rfl ?_
    try simp only [Act.put, pA, pB, pC]
    refine tkQ 14 (oi := ⟨some 21, .nilCheck (.tmp 20), 0, "ref.go:43", #[⟨13, .data⟩, ⟨12, .guard⟩], some (12, false)⟩) rfl ?_
    try simp only [Act.put, pA, pB, pC]
    refine tkQ 15 (oi := ⟨some 22, .fieldAddr 52 (.tmp 21) 4, 0, "ref.go:43", #[⟨14, .data⟩, ⟨12, .guard⟩], some (12, false)⟩) rfl ?_
    try simp only [Act.put, pA, pB, pC]
    refine tkQ 16 (oi := ⟨some 23, .load 2 (.tmp 22), 2, "ref.go:43", #[⟨15, .data⟩, ⟨12, .guard⟩], some (12, false)⟩) rfl ?_
    try simp only [Act.put, pA, pB, pC]
    refine tkQ 17 (oi := ⟨some 24, .binOp .gtr 2 (.tmp 23) (.const (.int .i64 1099511627776)) 2, 4, "ref.go:43", #[⟨16, .data⟩, ⟨12, .guard⟩], some (12, false)⟩) rfl ?_
    try simp only [Act.put, pA, pB, pC]
    refine tkQ 18 (oi := ⟨some 25, .pick (.tmp 19) (.const (.bool true)) (.tmp 24), 4, "ref.go:43", #[⟨12, .data⟩, ⟨17, .data⟩], none⟩) rfl ?_
    try simp only [Act.put, pA, pB, pC]
    refine tkQ 19 (oi := ⟨some 26, .move (.tmp 25), 4, "ref.go:43", #[⟨18, .data⟩, ⟨12, .chain⟩], none⟩) rfl ?_
    try simp only [Act.put, pA, pB, pC]
    refine skH 20 (oi := ⟨some 27, .move (.tmp 0), 38, "ref.go:43", #[⟨19, .guard⟩], some (19, false)⟩) rfl ?_
    try simp only [Act.put, pA, pB, pC]
    refine skH 21 (oi := ⟨some 28, .nilCheck (.tmp 27), 0, "ref.go:43", #[⟨20, .data⟩, ⟨19, .guard⟩], some (19, false)⟩) rfl ?_
    try simp only [Act.put, pA, pB, pC]
    refine skH 22 (oi := ⟨some 29, .fieldAddr 52 (.tmp 28) 2, 0, "ref.go:43", #[⟨21, .data⟩, ⟨19, .guard⟩], some (19, false)⟩) rfl ?_
    try simp only [Act.put, pA, pB, pC]
    refine skH 23 (oi := ⟨some 30, .load 25 (.tmp 29), 25, "ref.go:43", #[⟨22, .data⟩, ⟨19, .guard⟩], some (19, false)⟩) rfl ?_
    try simp only [Act.put, pA, pB, pC]
    refine skH 24 (oi := ⟨some 31, .call { callee := .builtin .len, args := #[.tmp 30], argTypes := #[25] }, 3, "ref.go:43", #[⟨23, .data⟩, ⟨19, .guard⟩], some (19, false)⟩) rfl ?_
    try simp only [Act.put, pA, pB, pC]
    refine skH 25 (oi := ⟨some 32, .move (.tmp 0), 38, "ref.go:43", #[⟨19, .guard⟩], some (19, false)⟩) rfl ?_
    try simp only [Act.put, pA, pB, pC]
    refine skH 26 (oi := ⟨some 33, .nilCheck (.tmp 32), 0, "ref.go:43", #[⟨25, .data⟩, ⟨19, .guard⟩], some (19, false)⟩) rfl ?_
    try simp only [Act.put, pA, pB, pC]
    refine skH 27 (oi := ⟨some 34, .fieldAddr 52 (.tmp 33) 1, 0, "ref.go:43", #[⟨26, .data⟩, ⟨19, .guard⟩], some (19, false)⟩) rfl ?_
    try simp only [Act.put, pA, pB, pC]
    refine skH 28 (oi := ⟨some 35, .fieldAddr 23 (.tmp 34) 1, 0, "ref.go:43", #[⟨27, .data⟩, ⟨19, .guard⟩], some (19, false)⟩) rfl ?_
    try simp only [Act.put, pA, pB, pC]
    refine skH 29 (oi := ⟨some 36, .load 3 (.tmp 35), 3, "ref.go:43", #[⟨28, .data⟩, ⟨19, .guard⟩], some (19, false)⟩) rfl ?_
    try simp only [Act.put, pA, pB, pC]
    refine skH 30 (oi := ⟨some 37, .binOp .gtr 3 (.tmp 31) (.tmp 36) 3, 4, "ref.go:43", #[⟨24, .data⟩, ⟨29, .data⟩, ⟨19, .guard⟩], some (19, false)⟩) rfl ?_
    try simp only [Act.put, pA, pB, pC]
    refine tkQ 31 (oi := ⟨some 38, .pick (.tmp 26) (.const (.bool true)) (.tmp 37), 4, "ref.go:43", #[⟨19, .data⟩, ⟨30, .data⟩], none⟩) rfl ?_
    try simp only [Act.put, pA, pB, pC]
    refine wpAnyH_done (by kernel_rfl) ?_ _
    go_wp2
    go_ret
    exact MgP.no rfl (HW.out) (grown_drew w none)
  have ft2 : decide ((1099511627776 : Int) < t) = false := decide_eq_false hm
  by_cases hl : b < X.length
  · have fl : decide (b < X.length) = true := decide_eq_true hl
    have fl2 : decide ((b : Int) < (X.length : Int)) = true := decide_eq_true (by omega)
    have HW := hide (HNl.out hl)
    clear HYs HNj
    go_enter Tryz.func19, Tryz.ntmps19
    go_wp2
    refine wp_region_held_drew (S := (fun W => W.cell? ⟨d, 2, none⟩ = some (.int .i64 (b : Int)) ∧ W.cell? ⟨d, 4, none⟩ = some (.slice ao X.length cap) ∧ W.cell? ⟨d, 5, none⟩ = some (.int .u32 nI) ∧ W.cell? ⟨d, 6, none⟩ = some (.int .i64 t))) (by kernel_rfl) ?_ (fun hHeld => ?_)
    · (exact ⟨c2, c4, c5, c6⟩)
    refine tkQ 0 (oi := ⟨some 7, .move (.tmp 0), 38, "ref.go:43", #[], none⟩) rfl ?_
    try simp only [Act.put, pA, pB, pC]
    refine tkQ 1 (oi := ⟨some 8, .nilCheck (.tmp 7), 0, "ref.go:43", #[⟨0, .data⟩], none⟩) rfl ?_
    try simp only [Act.put, pA, pB, pC]
    refine tkQ 2 (oi := ⟨some 9, .fieldAddr 52 (.tmp 8) 3, 0, "ref.go:43", #[⟨1, .data⟩], none⟩) rfl ?_
    try simp only [Act.put, pA, pB, pC]
    refine tkQ 3 (oi := ⟨some 10, .load 24 (.tmp 9), 24, "ref.go:43", #[⟨2, .data⟩], none⟩) rfl ?_
    try simp only [Act.put, pA, pB, pC]
    refine tkQ 4 (oi := ⟨some 11, .binOp .lss 24 (.tmp 10) (.const (.int .u32 1)) 24, 4, "ref.go:43", #[⟨3, .data⟩], none⟩) rfl ?_
    try simp only [Act.put, pA, pB, pC]
    refine tkQ 5 (oi := ⟨some 12, .move (.tmp 11), 4, "ref.go:43", #[⟨4, .data⟩], none⟩) rfl ?_
    try simp only [Act.put, pA, pB, pC]
    refine tkQ 6 (oi := ⟨some 13, .move (.tmp 0), 38, "ref.go:43", #[⟨5, .guard⟩], some (5, false)⟩) rfl ?_
    try simp only [Act.put, pA, pB, pC]
    refine tkQ 7 (oi := ⟨some 14, .nilCheck (.tmp 13), 0, "ref.go:43", #[⟨6, .data⟩, ⟨5, .guard⟩], some (5, false)⟩) rfl ?_
    try simp only [Act.put, pA, pB, pC]
    refine tkQ 8 (oi := ⟨some 15, .fieldAddr 52 (.tmp 14) 4, 0, "ref.go:43", #[⟨7, .data⟩, ⟨5, .guard⟩], some (5, false)⟩) rfl ?_
    try simp only [Act.put, pA, pB, pC]
    refine tkQ 9 (oi := ⟨some 16, .load 2 (.tmp 15), 2, "ref.go:43", #[⟨8, .data⟩, ⟨5, .guard⟩], some (5, false)⟩) rfl ?_
    try simp only [Act.put, pA, pB, pC]
    refine tkQ 10 (oi := ⟨some 17, .binOp .lss 2 (.tmp 16) (.const (.int .i64 0)) 2, 4, "ref.go:43", #[⟨9, .data⟩, ⟨5, .guard⟩], some (5, false)⟩) rfl ?_
    try simp only [Act.put, pA, pB, pC]
    refine tkQ 11 (oi := ⟨some 18, .pick (.tmp 12) (.const (.bool true)) (.tmp 17), 4, "ref.go:43", #[⟨5, .data⟩, ⟨10, .data⟩], none⟩) rfl ?_
    try simp only [Act.put, pA, pB, pC]
    refine tkQ 12 (oi := ⟨some 19, .move (.tmp 18), 4, "ref.go:43", #[⟨11, .data⟩, ⟨5, .chain⟩], none⟩) rfl ?_
    try simp only [Act.put, pA, pB, pC]
    refine tkQ 13 (oi := ⟨some 20, .move (.tmp 0), 38, "ref.go:43", #[⟨12, .guard⟩], some (12, false)⟩) rfl ?_
    try simp only [Act.put, pA, pB, pC]
    refine tkQ 14 (oi := ⟨some 21, .nilCheck (.tmp 20), 0, "ref.go:43", #[⟨13, .data⟩, ⟨12, .guard⟩], some (12, false)⟩) rfl ?_
    try simp only [Act.put, pA, pB, pC]
    refine tkQ 15 (oi := ⟨some 22, .fieldAddr 52 (.tmp 21) 4, 0, "ref.go:43", #[⟨14, .data⟩, ⟨12, .guard⟩], some (12, false)⟩) rfl ?_
    try simp only [Act.put, pA, pB, pC]
    refine tkQ 16 (oi := ⟨some 23, .load 2 (.tmp 22), 2, "ref.go:43", #[⟨15, .data⟩, ⟨12, .guard⟩], some (12, false)⟩) rfl ?_
    try simp only [Act.put, pA, pB, pC]
    refine tkQ 17 (oi := ⟨some 24, .binOp .gtr 2 (.tmp 23) (.const (.int .i64 1099511627776)) 2, 4, "ref.go:43", #[⟨16, .data⟩, ⟨12, .guard⟩], some (12, false)⟩) rfl ?_
    try simp only [Act.put, pA, pB, pC]
    refine tkQ 18 (oi := ⟨some 25, .pick (.tmp 19) (.const (.bool true)) (.tmp 24), 4, "ref.go:43", #[⟨12, .data⟩, ⟨17, .data⟩], none⟩) rfl ?_
    try simp only [Act.put, pA, pB, pC]
    refine tkQ 19 (oi := ⟨some 26, .move (.tmp 25), 4, "ref.go:43", #[⟨18, .data⟩, ⟨12, .chain⟩], none⟩) rfl ?_
    try simp only [Act.put, pA, pB, pC]
    refine tkQ 20 (oi := ⟨some 27, .move (.tmp 0), 38, "ref.go:43", #[⟨19, .guard⟩], some (19, false)⟩) rfl ?_
    try simp only [Act.put, pA, pB, pC]
    refine tkQ 21 (oi := ⟨some 28, .nilCheck (.tmp 27), 0, "ref.go:43", #[⟨20, .data⟩, ⟨19, .guard⟩], some (19, false)⟩) rfl ?_
    try simp only [Act.put, pA, pB, pC]
    refine tkQ 22 (oi := ⟨some 29, .fieldAddr 52 (.tmp 28) 2, 0, "ref.go:43", #[⟨21, .data⟩, ⟨19, .guard⟩], some (19, false)⟩) rfl ?_
    try simp only [Act.put, pA, pB, pC]
    refine tkQ 23 (oi := ⟨some 30, .load 25 (.tmp 29), 25, "ref.go:43", #[⟨22, .data⟩, ⟨19, .guard⟩], some (19, false)⟩) rfl ?_
    try simp only [Act.put, pA, pB, pC]
    refine tkQ 24 (oi := ⟨some 31, .call { callee := .builtin .len, args := #[.tmp 30], argTypes := #[25] }, 3, "ref.go:43", #[⟨23, .data⟩, ⟨19, .guard⟩], some (19, false)⟩) rfl ?_
    try simp only [Act.put, pA, pB, pC]
    refine tkQ 25 (oi := ⟨some 32, .move (.tmp 0), 38, "ref.go:43", #[⟨19, .guard⟩], some (19, false)⟩) rfl ?_
    try simp only [Act.put, pA, pB, pC]
    refine tkQ 26 (oi := ⟨some 33, .nilCheck (.tmp 32), 0, "ref.go:43", #[⟨25, .data⟩, ⟨19, .guard⟩], some (19, false)⟩) rfl ?_
    try simp only [Act.put, pA, pB, pC]
    refine tkQ 27 (oi := ⟨some 34, .fieldAddr 52 (.tmp 33) 1, 0, "ref.go:43", #[⟨26, .data⟩, ⟨19, .guard⟩], some (19, false)⟩) rfl ?_
    try simp only [Act.put, pA, pB, pC]
    refine tkQ 28 (oi := ⟨some 35, .fieldAddr 23 (.tmp 34) 1, 0, "ref.go:43", #[⟨27, .data⟩, ⟨19, .guard⟩], some (19, false)⟩) rfl ?_
    try simp only [Act.put, pA, pB, pC]
    refine tkQ 29 (oi := ⟨some 36, .load 3 (.tmp 35), 3, "ref.go:43", #[⟨28, .data⟩, ⟨19, .guard⟩], some (19, false)⟩) rfl ?_
    try simp only [Act.put, pA, pB, pC]
    refine tkQ 30 (oi := ⟨some 37, .binOp .gtr 3 (.tmp 31) (.tmp 36) 3, 4, "ref.go:43", #[⟨24, .data⟩, ⟨29, .data⟩, ⟨19, .guard⟩], some (19, false)⟩) rfl ?_
    try simp only [Act.put, pA, pB, pC]
    refine tkQ 31 (oi := ⟨some 38, .pick (.tmp 26) (.const (.bool true)) (.tmp 37), 4, "ref.go:43", #[⟨19, .data⟩, ⟨30, .data⟩], none⟩) rfl ?_
    try simp only [Act.put, pA, pB, pC]
    refine wpAnyH_done (by kernel_rfl) ?_ _
    go_wp2
    go_ret
    exact MgP.no rfl (HW.out) (grown_drew w none)
  have hl1 : X.length ≤ b := by omega
  have fl : decide (b < X.length) = false := decide_eq_false hl
  have fl2 : decide ((b : Int) < (X.length : Int)) = false := by rw [decide_eq_false_iff_not]; omega
  have HYs2 := hide (HYs.out (by have := HNI.out; omega) (by omega) (by omega))
  have HLb := hide hl1
  have HLt : Hid (∀ i, dbo d (.slice ao X.length cap) i → i < w.heap.size) := HD.out.lt
  have HMk := hide (fun W => make_bools a (a : Int) rfl HA.out W)
  have hmk := HMk.out
  clear hm hn1 ht0 hl HYs HNl HNo
  go_enter Tryz.func19, Tryz.ntmps19
  go_wp2
  refine wp_region_held_drew (S := (fun W => W.cell? ⟨d, 2, none⟩ = some (.int .i64 (b : Int)) ∧ W.cell? ⟨d, 4, none⟩ = some (.slice ao X.length cap) ∧ W.cell? ⟨d, 5, none⟩ = some (.int .u32 nI) ∧ W.cell? ⟨d, 6, none⟩ = some (.int .i64 t))) (by kernel_rfl) ?_ (fun hHeld => ?_)
  · (exact ⟨c2, c4, c5, c6⟩)
  refine tkQ 0 (oi := ⟨some 7, .move (.tmp 0), 38, "ref.go:43", #[], none⟩) rfl ?_
  try simp only [Act.put, pA, pB, pC]
  refine tkQ 1 (oi := ⟨some 8, .nilCheck (.tmp 7), 0, "ref.go:43", #[⟨0, .data⟩], none⟩) rfl ?_
  try simp only [Act.put, pA, pB, pC]
  refine tkQ 2 (oi := ⟨some 9, .fieldAddr 52 (.tmp 8) 3, 0, "ref.go:43", #[⟨1, .data⟩], none⟩) rfl ?_
  try simp only [Act.put, pA, pB, pC]
  refine tkQ 3 (oi := ⟨some 10, .load 24 (.tmp 9), 24, "ref.go:43", #[⟨2, .data⟩], none⟩) rfl ?_
  try simp only [Act.put, pA, pB, pC]
  refine tkQ 4 (oi := ⟨some 11, .binOp .lss 24 (.tmp 10) (.const (.int .u32 1)) 24, 4, "ref.go:43", #[⟨3, .data⟩], none⟩) rfl ?_
  try simp only [Act.put, pA, pB, pC]
  refine tkQ 5 (oi := ⟨some 12, .move (.tmp 11), 4, "ref.go:43", #[⟨4, .data⟩], none⟩) rfl ?_
  try simp only [Act.put, pA, pB, pC]
  refine tkQ 6 (oi := ⟨some 13, .move (.tmp 0), 38, "ref.go:43", #[⟨5, .guard⟩], some (5, false)⟩) rfl ?_
  try simp only [Act.put, pA, pB, pC]
  refine tkQ 7 (oi := ⟨some 14, .nilCheck (.tmp 13), 0, "ref.go:43", #[⟨6, .data⟩, ⟨5, .guard⟩], some (5, false)⟩) rfl ?_
  try simp only [Act.put, pA, pB, pC]
  refine tkQ 8 (oi := ⟨some 15, .fieldAddr 52 (.tmp 14) 4, 0, "ref.go:43", #[⟨7, .data⟩, ⟨5, .guard⟩], some (5, false)⟩) rfl ?_
  try simp only [Act.put, pA, pB, pC]
  refine tkQ 9 (oi := ⟨some 16, .load 2 (.tmp 15), 2, "ref.go:43", #[⟨8, .data⟩, ⟨5, .guard⟩], some (5, false)⟩) rfl ?_
  try simp only [Act.put, pA, pB, pC]
  refine tkQ 10 (oi := ⟨some 17, .binOp .lss 2 (.tmp 16) (.const (.int .i64 0)) 2, 4, "ref.go:43", #[⟨9, .data⟩, ⟨5, .guard⟩], some (5, false)⟩) rfl ?_
  try simp only [Act.put, pA, pB, pC]
  refine tkQ 11 (oi := ⟨some 18, .pick (.tmp 12) (.const (.bool true)) (.tmp 17), 4, "ref.go:43", #[⟨5, .data⟩, ⟨10, .data⟩], none⟩) rfl ?_
  try simp only [Act.put, pA, pB, pC]
  refine tkQ 12 (oi := ⟨some 19, .move (.tmp 18), 4, "ref.go:43", #[⟨11, .data⟩, ⟨5, .chain⟩], none⟩) rfl ?_
  try simp only [Act.put, pA, pB, pC]
  refine tkQ 13 (oi := ⟨some 20, .move (.tmp 0), 38, "ref.go:43", #[⟨12, .guard⟩], some (12, false)⟩) rfl ?_
  try simp only [Act.put, pA, pB, pC]
  refine tkQ 14 (oi := ⟨some 21, .nilCheck (.tmp 20), 0, "ref.go:43", #[⟨13, .data⟩, ⟨12, .guard⟩], some (12, false)⟩) rfl ?_
  try simp only [Act.put, pA, pB, pC]
  refine tkQ 15 (oi := ⟨some 22, .fieldAddr 52 (.tmp 21) 4, 0, "ref.go:43", #[⟨14, .data⟩, ⟨12, .guard⟩], some (12, false)⟩) rfl ?_
  try simp only [Act.put, pA, pB, pC]
  refine tkQ 16 (oi := ⟨some 23, .load 2 (.tmp 22), 2, "ref.go:43", #[⟨15, .data⟩, ⟨12, .guard⟩], some (12, false)⟩) rfl ?_
  try simp only [Act.put, pA, pB, pC]
  refine tkQ 17 (oi := ⟨some 24, .binOp .gtr 2 (.tmp 23) (.const (.int .i64 1099511627776)) 2, 4, "ref.go:43", #[⟨16, .data⟩, ⟨12, .guard⟩], some (12, false)⟩) rfl ?_
  try simp only [Act.put, pA, pB, pC]
  refine tkQ 18 (oi := ⟨some 25, .pick (.tmp 19) (.const (.bool true)) (.tmp 24), 4, "ref.go:43", #[⟨12, .data⟩, ⟨17, .data⟩], none⟩) rfl ?_
  try simp only [Act.put, pA, pB, pC]
  refine tkQ 19 (oi := ⟨some 26, .move (.tmp 25), 4, "ref.go:43", #[⟨18, .data⟩, ⟨12, .chain⟩], none⟩) rfl ?_
  try simp only [Act.put, pA, pB, pC]
  refine tkQ 20 (oi := ⟨some 27, .move (.tmp 0), 38, "ref.go:43", #[⟨19, .guard⟩], some (19, false)⟩) rfl ?_
  try simp only [Act.put, pA, pB, pC]
  refine tkQ 21 (oi := ⟨some 28, .nilCheck (.tmp 27), 0, "ref.go:43", #[⟨20, .data⟩, ⟨19, .guard⟩], some (19, false)⟩) rfl ?_
  try simp only [Act.put, pA, pB, pC]
  refine tkQ 22 (oi := ⟨some 29, .fieldAddr 52 (.tmp 28) 2, 0, "ref.go:43", #[⟨21, .data⟩, ⟨19, .guard⟩], some (19, false)⟩) rfl ?_
  try simp only [Act.put, pA, pB, pC]
  refine tkQ 23 (oi := ⟨some 30, .load 25 (.tmp 29), 25, "ref.go:43", #[⟨22, .data⟩, ⟨19, .guard⟩], some (19, false)⟩) rfl ?_
  try simp only [Act.put, pA, pB, pC]
  refine tkQ 24 (oi := ⟨some 31, .call { callee := .builtin .len, args := #[.tmp 30], argTypes := #[25] }, 3, "ref.go:43", #[⟨23, .data⟩, ⟨19, .guard⟩], some (19, false)⟩) rfl ?_
  try simp only [Act.put, pA, pB, pC]
  refine tkQ 25 (oi := ⟨some 32, .move (.tmp 0), 38, "ref.go:43", #[⟨19, .guard⟩], some (19, false)⟩) rfl ?_
  try simp only [Act.put, pA, pB, pC]
  refine tkQ 26 (oi := ⟨some 33, .nilCheck (.tmp 32), 0, "ref.go:43", #[⟨25, .data⟩, ⟨19, .guard⟩], some (19, false)⟩) rfl ?_
  try simp only [Act.put, pA, pB, pC]
  refine tkQ 27 (oi := ⟨some 34, .fieldAddr 52 (.tmp 33) 1, 0, "ref.go:43", #[⟨26, .data⟩, ⟨19, .guard⟩], some (19, false)⟩) rfl ?_
  try simp only [Act.put, pA, pB, pC]
  refine tkQ 28 (oi := ⟨some 35, .fieldAddr 23 (.tmp 34) 1, 0, "ref.go:43", #[⟨27, .data⟩, ⟨19, .guard⟩], some (19, false)⟩) rfl ?_
  try simp only [Act.put, pA, pB, pC]
  refine tkQ 29 (oi := ⟨some 36, .load 3 (.tmp 35), 3, "ref.go:43", #[⟨28, .data⟩, ⟨19, .guard⟩], some (19, false)⟩) rfl ?_
  try simp only [Act.put, pA, pB, pC]
  refine tkQ 30 (oi := ⟨some 37, .binOp .gtr 3 (.tmp 31) (.tmp 36) 3, 4, "ref.go:43", #[⟨24, .data⟩, ⟨29, .data⟩, ⟨19, .guard⟩], some (19, false)⟩) rfl ?_
  try simp only [Act.put, pA, pB, pC]
  refine tkQ 31 (oi := ⟨some 38, .pick (.tmp 26) (.const (.bool true)) (.tmp 37), 4, "ref.go:43", #[⟨19, .data⟩, ⟨30, .data⟩], none⟩) rfl ?_
  try simp only [Act.put, pA, pB, pC]
  refine wpAnyH_done (by kernel_rfl) ?_ _
  have HD1 := hide (HD.out.then (grown_drew w none))
  have HG1 := hide (grown_drew w none)
  clear HD c1 c2 c4 c5 c6 hHeld
  generalize World.drew w = w1 at *
  have c1 := HD1.out.cell 1 _ rfl
  go_wp2
  have HM0 : Hid (Mg w (w1.alloc (.cells (List.replicate a (Value.bool false)).toArray 4)) lo d (.slice ao X.length cap) a b c n t X w1.heap.size 0 (List.replicate a (Value.bool false))) := ⟨HD1.out.then (grown_alloc w1 _), gn_alloc HG1.out _, heap_alloc_new w1 _, List.length_replicate, HG1.out.size, (fun m hm => by omega), (fun m hm => by omega), fun s hs _ => by rw [List.getElem?_replicate, if_pos hs]⟩
  clear HD1 HG1 c1 hmk HMk
  simp only [List.toArray_replicate] at HM0
  generalize hsb : w1.heap.size = sb at *
  clear hsb
  generalize World.alloc w1 _ = w2 at *
  generalize hnx : X.length = nx at *
  have HNX := hide hnx
  have hnxb : nx ≤ 65536 := HL.out
  clear hnx HL hX
  go_loopg [3, 5] nx (fun k q3 q5 wr => ∃ (j l : Nat) (bs : List Value), k + j = nx ∧ q5 = .int .i64 (j : Int) ∧ q3 = .int .u32 (l : Int) ∧ Hid (l + 1 = lst X j) ∧ Hid (Mg w wr lo d (.slice ao nx cap) a b c n t X sb j bs))
  case atStart => exact ⟨0, 0, _, by omega, rfl, rfl, rfl, HM0.out⟩
  case round =>
    obtain ⟨j, l, bs, hkj, rfl, rfl, HF, HM⟩ := hrel
    obtain ⟨c1, c2, c4, c5, c6⟩ := HM.out.ff
    by_cases hk : 0 < gk
    · have hj : j < X.length := by rw [HNX.out]; omega
      have h1 : (j : Int) < (nx : Int) := by omega
      have h0 : (0 : Int) ≤ (j : Int) := by omega
      obtain ⟨ao2, cap2, he2, hb⟩ := (BwA.own HM.out.db.row).ex
      rw [HNX.out] at he2
      cases he2
      obtain ⟨g, rfl, e0, e1, e2⟩ := hb j hj
      have HNo' : Hid (¬ MayJ a b n t X j → ¬ P) := HNj.out j (by omega)
      have HJ := hide hj
      have HLs : Hid (lst X (j + 1) = (rdw X j).i + 1) := lst_asc hj
      have M1 := hide (HM.out.then (grown_alloc wr (.cells [Value.int .u32 ((rdw X j).i : Int), .int .i64 (rdw X j).s, .int .i64 (rdw X j).u].toArray 78)))
      have HX1 := hide (heap_alloc_new wr (.cells [Value.int .u32 ((rdw X j).i : Int), .int .i64 (rdw X j).s, .int .i64 (rdw X j).u].toArray 78))
      have HNx : Hid (∀ W, (wr.alloc (.cells [Value.int .u32 ((rdw X j).i : Int), .int .i64 (rdw X j).s, .int .i64 (rdw X j).u].toArray 78)).grownBy W none → MayJ a b n t X j → Mg w (W.setCell ⟨sb, (rdw X j).s.toNat, none⟩ (.bool true)) lo d (.slice (some ⟨g, 0, none⟩) nx cap) a b c n t X sb (j + 1) (bs.set (rdw X j).s.toNat (.bool true))) := fun W gW hu => (M1.out.then gW).next HLt.out hu
      have HYsS : Hid (∀ W, (wr.alloc (.cells [Value.int .u32 ((rdw X j).i : Int), .int .i64 (rdw X j).s, .int .i64 (rdw X j).u].toArray 78)).grownBy W none → ∀ k, k < j → (rdw X k).s = (rdw X j).s → W.cell? ⟨sb, (rdw X j).s.toNat, none⟩ = some (.bool true)) := fun W gW k hk he => by
        rw [← he, cell_row (M1.out.then gW).row]; exact (M1.out.then gW).yes k hk
      have HNoS : Hid (∀ W, (wr.alloc (.cells [Value.int .u32 ((rdw X j).i : Int), .int .i64 (rdw X j).s, .int .i64 (rdw X j).u].toArray 78)).grownBy W none → 0 ≤ (rdw X j).s → (rdw X j).s < (a : Int) → (∀ k, k < j → (rdw X k).s ≠ (rdw X j).s) → W.cell? ⟨sb, (rdw X j).s.toNat, none⟩ = some (.bool false) ∧ W.frozen? ⟨sb, (rdw X j).s.toNat, none⟩ = false) := fun W gW h1 h2 h3 => by
        refine ⟨?_, free_row (M1.out.then gW).row _⟩
        rw [cell_row (M1.out.then gW).row]
        exact (M1.out.then gW).no _ (by omega) (fun k hk => by rw [Int.toNat_of_nonneg h1]; exact h3 k hk)
      have HMd : Hid (MayJ a b n t X j ↔ (l < (rdw X j).i ∧ (rdw X j).i < n ∧ 0 ≤ (rdw X j).s ∧ (rdw X j).s < (a : Int) ∧ (∀ k, k < j → (rdw X k).s ≠ (rdw X j).s) ∧ ((rdw X j).u = 0 ∨ (t < (rdw X j).u ∧ (rdw X j).u ≤ 1099511627776)))) := by
        have e1 := HF.out
        have e2 := HLb.out
        have e3 := HNX.out
        constructor
        · intro m; have := m.lo; exact ⟨by omega, m.hi, m.s0, m.s1, m.one, m.til⟩
        · rintro ⟨m1, m2, m3, m4, m5, m6⟩; exact ⟨by omega, m2, m3, m4, m5, by omega, m6⟩
      clear hb HF hj
      generalize hxx : rdw X j = x at *
      clear hxx
      obtain ⟨xi0, xs, xu⟩ := x
      simp only at *
      generalize hsa : (a : Int) = sa at *
      generalize hxi : ((xi0 : Nat) : Int) = xi at *
      have HXI := hide (And.intro hxi HNI.out)
      clear hxi
      go_wp2
      generalize hZ : wr.heap.size = Z at *
      have HZl : Hid (wr.heap.size = Z) := hZ
      generalize World.alloc wr _ = w3 at *
      clear hZ e0 e1 e2 c1 c2 c4 c5 c6
      have HGr := hide M1.out.gr
      have HS8 : Hid (∀ W, w3.grownBy W none → ((W.cell? ⟨Z, 0, none⟩ = some (.int .u32 xi) ∧ W.cell? ⟨Z, 1, none⟩ = some (.int .i64 xs) ∧ W.cell? ⟨Z, 2, none⟩ = some (.int .i64 xu)) ∧ W.cell? ⟨d, 1, none⟩ = some (.int .i64 sa) ∧ W.cell? ⟨d, 5, none⟩ = some (.int .u32 nI))) := fun W gW => ⟨by obtain ⟨z0, z1, z2, -⟩ := box3 (box_to HX1.out gW); exact ⟨z0, z1, z2⟩, by rw [← hsa]; exact (M1.out.then gW).db.cell 1 _ rfl, by rw [← HNI.out]; exact (M1.out.then gW).db.cell 5 _ rfl⟩
      have hK8 := HS8.out _ (grown_drew w3 none)
      by_cases hq1 : xi ≤ (l : Int)
      · have f1 : decide (xi ≤ (l : Int)) = true := decide_eq_true hq1
        have HW := hide (HNo'.out (fun m => by have h1 := (HMd.out.1 m).1; have h2 := HXI.out.1; omega))
        clear HNx HYsS HNoS HMd HNo' HX1 M1 HM HS8
        refine wp_region_held_drew (S := (fun W => (W.cell? ⟨Z, 0, none⟩ = some (.int .u32 xi) ∧ W.cell? ⟨Z, 1, none⟩ = some (.int .i64 xs) ∧ W.cell? ⟨Z, 2, none⟩ = some (.int .i64 xu)) ∧ W.cell? ⟨d, 1, none⟩ = some (.int .i64 sa) ∧ W.cell? ⟨d, 5, none⟩ = some (.int .u32 nI))) (by kernel_rfl) ?_ (fun hHeld => ?_)
        · (exact hK8)
        refine tkQ 0 (oi := ⟨some 61, .fieldAddr 78 (.tmp 6) 0, 0, "ref.go:50", #[], none⟩) rfl ?_
        try simp only [Act.put, pA, pB, pC]
        refine tkQ 1 (oi := ⟨some 62, .load 24 (.tmp 61), 24, "ref.go:50", #[⟨0, .data⟩], none⟩) rfl ?_
        try simp only [Act.put, pA, pB, pC]
        refine tkQ 2 (oi := ⟨some 63, .move (.tmp 3), 24, "ref.go:50", #[], none⟩) rfl ?_
        try simp only [Act.put, pA, pB, pC]
        refine tkQ 3 (oi := ⟨some 64, .binOp .leq 24 (.tmp 62) (.tmp 63) 24, 4, "ref.go:50", #[⟨1, .data⟩, ⟨2, .data⟩], none⟩) rfl ?_
        try simp only [Act.put, pA, pB, pC]
        refine tkQ 4 (oi := ⟨some 65, .move (.tmp 64), 4, "ref.go:50", #[⟨3, .data⟩], none⟩) rfl ?_
        try simp only [Act.put, pA, pB, pC]
        refine skH 5 (oi := ⟨some 66, .fieldAddr 78 (.tmp 6) 0, 0, "ref.go:50", #[⟨4, .guard⟩], some (4, false)⟩) rfl ?_
        try simp only [Act.put, pA, pB, pC]
        refine skH 6 (oi := ⟨some 67, .load 24 (.tmp 66), 24, "ref.go:50", #[⟨5, .data⟩, ⟨4, .guard⟩], some (4, false)⟩) rfl ?_
        try simp only [Act.put, pA, pB, pC]
        refine skH 7 (oi := ⟨some 68, .move (.tmp 0), 38, "ref.go:50", #[⟨4, .guard⟩], some (4, false)⟩) rfl ?_
        try simp only [Act.put, pA, pB, pC]
        refine skH 8 (oi := ⟨some 69, .nilCheck (.tmp 68), 0, "ref.go:50", #[⟨7, .data⟩, ⟨4, .guard⟩], some (4, false)⟩) rfl ?_
        try simp only [Act.put, pA, pB, pC]
        refine skH 9 (oi := ⟨some 70, .fieldAddr 52 (.tmp 69) 3, 0, "ref.go:50", #[⟨8, .data⟩, ⟨4, .guard⟩], some (4, false)⟩) rfl ?_
        try simp only [Act.put, pA, pB, pC]
        refine skH 10 (oi := ⟨some 71, .load 24 (.tmp 70), 24, "ref.go:50", #[⟨9, .data⟩, ⟨4, .guard⟩], some (4, false)⟩) rfl ?_
        try simp only [Act.put, pA, pB, pC]
        refine skH 11 (oi := ⟨some 72, .binOp .geq 24 (.tmp 67) (.tmp 71) 24, 4, "ref.go:50", #[⟨6, .data⟩, ⟨10, .data⟩, ⟨4, .guard⟩], some (4, false)⟩) rfl ?_
        try simp only [Act.put, pA, pB, pC]
        refine tkQ 12 (oi := ⟨some 73, .pick (.tmp 65) (.const (.bool true)) (.tmp 72), 4, "ref.go:50", #[⟨4, .data⟩, ⟨11, .data⟩], none⟩) rfl ?_
        try simp only [Act.put, pA, pB, pC]
        refine tkQ 13 (oi := ⟨some 74, .move (.tmp 73), 4, "ref.go:50", #[⟨12, .data⟩, ⟨4, .chain⟩], none⟩) rfl ?_
        try simp only [Act.put, pA, pB, pC]
        refine skH 14 (oi := ⟨some 75, .fieldAddr 78 (.tmp 6) 1, 0, "ref.go:50", #[⟨13, .guard⟩], some (13, false)⟩) rfl ?_
        try simp only [Act.put, pA, pB, pC]
        refine skH 15 (oi := ⟨some 76, .load 3 (.tmp 75), 3, "ref.go:50", #[⟨14, .data⟩, ⟨13, .guard⟩], some (13, false)⟩) rfl ?_
        try simp only [Act.put, pA, pB, pC]
        refine skH 16 (oi := ⟨some 77, .binOp .lss 3 (.tmp 76) (.const (.int .i64 0)) 3, 4, "ref.go:50", #[⟨15, .data⟩, ⟨13, .guard⟩], some (13, false)⟩) rfl ?_
        try simp only [Act.put, pA, pB, pC]
        refine tkQ 17 (oi := ⟨some 78, .pick (.tmp 74) (.const (.bool true)) (.tmp 77), 4, "ref.go:50", #[⟨13, .data⟩, ⟨16, .data⟩], none⟩) rfl ?_
        try simp only [Act.put, pA, pB, pC]
        refine tkQ 18 (oi := ⟨some 79, .move (.tmp 78), 4, "ref.go:50", #[⟨17, .data⟩, ⟨13, .chain⟩], none⟩) rfl ?_
        try simp only [Act.put, pA, pB, pC]
        refine skH 19 (oi := ⟨some 80, .fieldAddr 78 (.tmp 6) 1, 0, "ref.go:50", #[⟨18, .guard⟩], some (18, false)⟩) rfl ?_
        try simp only [Act.put, pA, pB, pC]
        refine skH 20 (oi := ⟨some 81, .load 3 (.tmp 80), 3, "ref.go:50", #[⟨19, .data⟩, ⟨18, .guard⟩], some (18, false)⟩) rfl ?_
        try simp only [Act.put, pA, pB, pC]
        refine skH 21 (oi := ⟨some 82, .move (.tmp 0), 38, "ref.go:50", #[⟨18, .guard⟩], some (18, false)⟩) rfl ?_
        try simp only [Act.put, pA, pB, pC]
        refine skH 22 (oi := ⟨some 83, .nilCheck (.tmp 82), 0, "ref.go:50", #[⟨21, .data⟩, ⟨18, .guard⟩], some (18, false)⟩) rfl ?_
        try simp only [Act.put, pA, pB, pC]
        refine skH 23 (oi := ⟨some 84, .fieldAddr 52 (.tmp 83) 1, 0, "ref.go:50", #[⟨22, .data⟩, ⟨18, .guard⟩], some (18, false)⟩) rfl ?_
        try simp only [Act.put, pA, pB, pC]
        refine skH 24 (oi := ⟨some 85, .fieldAddr 23 (.tmp 84) 0, 0, "ref.go:50", #[⟨23, .data⟩, ⟨18, .guard⟩], some (18, false)⟩) rfl ?_
        try simp only [Act.put, pA, pB, pC]
        refine skH 25 (oi := ⟨some 86, .load 3 (.tmp 85), 3, "ref.go:50", #[⟨24, .data⟩, ⟨18, .guard⟩], some (18, false)⟩) rfl ?_
        try simp only [Act.put, pA, pB, pC]
        refine skH 26 (oi := ⟨some 87, .binOp .geq 3 (.tmp 81) (.tmp 86) 3, 4, "ref.go:50", #[⟨20, .data⟩, ⟨25, .data⟩, ⟨18, .guard⟩], some (18, false)⟩) rfl ?_
        try simp only [Act.put, pA, pB, pC]
        refine tkQ 27 (oi := ⟨some 88, .pick (.tmp 79) (.const (.bool true)) (.tmp 87), 4, "ref.go:50", #[⟨18, .data⟩, ⟨26, .data⟩], none⟩) rfl ?_
        try simp only [Act.put, pA, pB, pC]
        refine tkQ 28 (oi := ⟨some 89, .move (.tmp 88), 4, "ref.go:50", #[⟨27, .data⟩, ⟨18, .chain⟩], none⟩) rfl ?_
        try simp only [Act.put, pA, pB, pC]
        refine skH 29 (oi := ⟨some 90, .move (.tmp 4), 97, "ref.go:50", #[⟨28, .guard⟩], some (28, false)⟩) rfl ?_
        try simp only [Act.put, pA, pB, pC]
        refine skH 30 (oi := ⟨some 91, .fieldAddr 78 (.tmp 6) 1, 0, "ref.go:50", #[⟨28, .guard⟩], some (28, false)⟩) rfl ?_
        try simp only [Act.put, pA, pB, pC]
        refine skH 31 (oi := ⟨some 92, .load 3 (.tmp 91), 3, "ref.go:50", #[⟨30, .data⟩, ⟨28, .guard⟩], some (28, false)⟩) rfl ?_
        try simp only [Act.put, pA, pB, pC]
        refine skH 32 (oi := ⟨some 93, .indexAddr 97 (.tmp 90) (.tmp 92), 0, "ref.go:50", #[⟨29, .data⟩, ⟨31, .data⟩, ⟨28, .guard⟩], some (28, false)⟩) rfl ?_
        try simp only [Act.put, pA, pB, pC]
        refine skH 33 (oi := ⟨some 94, .load 4 (.tmp 93), 4, "ref.go:50", #[⟨32, .data⟩, ⟨28, .guard⟩], some (28, false)⟩) rfl ?_
        try simp only [Act.put, pA, pB, pC]
        refine tkQ 34 (oi := ⟨some 95, .pick (.tmp 89) (.const (.bool true)) (.tmp 94), 4, "ref.go:50", #[⟨28, .data⟩, ⟨33, .data⟩], none⟩) rfl ?_
        try simp only [Act.put, pA, pB, pC]
        refine wpAnyH_done (by kernel_rfl) ?_ _
        go_wp2
        go_ret
        exact MgP.no rfl HW.out (grown_trans HGr.out (grown_drew _ none))
      have f1 : decide (xi ≤ (l : Int)) = false := decide_eq_false hq1
      by_cases hq2 : nI ≤ xi
      · have hxn := hq2
        have HW := hide (HNo'.out (fun m => by have h1 := (HMd.out.1 m).2.1; have h2 := HXI.out; omega))
        clear HNx HYsS HNoS HMd HNo' HX1 M1 HM HS8
        refine wp_region_held_drew (S := (fun W => (W.cell? ⟨Z, 0, none⟩ = some (.int .u32 xi) ∧ W.cell? ⟨Z, 1, none⟩ = some (.int .i64 xs) ∧ W.cell? ⟨Z, 2, none⟩ = some (.int .i64 xu)) ∧ W.cell? ⟨d, 1, none⟩ = some (.int .i64 sa) ∧ W.cell? ⟨d, 5, none⟩ = some (.int .u32 nI))) (by kernel_rfl) ?_ (fun hHeld => ?_)
        · (exact hK8)
        refine tkQ 0 (oi := ⟨some 61, .fieldAddr 78 (.tmp 6) 0, 0, "ref.go:50", #[], none⟩) rfl ?_
        try simp only [Act.put, pA, pB, pC]
        refine tkQ 1 (oi := ⟨some 62, .load 24 (.tmp 61), 24, "ref.go:50", #[⟨0, .data⟩], none⟩) rfl ?_
        try simp only [Act.put, pA, pB, pC]
        refine tkQ 2 (oi := ⟨some 63, .move (.tmp 3), 24, "ref.go:50", #[], none⟩) rfl ?_
        try simp only [Act.put, pA, pB, pC]
        refine tkQ 3 (oi := ⟨some 64, .binOp .leq 24 (.tmp 62) (.tmp 63) 24, 4, "ref.go:50", #[⟨1, .data⟩, ⟨2, .data⟩], none⟩) rfl ?_
        try simp only [Act.put, pA, pB, pC]
        refine tkQ 4 (oi := ⟨some 65, .move (.tmp 64), 4, "ref.go:50", #[⟨3, .data⟩], none⟩) rfl ?_
        try simp only [Act.put, pA, pB, pC]
        refine tkQ 5 (oi := ⟨some 66, .fieldAddr 78 (.tmp 6) 0, 0, "ref.go:50", #[⟨4, .guard⟩], some (4, false)⟩) rfl ?_
        try simp only [Act.put, pA, pB, pC]
        refine tkQ 6 (oi := ⟨some 67, .load 24 (.tmp 66), 24, "ref.go:50", #[⟨5, .data⟩, ⟨4, .guard⟩], some (4, false)⟩) rfl ?_
        try simp only [Act.put, pA, pB, pC]
        refine tkQ 7 (oi := ⟨some 68, .move (.tmp 0), 38, "ref.go:50", #[⟨4, .guard⟩], some (4, false)⟩) rfl ?_
        try simp only [Act.put, pA, pB, pC]
        refine tkQ 8 (oi := ⟨some 69, .nilCheck (.tmp 68), 0, "ref.go:50", #[⟨7, .data⟩, ⟨4, .guard⟩], some (4, false)⟩) rfl ?_
        try simp only [Act.put, pA, pB, pC]
        refine tkQ 9 (oi := ⟨some 70, .fieldAddr 52 (.tmp 69) 3, 0, "ref.go:50", #[⟨8, .data⟩, ⟨4, .guard⟩], some (4, false)⟩) rfl ?_
        try simp only [Act.put, pA, pB, pC]
        refine tkQ 10 (oi := ⟨some 71, .load 24 (.tmp 70), 24, "ref.go:50", #[⟨9, .data⟩, ⟨4, .guard⟩], some (4, false)⟩) rfl ?_
        try simp only [Act.put, pA, pB, pC]
        refine tkH (i := 11) (oi := ⟨some 72, .binOp .geq 24 (.tmp 67) (.tmp 71) 24, 4, "ref.go:50", #[⟨6, .data⟩, ⟨10, .data⟩, ⟨4, .guard⟩], some (4, false)⟩) (v := ?_) rfl ?_ ?_
        rotate_left
        · (intro w hSw; refine geq_t (t := 24) (k := .u32) (x := .tmp 67) (y := .tmp 71) (p := xi) (q := nI) ?_ ?_ ?_ hxn w <;> rfl)
        try simp only [Act.put, pA, pB, pC]
        refine tkQ 12 (oi := ⟨some 73, .pick (.tmp 65) (.const (.bool true)) (.tmp 72), 4, "ref.go:50", #[⟨4, .data⟩, ⟨11, .data⟩], none⟩) rfl ?_
        try simp only [Act.put, pA, pB, pC]
        refine tkQ 13 (oi := ⟨some 74, .move (.tmp 73), 4, "ref.go:50", #[⟨12, .data⟩, ⟨4, .chain⟩], none⟩) rfl ?_
        try simp only [Act.put, pA, pB, pC]
        refine skH 14 (oi := ⟨some 75, .fieldAddr 78 (.tmp 6) 1, 0, "ref.go:50", #[⟨13, .guard⟩], some (13, false)⟩) rfl ?_
        try simp only [Act.put, pA, pB, pC]
        refine skH 15 (oi := ⟨some 76, .load 3 (.tmp 75), 3, "ref.go:50", #[⟨14, .data⟩, ⟨13, .guard⟩], some (13, false)⟩) rfl ?_
        try simp only [Act.put, pA, pB, pC]
        refine skH 16 (oi := ⟨some 77, .binOp .lss 3 (.tmp 76) (.const (.int .i64 0)) 3, 4, "ref.go:50", #[⟨15, .data⟩, ⟨13, .guard⟩], some (13, false)⟩) rfl ?_
        try simp only [Act.put, pA, pB, pC]
        refine tkQ 17 (oi := ⟨some 78, .pick (.tmp 74) (.const (.bool true)) (.tmp 77), 4, "ref.go:50", #[⟨13, .data⟩, ⟨16, .data⟩], none⟩) rfl ?_
        try simp only [Act.put, pA, pB, pC]
        refine tkQ 18 (oi := ⟨some 79, .move (.tmp 78), 4, "ref.go:50", #[⟨17, .data⟩, ⟨13, .chain⟩], none⟩) rfl ?_
        try simp only [Act.put, pA, pB, pC]
        refine skH 19 (oi := ⟨some 80, .fieldAddr 78 (.tmp 6) 1, 0, "ref.go:50", #[⟨18, .guard⟩], some (18, false)⟩) rfl ?_
        try simp only [Act.put, pA, pB, pC]
        refine skH 20 (oi := ⟨some 81, .load 3 (.tmp 80), 3, "ref.go:50", #[⟨19, .data⟩, ⟨18, .guard⟩], some (18, false)⟩) rfl ?_
        try simp only [Act.put, pA, pB, pC]
        refine skH 21 (oi := ⟨some 82, .move (.tmp 0), 38, "ref.go:50", #[⟨18, .guard⟩], some (18, false)⟩) rfl ?_
        try simp only [Act.put, pA, pB, pC]
        refine skH 22 (oi := ⟨some 83, .nilCheck (.tmp 82), 0, "ref.go:50", #[⟨21, .data⟩, ⟨18, .guard⟩], some (18, false)⟩) rfl ?_
        try simp only [Act.put, pA, pB, pC]
        refine skH 23 (oi := ⟨some 84, .fieldAddr 52 (.tmp 83) 1, 0, "ref.go:50", #[⟨22, .data⟩, ⟨18, .guard⟩], some (18, false)⟩) rfl ?_
        try simp only [Act.put, pA, pB, pC]
        refine skH 24 (oi := ⟨some 85, .fieldAddr 23 (.tmp 84) 0, 0, "ref.go:50", #[⟨23, .data⟩, ⟨18, .guard⟩], some (18, false)⟩) rfl ?_
        try simp only [Act.put, pA, pB, pC]
        refine skH 25 (oi := ⟨some 86, .load 3 (.tmp 85), 3, "ref.go:50", #[⟨24, .data⟩, ⟨18, .guard⟩], some (18, false)⟩) rfl ?_
        try simp only [Act.put, pA, pB, pC]
        refine skH 26 (oi := ⟨some 87, .binOp .geq 3 (.tmp 81) (.tmp 86) 3, 4, "ref.go:50", #[⟨20, .data⟩, ⟨25, .data⟩, ⟨18, .guard⟩], some (18, false)⟩) rfl ?_
        try simp only [Act.put, pA, pB, pC]
        refine tkQ 27 (oi := ⟨some 88, .pick (.tmp 79) (.const (.bool true)) (.tmp 87), 4, "ref.go:50", #[⟨18, .data⟩, ⟨26, .data⟩], none⟩) rfl ?_
        try simp only [Act.put, pA, pB, pC]
        refine tkQ 28 (oi := ⟨some 89, .move (.tmp 88), 4, "ref.go:50", #[⟨27, .data⟩, ⟨18, .chain⟩], none⟩) rfl ?_
        try simp only [Act.put, pA, pB, pC]
        refine skH 29 (oi := ⟨some 90, .move (.tmp 4), 97, "ref.go:50", #[⟨28, .guard⟩], some (28, false)⟩) rfl ?_
        try simp only [Act.put, pA, pB, pC]
        refine skH 30 (oi := ⟨some 91, .fieldAddr 78 (.tmp 6) 1, 0, "ref.go:50", #[⟨28, .guard⟩], some (28, false)⟩) rfl ?_
        try simp only [Act.put, pA, pB, pC]
        refine skH 31 (oi := ⟨some 92, .load 3 (.tmp 91), 3, "ref.go:50", #[⟨30, .data⟩, ⟨28, .guard⟩], some (28, false)⟩) rfl ?_
        try simp only [Act.put, pA, pB, pC]
        refine skH 32 (oi := ⟨some 93, .indexAddr 97 (.tmp 90) (.tmp 92), 0, "ref.go:50", #[⟨29, .data⟩, ⟨31, .data⟩, ⟨28, .guard⟩], some (28, false)⟩) rfl ?_
        try simp only [Act.put, pA, pB, pC]
        refine skH 33 (oi := ⟨some 94, .load 4 (.tmp 93), 4, "ref.go:50", #[⟨32, .data⟩, ⟨28, .guard⟩], some (28, false)⟩) rfl ?_
        try simp only [Act.put, pA, pB, pC]
        refine tkQ 34 (oi := ⟨some 95, .pick (.tmp 89) (.const (.bool true)) (.tmp 94), 4, "ref.go:50", #[⟨28, .data⟩, ⟨33, .data⟩], none⟩) rfl ?_
        try simp only [Act.put, pA, pB, pC]
        refine wpAnyH_done (by kernel_rfl) ?_ _
        go_wp2
        go_ret
        exact MgP.no rfl HW.out (grown_trans HGr.out (grown_drew _ none))
      have hxn : xi < nI := by omega
      by_cases hq3 : xs < 0
      · have f3 : decide (xs < 0) = true := decide_eq_true hq3
        have HW := hide (HNo'.out (fun m => by have h1 := (HMd.out.1 m).2.2.1; omega))
        clear HNx HYsS HNoS HMd HNo' HX1 M1 HM HS8
        refine wp_region_held_drew (S := (fun W => (W.cell? ⟨Z, 0, none⟩ = some (.int .u32 xi) ∧ W.cell? ⟨Z, 1, none⟩ = some (.int .i64 xs) ∧ W.cell? ⟨Z, 2, none⟩ = some (.int .i64 xu)) ∧ W.cell? ⟨d, 1, none⟩ = some (.int .i64 sa) ∧ W.cell? ⟨d, 5, none⟩ = some (.int .u32 nI))) (by kernel_rfl) ?_ (fun hHeld => ?_)
        · (exact hK8)
        refine tkQ 0 (oi := ⟨some 61, .fieldAddr 78 (.tmp 6) 0, 0, "ref.go:50", #[], none⟩) rfl ?_
        try simp only [Act.put, pA, pB, pC]
        refine tkQ 1 (oi := ⟨some 62, .load 24 (.tmp 61), 24, "ref.go:50", #[⟨0, .data⟩], none⟩) rfl ?_
        try simp only [Act.put, pA, pB, pC]
        refine tkQ 2 (oi := ⟨some 63, .move (.tmp 3), 24, "ref.go:50", #[], none⟩) rfl ?_
        try simp only [Act.put, pA, pB, pC]
        refine tkQ 3 (oi := ⟨some 64, .binOp .leq 24 (.tmp 62) (.tmp 63) 24, 4, "ref.go:50", #[⟨1, .data⟩, ⟨2, .data⟩], none⟩) rfl ?_
        try simp only [Act.put, pA, pB, pC]
        refine tkQ 4 (oi := ⟨some 65, .move (.tmp 64), 4, "ref.go:50", #[⟨3, .data⟩], none⟩) rfl ?_
        try simp only [Act.put, pA, pB, pC]
        refine tkQ 5 (oi := ⟨some 66, .fieldAddr 78 (.tmp 6) 0, 0, "ref.go:50", #[⟨4, .guard⟩], some (4, false)⟩) rfl ?_
        try simp only [Act.put, pA, pB, pC]
        refine tkQ 6 (oi := ⟨some 67, .load 24 (.tmp 66), 24, "ref.go:50", #[⟨5, .data⟩, ⟨4, .guard⟩], some (4, false)⟩) rfl ?_
        try simp only [Act.put, pA, pB, pC]
        refine tkQ 7 (oi := ⟨some 68, .move (.tmp 0), 38, "ref.go:50", #[⟨4, .guard⟩], some (4, false)⟩) rfl ?_
        try simp only [Act.put, pA, pB, pC]
        refine tkQ 8 (oi := ⟨some 69, .nilCheck (.tmp 68), 0, "ref.go:50", #[⟨7, .data⟩, ⟨4, .guard⟩], some (4, false)⟩) rfl ?_
        try simp only [Act.put, pA, pB, pC]
        refine tkQ 9 (oi := ⟨some 70, .fieldAddr 52 (.tmp 69) 3, 0, "ref.go:50", #[⟨8, .data⟩, ⟨4, .guard⟩], some (4, false)⟩) rfl ?_
        try simp only [Act.put, pA, pB, pC]
        refine tkQ 10 (oi := ⟨some 71, .load 24 (.tmp 70), 24, "ref.go:50", #[⟨9, .data⟩, ⟨4, .guard⟩], some (4, false)⟩) rfl ?_
        try simp only [Act.put, pA, pB, pC]
        refine tkH (i := 11) (oi := ⟨some 72, .binOp .geq 24 (.tmp 67) (.tmp 71) 24, 4, "ref.go:50", #[⟨6, .data⟩, ⟨10, .data⟩, ⟨4, .guard⟩], some (4, false)⟩) (v := ?_) rfl ?_ ?_
        rotate_left
        · (intro w hSw; refine geq_f (t := 24) (k := .u32) (x := .tmp 67) (y := .tmp 71) (p := xi) (q := nI) ?_ ?_ ?_ hxn w <;> rfl)
        try simp only [Act.put, pA, pB, pC]
        refine tkQ 12 (oi := ⟨some 73, .pick (.tmp 65) (.const (.bool true)) (.tmp 72), 4, "ref.go:50", #[⟨4, .data⟩, ⟨11, .data⟩], none⟩) rfl ?_
        try simp only [Act.put, pA, pB, pC]
        refine tkQ 13 (oi := ⟨some 74, .move (.tmp 73), 4, "ref.go:50", #[⟨12, .data⟩, ⟨4, .chain⟩], none⟩) rfl ?_
        try simp only [Act.put, pA, pB, pC]
        refine tkQ 14 (oi := ⟨some 75, .fieldAddr 78 (.tmp 6) 1, 0, "ref.go:50", #[⟨13, .guard⟩], some (13, false)⟩) rfl ?_
        try simp only [Act.put, pA, pB, pC]
        refine tkQ 15 (oi := ⟨some 76, .load 3 (.tmp 75), 3, "ref.go:50", #[⟨14, .data⟩, ⟨13, .guard⟩], some (13, false)⟩) rfl ?_
        try simp only [Act.put, pA, pB, pC]
        refine tkQ 16 (oi := ⟨some 77, .binOp .lss 3 (.tmp 76) (.const (.int .i64 0)) 3, 4, "ref.go:50", #[⟨15, .data⟩, ⟨13, .guard⟩], some (13, false)⟩) rfl ?_
        try simp only [Act.put, pA, pB, pC]
        refine tkQ 17 (oi := ⟨some 78, .pick (.tmp 74) (.const (.bool true)) (.tmp 77), 4, "ref.go:50", #[⟨13, .data⟩, ⟨16, .data⟩], none⟩) rfl ?_
        try simp only [Act.put, pA, pB, pC]
        refine tkQ 18 (oi := ⟨some 79, .move (.tmp 78), 4, "ref.go:50", #[⟨17, .data⟩, ⟨13, .chain⟩], none⟩) rfl ?_
        try simp only [Act.put, pA, pB, pC]
        refine skH 19 (oi := ⟨some 80, .fieldAddr 78 (.tmp 6) 1, 0, "ref.go:50", #[⟨18, .guard⟩], some (18, false)⟩) rfl ?_
        try simp only [Act.put, pA, pB, pC]
        refine skH 20 (oi := ⟨some 81, .load 3 (.tmp 80), 3, "ref.go:50", #[⟨19, .data⟩, ⟨18, .guard⟩], some (18, false)⟩) rfl ?_
        try simp only [Act.put, pA, pB, pC]
        refine skH 21 (oi := ⟨some 82, .move (.tmp 0), 38, "ref.go:50", #[⟨18, .guard⟩], some (18, false)⟩) rfl ?_
        try simp only [Act.put, pA, pB, pC]
        refine skH 22 (oi := ⟨some 83, .nilCheck (.tmp 82), 0, "ref.go:50", #[⟨21, .data⟩, ⟨18, .guard⟩], some (18, false)⟩) rfl ?_
        try simp only [Act.put, pA, pB, pC]
        refine skH 23 (oi := ⟨some 84, .fieldAddr 52 (.tmp 83) 1, 0, "ref.go:50", #[⟨22, .data⟩, ⟨18, .guard⟩], some (18, false)⟩) rfl ?_
        try simp only [Act.put, pA, pB, pC]
        refine skH 24 (oi := ⟨some 85, .fieldAddr 23 (.tmp 84) 0, 0, "ref.go:50", #[⟨23, .data⟩, ⟨18, .guard⟩], some (18, false)⟩) rfl ?_
        try simp only [Act.put, pA, pB, pC]
        refine skH 25 (oi := ⟨some 86, .load 3 (.tmp 85), 3, "ref.go:50", #[⟨24, .data⟩, ⟨18, .guard⟩], some (18, false)⟩) rfl ?_
        try simp only [Act.put, pA, pB, pC]
        refine skH 26 (oi := ⟨some 87, .binOp .geq 3 (.tmp 81) (.tmp 86) 3, 4, "ref.go:50", #[⟨20, .data⟩, ⟨25, .data⟩, ⟨18, .guard⟩], some (18, false)⟩) rfl ?_
        try simp only [Act.put, pA, pB, pC]
        refine tkQ 27 (oi := ⟨some 88, .pick (.tmp 79) (.const (.bool true)) (.tmp 87), 4, "ref.go:50", #[⟨18, .data⟩, ⟨26, .data⟩], none⟩) rfl ?_
        try simp only [Act.put, pA, pB, pC]
        refine tkQ 28 (oi := ⟨some 89, .move (.tmp 88), 4, "ref.go:50", #[⟨27, .data⟩, ⟨18, .chain⟩], none⟩) rfl ?_
        try simp only [Act.put, pA, pB, pC]
        refine skH 29 (oi := ⟨some 90, .move (.tmp 4), 97, "ref.go:50", #[⟨28, .guard⟩], some (28, false)⟩) rfl ?_
        try simp only [Act.put, pA, pB, pC]
        refine skH 30 (oi := ⟨some 91, .fieldAddr 78 (.tmp 6) 1, 0, "ref.go:50", #[⟨28, .guard⟩], some (28, false)⟩) rfl ?_
        try simp only [Act.put, pA, pB, pC]
        refine skH 31 (oi := ⟨some 92, .load 3 (.tmp 91), 3, "ref.go:50", #[⟨30, .data⟩, ⟨28, .guard⟩], some (28, false)⟩) rfl ?_
        try simp only [Act.put, pA, pB, pC]
        refine skH 32 (oi := ⟨some 93, .indexAddr 97 (.tmp 90) (.tmp 92), 0, "ref.go:50", #[⟨29, .data⟩, ⟨31, .data⟩, ⟨28, .guard⟩], some (28, false)⟩) rfl ?_
        try simp only [Act.put, pA, pB, pC]
        refine skH 33 (oi := ⟨some 94, .load 4 (.tmp 93), 4, "ref.go:50", #[⟨32, .data⟩, ⟨28, .guard⟩], some (28, false)⟩) rfl ?_
        try simp only [Act.put, pA, pB, pC]
        refine tkQ 34 (oi := ⟨some 95, .pick (.tmp 89) (.const (.bool true)) (.tmp 94), 4, "ref.go:50", #[⟨28, .data⟩, ⟨33, .data⟩], none⟩) rfl ?_
        try simp only [Act.put, pA, pB, pC]
        refine wpAnyH_done (by kernel_rfl) ?_ _
        go_wp2
        go_ret
        exact MgP.no rfl HW.out (grown_trans HGr.out (grown_drew _ none))
      have f3 : decide (xs < 0) = false := decide_eq_false hq3
      by_cases hq4 : sa ≤ xs
      · have hxa := hq4
        have HW := hide (HNo'.out (fun m => by have h1 := (HMd.out.1 m).2.2.2.1; omega))
        clear HNx HYsS HNoS HMd HNo' HX1 M1 HM HS8
        refine wp_region_held_drew (S := (fun W => (W.cell? ⟨Z, 0, none⟩ = some (.int .u32 xi) ∧ W.cell? ⟨Z, 1, none⟩ = some (.int .i64 xs) ∧ W.cell? ⟨Z, 2, none⟩ = some (.int .i64 xu)) ∧ W.cell? ⟨d, 1, none⟩ = some (.int .i64 sa) ∧ W.cell? ⟨d, 5, none⟩ = some (.int .u32 nI))) (by kernel_rfl) ?_ (fun hHeld => ?_)
        · (exact hK8)
        refine tkQ 0 (oi := ⟨some 61, .fieldAddr 78 (.tmp 6) 0, 0, "ref.go:50", #[], none⟩) rfl ?_
        try simp only [Act.put, pA, pB, pC]
        refine tkQ 1 (oi := ⟨some 62, .load 24 (.tmp 61), 24, "ref.go:50", #[⟨0, .data⟩], none⟩) rfl ?_
        try simp only [Act.put, pA, pB, pC]
        refine tkQ 2 (oi := ⟨some 63, .move (.tmp 3), 24, "ref.go:50", #[], none⟩) rfl ?_
        try simp only [Act.put, pA, pB, pC]
        refine tkQ 3 (oi := ⟨some 64, .binOp .leq 24 (.tmp 62) (.tmp 63) 24, 4, "ref.go:50", #[⟨1, .data⟩, ⟨2, .data⟩], none⟩) rfl ?_
        try simp only [Act.put, pA, pB, pC]
        refine tkQ 4 (oi := ⟨some 65, .move (.tmp 64), 4, "ref.go:50", #[⟨3, .data⟩], none⟩) rfl ?_
        try simp only [Act.put, pA, pB, pC]
        refine tkQ 5 (oi := ⟨some 66, .fieldAddr 78 (.tmp 6) 0, 0, "ref.go:50", #[⟨4, .guard⟩], some (4, false)⟩) rfl ?_
        try simp only [Act.put, pA, pB, pC]
        refine tkQ 6 (oi := ⟨some 67, .load 24 (.tmp 66), 24, "ref.go:50", #[⟨5, .data⟩, ⟨4, .guard⟩], some (4, false)⟩) rfl ?_
        try simp only [Act.put, pA, pB, pC]
        refine tkQ 7 (oi := ⟨some 68, .move (.tmp 0), 38, "ref.go:50", #[⟨4, .guard⟩], some (4, false)⟩) rfl ?_
        try simp only [Act.put, pA, pB, pC]
        refine tkQ 8 (oi := ⟨some 69, .nilCheck (.tmp 68), 0, "ref.go:50", #[⟨7, .data⟩, ⟨4, .guard⟩], some (4, false)⟩) rfl ?_
        try simp only [Act.put, pA, pB, pC]
        refine tkQ 9 (oi := ⟨some 70, .fieldAddr 52 (.tmp 69) 3, 0, "ref.go:50", #[⟨8, .data⟩, ⟨4, .guard⟩], some (4, false)⟩) rfl ?_
        try simp only [Act.put, pA, pB, pC]
        refine tkQ 10 (oi := ⟨some 71, .load 24 (.tmp 70), 24, "ref.go:50", #[⟨9, .data⟩, ⟨4, .guard⟩], some (4, false)⟩) rfl ?_
        try simp only [Act.put, pA, pB, pC]
        refine tkH (i := 11) (oi := ⟨some 72, .binOp .geq 24 (.tmp 67) (.tmp 71) 24, 4, "ref.go:50", #[⟨6, .data⟩, ⟨10, .data⟩, ⟨4, .guard⟩], some (4, false)⟩) (v := ?_) rfl ?_ ?_
        rotate_left
        · (intro w hSw; refine geq_f (t := 24) (k := .u32) (x := .tmp 67) (y := .tmp 71) (p := xi) (q := nI) ?_ ?_ ?_ hxn w <;> rfl)
        try simp only [Act.put, pA, pB, pC]
        refine tkQ 12 (oi := ⟨some 73, .pick (.tmp 65) (.const (.bool true)) (.tmp 72), 4, "ref.go:50", #[⟨4, .data⟩, ⟨11, .data⟩], none⟩) rfl ?_
        try simp only [Act.put, pA, pB, pC]
        refine tkQ 13 (oi := ⟨some 74, .move (.tmp 73), 4, "ref.go:50", #[⟨12, .data⟩, ⟨4, .chain⟩], none⟩) rfl ?_
        try simp only [Act.put, pA, pB, pC]
        refine tkQ 14 (oi := ⟨some 75, .fieldAddr 78 (.tmp 6) 1, 0, "ref.go:50", #[⟨13, .guard⟩], some (13, false)⟩) rfl ?_
        try simp only [Act.put, pA, pB, pC]
        refine tkQ 15 (oi := ⟨some 76, .load 3 (.tmp 75), 3, "ref.go:50", #[⟨14, .data⟩, ⟨13, .guard⟩], some (13, false)⟩) rfl ?_
        try simp only [Act.put, pA, pB, pC]
        refine tkQ 16 (oi := ⟨some 77, .binOp .lss 3 (.tmp 76) (.const (.int .i64 0)) 3, 4, "ref.go:50", #[⟨15, .data⟩, ⟨13, .guard⟩], some (13, false)⟩) rfl ?_
        try simp only [Act.put, pA, pB, pC]
        refine tkQ 17 (oi := ⟨some 78, .pick (.tmp 74) (.const (.bool true)) (.tmp 77), 4, "ref.go:50", #[⟨13, .data⟩, ⟨16, .data⟩], none⟩) rfl ?_
        try simp only [Act.put, pA, pB, pC]
        refine tkQ 18 (oi := ⟨some 79, .move (.tmp 78), 4, "ref.go:50", #[⟨17, .data⟩, ⟨13, .chain⟩], none⟩) rfl ?_
        try simp only [Act.put, pA, pB, pC]
        refine tkQ 19 (oi := ⟨some 80, .fieldAddr 78 (.tmp 6) 1, 0, "ref.go:50", #[⟨18, .guard⟩], some (18, false)⟩) rfl ?_
        try simp only [Act.put, pA, pB, pC]
        refine tkQ 20 (oi := ⟨some 81, .load 3 (.tmp 80), 3, "ref.go:50", #[⟨19, .data⟩, ⟨18, .guard⟩], some (18, false)⟩) rfl ?_
        try simp only [Act.put, pA, pB, pC]
        refine tkQ 21 (oi := ⟨some 82, .move (.tmp 0), 38, "ref.go:50", #[⟨18, .guard⟩], some (18, false)⟩) rfl ?_
        try simp only [Act.put, pA, pB, pC]
        refine tkQ 22 (oi := ⟨some 83, .nilCheck (.tmp 82), 0, "ref.go:50", #[⟨21, .data⟩, ⟨18, .guard⟩], some (18, false)⟩) rfl ?_
        try simp only [Act.put, pA, pB, pC]
        refine tkQ 23 (oi := ⟨some 84, .fieldAddr 52 (.tmp 83) 1, 0, "ref.go:50", #[⟨22, .data⟩, ⟨18, .guard⟩], some (18, false)⟩) rfl ?_
        try simp only [Act.put, pA, pB, pC]
        refine tkQ 24 (oi := ⟨some 85, .fieldAddr 23 (.tmp 84) 0, 0, "ref.go:50", #[⟨23, .data⟩, ⟨18, .guard⟩], some (18, false)⟩) rfl ?_
        try simp only [Act.put, pA, pB, pC]
        refine tkQ 25 (oi := ⟨some 86, .load 3 (.tmp 85), 3, "ref.go:50", #[⟨24, .data⟩, ⟨18, .guard⟩], some (18, false)⟩) rfl ?_
        try simp only [Act.put, pA, pB, pC]
        refine tkH (i := 26) (oi := ⟨some 87, .binOp .geq 3 (.tmp 81) (.tmp 86) 3, 4, "ref.go:50", #[⟨20, .data⟩, ⟨25, .data⟩, ⟨18, .guard⟩], some (18, false)⟩) (v := ?_) rfl ?_ ?_
        rotate_left
        · (intro w hSw; refine geq_t (t := 3) (k := .i64) (x := .tmp 81) (y := .tmp 86) (p := xs) (q := sa) ?_ ?_ ?_ hxa w <;> rfl)
        try simp only [Act.put, pA, pB, pC]
        refine tkQ 27 (oi := ⟨some 88, .pick (.tmp 79) (.const (.bool true)) (.tmp 87), 4, "ref.go:50", #[⟨18, .data⟩, ⟨26, .data⟩], none⟩) rfl ?_
        try simp only [Act.put, pA, pB, pC]
        refine tkQ 28 (oi := ⟨some 89, .move (.tmp 88), 4, "ref.go:50", #[⟨27, .data⟩, ⟨18, .chain⟩], none⟩) rfl ?_
        try simp only [Act.put, pA, pB, pC]
        refine skH 29 (oi := ⟨some 90, .move (.tmp 4), 97, "ref.go:50", #[⟨28, .guard⟩], some (28, false)⟩) rfl ?_
        try simp only [Act.put, pA, pB, pC]
        refine skH 30 (oi := ⟨some 91, .fieldAddr 78 (.tmp 6) 1, 0, "ref.go:50", #[⟨28, .guard⟩], some (28, false)⟩) rfl ?_
        try simp only [Act.put, pA, pB, pC]
        refine skH 31 (oi := ⟨some 92, .load 3 (.tmp 91), 3, "ref.go:50", #[⟨30, .data⟩, ⟨28, .guard⟩], some (28, false)⟩) rfl ?_
        try simp only [Act.put, pA, pB, pC]
        refine skH 32 (oi := ⟨some 93, .indexAddr 97 (.tmp 90) (.tmp 92), 0, "ref.go:50", #[⟨29, .data⟩, ⟨31, .data⟩, ⟨28, .guard⟩], some (28, false)⟩) rfl ?_
        try simp only [Act.put, pA, pB, pC]
        refine skH 33 (oi := ⟨some 94, .load 4 (.tmp 93), 4, "ref.go:50", #[⟨32, .data⟩, ⟨28, .guard⟩], some (28, false)⟩) rfl ?_
        try simp only [Act.put, pA, pB, pC]
        refine tkQ 34 (oi := ⟨some 95, .pick (.tmp 89) (.const (.bool true)) (.tmp 94), 4, "ref.go:50", #[⟨28, .data⟩, ⟨33, .data⟩], none⟩) rfl ?_
        try simp only [Act.put, pA, pB, pC]
        refine wpAnyH_done (by kernel_rfl) ?_ _
        go_wp2
        go_ret
        exact MgP.no rfl HW.out (grown_trans HGr.out (grown_drew _ none))
      have hxa : xs < sa := by omega
      obtain ⟨xsn, rfl⟩ : ∃ xsn : Nat, xs = (xsn : Int) := ⟨xs.toNat, by omega⟩
      rw [Int.toNat_natCast] at HNx HYsS HNoS
      have hx0 : (0 : Int) ≤ (xsn : Int) := by omega
      have hxa0 : (xsn : Int) < (a : Int) := by omega
      by_cases hq5 : ∃ k, k < j ∧ (rdw X k).s = (xsn : Int)
      · have HW := hide (HNo'.out (fun m => by obtain ⟨k, hk1, hk2⟩ := hq5; exact (HMd.out.1 m).2.2.2.2.1 k hk1 hk2))
        have hK9 := And.intro hK8 (by obtain ⟨k, hk1, hk2⟩ := hq5; exact HYsS.out _ (grown_drew w3 none) k hk1 hk2)
        clear hq5
        clear HNx HYsS HNoS HMd HNo' HX1 M1 HM HS8
        refine wp_region_held_drew (S := (fun W => ((W.cell? ⟨Z, 0, none⟩ = some (.int .u32 xi) ∧ W.cell? ⟨Z, 1, none⟩ = some (.int .i64 (xsn : Int)) ∧ W.cell? ⟨Z, 2, none⟩ = some (.int .i64 xu)) ∧ W.cell? ⟨d, 1, none⟩ = some (.int .i64 sa) ∧ W.cell? ⟨d, 5, none⟩ = some (.int .u32 nI)) ∧ W.cell? ⟨sb, xsn, none⟩ = some (.bool true))) (by kernel_rfl) ?_ (fun hHeld => ?_)
        · (exact hK9)
        refine tkQ 0 (oi := ⟨some 61, .fieldAddr 78 (.tmp 6) 0, 0, "ref.go:50", #[], none⟩) rfl ?_
        try simp only [Act.put, pA, pB, pC]
        refine tkQ 1 (oi := ⟨some 62, .load 24 (.tmp 61), 24, "ref.go:50", #[⟨0, .data⟩], none⟩) rfl ?_
        try simp only [Act.put, pA, pB, pC]
        refine tkQ 2 (oi := ⟨some 63, .move (.tmp 3), 24, "ref.go:50", #[], none⟩) rfl ?_
        try simp only [Act.put, pA, pB, pC]
        refine tkQ 3 (oi := ⟨some 64, .binOp .leq 24 (.tmp 62) (.tmp 63) 24, 4, "ref.go:50", #[⟨1, .data⟩, ⟨2, .data⟩], none⟩) rfl ?_
        try simp only [Act.put, pA, pB, pC]
        refine tkQ 4 (oi := ⟨some 65, .move (.tmp 64), 4, "ref.go:50", #[⟨3, .data⟩], none⟩) rfl ?_
        try simp only [Act.put, pA, pB, pC]
        refine tkQ 5 (oi := ⟨some 66, .fieldAddr 78 (.tmp 6) 0, 0, "ref.go:50", #[⟨4, .guard⟩], some (4, false)⟩) rfl ?_
        try simp only [Act.put, pA, pB, pC]
        refine tkQ 6 (oi := ⟨some 67, .load 24 (.tmp 66), 24, "ref.go:50", #[⟨5, .data⟩, ⟨4, .guard⟩], some (4, false)⟩) rfl ?_
        try simp only [Act.put, pA, pB, pC]
        refine tkQ 7 (oi := ⟨some 68, .move (.tmp 0), 38, "ref.go:50", #[⟨4, .guard⟩], some (4, false)⟩) rfl ?_
        try simp only [Act.put, pA, pB, pC]
        refine tkQ 8 (oi := ⟨some 69, .nilCheck (.tmp 68), 0, "ref.go:50", #[⟨7, .data⟩, ⟨4, .guard⟩], some (4, false)⟩) rfl ?_
        try simp only [Act.put, pA, pB, pC]
        refine tkQ 9 (oi := ⟨some 70, .fieldAddr 52 (.tmp 69) 3, 0, "ref.go:50", #[⟨8, .data⟩, ⟨4, .guard⟩], some (4, false)⟩) rfl ?_
        try simp only [Act.put, pA, pB, pC]
        refine tkQ 10 (oi := ⟨some 71, .load 24 (.tmp 70), 24, "ref.go:50", #[⟨9, .data⟩, ⟨4, .guard⟩], some (4, false)⟩) rfl ?_
        try simp only [Act.put, pA, pB, pC]
        refine tkH (i := 11) (oi := ⟨some 72, .binOp .geq 24 (.tmp 67) (.tmp 71) 24, 4, "ref.go:50", #[⟨6, .data⟩, ⟨10, .data⟩, ⟨4, .guard⟩], some (4, false)⟩) (v := ?_) rfl ?_ ?_
        rotate_left
        · (intro w hSw; refine geq_f (t := 24) (k := .u32) (x := .tmp 67) (y := .tmp 71) (p := xi) (q := nI) ?_ ?_ ?_ hxn w <;> rfl)
        try simp only [Act.put, pA, pB, pC]
        refine tkQ 12 (oi := ⟨some 73, .pick (.tmp 65) (.const (.bool true)) (.tmp 72), 4, "ref.go:50", #[⟨4, .data⟩, ⟨11, .data⟩], none⟩) rfl ?_
        try simp only [Act.put, pA, pB, pC]
        refine tkQ 13 (oi := ⟨some 74, .move (.tmp 73), 4, "ref.go:50", #[⟨12, .data⟩, ⟨4, .chain⟩], none⟩) rfl ?_
        try simp only [Act.put, pA, pB, pC]
        refine tkQ 14 (oi := ⟨some 75, .fieldAddr 78 (.tmp 6) 1, 0, "ref.go:50", #[⟨13, .guard⟩], some (13, false)⟩) rfl ?_
        try simp only [Act.put, pA, pB, pC]
        refine tkQ 15 (oi := ⟨some 76, .load 3 (.tmp 75), 3, "ref.go:50", #[⟨14, .data⟩, ⟨13, .guard⟩], some (13, false)⟩) rfl ?_
        try simp only [Act.put, pA, pB, pC]
        refine tkQ 16 (oi := ⟨some 77, .binOp .lss 3 (.tmp 76) (.const (.int .i64 0)) 3, 4, "ref.go:50", #[⟨15, .data⟩, ⟨13, .guard⟩], some (13, false)⟩) rfl ?_
        try simp only [Act.put, pA, pB, pC]
        refine tkQ 17 (oi := ⟨some 78, .pick (.tmp 74) (.const (.bool true)) (.tmp 77), 4, "ref.go:50", #[⟨13, .data⟩, ⟨16, .data⟩], none⟩) rfl ?_
        try simp only [Act.put, pA, pB, pC]
        refine tkQ 18 (oi := ⟨some 79, .move (.tmp 78), 4, "ref.go:50", #[⟨17, .data⟩, ⟨13, .chain⟩], none⟩) rfl ?_
        try simp only [Act.put, pA, pB, pC]
        refine tkQ 19 (oi := ⟨some 80, .fieldAddr 78 (.tmp 6) 1, 0, "ref.go:50", #[⟨18, .guard⟩], some (18, false)⟩) rfl ?_
        try simp only [Act.put, pA, pB, pC]
        refine tkQ 20 (oi := ⟨some 81, .load 3 (.tmp 80), 3, "ref.go:50", #[⟨19, .data⟩, ⟨18, .guard⟩], some (18, false)⟩) rfl ?_
        try simp only [Act.put, pA, pB, pC]
        refine tkQ 21 (oi := ⟨some 82, .move (.tmp 0), 38, "ref.go:50", #[⟨18, .guard⟩], some (18, false)⟩) rfl ?_
        try simp only [Act.put, pA, pB, pC]
        refine tkQ 22 (oi := ⟨some 83, .nilCheck (.tmp 82), 0, "ref.go:50", #[⟨21, .data⟩, ⟨18, .guard⟩], some (18, false)⟩) rfl ?_
        try simp only [Act.put, pA, pB, pC]
        refine tkQ 23 (oi := ⟨some 84, .fieldAddr 52 (.tmp 83) 1, 0, "ref.go:50", #[⟨22, .data⟩, ⟨18, .guard⟩], some (18, false)⟩) rfl ?_
        try simp only [Act.put, pA, pB, pC]
        refine tkQ 24 (oi := ⟨some 85, .fieldAddr 23 (.tmp 84) 0, 0, "ref.go:50", #[⟨23, .data⟩, ⟨18, .guard⟩], some (18, false)⟩) rfl ?_
        try simp only [Act.put, pA, pB, pC]
        refine tkQ 25 (oi := ⟨some 86, .load 3 (.tmp 85), 3, "ref.go:50", #[⟨24, .data⟩, ⟨18, .guard⟩], some (18, false)⟩) rfl ?_
        try simp only [Act.put, pA, pB, pC]
        refine tkH (i := 26) (oi := ⟨some 87, .binOp .geq 3 (.tmp 81) (.tmp 86) 3, 4, "ref.go:50", #[⟨20, .data⟩, ⟨25, .data⟩, ⟨18, .guard⟩], some (18, false)⟩) (v := ?_) rfl ?_ ?_
        rotate_left
        · (intro w hSw; refine geq_f (t := 3) (k := .i64) (x := .tmp 81) (y := .tmp 86) (p := (xsn : Int)) (q := sa) ?_ ?_ ?_ hxa w <;> rfl)
        try simp only [Act.put, pA, pB, pC]
        refine tkQ 27 (oi := ⟨some 88, .pick (.tmp 79) (.const (.bool true)) (.tmp 87), 4, "ref.go:50", #[⟨18, .data⟩, ⟨26, .data⟩], none⟩) rfl ?_
        try simp only [Act.put, pA, pB, pC]
        refine tkQ 28 (oi := ⟨some 89, .move (.tmp 88), 4, "ref.go:50", #[⟨27, .data⟩, ⟨18, .chain⟩], none⟩) rfl ?_
        try simp only [Act.put, pA, pB, pC]
        refine tkQ 29 (oi := ⟨some 90, .move (.tmp 4), 97, "ref.go:50", #[⟨28, .guard⟩], some (28, false)⟩) rfl ?_
        try simp only [Act.put, pA, pB, pC]
        refine tkQ 30 (oi := ⟨some 91, .fieldAddr 78 (.tmp 6) 1, 0, "ref.go:50", #[⟨28, .guard⟩], some (28, false)⟩) rfl ?_
        try simp only [Act.put, pA, pB, pC]
        refine tkQ 31 (oi := ⟨some 92, .load 3 (.tmp 91), 3, "ref.go:50", #[⟨30, .data⟩, ⟨28, .guard⟩], some (28, false)⟩) rfl ?_
        try simp only [Act.put, pA, pB, pC]
        refine tkQ 32 (oi := ⟨some 93, .indexAddr 97 (.tmp 90) (.tmp 92), 0, "ref.go:50", #[⟨29, .data⟩, ⟨31, .data⟩, ⟨28, .guard⟩], some (28, false)⟩) rfl ?_
        try simp only [Act.put, pA, pB, pC]
        refine tkQ 33 (oi := ⟨some 94, .load 4 (.tmp 93), 4, "ref.go:50", #[⟨32, .data⟩, ⟨28, .guard⟩], some (28, false)⟩) rfl ?_
        try simp only [Act.put, pA, pB, pC]
        refine tkQ 34 (oi := ⟨some 95, .pick (.tmp 89) (.const (.bool true)) (.tmp 94), 4, "ref.go:50", #[⟨28, .data⟩, ⟨33, .data⟩], none⟩) rfl ?_
        try simp only [Act.put, pA, pB, pC]
        refine wpAnyH_done (by kernel_rfl) ?_ _
        go_wp2
        go_ret
        exact MgP.no rfl HW.out (grown_trans HGr.out (grown_drew _ none))
      have hq6 : ∀ k, k < j → (rdw X k).s ≠ (xsn : Int) := fun k h1 h2 => hq5 ⟨k, h1, h2⟩
      have HT2 : Hid (∀ W, w3.grownBy W none → W.cell? ⟨sb, xsn, none⟩ = some (.bool false) ∧ W.frozen? ⟨sb, xsn, none⟩ = false) := fun W gW => HNoS.out W gW (by omega) (by omega) hq6
      have HMd2 : Hid (MayJ a b n t X j ↔ (xu = 0 ∨ (t < xu ∧ xu ≤ 1099511627776))) := by
        have h2 := HXI.out
        rw [HMd.out]
        constructor
        · rintro ⟨-, -, -, -, -, m⟩; exact m
        · intro m; exact ⟨by omega, by omega, by omega, by omega, hq6, m⟩
      have hK9 := And.intro hK8 (HT2.out _ (grown_drew w3 none)).1
      clear hq5 hq6 hK8 HYsS HNoS HMd
      refine wp_region_held_drew (S := (fun W => ((W.cell? ⟨Z, 0, none⟩ = some (.int .u32 xi) ∧ W.cell? ⟨Z, 1, none⟩ = some (.int .i64 (xsn : Int)) ∧ W.cell? ⟨Z, 2, none⟩ = some (.int .i64 xu)) ∧ W.cell? ⟨d, 1, none⟩ = some (.int .i64 sa) ∧ W.cell? ⟨d, 5, none⟩ = some (.int .u32 nI)) ∧ W.cell? ⟨sb, xsn, none⟩ = some (.bool false))) (by kernel_rfl) ?_ (fun hHeld => ?_)
      · (exact hK9)
      refine tkQ 0 (oi := ⟨some 61, .fieldAddr 78 (.tmp 6) 0, 0, "ref.go:50", #[], none⟩) rfl ?_
      try simp only [Act.put, pA, pB, pC]
      refine tkQ 1 (oi := ⟨some 62, .load 24 (.tmp 61), 24, "ref.go:50", #[⟨0, .data⟩], none⟩) rfl ?_
      try simp only [Act.put, pA, pB, pC]
      refine tkQ 2 (oi := ⟨some 63, .move (.tmp 3), 24, "ref.go:50", #[], none⟩) rfl ?_
      try simp only [Act.put, pA, pB, pC]
      refine tkQ 3 (oi := ⟨some 64, .binOp .leq 24 (.tmp 62) (.tmp 63) 24, 4, "ref.go:50", #[⟨1, .data⟩, ⟨2, .data⟩], none⟩) rfl ?_
      try simp only [Act.put, pA, pB, pC]
      refine tkQ 4 (oi := ⟨some 65, .move (.tmp 64), 4, "ref.go:50", #[⟨3, .data⟩], none⟩) rfl ?_
      try simp only [Act.put, pA, pB, pC]
      refine tkQ 5 (oi := ⟨some 66, .fieldAddr 78 (.tmp 6) 0, 0, "ref.go:50", #[⟨4, .guard⟩], some (4, false)⟩) rfl ?_
      try simp only [Act.put, pA, pB, pC]
      refine tkQ 6 (oi := ⟨some 67, .load 24 (.tmp 66), 24, "ref.go:50", #[⟨5, .data⟩, ⟨4, .guard⟩], some (4, false)⟩) rfl ?_
      try simp only [Act.put, pA, pB, pC]
      refine tkQ 7 (oi := ⟨some 68, .move (.tmp 0), 38, "ref.go:50", #[⟨4, .guard⟩], some (4, false)⟩) rfl ?_
      try simp only [Act.put, pA, pB, pC]
      refine tkQ 8 (oi := ⟨some 69, .nilCheck (.tmp 68), 0, "ref.go:50", #[⟨7, .data⟩, ⟨4, .guard⟩], some (4, false)⟩) rfl ?_
      try simp only [Act.put, pA, pB, pC]
      refine tkQ 9 (oi := ⟨some 70, .fieldAddr 52 (.tmp 69) 3, 0, "ref.go:50", #[⟨8, .data⟩, ⟨4, .guard⟩], some (4, false)⟩) rfl ?_
      try simp only [Act.put, pA, pB, pC]
      refine tkQ 10 (oi := ⟨some 71, .load 24 (.tmp 70), 24, "ref.go:50", #[⟨9, .data⟩, ⟨4, .guard⟩], some (4, false)⟩) rfl ?_
      try simp only [Act.put, pA, pB, pC]
      refine tkH (i := 11) (oi := ⟨some 72, .binOp .geq 24 (.tmp 67) (.tmp 71) 24, 4, "ref.go:50", #[⟨6, .data⟩, ⟨10, .data⟩, ⟨4, .guard⟩], some (4, false)⟩) (v := ?_) rfl ?_ ?_
      rotate_left
      · (intro w hSw; refine geq_f (t := 24) (k := .u32) (x := .tmp 67) (y := .tmp 71) (p := xi) (q := nI) ?_ ?_ ?_ hxn w <;> rfl)
      try simp only [Act.put, pA, pB, pC]
      refine tkQ 12 (oi := ⟨some 73, .pick (.tmp 65) (.const (.bool true)) (.tmp 72), 4, "ref.go:50", #[⟨4, .data⟩, ⟨11, .data⟩], none⟩) rfl ?_
      try simp only [Act.put, pA, pB, pC]
      refine tkQ 13 (oi := ⟨some 74, .move (.tmp 73), 4, "ref.go:50", #[⟨12, .data⟩, ⟨4, .chain⟩], none⟩) rfl ?_
      try simp only [Act.put, pA, pB, pC]
      refine tkQ 14 (oi := ⟨some 75, .fieldAddr 78 (.tmp 6) 1, 0, "ref.go:50", #[⟨13, .guard⟩], some (13, false)⟩) rfl ?_
      try simp only [Act.put, pA, pB, pC]
      refine tkQ 15 (oi := ⟨some 76, .load 3 (.tmp 75), 3, "ref.go:50", #[⟨14, .data⟩, ⟨13, .guard⟩], some (13, false)⟩) rfl ?_
      try simp only [Act.put, pA, pB, pC]
      refine tkQ 16 (oi := ⟨some 77, .binOp .lss 3 (.tmp 76) (.const (.int .i64 0)) 3, 4, "ref.go:50", #[⟨15, .data⟩, ⟨13, .guard⟩], some (13, false)⟩) rfl ?_
      try simp only [Act.put, pA, pB, pC]
      refine tkQ 17 (oi := ⟨some 78, .pick (.tmp 74) (.const (.bool true)) (.tmp 77), 4, "ref.go:50", #[⟨13, .data⟩, ⟨16, .data⟩], none⟩) rfl ?_
      try simp only [Act.put, pA, pB, pC]
      refine tkQ 18 (oi := ⟨some 79, .move (.tmp 78), 4, "ref.go:50", #[⟨17, .data⟩, ⟨13, .chain⟩], none⟩) rfl ?_
      try simp only [Act.put, pA, pB, pC]
      refine tkQ 19 (oi := ⟨some 80, .fieldAddr 78 (.tmp 6) 1, 0, "ref.go:50", #[⟨18, .guard⟩], some (18, false)⟩) rfl ?_
      try simp only [Act.put, pA, pB, pC]
      refine tkQ 20 (oi := ⟨some 81, .load 3 (.tmp 80), 3, "ref.go:50", #[⟨19, .data⟩, ⟨18, .guard⟩], some (18, false)⟩) rfl ?_
      try simp only [Act.put, pA, pB, pC]
      refine tkQ 21 (oi := ⟨some 82, .move (.tmp 0), 38, "ref.go:50", #[⟨18, .guard⟩], some (18, false)⟩) rfl ?_
      try simp only [Act.put, pA, pB, pC]
      refine tkQ 22 (oi := ⟨some 83, .nilCheck (.tmp 82), 0, "ref.go:50", #[⟨21, .data⟩, ⟨18, .guard⟩], some (18, false)⟩) rfl ?_
      try simp only [Act.put, pA, pB, pC]
      refine tkQ 23 (oi := ⟨some 84, .fieldAddr 52 (.tmp 83) 1, 0, "ref.go:50", #[⟨22, .data⟩, ⟨18, .guard⟩], some (18, false)⟩) rfl ?_
      try simp only [Act.put, pA, pB, pC]
      refine tkQ 24 (oi := ⟨some 85, .fieldAddr 23 (.tmp 84) 0, 0, "ref.go:50", #[⟨23, .data⟩, ⟨18, .guard⟩], some (18, false)⟩) rfl ?_
      try simp only [Act.put, pA, pB, pC]
      refine tkQ 25 (oi := ⟨some 86, .load 3 (.tmp 85), 3, "ref.go:50", #[⟨24, .data⟩, ⟨18, .guard⟩], some (18, false)⟩) rfl ?_
      try simp only [Act.put, pA, pB, pC]
      refine tkH (i := 26) (oi := ⟨some 87, .binOp .geq 3 (.tmp 81) (.tmp 86) 3, 4, "ref.go:50", #[⟨20, .data⟩, ⟨25, .data⟩, ⟨18, .guard⟩], some (18, false)⟩) (v := ?_) rfl ?_ ?_
      rotate_left
      · (intro w hSw; refine geq_f (t := 3) (k := .i64) (x := .tmp 81) (y := .tmp 86) (p := (xsn : Int)) (q := sa) ?_ ?_ ?_ hxa w <;> rfl)
      try simp only [Act.put, pA, pB, pC]
      refine tkQ 27 (oi := ⟨some 88, .pick (.tmp 79) (.const (.bool true)) (.tmp 87), 4, "ref.go:50", #[⟨18, .data⟩, ⟨26, .data⟩], none⟩) rfl ?_
      try simp only [Act.put, pA, pB, pC]
      refine tkQ 28 (oi := ⟨some 89, .move (.tmp 88), 4, "ref.go:50", #[⟨27, .data⟩, ⟨18, .chain⟩], none⟩) rfl ?_
      try simp only [Act.put, pA, pB, pC]
      refine tkQ 29 (oi := ⟨some 90, .move (.tmp 4), 97, "ref.go:50", #[⟨28, .guard⟩], some (28, false)⟩) rfl ?_
      try simp only [Act.put, pA, pB, pC]
      refine tkQ 30 (oi := ⟨some 91, .fieldAddr 78 (.tmp 6) 1, 0, "ref.go:50", #[⟨28, .guard⟩], some (28, false)⟩) rfl ?_
      try simp only [Act.put, pA, pB, pC]
      refine tkQ 31 (oi := ⟨some 92, .load 3 (.tmp 91), 3, "ref.go:50", #[⟨30, .data⟩, ⟨28, .guard⟩], some (28, false)⟩) rfl ?_
      try simp only [Act.put, pA, pB, pC]
      refine tkQ 32 (oi := ⟨some 93, .indexAddr 97 (.tmp 90) (.tmp 92), 0, "ref.go:50", #[⟨29, .data⟩, ⟨31, .data⟩, ⟨28, .guard⟩], some (28, false)⟩) rfl ?_
      try simp only [Act.put, pA, pB, pC]
      refine tkQ 33 (oi := ⟨some 94, .load 4 (.tmp 93), 4, "ref.go:50", #[⟨32, .data⟩, ⟨28, .guard⟩], some (28, false)⟩) rfl ?_
      try simp only [Act.put, pA, pB, pC]
      refine tkQ 34 (oi := ⟨some 95, .pick (.tmp 89) (.const (.bool true)) (.tmp 94), 4, "ref.go:50", #[⟨28, .data⟩, ⟨33, .data⟩], none⟩) rfl ?_
      try simp only [Act.put, pA, pB, pC]
      refine wpAnyH_done (by kernel_rfl) ?_ _
      go_wp2
      have M2 := hide (M1.out.then (grown_drew w3 none))
      have HS2 : Hid (∀ W, (World.drew w3).grownBy W none → W.heap[Z]? = some (.cells [Value.int .u32 xi, .int .i64 (xsn : Int), .int .i64 xu].toArray 78)) := fun W gW => box_to HX1.out (grown_trans (grown_drew w3 none) gW)
      have HN2 : Hid (∀ W, (World.drew w3).grownBy W none → MayJ a b n t X j → Mg w (W.setCell ⟨sb, xsn, none⟩ (.bool true)) lo d (.slice (some ⟨g, 0, none⟩) nx cap) a b c n t X sb (j + 1) (bs.set xsn (.bool true))) := fun W gW => HNx.out W (grown_trans (grown_drew w3 none) gW)
      have HT3 : Hid (∀ W, (World.drew w3).grownBy W none → W.cell? ⟨sb, xsn, none⟩ = some (.bool false) ∧ W.frozen? ⟨sb, xsn, none⟩ = false) := fun W gW => HT2.out W (grown_trans (grown_drew w3 none) gW)
      have HZs : Hid (sb ≠ Z) := fun e => by have h1 := row_lt HM.out.row; have h2 := HZl.out; omega
      clear HNx HT2 HX1 M1 HS8 hHeld hK9 HGr HM
      generalize World.drew w3 = w4 at *
      obtain ⟨z0, z1, z2, -⟩ := box3 (HS2.out _ (grown_refl _ _))
      have d6 : w4.cell? ⟨d, 6, none⟩ = some (.int .i64 t) := M2.out.db.cell 6 _ rfl
      rcases (show xu = 0 ∨ (xu ≠ 0 ∧ xu ≤ t) ∨ (xu ≠ 0 ∧ t < xu ∧ 1099511627776 < xu) ∨ (xu ≠ 0 ∧ t < xu ∧ xu ≤ 1099511627776) by omega) with hu | ⟨hu, hu2⟩ | ⟨hu, hu2, hu3⟩ | ⟨hu, hu2, hu3⟩
      · have f1 : (xu != 0) = false := by simpa using hu
        have f2 : decide (xu = 0) = true := by simpa using hu
        have HMj := hide (HMd2.out.2 (.inl hu))
        go_quiet (fail)
        have g5 := hide (grown_drewN w4 nq none)
        clear z0 z1 z2 d6
        generalize World.drewN _ nq = w5 at *
        obtain ⟨t0, t1⟩ := HT3.out _ g5.out
        obtain ⟨z0, z1, z2, -⟩ := box3 (HS2.out _ g5.out)
        have M6 := hide (HN2.out _ g5.out HMj.out)
        have HZ6 : Hid ((w5.setCell ⟨sb, xsn, none⟩ (.bool true)).cell? ⟨Z, 0, none⟩ = some (.int .u32 xi)) := cell_set1 z0 HZs.out
        go_upto_region 14 with fail
        generalize World.setCell w5 _ _ = w6 at *
        clear z0 z1 z2 t0 t1
        have z0 := HZ6.out
        go_wp2
        go_roundg (gk - 1)
        case measure => omega
        case rel => exact ⟨j + 1, xi0, _, by omega, by go_num, by rw [HXI.out.1], HLs.out.symm, M6.out⟩
      · have f1 : (xu != 0) = true := by simpa using hu
        have f2 : (xu == 0) = false := by simpa using hu
        have f3 : decide (xu = 0) = false := by simpa using hu
        have f4 : decide (xu ≤ t) = true := decide_eq_true hu2
        have HW := hide (HNo'.out (fun m => by have := HMd2.out.1 m; omega))
        go_quiet (fail)
        go_wp2
        go_ret
        exact MgP.no rfl HW.out (grown_trans M2.out.gr (grown_drewN _ _ none))
      · have f1 : (xu != 0) = true := by simpa using hu
        have f2 : (xu == 0) = false := by simpa using hu
        have f3 : decide (xu = 0) = false := by simpa using hu
        have f4 : decide (xu ≤ t) = false := by rw [decide_eq_false_iff_not]; omega
        have f5 : decide ((1099511627776 : Int) < xu) = true := decide_eq_true hu3
        have HW := hide (HNo'.out (fun m => by have := HMd2.out.1 m; omega))
        go_quiet (fail)
        go_wp2
        go_ret
        exact MgP.no rfl HW.out (grown_trans M2.out.gr (grown_drewN _ _ none))
      · have f1 : (xu != 0) = true := by simpa using hu
        have f2 : (xu == 0) = false := by simpa using hu
        have f3 : decide (xu = 0) = false := by simpa using hu
        have f4 : decide (xu ≤ t) = false := by rw [decide_eq_false_iff_not]; omega
        have f5 : decide ((1099511627776 : Int) < xu) = false := by rw [decide_eq_false_iff_not]; omega
        have HMj := hide (HMd2.out.2 (.inr ⟨hu2, hu3⟩))
        go_quiet (fail)
        have g5 := hide (grown_drewN w4 nq none)
        clear z0 z1 z2 d6
        generalize World.drewN _ nq = w5 at *
        obtain ⟨t0, t1⟩ := HT3.out _ g5.out
        obtain ⟨z0, z1, z2, -⟩ := box3 (HS2.out _ g5.out)
        have M6 := hide (HN2.out _ g5.out HMj.out)
        have HZ6 : Hid ((w5.setCell ⟨sb, xsn, none⟩ (.bool true)).cell? ⟨Z, 0, none⟩ = some (.int .u32 xi)) := cell_set1 z0 HZs.out
        go_upto_region 14 with fail
        generalize World.setCell w5 _ _ = w6 at *
        clear z0 z1 z2 t0 t1
        have z0 := HZ6.out
        go_wp2
        go_roundg (gk - 1)
        case measure => omega
        case rel => exact ⟨j + 1, xi0, _, by omega, by go_num, by rw [HXI.out.1], HLs.out.symm, M6.out⟩
    · have hjl : j = nx := by omega
      have HE := hide (HYs2.out (fun k hk => HM.out.may k (by omega)))
      clear HF HYs2
      subst hjl
      go_wp2
      go_ret
      exact MgP.yes rfl HE.out HM.out.gr
end Go.Proofs.YtcbiloomnkbalaaGreatDoor
