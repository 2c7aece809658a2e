/- The contracts of the document's Turn: of, twice; its Join. -/
import Derived.Test.YtfjpgmpffmpejaaDoorRef
import Derived.Laws.Tables
import Derived.Deep.WholeRow
namespace Go.Proofs.YtfjpgmpffmpejaaDoor
open Go.RowKit
attribute [local go_sem ↓] Go.wp_at_zero Go.wp_at_succ

/-- What becomes of each bit in k steps, as cells. -/
def turnC (k : Nat) : List Value := (List.range 32).map fun (i : Nat) => Value.int .u32 ((Poly.steps k (2 ^ i) : Nat) : Int)
theorem turnC_length (k : Nat) : (turnC k).length = 32 := by simp [turnC]
theorem turnC_get (k i : Nat) (h : i < 32) : (turnC k)[i]? = some (.int .u32 ((Poly.steps k (2 ^ i) : Nat) : Int)) := by simp [turnC, h]
theorem pow_lt32 {i : Nat} (h : i < 32) : 2 ^ i < 4294967296 := Nat.pow_lt_pow_right (a := 2) (by decide) (m := i) (n := 32) h

set_option maxRecDepth 100000 in
set_option maxHeartbeats 1000000 in
theorem of_any (k r : Nat) (hr : r < 4294967296) (w : World) : Calls Tryd.prog 28 #[.agg (turnC k).toArray, .int .u32 (r : Int)] w fun e w' => e = .returned (.int .u32 ((Poly.steps k r : Nat) : Int)) ∧ w.grownBy w' none := by
  obtain ⟨C, hC⟩ : ∃ C, C = turnC k := ⟨_, rfl⟩
  rw [← hC]
  have HC := hide hC
  obtain ⟨M, hM⟩ : ∃ M, M = Poly.steps k r := ⟨_, rfl⟩
  rw [← hM]
  have HM := hide hM
  clear hC hM
  go_enter Tryd.func28, Tryd.ntmps28
  go_wp2
  go_loopg [5, 6] 32 (fun g x i wr => ∃ (j y : Nat), g + j = 32 ∧ i = .int .i64 j ∧ x = .int .u32 (y : Int) ∧ y < 4294967296 ∧ Hid (y = Poly.steps k (r % 2 ^ j)) ∧ wr.heap[w.heap.size]? = some (.cells C.toArray 45 (0, 0)) ∧ w.grownBy wr none)
  case atStart => exact ⟨0, 0, rfl, rfl, rfl, by decide, by show 0 = Poly.steps k (r % 2 ^ 0); rw [Nat.pow_zero, Nat.mod_one, Poly.steps_zero], heap_alloc_new w _, World.grownBy_alloc w _ none⟩
  case round =>
    obtain ⟨j, y, hgj, rfl, rfl, hy, HY, hrow, hg⟩ := hrel
    have HR := hide (And.intro hrow hg)
    by_cases hk : 0 < gk
    · have hj : j < 32 := by omega
      have hs := Poly.mod_succ r j
      have hcell : wr.cell? ⟨w.heap.size, j, none⟩ = some (.int .u32 ((Poly.steps k (2 ^ j) : Nat) : Int)) := by
        rw [cell_row hrow, HC.out]; exact turnC_get k j hj
      have hpl := Poly.steps_lt k (pow_lt32 hj)
      have hxor := bits_xor_u32 y _ hy hpl
      have hxl := Poly.xor_lt32 hy hpl
      have hj1 : (j : Int) < 32 := by omega
      have hshr : ((r : Int) / 2 ^ j).tmod 2 = ((r / 2 ^ j % 2 : Nat) : Int) := by rw [show ((r : Int) / 2 ^ j) = ((r / 2 ^ j : Nat) : Int) by simp]; rfl
      by_cases hb : r / 2 ^ j % 2 = 1
      · rw [if_pos hb] at hs
        have HY2 : Hid (y ^^^ Poly.steps k (2 ^ j) = Poly.steps k (r % 2 ^ (j + 1))) := by
          show _ = _
          rw [hs, Poly.steps_xor, ← HY.out]
        rw [hb] at hshr
        generalize y ^^^ Poly.steps k (2 ^ j) = y2 at *
        generalize Poly.steps k (2 ^ j) = t at *
        clear hs HC HM HY hb hrow hg
        have hshr : ((r : Int) / 2 ^ j).tmod 2 = 1 := hshr
        go_wp2
        go_roundg (gk - 1)
        case measure => omega
        case rel => exact ⟨j + 1, y2, by omega, by go_num, rfl, hxl, HY2, HR.out.1, HR.out.2⟩
      · rw [if_neg hb, Nat.xor_zero] at hs
        have HY2 : Hid (y = Poly.steps k (r % 2 ^ (j + 1))) := by
          show _ = _
          rw [hs, ← HY.out]
        rw [show r / 2 ^ j % 2 = 0 by omega] at hshr
        clear hs HC HM HY hb hcell hxor hrow hg
        have hshr : ((r : Int) / 2 ^ j).tmod 2 = 0 := hshr
        go_wp2
        go_roundg (gk - 1)
        case measure => omega
        case rel => exact ⟨j + 1, y, by omega, by go_num, rfl, hy, HY2, HR.out.1, HR.out.2⟩
    · have hj : j = 32 := by omega
      subst hj
      have h1 : y = M := by rw [HM.out, HY.out]; rw [Nat.mod_eq_of_lt (by simpa using hr)]
      subst h1
      clear HM HY HC hrow hg
      go_wp2
      go_ret
      exact ⟨rfl, HR.out.2⟩

/-- A row of 32 numbers of which the first j are those of C2, the others nought. -/
def mixC (C2 : List Value) (j : Nat) : List Value := C2.take j ++ List.replicate (32 - j) (.int .u32 0)
theorem mixC_length {C2 : List Value} (h : C2.length = 32) {j : Nat} (hj : j ≤ 32) : (mixC C2 j).length = 32 := by simp [mixC, h]; omega
theorem mixC_set {C2 : List Value} (h : C2.length = 32) {j : Nat} (hj : j < 32) (v : Value) (hv : C2[j]? = some v) : (mixC C2 j).set j v = mixC C2 (j + 1) := by
  have h1 : (C2.take j).length = j := by simp [h]; omega
  have e : 32 - j = (32 - (j + 1)) + 1 := by omega
  unfold mixC
  rw [List.set_append_right _ _ (by omega), h1, Nat.sub_self, e, List.replicate_succ, List.set_cons_zero, List.take_succ_eq_append_getElem (by omega)]
  have : C2[j] = v := by have := List.getElem?_eq_getElem (l := C2) (i := j) (by omega); rw [this] at hv; simpa using hv
  rw [this]; simp
theorem mixC_full {C2 : List Value} (h : C2.length = 32) : mixC C2 32 = C2 := by simp [mixC, ← h]

/-- What lies in n cells from offset o of block b on; that they are there; an address' block and offset. -/
def rangeOf (w : World) (b o n : Nat) : List Value := (List.range n).map fun j => (w.cell? ⟨b, o + j, none⟩).getD undef
def rangeOk (w : World) (b o n : Nat) : Prop := ∀ j, j < n → (w.cell? ⟨b, o + j, none⟩).isSome = true
def blkOf : Value → Nat | .pointer (some a) => a.block | _ => 0
def offOf : Value → Nat | .pointer (some a) => a.off | _ => 0
def isPtr : Value → Bool | .pointer (some ⟨_, _, none⟩) => true | _ => false
theorem blkOf_ptr (b o : Nat) : blkOf (.pointer (some ⟨b, o, none⟩)) = b := rfl
theorem offOf_ptr (b o : Nat) : offOf (.pointer (some ⟨b, o, none⟩)) = o := rfl
theorem isPtr_ptr (b o : Nat) : isPtr (.pointer (some ⟨b, o, none⟩)) = true := rfl
theorem ptr_of {v : Value} (h : isPtr v = true) : v = .pointer (some ⟨blkOf v, offOf v, none⟩) := by
  unfold isPtr at h; split at h
  · rfl
  · cases h
theorem rangeOk.at {w : World} {b o n : Nat} (h : rangeOk w b o n) : w.rangeAt b o (rangeOf w b o n) := by
  intro j v hv
  unfold rangeOf at hv
  rw [List.getElem?_map] at hv
  cases hj : (List.range n)[j]? with
  | none => simp [hj] at hv
  | some k =>
    have hk := List.getElem?_eq_some_iff.1 hj
    obtain ⟨hlt, he⟩ := hk
    simp at he hlt
    subst he
    simp [hj] at hv
    have := h j hlt
    cases hc : w.cell? ⟨b, o + j, none⟩ with
    | none => simp [hc] at this
    | some x => simp [hc] at hv; rw [hv]
theorem rangeOf_length (w : World) (b o n : Nat) : (rangeOf w b o n).length = n := by simp [rangeOf]
theorem rangeOf_eq {w : World} {b o n : Nat} {l : List Value} (h : w.rangeAt b o l) (hl : l.length = n) : rangeOf w b o n = l := by
  apply List.ext_getElem?
  intro j
  unfold rangeOf
  rw [List.getElem?_map]
  by_cases hj : j < n
  · have hjl : j < l.length := by omega
    rw [List.getElem?_eq_getElem hjl, List.getElem?_range hj]
    simp [h j _ (List.getElem?_eq_getElem hjl)]
  · rw [List.getElem?_eq_none (by simp; omega), List.getElem?_eq_none (by omega)]; rfl
theorem rangeOk_of {w : World} {b o n : Nat} {l : List Value} (h : w.rangeAt b o l) (hl : l.length = n) : rangeOk w b o n := by
  intro j hj
  have hjl : j < l.length := by omega
  rw [h j _ (List.getElem?_eq_getElem hjl)]; rfl
/-- A load of a long array, as an equation. -/
theorem wp_load_range {P : Program} {op : Oper} {a : Act} {w : World} {K : Act → World → Prop} {Q : Exit → Act → World → Prop} (ty : TypeId) (x : Operand) (ho : op.op = .load ty x) (d : TypeDesc) (n : Nat)
    (hu : P.underlying ty = some d) (hd : d.isRow = true) (hi : (P.info? ty).map (·.size) = some n) (hx : isPtr (a.eval x) = true) (hr : rangeOk w (blkOf (a.eval x)) (offOf (a.eval x)) n) :
    op.wp P a w K Q = K (a.put op.dst (.agg (rangeOf w (blkOf (a.eval x)) (offOf (a.eval x)) n).toArray)) w := by
  unfold Oper.wp execOp
  rw [ho]
  have hp := ptr_of hx
  have hl := run_loadVar_mid (P := P) w (blkOf (a.eval x)) (offOf (a.eval x)) ty _ d hr.at hu hd (by rw [rangeOf_length]; exact hi)
  simp only [Instr.loadAt]
  rw [hp]
  simp only [Instr.sureAddr, Sem.run_bind, Sem.run_pure, Result.andThen_ok, blkOf_ptr, offOf_ptr, hl]
  rfl


theorem Tryd.size45 : (Tryd.prog.info? 45).map (·.size) = some 32 := by kernel_rfl
theorem wp_load45 {x : Operand} {dst : Option Tmp} {ty : TypeId} {pos : String} {A : Array Edge} {gd : Option (Nat × Bool)} {a : Act} {w : World} {K : Act → World → Prop} {Q : Exit → Act → World → Prop} (hx : isPtr (a.eval x) = true) (hr : rangeOk w (blkOf (a.eval x)) (offOf (a.eval x)) 32) :
    Oper.wp Tryd.prog { dst := dst, op := .load 45 x, type := ty, pos := pos, after := A, guard := gd } a w K Q = K (a.put dst (.agg (rangeOf w (blkOf (a.eval x)) (offOf (a.eval x)) 32).toArray)) w :=
  wp_load_range 45 x rfl _ 32 Tryd.underlying45 rfl Tryd.size45 hx hr
theorem range_row {w : World} {b : Nat} {C : List Value} {t : TypeId} {fr : Nat × Nat} (h : w.heap[b]? = some (.cells C.toArray t fr)) (hC : C.length = 32) : rangeOk w b 0 32 ∧ rangeOf w b 0 32 = C := by
  have hr : w.rangeAt b 0 C := by
    intro j v hv
    rw [Nat.zero_add, cell_row h]; exact hv
  exact ⟨rangeOk_of hr hC, rangeOf_eq hr hC⟩
theorem turnC_one (k : Nat) : ((turnC k).toArray.all (·.oneCell')) = true := by
  rw [List.all_toArray, List.all_eq_true]
  intro v hv
  unfold turnC at hv
  rw [List.mem_map] at hv
  obtain ⟨i, _, rfl⟩ := hv
  rfl
theorem kept_row {w0 wr wA : World} {b : Nat} {o : Obj} (hr : wr.heap[b]? = some o) (e : w0.heap = wr.heap) (hg : w0.grownBy wA none) : wA.heap[b]? = some o := by
  rw [← e] at hr
  exact (hg.block b (row_lt hr) (by simp)).trans hr

/-- A store of a long array, as an equation. -/
def aggOk (v : Value) : Bool := match v with | .agg c => c.size == 32 && c.all (·.oneCell') | _ => false
def rowOk (w : World) (b : Nat) : Prop := ∃ old t, w.heap[b]? = some (.cells old t (0, 0)) ∧ old.size = 32
theorem wp_store45 {x y : Operand} {dst : Option Tmp} {ty : TypeId} {pos : String} {A : Array Edge} {gd : Option (Nat × Bool)} {a : Act} {w : World} {K : Act → World → Prop} {Q : Exit → Act → World → Prop} (hx : isPtr (a.eval x) = true) (ho : offOf (a.eval x) = 0) (hy : aggOk (a.eval y) = true) (hr : rowOk w (blkOf (a.eval x))) :
    Oper.wp Tryd.prog { dst := dst, op := .store 45 x y, type := ty, pos := pos, after := A, guard := gd } a w K Q = K (a.put dst undef) (w.setRow (blkOf (a.eval x)) (a.eval y).cells) := by
  have hp := ptr_of hx
  rw [ho] at hp
  obtain ⟨old, t, hg, hs⟩ := hr
  generalize blkOf (a.eval x) = b at *
  cases hv : a.eval y with
  | agg c =>
    rw [hv] at hy
    simp only [aggOk, Bool.and_eq_true, beq_iff_eq] at hy
    unfold Oper.wp execOp
    simp only [hp, hv, Instr.storeAt, Instr.sureAddr, Sem.run_bind, Sem.run_pure, Result.andThen_ok, run_storeVar_row w b t 45 old c hg (by rw [Tryd.size45, hy.1]) (by rw [hs, hy.1]) hy.2, Value.cells]
    rfl
  | _ => rw [hv] at hy; cases hy

section
attribute [local go_sem ↓] wp_load45 wp_store45
attribute [local go_sem] blkOf_ptr offOf_ptr isPtr_ptr
set_option maxRecDepth 100000 in
set_option maxHeartbeats 1000000 in
theorem twice_any (k : Nat) (w : World) : Calls Tryd.prog 29 #[.agg (turnC k).toArray] w fun e w' => e = .returned (.agg (turnC (k + k)).toArray) ∧ w.grownBy w' none := by
  obtain ⟨C, hC⟩ : ∃ C, C = turnC k := ⟨_, rfl⟩
  obtain ⟨C2, hC2⟩ : ∃ C, C = turnC (k + k) := ⟨_, rfl⟩
  rw [← hC, ← hC2]
  have HC := hide (And.intro hC hC2)
  clear hC hC2
  go_enter Tryd.func29, Tryd.ntmps29
  go_wp2
  go_loopg [4] 32 (fun g i wr => ∃ (j : Nat), g + j = 32 ∧ i = .int .i64 j ∧ wr.heap[w.heap.size]? = some (.cells C.toArray 45 (0, 0)) ∧ wr.heap[w.heap.size + 1]? = some (.cells (List.replicate 32 (Value.int .u32 0)).toArray 45 (0, 0)) ∧ wr.heap[w.heap.size + 2]? = some (.cells (mixC C2 j).toArray 45 (0, 0)) ∧ w.grownBy wr none)
  case atStart =>
    refine ⟨0, rfl, rfl, ?_, ?_, ?_, ?_⟩
    · exact kept_row (kept_row (heap_alloc_new w _) rfl (World.grownBy_alloc _ _ none)) rfl (World.grownBy_alloc _ _ none)
    · have := kept_row (heap_alloc_new (w.alloc (Obj.cells C.toArray 45)) (Obj.cells (List.replicate 32 (Value.int .u32 0)).toArray 45)) rfl (World.grownBy_alloc _ (Obj.cells (List.replicate 32 (Value.int .u32 0)).toArray 45) none)
      rw [World.size_alloc] at this
      exact this
    · have := heap_alloc_new ((w.alloc (Obj.cells C.toArray 45)).alloc (Obj.cells (List.replicate 32 (Value.int .u32 0)).toArray 45)) (Obj.cells (List.replicate 32 (Value.int .u32 0)).toArray 45)
      rw [World.size_alloc, World.size_alloc] at this
      simpa [mixC] using this
    · exact grown_trans (World.grownBy_alloc w _ none) (grown_trans (World.grownBy_alloc _ _ none) (World.grownBy_alloc _ _ none))
  case round =>
    obtain ⟨j, hgj, rfl, hr0, hr1, hr2, hg⟩ := hrel
    obtain ⟨hC, hC2⟩ := HC.out
    by_cases hk : 0 < gk
    · have hj : j < 32 := by omega
      have hj1 : (j : Int) < 32 := by omega
      have hrng := range_row hr0 (by rw [hC]; exact turnC_length k)
      have hok := hrng.1
      have hof := hrng.2
      have hokd : rangeOk wr.drew w.heap.size 0 32 := hok
      have hofd : rangeOf wr.drew w.heap.size 0 32 = C := hof
      have hcell : wr.cell? ⟨w.heap.size, j, none⟩ = some (.int .u32 ((Poly.steps k (2 ^ j) : Nat) : Int)) := by
        rw [cell_row hr0, hC]; exact turnC_get k j hj
      have hpl := Poly.steps_lt k (pow_lt32 hj)
      have hcu : wr.cell? ⟨w.heap.size + 2, j, none⟩ = some (.int .u32 0) := by
        have h1 : (C2.take j).length = j := by rw [List.length_take, hC2, turnC_length]; omega
        rw [cell_row hr2, mixC, List.getElem?_append_right (by omega), h1, Nat.sub_self, List.getElem?_replicate, if_pos (by omega)]
      have hfu : wr.frozen? ⟨w.heap.size + 2, j, none⟩ = false := free_row hr2 _
      have hof2 := fun w => of_any k (Poly.steps k (2 ^ j)) hpl w
      rw [← hC, ← Poly.steps_add] at hof2
      have hset := mixC_set (by rw [hC2]; exact turnC_length _) hj _ (show C2[j]? = some (.int .u32 ((Poly.steps (k + k) (2 ^ j) : Nat) : Int)) by rw [hC2]; exact turnC_get _ j hj)
      have HS := hide hset
      have HOF := hide hof2
      have HR := hide (And.intro hr0 (And.intro hr1 (And.intro hr2 hg)))
      generalize Poly.steps k (2 ^ j) = t at *
      generalize Poly.steps (k + k) (2 ^ j) = t2 at *
      clear hset hof2 hr0 hr1 hr2 hg hrng hC hC2 hpl
      have HU := hide (And.intro (show (mixC C2 j)[j]? = some (.int .u32 0) by rw [← cell_row HR.out.2.2.1]; exact hcu) trivial)
      go_wp2
      go_region_with (go_at_call 28; refine (HOF.out _).mono ?_; rintro e wA ⟨rfl, hgA⟩; have h2 := kept_row (w0 := wr.drew) (wr := wr) HR.out.2.2.1 rfl hgA; have hcA : wA.cell? ⟨w.heap.size + 2, j, none⟩ = some (.int .u32 0) := (cell_row h2 j).trans HU.out.1; have hfA := free_row h2 j; have HA := hide hgA; clear h2 hgA)
      all_goals
        go_wp2
        go_roundg (gk - 1)
        case measure => omega
        case rel =>
          obtain ⟨hr0, hr1, hr2, hg⟩ := HR.out
          have k0 := kept_row (w0 := wr.drew) (wr := wr) hr0 rfl HA.out
          have k1 := kept_row (w0 := wr.drew) (wr := wr) hr1 rfl HA.out
          have k2 := kept_row (w0 := wr.drew) (wr := wr) hr2 rfl HA.out
          refine ⟨j + 1, by omega, by go_num, ?_, ?_, ?_, ?_⟩
          · exact (Below.heap_setCell _ _ _ _ (by simp; omega)).trans k0
          · exact (Below.heap_setCell _ _ _ _ (by simp)).trans k1
          · rw [← HS.out]; exact row_setCell k2 j _
          · exact grown_then (grown_trans (grown_trans hg (grown_drew _ _)) HA.out) (grown_setCell _ _ _ _) (fun i e => by cases e; exact Or.inl (by omega))
    · have hj : j = 32 := by omega
      have hj1 : ¬ (j : Int) < 32 := by omega
      rw [hj, mixC_full (by rw [hC2]; exact turnC_length _)] at hr2
      have hrng := range_row hr2 (by rw [hC2]; exact turnC_length _)
      have hok := hrng.1
      have hof := hrng.2
      have HR := hide (And.intro hr0 (And.intro hr1 (And.intro hr2 hg)))
      clear hr0 hr1 hr2 hg hrng hC hC2 hj hgj
      have hagg : aggOk (.agg C2.toArray) = true := by
        rw [HC.out.2]
        simp only [aggOk, Bool.and_eq_true, beq_iff_eq]
        exact ⟨by simp [turnC_length], turnC_one _⟩
      have hrk : rowOk wr (w.heap.size + 1) := ⟨_, _, HR.out.2.1, by simp⟩
      go_wp2
      obtain ⟨hr0, hr1, hr2, hg⟩ := HR.out
      have hl : (loadVar 45 ⟨w.heap.size + 1, 0, none⟩).run Tryd.prog (wr.setRow (w.heap.size + 1) C2.toArray) = .ok (.agg C2.toArray) (wr.setRow (w.heap.size + 1) C2.toArray) :=
        run_loadVar_row _ _ 45 45 C2.toArray (0, 0) _ (setRow_heap wr _ _ _ 45 _ hr1) Tryd.underlying45 rfl (by rw [Tryd.size45, HC.out.2]; simp [turnC_length])
      refine bodyPost_ret (v := .agg C2.toArray) (by simp [results, Tryd.results29, asAddr, hl]) rfl ⟨rfl, ?_⟩
      exact below_grown (below_setRow (grown_below hg) (by omega) _)
end

end Go.Proofs.YtfjpgmpffmpejaaDoor
