/- The contracts of aislesOf and beginsBlock: where aisles lie, as an array of 17. -/
import Derived.Test.YtomoclicbjkpoabDoorCa
namespace Go.Proofs.YtomoclicbjkpoabDoor
open Go.RowKit Cx
attribute [local go_sem ↓] Go.wp_at_zero Go.wp_at_succ

/-- What lies in n cells from offset o of block b on; that they are there; an address' block and offset. -/
def rangeOf (w : World) (b o n : Nat) : List Value := (List.range n).map fun j => (w.cell? ⟨b, o + j, none⟩).getD undef
def rangeOk (w : World) (b o n : Nat) : Prop := ∀ j, j < n → (w.cell? ⟨b, o + j, none⟩).isSome = true
def blkOf : Value → Nat | .pointer (some a) => a.block | _ => 0
def offOf : Value → Nat | .pointer (some a) => a.off | _ => 0
def isPtr : Value → Bool | .pointer (some ⟨_, _, none⟩) => true | _ => false
theorem blkOf_ptr (b o : Nat) : blkOf (.pointer (some ⟨b, o, none⟩)) = b := rfl
theorem offOf_ptr (b o : Nat) : offOf (.pointer (some ⟨b, o, none⟩)) = o := rfl
theorem isPtr_ptr (b o : Nat) : isPtr (.pointer (some ⟨b, o, none⟩)) = true := rfl
theorem ptr_of {v : Value} (h : isPtr v = true) : v = .pointer (some ⟨blkOf v, offOf v, none⟩) := by
  unfold isPtr at h; split at h
  · rfl
  · cases h
theorem rangeOk.at {w : World} {b o n : Nat} (h : rangeOk w b o n) : w.rangeAt b o (rangeOf w b o n) := by
  intro j v hv
  unfold rangeOf at hv
  rw [List.getElem?_map] at hv
  cases hj : (List.range n)[j]? with
  | none => simp [hj] at hv
  | some k =>
    have hk := List.getElem?_eq_some_iff.1 hj
    obtain ⟨hlt, he⟩ := hk
    simp at he hlt
    subst he
    simp [hj] at hv
    have := h j hlt
    cases hc : w.cell? ⟨b, o + j, none⟩ with
    | none => simp [hc] at this
    | some x => simp [hc] at hv; rw [hv]
theorem rangeOf_length (w : World) (b o n : Nat) : (rangeOf w b o n).length = n := by simp [rangeOf]
theorem rangeOf_eq {w : World} {b o n : Nat} {l : List Value} (h : w.rangeAt b o l) (hl : l.length = n) : rangeOf w b o n = l := by
  apply List.ext_getElem?
  intro j
  unfold rangeOf
  rw [List.getElem?_map]
  by_cases hj : j < n
  · have hjl : j < l.length := by omega
    rw [List.getElem?_eq_getElem hjl, List.getElem?_range hj]
    simp [h j _ (List.getElem?_eq_getElem hjl)]
  · rw [List.getElem?_eq_none (by simp; omega), List.getElem?_eq_none (by omega)]; rfl
theorem rangeOk_of {w : World} {b o n : Nat} {l : List Value} (h : w.rangeAt b o l) (hl : l.length = n) : rangeOk w b o n := by
  intro j hj
  have hjl : j < l.length := by omega
  rw [h j _ (List.getElem?_eq_getElem hjl)]; rfl
/-- A load of a long array, as an equation. -/
theorem wp_load_range {P : Program} {op : Oper} {a : Act} {w : World} {K : Act → World → Prop} {Q : Exit → Act → World → Prop} (ty : TypeId) (x : Operand) (ho : op.op = .load ty x) (d : TypeDesc) (n : Nat)
    (hu : P.underlying ty = some d) (hd : d.isRow = true) (hi : (P.info? ty).map (·.size) = some n) (hx : isPtr (a.eval x) = true) (hr : rangeOk w (blkOf (a.eval x)) (offOf (a.eval x)) n) :
    op.wp P a w K Q = K (a.put op.dst (.agg (rangeOf w (blkOf (a.eval x)) (offOf (a.eval x)) n).toArray)) w := by
  unfold Oper.wp execOp
  rw [ho]
  have hp := ptr_of hx
  have hl := run_loadVar_mid (P := P) w (blkOf (a.eval x)) (offOf (a.eval x)) ty _ d hr.at hu hd (by rw [rangeOf_length]; exact hi)
  simp only [Instr.loadAt]
  rw [hp]
  simp only [Instr.sureAddr, Sem.run_bind, Sem.run_pure, Result.andThen_ok, blkOf_ptr, offOf_ptr, hl]
  rfl
theorem Tryd.size47 : (Tryd.prog.info? 47).map (·.size) = some 17 := by kernel_rfl
theorem wp_load61 {x : Operand} {dst : Option Tmp} {ty : TypeId} {pos : String} {A : Array Edge} {gd : Option (Nat × Bool)} {a : Act} {w : World} {K : Act → World → Prop} {Q : Exit → Act → World → Prop} (hx : isPtr (a.eval x) = true) (hr : rangeOk w (blkOf (a.eval x)) (offOf (a.eval x)) 17) :
    Oper.wp Tryd.prog { dst := dst, op := .load 47 x, type := ty, pos := pos, after := A, guard := gd } a w K Q = K (a.put dst (.agg (rangeOf w (blkOf (a.eval x)) (offOf (a.eval x)) 17).toArray)) w :=
  wp_load_range 47 x rfl _ 17 Tryd.underlying47 rfl Tryd.size47 hx hr
theorem range_row {w : World} {b : Nat} {C : List Value} {t : TypeId} {fr : Nat × Nat} (h : w.heap[b]? = some (.cells C.toArray t fr)) (hC : C.length = 17) : rangeOk w b 0 17 ∧ rangeOf w b 0 17 = C := by
  have hr : w.rangeAt b 0 C := by
    intro j v hv
    rw [Nat.zero_add, cell_row h]; exact hv
  exact ⟨rangeOk_of hr hC, rangeOf_eq hr hC⟩
/-- A store of a long array, as an equation. -/
def aggOk (v : Value) : Bool := match v with | .agg c => c.size == 17 && c.all (·.oneCell') | _ => false
def rowOk (w : World) (b : Nat) : Prop := ∃ old t, w.heap[b]? = some (.cells old t (0, 0)) ∧ old.size = 17
theorem wp_store61 {x y : Operand} {dst : Option Tmp} {ty : TypeId} {pos : String} {A : Array Edge} {gd : Option (Nat × Bool)} {a : Act} {w : World} {K : Act → World → Prop} {Q : Exit → Act → World → Prop} (hx : isPtr (a.eval x) = true) (ho : offOf (a.eval x) = 0) (hy : aggOk (a.eval y) = true) (hr : rowOk w (blkOf (a.eval x))) :
    Oper.wp Tryd.prog { dst := dst, op := .store 47 x y, type := ty, pos := pos, after := A, guard := gd } a w K Q = K (a.put dst undef) (w.setRow (blkOf (a.eval x)) (a.eval y).cells) := by
  have hp := ptr_of hx
  rw [ho] at hp
  obtain ⟨old, t, hg, hs⟩ := hr
  generalize blkOf (a.eval x) = b at *
  cases hv : a.eval y with
  | agg c =>
    rw [hv] at hy
    simp only [aggOk, Bool.and_eq_true, beq_iff_eq] at hy
    unfold Oper.wp execOp
    simp only [hp, hv, Instr.storeAt, Instr.sureAddr, Sem.run_bind, Sem.run_pure, Result.andThen_ok, run_storeVar_row w b t 47 old c hg (by rw [Tryd.size47, hy.1]) (by rw [hs, hy.1]) hy.2, Value.cells]
    rfl
  | _ => rw [hv] at hy; cases hy

/-- The array of aisles. -/
def arrC (L : List Int) : List Value := (List.range 17).map fun i => .bool (ai L i)
theorem arrC_len (L : List Int) : (arrC L).length = 17 := by simp [arrC]
theorem arrC_get (L : List Int) {i : Nat} (h : i < 17) : (arrC L)[i]? = some (.bool (ai L i)) := by simp [arrC, h]
theorem arrC_one (L : List Int) : ((arrC L).toArray.all (·.oneCell')) = true := by
  rw [List.all_toArray, List.all_eq_true]
  intro v hv
  unfold arrC at hv
  rw [List.mem_map] at hv
  obtain ⟨i, _, rfl⟩ := hv
  rfl
theorem arrC_agg (L : List Int) : aggOk (.agg (arrC L).toArray) = true := by
  simp only [aggOk, Bool.and_eq_true, beq_iff_eq]
  exact ⟨by simp [arrC_len], arrC_one L⟩
theorem arrC_set (L : List Int) (x : Int) (k : Nat) (hx : x = (k : Int)) (hk : k < 17) : (arrC L).set k (.bool true) = arrC (L ++ [x]) := by
  apply List.ext_getElem?
  intro i
  rw [List.getElem?_set]
  by_cases hi : i < 17
  · rw [arrC_get _ hi, arrC_get _ hi, arrC_len]
    by_cases e : k = i
    · subst e; subst hx; rw [if_pos rfl, if_pos hk]; simp [ai]
    · rw [if_neg e]
      have : ai (L ++ [x]) i = ai L i := by
        unfold ai
        rw [Bool.eq_iff_iff]
        simp only [List.contains_iff_mem, List.mem_append, List.mem_singleton]
        constructor
        · rintro (h | h)
          · exact h
          · exfalso; omega
        · exact Or.inl
      rw [this]
  · rw [List.getElem?_eq_none (by rw [arrC_len]; omega), List.getElem?_eq_none (by rw [arrC_len]; omega), arrC_len]
    rw [if_neg (by omega)]
theorem below_setRow {B : Nat} {w w' : World} (h : Below B w w') {g : Nat} (hg : B ≤ g) (cs : Array Value) : Below B w (w'.setRow g cs) :=
  ⟨h.os, h.tape, h.output, by simp [World.setRow]; exact h.size, fun k hk => (setRow_other w' g k cs (by omega)).trans (h.block k hk)⟩

theorem alloc3 (w : World) (o1 o2 o3 : Obj) : (((w.alloc o1).alloc o2).alloc o3).heap[w.heap.size + 1]? = some o2 ∧ (((w.alloc o1).alloc o2).alloc o3).heap[w.heap.size + 2]? = some o3 ∧ w.grownBy (((w.alloc o1).alloc o2).alloc o3) none := by
  have h1 := heap_alloc_new (w.alloc o1) o2
  have h2 := heap_alloc_new ((w.alloc o1).alloc o2) o3
  rw [alloc_size] at h1
  rw [alloc_size, alloc_size] at h2
  exact ⟨heap_kept h1 (grown_alloc _ _) (by simp), h2, grown_trans (grown_alloc _ _) (grown_trans (grown_alloc _ _) (grown_alloc _ _))⟩

section
attribute [local go_sem ↓] wp_load61 wp_store61
attribute [local go_sem] blkOf_ptr offOf_ptr isPtr_ptr
set_option maxRecDepth 100000 in
set_option maxHeartbeats 1000000 in
theorem aislesOf_any (R W : Int) (ao : Option Addr) (n cap : Nat) (L : List Int) (w : World) (hc : CbIn w ao n cap L) (hW : W ≤ 16) (hr : rise W 0 L) :
    Calls Tryd.prog 16 #[cbV R W (.slice ao n cap)] w fun e w' => e = .returned (.agg (arrC L).toArray) ∧ w.grownBy w' none := by
  have hlen := hc.len
  have hsm := hc.sm
  have HC := hide (And.intro hc (And.intro hlen hr))
  clear hc hr hlen
  unfold cbV
  obtain ⟨C, hC⟩ : ∃ C, C = arrC L := ⟨_, rfl⟩
  rw [← hC]
  have HCC := hide hC
  clear hC
  go_enter Tryd.func16, Tryd.ntmps16
  go_wp2
  go_loopg [9] n (fun k i wr => ∃ j : Nat, k + j = n ∧ i = .int .i64 j ∧ wr.heap[w.heap.size + 1]? = some (.cells (arrC []).toArray 47 (0, 0)) ∧ wr.heap[w.heap.size + 2]? = some (.cells (arrC (L.take j)).toArray 47 (0, 0)) ∧ w.grownBy wr none)
  case atStart =>
    obtain ⟨h1, h2, h3⟩ := alloc3 w (.cells #[.int .i64 R, .int .i64 W, .slice ao n cap] 25) (.cells (arrC []).toArray 47) (.cells (arrC []).toArray 47)
    exact ⟨0, by omega, rfl, h1, h2, h3⟩
  case round =>
    obtain ⟨j, hkj, rfl, h1, h2, hg⟩ := hrel
    by_cases hk : 0 < gk
    · obtain ⟨hc, hlen, hr⟩ := HC.out
      have hj : j < L.length := by rw [hlen]; omega
      obtain ⟨a, rfl, hcell⟩ := (hc.grown hg).cell hj
      have hm := rise_mem hr L[j] (List.getElem_mem hj)
      obtain ⟨x, hx⟩ : ∃ x : Nat, L[j] = (x : Int) := ⟨L[j].toNat, by omega⟩
      have hx2 : x < 17 := by omega
      have hset := arrC_set (L.take j) L[j] x hx hx2
      have htk : L.take j ++ [L[j]] = L.take (j + 1) := by rw [List.take_add_one, List.getElem?_eq_getElem hj]; rfl
      rw [htk] at hset
      have hcu := (cell_row h2 x).trans (arrC_get _ hx2)
      have hfu : wr.frozen? ⟨w.heap.size + 2, x, none⟩ = false := free_row h2 _
      rw [hx] at hcell
      have HR := hide (And.intro hset (And.intro h1 (And.intro h2 hg)))
      have h5 : (0 : Int) ≤ (j : Int) := by omega
      have h6 : (j : Int) < (n : Int) := by omega
      have h7 : (x : Int) < 17 := by omega
      clear hc hlen hr hm hset htk h1 h2 hg hx
      generalize ai (L.take j) x = bb at *
      go_wp2
      go_roundg (gk - 1)
      case measure => omega
      case rel =>
        obtain ⟨hset, h1, h2, hg⟩ := HR.out
        refine ⟨j + 1, by omega, by go_num, ?_, ?_, ?_⟩
        · exact (Below.heap_setCell _ _ _ _ (by simp)).trans h1
        · rw [← hset]; exact row_setCell h2 x _
        · exact grown_then hg (grown_setCell _ _ _ _) (fun i e => by cases e; exact Or.inl (by omega))
    · have hj : j = n := by omega
      subst hj
      obtain ⟨hc, hlen, hr⟩ := HC.out
      rw [← hlen, List.take_length, ← HCC.out] at h2
      have hrng := range_row h2 (by rw [HCC.out]; exact arrC_len L)
      have hok := hrng.1
      have hof := hrng.2
      have hagg : aggOk (.agg C.toArray) = true := by rw [HCC.out]; exact arrC_agg L
      have hrk : rowOk wr (w.heap.size + 1) := ⟨_, _, h1, by simp [arrC_len]⟩
      have HR := hide (And.intro h1 (And.intro h2 hg))
      clear hrng hc hlen hr h1 h2 hg
      go_wp2
      obtain ⟨h1, h2, hg⟩ := HR.out
      have hl : (loadVar 47 ⟨w.heap.size + 1, 0, none⟩).run Tryd.prog (wr.setRow (w.heap.size + 1) C.toArray) = .ok (.agg C.toArray) (wr.setRow (w.heap.size + 1) C.toArray) :=
        run_loadVar_row _ _ 47 47 C.toArray (0, 0) _ (setRow_heap wr _ _ _ 47 _ h1) Tryd.underlying47 rfl (by rw [Tryd.size47, HCC.out]; simp [arrC_len])
      refine bodyPost_ret (v := .agg C.toArray) (by simp [results, Tryd.results16, asAddr, hl]) rfl ⟨rfl, ?_⟩
      exact below_grown (below_setRow (grown_below hg) (by omega) _)
end
theorem tmod_nat (s W : Nat) : (s : Int).tmod (W : Int) = ((s % W : Nat) : Int) := by
  rw [Int.tmod_eq_emod_of_nonneg (by omega)]; rfl
theorem tdiv_nat (s W : Nat) : (s : Int).tdiv (W : Int) = ((s / W : Nat) : Int) := by
  rw [Int.tdiv_eq_ediv_of_nonneg (by omega)]; rfl
set_option maxHeartbeats 1000000 in
theorem begins_any (R : Int) (W : Nat) (v : Value) (L : List Int) (s : Nat) (h0 : 1 ≤ W) (h1 : W ≤ 16) (w : World) :
    Calls Tryd.prog 18 #[cbV R W v, .agg (arrC L).toArray, .int .i64 s] w fun e w' => e = .returned (.bool (bg W L s)) ∧ w.grownBy w' none := by
  have hq := Nat.mod_lt s (show W > 0 by omega)
  have hb : bg W L s = (s % W == 0 || ai L (s % W)) := rfl
  have ht := tmod_nat s W
  obtain ⟨C, hC⟩ : ∃ C, C = arrC L := ⟨_, rfl⟩
  have hget : C[s % W]? = some (.bool (ai L (s % W))) := by rw [hC]; exact arrC_get L (by omega)
  rw [← hC, hb]
  clear hC hb
  generalize s % W = q at *
  generalize ai L q = z at *
  have G : ∀ o o', w.grownBy ((w.alloc o).alloc o') none := fun o o' => grown_trans (grown_alloc _ _) (grown_alloc _ _)
  have hcell : ((w.alloc (.cells #[.int .i64 R, .int .i64 W, v] 25)).alloc (.cells C.toArray 47)).cell? ⟨w.heap.size + 1, q, none⟩ = some (.bool z) := by
    have h3 := heap_alloc_new (w.alloc (.cells #[.int .i64 R, .int .i64 W, v] 25)) (.cells C.toArray 47)
    rw [alloc_size] at h3
    rw [cell_row h3]; exact hget
  clear hget
  have hne : ((W : Int) == 0) = false := by simp; omega
  have hq1 : (q : Int) < 17 := by omega
  unfold cbV
  by_cases h2 : q = 0
  · subst h2
    go_enter Tryd.func18, Tryd.ntmps18
    go_wp2
    go_ret
    exact ⟨rfl, G _ _⟩
  · have h4 : (q == 0) = false := by simpa using h2
    have h5 : ((q : Int) == 0) = false := by simp; omega
    rw [h4]
    clear h4
    go_enter Tryd.func18, Tryd.ntmps18
    go_wp2
    go_ret
    exact ⟨by simp, G _ _⟩
end Go.Proofs.YtomoclicbjkpoabDoor
