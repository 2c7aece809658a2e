/- The contract of worthsOf. -/
import Derived.Test.YtnjcajcjdfhinabDoorCa
namespace Go.Proofs.YtnjcajcjdfhinabDoor
open Go.RowKit Cn
attribute [local go_sem ↓] Go.wp_at_zero Go.wp_at_succ

theorem Tryd.size33 : (Tryd.prog.info? 33).map (·.size) = some 8 := by kernel_rfl
theorem wp_load37 {x : Operand} {dst : Option Tmp} {ty : TypeId} {pos : String} {A : Array Edge} {gd : Option (Nat × Bool)} {a : Act} {w : World} {K : Act → World → Prop} {Q : Exit → Act → World → Prop} (hx : isPtr (a.eval x) = true) (hr : rangeOk w (blkOf (a.eval x)) (offOf (a.eval x)) 8) :
    Oper.wp Tryd.prog { dst := dst, op := .load 33 x, type := ty, pos := pos, after := A, guard := gd } a w K Q = K (a.put dst (.agg (rangeOf w (blkOf (a.eval x)) (offOf (a.eval x)) 8).toArray)) w :=
  wp_load_range 33 x rfl _ 8 Tryd.underlying33 rfl Tryd.size33 hx hr
theorem range_row {w : World} {b : Nat} {C : List Value} {t : TypeId} {fr : Nat × Nat} (h : w.heap[b]? = some (.cells C.toArray t fr)) (hC : C.length = 8) : rangeOk w b 0 8 ∧ rangeOf w b 0 8 = C := by
  have hr : w.rangeAt b 0 C := by
    intro j v hv
    rw [Nat.zero_add, cell_row h]; exact hv
  exact ⟨rangeOk_of hr hC, rangeOf_eq hr hC⟩
def aggOk (v : Value) : Bool := match v with | .agg c => c.size == 8 && c.all (·.oneCell') | _ => false
def rowOk (w : World) (b : Nat) : Prop := ∃ old t, w.heap[b]? = some (.cells old t (0, 0)) ∧ old.size = 8
theorem wp_store37 {x y : Operand} {dst : Option Tmp} {ty : TypeId} {pos : String} {A : Array Edge} {gd : Option (Nat × Bool)} {a : Act} {w : World} {K : Act → World → Prop} {Q : Exit → Act → World → Prop} (hx : isPtr (a.eval x) = true) (ho : offOf (a.eval x) = 0) (hy : aggOk (a.eval y) = true) (hr : rowOk w (blkOf (a.eval x))) :
    Oper.wp Tryd.prog { dst := dst, op := .store 33 x y, type := ty, pos := pos, after := A, guard := gd } a w K Q = K (a.put dst undef) (w.setRow (blkOf (a.eval x)) (a.eval y).cells) := by
  have hp := ptr_of hx
  rw [ho] at hp
  obtain ⟨old, t, hg, hs⟩ := hr
  generalize blkOf (a.eval x) = b at *
  cases hv : a.eval y with
  | agg c =>
    rw [hv] at hy
    simp only [aggOk, Bool.and_eq_true, beq_iff_eq] at hy
    unfold Oper.wp execOp
    simp only [hp, hv, Instr.storeAt, Instr.sureAddr, Sem.run_bind, Sem.run_pure, Result.andThen_ok, run_storeVar_row w b t 33 old c hg (by rw [Tryd.size33, hy.1]) (by rw [hs, hy.1]) hy.2, Value.cells]
    rfl
  | _ => rw [hv] at hy; cases hy
theorem cs_agg (l : List Nat) (h : l.length = 8) : aggOk (.agg (cs l).toArray) = true := by
  simp only [aggOk, Bool.and_eq_true, beq_iff_eq]
  exact ⟨by simp [cs_len, h], cs_one l⟩

/-- The worths behind k rounds. -/
def wk (id k : Nat) : List Nat := (List.range 8).map fun p => if 7 ≤ p + k ∧ p < 7 then id / 32 ^ (6 - p) % 32 else 0
theorem wk_len (id k : Nat) : (wk id k).length = 8 := by simp [wk]
theorem wk_step (id k : Nat) (h : k < 7) : (wk id k).set (6 - k) (id / 32 ^ k % 32) = wk id (k + 1) := by
  apply List.ext_getElem?
  intro i
  rw [List.getElem?_set, wk_len]
  by_cases hi : i < 8
  · unfold wk
    simp only [List.getElem?_map, List.getElem?_range hi, Option.map_some]
    by_cases e : 6 - k = i
    · subst e
      rw [if_pos rfl, if_pos (by omega), if_pos (by omega), show 6 - (6 - k) = k by omega]
    · rw [if_neg e]
      by_cases e2 : 7 ≤ i + k ∧ i < 7
      · rw [if_pos e2, if_pos (by omega)]
      · rw [if_neg e2, if_neg (by omega)]
  · rw [List.getElem?_eq_none (by rw [wk_len]; omega), List.getElem?_eq_none (by rw [wk_len]; omega), if_neg (by omega)]
theorem wk_zero (id : Nat) : wk id 0 = [0, 0, 0, 0, 0, 0, 0, 0] := rfl
theorem wk_seven (id : Nat) : wk id 7 = dg id ++ [0] := by
  simp [wk, dg, List.range, List.range.loop]
theorem low_wk (id : Nat) : Low (wk id 7) := by
  rw [wk_seven]
  intro x hx
  rw [List.mem_append] at hx
  rcases hx with h | h
  · exact dg_low id x h
  · simp at h; omega
theorem div_step (id k : Nat) : id / 32 ^ k / 32 = id / 32 ^ (k + 1) := by rw [Nat.div_div_eq_div_mul, Nat.pow_succ]

section
attribute [local go_sem ↓] wp_load37 wp_store37
attribute [local go_sem] blkOf_ptr offOf_ptr isPtr_ptr
set_option maxRecDepth 100000 in
set_option maxHeartbeats 1000000 in
theorem worthsOf_any (id : Nat) (hid : id < 4294967296) (w : World) (hT : Tab w) :
    Calls Tryd.prog 9 #[.int .u32 (id : Int)] w fun e w' => e = .returned (arr (wo id)) ∧ w.grownBy w' none := by
  obtain ⟨V, hV⟩ : ∃ V, V = wo id := ⟨_, rfl⟩
  rw [← hV]
  have HV := hide (And.intro hV (And.intro hid hT))
  clear hV hT hid
  go_enter Tryd.func9, Tryd.ntmps9
  go_wp2
  go_loopg [4, 7] 7 (fun k r i wr => ∃ j R : Nat, k + j = 7 ∧ i = .int .i64 (j : Int) ∧ r = .int .u32 (R : Int) ∧ R = id / 32 ^ j ∧ wr.heap[w.heap.size]? = some (.cells (cs (wk id 0)).toArray 33 (0, 0)) ∧ wr.heap[w.heap.size + 1]? = some (.cells (cs (wk id j)).toArray 33 (0, 0)) ∧ w.grownBy wr none)
  case atStart =>
    obtain ⟨h1, h2, h3⟩ := alloc2 w (.cells (cs (wk id 0)).toArray 33) (.cells (cs (wk id 0)).toArray 33)
    exact ⟨0, id, by omega, rfl, rfl, by simp, h1, h2, h3⟩
  case round =>
    obtain ⟨j, R, hkj, rfl, rfl, hR, h1, h2, hg⟩ := hrel
    by_cases hk : 0 < gk
    · have hj : j < 7 := by omega
      have hRl : R < 4294967296 := by
        rw [hR]; exact Nat.lt_of_le_of_lt (Nat.div_le_self _ _) HV.out.2.1
      have hset : (cs (wk id j)).set (6 - j) (.int .u8 ((R % 32 : Nat) : Int)) = cs (wk id (j + 1)) := by rw [cs_set, hR, wk_step id j hj]
      obtain ⟨bb, hcu⟩ : ∃ bb : Nat, wr.cell? ⟨w.heap.size + 1, 6 - j, none⟩ = some (.int .u8 (bb : Int)) := ⟨_, (cell_row h2 (6 - j)).trans (cs_get _ (by rw [wk_len]; omega))⟩
      have hfu : wr.frozen? ⟨w.heap.size + 1, 6 - j, none⟩ = false := free_row h2 _
      have hdiv : R / 32 = id / 32 ^ (j + 1) := by rw [hR]; exact div_step id j
      have HR := hide (And.intro hset (And.intro h1 (And.intro h2 (And.intro hg hdiv))))
      have hix : IntKind.i64.wrap (6 - (j : Int)) = ((6 - j : Nat) : Int) := by rw [IntWalk.i64_in _ (by omega)]; omega
      have hix2 : (6 : Int) - (j : Int) = ((6 - j : Nat) : Int) := by omega
      have h7 : ((6 - j : Nat) : Int) < 8 := by omega
      have h8 : (0 : Int) ≤ ((6 - j : Nat) : Int) := by omega
      have hj1 : (j : Int) < 7 := by omega
      have hj0 : (0 : Int) ≤ (j : Int) := by omega
      have hm : (R : Int).tmod 32 = ((R % 32 : Nat) : Int) := by rw [Int.tmod_eq_emod_of_nonneg (by omega)]; rfl
      have hq : (R : Int).tdiv 32 = ((R / 32 : Nat) : Int) := by rw [Int.tdiv_eq_ediv_of_nonneg (by omega)]; rfl
      have hw8 : IntKind.u8.wrap ((R % 32 : Nat) : Int) = ((R % 32 : Nat) : Int) := by rw [wrap_u8]; omega
      have hw9 : IntKind.u32.wrap ((R % 32 : Nat) : Int) = ((R % 32 : Nat) : Int) := by rw [wrap_u32]; omega
      have hw10 : IntKind.u32.wrap ((R / 32 : Nat) : Int) = ((R / 32 : Nat) : Int) := by rw [wrap_u32]; omega
      clear hset h1 h2 hg hdiv hR
      generalize 6 - j = p at *
      generalize R % 32 = rm at *
      generalize R / 32 = rq at *
      go_wp2
      go_roundg (gk - 1)
      case measure => omega
      case rel =>
        obtain ⟨hset, h1, h2, hg, hdiv⟩ := HR.out
        refine ⟨j + 1, rq, by omega, by go_num, rfl, hdiv, ?_, ?_, ?_⟩
        · exact (Below.heap_setCell _ _ _ _ (by simp)).trans h1
        · rw [← hset]; exact row_setCell h2 _ _
        · exact grown_then hg (grown_setCell _ _ _ _) (fun i e => by cases e; exact Or.inl (by omega))
    · have hj : j = 7 := by omega
      subst hj
      obtain ⟨hV, hid, hT⟩ := HV.out
      have hrng := range_row h2 (by rw [cs_len, wk_len])
      have hok := hrng.1
      have hof := hrng.2
      have HC := hide (fun w' (hg' : wr.grownBy w' none) => check_any (wk id 7) (wk_len id 7) (low_wk id) w' (hT.grown (grown_trans hg hg')))
      rw [show (wk id 7).take 7 = dg id by rw [wk_seven, List.take_left' (dg_len id)]] at HC
      have hset : (cs (wk id 7)).set 7 (.int .u8 ((chk 0 (dg id) : Nat) : Int)) = cs V := by
        rw [cs_set, wk_seven, hV]; rfl
      have hVl : V.length = 8 := by rw [hV]; rfl
      have HR := hide (And.intro h1 (And.intro h2 (And.intro hg (And.intro hset hVl))))
      clear hrng h1 h2 hg hV hid hT hset hVl
      unfold arr at HC
      go_wp2_with fail
      refine (HC.out _ (grown_refl _ _)).mono ?_
      rintro e w1 ⟨rfl, hg1⟩
      obtain ⟨h1, h2, hg, hset, hVl⟩ := HR.out
      have k1 := heap_kept h1 hg1 (by simp)
      have k2 := heap_kept h2 hg1 (by simp)
      obtain ⟨bb, hcu⟩ : ∃ bb : Nat, w1.cell? ⟨w.heap.size + 1, 7, none⟩ = some (.int .u8 (bb : Int)) := ⟨_, (cell_row k2 7).trans (cs_get _ (by rw [wk_len]; omega))⟩
      have hfu : w1.frozen? ⟨w.heap.size + 1, 7, none⟩ = false := free_row k2 _
      have m2 := row_setCell k2 7 (.int .u8 ((chk 0 (dg id) : Nat) : Int))
      rw [hset] at m2
      have m1 := (Below.heap_setCell w1 ⟨w.heap.size + 1, 7, none⟩ (.int .u8 ((chk 0 (dg id) : Nat) : Int)) w.heap.size (by simp)).trans k1
      have hg2 := grown_then (grown_trans hg hg1) (grown_setCell w1 (w.heap.size + 1) 7 (.int .u8 ((chk 0 (dg id) : Nat) : Int))) (fun i e => by cases e; exact Or.inl (by omega))
      have hrng := range_row m2 (by rw [cs_len, hVl])
      have hok2 := hrng.1
      have hof2 := hrng.2
      have hagg := cs_agg V hVl
      have hrk : rowOk (w1.setCell ⟨w.heap.size + 1, 7, none⟩ (.int .u8 ((chk 0 (dg id) : Nat) : Int))) w.heap.size := ⟨_, _, m1, by simp [cs_len, wk_len]⟩
      have HR2 := hide (And.intro m1 (And.intro m2 (And.intro hg2 hVl)))
      clear hrng h1 h2 hg hset hVl k1 k2 m1 m2 hg2 hg1 HR hok hof HC
      generalize ((chk 0 (dg id) : Nat) : Int) = ck at *
      go_wp2
      obtain ⟨m1, m2, hg2, hVl⟩ := HR2.out
      have hl : (loadVar 33 ⟨w.heap.size, 0, none⟩).run Tryd.prog ((w1.setCell ⟨w.heap.size + 1, 7, none⟩ (.int .u8 ck)).setRow w.heap.size (cs V).toArray) = .ok (.agg (cs V).toArray) ((w1.setCell ⟨w.heap.size + 1, 7, none⟩ (.int .u8 ck)).setRow w.heap.size (cs V).toArray) :=
        run_loadVar_row _ _ 33 33 (cs V).toArray (0, 0) _ (setRow_heap _ _ _ _ 33 _ m1) Tryd.underlying33 rfl (by rw [Tryd.size33]; simp [cs_len, hVl])
      refine bodyPost_ret (v := .agg (cs V).toArray) (by simp [results, Tryd.results9, asAddr, hl]) rfl ⟨rfl, ?_⟩
      exact below_grown (below_setRow (grown_below hg2) (by omega) _)
end
end Go.Proofs.YtnjcajcjdfhinabDoor
