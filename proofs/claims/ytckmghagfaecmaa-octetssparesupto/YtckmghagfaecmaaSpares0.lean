/- OctetsSpares: writers, readers and rows side by side: what each step leaves of the others. -/
import Derived.Test.YtckmghagfaecmaaRefNum
import Derived.Test.YtckmghagfaecmaaOps
import Derived.Test.YtckmghagfaecmaaKApart2
import Derived.Laws.AppendOwnNone
namespace Go.Proofs.Ytckmghagfaecmaa
open Go.RowKit
attribute [local go_sem ↓] Go.wp_at_zero Go.wp_at_succ

theorem sp_none (v : Value) : v.ownBlock = none ∨ v.ownBlock ≠ none := by cases v.ownBlock <;> simp
theorem sp_keep {w w' : World} {B n : Nat} {e : TypeId} {v : Value} {xs : List Value} (h : w.ownsRow B e 1 v n xs) (hg : w.grownBy w' none) : w'.ownsRow B e 1 v n xs := h.kept hg (sp_none v)
theorem sp_size53 : (Try.prog.info? 53).map (·.size) = some 66 := by kernel_rfl
theorem sp_cells {w : World} {g : Nat} {D : List Int} (h : WrAt w g D) : ∃ row, w.heap[g]? = some (.cells row.toArray 53 (0, 0)) ∧ row.length = 66 ∧ w.rangeAt g 0 row ∧ ∀ u ∈ row, u.oneCell' = true := by
  obtain ⟨v, cs, op, hb, hl, hc, he⟩ := h
  refine ⟨_, hb, by rw [wrow_length, hl], ?_, ?_⟩
  · intro j u hu
    rw [Nat.zero_add, cell_row hb]; exact hu
  · intro u hu
    obtain ⟨p, rfl⟩ := hc.ptr
    simp only [wrow, List.mem_cons, List.mem_append, List.mem_map, List.not_mem_nil, or_false] at hu
    rcases hu with rfl | ⟨x, _, rfl⟩ | rfl <;> rfl
theorem sp_there (w : World) (C : Array Value) (t : TypeId) (n : Nat) (h : C.size = n) : (w.alloc (.cells C t)).there w.heap.size 0 n := by
  intro j hj
  have h1 := heap_alloc_new w (.cells C t)
  refine ⟨?_, free_row h1 _⟩
  rw [Nat.zero_add, cell_of_row _ _ j C t (0, 0) h1]
  simp; omega
/-- All that a copy of a writer asks. -/
theorem sp_twin {w : World} {g : Nat} {D : List Int} (h : WrAt w g D) : ∃ row : List Value, w.rangeAt g 0 row ∧ (Try.prog.info? 53).map (·.size) = some row.length ∧ (w.alloc (.cells Try.zeroCells53 53)).there w.heap.size 0 row.toArray.size ∧ (Try.prog.info? 53).map (·.size) = some row.toArray.size ∧
    row.toArray.all (·.oneCell') = true ∧ WrAt ((w.alloc (.cells Try.zeroCells53 53)).setCells w.heap.size 0 row) w.heap.size D ∧ w.grownBy ((w.alloc (.cells Try.zeroCells53 53)).setCells w.heap.size 0 row) none := by
  obtain ⟨row, hrow, hrl, hrng, hone⟩ := sp_cells h
  obtain ⟨t1, t2, t3⟩ := twin_wr (C := Try.zeroCells53) h hrow (by rw [hrl]; kernel_rfl)
  refine ⟨row, hrng, by rw [hrl]; exact sp_size53, ?_, ?_, all_oneCell_toArray hone, t1, t3⟩
  · have := sp_there w Try.zeroCells53 53 66 (by kernel_rfl)
    simpa [hrl] using this
  · simp [hrl, sp_size53]

/-- The three writers. -/
structure Ws (w0 w : World) (W T D : Nat) (bw bt bd : List Int) : Prop where
  ww : WrAt w W bw
  wt : WrAt w T bt
  wd : WrAt w D bd
  ne : W ≠ T ∧ W ≠ D ∧ T ≠ D
  lo : w0.heap.size ≤ W ∧ w0.heap.size ≤ T ∧ w0.heap.size ≤ D
  grown : w0.grownBy w none
section
variable {w0 w w' : World} {W T D : Nat} {bw bt bd : List Int}
theorem Ws.kept (h : Ws w0 w W T D bw bt bd) (hg : w.grownBy w' none) : Ws w0 w' W T D bw bt bd :=
  ⟨h.ww.kept hg (by simp) (NoBlock.none _), h.wt.kept hg (by simp) (NoBlock.none _), h.wd.kept hg (by simp) (NoBlock.none _), h.ne, h.lo, grown_trans h.grown hg⟩
/-- A block is written that is none of theirs. -/
theorem Ws.far (h : Ws w0 w W T D bw bt bd) {k : Nat} (hg : w.grownBy w' (some k)) (hk : k ≠ W ∧ k ≠ T ∧ k ≠ D) (hn : NoBlock w (some k)) (hl : w0.heap.size ≤ k) : Ws w0 w' W T D bw bt bd :=
  ⟨h.ww.kept hg (by simpa using hk.1) hn, h.wt.kept hg (by simpa using hk.2.1) hn, h.wd.kept hg (by simpa using hk.2.2) hn, h.ne, h.lo, grown_then h.grown hg (fun j e => by cases e; exact Or.inl hl)⟩
theorem Ws.putW (h : Ws w0 w W T D bw bt bd) {b : List Int} (hW : WrAt w' W b) (hg : w.grownBy w' (some W)) : Ws w0 w' W T D b bt bd :=
  ⟨hW, h.wt.kept hg (by simpa using h.ne.1) h.ww.noBlock, h.wd.kept hg (by simpa using h.ne.2.1) h.ww.noBlock, h.ne, h.lo, grown_then h.grown hg (fun j e => by cases e; exact Or.inl h.lo.1)⟩
theorem Ws.putT (h : Ws w0 w W T D bw bt bd) {b : List Int} (hW : WrAt w' T b) (hg : w.grownBy w' (some T)) : Ws w0 w' W T D bw b bd :=
  ⟨h.ww.kept hg (by simpa using Ne.symm h.ne.1) h.wt.noBlock, hW, h.wd.kept hg (by simpa using h.ne.2.2) h.wt.noBlock, h.ne, h.lo, grown_then h.grown hg (fun j e => by cases e; exact Or.inl h.lo.2.1)⟩
theorem Ws.putD (h : Ws w0 w W T D bw bt bd) {b : List Int} (hW : WrAt w' D b) (hg : w.grownBy w' (some D)) : Ws w0 w' W T D bw bt b :=
  ⟨h.ww.kept hg (by simpa using Ne.symm h.ne.2.1) h.wd.noBlock, h.wt.kept hg (by simpa using Ne.symm h.ne.2.2) h.wd.noBlock, hW, h.ne, h.lo, grown_then h.grown hg (fun j e => by cases e; exact Or.inl h.lo.2.2)⟩
end

/-- Where a row's block lies. -/
def Rng (v : Value) (lo hi : Nat) : Prop := ∀ k, v.ownBlock = some k → lo ≤ k ∧ k < hi
theorem Rng.of {w : World} {B n : Nat} {e : TypeId} {v : Value} {xs : List Value} (h : w.ownsRow B e 1 v n xs) : Rng v B w.heap.size := fun k e => h.lt k e
theorem Rng.apart {x y : Value} {a b c d : Nat} (h : Rng x a b) (k : Rng y c d) (hbc : b ≤ c) : x.ownBlock = none ∨ x.ownBlock ≠ y.ownBlock := by
  cases hb : x.ownBlock with
  | none => exact Or.inl rfl
  | some j =>
    right
    intro e
    have h1 := (h j hb).2
    have h2 := (k j e.symm).1
    omega
theorem Rng.apart' {x y : Value} {a b c d : Nat} (h : Rng x a b) (k : Rng y c d) (hbc : d ≤ a) : x.ownBlock = none ∨ x.ownBlock ≠ y.ownBlock := Ap.apart_swap (k.apart h hbc)

/-- A row of bytes, and where its block lies. -/
structure Row (w : World) (v : Value) (n : Nat) (xs : List Int) (lo hi : Nat) : Prop where
  own : w.ownsRow 0 5 1 v n (xs.map (Value.int .u8))
  rng : Rng v lo hi
theorem Row.of {w : World} {B n : Nat} {v : Value} {xs : List Int} (h : w.ownsRow B 5 1 v n (xs.map (Value.int .u8))) : Row w v n xs B w.heap.size := ⟨own_base h (Nat.zero_le _), Rng.of h⟩
theorem Row.wide {w : World} {v : Value} {n : Nat} {xs : List Int} {lo hi lo' hi' : Nat} (h : Row w v n xs lo hi) (h1 : lo' ≤ lo) (h2 : hi ≤ hi') : Row w v n xs lo' hi' := ⟨h.own, fun k e => by have := h.rng k e; omega⟩
theorem Row.kept {w w' : World} {v : Value} {n : Nat} {xs : List Int} {lo hi : Nat} (h : Row w v n xs lo hi) (hg : w.grownBy w' none) : Row w' v n xs lo hi := ⟨sp_keep h.own hg, h.rng⟩
/-- A block is written that holds no bytes. -/
theorem Row.far {w w' : World} {v : Value} {n : Nat} {xs : List Int} {lo hi k : Nat} (h : Row w v n xs lo hi) (hg : w.grownBy w' (some k)) (hn : NoBytes w (some k)) : Row w' v n xs lo hi := by
  refine ⟨h.own.kept hg (Or.inr ?_), h.rng⟩
  rcases h.own.2 with ⟨rfl, _⟩ | ⟨g, cap, cur, rfl, _, hc, _⟩
  · simp [Value.ownBlock]
  · simp only [Value.ownBlock, ne_eq, Option.some.injEq]
    rintro rfl
    exact hn g cur (0, 0) rfl hc
theorem Row.at {w : World} {v : Value} {n : Nat} {xs : List Int} {lo hi : Nat} (h : Row w v n xs lo hi) : ∃ ao cap, v = .slice ao n cap ∧ xs.length = n ∧ n ≤ cap ∧ cap ≤ maxLen ∧ At w ao xs ∧ (ao = none → n = 0 ∧ cap = 0) := by
  obtain ⟨ao, cap, h1, h2, h3, h4, h5, h6, _⟩ := own_at h.own
  exact ⟨ao, cap, h1, h2, h3, h4, h5, h6⟩

/-- A writer stays where blocks of bytes alone are written. -/
theorem chain_T {P : Nat → Prop} {w w' : World} (hg : Ap.GrownT P w w') (hT : ∀ k, P k → ∀ c fr, w.heap[k]? ≠ some (.cells c 75 fr)) : ∀ (cs : List (List Int)) (v : Value), Chain w v cs → Chain w' v cs
  | [], _, h => h
  | _ :: cs, _, ⟨g, v', hv, hb, hl, hc⟩ => ⟨g, v', hv, (hg.block g (row_lt hb) (fun t => hT g t _ _ hb)).trans hb, hl, chain_T hg hT cs v' hc⟩
theorem wr_T {P : Nat → Prop} {w w' : World} {g : Nat} {bs : List Int} (h : WrAt w g bs) (hg : Ap.GrownT P w w') (hT : ∀ k, P k → ∃ c, w.heap[k]? = some (.cells c 5 (0, 0))) : WrAt w' g bs := by
  obtain ⟨v, cs, op, hb, hl, hc, he⟩ := h
  refine ⟨v, cs, op, (hg.block g (row_lt hb) (fun t => ?_)).trans hb, hl, chain_T hg (fun k t c fr hk => ?_) cs v hc, he⟩
  · obtain ⟨c, hc⟩ := hT g t
    rw [hb] at hc
    simp at hc
  · obtain ⟨c', hc'⟩ := hT k t
    rw [hk] at hc'
    simp at hc'

/-- append(s, x...), at an operation of a region. -/
theorem wp_append_at {w : World} {o : Oper} {a : Act} {K : Act → World → Prop} {Q : Exit → Act → World → Prop} (s x : Operand)
    (ho : o.op = .call { callee := .builtin .append, args := #[s, x], argTypes := #[32, 32] }) (base : Nat) (v : Value) (n : Nat) (xs : List Value) (hs : a.eval s = v) (hown : w.ownsRow base 5 1 v n xs)
    (ao : Option Addr) (m c : Nat) (ys : List Int) (hx : a.eval x = .slice ao m c) (hm : ys.length = m) (hat : At w ao ys) (hnil : ao = none → m = 0 ∧ c = 0)
    (hbytes : n + m ≤ 140737488355328) (hbase : base ≤ w.heap.size)
    (h : ∀ v' w', w'.ownsRow base 5 1 v' (n + m) (xs ++ ys.map (Value.int .u8)) → w.grownBy w' v.ownBlock → K (a.put o.dst v') w') : Oper.wp Try.prog o a w K Q := by
  obtain ⟨i0, hi, hz0, hz1, hz2⟩ := info_parts Try.info5
  cases ao with
  | none =>
    obtain ⟨rfl, rfl⟩ := hnil rfl
    have hrun := run_append_owned_none (P := Try.prog) (w := w) base 32 o.type 5 i0 1 Try.underlying32 hi v n xs hown
    unfold Oper.wp
    simp [execOp, ho, resolve, invoke, builtin, hs, hx, hrun, Result.andThen]
    have : ys = [] := List.eq_nil_of_length_eq_zero hm
    subst this
    exact h v w (by simpa using hown) (grown_refl w _)
  | some ad =>
    refine wp_append_own _ s x 32 ho base 5 i0 (.int .u8 0) 1 1 Try.underlying32 hi hz0 hz1 hz2 rfl (by decide) v n xs hs hown ad m c (ys.map (Value.int .u8)) hx (by simp [hm]) ?_ ?_ (by unfold maxLen; omega) (by omega) hbase (fun v' w' h1 h2 h3 => h v' w' h1 h2)
    · intro j u hu
      rw [List.getElem?_map] at hu
      cases hj : ys[j]? with
      | none => simp [hj] at hu
      | some y =>
        simp [hj] at hu
        obtain ⟨a', ha', hc'⟩ := hat j y hj
        cases ha'
        rw [← hu]; exact hc'
    · intro u hu; rw [List.mem_map] at hu; obtain ⟨y, _, rfl⟩ := hu; rfl

/-- Out: a new block. -/
theorem out_ex (g L : Nat) (bs : List Int) (w : World) (hW : WrAt w g bs) (hL : bs.length = L) (hl : L ≤ 100000000) :
    Calls Try.prog 24 #[.pointer (some ⟨g, 0, none⟩)] w fun e w' => ∃ A, e = .returned (.slice (some ⟨A, 0, none⟩) L L) ∧ At w' (some ⟨A, 0, none⟩) bs ∧ w.heap.size = A ∧ w'.heap[A]? = some (.cells (bs.map (Value.int .u8)).toArray 5 (0, 0)) ∧ w.grownBy w' none := by
  subst hL
  refine (out_any g bs w hW (by omega)).mono ?_
  rintro e w' ⟨rfl, h1, h2⟩
  exact ⟨_, rfl, at_row h1, rfl, h1, h2⟩
theorem row_ty {w : World} {B n j : Nat} {v : Value} {xs : List Value} (h : w.ownsRow B 5 1 v n xs) (e : v.ownBlock = some j) : ∃ c, w.heap[j]? = some (.cells c 5 (0, 0)) := by
  rcases h.2 with ⟨rfl, _⟩ | ⟨g, cap, cur, rfl, _, hc, _⟩
  · simp [Value.ownBlock] at e
  · simp only [Value.ownBlock, Option.some.injEq] at e
    subst e
    exact ⟨cur, hc⟩
theorem mem_own {vs : List Value} {j : Nat} (h : ∃ i, i < vs.length ∧ (vs.getD i undef).ownBlock = some j) : ∃ v ∈ vs, v.ownBlock = some j := by
  obtain ⟨i, hi, e⟩ := h
  refine ⟨vs.getD i undef, ?_, e⟩
  simp [List.getD_eq_getElem?_getD, hi]
theorem tmod_neg (x : Int) (n : Nat) (hn : 1 ≤ n) (h : x.tmod (n : Int) < 0) : x.tmod (n : Int) + (n : Int) = x % (n : Int) := by
  have h1 := Int.tmod_eq_emod (a := x) (b := (n : Int))
  have h2 := Int.emod_nonneg x (show (n : Int) ≠ 0 by omega)
  have h3 := Int.emod_lt_of_pos x (show (0 : Int) < (n : Int) by omega)
  rw [h1] at h ⊢
  split at h
  · omega
  · rename_i h4
    rw [if_neg h4]
    simp
theorem tmod_nonneg (x : Int) (n : Nat) (hn : 1 ≤ n) (h : 0 ≤ x.tmod (n : Int)) : x.tmod (n : Int) = x % (n : Int) := by
  have h1 := Int.tmod_eq_emod (a := x) (b := (n : Int))
  have h2 := Int.emod_nonneg x (show (n : Int) ≠ 0 by omega)
  have h3 := Int.emod_lt_of_pos x (show (0 : Int) < (n : Int) by omega)
  rw [h1] at h ⊢
  split
  · omega
  · rename_i h4
    rw [if_neg h4] at h
    simp at h
    omega
set_option maxHeartbeats 400000 in
theorem pick_any (x N : Int) (n : Nat) (w : World) (hN : N = (n : Int)) (hn : 1 ≤ n) (hn2 : n ≤ 1000000000000) :
    Calls Try.prog 38 #[.int .i64 x, .int .i64 N] w fun e w' => e = .returned (.int .i64 (x % (n : Int))) ∧ w' = w := by
  subst hN
  have h1 : (1 : Int) ≤ (n : Int) := by omega
  have h2 : ((n : Int) == 0) = false := by simp; omega
  have hb := Int.tmod_lt_of_pos x (show (0 : Int) < (n : Int) by omega)
  have hb2 := Int.lt_tmod_of_pos x (show (0 : Int) < (n : Int) by omega)
  have hr1 := tmod_neg x n hn
  have hr2 := tmod_nonneg x n hn
  by_cases hs : x.tmod (n : Int) < 0
  · have hr := hr1 hs
    have HR := hide hr
    clear hr hr1 hr2
    go_enter Try.func38, Try.ntmps38
    go_wp2
    go_ret
    exact ⟨by rw [← HR.out]; rfl, rfl⟩
  · have hs2 : 0 ≤ x.tmod (n : Int) := by omega
    have hr := hr2 hs2
    have HR := hide hr
    clear hr hr1 hr2
    go_enter Try.func38, Try.ntmps38
    go_wp2
    go_ret
    exact ⟨by rw [← HR.out]; rfl, rfl⟩
end Go.Proofs.Ytckmghagfaecmaa
