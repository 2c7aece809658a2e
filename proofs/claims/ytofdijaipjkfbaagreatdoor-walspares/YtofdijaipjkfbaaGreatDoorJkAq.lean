/- Texts joined: RefOf2, RefW, OneC, Dev. -/
import Derived.Test.YtofdijaipjkfbaaGreatDoorJkAp
import Derived.Deep.RegionLaw
import Derived.Test.YtofdijaipjkfbaaGreatDoorJkAo
import Derived.Test.YtofdijaipjkfbaaGreatDoorJkAm
/- The document's Of. -/
namespace Go.Proofs.YtofdijaipjkfbaaGreatDoor
open Go.RowKit Ap
attribute [local go_sem ↓] Go.wp_at_zero Go.wp_at_succ

/-- What Of has made of rows whose first one has sz bytes. -/
def RofAt (w w' : World) (R : List (List Nat)) (sz rb : Nat) (c : Int) : Prop :=
  w.heap.size ≤ rb ∧ w.grownBy w' none ∧ ((c = 0 ∧ (∀ y ∈ R, y.length = sz) ∧ ∃ v S, w'.heap[rb]? = some (.cells #[v, .slice none 0 0] 145 (0, 0)) ∧ RowAt w' w.heap.size v S ∧ S.map Bx.xs = R) ∨ (c = 2 ∧ (∃ y ∈ R, y.length ≠ sz) ∧ Empty w' rb))

theorem push_pre {wr w1 w2 : World} {lo rb : Nat} {v vw u : Value} {S : List Bx} (hb : wr.heap[rb]? = some (.cells #[v, vw] 145 (0, 0))) (hR : RowAt wr lo v S) (g1 : wr.grownBy w1 none) (g2 : (w1.alloc (.cells #[u] 39)).grownBy w2 v.ownBlock) :
    w1.cell? ⟨rb, 0, none⟩ = some v ∧ (w1.alloc (.cells #[u] 39)).cell? ⟨rb, 0, none⟩ = some v ∧ w2.cell? ⟨rb, 0, none⟩ = some v ∧ w2.frozen? ⟨rb, 0, none⟩ = false := by
  have hvn : v.ownBlock ≠ some rb := by
    intro e
    obtain ⟨_, c1, q1⟩ := own_block hR.row rb e
    rw [hb] at q1
    simp at q1
  have h1 := (g1.block rb (row_lt hb) (by simp)).trans hb
  have h2 := ((World.grownBy_alloc w1 (.cells #[u] 39) none).block rb (row_lt h1) (by simp)).trans h1
  have h3 := (g2.block rb (row_lt h2) (fun e => hvn e.symm)).trans h2
  exact ⟨cell_row (l := [v, vw]) h1 0, cell_row (l := [v, vw]) h2 0, cell_row (l := [v, vw]) h3 0, free_row h3 0⟩
/-- append, as one step of a region that draws, by its run. -/
theorem step_append_run {P : Program} {ops : Array Oper} {o : Oper} {a : Act} {w : World} {K : Act → World → Prop} {Q : Exit → Act → World → Prop} {E : Prop} (hg : o.guard = none) (s x : Operand) (t : TypeId) (hop : o.op = Op.call { callee := Callee.builtin Builtin.append, args := #[s, x], argTypes := #[t, t] })
    (v u : Value) (hs : a.eval s = v) (hx : a.eval x = u) {v' : Value} {w' : World} (hrun : ∀ ty, (Builtin.append_ #[t, t] ty #[v, u]).run P w = .ok v' w') (hK : K (a.put o.dst v') w') :
    if Region.wanted o (yielded ops a.tmps) = true then Oper.wp P o a w K Q else E := by
  have hw : Region.wanted o (yielded ops a.tmps) = true := by simp [Region.wanted, hg]
  rw [if_pos hw]
  have hr := hrun o.type
  unfold Oper.wp
  simp [execOp, hop, resolve, invoke, builtin, hs, hx, hr, Result.andThen]
  exact hK
/-- A row's twin, and what an append of it comes to. -/
theorem twin_push {wq : World} {lo rb j vcap sz cap : Nat} {vo ao : Option Addr} {vw : Value} {S : List Bx} {y : List Nat} (hb : wq.heap[rb]? = some (.cells #[.slice vo j vcap, vw] 145 (0, 0))) (hR : RowAt wq lo (.slice vo j vcap) S) (hS : S.length = j) (hat : At wq ao y) (hl : y.length = sz) (hs0 : 0 < sz) (hnil : ao = none → sz = 0 ∧ cap = 0) (hs1 : sz ≤ 140737488355328) (hlo : lo ≤ wq.heap.size) (hj : j ≤ 65536) :
    Calls Tryz.prog 100 #[.slice ao sz cap] wq.drew fun e w1 => ∃ gt ct g cap2 w2, e = .returned (.slice (some ⟨gt, 0, none⟩) sz ct) ∧ (∀ ty, (Builtin.append_ #[51, 51] ty #[.slice vo j vcap, .slice (some ⟨w1.heap.size, 0, none⟩) 1 1]).run Tryz.prog (w1.alloc (.cells #[.slice (some ⟨gt, 0, none⟩) sz ct] 39)) = .ok (.slice (some ⟨g, 0, none⟩) (j + 1) cap2) w2) ∧
      w1.cell? ⟨rb, 0, none⟩ = some (.slice vo j vcap) ∧ (w1.alloc (.cells #[.slice (some ⟨gt, 0, none⟩) sz ct] 39)).cell? ⟨rb, 0, none⟩ = some (.slice vo j vcap) ∧ w2.cell? ⟨rb, 0, none⟩ = some (.slice vo j vcap) ∧ w2.frozen? ⟨rb, 0, none⟩ = false ∧
      Hid ((w2.setCell ⟨rb, 0, none⟩ (.slice (some ⟨g, 0, none⟩) (j + 1) cap2)).heap[rb]? = some (.cells #[.slice (some ⟨g, 0, none⟩) (j + 1) cap2, vw] 145 (0, 0)) ∧ RowAt (w2.setCell ⟨rb, 0, none⟩ (.slice (some ⟨g, 0, none⟩) (j + 1) cap2)) lo (.slice (some ⟨g, 0, none⟩) (j + 1) cap2) (S ++ [⟨gt, ct, y⟩]) ∧ Kept wq (w2.setCell ⟨rb, 0, none⟩ (.slice (some ⟨g, 0, none⟩) (j + 1) cap2)) (fun i => i = rb ∨ (Value.slice vo j vcap).ownBlock = some i)) := by
  refine (twin_any ao sz cap y wq.drew hat hl hs0 hnil hs1).mono ?_
  rintro e w1 ⟨gt, ct, rfl, o1, g1⟩
  have g1' := grown_trans (grown_drew wq none) g1
  have hro := (hR.grown g1').row
  rw [hS] at hro
  obtain ⟨g, cap2, w2, hrun, o2, g2⟩ := run_row hro (Nat.le_trans hlo g1'.size) (.slice (some ⟨gt, 0, none⟩) sz ct) rfl hj
  obtain ⟨c1, c2, c3, c4⟩ := push_pre hb hR g1' g2
  have gz := World.grownBy_alloc w1 (.cells #[.slice (some ⟨gt, 0, none⟩) sz ct] 39) none
  exact ⟨gt, ct, g, cap2, w2, rfl, hrun, c1, c2, c3, c4, hide (push_row hb hR (grown_trans g1' gz) (BxAt.grown o1 gz) hlo (by rw [hS, ← hl] at *; exact o2) g2)⟩
end Go.Proofs.YtofdijaipjkfbaaGreatDoor
/- The document's Write. -/
namespace Go.Proofs.YtofdijaipjkfbaaGreatDoor
open Go.RowKit Ap
attribute [local go_sem ↓] Go.wp_at_zero Go.wp_at_succ

theorem Tryz.info156 : (Tryz.prog.info? 156).map (fun i => (i.zero, i.size, i.bytes)) = some (some (.agg #[.int .i64 0, .slice none 0 0]), 2, 32) := by kernel_rfl
/-- One write more onto those that wait: the run, as an equation. -/
theorem run_wait {w1 : World} {lo : Nat} {vo : Option Addr} {j vcap : Nat} {xs : List Value} (ho : w1.ownsRow lo 156 2 (.slice vo j vcap) j xs) (hlo : lo ≤ w1.heap.size) (s : Int) (u : Value) (hu : u.oneCell' = true) (hj : j ≤ 1000000) :
    ∃ g cap w2, (∀ ty, (Builtin.append_ #[143, 143] ty #[.slice vo j vcap, .slice (some ⟨w1.heap.size, 0, none⟩) 1 1]).run Tryz.prog (w1.alloc (.cells #[.int .i64 s, u] 156)) = .ok (.slice (some ⟨g, 0, none⟩) (j + 1) cap) w2) ∧ w2.ownsRow lo 156 2 (.slice (some ⟨g, 0, none⟩) (j + 1) cap) (j + 1) (xs ++ [.int .i64 s, u]) ∧ (w1.alloc (.cells #[.int .i64 s, u] 156)).grownBy w2 (Value.ownBlock (.slice vo j vcap)) ∧
      (Value.ownBlock (.slice vo j vcap) = some g ∨ w1.heap.size ≤ g) := by
  obtain ⟨i86, hi, hz0, hz1, hz2⟩ := info_parts Tryz.info156
  obtain ⟨v', w2, h1, h2, h3, h4, h5⟩ := run_append_own_at (P := Tryz.prog) (w1.alloc (.cells #[.int .i64 s, u] 156)) lo 143 143 156 i86 (.agg #[.int .i64 0, .slice none 0 0]) 2 32 Tryz.underlying143 hi hz0 hz1 hz2 rfl (by decide) (.slice vo j vcap) j xs (ho.alloc _) ⟨w1.heap.size, 0, none⟩ 1 1 [.int .i64 s, u] rfl (cell_two w1 _ _ 156) (fun x hx => by simp at hx; rcases hx with rfl | rfl; rfl; exact hu) (by unfold maxLen; omega) (by omega) (Nat.le_trans hlo (World.grownBy_alloc w1 _ none).size)
  obtain ⟨g, cap, rfl⟩ : ∃ g cap, v' = .slice (some ⟨g, 0, none⟩) (j + 1) cap := by
    rcases h2.2 with ⟨_, h0⟩ | ⟨g', cap', _, e, _⟩
    · cases h0
    · exact ⟨g', cap', e⟩
  refine ⟨g, cap, w2, fun ty => h1, h2, h3, ?_⟩
  rcases h5 with e | e
  · exact Or.inl e.symm
  · have e : some g = some (w1.alloc (.cells #[.int .i64 s, u] 156)).heap.size := e
    have e := Option.some.inj e
    have := (World.grownBy_alloc w1 (.cells #[.int .i64 s, u] 156) none).size
    exact Or.inr (by omega)
section
variable {wq w1 w2 : World} {lo n size : Nat} {q : Rk}
/-- The disk behind one write more. -/
theorem RefAt.wrote {v' : Value} {b : Bx} {s : Nat} (h : RefAt wq lo n size q) (hlo : lo ≤ wq.heap.size) (g1 : wq.grownBy w1 none) (b1 : BxAt w1 wq.heap.size b) (hb : b.xs.length = size) (hs : s < n)
    (o2 : w2.ownsRow lo 156 2 v' (q.V.length + 1) (vcells q.V ++ [.int .i64 (s : Int), b.v])) (g2 : w1.grownBy w2 q.vw.ownBlock) (hv' : ∀ g, v'.ownBlock = some g → q.vw.ownBlock = some g ∨ wq.heap.size ≤ g) :
    RefAt (w2.setCell ⟨q.r, 1, none⟩ v') lo n size ⟨q.r, q.v, v', q.S, q.V ++ [(s, b)]⟩ ∧ Kept wq (w2.setCell ⟨q.r, 1, none⟩ v') (rfoot q) ∧ ∀ i, rfoot ⟨q.r, q.v, v', q.S, q.V ++ [(s, b)]⟩ i → rfoot q i ∨ wq.heap.size ≤ i := by
  have hh1 := (g1.block q.r (row_lt h.head) (by simp)).trans h.head
  have hwn : q.vw.ownBlock ≠ some q.r := by
    intro e
    obtain ⟨_, c1, q1⟩ := own_block h.wrow q.r e
    rw [h.head] at q1
    simp at q1
  have hh2 := (g2.block q.r (row_lt hh1) (fun e => hwn e.symm)).trans hh1
  have gs := grown_setCell w2 q.r 1 v'
  have ks : Kept w2 (w2.setCell ⟨q.r, 1, none⟩ v') (fun i => i = q.r) := Kept.of gs (fun j e _ => (Option.some.inj e).symm)
  have k2 : Kept w1 w2 (fun i => q.vw.ownBlock = some i) := Kept.of g2 (fun j e _ => e)
  have kT : Kept wq (w2.setCell ⟨q.r, 1, none⟩ v') (fun i => i = q.r ∨ q.vw.ownBlock = some i) :=
    ((Kept.new g1 _).trans (k2.mono (fun i _ e => Or.inr e)) (fun _ _ e => e)).trans (ks.mono (fun i _ e => Or.inl e)) (fun _ _ e => e)
  have off : ∀ {g : Nat} {cur : Array Value} {t : TypeId}, wq.heap[g]? = some (.cells cur t (0, 0)) → t ≠ 145 → t ≠ 156 → ¬ (g = q.r ∨ q.vw.ownBlock = some g) := by
    rintro g cur t hg h54 h86 (e | e)
    · rw [e, h.head] at hg; simp at hg; exact h54 hg.2.symm
    · obtain ⟨_, c2, q2⟩ := own_block h.wrow g e; rw [q2] at hg; simp at hg; exact h86 hg.2.symm
  have hrows : RowAt (w2.setCell ⟨q.r, 1, none⟩ v') lo q.v q.S := h.rows.off kT (fun g e => by obtain ⟨_, c, hc⟩ := own_block h.rows.row g e; exact off hc (by decide) (by decide)) (fun x hx => by obtain ⟨_, c, hc⟩ := (h.rows.at_ x hx).blk; exact off hc (by decide) (by decide))
  have hbk := b1.blk
  refine ⟨⟨?_, h.low, hrows, ?_, ?_, ?_, h.shape, h.len, h.sz, ?_⟩, kT.mono ?_, ?_⟩
  · have := heap_setCell_same w2 q.r 1 #[q.v, q.vw] 145 v' hh2
    simpa using this
  · rw [vcells_snoc]
    have := owns_off o2 ks (fun g e e2 => by
      obtain ⟨_, c1, q1⟩ := own_block o2 g e
      rw [e2, hh2] at q1
      simp at q1)
    simpa using this
  · intro x hx
    rcases List.mem_append.1 hx with hx | hx
    · exact (h.wat x hx).off kT (by obtain ⟨_, c, hc⟩ := (h.wat x hx).blk; exact off hc (by decide) (by decide))
    · simp at hx
      subst hx
      refine ((b1.mono hlo).off k2 ?_).off ks ?_
      · intro e
        have e : q.vw.ownBlock = some b.g := e
        obtain ⟨_, c1, q1⟩ := own_block h.wrow _ e
        have := row_lt q1; have := hbk.1; omega
      · intro e
        have e : b.g = q.r := e
        have := row_lt h.head; have := hbk.1; omega
  · intro x hx y hy
    rcases List.mem_append.1 hx with hx | hx
    · exact h.nv x hx y hy
    · simp at hx
      subst hx
      have := (h.rows.at_ y hy).lt; have := hbk.1
      show b.g ≠ y.g
      omega
  · intro x hx
    rcases List.mem_append.1 hx with hx | hx
    · exact h.wsz x hx
    · simp at hx
      subst hx
      exact ⟨hs, hb⟩
  · rintro i _ (e | e)
    · exact .inl e
    · exact .inr (.inr (.inl e))
  · rintro i (e | e | e | e | ⟨x, hx, e⟩)
    · exact Or.inl (.inl e)
    · exact Or.inl (.inr (.inl e))
    · rcases hv' i e with e | e
      · exact Or.inl (.inr (.inr (.inl e)))
      · exact Or.inr e
    · exact Or.inl (.inr (.inr (.inr (.inl e))))
    · rcases List.mem_append.1 hx with hx | hx
      · exact Or.inl (.inr (.inr (.inr (.inr ⟨x, hx, e⟩))))
      · simp at hx
        subst hx
        have := hbk.1
        have e : b.g = i := e
        exact Or.inr (by omega)
/-- A twin, and what an append of the write comes to. -/
theorem twin_wait {ao vo : Option Addr} {cap j vcap s : Nat} {y : List Nat} (h : RefAt wq lo n size q) (hlo : lo ≤ wq.heap.size) (hvw : q.vw = .slice vo j vcap) (hj : q.V.length = j) (hj2 : j ≤ 1000000) (hat : At wq ao y) (hl : y.length = size) (hnil : ao = none → size = 0 ∧ cap = 0) (hs : s < n) :
    Calls Tryz.prog 100 #[.slice ao size cap] wq.drew fun e w1 => ∃ gt ct g cap2 w2, e = .returned (.slice (some ⟨gt, 0, none⟩) size ct) ∧ (∀ ty, (Builtin.append_ #[143, 143] ty #[.slice vo j vcap, .slice (some ⟨w1.heap.size, 0, none⟩) 1 1]).run Tryz.prog (w1.alloc (.cells #[.int .i64 (s : Int), .slice (some ⟨gt, 0, none⟩) size ct] 156)) = .ok (.slice (some ⟨g, 0, none⟩) (j + 1) cap2) w2) ∧
      w1.cell? ⟨q.r, 1, none⟩ = some (.slice vo j vcap) ∧ (w1.alloc (.cells #[.int .i64 (s : Int), .slice (some ⟨gt, 0, none⟩) size ct] 156)).cell? ⟨q.r, 1, none⟩ = some (.slice vo j vcap) ∧ w2.cell? ⟨q.r, 1, none⟩ = some (.slice vo j vcap) ∧ w2.frozen? ⟨q.r, 1, none⟩ = false ∧
      Hid (RefAt (w2.setCell ⟨q.r, 1, none⟩ (.slice (some ⟨g, 0, none⟩) (j + 1) cap2)) lo n size ⟨q.r, q.v, .slice (some ⟨g, 0, none⟩) (j + 1) cap2, q.S, q.V ++ [(s, ⟨gt, ct, y⟩)]⟩ ∧ Kept wq (w2.setCell ⟨q.r, 1, none⟩ (.slice (some ⟨g, 0, none⟩) (j + 1) cap2)) (rfoot q) ∧ ∀ i, rfoot ⟨q.r, q.v, .slice (some ⟨g, 0, none⟩) (j + 1) cap2, q.S, q.V ++ [(s, ⟨gt, ct, y⟩)]⟩ i → rfoot q i ∨ wq.heap.size ≤ i) := by
  have s0 := h.shape.s0
  have s1 := h.shape.s1
  refine (twin_any ao size cap y wq.drew hat hl (by omega) hnil (by omega)).mono ?_
  rintro e w1 ⟨gt, ct, rfl, o1, g1⟩
  have g1' := grown_trans (grown_drew wq none) g1
  have h1 := h.grown g1'
  have hro := h1.wrow
  rw [hvw, hj] at hro
  obtain ⟨g, cap2, w2, hrun, o2, g2, hg⟩ := run_wait hro (Nat.le_trans hlo g1'.size) (s : Int) (.slice (some ⟨gt, 0, none⟩) size ct) rfl hj2
  have gz := World.grownBy_alloc w1 (.cells #[.int .i64 (s : Int), .slice (some ⟨gt, 0, none⟩) size ct] 156) none
  have hz := h1.grown gz
  have hwn : (Value.slice vo j vcap).ownBlock ≠ some q.r := by
    rw [← hvw]
    intro e
    obtain ⟨_, c1, q1⟩ := own_block h.wrow q.r e
    rw [h.head] at q1
    simp at q1
  have hh2 := (g2.block q.r (row_lt hz.head) (fun e => hwn e.symm)).trans hz.head
  have c3 : w2.cell? ⟨q.r, 1, none⟩ = some q.vw := cell_row (l := [q.v, q.vw]) hh2 1
  have P := h.wrote (v' := .slice (some ⟨g, 0, none⟩) (j + 1) cap2) (b := ⟨gt, ct, y⟩) (s := s) hlo (grown_trans g1' gz) (BxAt.grown o1 gz) hl hs (by rw [hj, Bx.v]; simp only [hl]; exact o2) (by rw [hvw]; exact g2) (fun x e => by
    cases e
    rw [hvw]
    exact hg.imp id (fun e => Nat.le_trans g1'.size e))
  refine ⟨gt, ct, g, cap2, w2, rfl, hrun, ?_, ?_, ?_, free_row hh2 1, hide P⟩
  · rw [h1.c1, hvw]
  · rw [hz.c1, hvw]
  · rw [c3, hvw]
end
section
variable {w : World} {lo n size : Nat} {q : Rk} {r : Nat}
set_option maxHeartbeats 400000 in
theorem rwrite_bad (hr : q.r = r) (h : RefAt w lo n size q) (a : Int) (ha : a < 0 ∨ (n : Int) ≤ a) (v : Value) : Calls Tryz.prog 182 #[.pointer (some ⟨r, 0, none⟩), .int .i64 a, v] w fun e w' => e = .returned (.int .i64 50) ∧ w' = w := by
  have H := hide (rwrong_bad hr h a ha)
  clear h hr
  go_enter Tryz.func182, Tryz.ntmps182
  go_wp2_with fail
  refine H.out.mono ?_
  rintro e w' ⟨rfl, rfl⟩
  go_wp2
  go_ret
  exact ⟨rfl, rfl⟩
set_option maxHeartbeats 400000 in
theorem rwrite_long (hr : q.r = r) (h : RefAt w lo n size q) (s : Nat) (hs : s < n) (ao : Option Addr) (m cap : Nat) (hm : m ≠ size) : Calls Tryz.prog 182 #[.pointer (some ⟨r, 0, none⟩), .int .i64 (s : Int), .slice ao m cap] w fun e w' => e = .returned (.int .i64 3) ∧ w' = w := by
  have H := hide (rwrong_ok hr h s hs)
  have H2 := hide (rsize_any hr h)
  have hne : ¬ (m : Int) = (size : Int) := by omega
  clear h hr
  go_enter Tryz.func182, Tryz.ntmps182
  go_wp2_with fail
  refine H.out.mono ?_
  rintro e w' ⟨rfl, rfl⟩
  go_wp2_with fail
  refine H2.out.mono ?_
  rintro e w' ⟨rfl, rfl⟩
  go_wp2
  go_ret
  exact ⟨rfl, rfl⟩
set_option maxRecDepth 20000 in
set_option maxHeartbeats 2000000 in
theorem rwrite_any (hr : q.r = r) (h : RefAt w lo n size q) (hlo : lo ≤ w.heap.size) (hV : q.V.length ≤ 1000000) (s : Nat) (hs : s < n) (ao : Option Addr) (cap : Nat) (y : List Nat) (hat : At w ao y) (hl : y.length = size) (hnil : ao = none → size = 0 ∧ cap = 0) : Calls Tryz.prog 182 #[.pointer (some ⟨r, 0, none⟩), .int .i64 (s : Int), .slice ao size cap] w fun e w' => ∃ q' : Rk, e = .returned (.int .i64 0) ∧ q'.r = r ∧ RefAt w' lo n size q' ∧ q'.S = q.S ∧ q'.V.map (fun x => (x.1, x.2.xs)) = q.V.map (fun x => (x.1, x.2.xs)) ++ [(s, y)] ∧ Kept w w' (rfoot q) ∧ ∀ i, rfoot q' i → rfoot q i ∨ w.heap.size ≤ i := by
  have H := hide (rwrong_ok hr h s hs)
  have H2 := hide (rsize_any hr h)
  obtain ⟨vo, vcap, hvw, -⟩ := h.wform
  have HT := hide (twin_wait (cap := cap) h hlo hvw rfl hV hat hl hnil hs)
  have c1 := h.c1
  rw [hvw] at c1
  rw [hr] at HT c1
  obtain ⟨j, hj⟩ : ∃ j, j = q.V.length := ⟨_, rfl⟩
  rw [← hj] at HT c1
  clear h hvw hj
  go_enter Tryz.func182, Tryz.ntmps182
  go_wp2_with fail
  refine H.out.mono ?_
  rintro e w' ⟨rfl, rfl⟩
  go_wp2_with fail
  refine H2.out.mono ?_
  rintro e w' ⟨rfl, rfl⟩
  go_wp2
  go_region_law (first | (refine step_append_run (by rfl) _ _ _ (by rfl) _ _ (by rfl) (by rfl) hrun ?_; clear hrun) | (go_simp; go_wp2_with (go_at_call 100; refine HT.out.mono ?_; rintro e w1 ⟨gt, ct, g, cap2, w2, rfl, hrun, c1', c2, c3, c4, P2⟩)))
  all_goals
    go_wp2
    go_ret
    obtain ⟨p1, p2, p3⟩ := P2.out
    exact ⟨_, rfl, rfl, p1, rfl, by simp, p2, p3⟩
end
end Go.Proofs.YtofdijaipjkfbaaGreatDoor
/- A call of a disk that is there tells what it should: Write; and all of them. -/
namespace Go.Proofs.YtofdijaipjkfbaaGreatDoor
open Go.RowKit Ap
attribute [local go_sem ↓] Go.wp_at_zero Go.wp_at_succ

def wcode (n size : Nat) (a : Int) (L : Nat) : Int := if 0 ≤ a ∧ a < (n : Int) then (if L = size then 0 else 3) else 50
def wabs (n size : Nat) (a : Int) (xs : List Nat) (P : List Pr) : List Pr := if 0 ≤ a ∧ a < (n : Int) then (if xs.length = size then P ++ [(a.toNat, xs)] else P) else P
section
variable {w0 w : World} {n size : Nat} {p : Pr2} {d r : Nat}
theorem wr_disk {k : Dk} {D : List Nat} {W : List Wt} (hd : k.d = d) (h : DkS w0 w k n size D W) (hW : W.length ≤ 900000) (a : Int) (ao : Option Addr) (L cap : Nat) (xs : List Nat) (hat : At w ao xs) (hx : xs.length = L) :
    Calls Tryz.prog 187 #[.pointer (some ⟨d, 0, none⟩), .int .i64 a, .slice ao L cap] w fun e w' => ∃ k' W', e = .returned (.int .i64 (wcode n size a L)) ∧ DkS w0 w' k' n size D W' ∧ Moved w w' k k' W W' ∧ abs W' = wabs n size a xs (abs W) ∧ W'.length ≤ W.length + 1 := by
  by_cases ha : 0 ≤ a ∧ a < (n : Int)
  · by_cases hl : L = size
    · obtain ⟨s, rfl⟩ := Int.eq_ofNat_of_zero_le ha.1
      subst hl
      refine (writeS hd h (by omega) s (by omega) ao cap xs hat hx).mono ?_
      rintro e w' ⟨rfl, k', h1, h2, h3, h4⟩
      refine ⟨k', _, by rw [wcode, if_pos ha, if_pos rfl], h3, h4.moved, ?_, by simp⟩
      rw [wabs, if_pos ha, if_pos hx]
      simp [abs]
    · subst hd
      refine (write_long h.disk a ao L cap ha hl).mono ?_
      rintro e w' ⟨rfl, hg⟩
      exact ⟨k, W, by rw [wcode, if_pos ha, if_neg hl], h.then hg, (Moved.refl w k W).new hg, by rw [wabs, if_pos ha, if_neg (by omega)], by omega⟩
  · subst hd
    refine (write_far h.disk a _ ha).mono ?_
    rintro e w' ⟨rfl, hg⟩
    exact ⟨k, W, by rw [wcode, if_neg ha], h.then hg, (Moved.refl w k W).new hg, by rw [wabs, if_neg ha], by omega⟩
theorem wr_ref {lo : Nat} {q : Rk} (hr : q.r = r) (h : RefAt w lo n size q) (hlo : lo ≤ w.heap.size) (hV : q.V.length ≤ 900000) (a : Int) (ao : Option Addr) (L cap : Nat) (xs : List Nat) (hat : At w ao xs) (hx : xs.length = L) (hnil : ao ≠ none) :
    Calls Tryz.prog 182 #[.pointer (some ⟨r, 0, none⟩), .int .i64 a, .slice ao L cap] w fun e w' => ∃ q' : Rk, e = .returned (.int .i64 (wcode n size a L)) ∧ q'.r = r ∧ RefAt w' lo n size q' ∧ q'.S = q.S ∧ absV q'.V = wabs n size a xs (absV q.V) ∧ Kept w w' (rfoot q) ∧ ∀ i, rfoot q' i → rfoot q i ∨ w.heap.size ≤ i := by
  by_cases ha : 0 ≤ a ∧ a < (n : Int)
  · obtain ⟨s, rfl⟩ := Int.eq_ofNat_of_zero_le ha.1
    by_cases hl : L = size
    · subst hl
      refine (rwrite_any hr h hlo (by omega) s (by omega) ao cap xs hat hx (fun e => absurd e hnil)).mono ?_
      rintro e w' ⟨q', rfl, h1, h2, h3, h4, h5, h6⟩
      refine ⟨q', by rw [wcode, if_pos ha, if_pos rfl], h1, h2, h3, ?_, h5, h6⟩
      rw [wabs, if_pos ha, if_pos hx]
      exact h4
    · refine (rwrite_long hr h s (by omega) ao L cap hl).mono ?_
      rintro e w' ⟨rfl, rfl⟩
      exact ⟨q, by rw [wcode, if_pos ha, if_neg hl], hr, h, rfl, by rw [wabs, if_pos ha, if_neg (by omega)], Kept.refl _ _, fun i e => .inl e⟩
  · refine (rwrite_bad hr h a (by omega) _).mono ?_
    rintro e w' ⟨rfl, rfl⟩
    exact ⟨q, by rw [wcode, if_neg ha], hr, h, rfl, by rw [wabs, if_neg ha], Kept.refl _ _, fun i e => .inl e⟩
end
end Go.Proofs.YtofdijaipjkfbaaGreatDoor
/- A device of package power in memory; its small calls. -/
namespace Go.Proofs.YtofdijaipjkfbaaGreatDoor
open Go.RowKit Ap
attribute [local go_sem ↓] Go.wp_at_zero Go.wp_at_succ

/-- What a device knows beside its disk. -/
structure Dv where
  off : Bool
  arm : Int
  cnt : Nat
/-- Is an operation done? -/
def Dv.goes (s : Dv) : Bool := !s.off && decide (s.arm ≠ 0)
/-- What an operation answers, if the disk's answer is c. -/
def Dv.code (s : Dv) (c : Int) : Int := if s.goes then c else 60
def Dv.upc (s : Dv) : Int := if s.off then 60 else 0
/-- Behind an operation. -/
def Dv.next (s : Dv) : Dv := if s.off then s else if s.arm = 0 then ⟨true, -1, s.cnt⟩ else ⟨false, if 0 < s.arm then s.arm - 1 else s.arm, s.cnt + 1⟩
def dcells (d : Nat) (s : Dv) : List Value := [.pointer (some ⟨d, 0, none⟩), .bool true, .bool s.off, .int .i64 s.arm, .int .i64 (s.cnt : Int)]
structure Dv.Ok (s : Dv) : Prop where
  lo : -1 ≤ s.arm
  hi : s.arm ≤ 9223372036854775807
  few : s.cnt ≤ 100000
structure DvAt (w : World) (b d : Nat) (s : Dv) : Prop where
  head : w.heap[b]? = some (.cells (dcells d s).toArray 99 (0, 0))
  ok : s.Ok
theorem Dv.Ok.next {s : Dv} (h : s.Ok) (hc : s.cnt < 100000) : s.next.Ok := by
  unfold Dv.next
  split
  · exact h
  · split
    · exact ⟨by simp, by simp, h.few⟩
    · refine ⟨?_, ?_, ?_⟩
      · have := h.lo; simp only; split <;> omega
      · have := h.hi; simp only; split <;> omega
      · simp only; omega
theorem Dv.next_cnt (s : Dv) : s.next.cnt ≤ s.cnt + 1 := by
  unfold Dv.next
  split
  · omega
  · split
    · simp
    · simp
theorem Dv.goes_off {s : Dv} (h : s.off = true) : s.goes = false ∧ s.next = s := by simp [Dv.goes, Dv.next, h]
theorem Dv.goes_cut {s : Dv} (h : s.off = false) (h0 : s.arm = 0) : s.goes = false ∧ s.next = ⟨true, -1, s.cnt⟩ := by simp [Dv.goes, Dv.next, h, h0]
theorem Dv.goes_on {s : Dv} (h : s.off = false) (h0 : s.arm ≠ 0) : s.goes = true ∧ s.next = ⟨false, if 0 < s.arm then s.arm - 1 else s.arm, s.cnt + 1⟩ := by simp [Dv.goes, Dv.next, h, h0]
section
variable {w w' : World} {b d : Nat} {s : Dv}
theorem DvAt.same (h : DvAt w b d s) (hb : w'.heap[b]? = w.heap[b]?) : DvAt w' b d s := ⟨hb.trans h.head, h.ok⟩
theorem DvAt.lt (h : DvAt w b d s) : b < w.heap.size := row_lt h.head
theorem DvAt.grown (h : DvAt w b d s) (hg : w.grownBy w' none) : DvAt w' b d s := h.same (hg.block b h.lt (by simp))
theorem DvAt.kept {S : Nat → Prop} (h : DvAt w b d s) (hk : Kept w w' S) (hS : ¬ S b) : DvAt w' b d s := h.same (hk.block b h.lt hS)
theorem DvAt.c0 (h : DvAt w b d s) : w.cell? ⟨b, 0, none⟩ = some (.pointer (some ⟨d, 0, none⟩)) := cell_row h.head 0
theorem DvAt.c1 (h : DvAt w b d s) : w.cell? ⟨b, 1, none⟩ = some (.bool true) := cell_row h.head 1
theorem DvAt.c2 (h : DvAt w b d s) : w.cell? ⟨b, 2, none⟩ = some (.bool s.off) := cell_row h.head 2
theorem DvAt.c3 (h : DvAt w b d s) : w.cell? ⟨b, 3, none⟩ = some (.int .i64 s.arm) := cell_row h.head 3
theorem DvAt.c4 (h : DvAt w b d s) : w.cell? ⟨b, 4, none⟩ = some (.int .i64 (s.cnt : Int)) := cell_row h.head 4
theorem DvAt.free (h : DvAt w b d s) (j : Nat) : w.frozen? ⟨b, j, none⟩ = false := free_row h.head j
/-- Bytes lie elsewhere. -/
theorem at_dev {ao : Option Addr} {xs : List Nat} (hat : At w ao xs) (h : DvAt w b d s) (hg : w.grownBy w' (some b)) : At w' ao xs := by
  intro j u hu
  obtain ⟨a, e, hc⟩ := hat j u hu
  refine ⟨a, e, hg.cell hc ?_⟩
  rintro e2
  have e2 : (a.add j).block = b := Option.some.inj e2
  have hsp : (a.add j).spot = none := by
    unfold World.cell? at hc
    split at hc
    · split at hc
      · cases hc
      · rename_i hs; simpa using hs
    · cases hc
  have he : a.add j = ⟨b, (a.add j).off, none⟩ := by
    cases hh : a.add j
    rw [hh] at e2 hsp
    simp at e2 hsp
    subst e2 hsp
    rfl
  rw [he, cell_row h.head] at hc
  generalize (a.add j).off = i at hc
  match i, hc with
  | 0, hc => simp [dcells] at hc
  | 1, hc => simp [dcells] at hc
  | 2, hc => simp [dcells] at hc
  | 3, hc => simp [dcells] at hc
  | 4, hc => simp [dcells] at hc
  | i + 5, hc => simp [dcells] at hc

set_option maxHeartbeats 400000 in
theorem dnone_at (b : Nat) (x : Bool) (w : World) (h : w.cell? ⟨b, 1, none⟩ = some (.bool x)) :
    Calls Tryz.prog 60 #[.pointer (some ⟨b, 0, none⟩)] w fun e w' => e = .returned (.bool (!x)) ∧ w' = w := by
  go_enter Tryz.func60, Tryz.ntmps60
  go_wp2
  go_ret
  exact ⟨rfl, rfl⟩
set_option maxHeartbeats 400000 in
theorem dnone_nil (w : World) :
    Calls Tryz.prog 60 #[.pointer none] w fun e w' => e = .returned (.bool true) ∧ w' = w := by
  go_enter Tryz.func60, Tryz.ntmps60
  go_wp2
  go_ret
  exact ⟨rfl, rfl⟩
theorem DvAt.is (h : DvAt w b d s) : Calls Tryz.prog 60 #[.pointer (some ⟨b, 0, none⟩)] w fun e w' => e = .returned (.bool false) ∧ w' = w := dnone_at b true w h.c1
set_option maxHeartbeats 400000 in
theorem isUp_any (h : DvAt w b d s) : Calls Tryz.prog 67 #[.pointer (some ⟨b, 0, none⟩)] w fun e w' => e = .returned (.int .i64 s.upc) ∧ w' = w := by
  have H := hide h.is
  have c2 := h.c2
  clear h
  unfold Dv.upc
  generalize s.off = x at *
  cases x
  all_goals
    go_enter Tryz.func67, Tryz.ntmps67
    go_wp2_with fail
    refine H.out.mono ?_
    rintro e w' ⟨rfl, rfl⟩
    go_wp2
    go_ret
    exact ⟨rfl, rfl⟩
set_option maxHeartbeats 400000 in
theorem down_any (h : DvAt w b d s) : Calls Tryz.prog 58 #[.pointer (some ⟨b, 0, none⟩)] w fun e w' => e = .returned (.bool s.off) ∧ w' = w := by
  have H := hide (isUp_any h)
  clear h
  unfold Dv.upc at H
  generalize s.off = x at *
  cases x
  all_goals
    go_enter Tryz.func58, Tryz.ntmps58
    go_wp2_with fail
    refine H.out.mono ?_
    rintro e w' ⟨rfl, rfl⟩
    go_wp2
    go_ret
    exact ⟨rfl, rfl⟩
set_option maxHeartbeats 400000 in
theorem count_any (h : DvAt w b d s) : Calls Tryz.prog 54 #[.pointer (some ⟨b, 0, none⟩)] w fun e w' => e = .returned (.int .i64 (s.cnt : Int)) ∧ w' = w := by
  have H := hide h.is
  have c4 := h.c4
  clear h
  go_enter Tryz.func54, Tryz.ntmps54
  go_wp2_with fail
  refine H.out.mono ?_
  rintro e w' ⟨rfl, rfl⟩
  go_wp2
  go_ret
  exact ⟨rfl, rfl⟩
set_option maxRecDepth 20000 in
set_option maxHeartbeats 1000000 in
theorem begin_any (h : DvAt w b d s) (hc : s.cnt < 100000) : Calls Tryz.prog 157 #[.pointer (some ⟨b, 0, none⟩)] w fun e w' => e = .returned (.int .i64 (s.code 0)) ∧ DvAt w' b d s.next ∧ w.grownBy w' (some b) := by
  have H := hide (isUp_any h)
  have c2 := h.c2
  have c3 := h.c3
  have c4 := h.c4
  have f2 := h.free 2
  have f3 := h.free 3
  have f4 := h.free 4
  have hlo := h.ok.lo
  have hhi := h.ok.hi
  have HH := hide h
  obtain ⟨x, a, c⟩ := s
  simp only at c2 c3 c4 hc hlo hhi
  cases x with
  | true =>
    clear h
    go_enter Tryz.func157, Tryz.ntmps157
    go_wp2_with fail
    refine H.out.mono ?_
    rintro e w' ⟨rfl, rfl⟩
    go_wp2
    go_ret
    exact ⟨rfl, HH.out, grown_refl _ _⟩
  | false =>
    by_cases h0 : a = 0
    · subst h0
      clear h
      go_enter Tryz.func157, Tryz.ntmps157
      go_wp2_with fail
      refine H.out.mono ?_
      rintro e w' ⟨rfl, rfl⟩
      go_wp2
      go_ret
      refine ⟨rfl, ⟨?_, HH.out.ok.next hc⟩, grown_then (grown_setCell _ b 2 _) (grown_setCell _ b 3 _) (fun j e => Or.inr e)⟩
      have h1 := row_setCell HH.out.head 2 (.bool true)
      exact row_setCell h1 3 (.int .i64 (-1))
    · by_cases h1 : 0 < a
      · have e1 : Dv.next ⟨false, a, c⟩ = ⟨false, a - 1, c + 1⟩ := by simp [Dv.next, h0, h1]
        have e2 : Dv.goes ⟨false, a, c⟩ = true := by simp [Dv.goes, h0]
        rw [e1, Dv.code, e2]
        clear h e1 e2
        go_enter Tryz.func157, Tryz.ntmps157
        go_wp2_with fail
        refine H.out.mono ?_
        rintro e w' ⟨rfl, rfl⟩
        go_wp2
        go_ret
        refine ⟨rfl, ⟨?_, ⟨by show -1 ≤ a - 1; omega, by show a - 1 ≤ _; omega, by show c + 1 ≤ _; omega⟩⟩, grown_then (grown_setCell _ b 3 _) (grown_setCell _ b 4 _) (fun j e => Or.inr e)⟩
        have h1 := row_setCell HH.out.head 3 (.int .i64 (a - 1))
        exact row_setCell h1 4 (.int .i64 ((c + 1 : Nat) : Int))
      · have e1 : Dv.next ⟨false, a, c⟩ = ⟨false, a, c + 1⟩ := by simp [Dv.next, h0, h1]
        have e2 : Dv.goes ⟨false, a, c⟩ = true := by simp [Dv.goes, h0]
        rw [e1, Dv.code, e2]
        clear h e1 e2
        go_enter Tryz.func157, Tryz.ntmps157
        go_wp2_with fail
        refine H.out.mono ?_
        rintro e w' ⟨rfl, rfl⟩
        go_wp2
        go_ret
        refine ⟨rfl, ⟨?_, ⟨hlo, hhi, by show c + 1 ≤ _; omega⟩⟩, grown_setCell _ b 4 _⟩
        exact row_setCell HH.out.head 4 (.int .i64 ((c + 1 : Nat) : Int))
/-- Armed anew. -/
def Dv.armed (s : Dv) (n : Int) : Dv := if s.off then s else ⟨false, max n (-1), s.cnt⟩
set_option maxRecDepth 20000 in
set_option maxHeartbeats 1000000 in
theorem arm_any (h : DvAt w b d s) (n : Int) (hn : n ≤ 9223372036854775807) : Calls Tryz.prog 18 #[.pointer (some ⟨b, 0, none⟩), .int .i64 n] w fun e w' => e = .returned (.int .i64 s.upc) ∧ DvAt w' b d (s.armed n) ∧ w.grownBy w' (some b) := by
  have H := hide (isUp_any h)
  have c3 := h.c3
  have f3 := h.free 3
  have HH := hide h
  obtain ⟨x, a, c⟩ := s
  simp only at c3
  cases x with
  | true =>
    clear h
    go_enter Tryz.func18, Tryz.ntmps18
    go_wp2_with fail
    refine H.out.mono ?_
    rintro e w' ⟨rfl, rfl⟩
    go_wp2
    go_ret
    exact ⟨rfl, HH.out, grown_refl _ _⟩
  | false =>
    clear h
    by_cases hm : n < -1
    · have e : Dv.armed ⟨false, a, c⟩ n = ⟨false, -1, c⟩ := by simp [Dv.armed]; omega
      rw [e]
      clear e
      go_enter Tryz.func18, Tryz.ntmps18
      go_wp2_with fail
      refine H.out.mono ?_
      rintro e w' ⟨rfl, rfl⟩
      go_wp2
      go_ret
      exact ⟨rfl, ⟨row_setCell HH.out.head 3 (.int .i64 (-1)), ⟨by show (-1 : Int) ≤ -1; omega, by show (-1 : Int) ≤ _; omega, HH.out.ok.few⟩⟩, grown_setCell _ b 3 _⟩
    · have e : Dv.armed ⟨false, a, c⟩ n = ⟨false, n, c⟩ := by simp [Dv.armed]; omega
      rw [e]
      clear e
      have hm2 : -1 ≤ n := by omega
      go_enter Tryz.func18, Tryz.ntmps18
      go_wp2_with fail
      refine H.out.mono ?_
      rintro e w' ⟨rfl, rfl⟩
      go_wp2
      go_ret
      exact ⟨rfl, ⟨row_setCell HH.out.head 3 (.int .i64 n), ⟨hm2, hn, HH.out.ok.few⟩⟩, grown_setCell _ b 3 _⟩
end
end Go.Proofs.YtofdijaipjkfbaaGreatDoor
