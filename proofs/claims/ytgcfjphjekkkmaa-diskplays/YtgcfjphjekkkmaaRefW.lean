/- The document's Write. -/
import Derived.Test.YtgcfjphjekkkmaaRefOf2
import Derived.Test.YtgcfjphjekkkmaaRefC
namespace Go.Proofs.Ytgcfjphjekkkmaa
open Go.RowKit Ap
attribute [local go_sem ↓] Go.wp_at_zero Go.wp_at_succ

theorem Try.info86 : (Try.prog.info? 86).map (fun i => (i.zero, i.size, i.bytes)) = some (some (.agg #[.int .i64 0, .slice none 0 0]), 2, 32) := by kernel_rfl
/-- One write more onto those that wait: the run, as an equation. -/
theorem run_wait {w1 : World} {lo : Nat} {vo : Option Addr} {j vcap : Nat} {xs : List Value} (ho : w1.ownsRow lo 86 2 (.slice vo j vcap) j xs) (hlo : lo ≤ w1.heap.size) (s : Int) (u : Value) (hu : u.oneCell' = true) (hj : j ≤ 1000000) :
    ∃ g cap w2, (∀ ty, (Builtin.append_ #[52, 52] ty #[.slice vo j vcap, .slice (some ⟨w1.heap.size, 0, none⟩) 1 1]).run Try.prog (w1.alloc (.cells #[.int .i64 s, u] 86)) = .ok (.slice (some ⟨g, 0, none⟩) (j + 1) cap) w2) ∧ w2.ownsRow lo 86 2 (.slice (some ⟨g, 0, none⟩) (j + 1) cap) (j + 1) (xs ++ [.int .i64 s, u]) ∧ (w1.alloc (.cells #[.int .i64 s, u] 86)).grownBy w2 (Value.ownBlock (.slice vo j vcap)) ∧
      (Value.ownBlock (.slice vo j vcap) = some g ∨ w1.heap.size ≤ g) := by
  obtain ⟨i86, hi, hz0, hz1, hz2⟩ := info_parts Try.info86
  obtain ⟨v', w2, h1, h2, h3, h4, h5⟩ := run_append_own_at (P := Try.prog) (w1.alloc (.cells #[.int .i64 s, u] 86)) lo 52 52 86 i86 (.agg #[.int .i64 0, .slice none 0 0]) 2 32 Try.underlying52 hi hz0 hz1 hz2 rfl (by decide) (.slice vo j vcap) j xs (ho.alloc _) ⟨w1.heap.size, 0, none⟩ 1 1 [.int .i64 s, u] rfl (cell_two w1 _ _ 86) (fun x hx => by simp at hx; rcases hx with rfl | rfl; rfl; exact hu) (by unfold maxLen; omega) (by omega) (Nat.le_trans hlo (World.grownBy_alloc w1 _ none).size)
  obtain ⟨g, cap, rfl⟩ : ∃ g cap, v' = .slice (some ⟨g, 0, none⟩) (j + 1) cap := by
    rcases h2.2 with ⟨_, h0⟩ | ⟨g', cap', _, e, _⟩
    · cases h0
    · exact ⟨g', cap', e⟩
  refine ⟨g, cap, w2, fun ty => h1, h2, h3, ?_⟩
  rcases h5 with e | e
  · exact Or.inl e.symm
  · have e : some g = some (w1.alloc (.cells #[.int .i64 s, u] 86)).heap.size := e
    have e := Option.some.inj e
    have := (World.grownBy_alloc w1 (.cells #[.int .i64 s, u] 86) none).size
    exact Or.inr (by omega)
section
variable {wq w1 w2 : World} {lo n size : Nat} {q : Rk}
/-- The disk behind one write more. -/
theorem RefAt.wrote {v' : Value} {b : Bx} {s : Nat} (h : RefAt wq lo n size q) (hlo : lo ≤ wq.heap.size) (g1 : wq.grownBy w1 none) (b1 : BxAt w1 wq.heap.size b) (hb : b.xs.length = size) (hs : s < n)
    (o2 : w2.ownsRow lo 86 2 v' (q.V.length + 1) (vcells q.V ++ [.int .i64 (s : Int), b.v])) (g2 : w1.grownBy w2 q.vw.ownBlock) (hv' : ∀ g, v'.ownBlock = some g → q.vw.ownBlock = some g ∨ wq.heap.size ≤ g) :
    RefAt (w2.setCell ⟨q.r, 1, none⟩ v') lo n size ⟨q.r, q.v, v', q.S, q.V ++ [(s, b)]⟩ ∧ Kept wq (w2.setCell ⟨q.r, 1, none⟩ v') (rfoot q) ∧ ∀ i, rfoot ⟨q.r, q.v, v', q.S, q.V ++ [(s, b)]⟩ i → rfoot q i ∨ wq.heap.size ≤ i := by
  have hh1 := (g1.block q.r (row_lt h.head) (by simp)).trans h.head
  have hwn : q.vw.ownBlock ≠ some q.r := by
    intro e
    obtain ⟨_, c1, q1⟩ := own_block h.wrow q.r e
    rw [h.head] at q1
    simp at q1
  have hh2 := (g2.block q.r (row_lt hh1) (fun e => hwn e.symm)).trans hh1
  have gs := grown_setCell w2 q.r 1 v'
  have ks : Kept w2 (w2.setCell ⟨q.r, 1, none⟩ v') (fun i => i = q.r) := Kept.of gs (fun j e _ => (Option.some.inj e).symm)
  have k2 : Kept w1 w2 (fun i => q.vw.ownBlock = some i) := Kept.of g2 (fun j e _ => e)
  have kT : Kept wq (w2.setCell ⟨q.r, 1, none⟩ v') (fun i => i = q.r ∨ q.vw.ownBlock = some i) :=
    ((Kept.new g1 _).trans (k2.mono (fun i _ e => Or.inr e)) (fun _ _ e => e)).trans (ks.mono (fun i _ e => Or.inl e)) (fun _ _ e => e)
  have off : ∀ {g : Nat} {cur : Array Value} {t : TypeId}, wq.heap[g]? = some (.cells cur t (0, 0)) → t ≠ 54 → t ≠ 86 → ¬ (g = q.r ∨ q.vw.ownBlock = some g) := by
    rintro g cur t hg h54 h86 (e | e)
    · rw [e, h.head] at hg; simp at hg; exact h54 hg.2.symm
    · obtain ⟨_, c2, q2⟩ := own_block h.wrow g e; rw [q2] at hg; simp at hg; exact h86 hg.2.symm
  have hrows : RowAt (w2.setCell ⟨q.r, 1, none⟩ v') lo q.v q.S := h.rows.off kT (fun g e => by obtain ⟨_, c, hc⟩ := own_block h.rows.row g e; exact off hc (by decide) (by decide)) (fun x hx => by obtain ⟨_, c, hc⟩ := (h.rows.at_ x hx).blk; exact off hc (by decide) (by decide))
  have hbk := b1.blk
  refine ⟨⟨?_, h.low, hrows, ?_, ?_, ?_, h.shape, h.len, h.sz, ?_⟩, kT.mono ?_, ?_⟩
  · have := heap_setCell_same w2 q.r 1 #[q.v, q.vw] 54 v' hh2
    simpa using this
  · rw [vcells_snoc]
    have := owns_off o2 ks (fun g e e2 => by
      obtain ⟨_, c1, q1⟩ := own_block o2 g e
      rw [e2, hh2] at q1
      simp at q1)
    simpa using this
  · intro x hx
    rcases List.mem_append.1 hx with hx | hx
    · exact (h.wat x hx).off kT (by obtain ⟨_, c, hc⟩ := (h.wat x hx).blk; exact off hc (by decide) (by decide))
    · simp at hx
      subst hx
      refine ((b1.mono hlo).off k2 ?_).off ks ?_
      · intro e
        have e : q.vw.ownBlock = some b.g := e
        obtain ⟨_, c1, q1⟩ := own_block h.wrow _ e
        have := row_lt q1; have := hbk.1; omega
      · intro e
        have e : b.g = q.r := e
        have := row_lt h.head; have := hbk.1; omega
  · intro x hx y hy
    rcases List.mem_append.1 hx with hx | hx
    · exact h.nv x hx y hy
    · simp at hx
      subst hx
      have := (h.rows.at_ y hy).lt; have := hbk.1
      show b.g ≠ y.g
      omega
  · intro x hx
    rcases List.mem_append.1 hx with hx | hx
    · exact h.wsz x hx
    · simp at hx
      subst hx
      exact ⟨hs, hb⟩
  · rintro i _ (e | e)
    · exact .inl e
    · exact .inr (.inr (.inl e))
  · rintro i (e | e | e | e | ⟨x, hx, e⟩)
    · exact Or.inl (.inl e)
    · exact Or.inl (.inr (.inl e))
    · rcases hv' i e with e | e
      · exact Or.inl (.inr (.inr (.inl e)))
      · exact Or.inr e
    · exact Or.inl (.inr (.inr (.inr (.inl e))))
    · rcases List.mem_append.1 hx with hx | hx
      · exact Or.inl (.inr (.inr (.inr (.inr ⟨x, hx, e⟩))))
      · simp at hx
        subst hx
        have := hbk.1
        have e : b.g = i := e
        exact Or.inr (by omega)
/-- A twin, and what an append of the write comes to. -/
theorem twin_wait {ao vo : Option Addr} {cap j vcap s : Nat} {y : List Nat} (h : RefAt wq lo n size q) (hlo : lo ≤ wq.heap.size) (hvw : q.vw = .slice vo j vcap) (hj : q.V.length = j) (hj2 : j ≤ 1000000) (hat : At wq ao y) (hl : y.length = size) (hnil : ao = none → size = 0 ∧ cap = 0) (hs : s < n) :
    Calls Try.prog 53 #[.slice ao size cap] wq.drew fun e w1 => ∃ gt ct g cap2 w2, e = .returned (.slice (some ⟨gt, 0, none⟩) size ct) ∧ (∀ ty, (Builtin.append_ #[52, 52] ty #[.slice vo j vcap, .slice (some ⟨w1.heap.size, 0, none⟩) 1 1]).run Try.prog (w1.alloc (.cells #[.int .i64 (s : Int), .slice (some ⟨gt, 0, none⟩) size ct] 86)) = .ok (.slice (some ⟨g, 0, none⟩) (j + 1) cap2) w2) ∧
      w1.cell? ⟨q.r, 1, none⟩ = some (.slice vo j vcap) ∧ (w1.alloc (.cells #[.int .i64 (s : Int), .slice (some ⟨gt, 0, none⟩) size ct] 86)).cell? ⟨q.r, 1, none⟩ = some (.slice vo j vcap) ∧ w2.cell? ⟨q.r, 1, none⟩ = some (.slice vo j vcap) ∧ w2.frozen? ⟨q.r, 1, none⟩ = false ∧
      Hid (RefAt (w2.setCell ⟨q.r, 1, none⟩ (.slice (some ⟨g, 0, none⟩) (j + 1) cap2)) lo n size ⟨q.r, q.v, .slice (some ⟨g, 0, none⟩) (j + 1) cap2, q.S, q.V ++ [(s, ⟨gt, ct, y⟩)]⟩ ∧ Kept wq (w2.setCell ⟨q.r, 1, none⟩ (.slice (some ⟨g, 0, none⟩) (j + 1) cap2)) (rfoot q) ∧ ∀ i, rfoot ⟨q.r, q.v, .slice (some ⟨g, 0, none⟩) (j + 1) cap2, q.S, q.V ++ [(s, ⟨gt, ct, y⟩)]⟩ i → rfoot q i ∨ wq.heap.size ≤ i) := by
  have s0 := h.shape.s0
  have s1 := h.shape.s1
  refine (twin_any ao size cap y wq.drew hat hl (by omega) hnil (by omega)).mono ?_
  rintro e w1 ⟨gt, ct, rfl, o1, g1⟩
  have g1' := grown_trans (grown_drew wq none) g1
  have h1 := h.grown g1'
  have hro := h1.wrow
  rw [hvw, hj] at hro
  obtain ⟨g, cap2, w2, hrun, o2, g2, hg⟩ := run_wait hro (Nat.le_trans hlo g1'.size) (s : Int) (.slice (some ⟨gt, 0, none⟩) size ct) rfl hj2
  have gz := World.grownBy_alloc w1 (.cells #[.int .i64 (s : Int), .slice (some ⟨gt, 0, none⟩) size ct] 86) none
  have hz := h1.grown gz
  have hwn : (Value.slice vo j vcap).ownBlock ≠ some q.r := by
    rw [← hvw]
    intro e
    obtain ⟨_, c1, q1⟩ := own_block h.wrow q.r e
    rw [h.head] at q1
    simp at q1
  have hh2 := (g2.block q.r (row_lt hz.head) (fun e => hwn e.symm)).trans hz.head
  have c3 : w2.cell? ⟨q.r, 1, none⟩ = some q.vw := cell_row (l := [q.v, q.vw]) hh2 1
  have P := h.wrote (v' := .slice (some ⟨g, 0, none⟩) (j + 1) cap2) (b := ⟨gt, ct, y⟩) (s := s) hlo (grown_trans g1' gz) (BxAt.grown o1 gz) hl hs (by rw [hj, Bx.v]; simp only [hl]; exact o2) (by rw [hvw]; exact g2) (fun x e => by
    cases e
    rw [hvw]
    exact hg.imp id (fun e => Nat.le_trans g1'.size e))
  refine ⟨gt, ct, g, cap2, w2, rfl, hrun, ?_, ?_, ?_, free_row hh2 1, hide P⟩
  · rw [h1.c1, hvw]
  · rw [hz.c1, hvw]
  · rw [c3, hvw]
end
section
variable {w : World} {lo n size : Nat} {q : Rk} {r : Nat}
set_option maxHeartbeats 400000 in
theorem rwrite_bad (hr : q.r = r) (h : RefAt w lo n size q) (a : Int) (ha : a < 0 ∨ (n : Int) ≤ a) (v : Value) : Calls Try.prog 41 #[.pointer (some ⟨r, 0, none⟩), .int .i64 a, v] w fun e w' => e = .returned (.int .i64 50) ∧ w' = w := by
  have H := hide (rwrong_bad hr h a ha)
  clear h hr
  go_enter Try.func41, Try.ntmps41
  go_wp2_with fail
  refine H.out.mono ?_
  rintro e w' ⟨rfl, rfl⟩
  go_wp2
  go_ret
  exact ⟨rfl, rfl⟩
set_option maxHeartbeats 400000 in
theorem rwrite_long (hr : q.r = r) (h : RefAt w lo n size q) (s : Nat) (hs : s < n) (ao : Option Addr) (m cap : Nat) (hm : m ≠ size) : Calls Try.prog 41 #[.pointer (some ⟨r, 0, none⟩), .int .i64 (s : Int), .slice ao m cap] w fun e w' => e = .returned (.int .i64 3) ∧ w' = w := by
  have H := hide (rwrong_ok hr h s hs)
  have H2 := hide (rsize_any hr h)
  have hne : ¬ (m : Int) = (size : Int) := by omega
  clear h hr
  go_enter Try.func41, Try.ntmps41
  go_wp2_with fail
  refine H.out.mono ?_
  rintro e w' ⟨rfl, rfl⟩
  go_wp2_with fail
  refine H2.out.mono ?_
  rintro e w' ⟨rfl, rfl⟩
  go_wp2
  go_ret
  exact ⟨rfl, rfl⟩
set_option maxRecDepth 20000 in
set_option maxHeartbeats 2000000 in
theorem rwrite_any (hr : q.r = r) (h : RefAt w lo n size q) (hlo : lo ≤ w.heap.size) (hV : q.V.length ≤ 1000000) (s : Nat) (hs : s < n) (ao : Option Addr) (cap : Nat) (y : List Nat) (hat : At w ao y) (hl : y.length = size) (hnil : ao = none → size = 0 ∧ cap = 0) : Calls Try.prog 41 #[.pointer (some ⟨r, 0, none⟩), .int .i64 (s : Int), .slice ao size cap] w fun e w' => ∃ q' : Rk, e = .returned (.int .i64 0) ∧ q'.r = r ∧ RefAt w' lo n size q' ∧ q'.S = q.S ∧ q'.V.map (fun x => (x.1, x.2.xs)) = q.V.map (fun x => (x.1, x.2.xs)) ++ [(s, y)] ∧ Kept w w' (rfoot q) ∧ ∀ i, rfoot q' i → rfoot q i ∨ w.heap.size ≤ i := by
  have H := hide (rwrong_ok hr h s hs)
  have H2 := hide (rsize_any hr h)
  obtain ⟨vo, vcap, hvw, -⟩ := h.wform
  have HT := hide (twin_wait (cap := cap) h hlo hvw rfl hV hat hl hnil hs)
  have c1 := h.c1
  rw [hvw] at c1
  rw [hr] at HT c1
  obtain ⟨j, hj⟩ : ∃ j, j = q.V.length := ⟨_, rfl⟩
  rw [← hj] at HT c1
  clear h hvw hj
  go_enter Try.func41, Try.ntmps41
  go_wp2_with fail
  refine H.out.mono ?_
  rintro e w' ⟨rfl, rfl⟩
  go_wp2_with fail
  refine H2.out.mono ?_
  rintro e w' ⟨rfl, rfl⟩
  go_wp2
  go_region_law (first | (refine step_append_run (by rfl) _ _ _ (by rfl) _ _ (by rfl) (by rfl) hrun ?_; clear hrun) | (go_simp; go_wp2_with (go_at_call 53; refine HT.out.mono ?_; rintro e w1 ⟨gt, ct, g, cap2, w2, rfl, hrun, c1', c2, c3, c4, P2⟩)))
  all_goals
    go_wp2
    go_ret
    obtain ⟨p1, p2, p3⟩ := P2.out
    exact ⟨_, rfl, rfl, p1, rfl, by simp, p2, p3⟩
end
end Go.Proofs.Ytgcfjphjekkkmaa
