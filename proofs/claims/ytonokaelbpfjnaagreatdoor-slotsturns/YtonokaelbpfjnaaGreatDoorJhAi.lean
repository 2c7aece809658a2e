/- Texts joined: RefW, OneC, Dev, Dev2. -/
import Derived.Test.YtonokaelbpfjnaaGreatDoorJhAh
import Derived.Test.YtonokaelbpfjnaaGreatDoorJhAg
import Derived.Test.YtonokaelbpfjnaaGreatDoorJhAe
/- The document's Write. -/
namespace Go.Proofs.YtonokaelbpfjnaaGreatDoor
open Go.RowKit Ap
attribute [local go_sem ↓] Go.wp_at_zero Go.wp_at_succ

theorem Tryz.info169 : (Tryz.prog.info? 169).map (fun i => (i.zero, i.size, i.bytes)) = some (some (.agg #[.int .i64 0, .slice none 0 0]), 2, 32) := by kernel_rfl
/-- One write more onto those that wait: the run, as an equation. -/
theorem run_wait {w1 : World} {lo : Nat} {vo : Option Addr} {j vcap : Nat} {xs : List Value} (ho : w1.ownsRow lo 169 2 (.slice vo j vcap) j xs) (hlo : lo ≤ w1.heap.size) (s : Int) (u : Value) (hu : u.oneCell' = true) (hj : j ≤ 1000000) :
    ∃ g cap w2, (∀ ty, (Builtin.append_ #[142, 142] ty #[.slice vo j vcap, .slice (some ⟨w1.heap.size, 0, none⟩) 1 1]).run Tryz.prog (w1.alloc (.cells #[.int .i64 s, u] 169)) = .ok (.slice (some ⟨g, 0, none⟩) (j + 1) cap) w2) ∧ w2.ownsRow lo 169 2 (.slice (some ⟨g, 0, none⟩) (j + 1) cap) (j + 1) (xs ++ [.int .i64 s, u]) ∧ (w1.alloc (.cells #[.int .i64 s, u] 169)).grownBy w2 (Value.ownBlock (.slice vo j vcap)) ∧
      (Value.ownBlock (.slice vo j vcap) = some g ∨ w1.heap.size ≤ g) := by
  obtain ⟨i86, hi, hz0, hz1, hz2⟩ := info_parts Tryz.info169
  obtain ⟨v', w2, h1, h2, h3, h4, h5⟩ := run_append_own_at (P := Tryz.prog) (w1.alloc (.cells #[.int .i64 s, u] 169)) lo 142 142 169 i86 (.agg #[.int .i64 0, .slice none 0 0]) 2 32 Tryz.underlying142 hi hz0 hz1 hz2 rfl (by decide) (.slice vo j vcap) j xs (ho.alloc _) ⟨w1.heap.size, 0, none⟩ 1 1 [.int .i64 s, u] rfl (cell_two w1 _ _ 169) (fun x hx => by simp at hx; rcases hx with rfl | rfl; rfl; exact hu) (by unfold maxLen; omega) (by omega) (Nat.le_trans hlo (World.grownBy_alloc w1 _ none).size)
  obtain ⟨g, cap, rfl⟩ : ∃ g cap, v' = .slice (some ⟨g, 0, none⟩) (j + 1) cap := by
    rcases h2.2 with ⟨_, h0⟩ | ⟨g', cap', _, e, _⟩
    · cases h0
    · exact ⟨g', cap', e⟩
  refine ⟨g, cap, w2, fun ty => h1, h2, h3, ?_⟩
  rcases h5 with e | e
  · exact Or.inl e.symm
  · have e : some g = some (w1.alloc (.cells #[.int .i64 s, u] 169)).heap.size := e
    have e := Option.some.inj e
    have := (World.grownBy_alloc w1 (.cells #[.int .i64 s, u] 169) none).size
    exact Or.inr (by omega)
section
variable {wq w1 w2 : World} {lo n size : Nat} {q : Rk}
/-- The disk behind one write more. -/
theorem RefAt.wrote {v' : Value} {b : Bx} {s : Nat} (h : RefAt wq lo n size q) (hlo : lo ≤ wq.heap.size) (g1 : wq.grownBy w1 none) (b1 : BxAt w1 wq.heap.size b) (hb : b.xs.length = size) (hs : s < n)
    (o2 : w2.ownsRow lo 169 2 v' (q.V.length + 1) (vcells q.V ++ [.int .i64 (s : Int), b.v])) (g2 : w1.grownBy w2 q.vw.ownBlock) (hv' : ∀ g, v'.ownBlock = some g → q.vw.ownBlock = some g ∨ wq.heap.size ≤ g) :
    RefAt (w2.setCell ⟨q.r, 1, none⟩ v') lo n size ⟨q.r, q.v, v', q.S, q.V ++ [(s, b)]⟩ ∧ Kept wq (w2.setCell ⟨q.r, 1, none⟩ v') (rfoot q) ∧ ∀ i, rfoot ⟨q.r, q.v, v', q.S, q.V ++ [(s, b)]⟩ i → rfoot q i ∨ wq.heap.size ≤ i := by
  have hh1 := (g1.block q.r (row_lt h.head) (by simp)).trans h.head
  have hwn : q.vw.ownBlock ≠ some q.r := by
    intro e
    obtain ⟨_, c1, q1⟩ := own_block h.wrow q.r e
    rw [h.head] at q1
    simp at q1
  have hh2 := (g2.block q.r (row_lt hh1) (fun e => hwn e.symm)).trans hh1
  have gs := grown_setCell w2 q.r 1 v'
  have ks : Kept w2 (w2.setCell ⟨q.r, 1, none⟩ v') (fun i => i = q.r) := Kept.of gs (fun j e _ => (Option.some.inj e).symm)
  have k2 : Kept w1 w2 (fun i => q.vw.ownBlock = some i) := Kept.of g2 (fun j e _ => e)
  have kT : Kept wq (w2.setCell ⟨q.r, 1, none⟩ v') (fun i => i = q.r ∨ q.vw.ownBlock = some i) :=
    ((Kept.new g1 _).trans (k2.mono (fun i _ e => Or.inr e)) (fun _ _ e => e)).trans (ks.mono (fun i _ e => Or.inl e)) (fun _ _ e => e)
  have off : ∀ {g : Nat} {cur : Array Value} {t : TypeId}, wq.heap[g]? = some (.cells cur t (0, 0)) → t ≠ 144 → t ≠ 169 → ¬ (g = q.r ∨ q.vw.ownBlock = some g) := by
    rintro g cur t hg h54 h86 (e | e)
    · rw [e, h.head] at hg; simp at hg; exact h54 hg.2.symm
    · obtain ⟨_, c2, q2⟩ := own_block h.wrow g e; rw [q2] at hg; simp at hg; exact h86 hg.2.symm
  have hrows : RowAt (w2.setCell ⟨q.r, 1, none⟩ v') lo q.v q.S := h.rows.off kT (fun g e => by obtain ⟨_, c, hc⟩ := own_block h.rows.row g e; exact off hc (by decide) (by decide)) (fun x hx => by obtain ⟨_, c, hc⟩ := (h.rows.at_ x hx).blk; exact off hc (by decide) (by decide))
  have hbk := b1.blk
  refine ⟨⟨?_, h.low, hrows, ?_, ?_, ?_, h.shape, h.len, h.sz, ?_⟩, kT.mono ?_, ?_⟩
  · have := heap_setCell_same w2 q.r 1 #[q.v, q.vw] 144 v' hh2
    simpa using this
  · rw [vcells_snoc]
    have := owns_off o2 ks (fun g e e2 => by
      obtain ⟨_, c1, q1⟩ := own_block o2 g e
      rw [e2, hh2] at q1
      simp at q1)
    simpa using this
  · intro x hx
    rcases List.mem_append.1 hx with hx | hx
    · exact (h.wat x hx).off kT (by obtain ⟨_, c, hc⟩ := (h.wat x hx).blk; exact off hc (by decide) (by decide))
    · simp at hx
      subst hx
      refine ((b1.mono hlo).off k2 ?_).off ks ?_
      · intro e
        have e : q.vw.ownBlock = some b.g := e
        obtain ⟨_, c1, q1⟩ := own_block h.wrow _ e
        have := row_lt q1; have := hbk.1; omega
      · intro e
        have e : b.g = q.r := e
        have := row_lt h.head; have := hbk.1; omega
  · intro x hx y hy
    rcases List.mem_append.1 hx with hx | hx
    · exact h.nv x hx y hy
    · simp at hx
      subst hx
      have := (h.rows.at_ y hy).lt; have := hbk.1
      show b.g ≠ y.g
      omega
  · intro x hx
    rcases List.mem_append.1 hx with hx | hx
    · exact h.wsz x hx
    · simp at hx
      subst hx
      exact ⟨hs, hb⟩
  · rintro i _ (e | e)
    · exact .inl e
    · exact .inr (.inr (.inl e))
  · rintro i (e | e | e | e | ⟨x, hx, e⟩)
    · exact Or.inl (.inl e)
    · exact Or.inl (.inr (.inl e))
    · rcases hv' i e with e | e
      · exact Or.inl (.inr (.inr (.inl e)))
      · exact Or.inr e
    · exact Or.inl (.inr (.inr (.inr (.inl e))))
    · rcases List.mem_append.1 hx with hx | hx
      · exact Or.inl (.inr (.inr (.inr (.inr ⟨x, hx, e⟩))))
      · simp at hx
        subst hx
        have := hbk.1
        have e : b.g = i := e
        exact Or.inr (by omega)
/-- A twin, and what an append of the write comes to. -/
theorem twin_wait {ao vo : Option Addr} {cap j vcap s : Nat} {y : List Nat} (h : RefAt wq lo n size q) (hlo : lo ≤ wq.heap.size) (hvw : q.vw = .slice vo j vcap) (hj : q.V.length = j) (hj2 : j ≤ 1000000) (hat : At wq ao y) (hl : y.length = size) (hnil : ao = none → size = 0 ∧ cap = 0) (hs : s < n) :
    Calls Tryz.prog 133 #[.slice ao size cap] wq.drew fun e w1 => ∃ gt ct g cap2 w2, e = .returned (.slice (some ⟨gt, 0, none⟩) size ct) ∧ (∀ ty, (Builtin.append_ #[142, 142] ty #[.slice vo j vcap, .slice (some ⟨w1.heap.size, 0, none⟩) 1 1]).run Tryz.prog (w1.alloc (.cells #[.int .i64 (s : Int), .slice (some ⟨gt, 0, none⟩) size ct] 169)) = .ok (.slice (some ⟨g, 0, none⟩) (j + 1) cap2) w2) ∧
      w1.cell? ⟨q.r, 1, none⟩ = some (.slice vo j vcap) ∧ (w1.alloc (.cells #[.int .i64 (s : Int), .slice (some ⟨gt, 0, none⟩) size ct] 169)).cell? ⟨q.r, 1, none⟩ = some (.slice vo j vcap) ∧ w2.cell? ⟨q.r, 1, none⟩ = some (.slice vo j vcap) ∧ w2.frozen? ⟨q.r, 1, none⟩ = false ∧
      Hid (RefAt (w2.setCell ⟨q.r, 1, none⟩ (.slice (some ⟨g, 0, none⟩) (j + 1) cap2)) lo n size ⟨q.r, q.v, .slice (some ⟨g, 0, none⟩) (j + 1) cap2, q.S, q.V ++ [(s, ⟨gt, ct, y⟩)]⟩ ∧ Kept wq (w2.setCell ⟨q.r, 1, none⟩ (.slice (some ⟨g, 0, none⟩) (j + 1) cap2)) (rfoot q) ∧ ∀ i, rfoot ⟨q.r, q.v, .slice (some ⟨g, 0, none⟩) (j + 1) cap2, q.S, q.V ++ [(s, ⟨gt, ct, y⟩)]⟩ i → rfoot q i ∨ wq.heap.size ≤ i) := by
  have s0 := h.shape.s0
  have s1 := h.shape.s1
  refine (twin_any ao size cap y wq.drew hat hl (by omega) hnil (by omega)).mono ?_
  rintro e w1 ⟨gt, ct, rfl, o1, g1⟩
  have g1' := grown_trans (grown_drew wq none) g1
  have h1 := h.grown g1'
  have hro := h1.wrow
  rw [hvw, hj] at hro
  obtain ⟨g, cap2, w2, hrun, o2, g2, hg⟩ := run_wait hro (Nat.le_trans hlo g1'.size) (s : Int) (.slice (some ⟨gt, 0, none⟩) size ct) rfl hj2
  have gz := World.grownBy_alloc w1 (.cells #[.int .i64 (s : Int), .slice (some ⟨gt, 0, none⟩) size ct] 169) none
  have hz := h1.grown gz
  have hwn : (Value.slice vo j vcap).ownBlock ≠ some q.r := by
    rw [← hvw]
    intro e
    obtain ⟨_, c1, q1⟩ := own_block h.wrow q.r e
    rw [h.head] at q1
    simp at q1
  have hh2 := (g2.block q.r (row_lt hz.head) (fun e => hwn e.symm)).trans hz.head
  have c3 : w2.cell? ⟨q.r, 1, none⟩ = some q.vw := cell_row (l := [q.v, q.vw]) hh2 1
  have P := h.wrote (v' := .slice (some ⟨g, 0, none⟩) (j + 1) cap2) (b := ⟨gt, ct, y⟩) (s := s) hlo (grown_trans g1' gz) (BxAt.grown o1 gz) hl hs (by rw [hj, Bx.v]; simp only [hl]; exact o2) (by rw [hvw]; exact g2) (fun x e => by
    cases e
    rw [hvw]
    exact hg.imp id (fun e => Nat.le_trans g1'.size e))
  refine ⟨gt, ct, g, cap2, w2, rfl, hrun, ?_, ?_, ?_, free_row hh2 1, hide P⟩
  · rw [h1.c1, hvw]
  · rw [hz.c1, hvw]
  · rw [c3, hvw]
end
section
variable {w : World} {lo n size : Nat} {q : Rk} {r : Nat}
set_option maxHeartbeats 400000 in
theorem rwrite_bad (hr : q.r = r) (h : RefAt w lo n size q) (a : Int) (ha : a < 0 ∨ (n : Int) ≤ a) (v : Value) : Calls Tryz.prog 99 #[.pointer (some ⟨r, 0, none⟩), .int .i64 a, v] w fun e w' => e = .returned (.int .i64 50) ∧ w' = w := by
  have H := hide (rwrong_bad hr h a ha)
  clear h hr
  go_enter Tryz.func99, Tryz.ntmps99
  go_wp2_with fail
  refine H.out.mono ?_
  rintro e w' ⟨rfl, rfl⟩
  go_wp2
  go_ret
  exact ⟨rfl, rfl⟩
set_option maxHeartbeats 400000 in
theorem rwrite_long (hr : q.r = r) (h : RefAt w lo n size q) (s : Nat) (hs : s < n) (ao : Option Addr) (m cap : Nat) (hm : m ≠ size) : Calls Tryz.prog 99 #[.pointer (some ⟨r, 0, none⟩), .int .i64 (s : Int), .slice ao m cap] w fun e w' => e = .returned (.int .i64 3) ∧ w' = w := by
  have H := hide (rwrong_ok hr h s hs)
  have H2 := hide (rsize_any hr h)
  have hne : ¬ (m : Int) = (size : Int) := by omega
  clear h hr
  go_enter Tryz.func99, Tryz.ntmps99
  go_wp2_with fail
  refine H.out.mono ?_
  rintro e w' ⟨rfl, rfl⟩
  go_wp2_with fail
  refine H2.out.mono ?_
  rintro e w' ⟨rfl, rfl⟩
  go_wp2
  go_ret
  exact ⟨rfl, rfl⟩
set_option maxRecDepth 20000 in
set_option maxHeartbeats 2000000 in
theorem rwrite_any (hr : q.r = r) (h : RefAt w lo n size q) (hlo : lo ≤ w.heap.size) (hV : q.V.length ≤ 1000000) (s : Nat) (hs : s < n) (ao : Option Addr) (cap : Nat) (y : List Nat) (hat : At w ao y) (hl : y.length = size) (hnil : ao = none → size = 0 ∧ cap = 0) : Calls Tryz.prog 99 #[.pointer (some ⟨r, 0, none⟩), .int .i64 (s : Int), .slice ao size cap] w fun e w' => ∃ q' : Rk, e = .returned (.int .i64 0) ∧ q'.r = r ∧ RefAt w' lo n size q' ∧ q'.S = q.S ∧ q'.V.map (fun x => (x.1, x.2.xs)) = q.V.map (fun x => (x.1, x.2.xs)) ++ [(s, y)] ∧ Kept w w' (rfoot q) ∧ ∀ i, rfoot q' i → rfoot q i ∨ w.heap.size ≤ i := by
  have H := hide (rwrong_ok hr h s hs)
  have H2 := hide (rsize_any hr h)
  obtain ⟨vo, vcap, hvw, -⟩ := h.wform
  have HT := hide (twin_wait (cap := cap) h hlo hvw rfl hV hat hl hnil hs)
  have c1 := h.c1
  rw [hvw] at c1
  rw [hr] at HT c1
  obtain ⟨j, hj⟩ : ∃ j, j = q.V.length := ⟨_, rfl⟩
  rw [← hj] at HT c1
  clear h hvw hj
  go_enter Tryz.func99, Tryz.ntmps99
  go_wp2_with fail
  refine H.out.mono ?_
  rintro e w' ⟨rfl, rfl⟩
  go_wp2_with fail
  refine H2.out.mono ?_
  rintro e w' ⟨rfl, rfl⟩
  go_wp2
  go_region_law (first | (refine step_append_run (by rfl) _ _ _ (by rfl) _ _ (by rfl) (by rfl) hrun ?_; clear hrun) | (go_simp; go_wp2_with (go_at_call 133; refine HT.out.mono ?_; rintro e w1 ⟨gt, ct, g, cap2, w2, rfl, hrun, c1', c2, c3, c4, P2⟩)))
  all_goals
    go_wp2
    go_ret
    obtain ⟨p1, p2, p3⟩ := P2.out
    exact ⟨_, rfl, rfl, p1, rfl, by simp, p2, p3⟩
end
end Go.Proofs.YtonokaelbpfjnaaGreatDoor
/- A call of a disk that is there tells what it should: Write; and all of them. -/
namespace Go.Proofs.YtonokaelbpfjnaaGreatDoor
open Go.RowKit Ap
attribute [local go_sem ↓] Go.wp_at_zero Go.wp_at_succ

def wcode (n size : Nat) (a : Int) (L : Nat) : Int := if 0 ≤ a ∧ a < (n : Int) then (if L = size then 0 else 3) else 50
def wabs (n size : Nat) (a : Int) (xs : List Nat) (P : List Pr) : List Pr := if 0 ≤ a ∧ a < (n : Int) then (if xs.length = size then P ++ [(a.toNat, xs)] else P) else P
section
variable {w0 w : World} {n size : Nat} {p : Pr2} {d r : Nat}
theorem wr_disk {k : Dk} {D : List Nat} {W : List Wt} (hd : k.d = d) (h : DkS w0 w k n size D W) (hW : W.length ≤ 900000) (a : Int) (ao : Option Addr) (L cap : Nat) (xs : List Nat) (hat : At w ao xs) (hx : xs.length = L) :
    Calls Tryz.prog 97 #[.pointer (some ⟨d, 0, none⟩), .int .i64 a, .slice ao L cap] w fun e w' => ∃ k' W', e = .returned (.int .i64 (wcode n size a L)) ∧ DkS w0 w' k' n size D W' ∧ Moved w w' k k' W W' ∧ abs W' = wabs n size a xs (abs W) ∧ W'.length ≤ W.length + 1 := by
  by_cases ha : 0 ≤ a ∧ a < (n : Int)
  · by_cases hl : L = size
    · obtain ⟨s, rfl⟩ := Int.eq_ofNat_of_zero_le ha.1
      subst hl
      refine (writeS hd h (by omega) s (by omega) ao cap xs hat hx).mono ?_
      rintro e w' ⟨rfl, k', h1, h2, h3, h4⟩
      refine ⟨k', _, by rw [wcode, if_pos ha, if_pos rfl], h3, h4.moved, ?_, by simp⟩
      rw [wabs, if_pos ha, if_pos hx]
      simp [abs]
    · subst hd
      refine (write_long h.disk a ao L cap ha hl).mono ?_
      rintro e w' ⟨rfl, hg⟩
      exact ⟨k, W, by rw [wcode, if_pos ha, if_neg hl], h.then hg, (Moved.refl w k W).new hg, by rw [wabs, if_pos ha, if_neg (by omega)], by omega⟩
  · subst hd
    refine (write_far h.disk a _ ha).mono ?_
    rintro e w' ⟨rfl, hg⟩
    exact ⟨k, W, by rw [wcode, if_neg ha], h.then hg, (Moved.refl w k W).new hg, by rw [wabs, if_neg ha], by omega⟩
theorem wr_ref {lo : Nat} {q : Rk} (hr : q.r = r) (h : RefAt w lo n size q) (hlo : lo ≤ w.heap.size) (hV : q.V.length ≤ 900000) (a : Int) (ao : Option Addr) (L cap : Nat) (xs : List Nat) (hat : At w ao xs) (hx : xs.length = L) (hnil : ao ≠ none) :
    Calls Tryz.prog 99 #[.pointer (some ⟨r, 0, none⟩), .int .i64 a, .slice ao L cap] w fun e w' => ∃ q' : Rk, e = .returned (.int .i64 (wcode n size a L)) ∧ q'.r = r ∧ RefAt w' lo n size q' ∧ q'.S = q.S ∧ absV q'.V = wabs n size a xs (absV q.V) ∧ Kept w w' (rfoot q) ∧ ∀ i, rfoot q' i → rfoot q i ∨ w.heap.size ≤ i := by
  by_cases ha : 0 ≤ a ∧ a < (n : Int)
  · obtain ⟨s, rfl⟩ := Int.eq_ofNat_of_zero_le ha.1
    by_cases hl : L = size
    · subst hl
      refine (rwrite_any hr h hlo (by omega) s (by omega) ao cap xs hat hx (fun e => absurd e hnil)).mono ?_
      rintro e w' ⟨q', rfl, h1, h2, h3, h4, h5, h6⟩
      refine ⟨q', by rw [wcode, if_pos ha, if_pos rfl], h1, h2, h3, ?_, h5, h6⟩
      rw [wabs, if_pos ha, if_pos hx]
      exact h4
    · refine (rwrite_long hr h s (by omega) ao L cap hl).mono ?_
      rintro e w' ⟨rfl, rfl⟩
      exact ⟨q, by rw [wcode, if_pos ha, if_neg hl], hr, h, rfl, by rw [wabs, if_pos ha, if_neg (by omega)], Kept.refl _ _, fun i e => .inl e⟩
  · refine (rwrite_bad hr h a (by omega) _).mono ?_
    rintro e w' ⟨rfl, rfl⟩
    exact ⟨q, by rw [wcode, if_neg ha], hr, h, rfl, by rw [wabs, if_neg ha], Kept.refl _ _, fun i e => .inl e⟩
end
end Go.Proofs.YtonokaelbpfjnaaGreatDoor
/- A device of package power in memory; its small calls. -/
namespace Go.Proofs.YtonokaelbpfjnaaGreatDoor
open Go.RowKit Ap
attribute [local go_sem ↓] Go.wp_at_zero Go.wp_at_succ

/-- What a device knows beside its disk. -/
structure Dv where
  off : Bool
  arm : Int
  cnt : Nat
/-- Is an operation done? -/
def Dv.goes (s : Dv) : Bool := !s.off && decide (s.arm ≠ 0)
/-- What an operation answers, if the disk's answer is c. -/
def Dv.code (s : Dv) (c : Int) : Int := if s.goes then c else 60
def Dv.upc (s : Dv) : Int := if s.off then 60 else 0
/-- Behind an operation. -/
def Dv.next (s : Dv) : Dv := if s.off then s else if s.arm = 0 then ⟨true, -1, s.cnt⟩ else ⟨false, if 0 < s.arm then s.arm - 1 else s.arm, s.cnt + 1⟩
def dcells (d : Nat) (s : Dv) : List Value := [.pointer (some ⟨d, 0, none⟩), .bool true, .bool s.off, .int .i64 s.arm, .int .i64 (s.cnt : Int)]
structure Dv.Ok (s : Dv) : Prop where
  lo : -1 ≤ s.arm
  hi : s.arm ≤ 9223372036854775807
  few : s.cnt ≤ 100000
structure DvAt (w : World) (b d : Nat) (s : Dv) : Prop where
  head : w.heap[b]? = some (.cells (dcells d s).toArray 110 (0, 0))
  ok : s.Ok
theorem Dv.Ok.next {s : Dv} (h : s.Ok) (hc : s.cnt < 100000) : s.next.Ok := by
  unfold Dv.next
  split
  · exact h
  · split
    · exact ⟨by simp, by simp, h.few⟩
    · refine ⟨?_, ?_, ?_⟩
      · have := h.lo; simp only; split <;> omega
      · have := h.hi; simp only; split <;> omega
      · simp only; omega
theorem Dv.next_cnt (s : Dv) : s.next.cnt ≤ s.cnt + 1 := by
  unfold Dv.next
  split
  · omega
  · split
    · simp
    · simp
theorem Dv.goes_off {s : Dv} (h : s.off = true) : s.goes = false ∧ s.next = s := by simp [Dv.goes, Dv.next, h]
theorem Dv.goes_cut {s : Dv} (h : s.off = false) (h0 : s.arm = 0) : s.goes = false ∧ s.next = ⟨true, -1, s.cnt⟩ := by simp [Dv.goes, Dv.next, h, h0]
theorem Dv.goes_on {s : Dv} (h : s.off = false) (h0 : s.arm ≠ 0) : s.goes = true ∧ s.next = ⟨false, if 0 < s.arm then s.arm - 1 else s.arm, s.cnt + 1⟩ := by simp [Dv.goes, Dv.next, h, h0]
section
variable {w w' : World} {b d : Nat} {s : Dv}
theorem DvAt.same (h : DvAt w b d s) (hb : w'.heap[b]? = w.heap[b]?) : DvAt w' b d s := ⟨hb.trans h.head, h.ok⟩
theorem DvAt.lt (h : DvAt w b d s) : b < w.heap.size := row_lt h.head
theorem DvAt.grown (h : DvAt w b d s) (hg : w.grownBy w' none) : DvAt w' b d s := h.same (hg.block b h.lt (by simp))
theorem DvAt.kept {S : Nat → Prop} (h : DvAt w b d s) (hk : Kept w w' S) (hS : ¬ S b) : DvAt w' b d s := h.same (hk.block b h.lt hS)
theorem DvAt.c0 (h : DvAt w b d s) : w.cell? ⟨b, 0, none⟩ = some (.pointer (some ⟨d, 0, none⟩)) := cell_row h.head 0
theorem DvAt.c1 (h : DvAt w b d s) : w.cell? ⟨b, 1, none⟩ = some (.bool true) := cell_row h.head 1
theorem DvAt.c2 (h : DvAt w b d s) : w.cell? ⟨b, 2, none⟩ = some (.bool s.off) := cell_row h.head 2
theorem DvAt.c3 (h : DvAt w b d s) : w.cell? ⟨b, 3, none⟩ = some (.int .i64 s.arm) := cell_row h.head 3
theorem DvAt.c4 (h : DvAt w b d s) : w.cell? ⟨b, 4, none⟩ = some (.int .i64 (s.cnt : Int)) := cell_row h.head 4
theorem DvAt.free (h : DvAt w b d s) (j : Nat) : w.frozen? ⟨b, j, none⟩ = false := free_row h.head j
/-- Bytes lie elsewhere. -/
theorem at_dev {ao : Option Addr} {xs : List Nat} (hat : At w ao xs) (h : DvAt w b d s) (hg : w.grownBy w' (some b)) : At w' ao xs := by
  intro j u hu
  obtain ⟨a, e, hc⟩ := hat j u hu
  refine ⟨a, e, hg.cell hc ?_⟩
  rintro e2
  have e2 : (a.add j).block = b := Option.some.inj e2
  have hsp : (a.add j).spot = none := by
    unfold World.cell? at hc
    split at hc
    · split at hc
      · cases hc
      · rename_i hs; simpa using hs
    · cases hc
  have he : a.add j = ⟨b, (a.add j).off, none⟩ := by
    cases hh : a.add j
    rw [hh] at e2 hsp
    simp at e2 hsp
    subst e2 hsp
    rfl
  rw [he, cell_row h.head] at hc
  generalize (a.add j).off = i at hc
  match i, hc with
  | 0, hc => simp [dcells] at hc
  | 1, hc => simp [dcells] at hc
  | 2, hc => simp [dcells] at hc
  | 3, hc => simp [dcells] at hc
  | 4, hc => simp [dcells] at hc
  | i + 5, hc => simp [dcells] at hc

set_option maxHeartbeats 400000 in
theorem dnone_at (b : Nat) (x : Bool) (w : World) (h : w.cell? ⟨b, 1, none⟩ = some (.bool x)) :
    Calls Tryz.prog 70 #[.pointer (some ⟨b, 0, none⟩)] w fun e w' => e = .returned (.bool (!x)) ∧ w' = w := by
  go_enter Tryz.func70, Tryz.ntmps70
  go_wp2
  go_ret
  exact ⟨rfl, rfl⟩
set_option maxHeartbeats 400000 in
theorem dnone_nil (w : World) :
    Calls Tryz.prog 70 #[.pointer none] w fun e w' => e = .returned (.bool true) ∧ w' = w := by
  go_enter Tryz.func70, Tryz.ntmps70
  go_wp2
  go_ret
  exact ⟨rfl, rfl⟩
theorem DvAt.is (h : DvAt w b d s) : Calls Tryz.prog 70 #[.pointer (some ⟨b, 0, none⟩)] w fun e w' => e = .returned (.bool false) ∧ w' = w := dnone_at b true w h.c1
set_option maxHeartbeats 400000 in
theorem isUp_any (h : DvAt w b d s) : Calls Tryz.prog 79 #[.pointer (some ⟨b, 0, none⟩)] w fun e w' => e = .returned (.int .i64 s.upc) ∧ w' = w := by
  have H := hide h.is
  have c2 := h.c2
  clear h
  unfold Dv.upc
  generalize s.off = x at *
  cases x
  all_goals
    go_enter Tryz.func79, Tryz.ntmps79
    go_wp2_with fail
    refine H.out.mono ?_
    rintro e w' ⟨rfl, rfl⟩
    go_wp2
    go_ret
    exact ⟨rfl, rfl⟩
set_option maxHeartbeats 400000 in
theorem down_any (h : DvAt w b d s) : Calls Tryz.prog 50 #[.pointer (some ⟨b, 0, none⟩)] w fun e w' => e = .returned (.bool s.off) ∧ w' = w := by
  have H := hide (isUp_any h)
  clear h
  unfold Dv.upc at H
  generalize s.off = x at *
  cases x
  all_goals
    go_enter Tryz.func50, Tryz.ntmps50
    go_wp2_with fail
    refine H.out.mono ?_
    rintro e w' ⟨rfl, rfl⟩
    go_wp2
    go_ret
    exact ⟨rfl, rfl⟩
set_option maxRecDepth 20000 in
set_option maxHeartbeats 1000000 in
theorem begin_any (h : DvAt w b d s) (hc : s.cnt < 100000) : Calls Tryz.prog 96 #[.pointer (some ⟨b, 0, none⟩)] w fun e w' => e = .returned (.int .i64 (s.code 0)) ∧ DvAt w' b d s.next ∧ w.grownBy w' (some b) := by
  have H := hide (isUp_any h)
  have c2 := h.c2
  have c3 := h.c3
  have c4 := h.c4
  have f2 := h.free 2
  have f3 := h.free 3
  have f4 := h.free 4
  have hlo := h.ok.lo
  have hhi := h.ok.hi
  have HH := hide h
  obtain ⟨x, a, c⟩ := s
  simp only at c2 c3 c4 hc hlo hhi
  cases x with
  | true =>
    clear h
    go_enter Tryz.func96, Tryz.ntmps96
    go_wp2_with fail
    refine H.out.mono ?_
    rintro e w' ⟨rfl, rfl⟩
    go_wp2
    go_ret
    exact ⟨rfl, HH.out, grown_refl _ _⟩
  | false =>
    by_cases h0 : a = 0
    · subst h0
      clear h
      go_enter Tryz.func96, Tryz.ntmps96
      go_wp2_with fail
      refine H.out.mono ?_
      rintro e w' ⟨rfl, rfl⟩
      go_wp2
      go_ret
      refine ⟨rfl, ⟨?_, HH.out.ok.next hc⟩, grown_then (grown_setCell _ b 2 _) (grown_setCell _ b 3 _) (fun j e => Or.inr e)⟩
      have h1 := row_setCell HH.out.head 2 (.bool true)
      exact row_setCell h1 3 (.int .i64 (-1))
    · by_cases h1 : 0 < a
      · have e1 : Dv.next ⟨false, a, c⟩ = ⟨false, a - 1, c + 1⟩ := by simp [Dv.next, h0, h1]
        have e2 : Dv.goes ⟨false, a, c⟩ = true := by simp [Dv.goes, h0]
        rw [e1, Dv.code, e2]
        clear h e1 e2
        go_enter Tryz.func96, Tryz.ntmps96
        go_wp2_with fail
        refine H.out.mono ?_
        rintro e w' ⟨rfl, rfl⟩
        go_wp2
        go_ret
        refine ⟨rfl, ⟨?_, ⟨by show -1 ≤ a - 1; omega, by show a - 1 ≤ _; omega, by show c + 1 ≤ _; omega⟩⟩, grown_then (grown_setCell _ b 3 _) (grown_setCell _ b 4 _) (fun j e => Or.inr e)⟩
        have h1 := row_setCell HH.out.head 3 (.int .i64 (a - 1))
        exact row_setCell h1 4 (.int .i64 ((c + 1 : Nat) : Int))
      · have e1 : Dv.next ⟨false, a, c⟩ = ⟨false, a, c + 1⟩ := by simp [Dv.next, h0, h1]
        have e2 : Dv.goes ⟨false, a, c⟩ = true := by simp [Dv.goes, h0]
        rw [e1, Dv.code, e2]
        clear h e1 e2
        go_enter Tryz.func96, Tryz.ntmps96
        go_wp2_with fail
        refine H.out.mono ?_
        rintro e w' ⟨rfl, rfl⟩
        go_wp2
        go_ret
        refine ⟨rfl, ⟨?_, ⟨hlo, hhi, by show c + 1 ≤ _; omega⟩⟩, grown_setCell _ b 4 _⟩
        exact row_setCell HH.out.head 4 (.int .i64 ((c + 1 : Nat) : Int))
/-- Armed anew. -/
def Dv.armed (s : Dv) (n : Int) : Dv := if s.off then s else ⟨false, max n (-1), s.cnt⟩
set_option maxRecDepth 20000 in
set_option maxHeartbeats 1000000 in
theorem arm_any (h : DvAt w b d s) (n : Int) (hn : n ≤ 9223372036854775807) : Calls Tryz.prog 25 #[.pointer (some ⟨b, 0, none⟩), .int .i64 n] w fun e w' => e = .returned (.int .i64 s.upc) ∧ DvAt w' b d (s.armed n) ∧ w.grownBy w' (some b) := by
  have H := hide (isUp_any h)
  have c3 := h.c3
  have f3 := h.free 3
  have HH := hide h
  obtain ⟨x, a, c⟩ := s
  simp only at c3
  cases x with
  | true =>
    clear h
    go_enter Tryz.func25, Tryz.ntmps25
    go_wp2_with fail
    refine H.out.mono ?_
    rintro e w' ⟨rfl, rfl⟩
    go_wp2
    go_ret
    exact ⟨rfl, HH.out, grown_refl _ _⟩
  | false =>
    clear h
    by_cases hm : n < -1
    · have e : Dv.armed ⟨false, a, c⟩ n = ⟨false, -1, c⟩ := by simp [Dv.armed]; omega
      rw [e]
      clear e
      go_enter Tryz.func25, Tryz.ntmps25
      go_wp2_with fail
      refine H.out.mono ?_
      rintro e w' ⟨rfl, rfl⟩
      go_wp2
      go_ret
      exact ⟨rfl, ⟨row_setCell HH.out.head 3 (.int .i64 (-1)), ⟨by show (-1 : Int) ≤ -1; omega, by show (-1 : Int) ≤ _; omega, HH.out.ok.few⟩⟩, grown_setCell _ b 3 _⟩
    · have e : Dv.armed ⟨false, a, c⟩ n = ⟨false, n, c⟩ := by simp [Dv.armed]; omega
      rw [e]
      clear e
      have hm2 : -1 ≤ n := by omega
      go_enter Tryz.func25, Tryz.ntmps25
      go_wp2_with fail
      refine H.out.mono ?_
      rintro e w' ⟨rfl, rfl⟩
      go_wp2
      go_ret
      exact ⟨rfl, ⟨row_setCell HH.out.head 3 (.int .i64 n), ⟨hm2, hn, HH.out.ok.few⟩⟩, grown_setCell _ b 3 _⟩
end
end Go.Proofs.YtonokaelbpfjnaaGreatDoor
/- A device over a disk: its calls. -/
namespace Go.Proofs.YtonokaelbpfjnaaGreatDoor
open Go.RowKit Ap
attribute [local go_sem ↓] Go.wp_at_zero Go.wp_at_succ

/-- A device lies at b, over the disk k. -/
structure Dev (w0 w : World) (n size b : Nat) (s : Dv) (k : Dk) (D : List Nat) (W : List Wt) : Prop where
  disk : DkS w0 w k n size D W
  dev : DvAt w b k.d s
  low : w0.heap.size ≤ b
/-- One device, before and after. -/
structure DvM (w w' : World) (b : Nat) (k k' : Dk) (W W' : List Wt) : Prop where
  d : k'.d = k.d
  own : ∀ i, k'.own i → k.own i ∨ w.heap.size ≤ i
  blk : ∀ x ∈ W', (∃ y ∈ W, y.blk = x.blk) ∨ w.heap.size ≤ x.blk
  kept : Kept w w' (fun i => k.own i ∨ i = b)
section
variable {w0 w w' w'' : World} {n size b : Nat} {s : Dv} {k k' k'' : Dk} {D D' : List Nat} {W W' W'' : List Wt}
theorem Dev.off (h : Dev w0 w n size b s k D W) : ¬ foot k W b := by
  rintro (e | ⟨x, hx, rfl⟩)
  · exact h.disk.disk.other_off h.dev.head (by decide) (by decide) (by decide) e
  · have := (h.disk.disk.waits x hx).2.2.2
    have h2 := h.dev.head
    rw [this] at h2
    simp at h2
theorem Dev.then (h : Dev w0 w n size b s k D W) (hg : w.grownBy w' none) : Dev w0 w' n size b s k D W := ⟨h.disk.then hg, h.dev.grown hg, h.low⟩
theorem DvM.refl (w : World) (b : Nat) (k : Dk) (W : List Wt) : DvM w w b k k W W := ⟨rfl, fun _ h => Or.inl h, fun x hx => Or.inl ⟨x, hx, rfl⟩, Kept.refl _ _⟩
theorem DvM.trans (h : DvM w w' b k k' W W') (g : DvM w' w'' b k' k'' W' W'') (_hb : b < w.heap.size) : DvM w w'' b k k'' W W'' := by
  refine ⟨g.d.trans h.d, ?_, ?_, h.kept.trans g.kept ?_⟩
  · intro i hi
    rcases g.own i hi with h1 | h1
    · exact h.own i h1
    · exact Or.inr (Nat.le_trans h.kept.size h1)
  · intro x hx
    rcases g.blk x hx with ⟨y, hy, e⟩ | h1
    · rw [← e]
      exact h.blk y hy
    · exact Or.inr (Nat.le_trans h.kept.size h1)
  · rintro i hi (h1 | h1)
    · rcases h.own i h1 with h2 | h2
      · exact Or.inl h2
      · omega
    · exact Or.inr h1
theorem DvM.new (h : DvM w w' b k k' W W') (g : w'.grownBy w'' none) : DvM w w'' b k k' W W' := ⟨h.d, h.own, h.blk, h.kept.trans (Kept.new g _) (fun _ _ e => e)⟩
theorem DvM.pre (g : w.grownBy w' none) (h : DvM w' w'' b k k' W W') : DvM w w'' b k k' W W' :=
  ⟨h.d, fun i hi => (h.own i hi).imp id (fun e => Nat.le_trans g.size e), fun x hx => (h.blk x hx).imp id (fun e => Nat.le_trans g.size e), (Kept.new g _).trans h.kept (fun _ _ e => e)⟩
theorem Moved.dev (h : Moved w w' k k' W W') : DvM w w' b k k' W W' := ⟨h.d, h.own, h.blk, h.kept.mono (fun _ _ e => Or.inl e)⟩
theorem DvM.row (hg : w.grownBy w' (some b)) : DvM w w' b k k W W := ⟨rfl, fun _ h => Or.inl h, fun x hx => Or.inl ⟨x, hx, rfl⟩, Kept.of hg (fun _ e _ => Or.inr (Option.some.inj e).symm)⟩
/-- The device's own block is written. -/
theorem Dev.dset {s' : Dv} (h : Dev w0 w n size b s k D W) (hg : w.grownBy w' (some b)) (hd : DvAt w' b k.d s') : Dev w0 w' n size b s' k D W :=
  ⟨h.disk.row hg (fun _ hi e => h.off (e ▸ hi)) h.low, hd, h.low⟩
/-- The disk goes on. -/
theorem Dev.dsk (h : Dev w0 w n size b s k D W) (hd : DkS w0 w' k' n size D' W') (hm : Moved w w' k k' W W') : Dev w0 w' n size b s k' D' W' :=
  ⟨hd, by have := h.dev.kept hm.kept (fun e => h.off (.inl e)); rw [← hm.d] at this; exact this, h.low⟩

set_option maxHeartbeats 1000000 in
theorem dwrite_any (h : Dev w0 w n size b s k D W) (hW : W.length ≤ 900000) (hc : s.cnt < 100000) (a : Int) (ao : Option Addr) (L cap : Nat) (xs : List Nat) (hat : At w ao xs) (hx : xs.length = L) :
    Calls Tryz.prog 44 #[.pointer (some ⟨b, 0, none⟩), .int .i64 a, .slice ao L cap] w fun e w' => e = .returned (.int .i64 (s.code (wcode n size a L))) ∧ ∃ k' W', Dev w0 w' n size b s.next k' D W' ∧ DvM w w' b k k' W W' ∧ abs W' = (if s.goes then wabs n size a xs (abs W) else abs W) ∧ W'.length ≤ W.length + 1 := by
  have H := hide (begin_any h.dev hc)
  have HH := hide (And.intro h (And.intro hW (And.intro hat hx)))
  have hb := h.dev.lt
  unfold Dv.code at H ⊢
  clear h hW hat hx hc
  obtain ⟨g, hgo⟩ : ∃ g, g = s.goes := ⟨_, rfl⟩
  rw [← hgo] at H ⊢
  clear hgo
  generalize s.next = t at *
  cases g with
  | false =>
    go_enter Tryz.func44, Tryz.ntmps44
    go_wp2_with fail
    refine H.out.mono ?_
    rintro e w' ⟨rfl, h1, h2⟩
    have H2 := hide (And.intro h1 h2)
    clear h1 h2
    go_wp2
    go_ret
    exact ⟨rfl, k, W, HH.out.1.dset H2.out.2 H2.out.1, DvM.row H2.out.2, by first | rfl | exact ⟨rfl, rfl⟩, by omega⟩
  | true =>
    simp only [if_true] at H ⊢
    go_enter Tryz.func44, Tryz.ntmps44
    go_wp2_with fail
    refine H.out.mono ?_
    rintro e w' ⟨rfl, h1, h2⟩
    have H2 := hide (And.intro h1 h2)
    have c0 := h1.c0
    clear h1 h2
    go_wp2_with fail
    have hd2 := HH.out.1.dset H2.out.2 H2.out.1
    refine (wr_disk rfl hd2.disk HH.out.2.1 a ao L cap xs (at_dev HH.out.2.2.1 HH.out.1.dev H2.out.2) HH.out.2.2.2).mono ?_
    rintro e w2 ⟨k2, W2, rfl, g1, g2, g3, g4⟩
    have H3 := hide (And.intro (hd2.dsk g1 g2) (And.intro ((DvM.row H2.out.2).trans (k := k) (W := W) (Moved.dev g2) hb) (And.intro g3 g4)))
    clear g1 g2 g3 g4 hd2
    go_wp2
    go_ret
    exact ⟨rfl, k2, W2, H3.out.1, H3.out.2.1, H3.out.2.2.1, H3.out.2.2.2⟩
/-- What a sync leaves. -/
def syncA (size : Nat) (st : List Nat × List Pr) : List Nat × List Pr := (stlP size (fun _ => size) st.1 st.2 st.2.length, [])
def crashA (size : Nat) (F : List (Int × Int)) (st : List Nat × List Pr) : List Nat × List Pr := (stlP size (fun i => lasts (fateK F i) (fateA F i) size) st.1 st.2 st.2.length, [])
set_option maxHeartbeats 1000000 in
theorem dsync_any (h : Dev w0 w n size b s k D W) (hc : s.cnt < 100000) :
    Calls Tryz.prog 153 #[.pointer (some ⟨b, 0, none⟩)] w fun e w' => e = .returned (.int .i64 (s.code 0)) ∧ ∃ k' D' W', Dev w0 w' n size b s.next k' D' W' ∧ DvM w w' b k k' W W' ∧ (D', abs W') = (if s.goes then syncA size (D, abs W) else (D, abs W)) ∧ W'.length ≤ W.length := by
  have H := hide (begin_any h.dev hc)
  have HH := hide h
  have hb := h.dev.lt
  unfold Dv.code at H ⊢
  clear h hc
  obtain ⟨g, hgo⟩ : ∃ g, g = s.goes := ⟨_, rfl⟩
  rw [← hgo] at H ⊢
  clear hgo
  generalize s.next = t at *
  cases g with
  | false =>
    go_enter Tryz.func153, Tryz.ntmps153
    go_wp2_with fail
    refine H.out.mono ?_
    rintro e w' ⟨rfl, h1, h2⟩
    have H2 := hide (And.intro h1 h2)
    clear h1 h2
    go_wp2
    go_ret
    exact ⟨rfl, k, D, W, HH.out.dset H2.out.2 H2.out.1, DvM.row H2.out.2, by first | rfl | exact ⟨rfl, rfl⟩, by omega⟩
  | true =>
    simp only [if_true] at H ⊢
    go_enter Tryz.func153, Tryz.ntmps153
    go_wp2_with fail
    refine H.out.mono ?_
    rintro e w' ⟨rfl, h1, h2⟩
    have H2 := hide (And.intro h1 h2)
    have c0 := h1.c0
    clear h1 h2
    go_wp2_with fail
    have hd2 := HH.out.dset H2.out.2 H2.out.1
    refine (syncS rfl hd2.disk).mono ?_
    rintro e w2 ⟨rfl, g1, g2⟩
    have H3 := hide (And.intro (hd2.dsk g1 (calm_moved g2)) ((DvM.row H2.out.2).trans (k := k) (W := W) (Moved.dev (calm_moved g2)) hb))
    clear g1 g2 hd2
    go_wp2
    go_ret
    exact ⟨rfl, k.calm, _, [], H3.out.1, H3.out.2, by rw [syncA, stl_abs, abs_length]; rfl, by simp⟩
/-- Bytes that a call has told. -/
def Gives (w w' : World) (size : Nat) (v : Value) (xs : List Nat) : Prop := (v = .slice none 0 0 ∧ xs = []) ∨ ∃ g, v = .slice (some ⟨g, 0, none⟩) size size ∧ w.heap.size ≤ g ∧ w'.heap[g]? = some (.cells (bv xs).toArray 5 (0, 0)) ∧ xs.length = size
def rcode (n : Nat) (a : Int) : Int := if 0 ≤ a ∧ a < (n : Int) then 0 else 50
def rbytes (n size : Nat) (D : List Nat) (W : List Wt) (a : Int) : List Nat := if 0 ≤ a ∧ a < (n : Int) then found size D W a.toNat else []
theorem rd_disk {d : Nat} (hd : k.d = d) (h : DkS w0 w k n size D W) (a : Int) : Calls Tryz.prog 100 #[.pointer (some ⟨d, 0, none⟩), .int .i64 a] w fun e w' =>
    ∃ v, e = .returned (.tuple #[v, .int .i64 (rcode n a)]) ∧ Gives w w' size v (rbytes n size D W a) ∧ w.grownBy w' none := by
  subst hd
  by_cases ha : 0 ≤ a ∧ a < (n : Int)
  · obtain ⟨i, rfl⟩ := Int.eq_ofNat_of_zero_le ha.1
    have hi : i < n := by omega
    refine (read_any h.disk i hi).mono ?_
    rintro e w' ⟨rfl, h1, h2⟩
    refine ⟨_, by rw [rcode, if_pos ha], ?_, h2⟩
    rw [rbytes, if_pos ha, Int.toNat_natCast]
    exact Or.inr ⟨w.heap.size, rfl, Nat.le_refl _, h1, found_length h.disk.len h.disk.fitsW i hi⟩
  · refine (read_far h.disk a ha).mono ?_
    rintro e w' ⟨rfl, h2⟩
    refine ⟨_, by rw [rcode, if_neg ha], ?_, h2⟩
    rw [rbytes, if_neg ha]
    exact Or.inl ⟨rfl, rfl⟩
theorem Gives.later {w1 w2 w3 : World} {v : Value} {xs : List Nat} (h : Gives w1 w2 size v xs) (hl : w.heap.size ≤ w1.heap.size) (hg : w2.grownBy w3 none) : Gives w w3 size v xs := by
  rcases h with h | ⟨g, h1, h2, h3, h4⟩
  · exact Or.inl h
  · exact Or.inr ⟨g, h1, by omega, (hg.block g (row_lt h3) (by simp)).trans h3, h4⟩
set_option maxHeartbeats 1000000 in
theorem dread_any (h : Dev w0 w n size b s k D W) (hc : s.cnt < 100000) (a : Int) :
    Calls Tryz.prog 46 #[.pointer (some ⟨b, 0, none⟩), .int .i64 a] w fun e w' => ∃ v, e = .returned (.tuple #[v, .int .i64 (s.code (rcode n a))]) ∧ Gives w w' size v (if s.goes then rbytes n size D W a else []) ∧ Dev w0 w' n size b s.next k D W ∧ DvM w w' b k k W W := by
  have H := hide (begin_any h.dev hc)
  have HH := hide h
  have hb := h.dev.lt
  unfold Dv.code at H ⊢
  clear h hc
  obtain ⟨g, hgo⟩ : ∃ g, g = s.goes := ⟨_, rfl⟩
  rw [← hgo] at H ⊢
  clear hgo
  generalize s.next = t at *
  cases g with
  | false =>
    go_enter Tryz.func46, Tryz.ntmps46
    go_wp2_with fail
    refine H.out.mono ?_
    rintro e w' ⟨rfl, h1, h2⟩
    have H2 := hide (And.intro h1 h2)
    clear h1 h2
    go_wp2
    go_ret2
    exact ⟨_, rfl, Or.inl ⟨rfl, rfl⟩, HH.out.dset H2.out.2 H2.out.1, DvM.row H2.out.2⟩
  | true =>
    simp only [if_true] at H ⊢
    go_enter Tryz.func46, Tryz.ntmps46
    go_wp2_with fail
    refine H.out.mono ?_
    rintro e w' ⟨rfl, h1, h2⟩
    have H2 := hide (And.intro h1 h2)
    have c0 := h1.c0
    clear h1 h2
    go_wp2_with fail
    have hd2 := HH.out.dset H2.out.2 H2.out.1
    refine (rd_disk rfl hd2.disk a).mono ?_
    rintro e w2 ⟨v, rfl, g1, g2⟩
    have H3 := hide (And.intro g1 (And.intro (hd2.then g2) ((DvM.row (k := k) (W := W) H2.out.2).new g2)))
    have hsz := H2.out.2.size
    clear g1 g2 hd2
    go_wp2
    go_ret2
    exact ⟨v, rfl, H3.out.1.later hsz (grown_refl _ _), H3.out.2.1, H3.out.2.2⟩
/-- Come again. -/
def Dv.anew : Dv := ⟨false, -1, 0⟩
theorem FatesAt.row {fo : Option Addr} {F : List (Int × Int)} {r : Nat} (h : FatesAt w fo F) (hg : w.grownBy w' (some r)) (hr : ∀ a, fo = some a → 0 < F.length → a.block ≠ r) : FatesAt w' fo F :=
  h.kept2 hg (fun a e hl e2 => hr a e hl (Option.some.inj e2))
set_option maxHeartbeats 1000000 in
theorem restart_any (h : Dev w0 w n size b s k D W) (fo : Option Addr) (m cap : Nat) (F : List (Int × Int)) (hm : F.length = m) (hF : FatesAt w fo F) (hfo : ∀ a, fo = some a → 0 < F.length → a.block ≠ k.db ∧ a.block ≠ b) :
    Calls Tryz.prog 19 #[.pointer (some ⟨b, 0, none⟩), .slice fo m cap] w fun e w' => e = .returned (.int .i64 0) ∧ ∃ D', Dev w0 w' n size b Dv.anew k.calm D' [] ∧ DvM w w' b k k.calm W [] ∧ (D', abs []) = crashA size F (D, abs W) := by
  have H := hide h.dev.is
  have c0 := h.dev.c0
  have f2 := h.dev.free 2
  have f3 := h.dev.free 3
  have f4 := h.dev.free 4
  have c2 := h.dev.c2
  have c3 := h.dev.c3
  have c4 := h.dev.c4
  have HH := hide (And.intro h (And.intro hm (And.intro hF hfo)))
  have hb := h.dev.lt
  clear h hm hF hfo
  go_enter Tryz.func19, Tryz.ntmps19
  go_wp2_with fail
  refine H.out.mono ?_
  rintro e w' ⟨rfl, rfl⟩
  go_wp2_with fail
  have r1 := row_setCell HH.out.1.dev.head 2 (.bool false)
  have r2 := row_setCell r1 3 (.int .i64 (-1))
  have r3 := row_setCell r2 4 (.int .i64 0)
  have gg := grown_then (grown_then (grown_setCell w' b 2 (.bool false)) (grown_setCell _ b 3 (.int .i64 (-1))) (fun j e => Or.inr e)) (grown_setCell _ b 4 (.int .i64 0)) (fun j e => Or.inr e)
  have dd : DvAt (((w'.setCell ⟨b, 2, none⟩ (.bool false)).setCell ⟨b, 3, none⟩ (.int .i64 (-1))).setCell ⟨b, 4, none⟩ (.int .i64 0)) b k.d Dv.anew := ⟨r3, ⟨by show (-1 : Int) ≤ -1; omega, by show (-1 : Int) ≤ _; omega, by show 0 ≤ _; omega⟩⟩
  have H2 := hide (And.intro dd gg)
  clear dd gg r1 r2 r3
  generalize ((w'.setCell ⟨b, 2, none⟩ (.bool false)).setCell ⟨b, 3, none⟩ (.int .i64 (-1))).setCell ⟨b, 4, none⟩ (.int .i64 0) = w2 at *
  have hd2 := HH.out.1.dset H2.out.2 H2.out.1
  refine (crash2 rfl hd2.disk fo m cap F HH.out.2.1 (HH.out.2.2.1.row H2.out.2 (fun a e hl => (HH.out.2.2.2 a e hl).2)) (fun a e hl => (HH.out.2.2.2 a e hl).1)).mono ?_
  rintro e w3 ⟨rfl, g1, g2⟩
  have H3 := hide (And.intro (hd2.dsk g1 (calm_moved g2)) ((DvM.row H2.out.2).trans (k := k) (W := W) (Moved.dev (calm_moved g2)) hb))
  clear g1 g2 hd2
  go_wp2
  go_ret
  exact ⟨rfl, _, H3.out.1, H3.out.2, by rw [crashA, stl_abs, abs_length]; rfl⟩
end
end Go.Proofs.YtonokaelbpfjnaaGreatDoor
