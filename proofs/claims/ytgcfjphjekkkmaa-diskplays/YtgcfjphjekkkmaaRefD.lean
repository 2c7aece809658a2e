/- The document's disk is made. -/
import Derived.Test.YtgcfjphjekkkmaaRefB
import Derived.Test.YtgcfjphjekkkmaaArgR
import Derived.Maps.AppendAt
import Derived.BigQuiet
namespace Go.Proofs.Ytgcfjphjekkkmaa
open Go.RowKit Ap
attribute [local go_sem ↓] Go.wp_at_zero Go.wp_at_succ

/-- A row more onto a row of rows: the run, as an equation. -/
theorem run_row {w1 : World} {lo : Nat} {vo : Option Addr} {j vcap : Nat} {xs : List Value} (ho : w1.ownsRow lo 46 1 (.slice vo j vcap) j xs) (hlo : lo ≤ w1.heap.size) (u : Value) (hu : u.oneCell' = true) (hj : j ≤ 65536) :
    ∃ g cap w2, (∀ ty, (Builtin.append_ #[42, 42] ty #[.slice vo j vcap, .slice (some ⟨w1.heap.size, 0, none⟩) 1 1]).run Try.prog (w1.alloc (.cells #[u] 46)) = .ok (.slice (some ⟨g, 0, none⟩) (j + 1) cap) w2) ∧ w2.ownsRow lo 46 1 (.slice (some ⟨g, 0, none⟩) (j + 1) cap) (j + 1) (xs ++ [u]) ∧ (w1.alloc (.cells #[u] 46)).grownBy w2 (Value.ownBlock (.slice vo j vcap)) := by
  obtain ⟨i46, hi, hz0, hz1, hz2⟩ := info_parts Try.info46
  obtain ⟨v', w2, h1, h2, h3, h4, h5⟩ := run_append_own_at (P := Try.prog) (w1.alloc (.cells #[u] 46)) lo 42 42 46 i46 (.slice none 0 0) 1 24 Try.underlying42 hi hz0 hz1 hz2 rfl (by decide) (.slice vo j vcap) j xs (ho.alloc _) ⟨w1.heap.size, 0, none⟩ 1 1 [u] rfl cell_1 (fun x hx => by simp at hx; subst hx; exact hu) (by unfold maxLen; omega) (by omega) (Nat.le_trans hlo (World.grownBy_alloc w1 _ none).size)
  obtain ⟨g, cap, rfl⟩ : ∃ g cap, v' = .slice (some ⟨g, 0, none⟩) (j + 1) cap := by
    rcases h2.2 with ⟨_, h0⟩ | ⟨g', cap', _, e, _⟩
    · cases h0
    · exact ⟨g', cap', e⟩
  exact ⟨g, cap, w2, fun ty => h1, h2, h3⟩
/-- The disk's block and its row, behind one row more. -/
theorem push_row {wr w1 w2 : World} {lo rb : Nat} {v v' vw : Value} {S : List Bx} {b : Bx} (hb : wr.heap[rb]? = some (.cells #[v, vw] 54 (0, 0))) (hR : RowAt wr lo v S) (g1 : wr.grownBy w1 none) (b1 : BxAt w1 wr.heap.size b) (hlo : lo ≤ wr.heap.size)
    (o2 : w2.ownsRow lo 46 1 v' (S.length + 1) (S.map Bx.v ++ [b.v])) (g2 : w1.grownBy w2 v.ownBlock) :
    (w2.setCell ⟨rb, 0, none⟩ v').heap[rb]? = some (.cells #[v', vw] 54 (0, 0)) ∧ RowAt (w2.setCell ⟨rb, 0, none⟩ v') lo v' (S ++ [b]) ∧ Kept wr (w2.setCell ⟨rb, 0, none⟩ v') (fun i => i = rb ∨ v.ownBlock = some i) := by
  have hvn : v.ownBlock ≠ some rb := by
    intro e
    obtain ⟨_, c1, q1⟩ := own_block hR.row rb e
    rw [hb] at q1
    simp at q1
  have hb1 := (g1.block rb (row_lt hb) (by simp)).trans hb
  have hb2 := (g2.block rb (row_lt hb1) (fun e => hvn e.symm)).trans hb1
  have hR2 := hR.snoc g1 b1 hlo g2 o2
  have gs := grown_setCell w2 rb 0 v'
  have ks : Kept w2 (w2.setCell ⟨rb, 0, none⟩ v') (fun i => i = rb) := Kept.of gs (fun j e _ => (Option.some.inj e).symm)
  refine ⟨?_, hR2.off ks ?_ ?_, ?_⟩
  · have := heap_setCell_same w2 rb 0 #[v, vw] 54 v' hb2
    simpa using this
  · intro g e e2
    subst e2
    obtain ⟨_, c1, q1⟩ := own_block hR2.row g e
    rw [hb2] at q1
    simp at q1
  · intro x hx e
    obtain ⟨_, c1, q1⟩ := (hR2.at_ x hx).blk
    rw [e, hb2] at q1
    simp at q1
  · have k2 : Kept w1 w2 (fun i => i = rb ∨ v.ownBlock = some i) := Kept.of g2 (fun j e _ => Or.inr e)
    exact ((Kept.new g1 _).trans k2 (fun _ _ e => e)).trans (ks.mono (fun i _ e => Or.inl e)) (fun _ _ e => e)

section
variable {w : World} {ro : Option Addr} {cap n : Nat} {R : List (List Nat)}
set_option maxHeartbeats 1000000 in
theorem rof_none (w : World) (ro : Option Addr) (cap : Nat) : Calls Try.prog 26 #[.slice ro 0 cap] w fun e w' => ∃ rb, e = .returned (.tuple #[.pointer (some ⟨rb, 0, none⟩), .int .i64 2]) ∧ Empty w' rb ∧ w.heap.size ≤ rb ∧ w.grownBy w' none := by
  go_enter Try.func26, Try.ntmps26
  go_wp2
  go_ret2
  exact ⟨_, rfl, heap_alloc_new w _, Nat.le_refl _, World.grownBy_alloc w _ none⟩
set_option maxHeartbeats 1000000 in
theorem rof_bad (h : RowsIn w ro R) (_hn : R.length = n) (hn0 : 0 < n) (xs : List Nat) (hx : R[0]? = some xs) (hm : mayB (n : Int) (xs.length : Int) = false) : Calls Try.prog 26 #[.slice ro n cap] w fun e w' => ∃ rb, e = .returned (.tuple #[.pointer (some ⟨rb, 0, none⟩), .int .i64 2]) ∧ Empty w' rb ∧ w.heap.size ≤ rb ∧ w.grownBy w' none := by
  obtain ⟨b, o, ao, c, rfl, h1, -⟩ := h 0 xs hx
  have hc : (w.alloc (.cells #[.slice none 0 0, .slice none 0 0] 54)).cell? ⟨b, o, none⟩ = some (.slice ao xs.length c) := (World.grownBy_alloc w _ none).cell h1 (by simp)
  have HM : Hid (∀ w, Calls Try.prog 10 #[.int .i64 (n : Int), .int .i64 (xs.length : Int)] w fun e w' => e = .returned (.bool false) ∧ w' = w) := fun w => by have := mayR_any n xs.length w; rw [hm] at this; exact this
  have m0 : (0 : Int) < (n : Int) := by omega
  have m1 : ¬ (n : Int) = 0 := by omega
  clear h hx hm h1 _hn
  go_enter Try.func26, Try.ntmps26
  go_wp2_with fail
  refine (HM.out _).mono ?_
  rintro e w1 ⟨rfl, rfl⟩
  go_wp2
  go_ret2
  exact ⟨_, rfl, heap_alloc_new w _, Nat.le_refl _, World.grownBy_alloc w _ none⟩
end
end Go.Proofs.Ytgcfjphjekkkmaa
