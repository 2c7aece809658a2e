/- Texts joined: HpHi, HpHj, Bk3, Bk4, Bk5. -/
import Derived.Deep.CutRange
import Derived.Deep.DeepCutAuto
import Derived.Test.YtcbiloomnkbalaaGreatDoorJyAf
import Derived.Test.YtcbiloomnkbalaaGreatDoorJyAd
/- An item more. -/
namespace Go.Proofs.YtcbiloomnkbalaaGreatDoor.Hp
open Go.RowKit
attribute [local go_sem ↓] Go.wp_at_zero Go.wp_at_succ
theorem Tryz.info150 : (Tryz.prog.info? 150).map (fun i => (i.zero, i.size, i.bytes)) = some (some (.agg #[.int .i64 0, .int .u32 0]), 2, 16) := by kernel_rfl
theorem Tryz.info3 : (Tryz.prog.info? 3).map (fun i => (i.zero, i.size, i.bytes)) = some (some (.int .i64 0), 1, 8) := by kernel_rfl
section
variable {w w' w2 : World} {L : Les} {p : Hp} {E : List (Nat × Int)} {T : List Nat} {N B : Nat} {ne nt : Nat} {cs ts : List Value} {f : Int → Option Value}
/-- The entries are appended to. -/
theorem HpR.appE (hL : L.Ok) (h : HpR w L p ne cs nt ts N B f) {v' : Value} {ne' : Nat} {cs' : List Value} (ho : w2.ownsRow 0 150 2 v' ne' cs') (hg : w.grownBy w2 p.ve.ownBlock) (hb : v'.ownBlock = p.ve.ownBlock ∨ v'.ownBlock = some w.heap.size) :
    HpR (w2.setCell ⟨p.h, 4, none⟩ v') L ⟨p.h, v', p.vl, p.mb⟩ ne' cs' nt ts N B f ∧ Kept w (w2.setCell ⟨p.h, 4, none⟩ v') p.own := by
  obtain ⟨a1, a2, a3⟩ := h.apart
  have hph := row_lt h.head
  have k1 : Kept w w2 (fun i => p.ve.ownBlock = some i) := Kept.of hg (fun j e _ => e)
  have k2 := kept_setCell w2 p.h 4 v'
  have hvh : v'.ownBlock ≠ some p.h := fun e => by
    rcases hb with hb | hb
    · rw [hb] at e; exact (a1 _ e).1 rfl
    · rw [hb] at e; have := Option.some.inj e; omega
  have kk : Kept w (w2.setCell ⟨p.h, 4, none⟩ v') (fun i => p.ve.ownBlock = some i ∨ i = p.h) := (k1.mono (fun _ _ e => .inl e)).trans k2 (fun _ _ e => .inr e)
  refine ⟨⟨?_, row_same ho (fun g hg => k2.block g (ho.lt g hg).2 (fun e => hvh (by rw [← e]; exact hg))), row_same h.lst (fun g hg => kk.block g (h.lt g (.inr (.inr (.inl hg)))) (fun e => e.elim (fun e => (a2 g hg).2.2 e) (a2 g hg).1)), h.map.same (kk.block _ h.map.lt (fun e => e.elim (fun e => (a1 _ e).2.1 rfl) (fun e => a3 e.symm))), ?_, ?_⟩, ?_⟩
  · exact row_setCell (k1.at h.head (fun e => (a1 _ e).1 rfl)) 4 v'
  · refine hL.keep _ _ _ h.inv kk (fun i e => ?_)
    rcases e with e | e
    · exact h.off i (.inr (.inl e))
    · exact h.off i (.inl e)
  · rintro i (e | e | e | e)
    · exact h.off i (.inl e)
    · rcases hb with hb | hb
      · exact h.off i (.inr (.inl (by rw [← hb]; exact e)))
      · intro hF
        have := hL.below w i h.inv hF
        have e2 : v'.ownBlock = some i := e
        rw [hb] at e2
        have := Option.some.inj e2
        omega
    · exact h.off i (.inr (.inr (.inl e)))
    · exact h.off i (.inr (.inr (.inr e)))
  · exact kk.mono (fun i _ e => e.elim (fun e => .inr (.inl e)) (fun e => .inl e))
theorem HpR.appT (hL : L.Ok) (h : HpR w L p ne cs nt ts N B f) {v' : Value} {nt' : Nat} {ts' : List Value} (ho : w2.ownsRow 0 3 1 v' nt' ts') (hg : w.grownBy w2 p.vl.ownBlock) (hb : v'.ownBlock = p.vl.ownBlock ∨ v'.ownBlock = some w.heap.size) :
    HpR (w2.setCell ⟨p.h, 5, none⟩ v') L ⟨p.h, p.ve, v', p.mb⟩ ne cs nt' ts' N B f ∧ Kept w (w2.setCell ⟨p.h, 5, none⟩ v') p.own := by
  obtain ⟨a1, a2, a3⟩ := h.apart
  have hph := row_lt h.head
  have k1 : Kept w w2 (fun i => p.vl.ownBlock = some i) := Kept.of hg (fun j e _ => e)
  have k2 := kept_setCell w2 p.h 5 v'
  have hvh : v'.ownBlock ≠ some p.h := fun e => by
    rcases hb with hb | hb
    · rw [hb] at e; exact (a2 _ e).1 rfl
    · rw [hb] at e; have := Option.some.inj e; omega
  have kk : Kept w (w2.setCell ⟨p.h, 5, none⟩ v') (fun i => p.vl.ownBlock = some i ∨ i = p.h) := (k1.mono (fun _ _ e => .inl e)).trans k2 (fun _ _ e => .inr e)
  refine ⟨⟨?_, row_same h.ent (fun g hg => kk.block g (h.lt g (.inr (.inl hg))) (fun e => e.elim (fun e => (a1 g hg).2.2 e) (a1 g hg).1)), row_same ho (fun g hg => k2.block g (ho.lt g hg).2 (fun e => hvh (by rw [← e]; exact hg))), h.map.same (kk.block _ h.map.lt (fun e => e.elim (fun e => (a2 _ e).2.1 rfl) (fun e => a3 e.symm))), ?_, ?_⟩, ?_⟩
  · exact row_setCell (k1.at h.head (fun e => (a2 _ e).1 rfl)) 5 v'
  · refine hL.keep _ _ _ h.inv kk (fun i e => ?_)
    rcases e with e | e
    · exact h.off i (.inr (.inr (.inl e)))
    · exact h.off i (.inl e)
  · rintro i (e | e | e | e)
    · exact h.off i (.inl e)
    · exact h.off i (.inr (.inl e))
    · rcases hb with hb | hb
      · exact h.off i (.inr (.inr (.inl (by rw [← hb]; exact e))))
      · intro hF
        have := hL.below w i h.inv hF
        have e2 : v'.ownBlock = some i := e
        rw [hb] at e2
        have := Option.some.inj e2
        omega
    · exact h.off i (.inr (.inr (.inr e)))
  · exact kk.mono (fun i _ e => e.elim (fun e => .inr (.inr (.inl e))) (fun e => .inl e))
/-- The next handle is counted up. -/
theorem HpR.count (hL : L.Ok) (h : HpR w L p ne cs nt ts N B f) : HpR (w.setCell ⟨p.h, 3, none⟩ (.int .i64 ((N : Int) + 1))) L p ne cs nt ts (N + 1) B f ∧ Kept w (w.setCell ⟨p.h, 3, none⟩ (.int .i64 ((N : Int) + 1))) p.own := by
  obtain ⟨a1, a2, a3⟩ := h.apart
  have k := kept_setCell w p.h 3 (.int .i64 ((N : Int) + 1))
  exact ⟨⟨row_setCell h.head 3 _, row_same h.ent (fun g hg => k.block g (h.lt g (.inr (.inl hg))) (a1 g hg).1), row_same h.lst (fun g hg => k.block g (h.lt g (.inr (.inr (.inl hg)))) (a2 g hg).1), h.map.same (k.block _ h.map.lt (fun e => a3 e.symm)), hL.keep _ _ _ h.inv k (fun i e => by rw [e]; exact h.off _ (.inl rfl)), h.off⟩, k.mono (fun i _ e => .inl e)⟩
/-- A heap, and all that is so of its items. -/
structure HS (w : World) (L : Les) (p : Hp) (E : List (Nat × Int)) (T : List Nat) (N B : Nat) : Prop where
  at_ : HpAt w L p E T N B
  good : Good L.lt E T
  hds : Hds E N
  ok : ∀ e ∈ E, L.ok e.2
/-- What a step leaves: the same heap, all else but what is its own and what less may write. -/
structure Hst (w w' : World) (L : Les) (p q : Hp) : Prop where
  h : q.h = p.h
  mb : q.mb = p.mb
  kept : Kept w w' (fun j => L.S j ∨ p.own j)
  own : ∀ j, q.own j → p.own j ∨ w.heap.size ≤ j
theorem Hst.refl (w : World) (L : Les) (p : Hp) : Hst w w L p p := ⟨rfl, rfl, Kept.refl _ _, fun _ e => .inl e⟩
theorem Hst.grown {w w' : World} (g : w.grownBy w' none) (L : Les) (p : Hp) : Hst w w' L p p := ⟨rfl, rfl, Kept.new g _, fun _ e => .inl e⟩
theorem Hst.trans {a b c : World} {L : Les} {p q r : Hp} (h : Hst a b L p q) (k : Hst b c L q r) : Hst a c L p r := by
  refine ⟨k.h.trans h.h, k.mb.trans h.mb, h.kept.trans k.kept (fun i hi e => ?_), fun j e => ?_⟩
  · rcases e with e | e
    · exact .inl e
    · rcases h.own i e with e | e
      · exact .inr e
      · omega
  · rcases k.own j e with e | e
    · exact h.own j e
    · exact .inr (Nat.le_trans h.kept.size e)
theorem Hds.push {E : List (Nat × Int)} {N : Nat} (h : Hds E N) (v : Int) : Hds (E ++ [(N, v)]) (N + 1) := by
  have hl : ∀ i, i < E.length + 1 → en (E ++ [(N, v)]) i = if i < E.length then en E i else (N, v) := by
    intro i hi
    split
    · rename_i h1; exact en_append_left h1
    · rename_i h1
      have : i = E.length := by omega
      subst this
      simp [en]
  constructor
  · intro i j hi hj e
    simp at hi hj
    rw [hl i hi, hl j hj] at e
    split at e <;> split at e
    · exact h.inj i j (by omega) (by omega) e
    · have := h.below i (by omega); simp at e; omega
    · have := h.below j (by omega); simp at e; omega
    · omega
  · intro i hi
    simp at hi
    rw [hl i hi]
    split
    · have := h.below i (by omega); omega
    · simp
theorem plf_push {E : List (Nat × Int)} {N : Nat} (h : Hds E N) (v : Int) (x : Int) : (if x = (N : Int) then some (Value.int .i64 (E.length : Int)) else plf E x) = plf (E ++ [(N, v)]) x := by
  have hp := h.push v
  have hl : ∀ i, i < E.length → en (E ++ [(N, v)]) i = en E i := fun i hi => en_append_left hi
  have hn : en (E ++ [(N, v)]) E.length = (N, v) := by simp [en]
  rw [plf_eq, plf_eq]
  split
  · rename_i e
    rw [fi_some hp (i := E.length) (by simp) (by rw [hn]; exact e.symm)]
    rfl
  · rename_i e
    cases hf : fi E x with
    | none =>
      rw [fi_none]
      intro i hi ex
      simp at hi
      by_cases h1 : i < E.length
      · rw [hl i h1] at ex
        rw [fi_some h h1 ex] at hf; cases hf
      · have : i = E.length := by omega
        subst this
        rw [hn] at ex
        exact e ex.symm
    | some i =>
      obtain ⟨h1, h2⟩ := fi_lt hf
      rw [fi_some hp (i := i) (by simp; omega) (by rw [hl i h1]; exact h2)]
theorem cell2_new (w : World) (a b : Value) (t : TypeId) : ∀ j x, [a, b][j]? = some x → (w.alloc (.cells #[a, b] t)).cell? ((⟨w.heap.size, 0, none⟩ : Addr).add j) = some x := by
  intro j x hx
  have hb : (w.alloc (.cells #[a, b] t)).heap[w.heap.size]? = some (.cells [a, b].toArray t (0, 0)) := heap_alloc_new w _
  rw [Addr.add_lit, Nat.zero_add, cell_row hb]
  exact hx
theorem cell1_new (w : World) (a : Value) (t : TypeId) : ∀ j x, [a][j]? = some x → (w.alloc (.cells #[a] t)).cell? ((⟨w.heap.size, 0, none⟩ : Addr).add j) = some x := by
  intro j x hx
  have hb : (w.alloc (.cells #[a] t)).heap[w.heap.size]? = some (.cells [a].toArray t (0, 0)) := heap_alloc_new w _
  rw [Addr.add_lit, Nat.zero_add, cell_row hb]
  exact hx
set_option maxRecDepth 20000 in
set_option maxHeartbeats 4000000 in
theorem push_any (hL : L.Ok) (h : HS w L p E T N B) (hE : E.length < 65536) (hN : N ≤ 100000000) (hB : B ≤ 100000000) (v : Int) (hv : L.ok v) :
    Calls Tryz.prog 75 #[.pointer (some ⟨p.h, 0, none⟩), .int .u32 v] w fun e w' => e = .returned (.tuple #[.int .i64 (N : Int), .int .i64 0]) ∧ ∃ q T', HS w' L q (E ++ [(N, v)]) T' (N + 1) (B + 1) ∧ Hst w w' L p q := by
  have hn := none_at h.at_
  have R0 := h.at_.raw
  rw [h.good.len] at R0
  obtain ⟨-, -, -, c3, c4, -, -⟩ := h.at_.cells
  obtain ⟨vo, cap, hve, -⟩ := own_form R0.ent
  have f3 : w.frozen? ⟨p.h, 3, none⟩ = false := free_row R0.head 3
  have hR1 := R0.count hL
  have HR0 := hide (And.intro h R0)
  clear h R0
  rw [hve] at c4
  have HVE := hide hve
  clear hve
  generalize hn1 : E.length = n at *
  have HN1 := hide hn1
  clear hn1
  have hne : ((n : Int) == 65536) = false := by simp; omega
  have hne2 : decide ((n : Int) = 65536) = false := by simp; omega
  have HR1 := hide hR1
  clear hR1
  go_enter Tryz.func75, Tryz.ntmps75
  go_wp2_with fail
  refine hn.mono ?_
  rintro e w1 ⟨rfl, hw1⟩
  obtain rfl := hw1.symm
  go_upto_region 8 with fail
  clear hn c3 f3
  generalize w.setCell ⟨p.h, 3, none⟩ (.int .i64 ((N : Int) + 1)) = w2 at *
  have hc4 := HR1.out.1.cells.1
  rw [HVE.out] at hc4
  obtain ⟨i0, hi0, hz0, hz1, hz2⟩ := info_parts Tryz.info150
  have HI0 := hide (And.intro hi0 (And.intro hz0 (And.intro hz1 hz2)))
  clear hi0 hz0 hz1 hz2 c4
  have gA := World.grownBy_alloc w2 (.cells #[.int .i64 (N : Int), .int .u32 v] 150) none
  have hRA := HR1.out.1.then hL gA
  have HRA := hide (And.intro hRA gA)
  clear hRA gA
  have hph4 : (w2.alloc (.cells #[.int .i64 (N : Int), .int .u32 v] 150)).cell? ⟨p.h, 4, none⟩ = some p.ve := HRA.out.1.cells.1
  clear hph4
  go_wp2_with (at_builtin; refine wpList_append_own_at _ rfl (.tmp 32) (.tmp 36) 141 rfl 0 150 i0 (.agg #[.int .i64 0, .int .u32 0]) 2 16 Tryz.underlying141 HI0.out.1 HI0.out.2.1 HI0.out.2.2.1 HI0.out.2.2.2 rfl (by decide) (.slice vo n cap) n (ecells E) rfl (by rw [← HVE.out]; exact HRA.out.1.ent) ⟨w2.heap.size, 0, none⟩ 1 1 [.int .i64 (N : Int), .int .u32 v] rfl rfl (cell2_new _ _ _ _) (by simp [Value.oneCell']) (by unfold maxLen; omega) (by omega) (Nat.zero_le _) ?_)
  intro v3 w3 ho3 hg3 hv3 hb3
  rw [← HVE.out] at hg3 hb3
  obtain ⟨vo3, cap3, rfl, -⟩ := own_form ho3
  have hcE := HRA.out.1.appE hL ho3 hg3 (by rw [World.size_alloc]; exact hb3)
  have ph3 := hg3.cell (HRA.out.1.cells.1) (fun e => (HRA.out.1.apart.1 p.h e.symm).1 rfl)
  have pf3 : w3.frozen? ⟨p.h, 4, none⟩ = false := free_row ((Kept.of hg3 (S := fun j => p.ve.ownBlock = some j) (fun j e _ => e)).at HRA.out.1.head (fun e => (HRA.out.1.apart.1 p.h e).1 rfl)) 4
  have HE3 := hide (And.intro hcE hb3)
  clear hcE hg3 hv3 hb3 ho3
  go_upto_region 9 with fail
  generalize w3.setCell ⟨p.h, 4, none⟩ (.slice vo3 (n + 1) cap3) = w4 at *
  clear ph3 pf3 hc4
  obtain ⟨pE, hpE⟩ : ∃ q : Hp, q = ⟨p.h, .slice vo3 (n + 1) cap3, p.vl, p.mb⟩ := ⟨_, rfl⟩
  have hR4 := HE3.out.1.1
  have hK4 := ((Kept.new HRA.out.2 p.own).trans HE3.out.1.2 (fun _ _ e => e))
  have hB4 : ∀ j, pE.own j → p.own j ∨ w2.heap.size ≤ j := by
    rw [hpE]
    rintro j (e | e | e | e)
    · exact .inl (.inl e)
    · rcases HE3.out.2 with h1 | h1
      · exact .inl (.inr (.inl (by rw [← h1]; exact e)))
      · have e2 : some (w2.heap.size + 1) = some j := by rw [← h1]; exact e
        have := Option.some.inj e2
        exact .inr (by omega)
    · exact .inl (.inr (.inr (.inl e)))
    · exact .inl (.inr (.inr (.inr e)))
  rw [← hpE] at hR4
  have hpEh : pE.h = p.h := by rw [hpE]
  have hpEm : pE.mb = p.mb := by rw [hpE]
  have HPM := hide hpEm
  clear hpEm
  have hpEl : pE.vl = p.vl := by rw [hpE]
  have H4 := hide (And.intro hR4 (And.intro hK4 (And.intro hB4 hpEl)))
  clear hR4 hK4 hB4 hpE HE3 HI0
  obtain ⟨vl, capl, hvl, -⟩ := own_form H4.out.1.lst
  obtain ⟨-, c5, -⟩ := H4.out.1.cells
  rw [hpEh, hvl] at c5
  have HVL := hide hvl
  clear hvl
  obtain ⟨i0, hi0, hz0, hz1, hz2⟩ := info_parts Tryz.info3
  have HI0 := hide (And.intro hi0 (And.intro hz0 (And.intro hz1 hz2)))
  clear hi0 hz0 hz1 hz2
  have gA := World.grownBy_alloc w4 (.cells #[.int .i64 (n : Int)] 3) none
  have hRB := H4.out.1.then hL gA
  have HRB := hide (And.intro hRB gA)
  clear hRB gA
  go_wp2_with (at_builtin; refine wpList_append_own_at _ rfl (.tmp 44) (.tmp 46) 142 rfl 0 3 i0 (.int .i64 0) 1 8 Tryz.underlying142 HI0.out.1 HI0.out.2.1 HI0.out.2.2.1 HI0.out.2.2.2 rfl (by decide) (.slice vl n capl) n (tcells T) rfl (by rw [← HVL.out]; exact HRB.out.1.lst) ⟨w4.heap.size, 0, none⟩ 1 1 [.int .i64 (n : Int)] rfl rfl (cell1_new _ _ _) (by simp [Value.oneCell']) (by unfold maxLen; omega) (by omega) (Nat.zero_le _) ?_)
  intro v5 w5 ho5 hg5 hv5 hb5
  rw [← HVL.out] at hg5 hb5
  obtain ⟨vo5, cap5, rfl, -⟩ := own_form ho5
  have hcT := HRB.out.1.appT hL ho5 hg5 (by rw [World.size_alloc]; exact hb5)
  have ph5 := hg5.cell (HRB.out.1.cells.2.1) (fun e => (HRB.out.1.apart.2.1 pE.h e.symm).1 rfl)
  have pf5 : w5.frozen? ⟨pE.h, 5, none⟩ = false := free_row ((Kept.of hg5 (S := fun j => pE.vl.ownBlock = some j) (fun j e _ => e)).at HRB.out.1.head (fun e => (HRB.out.1.apart.2.1 pE.h e).1 rfl)) 5
  rw [hpEh] at ph5 pf5
  have HT5 := hide (And.intro hcT hb5)
  clear hcT hg5 hv5 hb5 ho5
  go_upto_region 10 with fail
  have hcT2 := HT5.out.1
  rw [hpEh] at hcT2
  generalize w5.setCell ⟨p.h, 5, none⟩ (.slice vo5 (n + 1) cap5) = w6 at *
  clear ph5 pf5 c5
  obtain ⟨q, hq⟩ : ∃ q : Hp, q = ⟨p.h, pE.ve, .slice vo5 (n + 1) cap5, pE.mb⟩ := ⟨_, rfl⟩
  have hR6 := hcT2.1
  have hK6 := ((Kept.new HRB.out.2 pE.own).trans hcT2.2 (fun _ _ e => e))
  have hB6 : ∀ j, q.own j → pE.own j ∨ w4.heap.size ≤ j := by
    rw [hq]
    rintro j (e | e | e | e)
    · exact .inl (.inl (by rw [hpEh]; exact e))
    · exact .inl (.inr (.inl e))
    · rcases HT5.out.2 with h1 | h1
      · exact .inl (.inr (.inr (.inl (by rw [← h1]; exact e))))
      · have e2 : some (w4.heap.size + 1) = some j := by rw [← h1]; exact e
        have := Option.some.inj e2
        exact .inr (by omega)
    · exact .inl (.inr (.inr (.inr e)))
  rw [← hq] at hR6
  have hqh : q.h = p.h := by rw [hq]
  have hqm : q.mb = pE.mb := by rw [hq]
  have hx : (Lit.int .i64 (N : Int)).wf = true := wf_i64 (by omega) (by omega)
  have k3 : Tryz.prog.underlying 3 = some (.int .i64) := by first | exact Tryz.underlying3 | kernel_rfl
  obtain ⟨w7, hrun7, hmap7, hg7⟩ := hR6.map.store k3 Tryz.underlying140 (by unfold maxLen; omega) hx (.int .i64 (n : Int))
  obtain ⟨R7, K7⟩ := hR6.mapped hL hg7 hmap7
  have hs1 : Hst w w2 L p p := ⟨rfl, rfl, HR1.out.2.mono (fun _ _ e => .inr e), fun _ e => .inl e⟩
  have hs2 : Hst w2 w4 L p pE := ⟨hpEh, HPM.out, H4.out.2.1.mono (fun _ _ e => .inr e), H4.out.2.2.1⟩
  have hs3 : Hst w4 w6 L pE q := ⟨hqh.trans hpEh.symm, hqm, hK6.mono (fun _ _ e => .inr e), hB6⟩
  have hs4 : Hst w6 w7 L q q := ⟨rfl, rfl, K7.mono (fun _ _ e => .inr e), fun _ e => .inl e⟩
  have hst7 := ((hs1.trans hs2).trans hs3).trans hs4
  have hc6 := hR6.cells.2.2
  rw [hqh] at hc6
  have hA7 : HpAt w7 L q (E ++ [(N, v)]) (T ++ [n]) (N + 1) (B + 1) := by
    refine ⟨R7.head, ?_, ?_, ?_, R7.inv, R7.off⟩
    · rw [List.length_append, HN1.out, ecells_snoc]; exact R7.ent
    · rw [List.length_append, HR0.out.1.good.len, HN1.out, tcells_snoc]; exact R7.lst
    · refine MapAt.congr R7.map (fun y => ?_)
      have := plf_push HR0.out.1.hds v y
      rw [HN1.out] at this
      exact this
  have hgd := HR0.out.1.good.push (N, v)
  rw [HN1.out] at hgd
  have hTl : T.length = n := by rw [HR0.out.1.good.len, HN1.out]
  have hok2 : ∀ e ∈ E ++ [(N, v)], L.ok e.2 := by
    intro e he
    rcases List.mem_append.1 he with h1 | h1
    · exact HR0.out.1.ok e h1
    · simp at h1; rw [h1]; exact hv
  have hEl : (E ++ [(N, v)]).length = n + 1 := by rw [List.length_append, HN1.out]; rfl
  have hst := settle_any hL hA7 (by rw [hEl, List.length_append, hTl]; rfl) (by rw [hEl]; omega) (n + 1) (by rw [hEl]; omega) (by
    rw [hEl]
    intro b hb hp
    by_cases h1 : b < n
    · rw [tn_append_left (by omega)]
      have := (HR0.out.1.good.sub b (by rw [HN1.out]; exact h1)).2
      rw [HN1.out] at this
      omega
    · exact absurd (by rw [show n = b by omega]; exact Pth.self b) hp) hok2
  rw [hqh, show (((n + 1 : Nat) : Int)) - 1 = (n : Int) by omega] at hst
  have HF := hide (And.intro hgd (And.intro hok2 hst7))
  have HMB := hide hmap7
  clear hqm hgd hok2 hst7 hs1 hs2 hs3 hs4 hA7 R7 K7 hR6 hK6 hB6 hq hmap7 hg7 hcT2 hTl hEl HT5 HRB hpEl
  go_wp2_with fail
  refine hst.mono ?_
  clear hst hrun7 hc6
  rintro e w8 ⟨rfl, hA8, k8⟩
  have H8 := hide (And.intro hA8 k8)
  clear hA8 k8
  go_wp2
  go_ret2
  refine ⟨rfl, q, _, ⟨H8.out.1, HF.out.1, HR0.out.1.hds.push v, HF.out.2.1⟩, HF.out.2.2.trans ⟨rfl, rfl, H8.out.2.mono (fun j _ e => e.imp_right (fun e => .inr (.inr (.inl e)))), fun _ e => .inl e⟩⟩
end
end Go.Proofs.YtcbiloomnkbalaaGreatDoor.Hp
/- The other steps. -/
namespace Go.Proofs.YtcbiloomnkbalaaGreatDoor.Hp
open Go.RowKit
attribute [local go_sem ↓] Go.wp_at_zero Go.wp_at_succ
section
variable {w w' w2 : World} {L : Les} {p : Hp} {E : List (Nat × Int)} {T : List Nat} {N B : Nat} {ne nt : Nat} {cs ts : List Value} {f : Int → Option Value}
theorem HS.then (hL : L.Ok) (h : HS w L p E T N B) (g : w.grownBy w' none) : HS w' L p E T N B := ⟨h.at_.then hL g, h.good, h.hds, h.ok⟩
theorem HS.mono (h : HS w L p E T N B) {B' : Nat} (hB : B ≤ B') : HS w L p E T N B' := ⟨⟨h.at_.head, h.at_.ent, h.at_.lst, h.at_.map.mono hB, h.at_.inv, h.at_.off⟩, h.good, h.hds, h.ok⟩
theorem HS.out_any (hL : L.Ok) (h : HS w L p E T N B) (hE : E.length ≤ 65536) (hN : N ≤ 100000000) (hB : B ≤ 100000000) (i : Nat) (hi : i < E.length) :
    Calls Tryz.prog 120 #[.pointer (some ⟨p.h, 0, none⟩), .int .i64 (i : Int)] w fun e w' => e = .returned (.tuple #[]) ∧ ∃ q T', HS w' L q (outE E i) T' N (B + 1) ∧ Hst w w' L p q := by
  refine (takeOut_any hL h.at_ h.good h.hds (by omega) (by omega) (by omega) i hi h.ok).mono ?_
  rintro e w' ⟨rfl, q, h1, ⟨h2, h2m⟩, h3, h4⟩
  refine ⟨rfl, q, _, ⟨h1, h.good.out hi, h.hds.out hi, ?_⟩, h2, h2m, h3, fun j e => .inl (h4 j e)⟩
  intro e he
  have h1 : e ∈ E.set i (en E (E.length - 1)) := List.mem_of_mem_take he
  rcases List.mem_or_eq_of_mem_set h1 with h2 | h2
  · exact h.ok e h2
  · rw [h2]; exact h.ok _ (en_mem (by omega))
set_option maxRecDepth 20000 in
set_option maxHeartbeats 4000000 in
theorem drop_any (hL : L.Ok) (h : HS w L p E T N B) (hE : E.length ≤ 65536) (hN : N ≤ 100000000) (hB : B ≤ 100000000) (x : Int) (hx : (Lit.int .i64 x).wf = true) :
    Calls Tryz.prog 108 #[.pointer (some ⟨p.h, 0, none⟩), .int .i64 x] w fun e w' => e = .returned (.bool (fi E x).isSome) ∧ ∃ q T', HS w' L q ((fi E x).elim E fun i => outE E i) T' N (B + 1) ∧ Hst w w' L p q := by
  have hf := find_at h.at_ x hx
  cases hx2 : fi E x with
  | none =>
    rw [hx2] at hf
    simp only [Option.getD, Option.isSome] at hf
    have HH := hide h
    clear h
    go_enter Tryz.func108, Tryz.ntmps108
    go_wp2_with fail
    refine hf.mono ?_
    rintro e w1 ⟨rfl, hw1⟩
    obtain rfl := hw1.symm
    go_wp2
    go_ret
    exact ⟨rfl, p, T, HH.out.mono (Nat.le_succ _), Hst.refl _ _ _⟩
  | some i =>
    rw [hx2] at hf
    simp only [Option.getD, Option.isSome] at hf
    have hi := (fi_lt hx2).1
    have ho := h.out_any hL hE hN hB i hi
    clear h hx2
    go_enter Tryz.func108, Tryz.ntmps108
    go_wp2_with fail
    refine hf.mono ?_
    rintro e w1 ⟨rfl, hw1⟩
    obtain rfl := hw1.symm
    go_wp2_with fail
    refine ho.mono ?_
    clear ho hf
    rintro e w8 ⟨rfl, hA8⟩
    have H8 := hide hA8
    clear hA8
    go_wp2
    go_ret
    exact ⟨rfl, H8.out⟩
theorem HS.least (h : HS w L p E T N B) : Calls Tryz.prog 87 #[.pointer (some ⟨p.h, 0, none⟩)] w fun e w' => e = .returned (.tuple #[.int .u32 (if 0 < E.length then (en E (tn T 0)).2 else 0), .int .i64 (if 0 < E.length then ((en E (tn T 0)).1 : Int) else 0), .bool (decide (0 < E.length))]) ∧ w.grownBy w' none :=
  least_at h.at_ h.good.len (fun e => (h.good.sub 0 e).2)
theorem good_nil (lt : Int → Int → Bool) : Good lt [] [] := ⟨rfl, fun b hb => by simp at hb⟩
theorem eql_nilFunc (fn : Fn) (a b : Array Value) (w : World) : (binOp .eql 114 (.func fn a b) .nilFunc).run Tryz.prog w = .ok (.bool false) w := by
  have h : ∀ d : Nat, (Op.equalIn (d + 1) 114 (.func fn a b) .nilFunc).run Tryz.prog w = .ok false w := fun d => by
    simp [Op.equalIn, run_underlying Tryz.underlying114]
  simp only [binOp]
  simp [Op.equal, Op.maxDepth, h 9999]
set_option maxRecDepth 20000 in
/-- A new heap. -/
theorem new_any (hL : L.Ok) (hI : L.I w) : Calls Tryz.prog 68 #[L.fv] w fun e w' => ∃ p : Hp, e = .returned (.pointer (some ⟨p.h, 0, none⟩)) ∧ HS w' L p [] [] 0 0 ∧ w.grownBy w' none ∧ (∀ j, p.own j → w.heap.size ≤ j) := by
  have HP : Hid (∀ w', w' = (w.alloc (.map #[] 0)).alloc (.cells #[.pointer (some ⟨w.heap.size + 1, 0, none⟩), .func (.func L.k) #[] L.cap, .bool false, .int .i64 0, .slice none 0 0, .slice none 0 0, .map (some w.heap.size)] 144) → HS w' L ⟨w.heap.size + 1, .slice none 0 0, .slice none 0 0, w.heap.size⟩ [] [] 0 0 ∧ w.grownBy w' none ∧ (∀ j, Hp.own ⟨w.heap.size + 1, .slice none 0 0, .slice none 0 0, w.heap.size⟩ j → w.heap.size ≤ j)) := by
    rintro w' rfl
    have g1 := World.grownBy_alloc w (.map #[] 0) none
    have g2 := World.grownBy_alloc (w.alloc (.map #[] 0)) (.cells #[.pointer (some ⟨w.heap.size + 1, 0, none⟩), .func (.func L.k) #[] L.cap, .bool false, .int .i64 0, .slice none 0 0, .slice none 0 0, .map (some w.heap.size)] 144) none
    have g := grown_trans g1 g2
    have ho : ∀ j, Hp.own ⟨w.heap.size + 1, .slice none 0 0, .slice none 0 0, w.heap.size⟩ j → w.heap.size ≤ j := by
      rintro j (e | e | e | e)
      · have : j = w.heap.size + 1 := e
        omega
      · cases e
      · cases e
      · have : j = w.heap.size := e
        omega
    refine ⟨⟨⟨?_, World.ownsRow_nil _ _ _ _, World.ownsRow_nil _ _ _ _, ?_, hL.keep w _ (fun _ => False) hI (Kept.new g _) (fun _ e => e.elim), fun i hi hF => ?_⟩, good_nil _, ⟨fun i j hi => by simp at hi, fun i hi => by simp at hi⟩, fun e he => by simp at he⟩, g, ho⟩
    · have := heap_alloc_new (w.alloc (.map #[] 0)) (.cells #[.pointer (some ⟨w.heap.size + 1, 0, none⟩), .func (.func L.k) #[] L.cap, .bool false, .int .i64 0, .slice none 0 0, .slice none 0 0, .map (some w.heap.size)] 144)
      rw [World.size_alloc] at this
      exact this
    · have hm := heap_alloc_new w (.map #[] 0)
      have hm2 := (g2.block _ (row_lt hm) (by simp)).trans hm
      exact (mapAt_made hm2).congr (fun x => rfl)
    · have h1 := hL.below w i hI hF
      have h2 := ho i hi
      omega
  unfold Les.fv
  have hq := eql_nilFunc (.func L.k) #[] L.cap
  have hmm := @run_makeMap Tryz.prog
  generalize L.cap = cap at *
  go_enter Tryz.func68, Tryz.ntmps68
  go_wp2
  go_ret
  exact ⟨⟨w.heap.size + 1, .slice none 0 0, .slice none 0 0, w.heap.size⟩, rfl, HP.out _ rfl⟩
end
end Go.Proofs.YtcbiloomnkbalaaGreatDoor.Hp
/- The order of what is due. -/
namespace Go.Proofs.YtcbiloomnkbalaaGreatDoor
open Go.RowKit
attribute [local go_sem ↓] Go.wp_at_zero Go.wp_at_succ
/-- What the closure looks at. -/
structure LsI (w : World) (vb b sg : Nat) (ip : Ix.Ip) (M : List (Nat × Int)) (R : List Bg) : Prop where
  fd : Fd w b sg ip M R
  var : w.heap[vb]? = some (.cells [Value.pointer (some ⟨b, 0, none⟩)].toArray 31 (0, 0))
  nv : ¬ ip.own vb
section
variable {w w' : World} {vb b sg : Nat} {ip : Ix.Ip} {M : List (Nat × Int)} {R : List Bg}
theorem LsI.far {X : Nat → Prop} (h : LsI w vb b sg ip M R) (k : Kept w w' X) (hv : ¬ X vb) (hb : ¬ X b) (hs : ¬ X sg) (hi : ∀ i, ip.own i → ¬ X i) : LsI w' vb b sg ip M R :=
  ⟨h.fd.far k hb hs hi, k.at h.var hv, h.nv⟩
theorem LsI.cell (h : LsI w vb b sg ip M R) : w.cell? ⟨vb, 0, none⟩ = some (.pointer (some ⟨b, 0, none⟩)) := cell_row h.var 0
theorem LsI.until (h : LsI w vb b sg ip M R) (k : Nat) (hk : k < 4294967296) : Calls Tryz.prog 70 #[.pointer (some ⟨b, 0, none⟩), .int .u32 (k : Int)] w fun e w' => e = .returned (.int .i64 (tl M R k)) ∧ LsI w' vb b sg ip M R ∧ Kept w w' ip.own := by
  refine (untilOf_any h.fd k hk).mono ?_
  rintro e w' ⟨rfl, h1, h2⟩
  exact ⟨rfl, ⟨h1, h2.at h.var h.nv, h.nv⟩, h2⟩
/-- In the midst of it. -/
structure LsJ (w W : World) (vb b sg : Nat) (ip : Ix.Ip) (M : List (Nat × Int)) (R : List Bg) : Prop where
  i : LsI W vb b sg ip M R
  k : Kept w W ip.own
set_option maxHeartbeats 2000000 in
theorem less_any (h : LsI w vb b sg ip M R) (x y : Nat) (hx : x < 4294967296) (hy : y < 4294967296) : Calls Tryz.prog 69 #[.int .u32 (x : Int), .int .u32 (y : Int), .pointer (some ⟨vb, 0, none⟩)] w fun e w' => e = .returned (.bool (decide (tl M R x < tl M R y))) ∧ LsI w' vb b sg ip M R ∧ Kept w w' ip.own := by
  have HC : Hid (∀ W (k : Nat), k < 4294967296 → LsJ w W vb b sg ip M R → Calls Tryz.prog 70 #[.pointer (some ⟨b, 0, none⟩), .int .u32 (k : Int)] W fun e w' => e = .returned (.int .i64 (tl M R k)) ∧ LsJ w w' vb b sg ip M R ∧ w'.cell? ⟨vb, 0, none⟩ = some (.pointer (some ⟨b, 0, none⟩))) := by
    intro W k hk hJ
    refine (hJ.i.until k hk).mono ?_
    rintro e w' ⟨rfl, h1, h2⟩
    exact ⟨rfl, ⟨h1, hJ.k.trans h2 (fun _ _ e => e)⟩, h1.cell⟩
  have c0 := h.cell
  have hJ0 : LsJ w w.drew vb b sg ip M R := ⟨h.far (Kept.new (grown_drew w none) (fun _ => False)) (fun e => e) (fun e => e) (fun e => e) (fun _ _ e => e), Kept.new (grown_drew w none) _⟩
  clear h
  go_enter Tryz.func69, Tryz.ntmps69
  go_wp2
  go_region_held3 (fun W => W.cell? ⟨vb, 0, none⟩ = some (.pointer (some ⟨b, 0, none⟩)) ∧ LsJ w W vb b sg ip M R) (first | assumption | exact ⟨c0, hJ0⟩)
    ((first
      | (go_at_call_of 70 (Value.int .u32 (x : Int)); obtain ⟨_, hI⟩ := ‹_ ∧ LsJ w _ vb b sg ip M R›; refine (HC.out _ x hx hI).mono ?_; rintro e w5 ⟨rfl, hJ, hc⟩; have hK := And.intro hc hJ)
      | (go_at_call_of 70 (Value.int .u32 (y : Int)); obtain ⟨_, hI⟩ := ‹_ ∧ LsJ w _ vb b sg ip M R›; refine (HC.out _ y hy hI).mono ?_; rintro e w6 ⟨rfl, hJ6, hc6⟩; have hK6 := And.intro hc6 hJ6)))
  have HR := hide hJ6
  clear hJ hJ6 hc hc6 hK hK6 c0 hJ0 HC
  go_wp2
  go_ret
  exact ⟨rfl, HR.out.i, HR.out.k⟩
end
/-- The book's less, as the heap takes it. -/
def lsB (vb b sg : Nat) (ip : Ix.Ip) (M : List (Nat × Int)) (R : List Bg) : Hp.Les where
  k := 69
  cap := #[.pointer (some ⟨vb, 0, none⟩)]
  lt := fun x y => decide (tl M R x.toNat < tl M R y.toNat)
  ok := fun x => 0 ≤ x ∧ x < 4294967296
  I := fun w => LsI w vb b sg ip M R
  F := fun i => i = vb ∨ i = b ∨ i = sg ∨ ip.own i
  S := fun i => ip.own i
theorem lsB_ok (vb b sg : Nat) (ip : Ix.Ip) (M : List (Nat × Int)) (R : List Bg) : (lsB vb b sg ip M R).Ok where
  kind := ⟨rfl, _, rfl⟩
  call := by
    intro x y w hI hx hy
    obtain ⟨x', rfl⟩ : ∃ t : Nat, x = (t : Int) := ⟨x.toNat, by have := hx.1; omega⟩
    obtain ⟨y', rfl⟩ : ∃ t : Nat, y = (t : Int) := ⟨y.toNat, by have := hy.1; omega⟩
    refine (less_any hI x' y' (by have := hx.2; omega) (by have := hy.2; omega)).mono ?_
    rintro e w' ⟨rfl, h1, h2⟩
    exact ⟨rfl, h1, h2⟩
  keep := by
    intro w w' X hI hk hX
    exact LsI.far hI hk (fun e => hX _ e (.inl rfl)) (fun e => hX _ e (.inr (.inl rfl))) (fun e => hX _ e (.inr (.inr (.inl rfl)))) (fun i hi e => hX _ e (.inr (.inr (.inr hi))))
  below := by
    intro w i hI hF
    have hI : LsI w vb b sg ip M R := hI
    rcases hF with rfl | rfl | rfl | hF
    · exact row_lt hI.var
    · exact hI.fd.blt
    · exact row_lt hI.fd.row
    · obtain ⟨lo, h3⟩ := hI.fd.ix; exact h3.lt _ hF
  sub := fun i h => .inr (.inr (.inr h))
end Go.Proofs.YtcbiloomnkbalaaGreatDoor
/- A book in memory: where its parts lie, what stays. -/
namespace Go.Proofs.YtcbiloomnkbalaaGreatDoor
open Go.RowKit
attribute [local go_sem ↓] Go.wp_at_zero Go.wp_at_succ
section
variable {lt lt' : Int → Int → Bool} {E : List (Nat × Int)} {T : List Nat}
theorem ah_congr {x y : Nat × Int} (h1 : lt' x.2 y.2 = lt x.2 y.2) (h2 : lt' y.2 x.2 = lt y.2 x.2) : Hp.ah lt' x y = Hp.ah lt x y := by
  unfold Hp.ah; rw [h1, h2]
theorem good_congr (h : Hp.Good lt E T) (hlt : ∀ i j, i < E.length → j < E.length → lt' (Hp.en E i).2 (Hp.en E j).2 = lt (Hp.en E i).2 (Hp.en E j).2) : Hp.Good lt' E T := by
  refine ⟨h.len, fun b hb => ?_⟩
  rw [h.right b hb]
  have h1 : ∀ l c, l < E.length → Hp.tn T c < E.length → Hp.lw1 lt' E T l c = Hp.lw1 lt E T l c := fun l c hl hc => by
    unfold Hp.lw1; rw [ah_congr (hlt _ _ hc hl) (hlt _ _ hl hc)]
  have hA : Hp.lwA lt' E T b = Hp.lwA lt E T b := by
    unfold Hp.lwA
    split
    · rename_i h2; exact h1 _ _ hb (h.sub _ h2).2
    · rfl
  have hAl : Hp.lwA lt E T b < E.length := by
    rcases Hp.lwA_or (lt := lt) (E := E) (T := T) b with e | ⟨h2, e⟩
    · rw [e]; exact hb
    · rw [e]; exact (h.sub _ h2).2
  unfold Hp.lw
  rw [hA]
  split
  · rename_i h2; exact (h1 _ _ hAl (h.sub _ h2).2).symm
  · rfl
end
/-- The same heap, under a less that tells the same of its items. -/
theorem HS_re {w w' : World} {L L' : Hp.Les} {p : Hp.Hp} {E : List (Nat × Int)} {T : List Nat} {N B : Nat} {X : Nat → Prop} (h : Hp.HS w L p E T N B) (k : Kept w w' X) (hX : ∀ i, p.own i → ¬ X i) (hk : L'.k = L.k) (hc : L'.cap = L.cap) (hI : L'.I w') (hF : ∀ i, L'.F i → L.F i)
    (hlt : ∀ i j, i < E.length → j < E.length → L'.lt (Hp.en E i).2 (Hp.en E j).2 = L.lt (Hp.en E i).2 (Hp.en E j).2) (hok : ∀ e ∈ E, L'.ok e.2) : Hp.HS w' L' p E T N B := by
  have a := h.at_
  have hh : Hp.hpc L' p.h (N : Int) p.ve p.vl p.mb = Hp.hpc L p.h (N : Int) p.ve p.vl p.mb := by unfold Hp.hpc Hp.Les.fv; rw [hk, hc]
  refine ⟨⟨by rw [hh]; exact k.at a.head (hX _ (.inl rfl)), Hp.row_same a.ent (fun g hg => k.block g (a.lt g (.inr (.inl hg))) (hX g (.inr (.inl hg)))), Hp.row_same a.lst (fun g hg => k.block g (a.lt g (.inr (.inr (.inl hg)))) (hX g (.inr (.inr (.inl hg))))), a.map.same (k.block _ a.map.lt (hX _ (.inr (.inr (.inr rfl))))), hI, fun i hi e => a.off i hi (hF i e)⟩, good_congr h.good hlt, h.hds, hok⟩
/-- Where a book lies. -/
structure Bp where
  b : Nat
  vb : Nat
  sg : Nat
  tb : Nat
  tg : Nat
  ip : Ix.Ip
  hp : Hp.Hp
  hm : Nat
/-- Which part of it lies in a block. -/
def Bp.role (p : Bp) (k i : Nat) : Prop := (k = 0 ∧ i = p.b) ∨ (k = 1 ∧ i = p.vb) ∨ (k = 2 ∧ i = p.sg) ∨ (k = 3 ∧ p.ip.own i) ∨ (k = 4 ∧ i = p.tb) ∨ (k = 5 ∧ i = p.tg) ∨ (k = 6 ∧ p.hp.own i) ∨ (k = 7 ∧ i = p.hm)
def Bp.own (p : Bp) (i : Nat) : Prop := ∃ k, p.role k i
def Bp.Apart (p : Bp) : Prop := ∀ i j k, p.role j i → p.role k i → j = k
section
variable {p : Bp}
theorem Bp.r0 : p.role 0 p.b := .inl ⟨rfl, rfl⟩
theorem Bp.r1 : p.role 1 p.vb := .inr (.inl ⟨rfl, rfl⟩)
theorem Bp.r2 : p.role 2 p.sg := .inr (.inr (.inl ⟨rfl, rfl⟩))
theorem Bp.r3 {i : Nat} (h : p.ip.own i) : p.role 3 i := .inr (.inr (.inr (.inl ⟨rfl, h⟩)))
theorem Bp.r4 : p.role 4 p.tb := .inr (.inr (.inr (.inr (.inl ⟨rfl, rfl⟩))))
theorem Bp.r5 : p.role 5 p.tg := .inr (.inr (.inr (.inr (.inr (.inl ⟨rfl, rfl⟩)))))
theorem Bp.r6 {i : Nat} (h : p.hp.own i) : p.role 6 i := .inr (.inr (.inr (.inr (.inr (.inr (.inl ⟨rfl, h⟩))))))
theorem Bp.r7 : p.role 7 p.hm := .inr (.inr (.inr (.inr (.inr (.inr (.inr ⟨rfl, rfl⟩))))))
theorem Bp.Apart.no (h : p.Apart) {i j k : Nat} (h1 : p.role j i) (h2 : p.role k i) (hne : j ≠ k) : False := hne (h i j k h1 h2)
end
/-- The book's own cells. -/
def bkc (p : Bp) (S : Sb) : List Value := [.int .i64 (S.a : Int), .int .i64 (S.b : Int), .int .i64 (S.c : Int), .pointer (some ⟨p.b, 0, none⟩), .int .u32 (S.n : Int), .int .i64 S.t, .pointer (some ⟨p.tb, 0, none⟩), .slice (some ⟨p.sg, 0, none⟩) S.a S.a, .pointer (some ⟨p.ip.x, 0, none⟩), .pointer (some ⟨p.hp.h, 0, none⟩), .map (some p.hm)]
/-- A book's parts in memory. -/
structure BkR (w : World) (p : Bp) (S : Sb) (Lb : List Bool) (R : List Bg) (M E : List (Nat × Int)) (T : List Nat) (N B C : Nat) (f : Int → Option Nat) : Prop where
  head : w.heap[p.b]? = some (.cells (bkc p S).toArray 66 (0, 0))
  var : w.heap[p.vb]? = some (.cells [Value.pointer (some ⟨p.b, 0, none⟩)].toArray 31 (0, 0))
  set : Bt.SetAt w p.tb p.tg Lb
  row : w.heap[p.sg]? = some (.cells (bgs R).toArray 78 (0, 0))
  ix : ∃ lo, Ix.Io w p.ip M lo
  due : Hp.HS w (lsB p.vb p.b p.sg p.ip M R) p.hp E T N B
  map : U.MapAt w Tryz.prog 24 p.hm C (fun k => (f k).map fun (n : Nat) => Value.int .i64 (n : Int))
  ap : p.Apart
  z : ¬ p.own 0
  rl : R.length = S.a
  im : p.ip.m = S.b
  sa : S.a ≤ 1024
  mi : ∀ y ∈ M, 0 ≤ y.2 ∧ y.2.toNat < R.length
/-- What a call on a book does to the world. -/
structure Bst (w w' : World) (p q : Bp) : Prop where
  eq : q = { p with hp := q.hp }
  h : q.hp.h = p.hp.h
  mb : q.hp.mb = p.hp.mb
  kept : Kept w w' p.own
  own : ∀ i, q.own i → p.own i ∨ w.heap.size ≤ i
theorem Bst.b {w w' : World} {p q : Bp} (h : Bst w w' p q) : q.b = p.b := by rw [h.eq]
theorem Bst.hm {w w' : World} {p q : Bp} (h : Bst w w' p q) : q.hm = p.hm := by rw [h.eq]
theorem Bst.refl (w : World) (p : Bp) : Bst w w p p := ⟨rfl, rfl, rfl, Kept.refl _ _, fun _ e => .inl e⟩
theorem Bst.keep {w w' : World} {p : Bp} (k : Kept w w' p.own) : Bst w w' p p := ⟨rfl, rfl, rfl, k, fun _ e => .inl e⟩
theorem Bst.grown {w w' : World} (g : w.grownBy w' none) (p : Bp) : Bst w w' p p := Bst.keep (Kept.new g _)
theorem Bst.trans {a b c : World} {p q r : Bp} (h : Bst a b p q) (k : Bst b c q r) : Bst a c p r := by
  refine ⟨?_, k.h.trans h.h, k.mb.trans h.mb, h.kept.trans k.kept (fun i hi e => ?_), fun i e => ?_⟩
  · have h1 := k.eq
    rw [h.eq] at h1
    exact h1
  · rcases h.own i e with e | e
    · exact e
    · omega
  · rcases k.own i e with e | e
    · exact h.own i e
    · exact .inr (Nat.le_trans h.kept.size e)
section
variable {w w' : World} {p q : Bp} {S : Sb} {Lb Lb' : List Bool} {R : List Bg} {M E : List (Nat × Int)} {T : List Nat} {N B C : Nat} {f : Int → Option Nat}
theorem BkR.fd (h : BkR w p S Lb R M E T N B C f) : Fd w p.b p.sg p.ip M R :=
  ⟨⟨_, h.head, by simp [bkc, h.rl], rfl⟩, h.row, h.ix, h.mi, by rw [h.rl]; exact h.sa, fun e => h.ap.no Bp.r0 (Bp.r3 e) (by decide), fun e => h.ap.no Bp.r2 (Bp.r3 e) (by decide)⟩
theorem BkR.ls (h : BkR w p S Lb R M E T N B C f) : LsI w p.vb p.b p.sg p.ip M R := ⟨h.fd, h.var, fun e => h.ap.no Bp.r1 (Bp.r3 e) (by decide)⟩
theorem BkR.lt (h : BkR w p S Lb R M E T N B C f) : ∀ i, p.own i → i < w.heap.size := by
  rintro i ⟨k, (⟨-, rfl⟩ | ⟨-, rfl⟩ | ⟨-, rfl⟩ | ⟨-, hi⟩ | ⟨-, rfl⟩ | ⟨-, rfl⟩ | ⟨-, hi⟩ | ⟨-, rfl⟩)⟩
  · exact row_lt h.head
  · exact row_lt h.var
  · exact row_lt h.row
  · obtain ⟨lo, h1⟩ := h.ix; exact h1.lt i hi
  · exact h.set.lt.1
  · exact h.set.lt.2
  · exact h.due.at_.lt i hi
  · exact h.map.lt
theorem SetAt_far {X : Nat → Prop} {b g : Nat} (h : Bt.SetAt w b g Lb) (k : Kept w w' X) (hb : ¬ X b) (hg : ¬ X g) : Bt.SetAt w' b g Lb := by
  obtain ⟨W, cap, cur, h1, h2, h3⟩ := h
  exact ⟨W, cap, cur, k.at h1 hb, k.at h2 hg, h3⟩
theorem BkR.far {X : Nat → Prop} (h : BkR w p S Lb R M E T N B C f) (k : Kept w w' X) (hX : ∀ i, p.own i → ¬ X i) : BkR w' p S Lb R M E T N B C f := by
  have hx : ∀ {j i}, p.role j i → ¬ X i := fun e => hX _ ⟨_, e⟩
  have hl := h.ls.far k (hx Bp.r1) (hx Bp.r0) (hx Bp.r2) (fun i hi => hx (Bp.r3 hi))
  exact ⟨k.at h.head (hx Bp.r0), k.at h.var (hx Bp.r1), SetAt_far h.set k (hx Bp.r4) (hx Bp.r5), k.at h.row (hx Bp.r2), hl.fd.ix, HS_re h.due k (fun i hi => hx (Bp.r6 hi)) rfl rfl hl (fun _ e => e) (fun _ _ _ _ => rfl) h.due.ok, h.map.same (k.block _ h.map.lt (hx Bp.r7)), h.ap, h.z, h.rl, h.im, h.sa, h.mi⟩
theorem BkR.then (h : BkR w p S Lb R M E T N B C f) (k : w.grownBy w' none) : BkR w' p S Lb R M E T N B C f := h.far (Kept.new k (fun _ => False)) (fun _ _ e => e)
theorem Bst.bkc {w w' : World} {p q : Bp} (h : Bst w w' p q) (S : Sb) : bkc q S = bkc p S := by
  have e := h.h
  have e2 := h.eq
  unfold Go.Proofs.YtcbiloomnkbalaaGreatDoor.bkc
  rw [e]
  rw [e2]
theorem BkR.cells (h : BkR w p S Lb R M E T N B C f) : ∀ j v, (bkc p S)[j]? = some v → w.cell? ⟨p.b, j, none⟩ = some v := fun j v hv => by rw [cell_row h.head]; exact hv
/-- One role is written, all others stay. -/
theorem BkR.roleK (h : BkR w p S Lb R M E T N B C f) {j : Nat} : ∀ {i k}, p.role k i → k ≠ j → ¬ p.role j i := fun h1 hne h2 => hne (h.ap _ _ _ h1 h2)
theorem BkR.taken (h : BkR w p S Lb R M E T N B C f) (hg : w.grownBy w' (some p.tg)) (hs : Bt.SetAt w' p.tb p.tg Lb') : BkR w' p S Lb' R M E T N B C f ∧ Kept w w' p.own := by
  have k : Kept w w' (p.role 5) := Kept.of hg (fun _ e _ => by cases e; exact Bp.r5)
  have hl := h.ls.far k (h.roleK Bp.r1 (by decide)) (h.roleK Bp.r0 (by decide)) (h.roleK Bp.r2 (by decide)) (fun i hi => h.roleK (Bp.r3 hi) (by decide))
  exact ⟨⟨k.at h.head (h.roleK Bp.r0 (by decide)), k.at h.var (h.roleK Bp.r1 (by decide)), hs, k.at h.row (h.roleK Bp.r2 (by decide)), hl.fd.ix, HS_re h.due k (fun i hi => h.roleK (Bp.r6 hi) (by decide)) rfl rfl hl (fun _ e => e) (fun _ _ _ _ => rfl) h.due.ok, h.map.same (k.block _ h.map.lt (h.roleK Bp.r7 (by decide))), h.ap, h.z, h.rl, h.im, h.sa, h.mi⟩, k.mono (fun i _ e => ⟨5, e⟩)⟩
/-- The head is written: the next id, the clock. -/
theorem BkR.headed (h : BkR w p S Lb R M E T N B C f) {S' : Sb} (hg : w.grownBy w' (some p.b)) (hh : w'.heap[p.b]? = some (.cells (bkc p S').toArray 66 (0, 0))) (ha : S'.a = S.a) (hb : S'.b = S.b) : BkR w' p S' Lb R M E T N B C f ∧ Kept w w' p.own := by
  have k : Kept w w' (p.role 0) := Kept.of hg (fun _ e _ => by cases e; exact Bp.r0)
  have hix : ∃ lo, Ix.Io w' p.ip M lo := by obtain ⟨lo, h1⟩ := h.ix; exact ⟨lo, h1.far k (fun i hi => h.roleK (Bp.r3 hi) (by decide))⟩
  have hrow := k.at h.row (h.roleK Bp.r2 (by decide))
  have hfd : Fd w' p.b p.sg p.ip M R := ⟨⟨_, hh, by simp [bkc, h.rl, ha], rfl⟩, hrow, hix, h.mi, by rw [h.rl]; exact h.sa, h.fd.nb, h.fd.ns⟩
  have hvar := k.at h.var (h.roleK Bp.r1 (by decide))
  exact ⟨⟨hh, hvar, SetAt_far h.set k (h.roleK Bp.r4 (by decide)) (h.roleK Bp.r5 (by decide)), hrow, hix, HS_re h.due k (fun i hi => h.roleK (Bp.r6 hi) (by decide)) rfl rfl (show LsI _ _ _ _ _ _ _ from ⟨hfd, hvar, h.ls.nv⟩) (fun _ e => e) (fun _ _ _ _ => rfl) h.due.ok, h.map.same (k.block _ h.map.lt (h.roleK Bp.r7 (by decide))), h.ap, h.z, by rw [ha]; exact h.rl, by rw [hb]; exact h.im, by rw [ha]; exact h.sa, h.mi⟩, k.mono (fun i _ e => ⟨0, e⟩)⟩
/-- The seats are written. -/
theorem BkR.seated (h : BkR w p S Lb R M E T N B C f) {R' : List Bg} (hg : w.grownBy w' (some p.sg)) (hh : w'.heap[p.sg]? = some (.cells (bgs R').toArray 78 (0, 0))) (hl : R'.length = R.length) (ht : ∀ e ∈ E, tl M R' e.2.toNat = tl M R e.2.toNat) : BkR w' p S Lb R' M E T N B C f ∧ Kept w w' p.own := by
  have k : Kept w w' (p.role 2) := Kept.of hg (fun _ e _ => by cases e; exact Bp.r2)
  have hix : ∃ lo, Ix.Io w' p.ip M lo := by obtain ⟨lo, h1⟩ := h.ix; exact ⟨lo, h1.far k (fun i hi => h.roleK (Bp.r3 hi) (by decide))⟩
  have hhead := k.at h.head (h.roleK Bp.r0 (by decide))
  have hmi : ∀ y ∈ M, 0 ≤ y.2 ∧ y.2.toNat < R'.length := by rw [hl]; exact h.mi
  have hfd : Fd w' p.b p.sg p.ip M R' := ⟨⟨_, hhead, by simp [bkc, h.rl, hl], rfl⟩, hh, hix, hmi, by rw [hl, h.rl]; exact h.sa, h.fd.nb, h.fd.ns⟩
  have hvar := k.at h.var (h.roleK Bp.r1 (by decide))
  refine ⟨⟨hhead, hvar, SetAt_far h.set k (h.roleK Bp.r4 (by decide)) (h.roleK Bp.r5 (by decide)), hh, hix, HS_re h.due k (fun i hi => h.roleK (Bp.r6 hi) (by decide)) rfl rfl (show LsI _ _ _ _ _ _ _ from ⟨hfd, hvar, h.ls.nv⟩) (fun _ e => e) (fun i j hi hj => ?_) h.due.ok, h.map.same (k.block _ h.map.lt (h.roleK Bp.r7 (by decide))), h.ap, h.z, by rw [hl]; exact h.rl, h.im, h.sa, hmi⟩, k.mono (fun i _ e => ⟨2, e⟩)⟩
  show decide (tl M R' _ < tl M R' _) = decide (tl M R _ < tl M R _)
  rw [ht _ (Hp.en_mem hi), ht _ (Hp.en_mem hj)]
/-- The index is written. -/
theorem BkR.indexed (h : BkR w p S Lb R M E T N B C f) {M' : List (Nat × Int)} (k0 : Kept w w' p.ip.own) (hi : ∃ lo, Ix.Io w' p.ip M' lo) (hm : ∀ y ∈ M', 0 ≤ y.2 ∧ y.2.toNat < R.length) (ht : ∀ e ∈ E, tl M' R e.2.toNat = tl M R e.2.toNat) : BkR w' p S Lb R M' E T N B C f ∧ Kept w w' p.own := by
  have k : Kept w w' (p.role 3) := k0.mono (fun _ _ e => Bp.r3 e)
  have hhead := k.at h.head (h.roleK Bp.r0 (by decide))
  have hrow := k.at h.row (h.roleK Bp.r2 (by decide))
  have hfd : Fd w' p.b p.sg p.ip M' R := ⟨⟨_, hhead, by simp [bkc, h.rl], rfl⟩, hrow, hi, hm, by rw [h.rl]; exact h.sa, h.fd.nb, h.fd.ns⟩
  have hvar := k.at h.var (h.roleK Bp.r1 (by decide))
  refine ⟨⟨hhead, hvar, SetAt_far h.set k (h.roleK Bp.r4 (by decide)) (h.roleK Bp.r5 (by decide)), hrow, hi, HS_re h.due k (fun i hi => h.roleK (Bp.r6 hi) (by decide)) rfl rfl (show LsI _ _ _ _ _ _ _ from ⟨hfd, hvar, h.ls.nv⟩) (fun _ e => e) (fun i j hi hj => ?_) h.due.ok, h.map.same (k.block _ h.map.lt (h.roleK Bp.r7 (by decide))), h.ap, h.z, h.rl, h.im, h.sa, hm⟩, k.mono (fun i _ e => ⟨3, e⟩)⟩
  show decide (tl M' R _ < tl M' R _) = decide (tl M R _ < tl M R _)
  rw [ht _ (Hp.en_mem hi), ht _ (Hp.en_mem hj)]
/-- The index and the seats are written, and what is not the book's. -/
theorem BkR.moved (h : BkR w p S Lb R M E T N B C f) {M' : List (Nat × Int)} {R' : List Bg} {Z : Nat → Prop} (hZ : ∀ i, p.own i → ¬ Z i) (k0 : Kept w w' (fun i => p.ip.own i ∨ i = p.sg ∨ Z i)) (hi : ∃ lo, Ix.Io w' p.ip M' lo) (hh : w'.heap[p.sg]? = some (.cells (bgs R').toArray 78 (0, 0))) (hl : R'.length = R.length) (hm : ∀ y ∈ M', 0 ≤ y.2 ∧ y.2.toNat < R.length) (ht : ∀ e ∈ E, tl M' R' e.2.toNat = tl M R e.2.toNat) : BkR w' p S Lb R' M' E T N B C f := by
  have k : Kept w w' (fun i => p.role 3 i ∨ p.role 2 i ∨ Z i) := k0.mono (fun _ _ e => e.elim (fun e => .inl (Bp.r3 e)) (fun e => e.elim (fun e => .inr (.inl (by rw [e]; exact Bp.r2))) (fun e => .inr (.inr e))))
  have hn : ∀ {i j}, p.role j i → j ≠ 3 → j ≠ 2 → ¬ (p.role 3 i ∨ p.role 2 i ∨ Z i) := fun h1 h2 h3 h4 => h4.elim (h.roleK h1 h2) (fun h4 => h4.elim (h.roleK h1 h3) (hZ _ ⟨_, h1⟩))
  have hhead := k.at h.head (hn Bp.r0 (by decide) (by decide))
  have hm' : ∀ y ∈ M', 0 ≤ y.2 ∧ y.2.toNat < R'.length := by rw [hl]; exact hm
  have hfd : Fd w' p.b p.sg p.ip M' R' := ⟨⟨_, hhead, by simp [bkc, h.rl, hl], rfl⟩, hh, hi, hm', by rw [hl, h.rl]; exact h.sa, h.fd.nb, h.fd.ns⟩
  have hvar := k.at h.var (hn Bp.r1 (by decide) (by decide))
  refine ⟨hhead, hvar, SetAt_far h.set k (hn Bp.r4 (by decide) (by decide)) (hn Bp.r5 (by decide) (by decide)), hh, hi, HS_re h.due k (fun i hi => hn (Bp.r6 hi) (by decide) (by decide)) rfl rfl (show LsI _ _ _ _ _ _ _ from ⟨hfd, hvar, h.ls.nv⟩) (fun _ e => e) (fun i j hi hj => ?_) h.due.ok, h.map.same (k.block _ h.map.lt (hn Bp.r7 (by decide) (by decide))), h.ap, h.z, by rw [hl]; exact h.rl, h.im, h.sa, hm'⟩
  show decide (tl M' R' _ < tl M' R' _) = decide (tl M R _ < tl M R _)
  rw [ht _ (Hp.en_mem hi), ht _ (Hp.en_mem hj)]
/-- The map of handles is written. -/
theorem BkR.mapped (h : BkR w p S Lb R M E T N B C f) {C' : Nat} {f' : Int → Option Nat} (hg : w.grownBy w' (some p.hm)) (hm : U.MapAt w' Tryz.prog 24 p.hm C' (fun k => (f' k).map fun (n : Nat) => Value.int .i64 (n : Int))) : BkR w' p S Lb R M E T N B C' f' ∧ Kept w w' p.own := by
  have k : Kept w w' (p.role 7) := Kept.of hg (fun _ e _ => by cases e; exact Bp.r7)
  have hl := h.ls.far k (h.roleK Bp.r1 (by decide)) (h.roleK Bp.r0 (by decide)) (h.roleK Bp.r2 (by decide)) (fun i hi => h.roleK (Bp.r3 hi) (by decide))
  exact ⟨⟨k.at h.head (h.roleK Bp.r0 (by decide)), k.at h.var (h.roleK Bp.r1 (by decide)), SetAt_far h.set k (h.roleK Bp.r4 (by decide)) (h.roleK Bp.r5 (by decide)), k.at h.row (h.roleK Bp.r2 (by decide)), hl.fd.ix, HS_re h.due k (fun i hi => h.roleK (Bp.r6 hi) (by decide)) rfl rfl hl (fun _ e => e) (fun _ _ _ _ => rfl) h.due.ok, hm, h.ap, h.z, h.rl, h.im, h.sa, h.mi⟩, k.mono (fun i _ e => ⟨7, e⟩)⟩
/-- The heap is written. -/
theorem BkR.heaped (h : BkR w p S Lb R M E T N B C f) {E' : List (Nat × Int)} {T' : List Nat} {N' B' : Nat} {q : Hp.Hp} (hs : Hp.HS w' (lsB p.vb p.b p.sg p.ip M R) q E' T' N' B') (hst : Hp.Hst w w' (lsB p.vb p.b p.sg p.ip M R) p.hp q) : BkR w' { p with hp := q } S Lb R M E' T' N' B' C f ∧ Bst w w' p { p with hp := q } := by
  have k : Kept w w' (fun i => p.role 3 i ∨ p.role 6 i) := hst.kept.mono (fun i _ e => e.elim (fun e => .inl (Bp.r3 e)) (fun e => .inr (Bp.r6 e)))
  have hn : ∀ {i j}, p.role j i → j ≠ 3 → j ≠ 6 → ¬ (p.role 3 i ∨ p.role 6 i) := fun h1 h2 h3 h4 => h4.elim (h.roleK h1 h2) (h.roleK h1 h3)
  have hI : LsI w' p.vb p.b p.sg p.ip M R := hs.at_.inv
  have hhd : bkc { p with hp := q } S = bkc p S := by unfold bkc; simp only; rw [hst.h]
  have hown : ∀ i, Bp.own { p with hp := q } i → p.own i ∨ w.heap.size ≤ i := by
    rintro i ⟨j, (⟨hj, e⟩ | ⟨hj, e⟩ | ⟨hj, e⟩ | ⟨hj, e⟩ | ⟨hj, e⟩ | ⟨hj, e⟩ | ⟨hj, e⟩ | ⟨hj, e⟩)⟩
    · exact .inl ⟨0, .inl ⟨rfl, e⟩⟩
    · exact .inl ⟨1, .inr (.inl ⟨rfl, e⟩)⟩
    · exact .inl ⟨2, .inr (.inr (.inl ⟨rfl, e⟩))⟩
    · exact .inl ⟨3, Bp.r3 e⟩
    · exact .inl ⟨4, .inr (.inr (.inr (.inr (.inl ⟨rfl, e⟩))))⟩
    · exact .inl ⟨5, .inr (.inr (.inr (.inr (.inr (.inl ⟨rfl, e⟩)))))⟩
    · rcases hst.own i e with e | e
      · exact .inl ⟨6, Bp.r6 e⟩
      · exact .inr e
    · exact .inl ⟨7, .inr (.inr (.inr (.inr (.inr (.inr (.inr ⟨rfl, e⟩))))))⟩
  have hrole : ∀ i j, Bp.role { p with hp := q } j i → p.role j i ∨ (j = 6 ∧ w.heap.size ≤ i) := by
    rintro i j (⟨rfl, e⟩ | ⟨rfl, e⟩ | ⟨rfl, e⟩ | ⟨rfl, e⟩ | ⟨rfl, e⟩ | ⟨rfl, e⟩ | ⟨rfl, e⟩ | ⟨rfl, e⟩)
    · exact .inl (.inl ⟨rfl, e⟩)
    · exact .inl (.inr (.inl ⟨rfl, e⟩))
    · exact .inl (.inr (.inr (.inl ⟨rfl, e⟩)))
    · exact .inl (Bp.r3 e)
    · exact .inl (.inr (.inr (.inr (.inr (.inl ⟨rfl, e⟩)))))
    · exact .inl (.inr (.inr (.inr (.inr (.inr (.inl ⟨rfl, e⟩))))))
    · rcases hst.own i e with e | e
      · exact .inl (Bp.r6 e)
      · exact .inr ⟨rfl, e⟩
    · exact .inl (.inr (.inr (.inr (.inr (.inr (.inr (.inr ⟨rfl, e⟩)))))))
  have hap : Bp.Apart { p with hp := q } := by
    intro i j l h1 h2
    rcases hrole i j h1 with h1 | ⟨h1, g1⟩ <;> rcases hrole i l h2 with h2 | ⟨h2, g2⟩
    · exact h.ap i j l h1 h2
    · have := h.lt i ⟨j, h1⟩; omega
    · have := h.lt i ⟨l, h2⟩; omega
    · rw [h1, h2]
  refine ⟨⟨by rw [hhd]; exact k.at h.head (hn Bp.r0 (by decide) (by decide)), k.at h.var (hn Bp.r1 (by decide) (by decide)), SetAt_far h.set k (hn Bp.r4 (by decide) (by decide)) (hn Bp.r5 (by decide) (by decide)), k.at h.row (hn Bp.r2 (by decide) (by decide)), hI.fd.ix, hs, h.map.same (k.block _ h.map.lt (hn Bp.r7 (by decide) (by decide))), hap, fun e => ?_, h.rl, h.im, h.sa, h.mi⟩, ⟨rfl, hst.h, hst.mb, k.mono (fun i _ e => e.elim (fun e => ⟨3, e⟩) (fun e => ⟨6, e⟩)), hown⟩⟩
  rcases hown 0 e with e | e
  · exact h.z e
  · have := h.lt _ ⟨0, Bp.r0⟩; omega
end
end Go.Proofs.YtcbiloomnkbalaaGreatDoor
/- A book's parts, asked and changed. -/
namespace Go.Proofs.YtcbiloomnkbalaaGreatDoor
open Go.RowKit
attribute [local go_sem ↓] Go.wp_at_zero Go.wp_at_succ
section
variable {w w' : World} {p q : Bp} {S : Sb} {Lb Lb' : List Bool} {R : List Bg} {M E : List (Nat × Int)} {T : List Nat} {N B C : Nat} {f : Int → Option Nat}
theorem isNone_bk (h : BkR w p S Lb R M E T N B C f) : Calls Tryz.prog 47 #[.pointer (some ⟨p.b, 0, none⟩)] w fun e w' => e = .returned (.bool false) ∧ w' = w := by
  have c0 := h.cells 3 _ rfl
  have hsome : (Tryz.prog.info? 66).isSome = true := by kernel_rfl
  obtain ⟨j, hj⟩ := Option.isSome_iff_exists.1 hsome
  have hs := Go.Lib.run_neq_ptr_same (P := Tryz.prog) (tp := 31) (te := 66) w ⟨p.b, 0, none⟩ Tryz.underlying31 hj
  clear h hsome hj
  go_enter Tryz.func47, Tryz.ntmps47
  go_wp2
  go_ret
  exact ⟨rfl, rfl⟩
theorem put_bk (h : BkR w p S Lb R M E T N B C f) (i : Nat) (hi : i < Lb.length) : Calls Tryz.prog 73 #[.pointer (some ⟨p.tb, 0, none⟩), .int .i64 (i : Int)] w fun e w' => e = .returned (.int .i64 0) ∧ BkR w' p S (Lb.set i true) R M E T N B C f ∧ Kept w w' p.own := by
  refine (Bt.put_any _ _ _ i w h.set hi).mono ?_
  rintro e w' ⟨rfl, h1, h2⟩
  exact ⟨rfl, h.taken h2 h1⟩
theorem free_bk (h : BkR w p S Lb R M E T N B C f) (i : Nat) (hi : i < Lb.length) : Calls Tryz.prog 110 #[.pointer (some ⟨p.tb, 0, none⟩), .int .i64 (i : Int)] w fun e w' => e = .returned (.int .i64 0) ∧ BkR w' p S (Lb.set i false) R M E T N B C f ∧ Kept w w' p.own := by
  refine (Bt.drop_any _ _ _ i w h.set hi).mono ?_
  rintro e w' ⟨rfl, h1, h2⟩
  exact ⟨rfl, h.taken h2 h1⟩
theorem has_bk (h : BkR w p S Lb R M E T N B C f) (i : Nat) (hi : i < Lb.length) : Calls Tryz.prog 56 #[.pointer (some ⟨p.tb, 0, none⟩), .int .i64 (i : Int)] w fun e w' => e = .returned (.bool (Lb.getD i false)) ∧ w.grownBy w' none :=
  Bt.has_any _ _ _ i w h.set hi
theorem len_bk (h : BkR w p S Lb R M E T N B C f) : Calls Tryz.prog 53 #[.pointer (some ⟨p.ip.x, 0, none⟩)] w fun e w' => e = .returned (.int .i64 (M.length : Int)) ∧ w' = w := by
  obtain ⟨lo, h1⟩ := h.ix; exact h1.len
theorem find_bk (h : BkR w p S Lb R M E T N B C f) (k : Nat) (hk : k < 4294967296) : Calls Tryz.prog 54 #[.pointer (some ⟨p.b, 0, none⟩), .int .u32 (k : Int)] w fun e w' => e = .returned (.tuple #[bgV (fn M R k), .int .i64 (if (Ix.lk M k).isSome then 0 else 171)]) ∧ BkR w' p S Lb R M E T N B C f ∧ Kept w w' p.own := by
  refine (find_any h.fd k hk).mono ?_
  rintro e w' ⟨rfl, h1, h2⟩
  exact ⟨rfl, h.indexed h2 h1.ix h.mi (fun _ _ => rfl)⟩
theorem ixput_bk (h : BkR w p S Lb R M E T N B C f) (k s : Nat) (hk : k < 4294967296) (hs : s < R.length) (hn : Ix.lk M k = none) (hf : M.length < S.b) (ht : ∀ e ∈ E, e.2.toNat ≠ k) : Calls Tryz.prog 74 #[.pointer (some ⟨p.ip.x, 0, none⟩), .int .u32 (k : Int), .int .i64 (s : Int)] w fun e w' => e = .returned (.int .i64 0) ∧ BkR w' p S Lb R (Ix.ins M (k, (s : Int))) E T N B C f ∧ Kept w w' p.own := by
  obtain ⟨lo, h1⟩ := h.ix
  have hsl : s ≤ 1024 := by have := h.sa; rw [h.rl] at hs; omega
  have hp1 : Ix.putE M k p.ip.m = 0 := by unfold Ix.putE; rw [hn, if_neg (by simp), if_neg (by rw [h.im]; omega)]
  have hp2 : Ix.putM M k p.ip.m (s : Int) = Ix.ins M (k, (s : Int)) := by unfold Ix.putM; rw [hn, if_neg (by simp), if_neg (by rw [h.im]; omega)]
  have hc := Ix.put_io h1 k hk (s : Int) (by omega) (by omega)
  rw [hp1, hp2] at hc
  refine hc.mono ?_
  rintro e w' ⟨rfl, h2, h3⟩
  refine ⟨rfl, h.indexed h3 ⟨true, h2⟩ (fun y hy => ?_) (fun e he => ?_)⟩
  · rcases Ix.ins_mem.1 hy with rfl | hy
    · simp; exact hs
    · exact h.mi y hy
  · unfold tl
    rw [Ix.lk_ins h1.asc hn, if_neg (ht e he)]
theorem ixdrop_bk (h : BkR w p S Lb R M E T N B C f) (k : Nat) (hk : k < 4294967296) (ht : ∀ e ∈ E, e.2.toNat ≠ k) : Calls Tryz.prog 109 #[.pointer (some ⟨p.ip.x, 0, none⟩), .int .u32 (k : Int)] w fun e w' => e = .returned (.bool (Ix.lk M k).isSome) ∧ BkR w' p S Lb R (Ix.dr M k) E T N B C f ∧ Kept w w' p.own := by
  obtain ⟨lo, h1⟩ := h.ix
  refine (Ix.drop_io h1 k hk).mono ?_
  rintro e w' ⟨rfl, h2, h3⟩
  refine ⟨rfl, h.indexed h3 ⟨true, h2⟩ (fun y hy => h.mi y (Ix.dr_mem.1 hy).1) (fun e he => ?_)⟩
  unfold tl
  rw [Ix.lk_dr h1.asc, if_neg (ht e he)]
theorem push_bk (h : BkR w p S Lb R M E T N B C f) (hE : E.length < 65536) (hN : N ≤ 100000000) (hB : B ≤ 100000000) (k : Nat) (hk : k < 4294967296) : Calls Tryz.prog 75 #[.pointer (some ⟨p.hp.h, 0, none⟩), .int .u32 (k : Int)] w fun e w' => e = .returned (.tuple #[.int .i64 (N : Int), .int .i64 0]) ∧ ∃ q T', BkR w' q S Lb R M (E ++ [(N, (k : Int))]) T' (N + 1) (B + 1) C f ∧ Bst w w' p q := by
  refine (Hp.push_any (lsB_ok _ _ _ _ _ _) h.due hE hN hB (k : Int) (show 0 ≤ (k : Int) ∧ (k : Int) < 4294967296 by omega)).mono ?_
  rintro e w' ⟨rfl, q, T', h1, h2⟩
  obtain ⟨h3, h4⟩ := h.heaped h1 h2
  exact ⟨rfl, _, T', h3, h4⟩
theorem hdrop_bk (h : BkR w p S Lb R M E T N B C f) (hE : E.length ≤ 65536) (hN : N ≤ 100000000) (hB : B ≤ 100000000) (i : Nat) (hi : i < E.length) : Calls Tryz.prog 108 #[.pointer (some ⟨p.hp.h, 0, none⟩), .int .i64 ((Hp.en E i).1 : Int)] w fun e w' => e = .returned (.bool true) ∧ ∃ q T', BkR w' q S Lb R M (Hp.outE E i) T' N (B + 1) C f ∧ Bst w w' p q := by
  have hf := Hp.fi_at h.due.hds hi
  have hb := h.due.hds.below i hi
  have hc := Hp.drop_any (lsB_ok _ _ _ _ _ _) h.due hE hN hB ((Hp.en E i).1 : Int) (Hp.wf_i64 (by omega) (by omega))
  rw [hf] at hc
  refine hc.mono ?_
  rintro e w' ⟨rfl, q, T', h1, h2⟩
  obtain ⟨h3, h4⟩ := h.heaped h1 h2
  exact ⟨rfl, _, T', h3, h4⟩
theorem least_bk (h : BkR w p S Lb R M E T N B C f) : Calls Tryz.prog 87 #[.pointer (some ⟨p.hp.h, 0, none⟩)] w fun e w' => e = .returned (.tuple #[.int .u32 (if 0 < E.length then (Hp.en E (Hp.tn T 0)).2 else 0), .int .i64 (if 0 < E.length then ((Hp.en E (Hp.tn T 0)).1 : Int) else 0), .bool (decide (0 < E.length))]) ∧ w.grownBy w' none := h.due.least
/-- The one that is told has the least until of all. -/
theorem least_le (h : BkR w p S Lb R M E T N B C f) (hE : 0 < E.length) : Hp.tn T 0 < E.length ∧ ∀ e ∈ E, tl M R (Hp.en E (Hp.tn T 0)).2.toNat ≤ tl M R e.2.toNat := by
  have h1 := (h.due.good.sub 0 hE).2
  refine ⟨h1, fun e he => ?_⟩
  obtain ⟨j, hj, rfl⟩ := List.mem_iff_getElem.1 he
  have := Hp.Good.least (r := fun x : Int => tl M R x.toNat) (fun i j _ _ => rfl) h.due.good j hj
  rw [en_getElem hj] at this
  rcases this with h2 | ⟨h2, -⟩
  · exact Int.le_of_lt h2
  · exact Int.le_of_eq h2
/-- The map of handles, asked. -/
theorem zero3 (w : World) : (zeroValue 3).run Tryz.prog w = .ok (.int .i64 0) w := by kernel_rfl
theorem wf_u32 {s : Nat} (h : s < 4294967296) : (Lit.int .u32 (s : Int)).wf = true := by
  simp [Lit.wf, IntKind.min, IntKind.max, IntKind.signed, IntKind.bits]; omega
theorem look_bk (h : BkR w p S Lb R M E T N B C f) (k : Nat) (hk : k < 4294967296) : (Instr.lookup 64 (.map (some p.hm)) (.int .u32 (k : Int)) true).run Tryz.prog w = .ok (.tuple #[.int .i64 (((f (k : Int)).getD 0 : Nat) : Int), .bool (f (k : Int)).isSome]) w := by
  rw [h.map.look (by first | exact Tryz.underlying24 | kernel_rfl) Tryz.underlying64 (zero3 w) (wf_u32 hk)]
  cases f (k : Int) <;> rfl
end
end Go.Proofs.YtcbiloomnkbalaaGreatDoor
