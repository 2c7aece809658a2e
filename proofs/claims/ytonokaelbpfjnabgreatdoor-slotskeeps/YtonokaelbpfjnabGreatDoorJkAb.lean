/- Texts joined: Ops, Settle, Crash, Kit, Sec. -/
import Derived.Test.YtonokaelbpfjnabGreatDoorJkAa
import Derived.Carry
/- The contracts of New, Write, Read. -/
namespace Go.Proofs.YtonokaelbpfjnabGreatDoor
open Go.RowKit Ap
attribute [local go_sem ↓] Go.wp_at_zero Go.wp_at_succ

set_option maxHeartbeats 400000 in
theorem new_bad (n size : Int) (w : World) (h : mayB n size = false) : Calls Tryz.prog 16 #[.int .i64 n, .int .i64 size] w fun e w' => e = .returned (.tuple #[.pointer none, .int .i64 2]) ∧ w' = w := by
  have H := hide (mayBe_any n size w)
  rw [h] at H
  clear h
  go_enter Tryz.func16, Tryz.ntmps16
  go_wp2_with fail
  refine H.out.mono ?_
  rintro e w' ⟨rfl, rfl⟩
  go_wp2
  go_ret2
  exact ⟨rfl, rfl⟩
theorem shape_of {n size : Nat} (h : mayB (n : Int) (size : Int) = true) : Shape n size := by
  obtain ⟨h1, h2, h3, h4, _, h6⟩ := (mayB_iff _ _).1 h
  have h7 : ((n * size : Nat) : Int) ≤ 67108864 := by rw [Int.natCast_mul]; exact h6
  exact ⟨by omega, by omega, by omega, by omega, by omega⟩
theorem zs_length (n : Nat) : (zs n).length = n := by simp [zs]
set_option maxHeartbeats 1000000 in
theorem new_any (n size : Nat) (w : World) (h : mayB (n : Int) (size : Int) = true) : Calls Tryz.prog 16 #[.int .i64 (n : Int), .int .i64 (size : Int)] w fun e w' =>
    e = .returned (.tuple #[.pointer (some ⟨w.heap.size + 2, 0, none⟩), .int .i64 0]) ∧ DiskAt w' ⟨w.heap.size + 2, w.heap.size, .slice none 0 0, w.heap.size + 1⟩ n size (zs (n * size)) [] ∧ w.grownBy w' none := by
  have H := hide (mayBe_any n size w)
  have hs := shape_of h
  have hmk := make_bytes (n * size) (by have := hs.all; omega) w
  rw [h] at H
  have hw : wrap64 ((n : Int) * (size : Int)) = ((n * size : Nat) : Int) := by rw [← Int.natCast_mul]; have := hs.all; unfold wrap64; omega
  have hmm := @run_makeMap Tryz.prog
  have HP : Hid (∀ w', w' = ((w.alloc (.cells (bv (zs (n * size))).toArray 5)).alloc (.map #[] 0)).alloc (.cells #[.bool true, .int .i64 (size : Int), .slice (some ⟨w.heap.size, 0, none⟩) (n * size) (n * size), .slice none 0 0, .map (some (w.heap.size + 1))] 124) →
      DiskAt w' ⟨w.heap.size + 2, w.heap.size, .slice none 0 0, w.heap.size + 1⟩ n size (zs (n * size)) [] ∧ w.grownBy w' none) := by
    rintro w' rfl
    have g1 := World.grownBy_alloc w (.cells (bv (zs (n * size))).toArray 5) none
    have g2 := World.grownBy_alloc (w.alloc (.cells (bv (zs (n * size))).toArray 5)) (.map #[] 0) none
    have g3 := World.grownBy_alloc ((w.alloc (.cells (bv (zs (n * size))).toArray 5)).alloc (.map #[] 0)) (.cells #[.bool true, .int .i64 (size : Int), .slice (some ⟨w.heap.size, 0, none⟩) (n * size) (n * size), .slice none 0 0, .map (some (w.heap.size + 1))] 124) none
    have s1 : (w.alloc (.cells (bv (zs (n * size))).toArray 5)).heap.size = w.heap.size + 1 := Array.size_push ..
    have s2 : ((w.alloc (.cells (bv (zs (n * size))).toArray 5)).alloc (.map #[] 0)).heap.size = w.heap.size + 2 := (Array.size_push ..).trans (congrArg (· + 1) s1)
    refine ⟨⟨hs, ?_, ?_, zs_length _, World.ownsRow_nil _ _ _ _, ?_, by simp, by simp⟩, grown_trans (grown_trans g1 g2) g3⟩
    · have := heap_alloc_new ((w.alloc (.cells (bv (zs (n * size))).toArray 5)).alloc (.map #[] 0)) (.cells #[.bool true, .int .i64 (size : Int), .slice (some ⟨w.heap.size, 0, none⟩) (n * size) (n * size), .slice none 0 0, .map (some (w.heap.size + 1))] 124)
      rw [s2] at this
      exact this
    · exact ((grown_trans g2 g3).block w.heap.size (by omega) (by simp)).trans (heap_alloc_new w _)
    · refine mapAt_made (clock := 0) ?_
      have := heap_alloc_new (w.alloc (.cells (bv (zs (n * size))).toArray 5)) (.map #[] 0)
      rw [s1] at this
      exact (g3.block (w.heap.size + 1) (by omega) (by simp)).trans this
  generalize n * size = m at *
  clear h hs
  go_enter Tryz.func16, Tryz.ntmps16
  go_wp2_with fail
  refine H.out.mono ?_
  rintro e w' ⟨rfl, rfl⟩
  go_wp2
  go_ret2
  exact ⟨rfl, HP.out _ rfl⟩

/-- m[x] = v at the operation. -/
theorem wpList_mapUpdate_at {w : World} {ops : Array Oper} {rest : List Oper} {o : Oper} {a : Act} {Q : Exit → Act → World → Prop} (hg : o.guard = none) (m x v : Operand) (hop : o.op = Op.mapUpdate 121 m x v)
    (b n : Nat) (f : Int → Option Value) (hm : a.eval m = .map (some b)) (hown : MapAt w Tryz.prog 3 b n f) (hn : n < maxLen) (s : Int) (val : Value) (hx : a.eval x = .int .i64 s) (hv : a.eval v = val) (hs : (Lit.int .i64 s).wf = true)
    (hK : ∀ w', MapAt w' Tryz.prog 3 b (n + 1) (fun y => if y = s then some val else f y) → w.grownBy w' (some b) → wpList Tryz.prog ops Q rest (a.put o.dst undef) w') :
    wpList Tryz.prog ops Q (o :: rest) a w := by
  refine wpList_plain hg fun K' hK' => ?_
  obtain ⟨w', hrun, r1, r2⟩ := hown.store (t := 121) (e := 39) Tryz.underlying3 Tryz.underlying121 hn hs val
  unfold Oper.wp
  simp [execOp, hop, hm, hx, hv, hrun, Result.andThen]
  exact hK' _ _ (hK w' r1 r2)
theorem Tryz.info269 : (Tryz.prog.info? 269).map (fun i => (i.zero, i.size, i.bytes)) = some (some (.agg #[.int .i64 0, .slice none 0 0]), 2, 32) := by kernel_rfl
theorem wf_i64 {s : Int} (h0 : -9223372036854775808 ≤ s) (h1 : s ≤ 9223372036854775807) : (Lit.int .i64 s).wf = true := by
  simp [Lit.wf, IntKind.min, IntKind.max, IntKind.signed, IntKind.bits]; omega

section
variable {w : World} {k : Dk} {n size : Nat} {D : List Nat} {W : List Wt}
set_option maxHeartbeats 400000 in
theorem write_none (p : Option Addr) (a : Int) (v : Value) (w : World) (h : NoDisk w p) : Calls Tryz.prog 132 #[.pointer p, .int .i64 a, v] w fun e w' => e = .returned (.int .i64 1) ∧ w' = w := by
  have H := hide (may_none p a w h)
  clear h
  go_enter Tryz.func132, Tryz.ntmps132
  go_wp2_with fail
  refine H.out.mono ?_
  rintro e w' ⟨rfl, rfl⟩
  go_wp2
  go_ret
  exact ⟨rfl, rfl⟩
set_option maxHeartbeats 400000 in
theorem write_far (h : DiskAt w k n size D W) (a : Int) (v : Value) (ha : ¬ (0 ≤ a ∧ a < (n : Int))) : Calls Tryz.prog 132 #[.pointer (some ⟨k.d, 0, none⟩), .int .i64 a, v] w fun e w' => e = .returned (.int .i64 50) ∧ w.grownBy w' none := by
  have H := hide (may_any h a)
  rw [show mayC n a = 50 from if_neg ha] at H
  clear h ha
  go_enter Tryz.func132, Tryz.ntmps132
  go_wp2_with fail
  refine H.out.mono ?_
  rintro e w' ⟨rfl, q, rfl⟩
  go_wp2
  go_ret
  exact ⟨rfl, grown_drewN _ _ _⟩
set_option maxHeartbeats 400000 in
theorem write_long (h : DiskAt w k n size D W) (a : Int) (ao : Option Addr) (m cap : Nat) (ha : 0 ≤ a ∧ a < (n : Int)) (hm : m ≠ size) : Calls Tryz.prog 132 #[.pointer (some ⟨k.d, 0, none⟩), .int .i64 a, .slice ao m cap] w fun e w' => e = .returned (.int .i64 3) ∧ w.grownBy w' none := by
  have H := hide (may_any h a)
  have c1 : ∀ q, (w.drewN q).cell? ⟨k.d, 1, none⟩ = some (.int .i64 (size : Int)) := fun q => h.c1
  rw [show mayC n a = 0 from if_pos ha] at H
  have hm1 : ¬ (m : Int) = (size : Int) := by omega
  have hm2 : decide ((m : Int) = (size : Int)) = false := decide_eq_false hm1
  have hm3 : ((m : Int) == (size : Int)) = false := by simpa using hm1
  clear h ha hm
  go_enter Tryz.func132, Tryz.ntmps132
  go_wp2_with fail
  refine H.out.mono ?_
  rintro e w' ⟨rfl, q, rfl⟩
  have c1' := c1 q
  clear c1
  generalize hwq : w.drewN q = wq at *
  have HW := hide hwq
  clear hwq
  go_wp2
  go_ret
  exact ⟨rfl, by rw [← HW.out]; exact grown_drewN _ _ _⟩

theorem cell_two (w : World) (u v : Value) (t : TypeId) : ∀ j x, [u, v][j]? = some x → (w.alloc (.cells #[u, v] t)).cell? ((⟨w.heap.size, 0, none⟩ : Addr).add j) = some x := by
  intro j x h
  rw [Addr.add_lit, Nat.zero_add, cell_of_row _ _ j #[u, v] t (0, 0) (heap_alloc_new w _)]
  simpa using h
/-- What a write does to a disk. -/
structure Wrote (w w' : World) (k k' : Dk) (n size : Nat) (D : List Nat) (W : List Wt) (s : Nat) (xs : List Nat) : Prop where
  d : k'.d = k.d
  db : k'.db = k.db
  mb : k'.mb = k.mb
  vw : ∀ i, k'.vw.ownBlock = some i → k.vw.ownBlock = some i ∨ w.heap.size ≤ i
  disk : DiskAt w' k' n size D (W ++ [⟨s, w.heap.size, xs⟩])
  kept : Kept w w' (fun i => i = k.d ∨ k.vw.ownBlock = some i ∨ i = k.mb)
theorem wrote_of (h : DiskAt w k n size D W) (hW : W.length < 1000000) (s : Nat) (hs : s < n) (xs : List Nat) (hx' : xs.length = size) (w1 w2 w3 w5 : World) (v' : Value) (o1 : Obj) (hnew : w1.heap[w.heap.size]? = some (.cells (bv xs).toArray 5 (0, 0))) (g1 : w.grownBy w1 none)
    (h2 : w2 = w1.alloc o1) (hrow : w3.ownsRow 0 269 2 v' (W.length + 1) (wcells size W ++ [.int .i64 (s : Int), bsl w.heap.size size])) (g3 : w2.grownBy w3 k.vw.ownBlock) (hv : v'.ownBlock = k.vw.ownBlock ∨ v'.ownBlock = some w2.heap.size)
    (hm : MapAt w5 Tryz.prog 3 k.mb (W.length + 1) (fun y => if y = (s : Int) then some (bsl w.heap.size size) else newest size W y)) (g5 : (w3.setCell ⟨k.d, 3, none⟩ v').grownBy w5 (some k.mb)) : Wrote w w5 k ⟨k.d, k.db, v', k.mb⟩ n size D W s xs := by
  obtain ⟨e1, e2, e3, e4, e5, e6⟩ := h.vw_ne
  have g2 : w1.grownBy w2 none := by rw [h2]; exact World.grownBy_alloc w1 o1 none
  have g12 := grown_trans g1 g2
  have g4 := grown_setCell w3 k.d 3 v'
  have K : Kept w w5 (fun i => i = k.d ∨ k.vw.ownBlock = some i ∨ i = k.mb) :=
    (((Kept.new g12 _).trans (Kept.of g3 (S := fun i => i = k.d ∨ k.vw.ownBlock = some i ∨ i = k.mb) (fun j e _ => Or.inr (Or.inl e))) (fun _ _ e => e)).trans
      (Kept.of g4 (S := fun i => i = k.d ∨ k.vw.ownBlock = some i ∨ i = k.mb) (fun j e _ => by cases e; exact Or.inl rfl)) (fun _ _ e => e)).trans
      (Kept.of g5 (S := fun i => i = k.d ∨ k.vw.ownBlock = some i ∨ i = k.mb) (fun j e _ => by cases e; exact Or.inr (Or.inr rfl))) (fun _ _ e => e)
  have hld := h.lt k.d (.inl (.inl rfl))
  have hlb := h.lt k.db (.inl (.inr (.inl rfl)))
  have hlm := h.lt k.mb (.inl (.inr (.inr (.inr rfl))))
  have hsz : w.heap.size ≤ w2.heap.size := g12.size
  have hvd : v'.ownBlock ≠ some k.d ∧ v'.ownBlock ≠ some k.db ∧ v'.ownBlock ≠ some k.mb := by
    rcases hv with hv | hv <;> rw [hv]
    · exact ⟨e1, e2, e3⟩
    · exact ⟨fun e => by have := Option.some.inj e; omega, fun e => by have := Option.some.inj e; omega, fun e => by have := Option.some.inj e; omega⟩
  have hd3 : w3.heap[k.d]? = some (.cells #[.bool true, .int .i64 (size : Int), .slice (some ⟨k.db, 0, none⟩) (n * size) (n * size), k.vw, .map (some k.mb)] 124 (0, 0)) :=
    (g3.block k.d (by omega) (fun e => e1 e.symm)).trans ((g12.block k.d hld (by simp)).trans h.head)
  have hne : ∀ x ∈ W, x.blk ≠ w.heap.size := fun x hx => Nat.ne_of_lt (h.lt x.blk (.inr ⟨x, hx, rfl⟩))
  refine ⟨rfl, rfl, rfl, ?_, ⟨h.shape, ?_, ?_, h.len, ?_, ?_, ?_, by simp; omega⟩, K⟩
  · intro i hi
    rcases hv with hv | hv
    · exact Or.inl (hv ▸ hi)
    · have hi' : v'.ownBlock = some i := hi
      rw [hv] at hi'; cases hi'; exact Or.inr hsz
  · refine (g5.block k.d (by have := g3.size; simp [World.setCell]; omega) (fun e => e5 (Option.some.inj e))).trans ?_
    rw [World.setCell]
    simp [Array.getElem?_modify, hd3]
  · exact K.at h.dur (by rintro (e | e | e); exact e4 e.symm; exact e2 e; exact e6 e)
  · rw [wcells_snoc, List.length_append]
    refine row_same (row_same hrow (w' := w3.setCell ⟨k.d, 3, none⟩ v') (fun g hg => ?_)) (fun g hg => ?_)
    · exact Below.heap_setCell _ _ _ _ (fun e => hvd.1 (by rw [hg]; exact congrArg some e))
    · refine g5.block g ?_ (fun e => hvd.2.2 (by rw [hg, e]))
      have := (hrow.lt g hg).2
      simpa [World.setCell] using this
  · rw [newest_snoc, List.length_append]; exact hm
  · intro x hx
    rcases List.mem_append.1 hx with hx | hx
    · obtain ⟨a1, a2, a3, a4⟩ := h.waits x hx
      refine ⟨a1, a2, a3, K.at a4 ?_⟩
      have := h.blk_ne hx
      rintro (e | e | e)
      · exact this (.inl e)
      · exact this (.inr (.inr (.inl e)))
      · exact this (.inr (.inr (.inr e)))
    · simp at hx; subst hx
      refine ⟨hs, hx', by show w.heap.size ≠ k.db; omega, ?_⟩
      have a : w2.heap[w.heap.size]? = some (.cells (bv xs).toArray 5 (0, 0)) := (g2.block _ (row_lt hnew) (by simp)).trans hnew
      have b : w3.heap[w.heap.size]? = some (.cells (bv xs).toArray 5 (0, 0)) := (g3.block _ (row_lt a) (fun e => by have := h.lt _ (.inl (.inr (.inr (.inl e.symm)))); omega)).trans a
      have c : (w3.setCell ⟨k.d, 3, none⟩ v').heap[w.heap.size]? = some (.cells (bv xs).toArray 5 (0, 0)) := (Below.heap_setCell _ _ _ _ (show w.heap.size ≠ k.d by omega)).trans b
      exact (g5.block _ (row_lt c) (fun e => by have := Option.some.inj e; omega)).trans c
theorem wrote_drew {w' : World} {k' : Dk} {s : Nat} {xs : List Nat} (q : Nat) (h : Wrote (w.drewN q) w' k k' n size D W s xs) : Wrote w w' k k' n size D W s xs :=
  ⟨h.d, h.db, h.mb, h.vw, h.disk, ⟨h.kept.os, h.kept.tape, h.kept.output, h.kept.size, h.kept.block⟩⟩
set_option maxHeartbeats 1000000 in
theorem write_any (h : DiskAt w k n size D W) (hW : W.length < 1000000) (s : Nat) (hs : s < n) (ao : Option Addr) (cap : Nat) (xs : List Nat) (hat : At w ao xs) (hx : xs.length = size) :
    Calls Tryz.prog 132 #[.pointer (some ⟨k.d, 0, none⟩), .int .i64 (s : Int), .slice ao size cap] w fun e w' => e = .returned (.int .i64 0) ∧ ∃ k', Wrote w w' k k' n size D W s xs := by
  have H := hide (may_any h (s : Int))
  rw [show mayC n (s : Int) = 0 from if_pos (by omega)] at H
  have c1 : ∀ q, (w.drewN q).cell? ⟨k.d, 1, none⟩ = some (.int .i64 (size : Int)) := fun q => h.c1
  have HC := hide (fun q => copied_any ao size cap xs (w.drewN q) hat hx (by have := h.shape.s1; omega))
  have HD := hide (And.intro h (And.intro hW (And.intro hs hx)))
  have hsw : Hid ((Lit.int .i64 (s : Int)).wf = true) := wf_i64 (by omega) (by have := h.shape.n1; omega)
  obtain ⟨i0, hi, hz0, hz1, hz2⟩ := info_parts Tryz.info269
  have HI := hide (And.intro hi (And.intro hz0 (And.intro hz1 hz2)))
  clear h hat hx hW hs hi hz0 hz1 hz2
  go_enter Tryz.func132, Tryz.ntmps132
  go_wp2_with fail
  refine H.out.mono ?_
  rintro e w' ⟨rfl, q, rfl⟩
  have c1' := c1 q
  have HC' := hide (HC.out q)
  clear c1 HC H
  have HD' : Hid (DiskAt (w.drewN q) k n size D W ∧ W.length < 1000000 ∧ s < n ∧ xs.length = size) := ⟨HD.out.1.grown (grown_drewN _ _ _), HD.out.2⟩
  have HW := hide (fun (w' : World) (k' : Dk) => wrote_drew (w := w) (w' := w') (k := k) (k' := k') (n := n) (size := size) (D := D) (W := W) (s := s) (xs := xs) q)
  generalize w.drewN q = wq at *
  go_wp2_with fail
  refine HC'.out.mono ?_
  rintro e w1 ⟨rfl, hnew, g1⟩
  have hD1 := HD'.out.1.grown g1
  have c3 := hD1.c3
  have c4 := hD1.c4
  have hfr := hD1.free 3
  have H1 := hide (And.intro hnew (And.intro g1 hD1))
  clear hnew g1 hD1 HC' c1'
  go_wp2_with (at_builtin; refine wpList_append_own_at _ rfl (.tmp 28) (.tmp 32) 122 rfl 0 269 i0 (.agg #[.int .i64 0, .slice none 0 0]) 2 32 Tryz.underlying122 HI.out.1 HI.out.2.1 HI.out.2.2.1 HI.out.2.2.2 rfl (by decide) k.vw W.length (wcells size W) rfl (H1.out.2.2.row.alloc _) ⟨w1.heap.size, 0, none⟩ 1 1 [.int .i64 (s : Int), bsl wq.heap.size size] rfl rfl (cell_two w1 _ _ 269) (fun u hu => ?_) ?_ ?_ (Nat.zero_le _) ?_)
  · simp at hu; rcases hu with rfl | rfl <;> rfl
  · have := HD.out.2.1; unfold maxLen; omega
  · have := HD.out.2.1; omega
  intro v' w3 hrow g3 hnil hv
  obtain ⟨g', cap', rfl⟩ : ∃ g' cap', v' = .slice (some ⟨g', 0, none⟩) (W.length + 1) cap' := by
    rcases hrow.2 with ⟨_, h0⟩ | ⟨g', cap', _, e, _⟩
    · cases h0
    · exact ⟨g', cap', e⟩
  obtain ⟨e1, e2, e3, e4, e5, e6⟩ := H1.out.2.2.vw_ne
  have g13 : (w1.alloc (.cells #[.int .i64 (s : Int), bsl wq.heap.size size] 269)).grownBy w3 k.vw.ownBlock := g3
  have c4' : w3.cell? ⟨k.d, 4, none⟩ = some (.map (some k.mb)) := g13.cell ((World.grownBy_alloc w1 _ none).cell c4 (by simp)) (fun e => e1 e.symm)
  have c3' : w3.cell? ⟨k.d, 3, none⟩ = some k.vw := g13.cell ((World.grownBy_alloc w1 _ none).cell c3 (by simp)) (fun e => e1 e.symm)
  have hf' : w3.frozen? ⟨k.d, 3, none⟩ = false := by
    refine (World.frozen?_of_block (g13.block k.d ?_ (fun e => e1 e.symm))).trans ((World.frozen?_of_block ((World.grownBy_alloc w1 _ none).block k.d ?_ (by simp))).trans hfr)
    · exact Nat.lt_of_lt_of_le (H1.out.2.2.lt k.d (.inl (.inl rfl))) (World.grownBy_alloc w1 _ none).size
    · exact H1.out.2.2.lt k.d (.inl (.inl rfl))
  have c4'' : (w3.setCell ⟨k.d, 3, none⟩ (.slice (some ⟨g', 0, none⟩) (W.length + 1) cap')).cell? ⟨k.d, 4, none⟩ = some (.map (some k.mb)) := (World.cell?_setCell_other _ _ _ _ (by simp)).trans c4'
  have HM : Hid (MapAt (w3.setCell ⟨k.d, 3, none⟩ (.slice (some ⟨g', 0, none⟩) (W.length + 1) cap')) Tryz.prog 3 k.mb W.length (newest size W)) := by
    refine (H1.out.2.2.map.same (w' := w1.alloc (.cells #[.int .i64 (s : Int), bsl wq.heap.size size] 269)) ?_).same ?_
    · exact (World.grownBy_alloc w1 _ none).block k.mb H1.out.2.2.map.lt (by simp)
    · refine (Below.heap_setCell _ _ _ _ (show k.mb ≠ k.d from fun e => e5 e.symm)).trans (g13.block k.mb ?_ (fun e => e3 e.symm))
      exact Nat.lt_of_lt_of_le H1.out.2.2.map.lt (World.grownBy_alloc w1 _ none).size
  have HH := hide (And.intro hrow (And.intro g13 hv))
  clear hrow g3 g13 hv hnil c3 c4 hfr e1 e2 e3 e4 e5 e6 c4'
  go_wp2_with (at_mapUpdate; refine wpList_mapUpdate_at rfl _ _ _ rfl k.mb W.length (newest size W) rfl HM.out ?_ (s : Int) (bsl wq.heap.size size) rfl rfl hsw.out ?_)
  · have := HD.out.2.1; unfold maxLen; omega
  intro w5 hm g5
  have H5 := hide (And.intro hm g5)
  clear hm g5
  go_wp2
  go_ret
  refine ⟨rfl, _, HW.out _ _ (wrote_of HD'.out.1 HD'.out.2.1 s HD'.out.2.2.1 xs HD'.out.2.2.2 w1 _ w3 w5 _ _ H1.out.1 H1.out.2.1 rfl HH.out.1 HH.out.2.1 ?_ H5.out.1 H5.out.2)⟩
  exact HH.out.2.2.imp id (fun h => h.trans (congrArg some (Array.size_push ..).symm))

set_option maxHeartbeats 400000 in
theorem read_none (p : Option Addr) (a : Int) (w : World) (h : NoDisk w p) : Calls Tryz.prog 122 #[.pointer p, .int .i64 a] w fun e w' => e = .returned (.tuple #[.slice none 0 0, .int .i64 1]) ∧ w' = w := by
  have H := hide (may_none p a w h)
  clear h
  go_enter Tryz.func122, Tryz.ntmps122
  go_wp2_with fail
  refine H.out.mono ?_
  rintro e w' ⟨rfl, rfl⟩
  go_wp2
  go_ret2
  exact ⟨rfl, rfl⟩
set_option maxHeartbeats 400000 in
theorem read_far (h : DiskAt w k n size D W) (a : Int) (ha : ¬ (0 ≤ a ∧ a < (n : Int))) : Calls Tryz.prog 122 #[.pointer (some ⟨k.d, 0, none⟩), .int .i64 a] w fun e w' => e = .returned (.tuple #[.slice none 0 0, .int .i64 50]) ∧ w.grownBy w' none := by
  have H := hide (may_any h a)
  rw [show mayC n a = 50 from if_neg ha] at H
  clear h ha
  go_enter Tryz.func122, Tryz.ntmps122
  go_wp2_with fail
  refine H.out.mono ?_
  rintro e w' ⟨rfl, q, rfl⟩
  go_wp2
  go_ret2
  exact ⟨rfl, grown_drewN _ _ _⟩
/-- The bytes of a sector. -/
def secOf (size : Nat) (D : List Nat) (s : Nat) : List Nat := (D.drop (s * size)).take size
/-- What is found in a sector. -/
def found (size : Nat) (D : List Nat) (W : List Wt) (s : Nat) : List Nat := match lastOf W s with
  | some x => x.xs
  | none => secOf size D s
theorem secOf_length {n size : Nat} {D : List Nat} {s : Nat} (hl : D.length = n * size) (hs : s < n) : (secOf size D s).length = size := by
  have : (s + 1) * size ≤ n * size := Nat.mul_le_mul_right _ hs
  rw [Nat.succ_mul] at this
  simp [secOf, hl]; omega
theorem at_sector {w : World} {k : Dk} {n size : Nat} {D : List Nat} {W : List Wt} (h : DiskAt w k n size D W) (s : Nat) : At w (some ⟨k.db, s * size, none⟩) (secOf size D s) := by
  intro j u hu
  refine ⟨_, rfl, ?_⟩
  rw [secOf, List.getElem?_take] at hu
  split at hu
  · rw [List.getElem?_drop] at hu
    rw [Addr.add_lit, cell_row h.dur]
    exact bv_get D _ u hu
  · cases hu
theorem zero46 (w : World) : (zeroValue 39).run Tryz.prog w = .ok (.slice none 0 0) w := by kernel_rfl
set_option maxHeartbeats 1000000 in
theorem read_any (h : DiskAt w k n size D W) (s : Nat) (hs : s < n) : Calls Tryz.prog 122 #[.pointer (some ⟨k.d, 0, none⟩), .int .i64 (s : Int)] w fun e w' =>
    e = .returned (.tuple #[bsl w.heap.size size, .int .i64 0]) ∧ w'.heap[w.heap.size]? = some (.cells (bv (found size D W s)).toArray 5 (0, 0)) ∧ w.grownBy w' none := by
  have H := hide (may_any h (s : Int))
  rw [show mayC n (s : Int) = 0 from if_pos (by omega)] at H
  have c4 : ∀ q, (w.drewN q).cell? ⟨k.d, 4, none⟩ = some (.map (some k.mb)) := fun q => h.c4
  have hsw : (Lit.int .i64 (s : Int)).wf = true := wf_i64 (by omega) (by have := h.shape.n1; omega)
  have hlook : ∀ q, (Instr.lookup 121 (.map (some k.mb)) (.int .i64 (s : Int)) true).run Tryz.prog (w.drewN q) = .ok (.tuple #[((lastOf W s).map (fun x => bsl x.blk size)).getD (.slice none 0 0), .bool ((lastOf W s).map (fun x => bsl x.blk size)).isSome]) (w.drewN q) := by
    intro q
    have hm : MapAt (w.drewN q) Tryz.prog 3 k.mb W.length (newest size W) := h.map.same rfl
    have := hm.look Tryz.underlying3 Tryz.underlying121 (zero46 _) hsw
    rw [newest_last] at this
    exact this
  have hm := h.shape.s1
  cases hl : lastOf W s with
  | some x =>
    obtain ⟨hx, hxs⟩ := lastOf_mem hl
    obtain ⟨_, hxl, _, hxb⟩ := h.waits x hx
    have HC := hide (fun q => copied_any (some ⟨x.blk, 0, none⟩) size size x.xs (w.drewN q) (at_row (w := w.drewN q) hxb) hxl (by omega))
    have hf : found size D W s = x.xs := by simp [found, hl]
    rw [hf]
    simp only [hl, Option.map_some, Option.getD_some, Option.isSome_some, bsl] at hlook
    clear h hs hsw hl hxl hxb hf hm
    go_enter Tryz.func122, Tryz.ntmps122
    go_wp2_with fail
    refine H.out.mono ?_
    rintro e w' ⟨rfl, q, rfl⟩
    have c4' := c4 q
    have hlook' := hlook q
    have HC' := hide (HC.out q)
    have HW : Hid (∀ w1 : World, (w.drewN q).grownBy w1 none → w.grownBy w1 none) := fun w1 hg => grown_trans (grown_drewN _ _ _) hg
    have HS : Hid ((w.drewN q).heap.size = w.heap.size) := rfl
    clear c4 hlook HC H
    generalize w.drewN q = wq at *
    go_wp2_with fail
    refine HC'.out.mono ?_
    rintro e w1 ⟨rfl, h1, g1⟩
    have H1 := hide (And.intro h1 g1)
    clear h1 g1
    go_wp2
    go_ret2
    rw [← HS.out]
    exact ⟨rfl, H1.out.1, HW.out _ H1.out.2⟩
  | none =>
    have HC := hide (fun q => copied_any (some ⟨k.db, s * size, none⟩) size (n * size - s * size) (secOf size D s) (w.drewN q) (at_sector (w := w.drewN q) (h.grown (grown_drewN _ _ _)) s) (secOf_length h.len hs) (by omega))
    have HS := hide (fun q => sector_any (w := w.drewN q) (h.grown (grown_drewN _ _ _)) s hs)
    have hf : found size D W s = secOf size D s := by simp [found, hl]
    rw [hf]
    simp only [hl, Option.map_none, Option.getD_none, Option.isSome_none] at hlook
    clear h hs hsw hl hf hm
    go_enter Tryz.func122, Tryz.ntmps122
    go_wp2_with fail
    refine H.out.mono ?_
    rintro e w' ⟨rfl, q, rfl⟩
    have c4' := c4 q
    have hlook' := hlook q
    clear c4 hlook H
    go_wp2_with fail
    refine (HS.out q).mono ?_
    rintro e w' ⟨rfl, q', rfl⟩
    go_wp2_with fail
    refine (HC.out (q + q')).mono ?_
    rintro e w1 ⟨rfl, h1, g1⟩
    have H1 := hide (And.intro h1 g1)
    clear h1 g1
    go_wp2
    go_ret2
    exact ⟨rfl, H1.out.1, grown_trans (grown_drewN _ _ _) H1.out.2⟩
end
end Go.Proofs.YtonokaelbpfjnabGreatDoor
/- The contracts of settle, Sync and Crash. -/
namespace Go.Proofs.YtonokaelbpfjnabGreatDoor
open Go.RowKit Ap
attribute [local go_sem ↓] Go.wp_at_zero Go.wp_at_succ

/-- copy as one step of a region that draws its order: the row behind it, and that no other block has turned. -/
theorem step_copy_grown {P : Program} {ops : Array Oper} {o : Oper} {a : Act} {w : World} {K : Act → World → Prop} {Q : Exit → Act → World → Prop} {E : Prop} (hgd : o.guard = none) (d s : Operand) (dT sT : TypeId)
    (ho : o.op = .call { callee := .builtin .copy, args := #[d, s], argTypes := #[dT, sT] }) (elem : TypeId) (hu : P.underlying dT = some (.slice elem)) (hsz : (P.info? elem).map (·.size) = some 1)
    (dp sp : Option Addr) (dLen dCap sLen sCap : Nat) (hd : a.eval d = .slice dp dLen dCap) (hs : a.eval s = .slice sp sLen sCap)
    (g off : Nat) (cur : List Value) (t : TypeId) (hg : w.heap[g]? = some (.cells cur.toArray t (0, 0))) (cs : List Value) (hn : cs.length = Nat.min sLen dLen)
    (hpos : 0 < cs.length → dp = some ⟨g, off, none⟩ ∧ ∃ ad, sp = some ad ∧ ∀ j v, cs[j]? = some v → w.cell? (ad.add j) = some v)
    (hfit : off + cs.length ≤ cur.length) (h1 : ∀ v ∈ cs, v.oneCell' = true)
    (h : ∀ w', Hid (w'.heap[g]? = some (.cells (splice cur off cs).toArray t (0, 0))) → w.grownBy w' (some g) → K (a.put o.dst (goInt cs.length)) w') :
    if Region.wanted o (yielded ops a.tmps) = true then Oper.wp P o a w K Q else E := by
  have hw : Region.wanted o (yielded ops a.tmps) = true := by simp [Region.wanted, hgd]
  rw [if_pos hw]
  by_cases h0 : cs.length = 0
  · obtain rfl : cs = [] := List.eq_nil_of_length_eq_zero h0
    have hrun := run_copy_none (P := P) w dT sT o.type elem dp sp dLen dCap sLen sCap hu hsz (by simpa using hn.symm)
    unfold Oper.wp
    simp [execOp, ho, resolve, invoke, builtin, hd, hs, hrun, Result.andThen]
    exact h w (show _ = _ by simpa [splice] using hg) (grown_refl w _)
  · obtain ⟨rfl, ad, rfl, hsrc⟩ := hpos (by omega)
    have hrun := run_copy_row (P := P) w dT sT o.type elem g off dLen dCap ad sLen sCap cur.toArray t cs hu hsz hg hn hsrc (by simpa using hfit) h1
    unfold Oper.wp
    simp [execOp, ho, resolve, invoke, builtin, hd, hs, hrun, Result.andThen]
    exact h _ (show _ = _ by simpa [splice] using setRow_heap w g _ _ t _ hg) (grown_setRow w g _)

theorem bv_splice (xs ys : List Nat) (o : Nat) : bv (splice xs o ys) = splice (bv xs) o (bv ys) := by simp [splice, bv, List.map_take, List.map_drop]
/-- The durable bytes behind the first j of the writes, of the i-th of which L i bytes last. -/
def stl (size : Nat) (L : Nat → Nat) (D : List Nat) (W : List Wt) : Nat → List Nat
  | 0 => D
  | j + 1 => match W[j]? with
    | some x => splice (stl size L D W j) (x.sec * size) (x.xs.take (L j))
    | none => stl size L D W j
theorem stl_step {size : Nat} {L : Nat → Nat} {D : List Nat} {W : List Wt} {j : Nat} {x : Wt} (h : W[j]? = some x) : stl size L D W (j + 1) = splice (stl size L D W j) (x.sec * size) (x.xs.take (L j)) := by simp [stl, h]

section
variable {w : World} {k : Dk} {n size : Nat} {D : List Nat} {W : List Wt}
theorem DiskAt.fits (h : DiskAt w k n size D W) {x : Wt} (hx : x ∈ W) (m : Nat) : x.sec * size + (x.xs.take m).length ≤ n * size := by
  obtain ⟨h1, h2, _⟩ := h.waits x hx
  have : (x.sec + 1) * size ≤ n * size := Nat.mul_le_mul_right _ h1
  rw [Nat.succ_mul] at this
  simp [h2]; omega
theorem DiskAt.setDur (h : DiskAt w k n size D W) {w' : World} {D' : List Nat} (hg : w.grownBy w' (some k.db)) (hd : w'.heap[k.db]? = some (.cells (bv D').toArray 5 (0, 0))) (hl : D'.length = D.length) : DiskAt w' k n size D' W := by
  obtain ⟨e1, e2, e3, e4, e5, e6⟩ := h.vw_ne
  have hb : ∀ i, foot k W i → i ≠ k.db → w'.heap[i]? = w.heap[i]? := fun i hi hn => hg.block i (h.lt i hi) (fun e => hn (Option.some.inj e))
  refine ⟨h.shape, (hb _ (.inl (.inl rfl)) e4).trans h.head, hd, hl.trans h.len, row_same h.row (fun g hg => hb _ (.inl (.inr (.inr (.inl hg)))) (fun e => e2 (by rw [hg, e]))), h.map.same (hb _ (.inl (.inr (.inr (.inr rfl)))) (fun e => e6 e.symm)), ?_, h.few⟩
  intro x hx
  obtain ⟨h1, h2, h3, h4⟩ := h.waits x hx
  exact ⟨h1, h2, h3, (hb _ (.inr ⟨x, hx, rfl⟩) h3).trans h4⟩
theorem DiskAt.wait_cells (h : DiskAt w k n size D W) {g cap : Nat} (hv : k.vw = .slice (some ⟨g, 0, none⟩) W.length cap) {j : Nat} {x : Wt} (hx : W[j]? = some x) :
    w.cell? ⟨g, j * 2, none⟩ = some (.int .i64 (x.sec : Int)) ∧ w.cell? ⟨g, j * 2 + 1, none⟩ = some (bsl x.blk size) := by
  have hr := h.row
  rw [hv] at hr
  have hj : j < W.length := (List.getElem?_eq_some_iff.1 hx).1
  obtain ⟨a, b⟩ := wcells_get size W j x hx
  rw [Nat.mul_comm] at a b
  exact ⟨by rw [hr.cellAt _ (by omega)]; exact a, by rw [hr.cellAt _ (by omega)]; exact b⟩

theorem settled_of {w wr w6 : World} {k : Dk} {n size : Nat} {D : List Nat} {W : List Wt} (h : DiskAt wr k n size D W) (hg : w.grownBy wr (some k.db)) (hm : MapAt w6 Tryz.prog 3 k.mb 0 (fun _ => none)) (hg6 : (wr.setCell ⟨k.d, 3, none⟩ (.slice none 0 0)).grownBy w6 (some k.mb)) :
    DiskAt w6 ⟨k.d, k.db, .slice none 0 0, k.mb⟩ n size D [] ∧ Kept w w6 (fun i => i = k.d ∨ i = k.db ∨ i = k.mb) := by
  obtain ⟨e1, e2, e3, e4, e5, e6⟩ := h.vw_ne
  have g4 := grown_setCell wr k.d 3 (.slice none 0 0)
  refine ⟨⟨h.shape, ?_, ?_, h.len, World.ownsRow_nil _ _ _ _, hm, by simp, by simp⟩, ?_⟩
  · refine (hg6.block k.d (by have := row_lt h.head; simpa [World.setCell] using this) (fun e => e5 (Option.some.inj e))).trans ?_
    rw [World.setCell]
    simp [Array.getElem?_modify, h.head]
  · refine (hg6.block k.db (by have := row_lt h.dur; simpa [World.setCell] using this) (fun e => e6 (Option.some.inj e))).trans ?_
    exact (Below.heap_setCell _ _ _ _ (show k.db ≠ k.d from fun e => e4 e.symm)).trans h.dur
  · exact ((Kept.of hg (S := fun i => i = k.d ∨ i = k.db ∨ i = k.mb) (fun j e _ => by cases e; exact Or.inr (Or.inl rfl))).trans
      (Kept.of g4 (S := fun i => i = k.d ∨ i = k.db ∨ i = k.mb) (fun j e _ => by cases e; exact Or.inl rfl)) (fun _ _ e => e)).trans
      (Kept.of hg6 (S := fun i => i = k.d ∨ i = k.db ∨ i = k.mb) (fun j e _ => by cases e; exact Or.inr (Or.inr rfl))) (fun _ _ e => e)
set_option maxHeartbeats 400000 in
theorem settle_none (p : Option Addr) (v : Value) (w : World) (h : NoDisk w p) : Calls Tryz.prog 141 #[.pointer p, v] w fun e w' => e = .returned (.int .i64 1) ∧ w' = w := by
  have H := hide h.is
  clear h
  go_enter Tryz.func141, Tryz.ntmps141
  go_wp2_with fail
  refine H.out.mono ?_
  rintro e w' ⟨rfl, rfl⟩
  go_wp2
  go_ret
  exact ⟨rfl, rfl⟩

set_option maxRecDepth 20000 in
set_option maxHeartbeats 4000000 in
theorem settle57 (K A : Nat → Int) (h : DiskAt w k n size D W)
    (hf : ∀ i, i < W.length → ∀ w', w.grownBy w' (some k.db) → Calls Tryz.prog 142 #[.int .i64 (i : Int)] w' fun e w'' => e = .returned (.agg #[.int .i64 (K i), .int .i64 (A i)]) ∧ w'.grownBy w'' none) :
    Calls Tryz.prog 141 #[.pointer (some ⟨k.d, 0, none⟩), .func (.func 142) #[] #[]] w fun e w' => e = .returned (.int .i64 0) ∧
      DiskAt w' ⟨k.d, k.db, .slice none 0 0, k.mb⟩ n size (stl size (fun i => lasts (K i) (A i) size) D W W.length) [] ∧ Kept w w' (fun i => i = k.d ∨ i = k.db ∨ i = k.mb) := by
  have H := hide h.is
  have HD := hide h
  have HF := hide hf
  have c3 := h.c3
  obtain ⟨ao, cap, hv, hao, hao2⟩ := h.vw_form
  rw [hv] at c3
  have HV := hide (And.intro hv (And.intro hao hao2))
  obtain ⟨m, hm⟩ : ∃ m, m = W.length := ⟨_, rfl⟩
  rw [← hm] at c3
  have HM := hide hm
  have hfew : m ≤ 1000000 := by rw [hm]; exact h.few
  clear h hf hv hao hao2 hm
  go_enter Tryz.func141, Tryz.ntmps141
  go_wp2_with fail
  refine H.out.mono ?_
  rintro e w' ⟨rfl, rfl⟩
  go_wp2
  go_loopg [14] m (fun q i wr => ∃ j : Nat, q + j = m ∧ i = .int .i64 j ∧ Hid (DiskAt wr k n size (stl size (fun i => lasts (K i) (A i) size) D W j) W ∧ w'.grownBy wr (some k.db)))
  case atStart => exact ⟨0, by omega, rfl, hide ⟨HD.out, grown_refl _ _⟩⟩
  case round =>
    obtain ⟨j, hkj, rfl, HR⟩ := hrel
    by_cases hk : 0 < gk
    · obtain ⟨x, hx⟩ : ∃ x, W[j]? = some x := ⟨_, List.getElem?_eq_getElem (by have := HM.out; omega)⟩
      obtain ⟨gw, rfl⟩ : ∃ gw, ao = some ⟨gw, 0, none⟩ := by
        cases ao with
        | none => have := HV.out.2.1 rfl; have := HM.out; omega
        | some a => exact ⟨a.block, by rw [← HV.out.2.2 a rfl]⟩
      obtain ⟨d1, d2⟩ := HR.out.1.wait_cells (by rw [HV.out.1]) hx
      have HX := hide hx
      have h1 : (0 : Int) ≤ (j : Int) := by omega
      have h2 : (j : Int) < (m : Int) := by omega
      unfold bsl at d2
      clear hx
      have HB := hide (And.intro HR.out.1 HR.out.2)
      obtain ⟨a1, a2, a3, a4⟩ := HR.out.1.waits x (List.mem_of_getElem? HX.out)
      have g0 := World.grownBy_alloc wr (.cells #[.int .i64 (x.sec : Int), .slice (some ⟨x.blk, 0, none⟩) size size] 269) none
      have D0 := HR.out.1.grown g0
      have G0 : w'.grownBy (wr.alloc (.cells #[.int .i64 (x.sec : Int), .slice (some ⟨x.blk, 0, none⟩) size size] 269)) (some k.db) := grown_trans HR.out.2 (grown_none g0 _)
      have b0 := cell_two wr (.int .i64 (x.sec : Int)) (.slice (some ⟨x.blk, 0, none⟩) size size) 269 0 _ rfl
      have b1 := cell_two wr (.int .i64 (x.sec : Int)) (.slice (some ⟨x.blk, 0, none⟩) size size) 269 1 _ rfl
      have b2 := D0.c1
      rw [Addr.add_lit] at b0 b1
      have hne : some wr.heap.size ≠ some k.db := fun e => by have := HR.out.1.lt k.db (.inl (.inr (.inl rfl))); have := Option.some.inj e; omega
      have hne2 : some k.d ≠ some k.db := fun e => HR.out.1.vw_ne.2.2.2.1 (Option.some.inj e)
      have hL := lasts_le (K j) (A j) size
      have HS : Hid (∀ w2, (wr.alloc (.cells #[.int .i64 (x.sec : Int), .slice (some ⟨x.blk, 0, none⟩) size size] 269)).grownBy w2 none → Calls Tryz.prog 137 #[.pointer (some ⟨k.d, 0, none⟩), .int .i64 (x.sec : Int)] w2 fun e w3 => e = .returned (.slice (some ⟨k.db, x.sec * size, none⟩) size (n * size - x.sec * size)) ∧ w2.grownBy w3 none) := fun w2 hg => (sector_any (D0.grown hg) x.sec a1).mono (by rintro e w3 ⟨rfl, q, rfl⟩; exact ⟨rfl, grown_drewN _ _ _⟩)
      have HC := hide (HF.out j (by have := HM.out; omega))
      have HLs := hide (lasting_any (K j) (A j) size)
      have hstep : stl size (fun i => lasts (K i) (A i) size) D W (j + 1) = splice (stl size (fun i => lasts (K i) (A i) size) D W j) (x.sec * size) (x.xs.take (lasts (K j) (A j) size)) := stl_step HX.out
      have hfit := HR.out.1.fits (List.mem_of_getElem? HX.out) (lasts (K j) (A j) size)
      have hsl := slice_to (some ⟨x.blk, 0, none⟩) size size (lasts (K j) (A j) size) hL
      have hlen := HR.out.1.len
      have hzl : (x.xs.take (lasts (K j) (A j) size)).length = lasts (K j) (A j) size := by simp [a2]; omega
      have hdur := D0.dur
      have hsrc : At (wr.alloc (.cells #[.int .i64 (x.sec : Int), .slice (some ⟨x.blk, 0, none⟩) size size] 269)) (some ⟨x.blk, 0, none⟩) (x.xs.take (lasts (K j) (A j) size)) := (at_row (g0.block _ (row_lt a4) (by simp) |>.trans a4)).take _
      have HA := hide (And.intro a3 (And.intro hfit (And.intro hlen (And.intro hzl (And.intro hdur (And.intro hsrc (And.intro hstep (And.intro D0 (And.intro G0 (And.intro hne hne2))))))))))
      clear a1 a2 a3 a4 g0 D0 G0 hne hne2 hstep hfit hlen hzl hdur hsrc
      generalize lasts (K j) (A j) size = L at *
      go_wp2_with fail
      generalize wr.alloc (.cells #[.int .i64 (x.sec : Int), .slice (some ⟨x.blk, 0, none⟩) size size] 269) = w0 at *
      have hS := And.intro b0 (And.intro b1 b2)
      clear b0 b1 b2
      have HSS : Hid (∀ w2 : World, w0.grownBy w2 (some k.db) → (w2.cell? ⟨wr.heap.size, 0 + 0, none⟩ = some (.int .i64 (x.sec : Int)) ∧ w2.cell? ⟨wr.heap.size, 0 + 1, none⟩ = some (.slice (some ⟨x.blk, 0, none⟩) size size) ∧ w2.cell? ⟨k.d, 1, none⟩ = some (.int .i64 (size : Int)))) := fun w2 hg => by
        obtain ⟨_, _, _, _, _, _, _, _, _, hne, hne2⟩ := HA.out
        exact ⟨hg.cell hS.1 hne, hg.cell hS.2.1 hne, hg.cell hS.2.2 hne2⟩
      have HCP : Hid (∀ w2 : World, w0.grownBy w2 none → w2.heap[k.db]? = some (.cells (bv (stl size (fun i => lasts (K i) (A i) size) D W j)).toArray 5 (0, 0)) ∧ (bv (x.xs.take L)).length = Nat.min L size ∧
          (0 < (bv (x.xs.take L)).length → ∃ ad, some (⟨x.blk, 0, none⟩ : Addr) = some ad ∧ ∀ j v, (bv (x.xs.take L))[j]? = some v → w2.cell? (ad.add j) = some v) ∧
          x.sec * size + (bv (x.xs.take L)).length ≤ (bv (stl size (fun i => lasts (K i) (A i) size) D W j)).length ∧ (∀ v ∈ bv (x.xs.take L), v.oneCell' = true)) := by
        intro w2 hg
        obtain ⟨_, b1, b2, b3, b4, b5, _⟩ := HA.out
        refine ⟨(hg.block _ (row_lt b4) (by simp)).trans b4, by rw [bv_length, b3]; exact (Nat.min_eq_left hL).symm, fun _ => ⟨_, rfl, ?_⟩, by rw [bv_length, bv_length, b2]; exact b1, ?_⟩
        · intro i v hv
          rw [bv, List.getElem?_map] at hv
          cases hj : (x.xs.take L)[i]? with
          | none => simp [hj] at hv
          | some y =>
            simp [hj] at hv
            obtain ⟨a', ea', hc'⟩ := (b5.grown hg) i y hj
            cases ea'
            rw [← hv]; exact hc'
        · intro v hv; rw [bv, List.mem_map] at hv; obtain ⟨y, _, rfl⟩ := hv; rfl
      have HG0 : Hid (w'.grownBy w0 (some k.db)) := HA.out.2.2.2.2.2.2.2.2.1
      have HST : Hid (∀ w5 : World, w5.heap[k.db]? = some (.cells (splice (bv (stl size (fun i => lasts (K i) (A i) size) D W j)) (x.sec * size) (bv (x.xs.take L))).toArray 5 (0, 0)) → w0.grownBy w5 (some k.db) → DiskAt w5 k n size (stl size (fun i => lasts (K i) (A i) size) D W (j + 1)) W ∧ w'.grownBy w5 (some k.db)) := by
        intro w5 h5 hg5
        obtain ⟨_, b1, b2, b3, b4, b5, b6, b7, b8, _⟩ := HA.out
        refine ⟨b7.setDur hg5 ?_ ?_, grown_trans b8 hg5⟩
        · rw [h5, b6, bv_splice]
        · rw [b6, length_splice _ _ _ (by rw [b2]; exact b1)]
      clear HA HR HB HX
      generalize bv (x.xs.take L) = XV at *
      generalize bv (stl size (fun i => lasts (K i) (A i) size) D W j) = DV at *
      generalize n * size - x.sec * size = cc at *
      generalize x.sec * size = off at *
      go_region_held3 (fun w' => w'.cell? ⟨wr.heap.size, 0 + 0, none⟩ = some (.int .i64 (x.sec : Int)) ∧ w'.cell? ⟨wr.heap.size, 0 + 1, none⟩ = some (.slice (some ⟨x.blk, 0, none⟩) size size) ∧ w'.cell? ⟨k.d, 1, none⟩ = some (.int .i64 (size : Int))) (first | assumption | go_keep) (first
        | (go_at_call 137; refine (HS.out _ (grown_drew _ _)).mono ?_; rintro e w2 ⟨rfl, hg2'⟩; have hg2 := grown_trans (grown_drew w0 none) hg2'; clear hg2'; have hS2 := HSS.out w2 (grown_none hg2 _))
        | (go_at_call 144; refine (HLs.out _).mono ?_; rintro e w4 ⟨rfl, hg4'⟩; have hg4 := grown_trans hg3 hg4'; clear hg4'; have hS4 := HSS.out w4 (grown_none hg4 _))
        | (have hgx := hg4; clear hgx; refine step_copy_grown rfl (.tmp 22) (.tmp 33) 39 39 rfl 5 Tryz.underlying39 Tryz.size5 (some ⟨k.db, off, none⟩) (some ⟨x.blk, 0, none⟩) size cc L size (by rfl) (by rfl) k.db off DV 5 (HCP.out _ hg4).1 XV (HCP.out _ hg4).2.1 (fun hp => ⟨rfl, (HCP.out _ hg4).2.2.1 hp⟩) (HCP.out _ hg4).2.2.2.1 (HCP.out _ hg4).2.2.2.2 ?_; intro w5 H5 hg5; have hg5' := grown_trans (grown_none hg4 _) hg5; have hS5 := HSS.out w5 hg5')
        | (go_at_call 142; refine (HC.out _ (grown_trans HG0.out (grown_none hg2 _))).mono ?_; rintro e w3 ⟨rfl, hg3'⟩; have hg3 := grown_trans hg2 hg3'; clear hg3'; have hS3 := HSS.out w3 (grown_none hg3 _)))
      have H6 := hide (HST.out w5 H5.out hg5')
      clear hS hS2 hS3 hS4 hS5 hg2 hg3 hg4 hg5 hg5' H5 HST HCP HSS HC HLs HS d1 d2 c3
      go_wp2
      go_roundg (gk - 1)
      case measure => omega
      case rel => exact ⟨j + 1, by omega, by go_num, H6⟩
    · have hj : j = m := by omega
      subst hj
      have c3r := HR.out.1.c3
      have c4r := HR.out.1.c4
      have hfr := HR.out.1.free 3
      have hne := HR.out.1.vw_ne
      have c4s : (wr.setCell ⟨k.d, 3, none⟩ (.slice none 0 0)).cell? ⟨k.d, 4, none⟩ = some (.map (some k.mb)) := (World.cell?_setCell_other _ _ _ _ (by simp)).trans c4r
      have hm : MapAt (wr.setCell ⟨k.d, 3, none⟩ (.slice none 0 0)) Tryz.prog 3 k.mb W.length (newest size W) := HR.out.1.map.same (Below.heap_setCell _ _ _ _ (show k.mb ≠ k.d from fun e => hne.2.2.2.2.1 e.symm))
      obtain ⟨w6, hrun, hm6, hg6⟩ := hm.clear (t := 121) (e := 39) Tryz.underlying121 0
      have H6 := hide (And.intro hm6 hg6)
      rw [HV.out.1, ← HM.out] at c3r
      clear hm hm6 hg6 c4r hne c3 hkj hk
      go_wp2
      go_ret
      refine ⟨rfl, ?_⟩
      rw [← HM.out]
      exact settled_of HR.out.1 HR.out.2 H6.out.1 H6.out.2
end
end Go.Proofs.YtonokaelbpfjnabGreatDoor
/- The contracts of Sync and Crash. -/
namespace Go.Proofs.YtonokaelbpfjnabGreatDoor
open Go.RowKit Ap
attribute [local go_sem ↓] Go.wp_at_zero Go.wp_at_succ

/-- Fates (their kind, their place) lie there. -/
def FatesAt (w : World) (fo : Option Addr) (F : List (Int × Int)) : Prop := ∀ j p, F[j]? = some p → ∃ b o, fo = some ⟨b, o, none⟩ ∧ w.cell? ⟨b, o + j * 2, none⟩ = some (.int .i64 p.1) ∧ w.cell? ⟨b, o + j * 2 + 1, none⟩ = some (.int .i64 p.2)
theorem FatesAt.kept {w w' : World} {fo : Option Addr} {F : List (Int × Int)} {row : Option Nat} (h : FatesAt w fo F) (hg : w.grownBy w' row) (hr : ∀ a, fo = some a → some a.block ≠ row) : FatesAt w' fo F := by
  intro j p hj
  obtain ⟨b, o, e, h1, h2⟩ := h j p hj
  have hb : some b ≠ row := hr ⟨b, o, none⟩ e
  exact ⟨b, o, e, hg.cell h1 hb, hg.cell h2 hb⟩
theorem FatesAt.grown {w w' : World} {fo : Option Addr} {F : List (Int × Int)} (h : FatesAt w fo F) (hg : w.grownBy w' none) : FatesAt w' fo F := h.kept hg (by simp)
/-- The fate of the i-th. -/
def fateK (F : List (Int × Int)) (i : Nat) : Int := (F[i]?.getD (0, 0)).1
def fateA (F : List (Int × Int)) (i : Nat) : Int := (F[i]?.getD (0, 0)).2

set_option maxHeartbeats 1000000 in
theorem keep_any (i : Nat) (w : World) : Calls Tryz.prog 142 #[.int .i64 (i : Int)] w fun e w' => e = .returned (.agg #[.int .i64 1, .int .i64 0]) ∧ w.grownBy w' none := by
  go_enter Tryz.func142, Tryz.ntmps142
  go_wp2
  refine bodyPost_ret (results_cell_row rfl _ _ w.heap.size 198 #[.int .i64 1, .int .i64 0] (0, 0) _ rfl (heap_alloc_new w _) Tryz.underlying198 rfl (by kernel_rfl)) rfl ?_
  exact ⟨rfl, World.grownBy_alloc w _ none⟩
section
variable {w : World} {k : Dk} {n size : Nat} {D : List Nat} {W : List Wt}
/-- A disk on which nothing waits any more. -/
def Dk.calm (k : Dk) : Dk := ⟨k.d, k.db, .slice none 0 0, k.mb⟩
set_option maxHeartbeats 400000 in
theorem sync_none (p : Option Addr) (w : World) (h : NoDisk w p) : Calls Tryz.prog 133 #[.pointer p] w fun e w' => e = .returned (.int .i64 1) ∧ w' = w := by
  have H := hide (fun v => settle_none p v w h)
  clear h
  go_enter Tryz.func133, Tryz.ntmps133
  go_wp2_with fail
  refine (H.out _).mono ?_
  rintro e w' ⟨rfl, rfl⟩
  go_wp2
  go_ret
  exact ⟨rfl, rfl⟩
set_option maxHeartbeats 400000 in
theorem sync_any (h : DiskAt w k n size D W) : Calls Tryz.prog 133 #[.pointer (some ⟨k.d, 0, none⟩)] w fun e w' => e = .returned (.int .i64 0) ∧
    DiskAt w' k.calm n size (stl size (fun _ => size) D W W.length) [] ∧ Kept w w' (fun i => i = k.d ∨ i = k.db ∨ i = k.mb) := by
  have H := hide (settle57 (fun _ => 1) (fun _ => 0) h (fun i _ w' _ => keep_any i w'))
  clear h
  go_enter Tryz.func133, Tryz.ntmps133
  go_wp2_with fail
  refine H.out.mono ?_
  rintro e w' ⟨rfl, h1, h2⟩
  have HH := hide (And.intro h1 h2)
  clear h1 h2
  go_wp2
  go_ret
  exact ⟨rfl, HH.out⟩
end
end Go.Proofs.YtonokaelbpfjnabGreatDoor
/- The contracts of SameBytes, SameRows, fill, Pick. -/
namespace Go.Proofs.YtonokaelbpfjnabGreatDoor
open Go.RowKit Ap
attribute [local go_sem ↓] Go.wp_at_zero Go.wp_at_succ

theorem drews (w : World) (p q : Nat) : ∃ r, (w.drewN p).drewN q = w.drewN r := ⟨p + q, World.drewN_drewN ..⟩
set_option maxHeartbeats 1000000 in
theorem sameBytes_eq (ao bo : Option Addr) (n c d : Nat) (xs : List Nat) (w : World) (hn : xs.length = n) (ha : At w ao xs) (hb : At w bo xs) (hm : n ≤ 4611686018427387904) :
    Calls Tryz.prog 13 #[.slice ao n c, .slice bo n d] w fun e w' => e = .returned (.bool true) ∧ ∃ q, w' = w.drewN q := by
  have HA := hide (And.intro hn (And.intro ha hb))
  clear hn ha hb
  go_enter Tryz.func13, Tryz.ntmps13
  go_wp2
  go_loopg [5] n (fun k i wr => ∃ j : Nat, k + j = n ∧ i = .int .i64 j ∧ Hid (∃ q, wr = w.drewN q))
  case atStart => exact ⟨0, by omega, rfl, hide ⟨0, rfl⟩⟩
  case round =>
    obtain ⟨j, hkj, rfl, HQ⟩ := hrel
    by_cases hk : 0 < gk
    · obtain ⟨hn, ha, hb⟩ := HA.out
      have hj : j < xs.length := by omega
      obtain ⟨a, rfl, hca⟩ := ha j xs[j] (by simp [hj])
      obtain ⟨b, rfl, hcb⟩ := hb j xs[j] (by simp [hj])
      have hca' : wr.cell? (a.add j) = some (.int .u8 (xs[j] : Int)) := by obtain ⟨q, rfl⟩ := HQ.out; exact hca
      have hcb' : wr.cell? (b.add j) = some (.int .u8 (xs[j] : Int)) := by obtain ⟨q, rfl⟩ := HQ.out; exact hcb
      have h1 : (0 : Int) ≤ (j : Int) := by omega
      have h2 : (j : Int) < (n : Int) := by omega
      generalize xs[j] = x at *
      clear hn ha hb hca hcb hj
      go_wp2
      go_region_held3 (fun w' => w'.cell? (a.add j) = some (.int .u8 (x : Int)) ∧ w'.cell? (b.add j) = some (.int .u8 (x : Int))) (go_keep) (fail)
      go_wp2
      go_roundg (gk - 1)
      case measure => omega
      case rel => exact ⟨j + 1, by omega, by go_num, hide (by obtain ⟨q, rfl⟩ := HQ.out; exact ⟨q + 1, rfl⟩)⟩
    · have hj : j = n := by omega
      subst hj
      go_wp2
      go_ret
      exact ⟨rfl, HQ.out⟩

/-- Rows of bytes: the slices' values lie there, and each row's bytes. -/
def RowsAt (w : World) (ro : Option Addr) (R : List (List Nat)) : Prop := ∀ j xs, R[j]? = some xs → ∃ b o ao cap, ro = some ⟨b, o, none⟩ ∧ w.cell? ⟨b, o + j, none⟩ = some (.slice ao xs.length cap) ∧ At w ao xs ∧ xs.length ≤ 4611686018427387904
theorem RowsAt.drew {w : World} {ro : Option Addr} {R : List (List Nat)} (h : RowsAt w ro R) (q : Nat) : RowsAt (w.drewN q) ro R := h
theorem RowsAt.grown {w w' : World} {ro : Option Addr} {R : List (List Nat)} (h : RowsAt w ro R) (hg : w.grownBy w' none) : RowsAt w' ro R := by
  intro j xs hj
  obtain ⟨b, o, ao, cap, h1, h2, h3, h4⟩ := h j xs hj
  exact ⟨b, o, ao, cap, h1, hg.cell h2 (by simp), h3.grown hg, h4⟩
theorem tmod_neg (x : Int) (n : Nat) (hn : 1 ≤ n) (h : x.tmod (n : Int) < 0) : x.tmod (n : Int) + (n : Int) = x % (n : Int) := by
  have h1 := Int.tmod_eq_emod (a := x) (b := (n : Int))
  have h2 := Int.emod_nonneg x (show (n : Int) ≠ 0 by omega)
  have h3 := Int.emod_lt_of_pos x (show (0 : Int) < (n : Int) by omega)
  rw [h1] at h ⊢
  split at h
  · omega
  · rename_i h4
    rw [if_neg h4]
    simp
theorem tmod_nonneg (x : Int) (n : Nat) (hn : 1 ≤ n) (h : 0 ≤ x.tmod (n : Int)) : x.tmod (n : Int) = x % (n : Int) := by
  have h1 := Int.tmod_eq_emod (a := x) (b := (n : Int))
  have h2 := Int.emod_nonneg x (show (n : Int) ≠ 0 by omega)
  have h3 := Int.emod_lt_of_pos x (show (0 : Int) < (n : Int) by omega)
  rw [h1] at h ⊢
  split
  · omega
  · rename_i h4
    rw [if_neg h4] at h
    simp at h
    omega

set_option maxHeartbeats 400000 in
theorem pick_any (x N : Int) (n : Nat) (w : World) (hN : N = (n : Int)) (hn : 1 ≤ n) (hn2 : n ≤ 65536) :
    Calls Tryz.prog 8 #[.int .i64 x, .int .i64 N] w fun e w' => e = .returned (.int .i64 (x % (n : Int))) ∧ w' = w := by
  subst hN
  have h1 : (1 : Int) ≤ (n : Int) := by omega
  have h2 : ((n : Int) == 0) = false := by simp; omega
  have hb := Int.tmod_lt_of_pos x (show (0 : Int) < (n : Int) by omega)
  have hb2 := Int.lt_tmod_of_pos x (show (0 : Int) < (n : Int) by omega)
  have hr1 := tmod_neg x n hn
  have hr2 := tmod_nonneg x n hn
  by_cases hs : x.tmod (n : Int) < 0
  · have hr := hr1 hs
    have HR := hide hr
    clear hr hr1 hr2
    go_enter Tryz.func8, Tryz.ntmps8
    go_wp2
    go_ret
    exact ⟨by rw [← HR.out]; rfl, rfl⟩
  · have hs2 : 0 ≤ x.tmod (n : Int) := by omega
    have hr := hr2 hs2
    have HR := hide hr
    clear hr hr1 hr2
    go_enter Tryz.func8, Tryz.ntmps8
    go_wp2
    go_ret
    exact ⟨by rw [← HR.out]; rfl, rfl⟩


/-- What a number fills. -/
def fillB (a : Int) (j : Nat) : Nat := (wrap64 (a + wrap64 ((j : Int) * a.tmod 5)) % 256).toNat
theorem fillB_cast (a : Int) (j : Nat) : wrap64 (a + wrap64 ((j : Int) * a.tmod 5)) % 256 = ((fillB a j : Nat) : Int) := by unfold fillB; omega
def fills (a : Int) (n : Nat) : List Nat := (List.range n).map (fillB a)
theorem fills_length (a : Int) (n : Nat) : (fills a n).length = n := by simp [fills]
def rowF (a : Int) (n j : Nat) : List Nat := fills a j ++ zs (n - j)
theorem rowF_get (a : Int) (n j : Nat) (h : j < n) : (rowF a n j)[j]? = some 0 := by
  rw [rowF, List.getElem?_append_right (by simp [fills_length]), fills_length, Nat.sub_self, zs, List.getElem?_replicate, if_pos (by omega)]
theorem rowF_set (a : Int) (n j : Nat) (h : j < n) : (rowF a n j).set j (fillB a j) = rowF a n (j + 1) := by
  have e : n - j = (n - (j + 1)) + 1 := by omega
  rw [rowF, rowF, List.set_append, fills_length, if_neg (by omega), Nat.sub_self, e, zs, List.replicate_succ, List.set_cons_zero, zs]
  unfold fills
  rw [List.range_succ, List.map_append, List.append_assoc]
  rfl
end Go.Proofs.YtonokaelbpfjnabGreatDoor
/- Sectors behind writes: plain lemmas. -/
namespace Go.Proofs.YtonokaelbpfjnabGreatDoor
open Go.RowKit Ap

theorem splice_get (D ys : List Nat) (off i : Nat) (h : off + ys.length ≤ D.length) : (splice D off ys)[i]? = if off ≤ i ∧ i < off + ys.length then ys[i - off]? else D[i]? := by
  unfold splice
  by_cases h1 : i < off
  · rw [if_neg (by omega), List.getElem?_append_left (by simp; omega), List.getElem?_take, if_pos h1]
  · rw [List.getElem?_append_right (by simp; omega)]
    simp only [List.length_take]
    rw [show i - min off D.length = i - off by omega]
    by_cases h2 : i < off + ys.length
    · rw [if_pos (by omega), List.getElem?_append_left (by omega)]
    · rw [if_neg (by omega), List.getElem?_append_right (by omega), List.getElem?_drop]
      congr 1; omega
theorem secOf_get (size : Nat) (D : List Nat) (s i : Nat) : (secOf size D s)[i]? = if i < size then D[s * size + i]? else none := by
  simp [secOf, List.getElem?_take, List.getElem?_drop]
/-- Bytes over the first ones of others. -/
def over (ys old : List Nat) : List Nat := ys ++ old.drop ys.length
theorem over_get (ys old : List Nat) (i : Nat) : (over ys old)[i]? = if i < ys.length then ys[i]? else old[i]? := by
  unfold over
  by_cases h : i < ys.length
  · rw [if_pos h, List.getElem?_append_left h]
  · rw [if_neg h, List.getElem?_append_right (by omega), List.getElem?_drop]; congr 1; omega
theorem over_length (ys old : List Nat) (h : ys.length ≤ old.length) : (over ys old).length = old.length := by simp [over]; omega
theorem secOf_splice_same {n size s : Nat} {D ys : List Nat} (hD : D.length = n * size) (hs : s < n) (hy : ys.length ≤ size) : secOf size (splice D (s * size) ys) s = over ys (secOf size D s) := by
  have hle : (s + 1) * size ≤ n * size := Nat.mul_le_mul_right _ hs
  rw [Nat.succ_mul] at hle
  apply List.ext_getElem?
  intro i
  rw [secOf_get, over_get, secOf_get, splice_get _ _ _ _ (by omega)]
  by_cases h : i < ys.length
  · rw [if_pos (by omega), if_pos (by omega), if_pos h]; congr 1; omega
  · rw [if_neg h]
    by_cases h2 : i < size
    · rw [if_pos h2, if_neg (by omega), if_pos h2]
    · rw [if_neg h2, if_neg h2]
theorem mul_far {s t size : Nat} (h : s ≠ t) : (s + 1) * size ≤ t * size ∨ (t + 1) * size ≤ s * size := by
  rcases Nat.lt_or_gt_of_ne h with h | h
  · exact Or.inl (Nat.mul_le_mul_right _ h)
  · exact Or.inr (Nat.mul_le_mul_right _ h)
theorem secOf_splice_other {n size s t : Nat} {D ys : List Nat} (hD : D.length = n * size) (hs : s < n) (hy : ys.length ≤ size) (hne : s ≠ t) : secOf size (splice D (s * size) ys) t = secOf size D t := by
  have hle : (s + 1) * size ≤ n * size := Nat.mul_le_mul_right _ hs
  have hf := mul_far (size := size) hne
  rw [Nat.succ_mul] at hle
  rw [Nat.succ_mul, Nat.succ_mul] at hf
  apply List.ext_getElem?
  intro i
  rw [secOf_get, secOf_get, splice_get _ _ _ _ (by omega)]
  by_cases h2 : i < size
  · rw [if_pos h2, if_pos h2, if_neg (by omega)]
  · rw [if_neg h2, if_neg h2]
/-- One sector behind the first j writes. -/
def stlS (L : Nat → Nat) (W : List Wt) (s : Nat) (old : List Nat) : Nat → List Nat
  | 0 => old
  | j + 1 => match W[j]? with
    | some x => if x.sec = s then over (x.xs.take (L j)) (stlS L W s old j) else stlS L W s old j
    | none => stlS L W s old j
/-- The writes fit the disk. -/
def Fits (n size : Nat) (W : List Wt) : Prop := ∀ x ∈ W, x.sec < n ∧ x.xs.length = size
theorem DiskAt.fitsW {w : World} {k : Dk} {n size : Nat} {D : List Nat} {W : List Wt} (h : DiskAt w k n size D W) : Fits n size W := fun x hx => ⟨(h.waits x hx).1, (h.waits x hx).2.1⟩
theorem stl_length {n size : Nat} {L : Nat → Nat} {D : List Nat} {W : List Wt} (hD : D.length = n * size) (hW : Fits n size W) (j : Nat) : (stl size L D W j).length = n * size := by
  induction j with
  | zero => exact hD
  | succ j ih =>
    rw [stl]
    split
    · rename_i x hx
      obtain ⟨h1, h2⟩ := hW x (List.mem_of_getElem? hx)
      have hle : (x.sec + 1) * size ≤ n * size := Nat.mul_le_mul_right _ h1
      rw [Nat.succ_mul] at hle
      rw [length_splice _ _ _ (by rw [ih, List.length_take]; omega), ih]
    · exact ih
theorem secOf_stl {n size : Nat} {L : Nat → Nat} {D : List Nat} {W : List Wt} (hD : D.length = n * size) (hW : Fits n size W) (s : Nat) (j : Nat) : secOf size (stl size L D W j) s = stlS L W s (secOf size D s) j := by
  induction j with
  | zero => rfl
  | succ j ih =>
    rw [stl, stlS]
    cases hx : W[j]? with
    | none => exact ih
    | some x =>
      obtain ⟨h1, h2⟩ := hW x (List.mem_of_getElem? hx)
      show secOf size (splice (stl size L D W j) (x.sec * size) (x.xs.take (L j))) s = if x.sec = s then over (x.xs.take (L j)) (stlS L W s (secOf size D s) j) else stlS L W s (secOf size D s) j
      by_cases hs : x.sec = s
      · rw [if_pos hs, ← hs, secOf_splice_same (stl_length hD hW j) h1 (by simp [h2]; omega), hs, ih]
      · rw [if_neg hs, secOf_splice_other (stl_length hD hW j) h1 (by simp [h2]; omega) hs, ih]
theorem zs_sec (n size s : Nat) (h : s < n) : secOf size (zs (n * size)) s = zs size := by
  have hle : (s + 1) * size ≤ n * size := Nat.mul_le_mul_right _ h
  rw [Nat.succ_mul] at hle
  simp [secOf, zs, List.drop_replicate, List.take_replicate]; omega
/-- All sectors. -/
def secs (n size : Nat) (D : List Nat) : List (List Nat) := (List.range n).map (secOf size D)
theorem secs_length (n size : Nat) (D : List Nat) : (secs n size D).length = n := by simp [secs]
theorem secs_get (n size : Nat) (D : List Nat) (s : Nat) (h : s < n) : (secs n size D)[s]? = some (secOf size D s) := by simp [secs, h]
/-- A row of bytes in a block of its own: some bytes of it. -/
theorem at_drop {w : World} {A : Nat} {xs : List Nat} {t : TypeId} {fr : Nat × Nat} (h : w.heap[A]? = some (.cells (bv xs).toArray t fr)) (o : Nat) : At w (some ⟨A, o, none⟩) (xs.drop o) := by
  intro j u hu
  refine ⟨_, rfl, ?_⟩
  rw [List.getElem?_drop] at hu
  rw [Addr.add_lit, cell_row h]
  exact bv_get xs _ u hu
end Go.Proofs.YtonokaelbpfjnabGreatDoor
