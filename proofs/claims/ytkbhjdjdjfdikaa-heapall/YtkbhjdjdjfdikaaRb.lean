/- The document's heap: Get, Set, Push, Drop. -/
import Derived.Test.YtkbhjdjdjfdikaaRa
namespace Go.Proofs.Ytkbhjdjdjfdikaa
open Go.RowKit Ap Go.Shelf
attribute [local go_sem ↓] Go.wp_at_zero Go.wp_at_succ
/-- What a step leaves of the document's heap: the same head, a row that is its old one or a new one. -/
structure Rst (w w' : World) (r : Nat) (vl vl' : Value) : Prop where
  kept : Kept w w' (fun j => j = r ∨ vl.ownBlock = some j)
  own : ∀ g, vl'.ownBlock = some g → vl.ownBlock = some g ∨ w.heap.size ≤ g
theorem Rst.refl (w : World) (r : Nat) (vl : Value) : Rst w w r vl vl := ⟨Kept.refl _ _, fun _ e => .inl e⟩
theorem Rst.from {w w1 w' : World} {r : Nat} {vl vl' : Value} (g : w.grownBy w1 none) (h : Rst w1 w' r vl vl') : Rst w w' r vl vl' :=
  ⟨(Kept.new g _).trans h.kept (fun _ _ e => e), fun q hq => (h.own q hq).imp id (fun e => Nat.le_trans g.size e)⟩
theorem slice_to (g i n cap : Nat) (hi : i ≤ cap) (w : World) : (Instr.slice 35 (.slice (some ⟨g, 0, none⟩) n cap) none (some (.int .i64 (i : Int))) none).run Try.prog w = .ok (.slice (some ⟨g, 0, none⟩) i cap) w := by
  simp [Instr.slice, run_underlying Try.underlying35, Instr.sliceBounds, Instr.sliceBound, asIntOf]
  rw [if_pos hi]
  simp [Addr.add]
theorem slice_from (g i n cap : Nat) (hi : i ≤ n) (_hn : n ≤ cap) (w : World) : (Instr.slice 35 (.slice (some ⟨g, 0, none⟩) n cap) (some (.int .i64 (i : Int))) none none).run Try.prog w = .ok (.slice (some ⟨g, if cap = i then 0 else i * 2, none⟩) (n - i) (cap - i)) w := by
  simp [Instr.slice, run_underlying Try.underlying35, Instr.sliceBounds, Instr.sliceBound, asIntOf]
  rw [if_pos hi]
  split
  · rfl
  · simp [Addr.add]
    try omega
section
variable {w w' : World} {B0 r : Nat} {kd : Int} {vl : Value} {X : List (Nat × Int)} {N : Nat}
set_option maxRecDepth 20000 in
theorem rget_at (h : RfAt w B0 r kd vl X N) (hX : X.length ≤ 65536) (hd : Hds X N) (x : Int) : Calls Try.prog 37 #[.pointer (some ⟨r, 0, none⟩), .int .i64 x] w fun e w' => e = .returned (.tuple #[.int .i64 ((fi X x).elim 0 fun i => (en X i).2), .bool (fi X x).isSome]) ∧ w' = w := by
  have hp := place_at h hX hd x
  obtain ⟨-, c1, -⟩ := h.cells
  cases hf : fi X x with
  | none =>
    rw [hf] at hp
    simp only [Option.elim] at hp ⊢
    clear hf
    go_enter Try.func37, Try.ntmps37
    go_wp2_with fail
    refine hp.mono ?_
    rintro e wz ⟨rfl, hwz⟩
    obtain rfl := hwz.symm
    go_wp2
    go_ret2
    exact ⟨rfl, rfl⟩
  | some i =>
    obtain ⟨hi, -⟩ := fi_lt hf
    rw [hf] at hp
    simp only [Option.elim] at hp ⊢
    obtain ⟨g, cap, cur, rfl, hb, hg, hn, ht⟩ := own_rowC h.row (by omega)
    have a1 := own_cell hg ht (ecells_get hi).2
    have hd1 : ((i : Int) < 0) = False := by simp
    have hd2 : ((i : Int) < (X.length : Int)) = True := by simp; omega
    have HH := hide h
    clear hf hg ht hb h
    generalize (en X i).2 = y at *
    go_enter Try.func37, Try.ntmps37
    go_wp2_with fail
    refine hp.mono ?_
    rintro e wz ⟨rfl, hwz⟩
    obtain rfl := hwz.symm
    go_wp2
    go_ret2
    exact ⟨rfl, rfl⟩
theorem ecells_setV (X : List (Nat × Int)) (i : Nat) (v : Int) : ecells (setI X i v) = (ecells X).set (i * 2 + 1) (.int .i64 v) := by
  unfold setI
  induction X generalizing i with
  | nil => simp [ecells]
  | cons y s ih =>
    have e1 : ∀ (z : Nat × Int) (t : List (Nat × Int)), ecells (z :: t) = .int .i64 (z.1 : Int) :: .int .i64 z.2 :: ecells t := fun z t => by simp [ecells]
    cases i with
    | zero => rw [List.set_cons_zero, e1, e1]; simp [en]
    | succ i =>
      have e2 : en (y :: s) (i + 1) = en s i := by simp [en]
      rw [List.set_cons_succ, e1, e1, e2, ih i, show (i + 1) * 2 + 1 = i * 2 + 1 + 1 + 1 by omega]; rfl
set_option maxRecDepth 20000 in
theorem rset_at (h : RfAt w B0 r kd vl X N) (hX : X.length ≤ 65536) (hd : Hds X N) (x v : Int) : Calls Try.prog 35 #[.pointer (some ⟨r, 0, none⟩), .int .i64 x, .int .i64 v] w fun e w' => e = .returned (.bool (fi X x).isSome) ∧ RfAt w' B0 r kd vl ((fi X x).elim X fun i => setI X i v) N ∧ Rst w w' r vl vl := by
  have hp := place_at h hX hd x
  obtain ⟨-, c1, -⟩ := h.cells
  cases hf : fi X x with
  | none =>
    rw [hf] at hp
    simp only [Option.elim] at hp ⊢
    have HH := hide h
    clear hf h
    go_enter Try.func35, Try.ntmps35
    go_wp2_with fail
    refine hp.mono ?_
    rintro e wz ⟨rfl, hwz⟩
    obtain rfl := hwz.symm
    go_wp2
    go_ret
    exact ⟨rfl, HH.out, Rst.refl _ _ _⟩
  | some i =>
    obtain ⟨hi, -⟩ := fi_lt hf
    rw [hf] at hp
    simp only [Option.elim] at hp ⊢
    obtain ⟨g, cap, cur, rfl, hb, hg, hn, ht⟩ := own_rowC h.row (by omega)
    have a1 := own_cell hg ht (ecells_get hi).2
    have f1 : w.frozen? ⟨g, i * 2 + 1, none⟩ = false := free_row hg _
    have hd1 : ((i : Int) < 0) = False := by simp
    have hd2 : ((i : Int) < (X.length : Int)) = True := by simp; omega
    have hgr : g ≠ r := fun e => by rw [e, h.head] at hg; simp at hg
    have gs := grown_setCell w g (i * 2 + 1) (.int .i64 v)
    have k1 : Kept w (w.setCell ⟨g, i * 2 + 1, none⟩ (.int .i64 v)) (fun j => j = g) := Kept.of gs (fun j e _ => by simpa using e.symm)
    have HN : Hid (RfAt (w.setCell ⟨g, i * 2 + 1, none⟩ (.int .i64 v)) B0 r kd (.slice (some ⟨g, 0, none⟩) X.length cap) (setI X i v) N ∧ Rst w (w.setCell ⟨g, i * 2 + 1, none⟩ (.int .i64 v)) r (.slice (some ⟨g, 0, none⟩) X.length cap) (.slice (some ⟨g, 0, none⟩) X.length cap)) := by
      refine ⟨⟨k1.at h.head (fun e => hgr e.symm), ?_, h.base⟩, ⟨k1.mono (fun j _ e => .inr (by rw [e]; rfl)), fun _ e => .inl e⟩⟩
      rcases h.row.2 with ⟨h1, h0⟩ | ⟨g2, cap2, cur2, hv2, hb2, hg2, hn2, hm2, hs2, ht2⟩
      · cases h1
      · cases hv2
        have hg2' : w.heap[g]? = some (.cells cur2.toList.toArray 50 (0, 0)) := by simpa using hg2
        refine ⟨by rw [ecells_length], Or.inr ⟨g, cap, (cur2.toList.set (i * 2 + 1) (.int .i64 v)).toArray, by rw [setI_length], hb2, row_setCell hg2' _ _, by rw [setI_length]; exact hn2, hm2, by simpa using hs2, ?_⟩⟩
        rw [ecells_setV, ← ht2, setI_length]
        simp [List.take_set]
    clear hf hg ht hb h gs k1 hgr
    go_enter Try.func35, Try.ntmps35
    go_wp2_with fail
    refine hp.mono ?_
    rintro e wz ⟨rfl, hwz⟩
    obtain rfl := hwz.symm
    go_wp2
    go_ret
    exact ⟨rfl, HN.out.1, HN.out.2⟩
theorem info50 : (Try.prog.info? 50).map (fun i => (i.zero, i.size, i.bytes)) = some (some (.agg #[.int .i64 0, .int .i64 0]), 2, 16) := by kernel_rfl
theorem RfAt.ne (h : RfAt w B0 r kd vl X N) {g : Nat} (hg : vl.ownBlock = some g) : g ≠ r := fun e => by
  obtain ⟨_, cur, hc⟩ := own_blockC h.row hg
  rw [e, h.head] at hc
  simp at hc
/-- The head written anew over a row that came in the old one's stead. -/
theorem RfAt.head2 (h : RfAt w B0 r kd vl X N) {w1 : World} {vl' : Value} {X' : List (Nat × Int)} (g1 : w.grownBy w1 vl.ownBlock) (ho : w1.ownsRow B0 50 2 vl' X'.length (ecells X')) (hown : ∀ g, vl'.ownBlock = some g → vl.ownBlock = some g ∨ w.heap.size ≤ g) (N' : Nat) :
    w1.heap[r]? = some (.cells [Value.int .i64 kd, vl, .int .i64 (N : Int)].toArray 37 (0, 0)) ∧ RfAt ((w1.setCell ⟨r, 1, none⟩ vl').setCell ⟨r, 2, none⟩ (.int .i64 (N' : Int))) B0 r kd vl' X' N' ∧ Rst w ((w1.setCell ⟨r, 1, none⟩ vl').setCell ⟨r, 2, none⟩ (.int .i64 (N' : Int))) r vl vl' ∧ RfAt (w1.setCell ⟨r, 1, none⟩ vl') B0 r kd vl' X' N ∧ Rst w (w1.setCell ⟨r, 1, none⟩ vl') r vl vl' := by
  have hr := row_lt h.head
  have hh : w1.heap[r]? = some (.cells [Value.int .i64 kd, vl, .int .i64 (N : Int)].toArray 37 (0, 0)) := (g1.block r hr (fun e => h.ne e.symm rfl)).trans h.head
  have hn : ∀ g, vl'.ownBlock = some g → g ≠ r := fun g hg e => by
    obtain ⟨_, cur, hc⟩ := own_blockC ho hg
    rw [e, hh] at hc
    simp at hc
  have k0 : Kept w w1 (fun j => j = r ∨ vl.ownBlock = some j) := Kept.of g1 (fun j e _ => .inr e)
  have s1 := grown_setCell w1 r 1 vl'
  have s2 := grown_setCell (w1.setCell ⟨r, 1, none⟩ vl') r 2 (.int .i64 (N' : Int))
  have k1 : Kept w (w1.setCell ⟨r, 1, none⟩ vl') (fun j => j = r ∨ vl.ownBlock = some j) := k0.trans (Kept.of s1 (S := fun j => j = r) (fun j e _ => by simpa using e.symm)) (fun j _ e => .inl e)
  have k2 : Kept w ((w1.setCell ⟨r, 1, none⟩ vl').setCell ⟨r, 2, none⟩ (.int .i64 (N' : Int))) (fun j => j = r ∨ vl.ownBlock = some j) := k1.trans (Kept.of s2 (S := fun j => j = r) (fun j e _ => by simpa using e.symm)) (fun j _ e => .inl e)
  have r1 : (w1.setCell ⟨r, 1, none⟩ vl').ownsRow B0 50 2 vl' X'.length (ecells X') := row_keepC ho (fun g hg => by
    obtain ⟨_, cur, hc⟩ := own_blockC ho hg
    exact s1.block g (row_lt hc) (fun e => hn g hg (by simpa using e)))
  have r2 : ((w1.setCell ⟨r, 1, none⟩ vl').setCell ⟨r, 2, none⟩ (.int .i64 (N' : Int))).ownsRow B0 50 2 vl' X'.length (ecells X') := row_keepC r1 (fun g hg => by
    obtain ⟨_, cur, hc⟩ := own_blockC r1 hg
    exact s2.block g (row_lt hc) (fun e => hn g hg (by simpa using e)))
  exact ⟨hh, ⟨row_setCell (row_setCell hh 1 vl') 2 _, r2, h.base⟩, ⟨k2, hown⟩, ⟨row_setCell hh 1 vl', r1, h.base⟩, ⟨k1, hown⟩⟩
set_option maxRecDepth 20000 in
theorem rpush_at (h : RfAt w B0 r kd vl X N) (hX : X.length < 65536) (hN : N ≤ 100000000) (hB : B0 ≤ w.heap.size) (v : Int) : Calls Try.prog 33 #[.pointer (some ⟨r, 0, none⟩), .int .i64 v] w fun e w' => e = .returned (.tuple #[.int .i64 (N : Int), .int .i64 0]) ∧ ∃ vl', RfAt w' B0 r kd vl' (X ++ [(N, v)]) (N + 1) ∧ Rst w w' r vl vl' := by
  obtain ⟨-, c1, c2⟩ := h.cells
  obtain ⟨vo, cap, rfl, hcap⟩ := own_formA h.row
  obtain ⟨i0, hi0, hz0, hz1, hz2⟩ := info_parts info50
  have HI0 := hide (And.intro hi0 (And.intro hz0 (And.intro hz1 hz2)))
  have ga := World.grownBy_alloc w (.cells #[.int .i64 (N : Int), .int .i64 v] 50) none
  have h1 := h.grown ga
  have HH := hide (And.intro h1 (And.intro ga (And.intro h hB)))
  have hd1 : ((65536 : Int) ≤ (X.length : Int)) = False := by simp; omega
  have hsz := ga.size
  clear hi0 hz0 hz1 hz2 ga h1 h
  go_enter Try.func33, Try.ntmps33
  go_wp2_with (at_builtin; refine wpList_append_own_at _ rfl (.tmp 21) (.tmp 25) 35 rfl B0 50 i0 (.agg #[.int .i64 0, .int .i64 0]) 2 16 Try.underlying35 HI0.out.1 HI0.out.2.1 HI0.out.2.2.1 HI0.out.2.2.2 rfl (by decide) (.slice vo X.length cap) X.length (ecells X) rfl HH.out.1.row ⟨w.heap.size, 0, none⟩ 1 1 [.int .i64 (N : Int), .int .i64 v] rfl rfl (cell2_new _ _ _ _) (by simp [Value.oneCell']) (by unfold maxLen; omega) (by omega) (by omega) ?_)
  intro v2 w2 ho hg hv hb
  clear hv
  obtain ⟨vo2, cap2, rfl, -⟩ := own_formA ho
  have hX' : (X ++ [(N, v)]).length = X.length + 1 := by simp
  have hH := HH.out.1.head2 hg (X' := X ++ [(N, v)]) (by rw [hX', ecells_snoc]; exact ho) (fun g e => by
    rcases hb with hb | hb
    · rw [hb] at e; exact .inl e
    · rw [hb] at e; cases e; exact .inr (by rw [World.size_alloc]; exact Nat.le_refl _)) (N + 1)
  have b1 := cell_row hH.1 1
  have b2 := cell_row hH.1 2
  simp at b1 b2
  have f1 : w2.frozen? ⟨r, 1, none⟩ = false := free_row hH.1 1
  have f2 : w2.frozen? ⟨r, 2, none⟩ = false := free_row hH.1 2
  have H2 := hide (And.intro hH.2.1 (hH.2.2.1.from HH.out.2.1))
  have hw1 : IntKind.i64.wrap ((N : Int) + 1) = (N : Int) + 1 := by rw [IntKind.wrap_i64]; omega
  clear hH hg ho hb hX' c1 c2
  go_wp2
  go_ret2
  exact ⟨rfl, _, by simpa using H2.out.1, by simpa using H2.out.2⟩
theorem ownsRow_base {w : World} {B B' : Nat} {e : TypeId} {size : Nat} {v : Value} {n : Nat} {xs : List Value} (h : w.ownsRow B e size v n xs) (hb : B' ≤ B) : w.ownsRow B' e size v n xs := by
  obtain ⟨h1, h⟩ := h
  refine ⟨h1, ?_⟩
  rcases h with h | ⟨g, cap, cur, hv, h2, h3⟩
  · exact Or.inl h
  · exact Or.inr ⟨g, cap, cur, hv, Nat.le_trans hb h2, h3⟩
theorem ecells_drop (X : List (Nat × Int)) (k : Nat) : ecells (X.drop k) = (ecells X).drop (k * 2) := by
  induction X generalizing k with
  | nil => simp [ecells]
  | cons y s ih =>
    cases k with
    | zero => simp
    | succ k =>
      rw [List.drop_succ_cons, ih, show (k + 1) * 2 = k * 2 + 1 + 1 by omega]
      simp [ecells]
theorem ecells_one (X : List (Nat × Int)) : ∀ u ∈ ecells X, u.oneCell' = true := fun u hu => by
  simp [ecells] at hu
  obtain ⟨a, b, _, hu⟩ := hu
  rcases hu with rfl | rfl <;> rfl
theorem ecells_append (X Y : List (Nat × Int)) : ecells (X ++ Y) = ecells X ++ ecells Y := by simp [ecells]
set_option maxRecDepth 20000 in
theorem rdrop_at (h : RfAt w B0 r kd vl X N) (hX : X.length ≤ 65536) (hd : Hds X N) (hB : B0 ≤ w.heap.size) (x : Int) : Calls Try.prog 36 #[.pointer (some ⟨r, 0, none⟩), .int .i64 x] w fun e w' => e = .returned (.bool (fi X x).isSome) ∧ ∃ vl', RfAt w' B0 r kd vl' ((fi X x).elim X fun i => X.eraseIdx i) N ∧ Rst w w' r vl vl' := by
  have hp := place_at h hX hd x
  obtain ⟨-, c1, -⟩ := h.cells
  cases hf : fi X x with
  | none =>
    rw [hf] at hp
    simp only [Option.elim] at hp ⊢
    have HH := hide h
    clear hf h
    go_enter Try.func36, Try.ntmps36
    go_wp2_with fail
    refine hp.mono ?_
    rintro e wz ⟨rfl, hwz⟩
    obtain rfl := hwz.symm
    go_wp2
    go_ret
    exact ⟨rfl, vl, HH.out, Rst.refl _ _ _⟩
  | some i =>
    obtain ⟨hi, -⟩ := fi_lt hf
    rw [hf] at hp
    simp only [Option.elim] at hp ⊢
    obtain ⟨g, cap, cur, rfl, hb, hg, hn, ht⟩ := own_rowC h.row (by omega)
    have hd1 : ((i : Int) < 0) = False := by simp
    have hs1 := slice_to g i X.length cap (by omega)
    have hs2 := slice_from g (i + 1) X.length cap (by omega) hn
    rw [show (((i + 1 : Nat)) : Int) = (i : Int) + 1 by omega] at hs2
    have hw1 : IntKind.i64.wrap ((i : Int) + 1) = (i : Int) + 1 := by rw [IntKind.wrap_i64]; omega
    obtain ⟨i0, hi0, hz0, hz1, hz2⟩ := info_parts info50
    have HI0 := hide (And.intro hi0 (And.intro hz0 (And.intro hz1 hz2)))
    have hn1 : ∀ j u, (ecells (X.take i))[j]? = some u → w.cell? (Addr.add ⟨g, 0, none⟩ j) = some u := fun j u hj => by
      rw [Addr.add_lit, Nat.zero_add]
      refine own_cell hg ht ?_
      rw [ecells_take, List.getElem?_take] at hj
      split at hj
      · exact hj
      · cases hj
    have hn2 : ∀ j u, (ecells (X.drop (i + 1)))[j]? = some u → w.cell? (Addr.add ⟨g, if cap = i + 1 then 0 else (i + 1) * 2, none⟩ j) = some u := fun j u hj => by
      have hjl := (List.getElem?_eq_some_iff.1 hj).1
      rw [ecells_length, List.length_drop] at hjl
      rw [if_neg (by omega), Addr.add_lit]
      refine own_cell hg ht ?_
      rw [ecells_drop, List.getElem?_drop] at hj
      exact hj
    generalize (if cap = i + 1 then 0 else (i + 1) * 2) = of at hs2 hn2
    have HC := hide (And.intro hn1 (And.intro hn2 (And.intro h hB)))
    have hl1 : (ecells (X.take i)).length = i * 2 := by rw [ecells_length, List.length_take]; omega
    have hl2 : (ecells (X.drop (i + 1))).length = (X.length - (i + 1)) * 2 := by rw [ecells_length, List.length_drop]
    have HL := hide (And.intro hl1 hl2)
    clear hf hg ht hb h hn1 hn2 hi0 hz0 hz1 hz2 hl1 hl2
    go_enter Try.func36, Try.ntmps36
    go_wp2_with fail
    refine hp.mono ?_
    clear hp
    rintro e wz ⟨rfl, hwz⟩
    obtain rfl := hwz.symm
    go_wp2_with (at_builtin; refine wpList_append_own_at _ rfl (.tmp 12) (.tmp 18) 35 rfl w.heap.size 50 i0 (.agg #[.int .i64 0, .int .i64 0]) 2 16 Try.underlying35 HI0.out.1 HI0.out.2.1 HI0.out.2.2.1 HI0.out.2.2.2 rfl (by decide) (.slice none 0 0) 0 [] rfl (World.ownsRow_nil _ _ _ _) ⟨g, 0, none⟩ i cap (ecells (X.take i)) rfl HL.out.1 HC.out.1 (ecells_one _) (by unfold maxLen; omega) (by omega) (Nat.le_refl _) ?_)
    intro v1 w1 ho1 hg1 hv1 hb1
    clear hv1 hb1
    obtain ⟨vo1, cap1, rfl, -⟩ := own_formA ho1
    have hg1' : w.grownBy w1 none := hg1
    have hc1 : w1.cell? ⟨r, 1, none⟩ = some (.slice (some ⟨g, 0, none⟩) X.length cap) := hg1'.cell c1 (by simp)
    have hn2 : ∀ j u, (ecells (X.drop (i + 1)))[j]? = some u → w1.cell? (Addr.add ⟨g, of, none⟩ j) = some u := fun j u hj => hg1'.cell (HC.out.2.1 j u hj) (by simp)
    have H1 := hide (And.intro ho1 (And.intro hg1' hn2))
    have hsz := hg1'.size
    clear ho1 hg1 hg1' hn2
    go_wp2_with (at_builtin; refine wpList_append_own_at _ rfl (.tmp 21) (.tmp 28) 35 rfl w.heap.size 50 i0 (.agg #[.int .i64 0, .int .i64 0]) 2 16 Try.underlying35 HI0.out.1 HI0.out.2.1 HI0.out.2.2.1 HI0.out.2.2.2 rfl (by decide) (.slice vo1 i cap1) i (ecells (X.take i)) rfl (by simpa using H1.out.1) ⟨g, of, none⟩ (X.length - (i + 1)) (cap - (i + 1)) (ecells (X.drop (i + 1))) rfl HL.out.2 H1.out.2.2 (ecells_one _) (by unfold maxLen; omega) (by omega) hsz ?_)
    intro v2 w2 ho hg2 hv hb
    clear hv hb
    obtain ⟨vo2, cap2, rfl, -⟩ := own_formA ho
    have hgr : w.grownBy w2 none := grown_then H1.out.2.1 hg2 (fun j e => Or.inl (own_blockC H1.out.1 (by simpa using e)).1)
    have hlen : (X.eraseIdx i).length = i + (X.length - (i + 1)) := by rw [List.length_eraseIdx]; split <;> omega
    have hH := HC.out.2.2.1.head2 (grown_none hgr _) (X' := X.eraseIdx i) (vl' := .slice vo2 (i + (X.length - (i + 1))) cap2) (ownsRow_base (by rw [hlen, List.eraseIdx_eq_take_drop_succ, ecells_append]; exact ho) HC.out.2.2.2) (fun g e => .inr (own_blockC ho e).1) N
    have b1 := cell_row hH.1 1
    simp at b1
    have f1 : w2.frozen? ⟨r, 1, none⟩ = false := free_row hH.1 1
    have H2 := hide hH.2.2.2
    clear hH hg2 ho hgr hlen c1 hc1
    go_wp2
    go_ret
    exact ⟨rfl, _, H2.out.1, H2.out.2⟩
end
end Go.Proofs.Ytkbhjdjdjfdikaa
