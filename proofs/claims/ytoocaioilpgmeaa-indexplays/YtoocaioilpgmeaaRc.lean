/- The document's index: Put, Drop. -/
import Derived.Test.YtoocaioilpgmeaaRb
namespace Go.Proofs.Ytoocaioilpgmeaa
open Go.RowKit Ix Go.Shelf
attribute [local go_sem ↓] Go.wp_at_zero Go.wp_at_succ
section
variable {w w' : World} {B0 r m : Nat} {vl : Value} {X : List (Nat × Int)}
/-- The head written anew over a row that came in the old one's stead. -/
theorem RfAt.head2 (h : RfAt w B0 r m vl X) {w1 : World} {vl' : Value} {n' : Nat} {xs : List Value} (g1 : w.grownBy w1 vl.ownBlock) (ho : w1.ownsRow B0 75 2 vl' n' xs) (hown : ∀ g, vl'.ownBlock = some g → vl.ownBlock = some g ∨ w.heap.size ≤ g) :
    w1.heap[r]? = some (.cells [Value.int .i64 (m : Int), vl].toArray 51 (0, 0)) ∧ (w1.setCell ⟨r, 1, none⟩ vl').heap[r]? = some (.cells [Value.int .i64 (m : Int), vl'].toArray 51 (0, 0)) ∧ (w1.setCell ⟨r, 1, none⟩ vl').ownsRow B0 75 2 vl' n' xs ∧ Rst w (w1.setCell ⟨r, 1, none⟩ vl') r vl vl' ∧ (∀ g, vl'.ownBlock = some g → g ≠ r) := by
  have hr := row_lt h.head
  have hh : w1.heap[r]? = some (.cells [Value.int .i64 (m : Int), vl].toArray 51 (0, 0)) := (g1.block r hr (fun e => h.ne e.symm rfl)).trans h.head
  have hn : ∀ g, vl'.ownBlock = some g → g ≠ r := fun g hg e => by
    obtain ⟨_, cur, hc⟩ := own_block ho hg
    rw [e, hh] at hc
    simp at hc
  have k0 : Kept w w1 (fun j => j = r ∨ vl.ownBlock = some j) := Kept.of g1 (fun j e _ => .inr e)
  have k1 : Kept w (w1.setCell ⟨r, 1, none⟩ vl') (fun j => j = r ∨ vl.ownBlock = some j) := k0.trans (kept_setCell w1 r 1 vl') (fun j _ e => .inl e)
  have r1 : (w1.setCell ⟨r, 1, none⟩ vl').ownsRow B0 75 2 vl' n' xs := row_keep ho (fun g hg => by
    obtain ⟨_, cur, hc⟩ := own_block ho hg
    exact (kept_setCell w1 r 1 vl').block g (row_lt hc) (fun e => hn g hg e))
  exact ⟨hh, row_setCell hh 1 vl', r1, ⟨k1, hown⟩, hn⟩
/-- The row while the items behind a place move up: what lay at the place i is written over. -/
def shf (X : List (Nat × Int)) (i : Nat) (x : Nat × Int) : List (Nat × Int) := X.take i ++ x :: X.drop i
theorem shf_length (X : List (Nat × Int)) (i : Nat) (x : Nat × Int) (h : i ≤ X.length) : (shf X i x).length = X.length + 1 := by simp [shf]; omega
theorem shf_set (X : List (Nat × Int)) (i : Nat) (x y : Nat × Int) (h : i ≤ X.length) : (shf X i x).set i y = shf X i y := by
  unfold shf
  rw [List.set_append_right _ _ (by rw [List.length_take]; omega), List.length_take, Nat.min_eq_left h, Nat.sub_self]
  rfl
theorem shf_move (X : List (Nat × Int)) (i : Nat) (x : Nat × Int) (h : i + 1 ≤ X.length) : (shf X (i + 1) x).set (i + 1) (en X i) = shf X i (en X i) := by
  rw [shf_set _ _ _ _ h]
  unfold shf
  rw [← take_en (show i < X.length by omega)]
  have : X.drop i = en X i :: X.drop (i + 1) := by
    rw [List.drop_eq_getElem_cons (show i < X.length by omega)]
    unfold en
    rw [List.getElem?_eq_getElem (show i < X.length by omega)]
    rfl
  rw [this]
  simp
theorem shf_at (X : List (Nat × Int)) (i : Nat) (x : Nat × Int) (h : i + 1 ≤ X.length) : en (shf X (i + 1) x) i = en X i := by
  unfold shf en
  rw [List.getElem?_append_left (by simp; omega), List.getElem?_take, if_pos (by omega)]
set_option maxRecDepth 20000 in
set_option maxHeartbeats 4000000 in
theorem rput_at (h : RfAt w B0 r m vl X) (hX : X.length ≤ 4096) (hA : Asc X) (hB : B0 ≤ w.heap.size) (k : Nat) (v : Int) : Calls Try.prog 33 #[.pointer (some ⟨r, 0, none⟩), .int .u32 (k : Int), .int .i64 v] w fun e w' => e = .returned (.int .i64 (putE X k m)) ∧ ∃ vl', RfAt w' B0 r m vl' (putM X k m v) ∧ Rst w w' r vl vl' := by
  have hp := rat_at h (by omega) hA k
  obtain ⟨b, hb⟩ : ∃ b, (lk X k).isSome = b := ⟨_, rfl⟩
  obtain ⟨hy, hn⟩ := lk_val hA hb
  unfold putE putM
  rw [hb] at hp ⊢
  have HH := hide (And.intro h (And.intro hA (And.intro hb hB)))
  cases b with
  | true =>
    simp only [if_true]
    clear h hA hb hy hn
    go_enter Try.func33, Try.ntmps33
    go_wp2_with fail
    refine hp.mono ?_
    rintro e w1 ⟨i, rfl, -, g1⟩
    have G := hide g1
    clear g1 hp
    go_wp2
    go_ret
    exact ⟨rfl, vl, HH.out.1.grown G.out, Rst.new G.out _ _⟩
  | false =>
    have HN := hide (hn rfl)
    simp only [if_false, Bool.false_eq_true]
    clear hA hb hy hn
    by_cases hm : X.length = m
    · rw [if_pos hm, if_pos hm]
      clear h
      go_enter Try.func33, Try.ntmps33
      go_wp2_with fail
      refine hp.mono ?_
      rintro e w1 ⟨i, rfl, -, g1⟩
      obtain ⟨c0, c1⟩ := (HH.out.1.grown g1).cells
      obtain ⟨vo, cap, rfl, -⟩ := own_form HH.out.1.row
      rw [hm] at c1
      have G := hide g1
      have HM := hide hm
      clear g1 hp hm
      go_wp2
      go_quiet (fail)
      go_wp2
      go_ret
      have g2 := grown_trans G.out (grown_drewN w1 nq none)
      exact ⟨rfl, _, HH.out.1.grown g2, Rst.new g2 _ _⟩
    · rw [if_neg hm, if_neg hm]
      clear h
      obtain ⟨i0, hi0, hz0, hz1, hz2⟩ := info_parts info75
      have HI0 := hide (And.intro hi0 (And.intro hz0 (And.intro hz1 hz2)))
      clear hi0 hz0 hz1 hz2
      go_enter Try.func33, Try.ntmps33
      go_wp2_with fail
      refine hp.mono ?_
      rintro e w1 ⟨i, rfl, hP, g1⟩
      obtain ⟨c0, c1⟩ := (HH.out.1.grown g1).cells
      obtain ⟨vo, cap, rfl, hcap⟩ := own_form HH.out.1.row
      obtain ⟨L, hL⟩ : ∃ L, L = X.length := ⟨_, rfl⟩
      have hiL := hP.le
      rw [← hL] at c1 hm hX hiL
      have q1 : ((L : Int) == (m : Int)) = false := by simp; omega
      have q2 : decide ((L : Int) = (m : Int)) = false := by simp; omega
      have G := hide (And.intro g1 (And.intro hP hL))
      clear g1 hp hm hP hL
      go_wp2
      go_quiet (fail)
      generalize hw2 : w1.drewN _ = w2
      have g2 : w1.grownBy w2 none := by rw [← hw2]; exact grown_drewN _ _ _
      have d1 := g2.cell c1 (by simp)
      have G2 := hide (grown_trans G.out.1 g2)
      have h2 := HH.out.1.grown G2.out
      have ga := World.grownBy_alloc w2 (.cells #[.int .u32 0, .int .i64 0] 75) none
      have h3 := h2.grown ga
      have hsz := G2.out.size
      have HR3 := hide (And.intro h3 (And.intro ga h2))
      have HCS := hide (two_cells w2 (.int .u32 0) (.int .i64 0) 75)
      clear hw2 g2 c0 c1 h2 ga h3
      rw [← G.out.2.2] at HR3
      go_wp2_with (at_builtin; refine wpList_append_own_at _ rfl (.tmp 31) (.tmp 33) 49 rfl B0 75 i0 (.agg #[.int .u32 0, .int .i64 0]) 2 16 Try.underlying49 HI0.out.1 HI0.out.2.1 HI0.out.2.2.1 HI0.out.2.2.2 rfl (by decide) (.slice vo L cap) L (icells X) rfl (by have := HR3.out.1.row; rw [← G.out.2.2] at this; exact this) ⟨w2.heap.size, 0, none⟩ 1 1 [.int .u32 0, .int .i64 0] rfl rfl HCS.out (by simp [Value.oneCell']) (by unfold maxLen; omega) (by omega) (by have := HH.out.2.2.2; simp; omega) ?_)
      intro v2 w3 ho hg hv hbk
      clear hv
      obtain ⟨g, cap2, rfl⟩ := ownsRow_succ ho
      obtain ⟨LL, hLL⟩ : ∃ LL, LL = L + 1 := ⟨_, rfl⟩
      rw [← hLL] at ho hbk ⊢
      have HLL := hide hLL
      have hsh : icells X ++ [.int .u32 0, .int .i64 0] = icells (shf X L (0, 0)) := by
        unfold shf
        rw [G.out.2.2, List.take_length, List.drop_length, icells_append]
        simp [icells]
      rw [hsh] at ho
      have hH := HR3.out.1.head2 hg ho (fun q e => by
        rcases hbk with hbk | hbk
        · rw [hbk] at e; exact .inl e
        · rw [hbk] at e; cases e; exact .inr (by rw [World.size_alloc]; exact Nat.le_refl _))
      obtain ⟨hh0, hh1, hh2, hh3, hh4⟩ := hH
      have b1 := cell_row hh0 1
      simp at b1
      have f1 : w3.frozen? ⟨r, 1, none⟩ = false := free_row hh0 1
      have hgr : g ≠ r := hh4 g rfl
      have H4 : Hid ((w3.setCell ⟨r, 1, none⟩ (.slice (some ⟨g, 0, none⟩) LL cap2)).heap[r]? = some (.cells [Value.int .i64 (m : Int), .slice (some ⟨g, 0, none⟩) LL cap2].toArray 51 (0, 0)) ∧ (w3.setCell ⟨r, 1, none⟩ (.slice (some ⟨g, 0, none⟩) LL cap2)).ownsRow B0 75 2 (.slice (some ⟨g, 0, none⟩) LL cap2) LL (icells (shf X L (0, 0))) ∧ Rst w (w3.setCell ⟨r, 1, none⟩ (.slice (some ⟨g, 0, none⟩) LL cap2)) r (.slice vo L cap) (.slice (some ⟨g, 0, none⟩) LL cap2) ∧ g ≠ r) := ⟨hh1, hh2, Rst.from (grown_trans G2.out HR3.out.2.1) hh3, hgr⟩
      have d4 := cell_row hh1 1
      simp at d4
      clear ho hg hbk hsh hh0 hh1 hh2 hh3 hh4 d1 hgr
      generalize hw4 : w3.setCell ⟨r, 1, none⟩ (.slice (some ⟨g, 0, none⟩) LL cap2) = w4 at *
      have hs1 : (LL : Int) - 1 = (L : Int) := by omega
      have hs2 : IntKind.i64.wrap ((LL : Int) - 1) = (L : Int) := by rw [IntKind.wrap_i64]; omega
      have hs3 : IntKind.i64.wrap (L : Int) = (L : Int) := by rw [IntKind.wrap_i64]; omega
      clear hLL
      go_wp2
      clear hw4
      go_loopg [9] (L - i) (fun q v9 wr => ∃ j : Nat, v9 = .int .i64 (j : Int) ∧ i ≤ j ∧ j ≤ L ∧ Hid (q = j - i ∧ wr.heap[r]? = some (.cells [Value.int .i64 (m : Int), .slice (some ⟨g, 0, none⟩) LL cap2].toArray 51 (0, 0)) ∧ (∃ x, wr.ownsRow B0 75 2 (.slice (some ⟨g, 0, none⟩) LL cap2) LL (icells (shf X j x))) ∧ Rst w wr r (.slice vo L cap) (.slice (some ⟨g, 0, none⟩) LL cap2)))
      case atStart => exact ⟨L, rfl, hiL, Nat.le_refl _, rfl, H4.out.1, ⟨_, H4.out.2.1⟩, H4.out.2.2.1⟩
      case round =>
        obtain ⟨j, rfl, hij, hjL, HR⟩ := hrel
        obtain ⟨x, hrow⟩ := HR.out.2.2.1
        have e1 := cell_row HR.out.2.1 1
        simp at e1
        by_cases hlt : i < j
        · obtain ⟨j', rfl⟩ : ∃ j', j = j' + 1 := ⟨j - 1, by omega⟩
          obtain ⟨g', cap', cur, e2, -, hg, -, -, hcl, ht⟩ := own_row hrow (by have := HLL.out; omega)
          cases e2
          have hXl := G.out.2.2
          have hl1 : (shf X (j' + 1) x).length = L + 1 := by rw [shf_length _ _ _ (by omega)]; omega
          obtain ⟨y1, y2⟩ := icells_get (E := shf X (j' + 1) x) (i := j') (by omega)
          rw [shf_at _ _ _ (by omega)] at y1 y2
          have z1 := own_cell hg ht y1
          have z2 := own_cell hg ht y2
          obtain ⟨t1, t2⟩ := icells_get (E := shf X (j' + 1) x) (i := j' + 1) (by omega)
          have s1 := own_cell hg ht t1
          have s2 := own_cell hg ht t2
          have fz : ∀ q, wr.frozen? ⟨g, q, none⟩ = false := fun q => free_row hg q
          obtain ⟨p1, p2⟩ := own_put (i := j' + 1) hrow (en X j')
          rw [shf_move _ _ _ (by omega)] at p1
          have HP := hide (And.intro p1 p2)
          have hL2 := HLL.out
          obtain ⟨jj, hjj⟩ : ∃ jj, jj = j' + 1 := ⟨_, rfl⟩
          rw [← hjj] at s1 s2 HP hij hjL HR hlt ⊢
          have hsub : IntKind.i64.wrap ((jj : Int) - 1) = (j' : Int) := by rw [IntKind.wrap_i64]; omega
          have hsub2 : (jj : Int) - 1 = (j' : Int) := by omega
          have hwj : IntKind.i64.wrap (j' : Int) = (j' : Int) := by rw [IntKind.wrap_i64]; omega
          have hjl : jj < LL := by omega
          have hjl2 : j' < LL := by omega
          have hb3 : ((i : Int) < (jj : Int)) = True := by simp; omega
          have HJ := hide (And.intro hjj (And.intro hij (And.intro hjL hlt)))
          clear hrow hg ht hcl hXl hl1 y1 y2 t1 t2 p1 p2 hlt hL2 hjj
          generalize (en X j').1 = ya at *
          generalize (en X j').2 = yb at *
          generalize (en (shf X jj x) jj).1 = za at *
          generalize (en (shf X jj x) jj).2 = zb at *
          go_wp2
          go_region
          generalize hw5 : (wr.setCell ⟨g, jj * 2, none⟩ (.int .u32 (ya : Int))).setCell ⟨g, jj * 2 + 1, none⟩ (.int .i64 yb) = w5
          rw [hw5] at HP
          generalize hw6 : w5.drew = w6
          have g6 : w5.grownBy w6 none := by rw [← hw6]; exact grown_drew _ _
          have H6 := hide g6
          clear hw5 hw6 g6 z1 z2 s1 s2 fz
          go_wp2
          go_roundg (gk - 1)
          case rel =>
            have hj1 := HJ.out.1
            refine ⟨j', rfl, by have := HJ.out.2.2.2; omega, by omega, by have := HR.out.1; omega, ?_, ⟨_, own_grown HP.out.1 H6.out⟩, ?_⟩
            · exact (H6.out.block r (row_lt (HP.out.2.at HR.out.2.1 (fun e => H4.out.2.2.2 e.symm))) (by simp)).trans (HP.out.2.at HR.out.2.1 (fun e => H4.out.2.2.2 e.symm))
            · refine ⟨(HR.out.2.2.2.kept.trans HP.out.2 ?_).trans (Kept.new H6.out (fun _ => False)) (fun _ _ e => e.elim), HR.out.2.2.2.own⟩
              rintro q hq rfl
              rcases HR.out.2.2.2.own q rfl with h | h
              · exact .inr h
              · omega
          case measure => have := HR.out.1; have := HJ.out.2.2.2; omega
        · obtain rfl : j = i := by omega
          have hb3 : ((j : Int) < (j : Int)) = False := by simp
          obtain ⟨g', cap', cur, e2, -, hg, -, -, hcl, ht⟩ := own_row hrow (by have := HLL.out; omega)
          cases e2
          have hXl := G.out.2.2
          have hl1 : (shf X j x).length = LL := by rw [shf_length _ _ _ (by omega)]; have := HLL.out; omega
          obtain ⟨t1, t2⟩ := icells_get (E := shf X j x) (i := j) (by have := HLL.out; omega)
          have s1 := own_cell hg ht t1
          have s2 := own_cell hg ht t2
          have fz : ∀ q, wr.frozen? ⟨g, q, none⟩ = false := fun q => free_row hg q
          obtain ⟨p1, p2⟩ := own_put (i := j) hrow (k, v)
          rw [shf_set _ _ _ _ (by omega)] at p1
          have HP : Hid (RfAt ((wr.setCell ⟨g, j * 2, none⟩ (.int .u32 (k : Int))).setCell ⟨g, j * 2 + 1, none⟩ (.int .i64 v)) B0 r m (.slice (some ⟨g, 0, none⟩) LL cap2) (ins X (k, v)) ∧ Rst w ((wr.setCell ⟨g, j * 2, none⟩ (.int .u32 (k : Int))).setCell ⟨g, j * 2 + 1, none⟩ (.int .i64 v)) r (.slice vo L cap) (.slice (some ⟨g, 0, none⟩) LL cap2)) := by
            refine ⟨⟨p2.at HR.out.2.1 (fun e => H4.out.2.2.2 e.symm), ?_, HH.out.1.base⟩, ⟨HR.out.2.2.2.kept.trans p2 ?_, HR.out.2.2.2.own⟩⟩
            · rw [ins_length, ← hXl, ← HLL.out, ins_plc HH.out.2.1 G.out.2.1 HN.out]
              exact p1
            · rintro q hq rfl
              rcases HR.out.2.2.2.own q rfl with h | h
              · exact .inr h
              · omega
          have hjl : j < LL := by have := HLL.out; omega
          clear hrow hg ht hcl hXl hl1 t1 t2 p1 p2 hlt
          generalize (en (shf X j x) j).1 = za at *
          generalize (en (shf X j x) j).2 = zb at *
          generalize hw5 : (wr.setCell ⟨g, j * 2, none⟩ (.int .u32 (k : Int))).setCell ⟨g, j * 2 + 1, none⟩ (.int .i64 v) = w5 at *
          go_wp2
          go_ret
          exact ⟨rfl, _, HP.out.1, by rw [← G.out.2.2]; exact HP.out.2⟩
set_option maxRecDepth 20000 in
set_option maxHeartbeats 2000000 in
theorem rdrop_at (h : RfAt w B0 r m vl X) (hX : X.length ≤ 4096) (hA : Asc X) (hB : B0 ≤ w.heap.size) (k : Nat) : Calls Try.prog 36 #[.pointer (some ⟨r, 0, none⟩), .int .u32 (k : Int)] w fun e w' => e = .returned (.bool (lk X k).isSome) ∧ ∃ vl', RfAt w' B0 r m vl' (dr X k) ∧ Rst w w' r vl vl' := by
  have hp := rat_at h (by omega) hA k
  obtain ⟨b, hb⟩ : ∃ b, (lk X k).isSome = b := ⟨_, rfl⟩
  obtain ⟨hy, hn⟩ := lk_val hA hb
  rw [hb] at hp ⊢
  have HH := hide (And.intro h (And.intro hA (And.intro hb hB)))
  cases b with
  | false =>
    rw [dr_none (hn rfl)]
    clear h hA hb hy hn
    go_enter Try.func36, Try.ntmps36
    go_wp2_with fail
    refine hp.mono ?_
    rintro e w1 ⟨i, rfl, -, g1⟩
    have G := hide g1
    clear g1 hp
    go_wp2
    go_ret
    exact ⟨rfl, vl, HH.out.1.grown G.out, Rst.new G.out _ _⟩
  | true =>
    clear h hA hb hy hn
    obtain ⟨i0, hi0, hz0, hz1, hz2⟩ := info_parts info75
    have HI0 := hide (And.intro hi0 (And.intro hz0 (And.intro hz1 hz2)))
    clear hi0 hz0 hz1 hz2
    go_enter Try.func36, Try.ntmps36
    go_wp2_with fail
    refine hp.mono ?_
    clear hp
    rintro e wz ⟨i, rfl, hP, gz⟩
    obtain ⟨hf1, -⟩ := hP.found HH.out.2.1
    rw [HH.out.2.2.1] at hf1
    simp at hf1
    obtain ⟨hi, he⟩ := hf1
    have h1 := HH.out.1.grown gz
    obtain ⟨-, c1⟩ := h1.cells
    obtain ⟨g, cap, cur, rfl, hb, hg, hn, -, -, ht⟩ := own_row h1.row (by omega)
    have hs1 := slice_to g i X.length cap (by omega)
    have hs2 := slice_from g (i + 1) X.length cap (by omega) hn
    rw [show (((i + 1 : Nat)) : Int) = (i : Int) + 1 by omega] at hs2
    have hw1 : IntKind.i64.wrap ((i : Int) + 1) = (i : Int) + 1 := by rw [IntKind.wrap_i64]; omega
    have hn1 : ∀ j u, (icells (X.take i))[j]? = some u → wz.cell? (Addr.add ⟨g, 0, none⟩ j) = some u := fun j u hj => by
      rw [Addr.add_lit, Nat.zero_add]
      refine own_cell hg ht ?_
      rw [icells_take, List.getElem?_take] at hj
      split at hj
      · exact hj
      · cases hj
    have hn2 : ∀ j u, (icells (X.drop (i + 1)))[j]? = some u → wz.cell? (Addr.add ⟨g, if cap = i + 1 then 0 else (i + 1) * 2, none⟩ j) = some u := fun j u hj => by
      have hjl := (List.getElem?_eq_some_iff.1 hj).1
      rw [icells_length, List.length_drop] at hjl
      rw [if_neg (by omega), Addr.add_lit]
      refine own_cell hg ht ?_
      rw [icells_drop, List.getElem?_drop] at hj
      exact hj
    generalize (if cap = i + 1 then 0 else (i + 1) * 2) = of at hs2 hn2
    have hdr := dr_plc HH.out.2.1 hi he
    have HC := hide (And.intro hn1 (And.intro hn2 (And.intro h1 (And.intro gz hdr))))
    have hl1 : (icells (X.take i)).length = i * 2 := by rw [icells_length, List.length_take]; omega
    have hl2 : (icells (X.drop (i + 1))).length = (X.length - (i + 1)) * 2 := by rw [icells_length, List.length_drop]
    have HL := hide (And.intro hl1 hl2)
    have hszz := gz.size
    clear hg ht hb h1 hn1 hn2 hl1 hl2 gz hdr hP he
    go_wp2_with (at_builtin; refine wpList_append_own_at _ rfl (.tmp 15) (.tmp 21) 49 rfl wz.heap.size 75 i0 (.agg #[.int .u32 0, .int .i64 0]) 2 16 Try.underlying49 HI0.out.1 HI0.out.2.1 HI0.out.2.2.1 HI0.out.2.2.2 rfl (by decide) (.slice none 0 0) 0 [] rfl (World.ownsRow_nil _ _ _ _) ⟨g, 0, none⟩ i cap (icells (X.take i)) rfl HL.out.1 HC.out.1 (icells_one _) (by unfold maxLen; omega) (by omega) (Nat.le_refl _) ?_)
    intro v1 w1 ho1 hg1 hv1 hb1
    clear hv1 hb1
    obtain ⟨vo1, cap1, rfl, -⟩ := own_form ho1
    have hg1' : wz.grownBy w1 none := hg1
    have hc1 : w1.cell? ⟨r, 1, none⟩ = some (.slice (some ⟨g, 0, none⟩) X.length cap) := hg1'.cell c1 (by simp)
    have hn2 : ∀ j u, (icells (X.drop (i + 1)))[j]? = some u → w1.cell? (Addr.add ⟨g, of, none⟩ j) = some u := fun j u hj => hg1'.cell (HC.out.2.1 j u hj) (by simp)
    have H1 := hide (And.intro ho1 (And.intro hg1' hn2))
    have hsz := hg1'.size
    clear ho1 hg1 hg1' hn2
    go_wp2_with (at_builtin; refine wpList_append_own_at _ rfl (.tmp 24) (.tmp 31) 49 rfl wz.heap.size 75 i0 (.agg #[.int .u32 0, .int .i64 0]) 2 16 Try.underlying49 HI0.out.1 HI0.out.2.1 HI0.out.2.2.1 HI0.out.2.2.2 rfl (by decide) (.slice vo1 i cap1) i (icells (X.take i)) rfl (by simpa using H1.out.1) ⟨g, of, none⟩ (X.length - (i + 1)) (cap - (i + 1)) (icells (X.drop (i + 1))) rfl HL.out.2 H1.out.2.2 (icells_one _) (by unfold maxLen; omega) (by omega) hsz ?_)
    intro v2 w2 ho hg2 hv hb
    clear hv hb
    obtain ⟨vo2, cap2, rfl, -⟩ := own_form ho
    have hgr : wz.grownBy w2 none := grown_then H1.out.2.1 hg2 (fun j e => Or.inl (own_block H1.out.1 (by simpa using e)).1)
    have hlen : (dr X k).length = i + (X.length - (i + 1)) := by rw [HC.out.2.2.2.2, List.length_append, List.length_take, List.length_drop]; omega
    have hbase := HH.out.2.2.2
    have hH := HC.out.2.2.1.head2 (grown_none hgr _) (own_base ho (show B0 ≤ wz.heap.size by omega)) (fun g e => .inr (own_block ho e).1)
    obtain ⟨hh0, hh1, hh2, hh3, -⟩ := hH
    have b1 := cell_row hh0 1
    simp at b1
    have f1 : w2.frozen? ⟨r, 1, none⟩ = false := free_row hh0 1
    have H2 : Hid (RfAt (w2.setCell ⟨r, 1, none⟩ (.slice vo2 (i + (X.length - (i + 1))) cap2)) B0 r m (.slice vo2 (i + (X.length - (i + 1))) cap2) (dr X k) ∧ Rst w (w2.setCell ⟨r, 1, none⟩ (.slice vo2 (i + (X.length - (i + 1))) cap2)) r (.slice (some ⟨g, 0, none⟩) X.length cap) (.slice vo2 (i + (X.length - (i + 1))) cap2)) :=
      ⟨⟨hh1, by rw [hlen, HC.out.2.2.2.2, icells_append]; exact hh2, HH.out.1.base⟩, Rst.from HC.out.2.2.2.1 hh3⟩
    clear hh0 hh1 hh2 hh3 hg2 ho hgr hlen c1 hc1
    go_wp2
    go_ret
    exact ⟨rfl, _, H2.out.1, H2.out.2⟩
end
end Go.Proofs.Ytoocaioilpgmeaa
