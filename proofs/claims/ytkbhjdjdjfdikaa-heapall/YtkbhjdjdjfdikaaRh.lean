/- A pair: step. -/
import Derived.Test.YtkbhjdjdjfdikaaRg
import Derived.Test.YtkbhjdjdjfdikaaArgO
import Derived.Deep.QuietTactic
namespace Go.Proofs.Ytkbhjdjdjfdikaa
open Go.RowKit Ap Go.Shelf
attribute [local go_sem ↓] Go.wp_at_zero Go.wp_at_succ
section
variable {w0 w w' : World} {k : Int} {b : Nat} {p q : Hp} {r : Nat} {vl vl' : Value} {E E' X X' : List (Nat × Int)} {N N' M M' B B' : Nat}
/-- The two boxes of a call: the pair, the step. -/
structure Bx (w : World) (bx : Nat) (p : Hp) (r : Nat) (ord : Bool) (o : OpD) : Prop where
  tw : w.heap[bx]? = some (.cells [Value.pointer (some ⟨p.h, 0, none⟩), .pointer (some ⟨r, 0, none⟩), .bool ord].toArray 26 (0, 0))
  op : w.heap[bx + 1]? = some (.cells [Value.int .i64 o.K, .int .i64 o.O, .int .i64 o.N, .int .i64 o.V].toArray 31 (0, 0))
theorem Bx.kept {bx : Nat} {ord : Bool} {o : OpD} (h : Bx w bx p r ord o) {S : Nat → Prop} (hk : Kept w w' S) (hS : ∀ j, S j → j < bx) : Bx w' bx p r ord o :=
  ⟨hk.at h.tw (fun e => by have := hS _ e; omega), hk.at h.op (fun e => by have := hS _ e; omega)⟩
theorem sameSet (h : Same E X N) (x v : Int) (hd : Hds ((fi E x).elim E fun i => setI E i v) N) : Same ((Go.Proofs.Ytkbhjdjdjfdikaa.fi E x).elim E fun i => setI E i v) ((Go.Proofs.Ytkbhjdjdjfdikaa.fi X x).elim X fun i => setI X i v) N := by
  rcases h.fi x with ⟨e1, e2⟩ | ⟨i, j, hi, hj, e1, e2, e⟩
  · rw [e1, e2]; exact h
  · rw [e1] at hd; rw [e1, e2]; exact h.set hi hj e v hd
theorem sameDrop (h : Same E X N) (x : Int) (hd : Hds ((fi E x).elim E fun i => outE E i) N) : Same ((Go.Proofs.Ytkbhjdjdjfdikaa.fi E x).elim E fun i => outE E i) ((Go.Proofs.Ytkbhjdjdjfdikaa.fi X x).elim X fun i => X.eraseIdx i) N := by
  rcases h.fi x with ⟨e1, e2⟩ | ⟨i, j, hi, hj, e1, e2, e⟩
  · rw [e1, e2]; exact h
  · rw [e1] at hd; rw [e1, e2]; exact h.drop hi hj e hd
theorem Tw.mono (t : Tw w0 w k b p r vl E X N M B) (h : B ≤ B') : Tw w0 w k b p r vl E X N M B' := by
  obtain ⟨T, s⟩ := t.hs
  exact ⟨⟨T, s.mono h⟩, t.hown, t.rf, t.bx, t.grown⟩
set_option maxRecDepth 20000 in
theorem step_tw (t : Tw w0 w k b p r vl E X N N B) (hs : Same E X N) (hk : 0 ≤ k) (hE : E.length ≤ 60000) (hN : N ≤ 60000) (hB : B ≤ 60000) (o : OpD) (ho : o.Ok) : Calls Try.prog 11 #[.agg #[.pointer (some ⟨p.h, 0, none⟩), .pointer (some ⟨r, 0, none⟩), .bool (decide (k < 4))], .agg #[.int .i64 o.K, .int .i64 o.O, .int .i64 o.N, .int .i64 o.V]] w fun e w' => e = .returned (.bool true) ∧ ∃ N', N' ≤ N + 1 ∧ TwN w0 w w' k b p r vl E N' (B + 1) := by
  obtain ⟨w1, hw1⟩ : ∃ w1, w1 = (w.alloc (.cells #[.pointer (some ⟨p.h, 0, none⟩), .pointer (some ⟨r, 0, none⟩), .bool (decide (k < 4))] 26)).alloc (.cells #[.int .i64 o.K, .int .i64 o.O, .int .i64 o.N, .int .i64 o.V] 31) := ⟨_, rfl⟩
  have ga := World.grownBy_alloc w (.cells #[.pointer (some ⟨p.h, 0, none⟩), .pointer (some ⟨r, 0, none⟩), .bool (decide (k < 4))] 26) none
  have gb := World.grownBy_alloc (w.alloc (.cells #[.pointer (some ⟨p.h, 0, none⟩), .pointer (some ⟨r, 0, none⟩), .bool (decide (k < 4))] 26)) (.cells #[.int .i64 o.K, .int .i64 o.O, .int .i64 o.N, .int .i64 o.V] 31) none
  have g1 : w.grownBy w1 none := by rw [hw1]; exact grown_trans ga gb
  obtain ⟨bx, hbx⟩ : ∃ bx, bx = w.heap.size := ⟨_, rfl⟩
  have hB1 : Bx w1 bx p r (decide (k < 4)) o := by
    rw [hw1, hbx]
    refine ⟨(gb.block _ (row_lt (heap_alloc_new w _)) (by simp)).trans (heap_alloc_new w _), ?_⟩
    have := heap_alloc_new (w.alloc (.cells #[.pointer (some ⟨p.h, 0, none⟩), .pointer (some ⟨r, 0, none⟩), .bool (decide (k < 4))] 26)) (.cells #[.int .i64 o.K, .int .i64 o.O, .int .i64 o.N, .int .i64 o.V] 31)
    rw [World.size_alloc] at this
    exact this
  have t1 := t.then g1
  have hlt : ∀ j, TwO p r vl j → j < bx := fun j e => by rw [hbx]; exact t.lt e
  have hpk := fun W => pick_any o.N ((N + 2 : Nat) : Int) (N + 2) W rfl (by omega) (by omega)
  have hr0 : 0 ≤ o.N % ((N + 2 : Nat) : Int) := Int.emod_nonneg _ (by omega)
  have hr1 : o.N % ((N + 2 : Nat) : Int) < ((N + 2 : Nat) : Int) := Int.emod_lt_of_pos _ (by omega)
  rw [show (((N + 2 : Nat)) : Int) = (N : Int) + 2 by omega] at hpk hr0 hr1
  generalize o.N % ((N : Int) + 2) = z at *
  have hw2 : IntKind.i64.wrap ((N : Int) + 2) = (N : Int) + 2 := by rw [IntKind.wrap_i64]; omega
  have hw3 : IntKind.i64.wrap (z - 1) = z - 1 := by rw [IntKind.wrap_i64]; omega
  have x0 := cell_row hB1.tw 0
  have x1 := cell_row hB1.tw 1
  have x2 := cell_row hB1.tw 2
  have y0 := cell_row hB1.op 0
  have y2 := cell_row hB1.op 2
  have y3 := cell_row hB1.op 3
  obtain ⟨-, -, c2⟩ := t1.rf.cells
  simp at x0 x1 x2 y0 y2 y3
  have HW := hide (And.intro hw1 (And.intro hbx (And.intro g1 (And.intro hB1 (And.intro t1 (And.intro hs hlt))))))
  clear hw1 hbx g1 hB1 t1 hs hlt ga gb t
  obtain ⟨oK, oO, oN, oV⟩ := o
  simp only at *
  go_enter Try.func11, Try.ntmps11
  go_upto_region 1 with fail
  rw [← HW.out.1, ← HW.out.2.1]
  go_quiet ((go_at_call 13; refine Calls.quiet_of_same (hpk _)))
  have g2 := grown_drewN w1 nq none
  have t2 := HW.out.2.2.2.2.1.then g2
  have hB2 : Bx (w1.drewN nq) bx p r (decide (k < 4)) ⟨oK, oO, oN, oV⟩ := HW.out.2.2.2.1.kept (Kept.new g2 (fun _ => False)) (fun _ e => e.elim)
  have H2 := hide (And.intro t2 (And.intro hB2 (grown_trans HW.out.2.2.1 g2)))
  clear t2 hB2 g2 hpk c2 y2 hw2 hw3
  by_cases h1 : oK = 1
  · subst h1
    obtain ⟨T, s2⟩ := H2.out.1.hs
    have hpu := push_any (lsK_ok k b) s2 (by omega) (by omega) (by omega) oV ho.2.2.2
    have HPU := hide hpu
    clear hpu s2
    go_wp2_with fail
    refine HPU.out.mono ?_
    rintro e w3 ⟨rfl, q, T', s3, st3⟩
    obtain ⟨t3, ts3⟩ := H2.out.1.heap s3 st3
    have hB3 := H2.out.2.1.kept ts3.kept HW.out.2.2.2.2.2.2
    have u1 := cell_row hB3.tw 1
    have u3 := cell_row hB3.op 3
    simp at u1 u3
    have hrp := rpush_at t3.rf (by rw [HW.out.2.2.2.2.2.1.length]; omega) (by omega) t3.grown.size oV
    have H3 := hide (And.intro t3 (And.intro ts3 s3.hds))
    clear t3 ts3 s3 st3 hB3 x0 x1 x2 y0 y3
    go_wp2_with fail
    refine hrp.mono ?_
    clear hrp
    rintro e w4 ⟨rfl, vl', rf4, st4⟩
    have H4 := hide (And.intro rf4 st4)
    clear rf4 st4
    go_wp2
    go_ret
    obtain ⟨t4, ts4⟩ := H3.out.1.ref H4.out.1 H4.out.2
    exact ⟨rfl, N + 1, Nat.le_refl _, q, vl', _, _, t4, HW.out.2.2.2.2.2.1.push oV H3.out.2.2, (Tst.grown H2.out.2.2 p r vl).trans (H3.out.2.1.trans ts4), by simp⟩
  · by_cases h2 : oK = 2
    · subst h2
      have hpo := pop_tw H2.out.1 HW.out.2.2.2.2.2.1 hk (by omega) (by omega) (by omega)
      have HPO := hide hpo
      clear hpo
      go_wp2_with fail
      refine HPO.out.mono ?_
      rintro e w3 ⟨rfl, q, vl', E', X', t3, hs3, ts3, hl⟩
      have H3 := hide (And.intro t3 (And.intro hs3 (And.intro ts3 hl)))
      clear t3 hs3 ts3 hl
      go_wp2
      go_ret
      exact ⟨rfl, N, by omega, q, vl', E', X', H3.out.1, H3.out.2.1, (Tst.grown H2.out.2.2 p r vl).trans H3.out.2.2.1, H3.out.2.2.2⟩
    · by_cases h3 : oK = 3
      · subst h3
        have hx : I64 (z - 1) := ⟨by omega, by omega⟩
        have hff : (fi X (z - 1)).isSome = (fi E (z - 1)).isSome := by
          rcases HW.out.2.2.2.2.2.1.fi (z - 1) with ⟨e1, e2⟩ | ⟨i, j, _, _, e1, e2, _⟩ <;> rw [e1, e2]
          rfl
        have HA : Hid (∀ (W : World) (vl2 : Value) (X2 : List (Nat × Int)), Tw w0 W k b p r vl2 E X2 N N B → Calls Try.prog 18 #[.pointer (some ⟨p.h, 0, none⟩), .int .i64 (z - 1), .int .i64 oV] W fun e W' => e = .returned (.bool (fi E (z - 1)).isSome) ∧ ∃ q, Tw w0 W' k b q r vl2 ((fi E (z - 1)).elim E fun i => setI E i oV) X2 N N B ∧ Tst W W' p q r vl2 vl2 ∧ Hds ((fi E (z - 1)).elim E fun i => setI E i oV) N) := fun W vl2 X2 tw => by
          obtain ⟨T, sW⟩ := tw.hs
          refine (set_any (lsK_ok k b) sW (by omega) (z - 1) oV (wf_i64 hx.1 hx.2) ho.2.2.2).mono ?_
          rintro e W' ⟨rfl, T', s', st'⟩
          obtain ⟨a1, a2⟩ := tw.heap s' st'
          exact ⟨rfl, p, a1, a2, s'.hds⟩
        have HR : Hid (∀ (W : World) (p2 : Hp) (E2 : List (Nat × Int)) (N2 B2 : Nat), Tw w0 W k b p2 r vl E2 X N2 N B2 → Calls Try.prog 35 #[.pointer (some ⟨r, 0, none⟩), .int .i64 (z - 1), .int .i64 oV] W fun e W' => e = .returned (.bool (fi E (z - 1)).isSome) ∧ ∃ vl', Tw w0 W' k b p2 r vl' E2 ((fi X (z - 1)).elim X fun i => setI X i oV) N2 N B2 ∧ Tst W W' p2 p2 r vl vl') := fun W p2 E2 N2 B2 tw => by
          rw [← hff]
          refine (rset_at tw.rf (by rw [HW.out.2.2.2.2.2.1.length]; omega) HW.out.2.2.2.2.2.1.hdsX (z - 1) oV).mono ?_
          rintro e W' ⟨rfl, rf', st'⟩
          obtain ⟨a1, a2⟩ := tw.ref rf' st'
          exact ⟨rfl, vl, a1, a2⟩
        generalize (fi E (z - 1)).isSome = ff at *
        have g4 := grown_drew (w1.drewN nq) none
        have HT0 := hide (H2.out.1.then g4)
        have HCx : Hid (∀ (W : World) (q' : Hp) (vl' : Value), Tst (w1.drewN nq).drew W p q' r vl vl' → W.cell? ⟨bx, 0, none⟩ = some (.pointer (some ⟨p.h, 0, none⟩)) ∧ W.cell? ⟨bx, 1, none⟩ = some (.pointer (some ⟨r, 0, none⟩)) ∧ W.cell? ⟨bx + 1, 3, none⟩ = some (.int .i64 oV)) := fun W q' vl' ts => by
          have hB4 := (H2.out.2.1.kept (Kept.new g4 (fun _ => False)) (fun _ e => e.elim)).kept ts.kept HW.out.2.2.2.2.2.2
          exact ⟨cell_row hB4.tw 0, cell_row hB4.tw 1, cell_row hB4.op 3⟩
        have hc0 := HCx.out _ p vl (Tst.refl _ _ _ _)
        clear g4 hx hff
        go_upto_region 10 with fail
        clear x2 y0
        go_region_held3 (fun W => W.cell? ⟨bx, 0, none⟩ = some (.pointer (some ⟨p.h, 0, none⟩)) ∧ W.cell? ⟨bx, 1, none⟩ = some (.pointer (some ⟨r, 0, none⟩)) ∧ W.cell? ⟨bx + 1, 3, none⟩ = some (.int .i64 oV)) (first | assumption | exact ⟨x0, x1, y3⟩ | exact hc0) (first
          | (go_at_call 18; refine (HA.out _ _ _ HT0.out).mono ?_; rintro e4 w4 ⟨rfl, q, ta, tsa, hda⟩; have hka := HCx.out w4 _ _ tsa; have HTA := hide (And.intro ta (And.intro tsa hda)); clear ta tsa hda)
          | (go_at_call 18; refine (HA.out _ _ _ HTR.out.1).mono ?_; rintro e4 w4 ⟨rfl, q, ta, tsa, hda⟩; have hka := HCx.out w4 _ _ (HTR.out.2.trans tsa); have HTF := hide (And.intro ta (And.intro (HTR.out.2.trans tsa) hda)); clear ta tsa hda)
          | (go_at_call 35; refine (HR.out _ _ _ _ _ HT0.out).mono ?_; rintro e5 w5 ⟨rfl, vl', tr, tsr⟩; have hkr := HCx.out w5 _ _ tsr; have HTR := hide (And.intro tr tsr); clear tr tsr)
          | (go_at_call 35; refine (HR.out _ _ _ _ _ HTA.out.1).mono ?_; rintro e5 w5 ⟨rfl, vl', tr, tsr⟩; have hkr := HCx.out w5 _ _ (HTA.out.2.1.trans tsr); have HTF := hide (And.intro tr (And.intro (HTA.out.2.1.trans tsr) HTA.out.2.2)); clear tr tsr))
        go_wp2
        go_ret
        exact ⟨rfl, N, by omega, q, vl', _, _, HTF.out.1.mono (by omega), sameSet HW.out.2.2.2.2.2.1 (z - 1) oV HTF.out.2.2, (Tst.grown (grown_trans H2.out.2.2 (grown_drew _ none)) p r vl).trans HTF.out.2.1, by cases fi E (z - 1) with
          | none => exact Nat.le_succ _
          | some i => simp only [Option.elim]; rw [setI_length]; omega⟩
      · by_cases h4 : oK = 4
        · subst h4
          have hx : I64 (z - 1) := ⟨by omega, by omega⟩
          have hff : (fi X (z - 1)).isSome = (fi E (z - 1)).isSome := by
            rcases HW.out.2.2.2.2.2.1.fi (z - 1) with ⟨e1, e2⟩ | ⟨i, j, _, _, e1, e2, _⟩ <;> rw [e1, e2]
            rfl
          have HA : Hid (∀ (W : World) (vl2 : Value) (X2 : List (Nat × Int)), Tw w0 W k b p r vl2 E X2 N N B → Calls Try.prog 19 #[.pointer (some ⟨p.h, 0, none⟩), .int .i64 (z - 1)] W fun e W' => e = .returned (.bool (fi E (z - 1)).isSome) ∧ ∃ q, Tw w0 W' k b q r vl2 ((fi E (z - 1)).elim E fun i => outE E i) X2 N N (B + 1) ∧ Tst W W' p q r vl2 vl2 ∧ Hds ((fi E (z - 1)).elim E fun i => outE E i) N) := fun W vl2 X2 tw => by
            obtain ⟨T, sW⟩ := tw.hs
            refine (drop_any (lsK_ok k b) sW (by omega) (by omega) (by omega) (z - 1) (wf_i64 hx.1 hx.2)).mono ?_
            rintro e W' ⟨rfl, q, T', s', st'⟩
            obtain ⟨a1, a2⟩ := tw.heap s' st'
            exact ⟨rfl, q, a1, a2, s'.hds⟩
          have HR : Hid (∀ (W : World) (p2 : Hp) (E2 : List (Nat × Int)) (N2 B2 : Nat), Tw w0 W k b p2 r vl E2 X N2 N B2 → Calls Try.prog 36 #[.pointer (some ⟨r, 0, none⟩), .int .i64 (z - 1)] W fun e W' => e = .returned (.bool (fi E (z - 1)).isSome) ∧ ∃ vl', Tw w0 W' k b p2 r vl' E2 ((fi X (z - 1)).elim X fun i => X.eraseIdx i) N2 N B2 ∧ Tst W W' p2 p2 r vl vl') := fun W p2 E2 N2 B2 tw => by
            rw [← hff]
            refine (rdrop_at tw.rf (by rw [HW.out.2.2.2.2.2.1.length]; omega) HW.out.2.2.2.2.2.1.hdsX tw.grown.size (z - 1)).mono ?_
            rintro e W' ⟨rfl, vl', rf', st'⟩
            obtain ⟨a1, a2⟩ := tw.ref rf' st'
            exact ⟨rfl, vl', a1, a2⟩
          generalize (fi E (z - 1)).isSome = ff at *
          have g4 := grown_drew (w1.drewN nq) none
          have HT0 := hide (H2.out.1.then g4)
          have HCx : Hid (∀ (W : World) (q' : Hp) (vl' : Value), Tst (w1.drewN nq).drew W p q' r vl vl' → W.cell? ⟨bx, 0, none⟩ = some (.pointer (some ⟨p.h, 0, none⟩)) ∧ W.cell? ⟨bx, 1, none⟩ = some (.pointer (some ⟨r, 0, none⟩)) ∧ W.cell? ⟨bx + 1, 3, none⟩ = some (.int .i64 oV)) := fun W q' vl' ts => by
            have hB4 := (H2.out.2.1.kept (Kept.new g4 (fun _ => False)) (fun _ e => e.elim)).kept ts.kept HW.out.2.2.2.2.2.2
            exact ⟨cell_row hB4.tw 0, cell_row hB4.tw 1, cell_row hB4.op 3⟩
          have hc0 := HCx.out _ p vl (Tst.refl _ _ _ _)
          clear g4 hx hff
          go_upto_region 12 with fail
          clear x2 y0
          go_region_held3 (fun W => W.cell? ⟨bx, 0, none⟩ = some (.pointer (some ⟨p.h, 0, none⟩)) ∧ W.cell? ⟨bx, 1, none⟩ = some (.pointer (some ⟨r, 0, none⟩)) ∧ W.cell? ⟨bx + 1, 3, none⟩ = some (.int .i64 oV)) (first | assumption | exact ⟨x0, x1, y3⟩ | exact hc0) (first
            | (go_at_call 19; refine (HA.out _ _ _ HT0.out).mono ?_; rintro e4 w4 ⟨rfl, q, ta, tsa, hda⟩; have hka := HCx.out w4 _ _ tsa; have HTA := hide (And.intro ta (And.intro tsa hda)); clear ta tsa hda)
            | (go_at_call 19; refine (HA.out _ _ _ HTR.out.1).mono ?_; rintro e4 w4 ⟨rfl, q, ta, tsa, hda⟩; have hka := HCx.out w4 _ _ (HTR.out.2.trans tsa); have HTF := hide (And.intro ta (And.intro (HTR.out.2.trans tsa) hda)); clear ta tsa hda)
            | (go_at_call 36; refine (HR.out _ _ _ _ _ HT0.out).mono ?_; rintro e5 w5 ⟨rfl, vl', tr, tsr⟩; have hkr := HCx.out w5 _ _ tsr; have HTR := hide (And.intro tr tsr); clear tr tsr)
            | (go_at_call 36; refine (HR.out _ _ _ _ _ HTA.out.1).mono ?_; rintro e5 w5 ⟨rfl, vl', tr, tsr⟩; have hkr := HCx.out w5 _ _ (HTA.out.2.1.trans tsr); have HTF := hide (And.intro tr (And.intro (HTA.out.2.1.trans tsr) HTA.out.2.2)); clear tr tsr))
          go_wp2
          go_ret
          exact ⟨rfl, N, by omega, q, vl', _, _, HTF.out.1, sameDrop HW.out.2.2.2.2.2.1 (z - 1) HTF.out.2.2, (Tst.grown (grown_trans H2.out.2.2 (grown_drew _ none)) p r vl).trans HTF.out.2.1, by cases fi E (z - 1) with
            | none => exact Nat.le_succ _
            | some i => simp only [Option.elim]; rw [outE_length]; omega⟩
        · have e1 : (oK == 1) = false := by simpa using h1
          have e2 : (oK == 2) = false := by simpa using h2
          have e3 : (oK == 3) = false := by simpa using h3
          have e4 : (oK == 4) = false := by simpa using h4
          clear h1 h2 h3 h4
          go_wp2
          go_ret
          obtain ⟨T, s2⟩ := H2.out.1.hs
          exact ⟨rfl, N, by omega, p, vl, E, X, ⟨⟨T, s2.mono (by omega)⟩, H2.out.1.hown, H2.out.1.rf, H2.out.1.bx, H2.out.1.grown⟩, HW.out.2.2.2.2.2.1, Tst.grown H2.out.2.2 p r vl, by omega⟩
end
end Go.Proofs.Ytkbhjdjdjfdikaa
