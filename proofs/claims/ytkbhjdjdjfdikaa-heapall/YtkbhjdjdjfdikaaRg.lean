/- A pair: pop. -/
import Derived.Test.YtkbhjdjdjfdikaaRf
namespace Go.Proofs.Ytkbhjdjdjfdikaa
open Go.RowKit Ap Go.Shelf
attribute [local go_sem ↓] Go.wp_at_zero Go.wp_at_succ
section
variable {w0 w w' : World} {k : Int} {b : Nat} {p q : Hp} {r : Nat} {vl vl' : Value} {E E' X X' : List (Nat × Int)} {N N' M M' B B' : Nat}
theorem Tw.lt (t : Tw w0 w k b p r vl E X N M B) {j : Nat} (h : TwO p r vl j) : j < w.heap.size := by
  obtain ⟨T, s⟩ := t.hs
  rcases h with h | h | h
  · exact s.at_.lt j h
  · rw [h]; exact row_lt t.rf.head
  · obtain ⟨_, cur, hc⟩ := own_blockC t.rf.row h; exact row_lt hc
/-- A pair as a value. -/
def twV (p : Hp) (r : Nat) (ord : Bool) : List Value := [.pointer (some ⟨p.h, 0, none⟩), .pointer (some ⟨r, 0, none⟩), .bool ord]
/-- What a step leaves of a pair. -/
def TwN (w0 w w' : World) (k : Int) (b : Nat) (p : Hp) (r : Nat) (vl : Value) (E : List (Nat × Int)) (N' B' : Nat) : Prop := ∃ q vl' E' X', Tw w0 w' k b q r vl' E' X' N' N' B' ∧ Same E' X' N' ∧ Tst w w' p q r vl vl' ∧ E'.length ≤ E.length + 1
theorem ktrue {a b : Bool} (h : a = b) : (a == b) = true := by simp [h]
set_option maxRecDepth 20000 in
theorem pop_tw (t : Tw w0 w k b p r vl E X N N B) (hs : Same E X N) (hk : 0 ≤ k) (hE : E.length ≤ 65536) (hN : N ≤ 100000000) (hB : B ≤ 100000000) : Calls Try.prog 34 #[.agg #[.pointer (some ⟨p.h, 0, none⟩), .pointer (some ⟨r, 0, none⟩), .bool (decide (k < 4))]] w fun e w' => e = .returned (.bool true) ∧ TwN w0 w w' k b p r vl E N (B + 1) := by
  obtain ⟨w1, hw1⟩ : ∃ w1, w1 = w.alloc (.cells #[.pointer (some ⟨p.h, 0, none⟩), .pointer (some ⟨r, 0, none⟩), .bool (decide (k < 4))] 26) := ⟨_, rfl⟩
  have g1 : w.grownBy w1 none := by rw [hw1]; exact World.grownBy_alloc w _ none
  obtain ⟨bx, hbx⟩ : ∃ bx, bx = w.heap.size := ⟨_, rfl⟩
  have hb1 : w1.heap[bx]? = some (.cells [Value.pointer (some ⟨p.h, 0, none⟩), .pointer (some ⟨r, 0, none⟩), .bool (decide (k < 4))].toArray 26 (0, 0)) := by rw [hw1, hbx]; exact heap_alloc_new w _
  have t1 := t.then g1
  have hbo : ∀ j, TwO p r vl j → j ≠ bx := fun j e => by have := t.lt e; omega
  have hXl := hs.length
  have hw0 := t1.grown.size
  have HW := hide (And.intro hw1 (And.intro hbx (And.intro g1 (And.intro hb1 (And.intro hbo (And.intro t1 (And.intro hs (And.intro hXl hw0))))))))
  obtain ⟨T, s1⟩ := t1.hs
  have hpo := pop_any (lsK_ok k b) s1 hE hN hB
  by_cases hz : 0 < E.length
  · have hti : tn T 0 < E.length := (s1.good.sub 0 hz).2
    have htop : Top (lessK k) E (tn T 0) := ⟨T, s1.good, rfl⟩
    simp only [hz, if_true, decide_true] at hpo
    have HT := hide (And.intro hti htop)
    clear hti htop s1
    generalize tn T 0 = i at *
    have HPO := hide hpo
    clear hw1 hbx g1 hb1 hbo t1 hs hXl hw0 t hpo
    have hy : ∀ x : Int, (x == x) = true := fun x => by simp
    by_cases h4 : k < 4
    · rw [decide_eq_true h4] at HW ⊢
      go_enter Try.func34, Try.ntmps34
      go_wp2_with fail
      rw [← HW.out.1, ← HW.out.2.1]
      refine HPO.out.mono ?_
      rintro e w2 ⟨rfl, q, T', s2, st2⟩
      obtain ⟨t2, ts2⟩ := HW.out.2.2.2.2.2.1.heap s2 st2
      have hb2 := ts2.kept.at HW.out.2.2.2.1 (fun e => HW.out.2.2.2.2.1 _ e rfl)
      have x0 := cell_row hb2 0
      have x1 := cell_row hb2 1
      have x2 := cell_row hb2 2
      simp at x0 x1 x2
      have hrp := rpop_at t2.rf (by rw [HW.out.2.2.2.2.2.2.2.1]; exact hz) (by rw [HW.out.2.2.2.2.2.2.2.1]; exact hE) HW.out.2.2.2.2.2.2.1.hdsX (t2.grown.size) (fun e he => HW.out.2.2.2.2.2.1.ok e (HW.out.2.2.2.2.2.2.1.perm.subset he))
      have hle := HW.out.2.2.2.2.2.2.1.least hk h4 hz HT.out.2
      have hml : rl k X (X.length - 1) < X.length := by have := rl_le k X (X.length - 1); have := HW.out.2.2.2.2.2.2.2.1; omega
      rw [hle] at hrp
      generalize rl k X (X.length - 1) = m at *
      have H2 := hide (And.intro t2 (And.intro ts2 (And.intro s2.hds (And.intro hle hml))))
      clear t2 ts2 s2 st2 hb2 hle hml
      generalize (en E i).2 = y at *
      generalize (en E i).1 = n at *
      go_wp2_with fail
      refine hrp.mono ?_
      clear hrp
      rintro e w3 ⟨rfl, vl', rf3, st3⟩
      have H3 := hide (And.intro rf3 st3)
      clear rf3 st3
      go_wp2
      go_ret
      obtain ⟨t3, ts3⟩ := H2.out.1.ref H3.out.1 H3.out.2
      exact ⟨rfl, q, vl', outE E i, X.eraseIdx m, t3, HW.out.2.2.2.2.2.2.1.drop HT.out.1 H2.out.2.2.2.2 H2.out.2.2.2.1 H2.out.2.2.1, (Tst.grown HW.out.2.2.1 p r vl).trans (H2.out.2.1.trans ts3), by rw [outE_length]; omega⟩
    · rw [decide_eq_false h4] at HW ⊢
      go_enter Try.func34, Try.ntmps34
      go_wp2_with fail
      rw [← HW.out.1, ← HW.out.2.1]
      refine HPO.out.mono ?_
      rintro e w2 ⟨rfl, q, T', s2, st2⟩
      obtain ⟨t2, ts2⟩ := HW.out.2.2.2.2.2.1.heap s2 st2
      have hb2 := ts2.kept.at HW.out.2.2.2.1 (fun e => HW.out.2.2.2.2.1 _ e rfl)
      have x0 := cell_row hb2 0
      have x1 := cell_row hb2 1
      have x2 := cell_row hb2 2
      simp at x0 x1 x2
      rcases HW.out.2.2.2.2.2.2.1.fi ((en E i).1 : Int) with ⟨hf, -⟩ | ⟨i2, j, hi2, hj, hf, hfx, hej⟩
      · rw [fi_at HW.out.2.2.2.2.2.2.1.hds HT.out.1] at hf; cases hf
      have hii : i2 = i := by rw [fi_at HW.out.2.2.2.2.2.2.1.hds HT.out.1] at hf; simpa using hf.symm
      subst hii
      have hXE : X.length ≤ 65536 := by rw [HW.out.2.2.2.2.2.2.2.1]; exact hE
      have hrg := rget_at t2.rf hXE HW.out.2.2.2.2.2.2.1.hdsX ((en E i2).1 : Int)
      have hrd := rdrop_at t2.rf hXE HW.out.2.2.2.2.2.2.1.hdsX t2.grown.size ((en E i2).1 : Int)
      rw [hfx] at hrg hrd
      simp only [Option.elim, Option.isSome_some, hej] at hrg hrd
      have H2 := hide (And.intro t2 (And.intro ts2 (And.intro s2.hds (And.intro hej hj))))
      clear t2 ts2 s2 st2 hb2 hej hj hf hfx hi2
      generalize (en E i2).2 = y at *
      generalize (en E i2).1 = n at *
      go_wp2_with fail
      refine hrg.mono ?_
      clear hrg
      rintro e wz ⟨rfl, hwz⟩
      obtain rfl := hwz.symm
      go_wp2_with fail
      refine hrd.mono ?_
      clear hrd
      rintro e w3 ⟨rfl, vl', rf3, st3⟩
      have H3 := hide (And.intro rf3 st3)
      clear rf3 st3
      go_wp2
      go_ret
      obtain ⟨t3, ts3⟩ := H2.out.1.ref H3.out.1 H3.out.2
      exact ⟨rfl, q, vl', outE E i2, X.eraseIdx j, t3, HW.out.2.2.2.2.2.2.1.drop HT.out.1 H2.out.2.2.2.2 H2.out.2.2.2.1 H2.out.2.2.1, (Tst.grown HW.out.2.2.1 p r vl).trans (H2.out.2.1.trans ts3), by rw [outE_length]; omega⟩
  · have hE0 : E = [] := List.eq_nil_of_length_eq_zero (by omega)
    subst hE0
    have hX0 : X = [] := List.eq_nil_of_length_eq_zero (by simpa using hXl)
    subst hX0
    simp only [List.length_nil, Nat.lt_irrefl, if_false, decide_false] at hpo
    have HPO := hide hpo
    clear hw1 hbx g1 hb1 hbo t1 hs hXl hw0 t hpo s1 hz
    have hf0 : fi ([] : List (Nat × Int)) 0 = none := rfl
    by_cases h4 : k < 4
    · rw [decide_eq_true h4] at HW ⊢
      go_enter Try.func34, Try.ntmps34
      go_wp2_with fail
      rw [← HW.out.1, ← HW.out.2.1]
      refine HPO.out.mono ?_
      rintro e w2 ⟨rfl, q, T', s2, st2⟩
      obtain ⟨t2, ts2⟩ := HW.out.2.2.2.2.2.1.heap s2 st2
      have hb2 := ts2.kept.at HW.out.2.2.2.1 (fun e => HW.out.2.2.2.2.1 _ e rfl)
      have x0 := cell_row hb2 0
      have x1 := cell_row hb2 1
      have x2 := cell_row hb2 2
      simp at x0 x1 x2
      have hrp := rpop_none t2.rf t2.grown.size
      have H2 := hide (And.intro t2 ts2)
      clear t2 ts2 s2 st2 hb2
      go_wp2_with fail
      refine hrp.mono ?_
      clear hrp
      rintro e w3 ⟨rfl, vl', rf3, st3⟩
      have H3 := hide (And.intro rf3 st3)
      clear rf3 st3
      go_wp2
      go_ret
      obtain ⟨t3, ts3⟩ := H2.out.1.ref H3.out.1 H3.out.2
      exact ⟨rfl, q, vl', [], [], t3, HW.out.2.2.2.2.2.2.1, (Tst.grown HW.out.2.2.1 p r vl).trans (H2.out.2.trans ts3), by simp⟩
    · rw [decide_eq_false h4] at HW ⊢
      go_enter Try.func34, Try.ntmps34
      go_wp2_with fail
      rw [← HW.out.1, ← HW.out.2.1]
      refine HPO.out.mono ?_
      rintro e w2 ⟨rfl, q, T', s2, st2⟩
      obtain ⟨t2, ts2⟩ := HW.out.2.2.2.2.2.1.heap s2 st2
      have hb2 := ts2.kept.at HW.out.2.2.2.1 (fun e => HW.out.2.2.2.2.1 _ e rfl)
      have x0 := cell_row hb2 0
      have x1 := cell_row hb2 1
      have x2 := cell_row hb2 2
      simp at x0 x1 x2
      have hrg := rget_at t2.rf (by simp) HW.out.2.2.2.2.2.2.1.hdsX 0
      have hrd := rdrop_at t2.rf (by simp) HW.out.2.2.2.2.2.2.1.hdsX t2.grown.size 0
      rw [hf0] at hrg hrd
      simp only [Option.elim, Option.isSome_none] at hrg hrd
      have H2 := hide (And.intro t2 (And.intro ts2 hb2))
      clear t2 ts2 s2 st2 hb2 hf0
      go_wp2_with fail
      refine hrg.mono ?_
      clear hrg
      rintro e wz ⟨rfl, hwz⟩
      obtain rfl := hwz.symm
      go_wp2_with fail
      refine hrd.mono ?_
      clear hrd
      rintro e w3 ⟨rfl, vl', rf3, st3⟩
      obtain ⟨t3, ts3⟩ := H2.out.1.ref rf3 st3
      have hb3 := ts3.kept.at H2.out.2.2 (fun e => by
        rcases H2.out.2.1.own _ e with e | e
        · exact HW.out.2.2.2.2.1 _ e rfl
        · have := row_lt HW.out.2.2.2.1; omega)
      have y1 := cell_row hb3 1
      simp at y1
      obtain ⟨-, c1, -⟩ := rf3.cells
      obtain ⟨vo, cp, rfl, -⟩ := own_formA rf3.row
      have H3 := hide (And.intro t3 ts3)
      clear rf3 st3 t3 ts3 hb3 x0 x1 x2
      go_wp2
      go_ret
      exact ⟨rfl, q, _, [], [], H3.out.1, HW.out.2.2.2.2.2.2.1, (Tst.grown HW.out.2.2.1 p r vl).trans (H2.out.2.1.trans H3.out.2), by simp⟩
end
end Go.Proofs.Ytkbhjdjdjfdikaa
