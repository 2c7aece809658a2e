/- RequestsAgain: the walk. -/
import Derived.Test.YtkocmlfklokngaaQh
import Derived.Test.YtkocmlfklokngaaKApart2
namespace Go.Proofs.Ytkocmlfklokngaa
open Go.RowKit
attribute [local go_sem ↓] Go.wp_at_zero Go.wp_at_succ
/-- Inside a law: a request's box. -/
structure AgS (w wr : World) (q : Rq) (P : Nat) : Prop where
  box : wr.heap[P]? = some (.cells [Value.int .i64 q.k, .int .u32 q.t, .int .u32 q.i, .int .i64 q.s, .int .i64 q.u].toArray 25 (0, 0))
  lo : w.heap.size ≤ P
  gr : w.grownBy wr none
theorem AgS.new {w wr wr' : World} {q : Rq} {P : Nat} (h : AgS w wr q P) (hg : wr.grownBy wr' none) : AgS w wr' q P := ⟨box_new h.box hg, h.lo, grown_trans h.gr hg⟩
set_option maxRecDepth 20000 in
set_option maxHeartbeats 8000000 in
theorem again_any (ao : Option Addr) (n cap : Nat) (xs : List Int) (w : World) (hn : xs.length = n) (hat : At w ao xs) (hB : Byt xs) (hnil : ao = none → n = 0 ∧ cap = 0) (hb : n ≤ 140737488351232) :
    Calls Try.prog 6 #[.slice ao n cap] w fun e w' => e = .returned (.bool true) ∧ w.grownBy w' none := by
  have HX := hide (And.intro hn (And.intro hat (And.intro hB (And.intro hnil hb))))
  clear hn hat hB hnil hb
  go_enter Try.func6, Try.ntmps6
  go_wp2_with fail
  refine (awake_any w).mono ?_
  rintro e w1 ⟨rfl, hg⟩
  have G1 := hide hg
  clear hg
  have qc := copy_any ao n cap xs w1 HX.out.1 (HX.out.2.1.kept G1.out (fun _ _ e => by cases e)) HX.out.2.2.2.1 (by have := HX.out.2.2.2.2; omega)
  go_wp2_with fail
  refine qc.mono ?_
  clear qc
  rintro e w2 ⟨v, rfl, hown, hg⟩
  have G2 := hide (grown_trans G1.out hg)
  obtain ⟨ao2, cap2, rfl, hl2, hc2, hm2, hat2, hn2, _⟩ := own_at hown
  have qg := get_any xs HX.out.2.2.1 ao2 n cap2 w2 hl2 hat2 hn2
  have hcs := getQ_cases xs
  have HU : Hid ((getQ xs).2 = 0 → (rqOf xs).Ok ∧ (rqOf xs).out = xs) := fun h => by
    rcases getQ_cases xs with ⟨_, _, c, d⟩ | ⟨_, b, _⟩
    · exact ⟨rqOf_ok HX.out.2.2.1, out_rqOf HX.out.2.2.1 c d⟩
    · rw [b] at h; exact absurd h (by decide)
  generalize getQ xs = res at *
  obtain ⟨r, ec⟩ := res
  dsimp only at qg hcs HU
  clear hown hg hl2 hc2 hm2 hat2 hn2 G1
  rcases hcs with ⟨rfl, rfl, hm, hl⟩ | ⟨rfl, rfl, _⟩
  · have HM := hide (And.intro hm (And.intro hl (HU.out rfl)))
    clear hm hl HU
    generalize rqOf xs = q at *
    unfold rqV at qg
    go_wp2_with fail
    refine qg.mono ?_
    clear qg
    rintro e w3 ⟨rfl, hg⟩
    have g4 := World.grownBy_alloc w3 (.cells #[.int .i64 q.k, .int .u32 q.t, .int .u32 q.i, .int .i64 q.s, .int .i64 q.u] 25) none
    have S4 : Hid (AgS w (w3.alloc (.cells #[.int .i64 q.k, .int .u32 q.t, .int .u32 q.i, .int .i64 q.s, .int .i64 q.u] 25)) q w3.heap.size) := ⟨heap_alloc_new w3 _, (grown_trans G2.out hg).size, grown_trans (grown_trans G2.out hg) g4⟩
    clear hg g4 G2
    obtain ⟨c0, c1, c2, c3, c4⟩ := box5 S4.out.box
    have qp := put_req q HM.out.2.2.1 (w3.alloc (.cells #[.int .i64 q.k, .int .u32 q.t, .int .u32 q.i, .int .i64 q.s, .int .i64 q.u] 25))
    rw [show chk q = 0 from if_pos HM.out.1] at qp
    unfold rqV at qp
    go_wp2_with fail
    generalize w3.alloc (.cells #[.int .i64 q.k, .int .u32 q.t, .int .u32 q.i, .int .i64 q.s, .int .i64 q.u] 25) = w4 at *
    generalize w3.heap.size = P at *
    refine qp.mono ?_
    clear qp c0 c1 c2 c3 c4
    rintro e w5 ⟨v5, rfl, hp, hg⟩
    rcases hp with ⟨_, g1, rfl, hg1, row1⟩ | ⟨hx, _⟩
    case inr => exact absurd HM.out.1 hx
    have S5 := hide (S4.out.new hg)
    have R5 := hide (And.intro (Nat.le_trans S4.out.gr.size hg1) row1)
    clear hg hg1 row1 S4
    have hol := out_length q
    rw [HM.out.2.2.2, HX.out.1] at hol
    rw [← hol]
    have HOL := hide hol
    clear hol
    obtain ⟨c0, c1, c2, c3, c4⟩ := box5 S5.out.box
    have qp := put_req q HM.out.2.2.1 w5
    rw [show chk q = 0 from if_pos HM.out.1] at qp
    unfold rqV at qp
    go_wp2_with fail
    refine qp.mono ?_
    clear qp c0 c1 c2 c3 c4
    rintro e w6 ⟨v6, rfl, hp, hg⟩
    rcases hp with ⟨_, g2, rfl, hg2, row2⟩ | ⟨hx, _⟩
    case inr => exact absurd HM.out.1 hx
    have S6 := hide (S5.out.new hg)
    have R6 : Hid (w.heap.size ≤ g1 ∧ g1 < g2 ∧ w6.heap[g1]? = some (.cells (q.out.map (Value.int .u8)).toArray 5 (0, 0)) ∧ w6.heap[g2]? = some (.cells (q.out.map (Value.int .u8)).toArray 5 (0, 0))) := ⟨R5.out.1, Nat.lt_of_lt_of_le (row_lt R5.out.2) hg2, box_new R5.out.2 hg, row2⟩
    clear hg hg2 row2 S5 R5
    rw [← HOL.out]
    obtain ⟨c0, c1, c2, c3, c4⟩ := box5 S6.out.box
    have qk := check_any q HM.out.2.2.1 w6
    rw [show chk q = 0 from if_pos HM.out.1] at qk
    unfold rqV at qk
    go_wp2_with fail
    refine qk.mono ?_
    clear qk c0 c1 c2 c3 c4
    rintro e w7 ⟨rfl, hg⟩
    have S7 := hide (S6.out.new hg)
    have R7 : Hid (w.heap.size ≤ g1 ∧ g1 < g2 ∧ w7.heap[g1]? = some (.cells (q.out.map (Value.int .u8)).toArray 5 (0, 0)) ∧ w7.heap[g2]? = some (.cells (q.out.map (Value.int .u8)).toArray 5 (0, 0))) := ⟨R6.out.1, R6.out.2.1, box_new R6.out.2.2.1 hg, box_new R6.out.2.2.2 hg⟩
    clear hg S6 R6
    have a1 := at_row R7.out.2.2.1
    rw [HM.out.2.2.2] at a1
    have qs := same_eq (some ⟨g1, 0, none⟩) ao n n cap xs w7 HX.out.1 a1 (HX.out.2.1.kept S7.out.gr (fun _ _ e => by cases e)) (by have := HX.out.2.2.2.2; omega)
    clear a1
    go_wp2_with fail
    refine qs.mono ?_
    clear qs
    rintro e w8 ⟨rfl, hg⟩
    have S8 := hide (S7.out.new hg)
    have R8 : Hid (w.heap.size ≤ g1 ∧ g1 < g2 ∧ w8.heap[g1]? = some (.cells (q.out.map (Value.int .u8)).toArray 5 (0, 0)) ∧ w8.heap[g2]? = some (.cells (q.out.map (Value.int .u8)).toArray 5 (0, 0))) := ⟨R7.out.1, R7.out.2.1, box_new R7.out.2.2.1 hg, box_new R7.out.2.2.2 hg⟩
    clear hg S7 R7
    have hlq : (q.out.map (Value.int .u8)).length = n := by rw [HM.out.2.2.2, List.length_map, HX.out.1]
    have hR : Ap.Rw w8 0 [.slice (some ⟨g1, 0, none⟩) n n, .slice (some ⟨g2, 0, none⟩) n n] :=
      Ap.Rw.cons (Ap.own_of_row R8.out.2.2.1 hlq (Nat.zero_le _) (by unfold maxLen; have := HX.out.2.2.2.2; omega)) (by have := HX.out.2.2.2.2; omega) (fun u hu => by
        simp only [List.mem_cons, List.not_mem_nil, or_false] at hu
        subst hu
        right
        intro e
        have := R8.out.2.1
        have e : some g1 = some g2 := e
        simp at e
        omega)
      (Ap.Rw.cons (Ap.own_of_row R8.out.2.2.2 hlq (Nat.zero_le _) (by unfold maxLen; have := HX.out.2.2.2.2; omega)) (by have := HX.out.2.2.2.2; omega) (fun u hu => by cases hu) (Ap.Rw.nil _ _))
    have hap := Ap.apartBytes_rows 0 _ w8 hR (Nat.zero_le _) (by simp) (by simp)
    clear hR hlq
    go_wp2_with fail
    refine hap.mono ?_
    clear hap
    rintro e w9 ⟨rfl, hg⟩
    have hTT : ∀ k, (∃ i, i < 2 ∧ (([.slice (some ⟨g1, 0, none⟩) n n, .slice (some ⟨g2, 0, none⟩) n n] : List Value).getD i undef).ownBlock = some k) → k = g1 ∨ k = g2 := by
      rintro k ⟨i, hi, e⟩
      have h3 : i = 0 ∨ i = 1 := by omega
      rcases h3 with rfl | rfl
      · left
        have e : some g1 = some k := e
        simpa using e.symm
      · right
        have e : some g2 = some k := e
        simpa using e.symm
    have hPne : P ≠ g1 ∧ P ≠ g2 := by
      refine ⟨fun e => ?_, fun e => ?_⟩
      · have h1 := S8.out.box; have h2 := R8.out.2.2.1; rw [e, h2] at h1; simp at h1
      · have h1 := S8.out.box; have h2 := R8.out.2.2.2; rw [e, h2] at h1; simp at h1
    have S9 : Hid (AgS w w9 q P) := ⟨(hg.block _ (row_lt S8.out.box) (fun t => by have := hTT _ t; have := hPne; omega)).trans S8.out.box, S8.out.lo, Ap.grownT_after S8.out.gr hg (fun k t => by have := hTT k t; have := R8.out; omega)⟩
    clear hTT hPne hg S8 R8
    obtain ⟨c0, c1, c2, c3, c4⟩ := box5 S9.out.box
    have qp := put_req q HM.out.2.2.1 w9
    rw [show chk q = 0 from if_pos HM.out.1] at qp
    unfold rqV at qp
    go_wp2_with fail
    refine qp.mono ?_
    clear qp c0 c1 c2 c3 c4
    rintro e w10 ⟨v10, rfl, hp, hg⟩
    rcases hp with ⟨_, g3, rfl, hg3, row3⟩ | ⟨hx, _⟩
    case inr => exact absurd HM.out.1 hx
    have S10 := hide (S9.out.new hg)
    have a1 := at_row row3
    rw [HM.out.2.2.2] at a1
    have qs := same_eq (some ⟨g3, 0, none⟩) ao n n cap xs w10 HX.out.1 a1 (HX.out.2.1.kept S10.out.gr (fun _ _ e => by cases e)) (by have := HX.out.2.2.2.2; omega)
    clear a1 hg hg3 row3 S9
    rw [← HOL.out]
    go_wp2_with fail
    refine qs.mono ?_
    clear qs
    rintro e w11 ⟨rfl, hg⟩
    have S11 := hide (S10.out.new hg)
    clear hg
    go_wp2
    go_ret
    exact ⟨rfl, S11.out.gr⟩
  · unfold zRq rqV at qg
    dsimp only at qg
    clear HU
    go_wp2_with fail
    refine qg.mono ?_
    clear qg
    rintro e w3 ⟨rfl, hg⟩
    have G4 := hide (grown_trans (grown_trans G2.out hg) (World.grownBy_alloc w3 (.cells #[.int .i64 0, .int .u32 0, .int .u32 0, .int .i64 0, .int .i64 0] 25) none))
    obtain ⟨c0, c1, c2, c3, c4⟩ := box5 (heap_alloc_new w3 (.cells [Value.int .i64 0, .int .u32 0, .int .u32 0, .int .i64 0, .int .i64 0].toArray 25))
    clear hg
    go_wp2
    go_ret
    exact ⟨rfl, G4.out⟩
end Go.Proofs.Ytkocmlfklokngaa
