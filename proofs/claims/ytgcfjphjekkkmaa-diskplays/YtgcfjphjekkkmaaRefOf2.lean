/- The document's Of. -/
import Derived.Test.YtgcfjphjekkkmaaRefD
import Derived.Deep.RegionLaw
namespace Go.Proofs.Ytgcfjphjekkkmaa
open Go.RowKit Ap
attribute [local go_sem ↓] Go.wp_at_zero Go.wp_at_succ

/-- What Of has made of rows whose first one has sz bytes. -/
def RofAt (w w' : World) (R : List (List Nat)) (sz rb : Nat) (c : Int) : Prop :=
  w.heap.size ≤ rb ∧ w.grownBy w' none ∧ ((c = 0 ∧ (∀ y ∈ R, y.length = sz) ∧ ∃ v S, w'.heap[rb]? = some (.cells #[v, .slice none 0 0] 54 (0, 0)) ∧ RowAt w' w.heap.size v S ∧ S.map Bx.xs = R) ∨ (c = 2 ∧ (∃ y ∈ R, y.length ≠ sz) ∧ Empty w' rb))

theorem push_pre {wr w1 w2 : World} {lo rb : Nat} {v vw u : Value} {S : List Bx} (hb : wr.heap[rb]? = some (.cells #[v, vw] 54 (0, 0))) (hR : RowAt wr lo v S) (g1 : wr.grownBy w1 none) (g2 : (w1.alloc (.cells #[u] 46)).grownBy w2 v.ownBlock) :
    w1.cell? ⟨rb, 0, none⟩ = some v ∧ (w1.alloc (.cells #[u] 46)).cell? ⟨rb, 0, none⟩ = some v ∧ w2.cell? ⟨rb, 0, none⟩ = some v ∧ w2.frozen? ⟨rb, 0, none⟩ = false := by
  have hvn : v.ownBlock ≠ some rb := by
    intro e
    obtain ⟨_, c1, q1⟩ := own_block hR.row rb e
    rw [hb] at q1
    simp at q1
  have h1 := (g1.block rb (row_lt hb) (by simp)).trans hb
  have h2 := ((World.grownBy_alloc w1 (.cells #[u] 46) none).block rb (row_lt h1) (by simp)).trans h1
  have h3 := (g2.block rb (row_lt h2) (fun e => hvn e.symm)).trans h2
  exact ⟨cell_row (l := [v, vw]) h1 0, cell_row (l := [v, vw]) h2 0, cell_row (l := [v, vw]) h3 0, free_row h3 0⟩
/-- append, as one step of a region that draws, by its run. -/
theorem step_append_run {P : Program} {ops : Array Oper} {o : Oper} {a : Act} {w : World} {K : Act → World → Prop} {Q : Exit → Act → World → Prop} {E : Prop} (hg : o.guard = none) (s x : Operand) (t : TypeId) (hop : o.op = Op.call { callee := Callee.builtin Builtin.append, args := #[s, x], argTypes := #[t, t] })
    (v u : Value) (hs : a.eval s = v) (hx : a.eval x = u) {v' : Value} {w' : World} (hrun : ∀ ty, (Builtin.append_ #[t, t] ty #[v, u]).run P w = .ok v' w') (hK : K (a.put o.dst v') w') :
    if Region.wanted o (yielded ops a.tmps) = true then Oper.wp P o a w K Q else E := by
  have hw : Region.wanted o (yielded ops a.tmps) = true := by simp [Region.wanted, hg]
  rw [if_pos hw]
  have hr := hrun o.type
  unfold Oper.wp
  simp [execOp, hop, resolve, invoke, builtin, hs, hx, hr, Result.andThen]
  exact hK
/-- A row's twin, and what an append of it comes to. -/
theorem twin_push {wq : World} {lo rb j vcap sz cap : Nat} {vo ao : Option Addr} {vw : Value} {S : List Bx} {y : List Nat} (hb : wq.heap[rb]? = some (.cells #[.slice vo j vcap, vw] 54 (0, 0))) (hR : RowAt wq lo (.slice vo j vcap) S) (hS : S.length = j) (hat : At wq ao y) (hl : y.length = sz) (hs0 : 0 < sz) (hnil : ao = none → sz = 0 ∧ cap = 0) (hs1 : sz ≤ 140737488355328) (hlo : lo ≤ wq.heap.size) (hj : j ≤ 65536) :
    Calls Try.prog 53 #[.slice ao sz cap] wq.drew fun e w1 => ∃ gt ct g cap2 w2, e = .returned (.slice (some ⟨gt, 0, none⟩) sz ct) ∧ (∀ ty, (Builtin.append_ #[42, 42] ty #[.slice vo j vcap, .slice (some ⟨w1.heap.size, 0, none⟩) 1 1]).run Try.prog (w1.alloc (.cells #[.slice (some ⟨gt, 0, none⟩) sz ct] 46)) = .ok (.slice (some ⟨g, 0, none⟩) (j + 1) cap2) w2) ∧
      w1.cell? ⟨rb, 0, none⟩ = some (.slice vo j vcap) ∧ (w1.alloc (.cells #[.slice (some ⟨gt, 0, none⟩) sz ct] 46)).cell? ⟨rb, 0, none⟩ = some (.slice vo j vcap) ∧ w2.cell? ⟨rb, 0, none⟩ = some (.slice vo j vcap) ∧ w2.frozen? ⟨rb, 0, none⟩ = false ∧
      Hid ((w2.setCell ⟨rb, 0, none⟩ (.slice (some ⟨g, 0, none⟩) (j + 1) cap2)).heap[rb]? = some (.cells #[.slice (some ⟨g, 0, none⟩) (j + 1) cap2, vw] 54 (0, 0)) ∧ RowAt (w2.setCell ⟨rb, 0, none⟩ (.slice (some ⟨g, 0, none⟩) (j + 1) cap2)) lo (.slice (some ⟨g, 0, none⟩) (j + 1) cap2) (S ++ [⟨gt, ct, y⟩]) ∧ Kept wq (w2.setCell ⟨rb, 0, none⟩ (.slice (some ⟨g, 0, none⟩) (j + 1) cap2)) (fun i => i = rb ∨ (Value.slice vo j vcap).ownBlock = some i)) := by
  refine (twin_any ao sz cap y wq.drew hat hl hs0 hnil hs1).mono ?_
  rintro e w1 ⟨gt, ct, rfl, o1, g1⟩
  have g1' := grown_trans (grown_drew wq none) g1
  have hro := (hR.grown g1').row
  rw [hS] at hro
  obtain ⟨g, cap2, w2, hrun, o2, g2⟩ := run_row hro (Nat.le_trans hlo g1'.size) (.slice (some ⟨gt, 0, none⟩) sz ct) rfl hj
  obtain ⟨c1, c2, c3, c4⟩ := push_pre hb hR g1' g2
  have gz := World.grownBy_alloc w1 (.cells #[.slice (some ⟨gt, 0, none⟩) sz ct] 46) none
  exact ⟨gt, ct, g, cap2, w2, rfl, hrun, c1, c2, c3, c4, hide (push_row hb hR (grown_trans g1' gz) (BxAt.grown o1 gz) hlo (by rw [hS, ← hl] at *; exact o2) g2)⟩
set_option maxRecDepth 20000 in
set_option maxHeartbeats 4000000 in
theorem rof_loop {w : World} {ro : Option Addr} {cap n sz : Nat} {R : List (List Nat)} (h : RowsIn w ro R) (hn : R.length = n) (hn0 : 0 < n) (xs : List Nat) (hx : R[0]? = some xs) (hsz : xs.length = sz) (hm : mayB (n : Int) (sz : Int) = true) (hnn : n ≤ 65536) (hs0 : 0 < sz) (hs1 : sz ≤ 4096) : Calls Try.prog 26 #[.slice ro n cap] w fun e w' => ∃ rb c, e = .returned (.tuple #[.pointer (some ⟨rb, 0, none⟩), .int .i64 c]) ∧ RofAt w w' R sz rb c := by
  obtain ⟨b, o, ao, c, rfl, h1, -⟩ := h 0 xs hx
  rw [hsz] at h1
  have hc : (w.alloc (.cells #[.slice none 0 0, .slice none 0 0] 54)).cell? ⟨b, o, none⟩ = some (.slice ao sz c) := (World.grownBy_alloc w _ none).cell h1 (by simp)
  have HM : Hid (∀ w, Calls Try.prog 10 #[.int .i64 (n : Int), .int .i64 (sz : Int)] w fun e w' => e = .returned (.bool true) ∧ w' = w) := fun w => by have := mayR_any n sz w; rw [hm] at this; exact this
  have m0 : (0 : Int) < (n : Int) := by omega
  have m1 : ¬ (n : Int) = 0 := by omega
  have m2 : ((n : Int) == 0) = false := by simpa using m1
  have m3 : decide ((n : Int) = 0) = false := by simpa using m1
  have HH := hide (And.intro h (And.intro hn h1))
  have H0 := hide (And.intro (heap_alloc_new w (.cells #[.slice none 0 0, .slice none 0 0] 54)) (World.grownBy_alloc w (.cells #[.slice none 0 0, .slice none 0 0] 54) none))
  clear h hx hm h1 hn
  go_enter Try.func26, Try.ntmps26
  go_wp2_with fail
  refine (HM.out _).mono ?_
  rintro e w1 ⟨rfl, rfl⟩
  obtain ⟨rb, hrb⟩ : ∃ rb, rb = w.heap.size := ⟨_, rfl⟩
  have HB := hide hrb
  rw [← hrb] at H0 ⊢
  clear hrb
  go_wp2
  go_loopg [5] n (fun q i wr => ∃ j : Nat, q + j = n ∧ i = .int .i64 j ∧ Hid (∃ v S, S.length = j ∧ wr.heap[rb]? = some (.cells #[v, .slice none 0 0] 54 (0, 0)) ∧ RowAt wr rb v S ∧ S.map Bx.xs = R.take j ∧ (∀ y ∈ R.take j, y.length = sz) ∧ w.grownBy wr none))
  case atStart => exact ⟨0, by omega, rfl, hide ⟨.slice none 0 0, [], rfl, by rw [HB.out] at H0 ⊢; exact H0.out.1, RowAt.nil _ _, by simp, by simp, H0.out.2⟩⟩
  case round =>
    obtain ⟨j, hkj, rfl, HR⟩ := hrel
    obtain ⟨v, S, u0, u1, u2, u3, u4, u5⟩ := HR.out
    by_cases hk : 0 < gk
    · have hj : j < n := by omega
      have hjR : j < R.length := by have := HH.out.2.1; omega
      obtain ⟨b', o', ao', c', e', x1, x2, x3, x4⟩ := (HH.out.1.grown u5) j R[j] (List.getElem?_eq_getElem hjR)
      cases e'
      have y1 : wr.cell? ⟨b, o, none⟩ = some (.slice ao sz c) := u5.cell HH.out.2.2 (by simp)
      have hxj := List.getElem?_eq_getElem hjR
      generalize R[j] = y at *
      obtain ⟨ln, hln⟩ : ∃ ln, ln = y.length := ⟨_, rfl⟩
      rw [← hln] at x1 x4 x3
      have h1 : (0 : Int) ≤ (j : Int) := by omega
      have h2 : (j : Int) < (n : Int) := by omega
      by_cases hl : ln = sz
      · rw [hl] at x1 x3 x4 hln
        obtain ⟨vo, vcap, hv, -, -, -⟩ := own_form u2.row
        rw [u0] at hv
        subst hv
        have hcv : wr.cell? ⟨rb, 0, none⟩ = some (.slice vo j vcap) := cell_row (l := [.slice vo j vcap, .slice none 0 0]) u1 0
        have HX := hide (And.intro u1 (And.intro u2 (And.intro u3 (And.intro u4 (And.intro u5 (And.intro hxj (And.intro hln u0)))))))
        have HX2 := hide (And.intro x2 x3)
        clear u0 u1 u2 u3 u4 u5 hxj hln x2 x3 HR
        go_wp2
        go_quiet (fail)
        have HXq : Hid ((wr.drewN nq).heap[rb]? = some (.cells #[.slice vo j vcap, .slice none 0 0] 54 (0, 0)) ∧ RowAt (wr.drewN nq) rb (.slice vo j vcap) S ∧ w.grownBy (wr.drewN nq) none ∧ At (wr.drewN nq) ao' y) := ⟨HX.out.1, HX.out.2.1.grown (grown_drewN _ _ _), grown_trans HX.out.2.2.2.2.1 (grown_drewN _ _ _), HX2.out.1⟩
        have x1q : (wr.drewN nq).cell? ⟨b, o + j, none⟩ = some (.slice ao' sz c') := x1
        have hcvq : (wr.drewN nq).cell? ⟨rb, 0, none⟩ = some (.slice vo j vcap) := hcv
        clear x1 hcv y1
        generalize wr.drewN nq = wq at *
        go_wp2
        have hlo : rb ≤ wq.heap.size := Nat.le_of_lt (row_lt HXq.out.1)
        have HT := hide (twin_push (sz := sz) (cap := c') HXq.out.1 HXq.out.2.1 HX.out.2.2.2.2.2.2.2 HXq.out.2.2.2 HX.out.2.2.2.2.2.2.1.symm (by omega) HX2.out.2 (by omega) hlo (by omega))
        go_region_law (first | (refine step_append_run (by rfl) _ _ _ (by rfl) _ _ (by rfl) (by rfl) hrun ?_; clear hrun) | (go_simp; go_wp2_with (go_at_call 53; refine HT.out.mono ?_; rintro e w1 ⟨gt, ct, g, cap2, w2, rfl, hrun, c1, c2, c3, c4, P2⟩)))
        all_goals
          go_wp2
          go_roundg (gk - 1)
          case measure => omega
          case rel =>
            obtain ⟨p1, p2, p3⟩ := P2.out
            obtain ⟨f1, f2, f3, f4, f5, fx, fl, f0⟩ := HX.out
            have hvb : ∀ i, i < w.heap.size → ¬ (i = rb ∨ (Value.slice vo j vcap).ownBlock = some i) := by
              rintro i hi (e | e)
              · have := HB.out; omega
              · have := (own_block f2.row i e).1; have := HB.out; omega
            refine ⟨j + 1, by omega, by go_num, hide ⟨_, S ++ [⟨gt, ct, y⟩], by simp [f0], p1, p2, ?_, ?_, ?_⟩⟩
            · rw [List.map_append, f3, take_snoc _ j y fx]; rfl
            · intro z hz
              rw [take_snoc _ j y fx] at hz
              rcases List.mem_append.1 hz with hz | hz
              · exact f4 z hz
              · simp at hz; subst hz; omega
            · exact ((Kept.new HXq.out.2.2.1 _).trans p3 (fun _ _ e => e)).grown hvb
      · have HX := hide (And.intro u1 (And.intro u2 (And.intro u3 (And.intro u4 (And.intro u5 (And.intro hxj (And.intro hln u0)))))))
        clear u0 u1 u2 u3 u4 u5 hxj hln x2 x3 HR
        have hne : ¬ (ln : Int) = (sz : Int) := by omega
        go_wp2
        go_quiet (fail)
        go_wp2
        go_ret2
        obtain ⟨f1, f2, f3, f4, f5, fx, fl, f0⟩ := HX.out
        have hg := grown_trans f5 (grown_drewN wr nq none)
        refine ⟨_, _, rfl, f5.size, grown_trans hg (World.grownBy_alloc _ _ none), Or.inr ⟨rfl, ⟨y, List.mem_of_getElem? fx, by omega⟩, ?_⟩⟩
        exact heap_alloc_new (wr.drewN nq) _
    · have hj : j = n := by omega
      subst hj
      have HX := hide (And.intro u1 (And.intro u2 (And.intro u3 (And.intro u4 u5))))
      clear u0 u1 u2 u3 u4 u5 HR hkj hk
      go_wp2
      go_ret2
      obtain ⟨f1, f2, f3, f4, f5⟩ := HX.out
      rw [List.take_of_length_le (by rw [HH.out.2.1]; exact Nat.le_refl _)] at f3 f4
      rw [HB.out] at f2
      exact ⟨rb, _, rfl, by rw [HB.out]; exact Nat.le_refl _, f5, Or.inl ⟨rfl, f4, v, S, f1, f2, f3⟩⟩
end Go.Proofs.Ytgcfjphjekkkmaa
