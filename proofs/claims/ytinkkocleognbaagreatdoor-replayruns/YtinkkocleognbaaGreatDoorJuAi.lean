/- Texts joined: JnAi. -/
import Derived.Test.YtinkkocleognbaaGreatDoorJuAh
/- Texts joined: Bk9, BkA, BkB, BkC. -/
/- What a shape tells; a hold that may be. -/
namespace Go.Proofs.YtinkkocleognbaaGreatDoor
theorem pA {α : Type} (l : List α) (i : Nat) (a : α) : l.toArray.setIfInBounds i a = (l.set i a).toArray := List.setIfInBounds_toArray l i a
theorem pB {α : Type} (x y : α) (l : List α) : (x :: l).set 0 y = y :: l := rfl
theorem pC {α : Type} (x y : α) (l : List α) (n : Nat) : (x :: l).set (n + 1) y = x :: l.set n y := rfl
/-- A move that is ready is taken; what it asks is asked by itself. -/
theorem tkH {P : Program} {ops : Array Oper} {Q : Exit → Act → World → Prop} {md : Region.Mode} {S : World → Prop} {i : Nat} {oi : Oper} {v : Value} {fuel : Nat} {listed : Array Bool} {a : Act} {w : World} (hi : ops[i]? = some oi) (hy : ∀ w, S w → (execOp a.eval oi).run P w = .ok (.value v) w) (h : wpAnyH P md ops Q S fuel (listed.setIfInBounds i true) (a.put oi.dst v) w) (hw : Region.wanted oi (yielded ops a.tmps) = true := by rfl) (hs : Region.noSelect ops = true := by kernel_rfl) (hf : Region.free md ops listed i = true := by kernel_rfl) (hr : (Region.ready md ops listed).contains i = true := by kernel_rfl) (hQ : ∀ c a w, Q (.panic c) (a.put oi.dst v) w → Q (.panic c) a w := by exact fun _ _ _ h => h) (hS : S w := by assumption) : wpAnyH P md ops Q S (fuel + 1) listed a w :=
  wpAnyH_take hi hs hf hr hQ (Or.inl ⟨hw, hy⟩) hS h
/-- The same, its value told by the walk's own words. -/
theorem tkQ {P : Program} {ops : Array Oper} {Q : Exit → Act → World → Prop} {md : Region.Mode} {S : World → Prop} (i : Nat) {oi : Oper} {v : Value} {fuel : Nat} {listed : Array Bool} {a : Act} {w : World} (hi : ops[i]? = some oi) (h : wpAnyH P md ops Q S fuel (listed.setIfInBounds i true) (a.put oi.dst v) w) (hy : ∀ w, S w → (execOp a.eval oi).run P w = .ok (.value v) w := by (intro w hSw; (try dsimp only at hSw); (go_simp <;> with_reducible rfl))) (hw : Region.wanted oi (yielded ops a.tmps) = true := by rfl) (hs : Region.noSelect ops = true := by kernel_rfl) (hf : Region.free md ops listed i = true := by kernel_rfl) (hr : (Region.ready md ops listed).contains i = true := by kernel_rfl) (hQ : ∀ c a w, Q (.panic c) (a.put oi.dst v) w → Q (.panic c) a w := by exact fun _ _ _ h => h) (hS : S w := by assumption) : wpAnyH P md ops Q S (fuel + 1) listed a w :=
  wpAnyH_take hi hs hf hr hQ (Or.inl ⟨hw, hy⟩) hS h
/-- A move that is not wanted is passed by. -/
theorem skH {P : Program} {ops : Array Oper} {Q : Exit → Act → World → Prop} {md : Region.Mode} {S : World → Prop} (i : Nat) {oi : Oper} {fuel : Nat} {listed : Array Bool} {a : Act} {w : World} (hi : ops[i]? = some oi) (h : wpAnyH P md ops Q S fuel (listed.setIfInBounds i true) (a.put oi.dst undef) w) (hw : Region.wanted oi (yielded ops a.tmps) = false := by rfl) (hs : Region.noSelect ops = true := by kernel_rfl) (hf : Region.free md ops listed i = true := by kernel_rfl) (hr : (Region.ready md ops listed).contains i = true := by kernel_rfl) (hQ : ∀ c a w, Q (.panic c) (a.put oi.dst undef) w → Q (.panic c) a w := by exact fun _ _ _ h => h) (hS : S w := by assumption) : wpAnyH P md ops Q S (fuel + 1) listed a w :=
  wpAnyH_take hi hs hf hr hQ (Or.inr ⟨hw, rfl⟩) hS h
/-- The one move that may come up next comes up. -/
theorem rdH {P : Program} {ops : Array Oper} {Q : Exit → Act → World → Prop} {md : Region.Mode} {S : World → Prop} {i : Nat} {o : Oper} {fuel : Nat} {listed : Array Bool} {a : Act} {w : World} (ho : ops[i]? = some o) (h : ∀ K' : Act → World → Prop, Shut (∀ a w, S w → (S w → wpAnyH P md ops Q S fuel (listed.setIfInBounds i true) a w) → K' a w) → if Region.wanted o (yielded ops a.tmps) = true then Oper.wp P o a w K' Q else K' (a.put o.dst undef) w) (hr : Region.ready md ops listed = [i] := by kernel_rfl) : wpAnyH P md ops Q S (fuel + 1) listed a w :=
  wpAnyH_ready hr (by simp) (AllReadyH.cons ho h AllReadyH.nil)
end Go.Proofs.YtinkkocleognbaaGreatDoor
namespace Go.Proofs.YtinkkocleognbaaGreatDoor
open Go.RowKit
attribute [local go_sem ↓] Go.wp_at_zero Go.wp_at_succ
def limV (a b c : Nat) : Value := .agg #[.int .i64 (a : Int), .int .i64 (b : Int), .int .i64 (c : Int)]
theorem hasSeat_any (a b c : Nat) (s : Int) (w : World) : Calls Tryz.prog 110 #[limV a b c, .int .i64 s] w fun e w' => e = .returned (.bool (decide (0 ≤ s ∧ s < (a : Int)))) ∧ w.grownBy w' none := by
  have hg : ∀ o, w.grownBy (w.alloc o) none := fun o => grown_alloc w o
  unfold limV
  by_cases h1 : 0 ≤ s
  · by_cases h2 : s < (a : Int)
    · rw [decide_eq_true (show 0 ≤ s ∧ s < (a : Int) from ⟨h1, h2⟩)]
      go_enter Tryz.func110, Tryz.ntmps110
      go_wp2
      go_ret
      exact ⟨rfl, hg _⟩
    · rw [decide_eq_false (show ¬ (0 ≤ s ∧ s < (a : Int)) from fun h => h2 h.2)]
      go_enter Tryz.func110, Tryz.ntmps110
      go_wp2
      go_ret
      exact ⟨rfl, hg _⟩
  · rw [decide_eq_false (show ¬ (0 ≤ s ∧ s < (a : Int)) from fun h => h1 h.1)]
    go_enter Tryz.func110, Tryz.ntmps110
    go_wp2
    go_ret
    exact ⟨rfl, hg _⟩
theorem hasRoom_any (a b c : Nat) (s : Int) (w : World) : Calls Tryz.prog 136 #[limV a b c, .int .i64 s] w fun e w' => e = .returned (.bool (decide (s < (b : Int)))) ∧ w.grownBy w' none := by
  have hg : ∀ o, w.grownBy (w.alloc o) none := fun o => grown_alloc w o
  unfold limV
  by_cases h2 : s < (b : Int)
  · rw [decide_eq_true h2]
    go_enter Tryz.func136, Tryz.ntmps136
    go_wp2
    go_ret
    exact ⟨rfl, hg _⟩
  · rw [decide_eq_false h2]
    go_enter Tryz.func136, Tryz.ntmps136
    go_wp2
    go_ret
    exact ⟨rfl, hg _⟩
section
variable {w w' : World} {p q : Bp} {S : Sb} {Lb Lb' : List Bool} {R : List Bg} {M E : List (Nat × Int)} {T : List Nat} {N B C K : Nat} {f : Int → Option Nat}
/-- The taken seats, asked. -/
theorem BkAt.has (h : BkAt w p S K) (s : Nat) (hs : s < S.a) : Calls Tryz.prog 111 #[.pointer (some ⟨p.tb, 0, none⟩), .int .i64 (s : Int)] w fun e w' => e = .returned (.bool (sat S.L s).isSome) ∧ w.grownBy w' none := by
  obtain ⟨Lb, R, M, E, T, N, B, C, h, hR, hN⟩ := h
  have := has_bk h s (by rw [hR.lb]; exact hs)
  rw [hR.tk] at this
  exact this
theorem BkAt.len (h : BkAt w p S K) : Calls Tryz.prog 80 #[.pointer (some ⟨p.ip.x, 0, none⟩)] w fun e w' => e = .returned (.int .i64 (S.L.length : Int)) ∧ w' = w := by
  obtain ⟨Lb, R, M, E, T, N, B, C, h, hR, hN⟩ := h
  have := len_bk h
  rw [hR.m, mx_length] at this
  exact this
theorem BkAt.isNone (h : BkAt w p S K) : Calls Tryz.prog 64 #[.pointer (some ⟨p.b, 0, none⟩)] w fun e w' => e = .returned (.bool false) ∧ w' = w := by
  obtain ⟨Lb, R, M, E, T, N, B, C, h, hR, hN⟩ := h
  exact isNone_bk h
/-- A book beside a box, in the midst of a call that changes nothing. -/
structure Bm (w W : World) (X : Nat) (cs : List Value) (ty : TypeId) (p : Bp) (S : Sb) (K : Nat) : Prop where
  bk : BkAt W p S K
  gr : w.grownBy W none
  box : W.heap[X]? = some (.cells cs.toArray ty (0, 0))
  lo : w.heap.size ≤ X
theorem Bm.then {W W' : World} {X : Nat} {cs : List Value} {ty : TypeId} (h : Bm w W X cs ty p S K) (g : W.grownBy W' none) : Bm w W' X cs ty p S K :=
  ⟨h.bk.then g, grown_trans h.gr g, (g.block _ (row_lt h.box) (by simp)).trans h.box, h.lo⟩
theorem Bm.cells {W : World} {X : Nat} {cs : List Value} {ty : TypeId} (h : Bm w W X cs ty p S K) : ∀ j v, cs[j]? = some v → W.cell? ⟨X, j, none⟩ = some v := fun j v hv => by rw [cell_row h.box]; exact hv
theorem Bm.start (h : BkAt w p S K) (cs : List Value) (ty : TypeId) : Bm w (w.alloc (.cells cs.toArray ty)) w.heap.size cs ty p S K :=
  ⟨h.then (grown_alloc w _), grown_alloc w _, heap_alloc_new w _, Nat.le_refl _⟩
/-- What stands in the book's head and in the box. -/
structure Bf (W : World) (X : Nat) (cs : List Value) (p : Bp) (S : Sb) : Prop where
  a0 : W.cell? ⟨p.b, 0, none⟩ = some (.int .i64 (S.a : Int))
  a1 : W.cell? ⟨p.b, 1, none⟩ = some (.int .i64 (S.b : Int))
  a2 : W.cell? ⟨p.b, 2, none⟩ = some (.int .i64 (S.c : Int))
  a4 : W.cell? ⟨p.b, 4, none⟩ = some (.int .u32 (S.n : Int))
  a5 : W.cell? ⟨p.b, 5, none⟩ = some (.int .i64 S.t)
  a6 : W.cell? ⟨p.b, 6, none⟩ = some (.pointer (some ⟨p.tb, 0, none⟩))
  a8 : W.cell? ⟨p.b, 8, none⟩ = some (.pointer (some ⟨p.ip.x, 0, none⟩))
  bx : ∀ j v, cs[j]? = some v → W.cell? ⟨X, j, none⟩ = some v
theorem Bm.ff {W : World} {X : Nat} {cs : List Value} {ty : TypeId} (h : Bm w W X cs ty p S K) : Bf W X cs p S :=
  ⟨h.bk.cells 0 _ rfl, h.bk.cells 1 _ rfl, h.bk.cells 2 _ rfl, h.bk.cells 4 _ rfl, h.bk.cells 5 _ rfl, h.bk.cells 6 _ rfl, h.bk.cells 8 _ rfl, h.cells⟩
theorem hold_2 {k c u : Int} {i s : Nat} (h1 : ¬ i = S.n) : holdE S ⟨k, (i : Int), (s : Int), u, c⟩ = 2 := by
  unfold holdE; rw [if_pos (by simp only [ne_eq]; omega)]
theorem hold_140 {k c u : Int} {s : Nat} (h2 : ¬ s < S.a) : holdE S ⟨k, (S.n : Int), (s : Int), u, c⟩ = 140 := by
  unfold holdE; rw [if_neg (fun e => e rfl), if_pos (by show ¬ (s : Int) < (S.a : Int); omega)]
theorem hold_173 {k c u : Int} {s : Nat} (h2 : s < S.a) (h3 : u ≤ S.t) : holdE S ⟨k, (S.n : Int), (s : Int), u, c⟩ = 173 := by
  unfold holdE; rw [if_neg (fun e => e rfl), if_neg (by show ¬ ¬ (s : Int) < (S.a : Int); omega), if_pos h3]
theorem hold_170 {k c u : Int} {s : Nat} {y : Bg} (h2 : s < S.a) (h3 : ¬ u ≤ S.t) (hq : sat S.L s = some y) : holdE S ⟨k, (S.n : Int), (s : Int), u, c⟩ = 170 := by
  unfold holdE; rw [if_neg (fun e => e rfl), if_neg (by show ¬ ¬ (s : Int) < (S.a : Int); omega), if_neg h3, if_pos (by simp only [Int.toNat_natCast, hq]; rfl)]
theorem hold_6 {k c u : Int} {s : Nat} (h2 : s < S.a) (h3 : ¬ u ≤ S.t) (hq : sat S.L s = none) (h5 : S.b ≤ S.L.length ∨ S.n = 4294967295) : holdE S ⟨k, (S.n : Int), (s : Int), u, c⟩ = 6 := by
  unfold holdE; rw [if_neg (fun e => e rfl), if_neg (by show ¬ ¬ (s : Int) < (S.a : Int); omega), if_neg h3, if_neg (by simp only [Int.toNat_natCast, hq]; simp), if_pos h5]
theorem hold_0 {k c u : Int} {s : Nat} (h2 : s < S.a) (h3 : ¬ u ≤ S.t) (hq : sat S.L s = none) (h5 : ¬ (S.b ≤ S.L.length ∨ S.n = 4294967295)) : holdE S ⟨k, (S.n : Int), (s : Int), u, c⟩ = 0 := by
  unfold holdE; rw [if_neg (fun e => e rfl), if_neg (by show ¬ ¬ (s : Int) < (S.a : Int); omega), if_neg h3, if_neg (by simp only [Int.toNat_natCast, hq]; simp), if_neg h5]
set_option maxHeartbeats 8000000 in
theorem mayHold_any (h : BkAt w p S K) (_hw : S.Wk) (k c : Int) (i s : Nat) (u : Int) :
    Calls Tryz.prog 106 #[.pointer (some ⟨p.b, 0, none⟩), Rk.rcV ⟨k, (i : Int), (s : Int), u, c⟩] w fun e w' => e = .returned (.int .i64 (holdE S ⟨k, (i : Int), (s : Int), u, c⟩)) ∧ w.grownBy w' none := by
  have m0 := Bm.start h [.int .i64 k, .int .u32 (i : Int), .int .i64 (s : Int), .int .i64 u, .int .i64 c] 47
  have HS : Hid (∀ W, Calls Tryz.prog 110 #[limV S.a S.b S.c, .int .i64 (s : Int)] W fun e w' => e = .returned (.bool (decide (s < S.a))) ∧ W.grownBy w' none) := by
    intro W
    have := hasSeat_any S.a S.b S.c (s : Int) W
    rw [show decide (0 ≤ (s : Int) ∧ (s : Int) < (S.a : Int)) = decide (s < S.a) by simp] at this
    exact this
  have HR : Hid (∀ W, Calls Tryz.prog 136 #[limV S.a S.b S.c, .int .i64 (S.L.length : Int)] W fun e w' => e = .returned (.bool (decide (S.L.length < S.b))) ∧ W.grownBy w' none) := by
    intro W
    have := hasRoom_any S.a S.b S.c (S.L.length : Int) W
    rw [show decide ((S.L.length : Int) < (S.b : Int)) = decide (S.L.length < S.b) by simp] at this
    exact this
  unfold limV at HS HR
  have HM := hide m0
  obtain ⟨a0, a1, a2, a4, a5, a6, a8, bx⟩ := m0.ff
  have x1 := bx 1 _ rfl
  have x2 := bx 2 _ rfl
  have x3 := bx 3 _ rfl
  clear m0 bx h
  unfold Rk.rcV
  obtain ⟨res, hres⟩ : ∃ res, holdE S ⟨k, (i : Int), (s : Int), u, c⟩ = res := ⟨_, rfl⟩
  rw [hres]
  have HE := hide hres
  clear hres
  by_cases h1 : i = S.n
  · subst h1
    go_enter Tryz.func106, Tryz.ntmps106
    go_wp2
    go_quiet (fail)
    go_wp2
    clear a0 a1 a2 a4 a5 a6 a8 x1 x2 x3
    have m1 := HM.out.then (grown_drewN _ nq none)
    clear HM
    generalize World.drewN _ nq = w1 at *
    obtain ⟨a0, a1, a2, a4, a5, a6, a8, bx⟩ := m1.ff
    have x1 := bx 1 _ rfl
    have x2 := bx 2 _ rfl
    have x3 := bx 3 _ rfl
    have HM := hide m1
    clear bx
    by_cases h2 : s < S.a
    · rw [decide_eq_true h2] at HS
      go_region_held3 (fun W => W.cell? ⟨p.b, 0, none⟩ = some (.int .i64 (S.a : Int)) ∧ W.cell? ⟨p.b, 1, none⟩ = some (.int .i64 (S.b : Int)) ∧ W.cell? ⟨p.b, 2, none⟩ = some (.int .i64 (S.c : Int)) ∧ W.cell? ⟨w.heap.size, 2, none⟩ = some (.int .i64 (s : Int))) (first | assumption | exact ⟨a0, a1, a2, x2⟩) ((go_at_call 110; refine (HS.out _).mono ?_; rintro e w2 ⟨rfl, hg2⟩; have m2 := (m1.then (grown_drew w1 none)).then hg2; have hK := And.intro m2.ff.a0 (And.intro m2.ff.a1 (And.intro m2.ff.a2 (m2.ff.bx 2 _ rfl)))))
      clear a0 a1 a2 a4 a5 a6 a8 x1 x2 x3
      obtain ⟨a0, a1, a2, a4, a5, a6, a8, bx⟩ := m2.ff
      have x3 := bx 3 _ rfl
      have HM := hide m2
      clear bx hK m1 m2
      go_wp2
      by_cases h3 : u ≤ S.t
      · have HV := hide (HE.out.symm.trans (hold_173 h2 h3))
        go_quiet (fail)
        go_wp2
        go_ret
        exact ⟨by rw [HV.out]; rfl, (HM.out.then (grown_drewN _ _ none)).gr⟩
      · go_quiet (fail)
        go_wp2
        have m3 := HM.out.then (grown_drewN _ nq none)
        clear HM a0 a1 a2 a4 a5 a6 a8 x3
        generalize World.drewN _ nq = w3 at *
        have a6 := m3.ff.a6
        have x2 := m3.ff.bx 2 _ rfl
        have hC := (m3.then (grown_drew w3 none)).bk.has s h2
        have HC := hide hC
        have HM := hide m3
        clear hC
        cases hq : sat S.L s with
        | some y =>
          rw [hq] at HC
          simp only [Option.isSome] at HC
          have HV := hide (HE.out.symm.trans (hold_170 h2 (by omega) hq))
          go_region_held3 (fun W => W.cell? ⟨p.b, 6, none⟩ = some (.pointer (some ⟨p.tb, 0, none⟩)) ∧ W.cell? ⟨w.heap.size, 2, none⟩ = some (.int .i64 (s : Int))) (first | assumption | exact ⟨a6, x2⟩) ((go_at_call 111; refine HC.out.mono ?_; rintro e w4 ⟨rfl, hg4⟩; have m4 := (m3.then (grown_drew w3 none)).then hg4; have hK := And.intro m4.ff.a6 (m4.ff.bx 2 _ rfl)))
          go_wp2
          go_ret
          exact ⟨by rw [HV.out]; rfl, m4.gr⟩
        | none =>
          rw [hq] at HC
          simp only [Option.isSome] at HC
          go_region_held3 (fun W => W.cell? ⟨p.b, 6, none⟩ = some (.pointer (some ⟨p.tb, 0, none⟩)) ∧ W.cell? ⟨w.heap.size, 2, none⟩ = some (.int .i64 (s : Int))) (first | assumption | exact ⟨a6, x2⟩) ((go_at_call 111; refine HC.out.mono ?_; rintro e w4 ⟨rfl, hg4⟩; have m4 := (m3.then (grown_drew w3 none)).then hg4; have hK := And.intro m4.ff.a6 (m4.ff.bx 2 _ rfl)))
          clear hK a6 x2 HC HM
          obtain ⟨a0, a1, a2, a4, a5, a6, a8, -⟩ := m4.ff
          have HM := hide m4
          have HL : Hid (∀ W, Bm w W w.heap.size [.int .i64 k, .int .u32 (S.n : Int), .int .i64 (s : Int), .int .i64 u, .int .i64 c] 47 p S K → Calls Tryz.prog 80 #[.pointer (some ⟨p.ip.x, 0, none⟩)] W fun e w' => e = .returned (.int .i64 (S.L.length : Int)) ∧ w' = W) := fun W hW => hW.bk.len
          go_wp2
          by_cases h5 : S.L.length < S.b
          · rw [decide_eq_true h5] at HR
            by_cases h6 : S.n = 4294967295
            · have HV := hide (HE.out.symm.trans (hold_6 h2 (by omega) hq (.inr h6)))
              have h6a : ((S.n : Int) == 4294967295) = true := by simp; omega
              have h6b : decide ((S.n : Int) = 4294967295) = true := by simp; omega
              go_region_held3 (fun W => W.cell? ⟨p.b, 0, none⟩ = some (.int .i64 (S.a : Int)) ∧ W.cell? ⟨p.b, 1, none⟩ = some (.int .i64 (S.b : Int)) ∧ W.cell? ⟨p.b, 2, none⟩ = some (.int .i64 (S.c : Int)) ∧ W.cell? ⟨p.b, 4, none⟩ = some (.int .u32 (S.n : Int)) ∧ W.cell? ⟨p.b, 8, none⟩ = some (.pointer (some ⟨p.ip.x, 0, none⟩))) (first | assumption | exact ⟨a0, a1, a2, a4, a8⟩) ((first | (go_at_call 80; refine (HL.out _ (m4.then (grown_drew w4 none))).mono ?_; rintro e w5 ⟨rfl, rfl⟩) | (go_at_call 136; refine (HR.out _).mono ?_; rintro e w6 ⟨rfl, hg6⟩; have m6 := (m4.then (grown_drew w4 none)).then hg6; have hK := And.intro m6.ff.a0 (And.intro m6.ff.a1 (And.intro m6.ff.a2 (And.intro m6.ff.a4 m6.ff.a8))))))
              go_wp2
              go_ret
              exact ⟨by rw [HV.out]; rfl, m6.gr⟩
            · have HV := hide (HE.out.symm.trans (hold_0 h2 (by omega) hq (by omega)))
              have h6a : ((S.n : Int) == 4294967295) = false := by simp; omega
              have h6b : decide ((S.n : Int) = 4294967295) = false := by simp; omega
              go_region_held3 (fun W => W.cell? ⟨p.b, 0, none⟩ = some (.int .i64 (S.a : Int)) ∧ W.cell? ⟨p.b, 1, none⟩ = some (.int .i64 (S.b : Int)) ∧ W.cell? ⟨p.b, 2, none⟩ = some (.int .i64 (S.c : Int)) ∧ W.cell? ⟨p.b, 4, none⟩ = some (.int .u32 (S.n : Int)) ∧ W.cell? ⟨p.b, 8, none⟩ = some (.pointer (some ⟨p.ip.x, 0, none⟩))) (first | assumption | exact ⟨a0, a1, a2, a4, a8⟩) ((first | (go_at_call 80; refine (HL.out _ (m4.then (grown_drew w4 none))).mono ?_; rintro e w5 ⟨rfl, rfl⟩) | (go_at_call 136; refine (HR.out _).mono ?_; rintro e w6 ⟨rfl, hg6⟩; have m6 := (m4.then (grown_drew w4 none)).then hg6; have hK := And.intro m6.ff.a0 (And.intro m6.ff.a1 (And.intro m6.ff.a2 (And.intro m6.ff.a4 m6.ff.a8))))))
              go_wp2
              go_ret
              exact ⟨by rw [HV.out]; rfl, m6.gr⟩
          · rw [decide_eq_false h5] at HR
            have HV := hide (HE.out.symm.trans (hold_6 h2 (by omega) hq (.inl (by omega))))
            refine wp_region_held_drew (S := (fun W => W.cell? ⟨p.b, 0, none⟩ = some (.int .i64 (S.a : Int)) ∧ W.cell? ⟨p.b, 1, none⟩ = some (.int .i64 (S.b : Int)) ∧ W.cell? ⟨p.b, 2, none⟩ = some (.int .i64 (S.c : Int)) ∧ W.cell? ⟨p.b, 4, none⟩ = some (.int .u32 (S.n : Int)) ∧ W.cell? ⟨p.b, 8, none⟩ = some (.pointer (some ⟨p.ip.x, 0, none⟩)))) (by kernel_rfl) ?_ (fun hHeld => ?_)
            · (exact ⟨a0, a1, a2, a4, a8⟩)
            refine tkQ 0 (oi := ⟨some 39, .move (.tmp 0), 27, "book.go:313", #[], none⟩) rfl ?_
            try simp only [Act.put, pA, pB, pC]
            refine tkQ 1 (oi := ⟨some 40, .nilCheck (.tmp 39), 0, "book.go:313", #[⟨0, .data⟩], none⟩) rfl ?_
            try simp only [Act.put, pA, pB, pC]
            refine tkQ 2 (oi := ⟨some 41, .fieldAddr 37 (.tmp 40) 0, 0, "book.go:313", #[⟨1, .data⟩], none⟩) rfl ?_
            try simp only [Act.put, pA, pB, pC]
            refine tkQ 3 (oi := ⟨some 42, .load 29 (.tmp 41), 29, "book.go:313", #[⟨2, .data⟩], none⟩) rfl ?_
            try simp only [Act.put, pA, pB, pC]
            refine tkQ 4 (oi := ⟨some 43, .move (.tmp 0), 27, "book.go:313", #[], none⟩) rfl ?_
            try simp only [Act.put, pA, pB, pC]
            refine tkQ 5 (oi := ⟨some 44, .nilCheck (.tmp 43), 0, "book.go:313", #[⟨4, .data⟩], none⟩) rfl ?_
            try simp only [Act.put, pA, pB, pC]
            refine tkQ 6 (oi := ⟨some 45, .fieldAddr 37 (.tmp 44) 6, 0, "book.go:313", #[⟨5, .data⟩], none⟩) rfl ?_
            try simp only [Act.put, pA, pB, pC]
            refine tkQ 7 (oi := ⟨some 46, .load 33 (.tmp 45), 33, "book.go:313", #[⟨6, .data⟩], none⟩) rfl ?_
            try simp only [Act.put, pA, pB, pC]
            refine rdH (i := 8) rfl (fun K hK => ?_)
            go_simp
            refine (HL.out _ (m4.then (grown_drew w4 none))).mono ?_
            rintro e w5 ⟨rfl, rfl⟩
            go_wp2_with fail
            refine hK.out _ _ ?_ (fun hHeld => ?_)
            · ((try dsimp only); first | exact hK9 | assumption)
            clear hK K
            try simp only [Act.put, pA, pB, pC]
            refine rdH (i := 9) rfl (fun K hK => ?_)
            go_simp
            refine (HR.out _).mono ?_
            rintro e w6 ⟨rfl, hg6⟩
            have m6 := (m4.then (grown_drew w4 none)).then hg6
            have hK9 := And.intro m6.ff.a0 (And.intro m6.ff.a1 (And.intro m6.ff.a2 (And.intro m6.ff.a4 m6.ff.a8)))
            go_wp2_with fail
            refine hK.out _ _ ?_ (fun hHeld => ?_)
            · ((try dsimp only); first | exact hK9 | assumption)
            clear hK K
            try simp only [Act.put, pA, pB, pC]
            refine tkQ 10 (oi := ⟨some 49, .unOp .not 4 (.tmp 48), 4, "book.go:313", #[⟨9, .data⟩], none⟩) rfl ?_
            try simp only [Act.put, pA, pB, pC]
            refine tkQ 11 (oi := ⟨some 50, .move (.tmp 49), 4, "book.go:313", #[⟨10, .data⟩, ⟨9, .chain⟩], none⟩) rfl ?_
            try simp only [Act.put, pA, pB, pC]
            refine skH 12 (oi := ⟨some 51, .move (.tmp 0), 27, "book.go:313", #[⟨11, .guard⟩], some (11, false)⟩) rfl ?_
            try simp only [Act.put, pA, pB, pC]
            refine skH 13 (oi := ⟨some 52, .nilCheck (.tmp 51), 0, "book.go:313", #[⟨12, .data⟩, ⟨11, .guard⟩], some (11, false)⟩) rfl ?_
            try simp only [Act.put, pA, pB, pC]
            refine skH 14 (oi := ⟨some 53, .fieldAddr 37 (.tmp 52) 2, 0, "book.go:313", #[⟨13, .data⟩, ⟨11, .guard⟩], some (11, false)⟩) rfl ?_
            try simp only [Act.put, pA, pB, pC]
            refine skH 15 (oi := ⟨some 54, .load 30 (.tmp 53), 30, "book.go:313", #[⟨14, .data⟩, ⟨11, .guard⟩], some (11, false)⟩) rfl ?_
            try simp only [Act.put, pA, pB, pC]
            refine skH 16 (oi := ⟨some 55, .binOp .eql 30 (.tmp 54) (.const (.int .u32 4294967295)) 30, 4, "book.go:313", #[⟨15, .data⟩, ⟨11, .guard⟩], some (11, false)⟩) rfl ?_
            try simp only [Act.put, pA, pB, pC]
            refine tkQ 17 (oi := ⟨some 56, .pick (.tmp 50) (.const (.bool true)) (.tmp 55), 4, "book.go:313", #[⟨11, .data⟩, ⟨16, .data⟩], none⟩) rfl ?_
            try simp only [Act.put, pA, pB, pC]
            refine tkQ 18 (oi := ⟨some 38, .assign (.tmp 56), 4, "book.go:313", #[⟨17, .data⟩, ⟨11, .chain⟩], none⟩) rfl ?_
            try simp only [Act.put, pA, pB, pC]
            refine wpAnyH_done (by kernel_rfl) ?_ _
            go_wp2
            go_ret
            exact ⟨by rw [HV.out]; rfl, m6.gr⟩
    · have HV := hide (HE.out.symm.trans (hold_140 h2))
      rw [decide_eq_false h2] at HS
      go_region_held3 (fun W => W.cell? ⟨p.b, 0, none⟩ = some (.int .i64 (S.a : Int)) ∧ W.cell? ⟨p.b, 1, none⟩ = some (.int .i64 (S.b : Int)) ∧ W.cell? ⟨p.b, 2, none⟩ = some (.int .i64 (S.c : Int)) ∧ W.cell? ⟨w.heap.size, 2, none⟩ = some (.int .i64 (s : Int))) (first | assumption | exact ⟨a0, a1, a2, x2⟩) ((go_at_call 110; refine (HS.out _).mono ?_; rintro e w2 ⟨rfl, hg2⟩; have m2 := (m1.then (grown_drew w1 none)).then hg2; have hK := And.intro m2.ff.a0 (And.intro m2.ff.a1 (And.intro m2.ff.a2 (m2.ff.bx 2 _ rfl)))))
      go_wp2
      go_ret
      exact ⟨by rw [HV.out]; rfl, m2.gr⟩
  · have HV := hide (HE.out.symm.trans (hold_2 h1))
    have h1a : ((i : Int) != (S.n : Int)) = true := by simp; omega
    have h1b : decide ((i : Int) = (S.n : Int)) = false := by simp; omega
    go_enter Tryz.func106, Tryz.ntmps106
    go_wp2
    go_quiet (fail)
    go_wp2
    go_ret
    exact ⟨by rw [HV.out]; rfl, (HM.out.then (grown_drewN _ _ none)).gr⟩
end
end Go.Proofs.YtinkkocleognbaaGreatDoor
/- Hold, confirm, cancel. -/
namespace Go.Proofs.YtinkkocleognbaaGreatDoor
open Go.RowKit
attribute [local go_sem ↓] Go.wp_at_zero Go.wp_at_succ
theorem Rel.re {S S' : Sb} {Lb : List Bool} {R : List Bg} {M E : List (Nat × Int)} (h : Rel S Lb R M E) (ha : S'.a = S.a) (hL : S'.L = S.L) : Rel S' Lb R M E :=
  ⟨by rw [ha]; exact h.lb, by rw [hL]; exact h.tk, by rw [ha]; exact h.rl, by rw [hL]; exact h.rw, by rw [hL]; exact h.m, by rw [hL]; exact h.e1, by rw [hL]; exact h.e2, h.e3⟩
section
variable {w w' : World} {p q : Bp} {S : Sb} {Lb Lb' : List Bool} {R : List Bg} {M E : List (Nat × Int)} {T : List Nat} {N B C K : Nat} {f : Int → Option Nat}
theorem BkAt.next (h : BkAt w p S K) : BkAt (w.setCell ⟨p.b, 4, none⟩ (.int .u32 ((S.n : Int) + 1))) p { S with n := S.n + 1 } K ∧ Kept w (w.setCell ⟨p.b, 4, none⟩ (.int .u32 ((S.n : Int) + 1))) p.own := by
  obtain ⟨Lb, R, M, E, T, N, B, C, h, hR, hN⟩ := h
  obtain ⟨h1, h2⟩ := h.headed (S' := { S with n := S.n + 1 }) (grown_setCell w p.b 4 (.int .u32 ((S.n : Int) + 1))) (by rw [row_setCell h.head]; rfl) rfl rfl
  exact ⟨⟨Lb, R, M, E, T, N, B, C, h1, hR.re rfl rfl, hN⟩, h2⟩
theorem BkAt.tick (h : BkAt w p S K) (t : Int) : BkAt (w.setCell ⟨p.b, 5, none⟩ (.int .i64 t)) p { S with t := t } K ∧ Kept w (w.setCell ⟨p.b, 5, none⟩ (.int .i64 t)) p.own := by
  obtain ⟨Lb, R, M, E, T, N, B, C, h, hR, hN⟩ := h
  obtain ⟨h1, h2⟩ := h.headed (S' := { S with t := t }) (grown_setCell w p.b 5 (.int .i64 t)) (by rw [row_setCell h.head]; rfl) rfl rfl
  exact ⟨⟨Lb, R, M, E, T, N, B, C, h1, hR.re rfl rfl, hN⟩, h2⟩
theorem BkAt.free (h : BkAt w p S K) (j : Nat) : w.frozen? ⟨p.b, j, none⟩ = false := by obtain ⟨_, _, _, _, _, _, _, _, h, _⟩ := h; exact free_row h.head j
/-- An id, found or not. -/
theorem BkAt.find (h : BkAt w p S K) (_hw : S.Wk) (k : Nat) (hk : k < 4294967296) : Calls Tryz.prog 107 #[.pointer (some ⟨p.b, 0, none⟩), .int .u32 (k : Int)] w fun e w' => e = .returned (.tuple #[bgV ((fnd S.L k).getD ⟨0, 0, 0⟩), .int .i64 (if (fnd S.L k).isSome then 0 else 171)]) ∧ BkAt w' p S K ∧ Kept w w' p.own := by
  obtain ⟨Lb, R, M, E, T, N, B, C, h, hR, hN⟩ := h
  have hc := find_bk h k hk
  have hlk : Ix.lk M k = (fnd S.L k).map fun x => (x.s : Int) := by rw [hR.m, lk_mx]
  have hfx : fn M R k = (fnd S.L k).getD ⟨0, 0, 0⟩ := by
    unfold fn
    rw [hlk]
    cases hf : fnd S.L k with
    | none => rfl
    | some x => simp [rd, hR.rw x (List.mem_of_find?_eq_some hf)]
  rw [hfx, hlk, Option.isSome_map] at hc
  refine hc.mono ?_
  rintro e w' ⟨rfl, h3, h4⟩
  exact ⟨rfl, ⟨Lb, R, M, E, T, N, B, C, h3, hR, hN⟩, h4⟩
set_option maxHeartbeats 4000000 in
theorem hold_any (h : BkAt w p S K) (ho : S.Ok) (hK : K ≤ 10000000) (k c : Int) (i s : Nat) (hi : i < 4294967296) (u : Int) :
    Calls Tryz.prog 73 #[.pointer (some ⟨p.b, 0, none⟩), Rk.rcV ⟨k, (i : Int), (s : Int), u, c⟩] w fun e w' => e = .returned (.int .i64 (holdE S ⟨k, (i : Int), (s : Int), u, c⟩)) ∧ ∃ q, BkAt w' q (if holdE S ⟨k, (i : Int), (s : Int), u, c⟩ = 0 then { S with L := S.L ++ [⟨i, s, u⟩], n := S.n + 1 } else S) (K + 1) ∧ Bst w w' p q := by
  have b0 := Bx.start h.lt [.int .i64 k, .int .u32 (i : Int), .int .i64 (s : Int), .int .i64 u, .int .i64 c] 47
  have h0 := h.then (grown_alloc w (.cells [Value.int .i64 k, .int .u32 (i : Int), .int .i64 (s : Int), .int .i64 u, .int .i64 c].toArray 47))
  have HC1 := hide (mayHold_any h0 ho.wk k c i s u)
  have H0 := hide (And.intro h0 b0)
  by_cases hz : holdE S ⟨k, (i : Int), (s : Int), u, c⟩ = 0
  · obtain ⟨z1, z2, z3, z4, z5, z6⟩ := holdE_zero.1 hz
    simp only at z1 z2 z3 z4
    simp only [Int.toNat_natCast] at z4
    have hin : i = S.n := by omega
    rw [if_pos hz]
    rw [hz] at HC1 ⊢
    have HC2 : Hid (∀ W, BkAt W p S K → Calls Tryz.prog 79 #[.pointer (some ⟨p.b, 0, none⟩), bgV ⟨i, s, u⟩] W fun e w' => e = .returned (.tuple #[]) ∧ ∃ q, BkAt w' q { S with L := S.L ++ [⟨i, s, u⟩] } (K + 1) ∧ Bst W w' p q) := by
      intro W hW
      exact add_any hW ho.wk hK ⟨i, s, u⟩ hi (by show s < S.a; omega) (fun y hy => by have := ho.id y hy; show y.i < i; omega) z4 z5
    unfold bgV at HC2
    simp only at HC2
    have hw1 : IntKind.u32.wrap ((S.n : Int) + 1) = (S.n : Int) + 1 := by
      have := ho.n1
      simp [IntKind.wrap, IntKind.bits, IntKind.signed]
      omega
    clear h h0 b0 ho hz z1 z2 z3 z4 z5 z6 hin
    unfold Rk.rcV at *
    go_enter Tryz.func73, Tryz.ntmps73
    go_wp2_with fail
    refine HC1.out.mono ?_
    rintro e w1 ⟨rfl, hg1⟩
    have hA := H0.out.1.then hg1
    have hX := H0.out.2.then hg1
    have x1 := hX.cells 1 _ rfl
    have x2 := hX.cells 2 _ rfl
    have x3 := hX.cells 3 _ rfl
    have HC2' := hide (HC2.out w1 hA)
    have H1 := hide (And.intro hA hX)
    clear hA hX H0 HC1 HC2 hg1
    go_wp2_with fail
    refine HC2'.out.mono ?_
    rintro e w2 ⟨rfl, q, hA, hS⟩
    have hX := H1.out.2.step hS
    have c4 : w2.cell? ⟨p.b, 4, none⟩ = some (.int .u32 (S.n : Int)) := by have := hA.cells 4 _ rfl; rw [hS.b] at this; exact this
    have c4f : w2.frozen? ⟨p.b, 4, none⟩ = false := by have := hA.free 4; rw [hS.b] at this; exact this
    obtain ⟨n1, n2⟩ := hA.next
    rw [hS.b] at n1 n2
    have HF := hide (And.intro n1 (hX.st.trans (Bst.keep n2)))
    clear hA hS hX n1 n2 H1 HC2' x1 x2 x3
    go_wp2
    go_ret
    exact ⟨rfl, q, HF.out⟩
  · rw [if_neg hz]
    generalize holdE S ⟨k, (i : Int), (s : Int), u, c⟩ = res at *
    have hz1 : (res != 0) = true := by simpa using hz
    have hz2 : decide (res = 0) = false := by simpa using hz
    have hz3 : (res == 0) = false := by simpa using hz
    clear h h0 b0 ho
    unfold Rk.rcV at *
    go_enter Tryz.func73, Tryz.ntmps73
    go_wp2_with fail
    refine HC1.out.mono ?_
    rintro e w1 ⟨rfl, hg1⟩
    have HF := hide (And.intro ((H0.out.1.then hg1).mono (Nat.le_succ K)) (H0.out.2.then hg1).st)
    clear H0 HC1
    go_wp2
    go_ret
    exact ⟨rfl, p, HF.out⟩
set_option maxHeartbeats 4000000 in
theorem cancel_any (h : BkAt w p S K) (hw : S.Wk) (hK : K ≤ 10000000) (k : Nat) (hk : k < 4294967296) :
    Calls Tryz.prog 75 #[.pointer (some ⟨p.b, 0, none⟩), .int .u32 (k : Int)] w fun e w' => e = .returned (.int .i64 (if (fnd S.L k).isSome then 0 else 171)) ∧ ∃ q, BkAt w' q { S with L := del S.L k } K ∧ Bst w w' p q := by
  have HC1 := hide (h.find hw k hk)
  cases hf : fnd S.L k with
  | none =>
    have hd : del S.L k = S.L := by
      unfold del
      rw [List.filter_eq_self]
      intro y hy
      have := fnd_none.1 hf y hy
      simpa using this
    rw [hd]
    rw [hf] at HC1
    simp only [Option.isSome, Option.getD, Bool.false_eq_true, if_false] at HC1 ⊢
    clear h hf hd
    unfold bgV at HC1
    simp only at HC1
    go_enter Tryz.func75, Tryz.ntmps75
    go_wp2_with fail
    refine HC1.out.mono ?_
    rintro e w1 ⟨rfl, hA, hk1⟩
    have HF : Hid (∀ W, w1.grownBy W none → BkAt W p S K ∧ Bst w W p p) := fun W hg => ⟨hA.then hg, (Bst.keep hk1).trans (Bst.grown hg p)⟩
    clear hA hk1 HC1
    go_wp2
    go_ret
    exact ⟨rfl, p, HF.out _ (grown_alloc _ _)⟩
  | some x =>
    obtain ⟨hx, hxi⟩ := (fnd_some hw.asc).1 hf
    subst hxi
    rw [hf] at HC1
    simp only [Option.isSome, Option.getD, if_true] at HC1 ⊢
    have HC2 : Hid (∀ W, BkAt W p S K → Calls Tryz.prog 109 #[.pointer (some ⟨p.b, 0, none⟩), bgV x] W fun e w' => e = .returned (.tuple #[]) ∧ ∃ q, BkAt w' q { S with L := del S.L x.i } K ∧ Bst W w' p q) := fun W hW => remove_any hW hw hK x hx
    clear h hf hx hw
    obtain ⟨xi, xs, xu⟩ := x
    unfold bgV at HC1 HC2
    simp only at HC1 HC2 ⊢
    go_enter Tryz.func75, Tryz.ntmps75
    go_wp2_with fail
    refine HC1.out.mono ?_
    rintro e w1 ⟨rfl, hA, hk1⟩
    have HC2' := hide (HC2.out _ (hA.then (grown_alloc w1 (.cells #[.int .u32 (xi : Int), .int .i64 (xs : Int), .int .i64 xu] 108))))
    have H1 := hide ((Bst.keep hk1).trans (Bst.grown (grown_alloc w1 (.cells #[.int .u32 (xi : Int), .int .i64 (xs : Int), .int .i64 xu] 108)) p))
    clear hA hk1 HC1 HC2
    go_wp2_with fail
    refine HC2'.out.mono ?_
    rintro e w2 ⟨rfl, q, hA, hS⟩
    have HF := hide (And.intro hA (H1.out.trans hS))
    clear hA hS H1 HC2'
    go_wp2
    go_ret
    exact ⟨rfl, q, HF.out⟩
end
end Go.Proofs.YtinkkocleognbaaGreatDoor
/- Confirm, another seat. -/
namespace Go.Proofs.YtinkkocleognbaaGreatDoor
open Go.RowKit
attribute [local go_sem ↓] Go.wp_at_zero Go.wp_at_succ
theorem bgs_setU {R : List Bg} {s : Nat} {x : Bg} (h : R[s]? = some x) (u : Int) : (bgs R).set (s * 3 + 2) (.int .i64 u) = bgs (R.set s { x with u := u }) := by
  have hs : s < R.length := (List.getElem?_eq_some_iff.1 h).1
  have hr : rd R s = x := by unfold rd; rw [h]; rfl
  obtain ⟨h1, h2, h3⟩ := bgs_get hs
  rw [hr] at h1 h2
  rw [bgs_set]
  simp only
  rw [Ix.set_same h1, Ix.set_same h2]
theorem fnd_upd {L : List Bg} (hA : AscB L) {x y : Bg} (hx : x ∈ L) (hy : y.i = x.i) (k : Nat) : fnd (upd L x.i y) k = if k = x.i then some y else fnd L k := by
  have hA' := upd_asc hA hy
  split
  · rename_i e
    rw [fnd_some hA']
    exact ⟨upd_mem.2 (.inl ⟨rfl, x, hx, rfl⟩), by rw [e]; exact hy⟩
  · rename_i e
    cases hf : fnd L k with
    | none =>
      rw [fnd_none] at hf ⊢
      intro z hz
      rcases upd_mem.1 hz with ⟨rfl, -⟩ | ⟨hz, -⟩
      · rw [hy]; exact fun e2 => e e2.symm
      · exact hf z hz
    | some z =>
      obtain ⟨h1, h2⟩ := (fnd_some hA).1 hf
      rw [fnd_some hA']
      exact ⟨upd_mem.2 (.inr ⟨h1, by rw [h2]; exact e⟩), h2⟩
section
variable {w w' : World} {p q : Bp} {S : Sb} {Lb Lb' : List Bool} {R : List Bg} {M E : List (Nat × Int)} {T : List Nat} {N B C K : Nat} {f : Int → Option Nat}
/-- A seat's until is written. -/
theorem BkR.confd (h : BkR w p S Lb R M E T N B C f) {x : Bg} (hx : R[x.s]? = some x) (ht : ∀ e ∈ E, Ix.lk M e.2.toNat ≠ some (x.s : Int)) : BkR (w.setCell ⟨p.sg, x.s * 3 + 2, none⟩ (.int .i64 0)) p S Lb (R.set x.s { x with u := 0 }) M E T N B C f ∧ Kept w (w.setCell ⟨p.sg, x.s * 3 + 2, none⟩ (.int .i64 0)) p.own := by
  obtain ⟨lo, h1⟩ := h.ix
  refine h.seated (grown_setCell w _ _ _) ?_ (by simp) (fun e he => tl_set (ht e he) (fun y hy => (h.mi y hy).1) h1.asc)
  rw [← bgs_setU hx]
  exact row_setCell h.row _ _
set_option maxHeartbeats 4000000 in
theorem confirm_any (h : BkAt w p S K) (hw : S.Wk) (hK : K ≤ 10000000) (k : Nat) (hk : k < 4294967296) :
    Calls Tryz.prog 74 #[.pointer (some ⟨p.b, 0, none⟩), .int .u32 (k : Int)] w fun e w' => e = .returned (.int .i64 (if (fnd S.L k).isSome then 0 else 171)) ∧ ∃ q, BkAt w' q { S with L := (fnd S.L k).elim S.L fun x => upd S.L x.i { x with u := 0 } } K ∧ Bst w w' p q := by
  have HC1 := hide (h.find hw k hk)
  cases hf : fnd S.L k with
  | none =>
    rw [hf] at HC1
    simp only [Option.isSome, Option.getD, Option.elim, Bool.false_eq_true, if_false] at HC1 ⊢
    clear h hf
    unfold bgV at HC1
    simp only at HC1
    go_enter Tryz.func74, Tryz.ntmps74
    go_wp2_with fail
    refine HC1.out.mono ?_
    rintro e w1 ⟨rfl, hA, hk1⟩
    have HF : Hid (∀ W, w1.grownBy W none → BkAt W p S K ∧ Bst w W p p) := fun W hg => ⟨hA.then hg, (Bst.keep hk1).trans (Bst.grown hg p)⟩
    clear hA hk1 HC1
    go_wp2
    go_ret
    exact ⟨rfl, p, HF.out _ (grown_alloc _ _)⟩
  | some x =>
    obtain ⟨hx, hxi⟩ := (fnd_some hw.asc).1 hf
    subst hxi
    rw [hf] at HC1
    simp only [Option.isSome, Option.getD, Option.elim, if_true] at HC1 ⊢
    have HC2 : Hid (∀ W, BkAt W p S K → Kept w W p.own → ∀ W0, W0 = W.alloc (.cells (bgc x).toArray 108) → Calls Tryz.prog 108 #[.pointer (some ⟨p.b, 0, none⟩), .int .u32 (x.i : Int)] W0 fun e w' => e = .returned (.tuple #[]) ∧ ∃ q, Bx w w' W.heap.size (bgc x) 108 p q ∧ w'.cell? ⟨p.b, 7, none⟩ = some (.slice (some ⟨p.sg, 0, none⟩) S.a S.a) ∧ (∃ v, w'.cell? ⟨p.sg, x.s * 3 + 2, none⟩ = some v) ∧ (w'.frozen? ⟨p.sg, x.s * 3 + 2, none⟩ = false) ∧ BkAt (w'.setCell ⟨p.sg, x.s * 3 + 2, none⟩ (.int .i64 0)) q { S with L := upd S.L x.i { x with u := 0 } } K ∧ Bst w' (w'.setCell ⟨p.sg, x.s * 3 + 2, none⟩ (.int .i64 0)) q q) := by
      intro W hW hkW W0 e0
      have hlt := hW.lt
      obtain ⟨Lb, R, M, E, T, N, B, C, h1, hR, hN, hB, hC⟩ := hW
      have hE : E.length ≤ 65536 := by have := hR.few; have := hw.few; have := hw.b1; omega
      have g0 : W.grownBy W0 none := by rw [e0]; exact grown_alloc _ _
      have b0 : Bx W W0 W.heap.size (bgc x) 108 p p := by rw [e0]; exact Bx.start hlt (bgc x) 108
      refine (release_any (h1.then g0) hR.e3 hE (by omega) hB x.i hk).mono ?_
      rintro e w' ⟨rfl, q, E', T', B', h2, h3, h4, h5, h6⟩
      have hsg : q.sg = p.sg := by rw [h3.eq]
      have hxs := hw.st x hx
      have hrx := hR.rw x hx
      have hlk : ∀ e ∈ E', Ix.lk M e.2.toNat ≠ some (x.s : Int) := fun e he e2 => by
        obtain ⟨h7, h8⟩ := (h4 e).1 he
        obtain ⟨y, hy, h9, -⟩ := hR.e1 e h7
        have h10 : e.2.toNat = y.i := by omega
        rw [h10, hR.m, lk_mx, (fnd_some hw.asc).2 ⟨hy, rfl⟩] at e2
        have e3 : y.s = x.s := Int.ofNat.inj (Option.some.inj e2)
        exact h8 (by rw [← h9, hw.one.same hy hx e3])
      obtain ⟨h7, h8⟩ := h2.confd hrx hlk
      rw [hsg] at h7 h8
      obtain ⟨⟨_, _, vc, -, -, h9⟩, h10⟩ := seat_lies h2 (s := x.s) (by rw [hR.rl]; exact hxs)
      rw [hsg] at h9 h10
      have bx := b0.step h3
      refine ⟨rfl, q, ⟨bx.box, (Bst.keep hkW).trans bx.st, bx.nx, Nat.le_trans hkW.size bx.lo⟩, ?_, ⟨_, h9⟩, h10 _, ⟨_, _, _, E', T', N, B', C, h7.re rfl rfl rfl rfl rfl, hR.conf hw hx h4 h5, hN, h6, hC⟩, Bst.keep h8⟩
      have := h2.cells' bx.st 7 _ rfl
      exact this
    have hsa := hw.a1
    have hxs := hw.st x hx
    clear h hf hx hw
    obtain ⟨xi, xs, xu⟩ := x
    unfold bgV at HC1
    simp only [bgc] at *
    go_enter Tryz.func74, Tryz.ntmps74
    go_wp2_with fail
    refine HC1.out.mono ?_
    rintro e w1 ⟨rfl, hA, hk1⟩
    have HC2' := hide (HC2.out w1 hA hk1 _ rfl)
    clear hA hk1 HC1 HC2
    go_wp2_with fail
    refine HC2'.out.mono ?_
    rintro e w2 ⟨rfl, q, bx, c7, ⟨v, y2⟩, y3, hA, hS⟩
    have x1 := bx.cells 1 _ rfl
    have HF : Hid (∀ W, (w2.setCell ⟨p.sg, xs * 3 + 2, none⟩ (.int .i64 0)).grownBy W none → ∃ q, BkAt W q { S with L := upd S.L xi ⟨xi, xs, 0⟩ } K ∧ Bst w W p q) := fun W hg => ⟨q, hA.then hg, (bx.st.trans hS).trans (Bst.grown hg q)⟩
    clear hA hS bx HC2'
    go_wp2
    go_region
    go_wp2
    go_ret
    exact ⟨rfl, HF.out _ (grown_drew _ none)⟩
end
end Go.Proofs.YtinkkocleognbaaGreatDoor
/- Another seat. -/
namespace Go.Proofs.YtinkkocleognbaaGreatDoor
open Go.RowKit
attribute [local go_sem ↓] Go.wp_at_zero Go.wp_at_succ
section
variable {w w' : World} {p q : Bp} {S : Sb} {Lb Lb' : List Bool} {R : List Bg} {M E : List (Nat × Int)} {T : List Nat} {N B C K : Nat} {f : Int → Option Nat}
set_option maxHeartbeats 4000000 in
theorem move_any (h : BkAt w p S K) (hw : S.Wk) (x : Bg) (hx : x ∈ S.L) (s : Nat) (hs : s < S.a) (ho : s = x.s ∨ sat S.L s = none) :
    Calls Tryz.prog 112 #[.pointer (some ⟨p.b, 0, none⟩), bgV x, .int .i64 (s : Int)] w fun e w' => e = .returned (.tuple #[]) ∧ BkAt w' p { S with L := upd S.L x.i { x with s := s } } K ∧ Kept w w' p.own := by
  obtain ⟨Lb, R, M, E, T, N, B, C, h, hR, hN⟩ := h
  have hi : x.i < 4294967296 := by have := hw.id x hx; have := hw.n1; omega
  have hxs := hw.st x hx
  have hR2 := hR.move hw hx hs ho
  have b0 := Bx.start h.lt (bgc x) 108
  have h0 := h.then (grown_alloc w (.cells (bgc x).toArray 108))
  have hsa := hw.a1
  have hrl := h.rl
  have HC1 : Hid (∀ W, (w.alloc (.cells (bgc x).toArray 108)).grownBy W none → Calls Tryz.prog 140 #[.pointer (some ⟨p.tb, 0, none⟩), .int .i64 (x.s : Int)] W fun e w' => e = .returned (.int .i64 0) ∧ BkR w' p S (Lb.set x.s false) R M E T N B C (hmf E) ∧ Bx w w' w.heap.size (bgc x) 108 p p) := by
    intro W hg
    refine (free_bk (h0.then hg) x.s (by rw [hR.lb]; exact hxs)).mono ?_
    rintro e w' ⟨rfl, h1, h2⟩
    exact ⟨rfl, h1, (b0.then hg).keep h2⟩
  have HC2 : Hid (∀ W, BkR W p S (Lb.set x.s false) R M E T N B C (hmf E) → Bx w W w.heap.size (bgc x) 108 p p → Calls Tryz.prog 115 #[.pointer (some ⟨p.tb, 0, none⟩), .int .i64 (s : Int)] W fun e w' => e = .returned (.int .i64 0) ∧ BkR w' p S ((Lb.set x.s false).set s true) R M E T N B C (hmf E) ∧ Bx w w' w.heap.size (bgc x) 108 p p) := by
    intro W h1 h2
    refine (put_bk h1 s (by rw [List.length_set, hR.lb]; exact hs)).mono ?_
    rintro e w' ⟨rfl, h3, h4⟩
    exact ⟨rfl, h3, h2.keep h4⟩
  have HC3 : Hid (∀ W, BkR W p S ((Lb.set x.s false).set s true) R M E T N B C (hmf E) → Calls Tryz.prog 143 #[.pointer (some ⟨p.ip.x, 0, none⟩), .int .u32 (x.i : Int), .int .i64 (s : Int)] W fun e w' => ∃ b, e = .returned (.bool b) ∧ Ix.Io w' p.ip (Ix.up M x.i (s : Int)) true ∧ Kept W w' p.ip.own) := by
    intro W h1
    obtain ⟨lo, h2⟩ := h1.ix
    refine (Ix.set_io h2 x.i hi (s : Int) (by omega) (by omega)).mono ?_
    rintro e w' ⟨rfl, h3, h4⟩
    exact ⟨_, rfl, h3, h4⟩
  have HF : Hid (∀ W W3 W', BkR W p S ((Lb.set x.s false).set s true) R M E T N B C (hmf E) → Bx w W w.heap.size (bgc x) 108 p p → Ix.Io W3 p.ip (Ix.up M x.i (s : Int)) true → Kept W W3 p.ip.own →
      W' = ((((W3.setCell ⟨w.heap.size, 1, none⟩ (.int .i64 (s : Int))).setCell ⟨p.sg, s * 3, none⟩ (.int .u32 (x.i : Int))).setCell ⟨p.sg, s * 3 + 1, none⟩ (.int .i64 (s : Int))).setCell ⟨p.sg, s * 3 + 2, none⟩ (.int .i64 x.u)) → BkAt W' p { S with L := upd S.L x.i { x with s := s } } K ∧ Kept w W' p.own) := by
    intro W W3 W' h1 h2 h3 h4 e
    have hnx : ∀ i, p.own i → ¬ i = w.heap.size := fun i hi e => h2.nx (by rw [← e]; exact hi)
    have k1 := kept_setCell W3 w.heap.size 1 (.int .i64 (s : Int))
    have k2 := (((kept_setCell (W3.setCell ⟨w.heap.size, 1, none⟩ (.int .i64 (s : Int))) p.sg (s * 3) (.int .u32 (x.i : Int))).trans (kept_setCell _ p.sg (s * 3 + 1) (.int .i64 (s : Int))) (fun _ _ e => e)).trans (kept_setCell _ p.sg (s * 3 + 2) (.int .i64 x.u)) (fun _ _ e => e))
    rw [← e] at k2
    have k3 : Kept W W' (fun i => p.ip.own i ∨ i = p.sg ∨ i = w.heap.size) := ((h4.mono (fun _ _ e => .inl e)).trans k1 (fun _ _ e => .inr (.inr e))).trans k2 (fun _ _ e => .inr (.inl e))
    have hio : Ix.Io W' p.ip (Ix.up M x.i (s : Int)) true := (h3.far k1 (fun i hi => hnx i ⟨3, Bp.r3 hi⟩)).far k2 (fun i hi e => h1.ap.no Bp.r2 (Bp.r3 (by rw [← e]; exact hi)) (by decide))
    have hrow : W'.heap[p.sg]? = some (.cells (bgs (R.set s { x with s := s })).toArray 108 (0, 0)) := by
      rw [e, bgs_set]
      exact row_setCell (row_setCell (row_setCell (k1.at (h4.at h1.row (fun e => h1.ap.no Bp.r2 (Bp.r3 e) (by decide))) (hnx _ ⟨2, Bp.r2⟩)) _ _) _ _) _ _
    have hb := h1.moved (Z := fun i => i = w.heap.size) hnx k3 ⟨true, hio⟩ hrow (by simp) (fun y hy => ?_) (fun e he => ?_)
    · refine ⟨⟨_, _, _, E, T, N, B, C, hb.re rfl rfl rfl rfl rfl, hR2, hN⟩, h2.st.kept.trans k3 (fun i hi e => ?_)⟩
      rcases e with e | e | e
      · exact ⟨3, Bp.r3 e⟩
      · exact ⟨2, by rw [e]; exact Bp.r2⟩
      · exact absurd hi (by rw [e]; exact Nat.lt_irrefl _)
    · rcases Ix.up_mem.1 hy with ⟨rfl, -⟩ | ⟨hy, -⟩
      · simp; omega
      · exact h1.mi y hy
    · rw [hR2.tl, hR.tl]
      show (fnd (upd S.L x.i { x with s := s }) _).elim 0 _ = _
      rw [fnd_upd hw.asc (y := { x with s := s }) hx rfl]
      split
      · rename_i e2
        rw [e2, (fnd_some hw.asc).2 ⟨hx, rfl⟩]
        rfl
      · rfl
  have HL : Hid (∀ W W3, BkR W p S ((Lb.set x.s false).set s true) R M E T N B C (hmf E) → Bx w W w.heap.size (bgc x) 108 p p → Kept W W3 p.ip.own → W3.heap[w.heap.size]? = some (.cells (bgc x).toArray 108 (0, 0)) ∧ W3.cell? ⟨p.b, 7, none⟩ = some (.slice (some ⟨p.sg, 0, none⟩) S.a S.a) ∧ W3.cell? ⟨p.b, 8, none⟩ = some (.pointer (some ⟨p.ip.x, 0, none⟩)) ∧ (∃ a b c, W3.cell? ⟨p.sg, s * 3, none⟩ = some a ∧ W3.cell? ⟨p.sg, s * 3 + 1, none⟩ = some b ∧ W3.cell? ⟨p.sg, s * 3 + 2, none⟩ = some c) ∧ (∀ j, W3.frozen? ⟨p.sg, j, none⟩ = false) ∧ ¬ p.sg = w.heap.size ∧ ¬ p.b = w.heap.size) := by
    intro W W3 h1 h2 h3
    have hhd := h3.at h1.head (fun e => h1.ap.no Bp.r0 (Bp.r3 e) (by decide))
    have hrow := h3.at h1.row (fun e => h1.ap.no Bp.r2 (Bp.r3 e) (by decide))
    have hsr : s < R.length := by omega
    obtain ⟨g1, g2, g3⟩ := bgs_get hsr
    refine ⟨h3.at h2.box (fun e => h2.nx ⟨3, Bp.r3 e⟩), by rw [cell_row hhd]; rfl, by rw [cell_row hhd]; rfl, ⟨_, _, _, by rw [cell_row hrow]; exact g1, by rw [cell_row hrow]; exact g2, by rw [cell_row hrow]; exact g3⟩, fun j => free_row hrow j, fun e => h2.nx ⟨2, by rw [← e]; exact Bp.r2⟩, fun e => h2.nx ⟨0, by rw [← e]; exact Bp.r0⟩⟩
  have c6 := h0.cells 6 _ rfl
  have x1 := b0.cells 1 _ rfl
  clear h h0 b0 hR hR2 hw hx ho
  obtain ⟨xi, xs, xu⟩ := x
  unfold bgV
  simp only [bgc] at *
  go_enter Tryz.func112, Tryz.ntmps112
  go_wp2
  go_region_held3 (fun W => W.cell? ⟨p.b, 6, none⟩ = some (.pointer (some ⟨p.tb, 0, none⟩)) ∧ W.cell? ⟨w.heap.size, 1, none⟩ = some (.int .i64 (xs : Int))) (first | assumption | exact ⟨c6, x1⟩)
    ((go_at_call 140; refine (HC1.out _ (grown_drew _ none)).mono ?_; rintro e w1 ⟨rfl, hA, hX⟩; have hK1 := And.intro (hA.cells 6 _ rfl) (hX.cells 1 _ rfl)))
  have HC2' := hide (HC2.out w1 hA hX)
  have d6 := hA.cells 6 _ rfl
  clear hA hX hK1 c6 x1 HC1 HC2
  go_wp2_with fail
  refine HC2'.out.mono ?_
  rintro e w2 ⟨rfl, hA, hX⟩
  have HC3' := hide (HC3.out w2.drew (hA.then (grown_drew _ none)))
  have HL2 : Hid (∀ W3, Kept w2.drew W3 p.ip.own → _) := fun W3 => HL.out w2.drew W3 (hA.then (grown_drew _ none)) (hX.then (grown_drew _ none))
  have HF2 : Hid (∀ W3 W', Ix.Io W3 p.ip (Ix.up M xi (s : Int)) true → Kept w2.drew W3 p.ip.own → _ → BkAt W' p { S with L := upd S.L xi ⟨xi, s, xu⟩ } K ∧ Kept w W' p.own) := fun W3 W' => HF.out w2.drew W3 W' (hA.then (grown_drew _ none)) (hX.then (grown_drew _ none))
  have d8 := hA.cells 8 _ rfl
  have x0 := hX.cells 0 _ rfl
  clear hA hX HC2' HC3 HF HL d6
  go_wp2
  go_region_held3 (fun W => W.cell? ⟨p.b, 8, none⟩ = some (.pointer (some ⟨p.ip.x, 0, none⟩)) ∧ W.cell? ⟨w.heap.size, 0, none⟩ = some (.int .u32 (xi : Int))) (first | assumption | exact ⟨d8, x0⟩)
    ((go_at_call 143; refine HC3'.out.mono ?_; rintro e w3 ⟨bb, rfl, hio, hk3⟩; obtain ⟨q1, q2, q3, q4, q5, q6, q7⟩ := HL2.out w3 hk3; have hK1 := And.intro q3 (cell_row q1 0)))
  obtain ⟨z0, z1, z2, z3⟩ := box3 q1
  obtain ⟨va, vb, vc, y0, y1, y2⟩ := q4
  have HE : Hid (∀ W', _ → BkAt W' p { S with L := upd S.L xi ⟨xi, s, xu⟩ } K ∧ Kept w W' p.own) := fun W' => HF2.out w3 W' hio hk3
  clear hK1 q1 q3 hio hk3 HF2 HL2 HC3' d8 x0
  go_wp2
  go_region
  obtain ⟨f1, f2⟩ := HE.out _ rfl
  go_end0
  exact ⟨rfl, f1.then (grown_drew _ none), f2.trans (Kept.new (grown_drew _ none) _) (fun _ _ e => e)⟩
end
end Go.Proofs.YtinkkocleognbaaGreatDoor
