/- Texts joined: Rp3. -/
import Derived.Test.YtinkkocleognbaaGreatDoorJnAo
namespace Go.Proofs.YtinkkocleognbaaGreatDoor
/- Rows of records; their clone; States. -/
open Go.RowKit Go.Shelf
attribute [local go_sem ↓] Go.wp_at_zero Go.wp_at_succ
attribute [local go_sem] Oper.semAt_some
theorem info47 : (Tryz.prog.info? 47).map (fun i => (i.zero, i.size, i.bytes)) = some (some (.agg #[.int .i64 0, .int .u32 0, .int .i64 0, .int .i64 0, .int .i64 0]), 5, 40) := by kernel_rfl
def rcc (r : Rc) : List Value := [.int .i64 r.k, .int .u32 r.i, .int .i64 r.s, .int .i64 r.u, .int .i64 r.c]
def rcs (l : List Rc) : List Value := l.flatMap rcc
theorem rcc_length (r : Rc) : (rcc r).length = 5 := rfl
theorem rcs_cons (r : Rc) (l : List Rc) : rcs (r :: l) = rcc r ++ rcs l := by simp [rcs]
theorem rcs_append (l m : List Rc) : rcs (l ++ m) = rcs l ++ rcs m := by simp [rcs]
theorem rcs_snoc (l : List Rc) (r : Rc) : rcs (l ++ [r]) = rcs l ++ rcc r := by rw [rcs_append]; simp [rcs]
theorem rcs_length (l : List Rc) : (rcs l).length = l.length * 5 := by
  induction l with
  | nil => rfl
  | cons r l ih => rw [rcs_cons, List.length_append, ih, rcc_length, List.length_cons]; omega
theorem rcs_at {l : List Rc} {i : Nat} {r : Rc} (h : l[i]? = some r) {o : Nat} (ho : o < 5) : (rcs l)[i * 5 + o]? = (rcc r)[o]? := by
  induction l generalizing i with
  | nil => simp at h
  | cons q l ih =>
    rw [rcs_cons]
    cases i with
    | zero =>
      simp at h
      subst h
      rw [List.getElem?_append_left (by rw [rcc_length]; omega)]
      simp
    | succ i =>
      rw [List.getElem?_append_right (by rw [rcc_length]; omega), rcc_length, show (i + 1) * 5 + o - 5 = i * 5 + o by omega]
      exact ih (by simpa using h)
theorem rcs_get {l : List Rc} {j : Nat} {u : Value} (h : (rcs l)[j]? = some u) : ∃ r, l[j / 5]? = some r ∧ (rcc r)[j % 5]? = some u := by
  have hj : j < l.length * 5 := by have := (List.getElem?_eq_some_iff.1 h).1; rwa [rcs_length] at this
  have hi : j / 5 < l.length := by omega
  refine ⟨l[j / 5], List.getElem?_eq_getElem hi, ?_⟩
  rw [← rcs_at (List.getElem?_eq_getElem hi) (Nat.mod_lt _ (by decide)), show j / 5 * 5 + j % 5 = j by omega]
  exact h
theorem rcs_one (l : List Rc) : ∀ u ∈ rcs l, u.oneCell' = true := by
  intro u hu
  simp only [rcs, List.mem_flatMap] at hu
  obtain ⟨r, -, hu⟩ := hu
  simp [rcc] at hu
  rcases hu with rfl | rfl | rfl | rfl | rfl <;> rfl
theorem RecsAt.cells {w : World} {g off : Nat} {l : List Rc} (h : RecsAt w (some ⟨g, off, none⟩) l) : ∀ j u, (rcs l)[j]? = some u → w.cell? (Addr.add ⟨g, off, none⟩ j) = some u := by
  intro j u hj
  obtain ⟨r, h1, h2⟩ := rcs_get hj
  obtain ⟨b, o, e, c0, c1, c2, c3, c4⟩ := h _ r h1
  cases e
  rw [Addr.add_lit]
  have hm : j % 5 < 5 := Nat.mod_lt _ (by decide)
  have hd : j = j / 5 * 5 + j % 5 := by omega
  generalize hk : j % 5 = k at *
  generalize j / 5 = i at *
  rw [hd]
  have : k = 0 ∨ k = 1 ∨ k = 2 ∨ k = 3 ∨ k = 4 := by omega
  rcases this with rfl | rfl | rfl | rfl | rfl <;> simp [rcc] at h2 <;> subst h2
  · exact c0
  · exact c1
  · exact c2
  · exact c3
  · exact c4
/-- A row of one's own, as records that lie somewhere. -/
theorem recs_own {w : World} {B0 : Nat} {so : Option Addr} {cap : Nat} {l : List Rc} (h : w.ownsRow B0 47 5 (.slice so l.length cap) l.length (rcs l)) : RecsAt w so l ∧ ∀ a, l.length ≠ 0 → so = some a → B0 ≤ a.block := by
  refine ⟨fun j r hj => ?_, fun a hn ha => ?_⟩
  · have hl := (List.getElem?_eq_some_iff.1 hj).1
    obtain ⟨g, c, cur, e1, e2, e3, e4, e5, e6, e7⟩ := Ix.own_row h (by omega)
    cases e1
    have key : ∀ o u, o < 5 → (rcc r)[o]? = some u → w.cell? ⟨g, 0 + j * 5 + o, none⟩ = some u := fun o u ho hu => by
      rw [Nat.zero_add]
      exact Ix.own_cell e3 e7 ((rcs_at hj ho).trans hu)
    exact ⟨g, 0, rfl, key 0 _ (by decide) rfl, key 1 _ (by decide) rfl, key 2 _ (by decide) rfl, key 3 _ (by decide) rfl, key 4 _ (by decide) rfl⟩
  · obtain ⟨g, c, cur, e1, e2, -⟩ := Ix.own_row h (by omega)
    cases e1
    cases ha
    exact e2
theorem recs_none {w : World} {l : List Rc} (h : RecsAt w none l) : l = [] := by
  cases l with
  | nil => rfl
  | cons r l => obtain ⟨b, o, e, -⟩ := h 0 r rfl; cases e
theorem RecsAt.form {w : World} {ao : Option Addr} {l : List Rc} (h : RecsAt w ao l) (hl : l ≠ []) : ∃ g off, ao = some ⟨g, off, none⟩ := by
  cases l with
  | nil => exact absurd rfl hl
  | cons r l => obtain ⟨b, o, e, -⟩ := h 0 r rfl; exact ⟨b, o, e⟩
theorem RecsAt.nil (w : World) (ao : Option Addr) : RecsAt w ao [] := fun j r h => by simp at h
set_option maxHeartbeats 4000000 in
theorem clone_any {w : World} {ao : Option Addr} {cap : Nat} {l : List Rc} (h : RecsAt w ao l) (hl : l.length ≤ 65536) : Calls Tryz.prog 40 #[.slice ao l.length cap] w fun e w' => ∃ so c2, e = .returned (.slice so l.length c2) ∧ w'.ownsRow w.heap.size 47 5 (.slice so l.length c2) l.length (rcs l) ∧ w.grownBy w' none := by
  have q48 : ∀ (w : World) (a : Option Addr) (n c n' c' : Nat), (binOp .eql 48 (.slice a n c) (.slice none n' c')).run Tryz.prog w = .ok (.bool a.isNone) w := fun w a n c n' c' => Lib.run_eql_slice_nil w _ _ a n c n' c' Tryz.underlying48
  cases ao with
  | none =>
    have h0 := recs_none h
    subst h0
    clear h
    go_enter Tryz.func40, Tryz.ntmps40
    go_wp2
    go_ret
    exact ⟨none, 0, rfl, World.ownsRow_nil _ _ _ _, grown_refl _ _⟩
  | some a =>
    have hcells : ∀ j u, (rcs l)[j]? = some u → w.cell? (Addr.add a j) = some u := by
      by_cases h0 : l = []
      · subst h0; intro j u hj; simp [rcs] at hj
      · obtain ⟨g, off, e⟩ := h.form h0
        cases e
        exact h.cells
    obtain ⟨i0, hi0, hz0, hz1, hz2⟩ := info_parts info47
    have HI0 := hide (And.intro hi0 (And.intro hz0 (And.intro hz1 hz2)))
    have HC := hide (And.intro hcells (rcs_one l))
    clear hi0 hz0 hz1 hz2 hcells h
    go_enter Tryz.func40, Tryz.ntmps40
    have hr0 : (w.alloc (.cells #[] 47)).ownsRow w.heap.size 47 5 (.slice (some ⟨w.heap.size, 0, none⟩) 0 0) 0 [] := ⟨rfl, Or.inr ⟨w.heap.size, 0, #[], rfl, Nat.le_refl _, heap_alloc_new w _, Nat.le_refl _, by unfold maxLen; omega, rfl, rfl⟩⟩
    have g1 := World.grownBy_alloc w (.cells #[] 47) none
    have hc1 : ∀ j u, (rcs l)[j]? = some u → (w.alloc (.cells #[] 47)).cell? (Addr.add a j) = some u := fun j u hj => g1.cell (HC.out.1 j u hj) (by simp)
    have HR := hide (And.intro hr0 (And.intro g1 hc1))
    clear hr0 g1 hc1
    go_wp2_with (at_builtin; refine wpList_append_own _ rfl (.tmp 5) (.tmp 6) 48 rfl w.heap.size 47 i0 (.agg #[.int .i64 0, .int .u32 0, .int .i64 0, .int .i64 0, .int .i64 0]) 5 40 Tryz.underlying48 HI0.out.1 HI0.out.2.1 HI0.out.2.2.1 HI0.out.2.2.2 rfl (by decide) (.slice (some ⟨w.heap.size, 0, none⟩) 0 0) 0 [] rfl HR.out.1 a l.length cap (rcs l) rfl (rcs_length l) HR.out.2.2 HC.out.2 (by unfold maxLen; omega) (by omega) HR.out.2.1.size ?_)
    intro v' w' ho hg hv
    clear hv
    obtain ⟨so, c2, rfl, -⟩ := Ix.own_form ho
    have H := hide (And.intro ho (grown_then HR.out.2.1 hg (fun j e => Or.inl (by cases e; exact Nat.le_refl _))))
    clear ho hg
    go_wp2
    go_ret
    exact ⟨so, c2, rfl, H.out.1, H.out.2⟩
/-- What States answers: what goes through the states, its blocks new but for the table. -/
def StF (w : World) (B0 : Nat) (v : Value) (a b c : Int) (rs : List Rc) : Prop := ∃ Bs Bl so cap, v = .func (.func 41) #[] #[.pointer (some ⟨Bs, 0, none⟩), .pointer (some ⟨Bl, 0, none⟩)] ∧ StI w Bs Bl a b c so cap rs ∧ ∀ i, stR Bs Bl so rs.length i → i = 0 ∨ B0 ≤ i
set_option maxHeartbeats 4000000 in
theorem states_any {w : World} {a b c : Int} {ao : Option Addr} {cap : Nat} {rs : List Rc} (hR : RecsAt w ao rs) (hO : ∀ r ∈ rs, r.Ok) (hl : rs.length ≤ 10000) (hT : Rk.Tab w) : Calls Tryz.prog 12 #[.agg #[.int .i64 a, .int .i64 b, .int .i64 c], .slice ao rs.length cap] w fun e w' => ∃ v, e = .returned v ∧ StF w' w.heap.size v a b c rs ∧ w.grownBy w' none := by
  have hmf : ∀ (fn : Fn) (first cap : Array Value) (w : World), (Instr.makeFunc fn first cap).run Tryz.prog w = .ok (.func fn first cap) w := fun _ _ _ _ => rfl
  have g1 := grown_alloc w (.cells [Value.int .i64 a, .int .i64 b, .int .i64 c].toArray 23)
  have b1 := heap_alloc_new w (.cells [Value.int .i64 a, .int .i64 b, .int .i64 c].toArray 23)
  obtain ⟨W1, hW1⟩ : ∃ W1, W1 = w.alloc (.cells [Value.int .i64 a, .int .i64 b, .int .i64 c].toArray 23) := ⟨_, rfl⟩
  rw [← hW1] at g1 b1
  have z1 : W1.heap.size = w.heap.size + 1 := by rw [hW1]; exact World.size_alloc ..
  have g2 := grown_alloc W1 (.cells [Value.slice ao rs.length cap].toArray 48)
  have b2 := heap_alloc_new W1 (.cells [Value.slice ao rs.length cap].toArray 48)
  obtain ⟨W2, hW2⟩ : ∃ W2, W2 = W1.alloc (.cells [Value.slice ao rs.length cap].toArray 48) := ⟨_, rfl⟩
  rw [← hW2] at g2 b2
  have z2 : W2.heap.size = w.heap.size + 2 := by rw [hW2, World.size_alloc, z1]
  rw [z1] at b2
  have g3 := grown_trans g1 g2
  have hcl := clone_any (cap := cap) (hR.grown g3) (by omega)
  have hc0 := cell_row b2 0
  have hf0 := free_row b2 0
  have b1' := (g2.block _ (row_lt b1) (by simp)).trans b1
  simp at hc0
  have HX : Hid (∀ (w' : World) (so : Option Addr) (c2 : Nat), w'.ownsRow W2.heap.size 47 5 (.slice so rs.length c2) rs.length (rcs rs) → W2.grownBy w' none → w'.cell? ⟨w.heap.size + 1, 0, none⟩ = some (.slice ao rs.length cap) ∧ w'.frozen? ⟨w.heap.size + 1, 0, none⟩ = false ∧ StF (w'.setCell ⟨w.heap.size + 1, 0, none⟩ (.slice so rs.length c2)) w.heap.size (.func (.func 41) #[] #[.pointer (some ⟨w.heap.size, 0, none⟩), .pointer (some ⟨w.heap.size + 1, 0, none⟩)]) a b c rs ∧ w.grownBy (w'.setCell ⟨w.heap.size + 1, 0, none⟩ (.slice so rs.length c2)) none) := by
    intro w' so c2 ho hg
    have b2' := (hg.block _ (row_lt b2) (by simp)).trans b2
    have hk := kept_setCell w' (w.heap.size + 1) 0 (.slice so rs.length c2)
    obtain ⟨r1, r2⟩ := recs_own ho
    refine ⟨?_, free_row b2' 0, ⟨w.heap.size, w.heap.size + 1, so, c2, rfl, ⟨?_, ?_, ?_, ?_, hO, hl⟩, ?_⟩, ?_⟩
    · have := cell_row b2' 0; simpa using this
    · exact hk.at ((hg.block _ (row_lt b1') (by simp)).trans b1') (by omega)
    · have := row_setCell b2' 0 (.slice so rs.length c2); simpa using this
    · intro j r hj
      obtain ⟨q, off, h1, h2, h3, h4, h5, h6⟩ := r1 j r hj
      have hq : ¬ q = w.heap.size + 1 := by
        have := r2 _ (by have := (List.getElem?_eq_some_iff.1 hj).1; omega) h1
        simp only at this
        omega
      exact ⟨q, off, h1, hk.cell hq h2, hk.cell hq h3, hk.cell hq h4, hk.cell hq h5, hk.cell hq h6⟩
    · exact fun j hj => hk.cell (by omega) (((hT.new g3).new hg) j hj)
    · rintro i (rfl | rfl | rfl | ⟨hn, a, ha, rfl⟩)
      · exact .inl rfl
      · exact .inr (Nat.le_refl _)
      · exact .inr (by omega)
      · have := r2 a hn ha; exact .inr (by omega)
    · exact gn_set (grown_trans g3 hg) (by omega)
  have HC := hide hcl
  rw [hW2, hW1] at HC
  rw [hW2, hW1] at HX
  clear hcl g1 b1 z1 g2 b2 z2 g3 hf0 b1' hc0 hR hO hT hW2 hW1
  go_enter Tryz.func12, Tryz.ntmps12
  go_wp2_with fail
  refine HC.out.mono ?_
  rintro e w3 ⟨so, c2, rfl, h1, h2⟩
  obtain ⟨x1, x2, x3, x4⟩ := HX.out w3 so c2 h1 h2
  have HF := hide (And.intro x3 x4)
  clear x3 x4 HX HC h1 h2
  go_wp2
  go_ret
  exact ⟨_, rfl, HF.out⟩
set_option maxHeartbeats 4000000 in
/-- A shape that may not be. -/
theorem new_no (a b c : Int) (h : ¬ Gx.OkS a b c) (w : World) : Calls Tryz.prog 38 #[.agg #[.int .i64 a, .int .i64 b, .int .i64 c]] w fun e w' => e = .returned (.tuple #[.pointer none, .int .i64 90]) ∧ w.grownBy w' none := by
  have HC1 : Hid (∀ W : World, Calls Tryz.prog 71 #[.agg #[.int .i64 a, .int .i64 b, .int .i64 c]] W fun e w' => e = .returned (.int .i64 90) ∧ W.grownBy w' none) := fun W => Ge.check_no _ _ _ h W
  clear h
  go_enter Tryz.func38, Tryz.ntmps38
  go_wp2_with fail
  refine (HC1.out _).mono ?_
  rintro e w1 ⟨rfl, hg1⟩
  have HG := hide (grown_trans (grown_alloc w _) hg1)
  clear hg1
  go_wp2
  go_ret2
  exact ⟨rfl, HG.out⟩
end Go.Proofs.YtinkkocleognbaaGreatDoor
