/- Texts joined: RefZ. -/
import Derived.Test.YtaopcidkgcekdaaGreatJsAk
import Derived.Test.YtaopcidkgcekdaaGreatJsAi
import Derived.Deep.RegionHeld3
/- The document's Copy. -/
namespace Go.Proofs.YtaopcidkgcekdaaGreat
open Go.RowKit Ap
attribute [local go_sem ↓] Go.wp_at_zero Go.wp_at_succ

section
variable {wq : World} {lo n size : Nat} {q : Rk}
theorem twin_wait2 {ao vo : Option Addr} {cap j vcap s : Nat} {y : List Nat} (h : RefAt wq lo n size q) (hlo : lo ≤ wq.heap.size) (hvw : q.vw = .slice vo j vcap) (hj : q.V.length = j) (hj2 : j ≤ 1000000) (hat : At wq ao y) (hl : y.length = size) (hnil : ao = none → size = 0 ∧ cap = 0) (hs : s < n) :
    Calls Tryz.prog 70 #[.slice ao size cap] wq.drew fun e w1 => ∃ gt ct g cap2 w2, e = .returned (.slice (some ⟨gt, 0, none⟩) size ct) ∧ (∀ ty, (Builtin.append_ #[83, 83] ty #[.slice vo j vcap, .slice (some ⟨w1.heap.size, 0, none⟩) 1 1]).run Tryz.prog (w1.alloc (.cells #[.int .i64 (s : Int), .slice (some ⟨gt, 0, none⟩) size ct] 91)) = .ok (.slice (some ⟨g, 0, none⟩) (j + 1) cap2) w2) ∧
      w1.cell? ⟨q.r, 1, none⟩ = some (.slice vo j vcap) ∧ (w1.alloc (.cells #[.int .i64 (s : Int), .slice (some ⟨gt, 0, none⟩) size ct] 91)).cell? ⟨q.r, 1, none⟩ = some (.slice vo j vcap) ∧ w2.cell? ⟨q.r, 1, none⟩ = some (.slice vo j vcap) ∧ w2.frozen? ⟨q.r, 1, none⟩ = false ∧
      Hid (Kept wq w1 (rfoot q)) ∧ Hid (Kept wq (w1.alloc (.cells #[.int .i64 (s : Int), .slice (some ⟨gt, 0, none⟩) size ct] 91)) (rfoot q)) ∧ Hid (Kept wq w2 (rfoot q)) ∧
      Hid (RefAt (w2.setCell ⟨q.r, 1, none⟩ (.slice (some ⟨g, 0, none⟩) (j + 1) cap2)) lo n size ⟨q.r, q.v, .slice (some ⟨g, 0, none⟩) (j + 1) cap2, q.S, q.V ++ [(s, ⟨gt, ct, y⟩)]⟩ ∧ Kept wq (w2.setCell ⟨q.r, 1, none⟩ (.slice (some ⟨g, 0, none⟩) (j + 1) cap2)) (rfoot q) ∧ ∀ i, rfoot ⟨q.r, q.v, .slice (some ⟨g, 0, none⟩) (j + 1) cap2, q.S, q.V ++ [(s, ⟨gt, ct, y⟩)]⟩ i → rfoot q i ∨ wq.heap.size ≤ i) := by
  have s0 := h.shape.s0
  have s1 := h.shape.s1
  refine (twin_any ao size cap y wq.drew hat hl (by omega) hnil (by omega)).mono ?_
  rintro e w1 ⟨gt, ct, rfl, o1, g1⟩
  have g1' := grown_trans (grown_drew wq none) g1
  have h1 := h.grown g1'
  have hro := h1.wrow
  rw [hvw, hj] at hro
  obtain ⟨g, cap2, w2, hrun, o2, g2, hg⟩ := run_wait hro (Nat.le_trans hlo g1'.size) (s : Int) (.slice (some ⟨gt, 0, none⟩) size ct) rfl hj2
  have gz := World.grownBy_alloc w1 (.cells #[.int .i64 (s : Int), .slice (some ⟨gt, 0, none⟩) size ct] 91) none
  have hz := h1.grown gz
  have hwn : (Value.slice vo j vcap).ownBlock ≠ some q.r := by
    rw [← hvw]
    intro e
    obtain ⟨_, c1, q1⟩ := own_block h.wrow q.r e
    rw [h.head] at q1
    simp at q1
  have hh2 := (g2.block q.r (row_lt hz.head) (fun e => hwn e.symm)).trans hz.head
  have c3 : w2.cell? ⟨q.r, 1, none⟩ = some q.vw := cell_row (l := [q.v, q.vw]) hh2 1
  have P := h.wrote (v' := .slice (some ⟨g, 0, none⟩) (j + 1) cap2) (b := ⟨gt, ct, y⟩) (s := s) hlo (grown_trans g1' gz) (BxAt.grown o1 gz) hl hs (by rw [hj, Bx.v]; simp only [hl]; exact o2) (by rw [hvw]; exact g2) (fun x e => by
    cases e
    rw [hvw]
    exact hg.imp id (fun e => Nat.le_trans g1'.size e))
  refine ⟨gt, ct, g, cap2, w2, rfl, hrun, ?_, ?_, ?_, free_row hh2 1, hide (Kept.new g1' _), hide (Kept.new (grown_trans g1' gz) _), hide ?_, hide P⟩
  · rw [h1.c1, hvw]
  · rw [hz.c1, hvw]
  · rw [c3, hvw]
  · exact (Kept.new (grown_trans g1' gz) _).trans (Kept.of g2 (fun i e _ => .inr (.inr (.inl (by rw [hvw]; exact e))))) (fun _ _ e => e)
end
section
variable {w : World} {lo n size : Nat} {q : Rk} {r : Nat}
set_option maxRecDepth 20000 in
set_option maxHeartbeats 8000000 in
theorem rcopy_any (hr : q.r = r) (h : RefAt w lo n size q) (hV : q.V.length ≤ 1000000) :
    Calls Tryz.prog 27 #[.pointer (some ⟨r, 0, none⟩)] w fun e w' => ∃ q' : Rk, e = .returned (.pointer (some ⟨q'.r, 0, none⟩)) ∧ RefAt w' w.heap.size n size q' ∧ q'.S.map Bx.xs = q.S.map Bx.xs ∧ absV q'.V = absV q.V ∧ w.grownBy w' none := by
  obtain ⟨vo, vcap, hvw, hvo⟩ := h.wform
  obtain ⟨M, hM⟩ : ∃ M, M = q.V.length := ⟨_, rfl⟩
  have c1 := h.c1
  rw [hvw, hr, ← hM] at c1
  rw [← hM] at hV hvw hvo
  have HI := hide (rimage_row (rb := r) h.rows h.len.symm (by rw [← hr]; exact h.c0) h.shape.n1 (fun b hb => by rw [h.sz b hb]; have := h.shape.s0; have := h.shape.s1; omega))
  have HH := hide (And.intro h (And.intro hr (And.intro hM (And.intro hvw hvo))))
  clear h hr hM hvw hvo
  go_enter Tryz.func27, Tryz.ntmps27
  go_wp2_with fail
  refine HI.out.mono ?_
  rintro e w1 ⟨ao, cap, S', rfl, i1, i2, i3⟩
  have A1 := hide (And.intro i1 (And.intro i2 i3))
  clear i1 i2 i3
  go_wp2
  obtain ⟨rb, hrb⟩ : ∃ rb, rb = w1.heap.size := ⟨_, rfl⟩
  have HB := hide hrb
  rw [← hrb]
  clear hrb
  go_loopg [4] M (fun gq i wr => ∃ j : Nat, gq + j = M ∧ i = .int .i64 j ∧ Hid (∃ q2 : Rk, q2.r = rb ∧ RefAt wr w.heap.size n size q2 ∧ q2.S = S' ∧ q2.V.length = j ∧ absV q2.V = (absV q.V).take j ∧ w.grownBy wr none))
  case atStart =>
    refine ⟨0, by omega, rfl, hide ⟨⟨rb, .slice ao n cap, .slice none 0 0, S', []⟩, rfl, ?_, rfl, rfl, by simp [absV], grown_trans A1.out.2.2 (World.grownBy_alloc _ _ _)⟩⟩
    have hl : S'.length = n := by have := congrArg List.length A1.out.2.1; simp only [List.length_map] at this; rw [this]; exact HH.out.1.len
    refine ⟨by rw [HB.out]; exact heap_alloc_new w1 _, by rw [HB.out]; exact A1.out.2.2.size, A1.out.1.grown (World.grownBy_alloc _ _ _), World.ownsRow_nil _ _ _ _, by simp, by simp, HH.out.1.shape, hl, ?_, by simp⟩
    intro b hb
    have hm : b.xs ∈ q.S.map Bx.xs := by rw [← A1.out.2.1]; exact List.mem_map_of_mem hb
    obtain ⟨b0, h1, h2⟩ := List.mem_map.1 hm
    rw [← h2]
    exact HH.out.1.sz b0 h1
  case round =>
    obtain ⟨j, hkj, rfl, HR⟩ := hrel
    obtain ⟨q2, u0, u1, u2, u3, u4, u5⟩ := HR.out
    have d1 := u5.cell c1 (by simp)
    by_cases hk : 0 < gk
    · obtain ⟨h, hr, hM, hvw, hvo⟩ := HH.out
      obtain ⟨gw, rfl⟩ := hvo (by omega)
      have hjV : j < q.V.length := by omega
      have hx := List.getElem?_eq_getElem hjV
      generalize q.V[j] = x at *
      have hxm := List.mem_of_getElem? hx
      have hq := h.grown u5
      obtain ⟨e2, e3⟩ := hq.wcell hvw hx
      obtain ⟨hsn, hxl⟩ := hq.wsz x hxm
      obtain ⟨vo2, vcap2, hvw2, -⟩ := u1.wform
      rw [u3] at hvw2
      have HT := hide (twin_wait2 (s := x.1) (ao := some ⟨x.2.g, 0, none⟩) (cap := x.2.c) u1 u5.size hvw2 u3 (by omega) (hq.wat x hxm).at_ hxl (fun e => by cases e) hsn)
      have c2 := u1.c1
      rw [hvw2, u0] at c2
      have HSS : Hid (∀ w' : World, Kept wr w' (rfoot q2) → w'.cell? ⟨r, 1, none⟩ = some (.slice (some ⟨gw, 0, none⟩) M vcap) ∧ w'.cell? ⟨gw, j * 2, none⟩ = some (.int .i64 (x.1 : Int)) ∧ w'.cell? ⟨gw, j * 2 + 1, none⟩ = some (.slice (some ⟨x.2.g, 0, none⟩) size x.2.c)) := by
        intro w' hk
        have hq' := hq.kept hk (fun i hi hi2 => by have := (h.lt i hi).2; have := (u1.lt i hi2).1; omega)
        obtain ⟨e2, e3⟩ := hq'.wcell hvw hx
        refine ⟨?_, e2, e3⟩
        have := hq'.c1
        rw [hvw, hr] at this
        exact this
      rw [u0] at HT
      have HX := hide (And.intro u0 (And.intro u1 (And.intro u2 (And.intro u3 (And.intro u4 (And.intro u5 hx))))))
      have h1 : (0 : Int) ≤ (j : Int) := by omega
      have h2 : (j : Int) < (M : Int) := by omega
      clear h hr hM hvw hvo hx hxm hq hsn hxl hvw2 u0 u1 u2 u3 u4 u5 HR
      go_wp2
      refine wp_region_held_drew (S := fun w' => w'.cell? ⟨r, 1, none⟩ = some (.slice (some ⟨gw, 0, none⟩) M vcap) ∧ w'.cell? ⟨gw, j * 2, none⟩ = some (.int .i64 (x.1 : Int)) ∧ w'.cell? ⟨gw, j * 2 + 1, none⟩ = some (.slice (some ⟨x.2.g, 0, none⟩) size x.2.c)) (by kernel_rfl) ?_ (fun hHeld => ?_)
      · (exact ⟨d1, e2, e3⟩)
      refine wpAnyH_take (i := 0) (oi := { dst := some 18, op := Go.Op.move (Go.Operand.tmp 3), type := 56, pos := "ref.go:169", after := #[], guard := none }) (v := ?_) rfl (by kernel_rfl) (by kernel_rfl) (by kernel_rfl) (fun _ _ _ h => h) (Or.inl ⟨by rfl, ?_⟩) (by assumption) ?_
      rotate_left
      · (intro w hSw; (try dsimp only at hSw); (go_simp <;> with_reducible rfl))
      try simp only [Act.put, List.setIfInBounds_toArray, List.set_cons_zero, List.set_cons_succ]
      refine wpAnyH_take (i := 1) (oi := { dst := some 19, op := Go.Op.move (Go.Operand.tmp 3), type := 56, pos := "ref.go:169", after := #[], guard := none }) (v := ?_) rfl (by kernel_rfl) (by kernel_rfl) (by kernel_rfl) (fun _ _ _ h => h) (Or.inl ⟨by rfl, ?_⟩) (by assumption) ?_
      rotate_left
      · (intro w hSw; (try dsimp only at hSw); (go_simp <;> with_reducible rfl))
      try simp only [Act.put, List.setIfInBounds_toArray, List.set_cons_zero, List.set_cons_succ]
      refine wpAnyH_take (i := 2) (oi := { dst := some 20, op := Go.Op.nilCheck (Go.Operand.tmp 19), type := 0, pos := "ref.go:169", after := #[{ on := 1, ground := Go.Ground.data }], guard := none }) (v := ?_) rfl (by kernel_rfl) (by kernel_rfl) (by kernel_rfl) (fun _ _ _ h => h) (Or.inl ⟨by rfl, ?_⟩) (by assumption) ?_
      rotate_left
      · (intro w hSw; (try dsimp only at hSw); (go_simp <;> with_reducible rfl))
      try simp only [Act.put, List.setIfInBounds_toArray, List.set_cons_zero, List.set_cons_succ]
      refine wpAnyH_take (i := 3) (oi := { dst := some 21, op := Go.Op.fieldAddr 85 (Go.Operand.tmp 20) 1, type := 0, pos := "ref.go:169", after := #[{ on := 2, ground := Go.Ground.data }], guard := none }) (v := ?_) rfl (by kernel_rfl) (by kernel_rfl) (by kernel_rfl) (fun _ _ _ h => h) (Or.inl ⟨by rfl, ?_⟩) (by assumption) ?_
      rotate_left
      · (intro w hSw; (try dsimp only at hSw); (go_simp <;> with_reducible rfl))
      try simp only [Act.put, List.setIfInBounds_toArray, List.set_cons_zero, List.set_cons_succ]
      refine wpAnyH_take (i := 5) (oi := { dst := some 23, op := Go.Op.move (Go.Operand.tmp 0), type := 56, pos := "ref.go:169", after := #[], guard := none }) (v := ?_) rfl (by kernel_rfl) (by kernel_rfl) (by kernel_rfl) (fun _ _ _ h => h) (Or.inl ⟨by rfl, ?_⟩) (by assumption) ?_
      rotate_left
      · (intro w hSw; (try dsimp only at hSw); (go_simp <;> with_reducible rfl))
      try simp only [Act.put, List.setIfInBounds_toArray, List.set_cons_zero, List.set_cons_succ]
      refine wpAnyH_take (i := 6) (oi := { dst := some 24, op := Go.Op.nilCheck (Go.Operand.tmp 23), type := 0, pos := "ref.go:169", after := #[{ on := 5, ground := Go.Ground.data }], guard := none }) (v := ?_) rfl (by kernel_rfl) (by kernel_rfl) (by kernel_rfl) (fun _ _ _ h => h) (Or.inl ⟨by rfl, ?_⟩) (by assumption) ?_
      rotate_left
      · (intro w hSw; (try dsimp only at hSw); (go_simp <;> with_reducible rfl))
      try simp only [Act.put, List.setIfInBounds_toArray, List.set_cons_zero, List.set_cons_succ]
      refine wpAnyH_take (i := 7) (oi := { dst := some 25, op := Go.Op.fieldAddr 85 (Go.Operand.tmp 24) 1, type := 0, pos := "ref.go:169", after := #[{ on := 6, ground := Go.Ground.data }], guard := none }) (v := ?_) rfl (by kernel_rfl) (by kernel_rfl) (by kernel_rfl) (fun _ _ _ h => h) (Or.inl ⟨by rfl, ?_⟩) (by assumption) ?_
      rotate_left
      · (intro w hSw; (try dsimp only at hSw); (go_simp <;> with_reducible rfl))
      try simp only [Act.put, List.setIfInBounds_toArray, List.set_cons_zero, List.set_cons_succ]
      refine wpAnyH_take (i := 8) (oi := { dst := some 26, op := Go.Op.load 83 (Go.Operand.tmp 25), type := 83, pos := "ref.go:169", after := #[{ on := 7, ground := Go.Ground.data }], guard := none }) (v := ?_) rfl (by kernel_rfl) (by kernel_rfl) (by kernel_rfl) (fun _ _ _ h => h) (Or.inl ⟨by rfl, ?_⟩) (by assumption) ?_
      rotate_left
      · (intro w hSw; (try dsimp only at hSw); (go_simp <;> with_reducible rfl))
      try simp only [Act.put, List.setIfInBounds_toArray, List.set_cons_zero, List.set_cons_succ]
      refine wpAnyH_take (i := 9) (oi := { dst := some 27, op := Go.Op.move (Go.Operand.tmp 4), type := 3, pos := "ref.go:169", after := #[], guard := none }) (v := ?_) rfl (by kernel_rfl) (by kernel_rfl) (by kernel_rfl) (fun _ _ _ h => h) (Or.inl ⟨by rfl, ?_⟩) (by assumption) ?_
      rotate_left
      · (intro w hSw; (try dsimp only at hSw); (go_simp <;> with_reducible rfl))
      try simp only [Act.put, List.setIfInBounds_toArray, List.set_cons_zero, List.set_cons_succ]
      refine wpAnyH_take (i := 10) (oi := { dst := some 28, op := Go.Op.indexAddr 83 (Go.Operand.tmp 26) (Go.Operand.tmp 27), type := 0, pos := "ref.go:169", after := #[{ on := 8, ground := Go.Ground.data }, { on := 9, ground := Go.Ground.data }], guard := none }) (v := ?_) rfl (by kernel_rfl) (by kernel_rfl) (by kernel_rfl) (fun _ _ _ h => h) (Or.inl ⟨by rfl, ?_⟩) (by assumption) ?_
      rotate_left
      · (intro w hSw; (try dsimp only at hSw); (go_simp <;> with_reducible rfl))
      try simp only [Act.put, List.setIfInBounds_toArray, List.set_cons_zero, List.set_cons_succ]
      refine wpAnyH_take (i := 11) (oi := { dst := some 29, op := Go.Op.fieldAddr 91 (Go.Operand.tmp 28) 0, type := 0, pos := "ref.go:169", after := #[{ on := 10, ground := Go.Ground.data }], guard := none }) (v := ?_) rfl (by kernel_rfl) (by kernel_rfl) (by kernel_rfl) (fun _ _ _ h => h) (Or.inl ⟨by rfl, ?_⟩) (by assumption) ?_
      rotate_left
      · (intro w hSw; (try dsimp only at hSw); (go_simp <;> with_reducible rfl))
      try simp only [Act.put, List.setIfInBounds_toArray, List.set_cons_zero, List.set_cons_succ]
      refine wpAnyH_take (i := 12) (oi := { dst := some 30, op := Go.Op.load 3 (Go.Operand.tmp 29), type := 3, pos := "ref.go:169", after := #[{ on := 11, ground := Go.Ground.data }], guard := none }) (v := ?_) rfl (by kernel_rfl) (by kernel_rfl) (by kernel_rfl) (fun _ _ _ h => h) (Or.inl ⟨by rfl, ?_⟩) (by assumption) ?_
      rotate_left
      · (intro w hSw; (try dsimp only at hSw); (go_simp <;> with_reducible rfl))
      try simp only [Act.put, List.setIfInBounds_toArray, List.set_cons_zero, List.set_cons_succ]
      refine wpAnyH_take (i := 13) (oi := { dst := some 31, op := Go.Op.move (Go.Operand.tmp 0), type := 56, pos := "ref.go:169", after := #[], guard := none }) (v := ?_) rfl (by kernel_rfl) (by kernel_rfl) (by kernel_rfl) (fun _ _ _ h => h) (Or.inl ⟨by rfl, ?_⟩) (by assumption) ?_
      rotate_left
      · (intro w hSw; (try dsimp only at hSw); (go_simp <;> with_reducible rfl))
      try simp only [Act.put, List.setIfInBounds_toArray, List.set_cons_zero, List.set_cons_succ]
      refine wpAnyH_take (i := 14) (oi := { dst := some 32, op := Go.Op.nilCheck (Go.Operand.tmp 31), type := 0, pos := "ref.go:169", after := #[{ on := 13, ground := Go.Ground.data }], guard := none }) (v := ?_) rfl (by kernel_rfl) (by kernel_rfl) (by kernel_rfl) (fun _ _ _ h => h) (Or.inl ⟨by rfl, ?_⟩) (by assumption) ?_
      rotate_left
      · (intro w hSw; (try dsimp only at hSw); (go_simp <;> with_reducible rfl))
      try simp only [Act.put, List.setIfInBounds_toArray, List.set_cons_zero, List.set_cons_succ]
      refine wpAnyH_take (i := 15) (oi := { dst := some 33, op := Go.Op.fieldAddr 85 (Go.Operand.tmp 32) 1, type := 0, pos := "ref.go:169", after := #[{ on := 14, ground := Go.Ground.data }], guard := none }) (v := ?_) rfl (by kernel_rfl) (by kernel_rfl) (by kernel_rfl) (fun _ _ _ h => h) (Or.inl ⟨by rfl, ?_⟩) (by assumption) ?_
      rotate_left
      · (intro w hSw; (try dsimp only at hSw); (go_simp <;> with_reducible rfl))
      try simp only [Act.put, List.setIfInBounds_toArray, List.set_cons_zero, List.set_cons_succ]
      refine wpAnyH_take (i := 16) (oi := { dst := some 34, op := Go.Op.load 83 (Go.Operand.tmp 33), type := 83, pos := "ref.go:169", after := #[{ on := 15, ground := Go.Ground.data }], guard := none }) (v := ?_) rfl (by kernel_rfl) (by kernel_rfl) (by kernel_rfl) (fun _ _ _ h => h) (Or.inl ⟨by rfl, ?_⟩) (by assumption) ?_
      rotate_left
      · (intro w hSw; (try dsimp only at hSw); (go_simp <;> with_reducible rfl))
      try simp only [Act.put, List.setIfInBounds_toArray, List.set_cons_zero, List.set_cons_succ]
      refine wpAnyH_take (i := 17) (oi := { dst := some 35, op := Go.Op.move (Go.Operand.tmp 4), type := 3, pos := "ref.go:169", after := #[], guard := none }) (v := ?_) rfl (by kernel_rfl) (by kernel_rfl) (by kernel_rfl) (fun _ _ _ h => h) (Or.inl ⟨by rfl, ?_⟩) (by assumption) ?_
      rotate_left
      · (intro w hSw; (try dsimp only at hSw); (go_simp <;> with_reducible rfl))
      try simp only [Act.put, List.setIfInBounds_toArray, List.set_cons_zero, List.set_cons_succ]
      refine wpAnyH_take (i := 18) (oi := { dst := some 36, op := Go.Op.indexAddr 83 (Go.Operand.tmp 34) (Go.Operand.tmp 35), type := 0, pos := "ref.go:169", after := #[{ on := 16, ground := Go.Ground.data }, { on := 17, ground := Go.Ground.data }], guard := none }) (v := ?_) rfl (by kernel_rfl) (by kernel_rfl) (by kernel_rfl) (fun _ _ _ h => h) (Or.inl ⟨by rfl, ?_⟩) (by assumption) ?_
      rotate_left
      · (intro w hSw; (try dsimp only at hSw); (go_simp <;> with_reducible rfl))
      try simp only [Act.put, List.setIfInBounds_toArray, List.set_cons_zero, List.set_cons_succ]
      refine wpAnyH_take (i := 19) (oi := { dst := some 37, op := Go.Op.fieldAddr 91 (Go.Operand.tmp 36) 1, type := 0, pos := "ref.go:169", after := #[{ on := 18, ground := Go.Ground.data }], guard := none }) (v := ?_) rfl (by kernel_rfl) (by kernel_rfl) (by kernel_rfl) (fun _ _ _ h => h) (Or.inl ⟨by rfl, ?_⟩) (by assumption) ?_
      rotate_left
      · (intro w hSw; (try dsimp only at hSw); (go_simp <;> with_reducible rfl))
      try simp only [Act.put, List.setIfInBounds_toArray, List.set_cons_zero, List.set_cons_succ]
      refine wpAnyH_take (i := 20) (oi := { dst := some 38, op := Go.Op.load 32 (Go.Operand.tmp 37), type := 32, pos := "ref.go:169", after := #[{ on := 19, ground := Go.Ground.data }], guard := none }) (v := ?_) rfl (by kernel_rfl) (by kernel_rfl) (by kernel_rfl) (fun _ _ _ h => h) (Or.inl ⟨by rfl, ?_⟩) (by assumption) ?_
      rotate_left
      · (intro w hSw; (try dsimp only at hSw); (go_simp <;> with_reducible rfl))
      try simp only [Act.put, List.setIfInBounds_toArray, List.set_cons_zero, List.set_cons_succ]
      refine wpAnyH_ready (rs := [4, 21]) (by kernel_rfl) (by simp) ?_
      refine AllReadyH.cons (o := { dst := some 22, op := Go.Op.load 83 (Go.Operand.tmp 21), type := 83, pos := "ref.go:169", after := #[{ on := 3, ground := Go.Ground.data }], guard := none }) rfl (fun K hK => ?_) ?_
      · skip
        go_simp
        refine hK.out _ _ ?_ (fun hHeld => ?_)
        · ((try dsimp only); first | exact ⟨d1, e2, e3⟩ | exact HSS.out _ P1.out.2.1 | exact HSS.out _ K3.out | exact HSS.out _ K2.out | exact HSS.out _ K1.out)
        clear hK K
        try simp only [Act.put, List.setIfInBounds_toArray, List.set_cons_zero, List.set_cons_succ]
        refine wpAnyH_ready (rs := [21]) (by kernel_rfl) (by simp) ?_
        refine AllReadyH.cons (o := { dst := some 39, op := Go.Op.call { callee := Go.Callee.value (Go.Operand.func 70), args := #[Go.Operand.tmp 38], argTypes := #[32] }, type := 32, pos := "ref.go:169", after := #[{ on := 20, ground := Go.Ground.data }], guard := none }) rfl (fun K hK => ?_) ?_
        rotate_left
        · exact AllReadyH.nil
        go_simp
        go_at_call 70
        refine HT.out.mono ?_
        rintro e w1 ⟨gt, ct, g, cap2, w2, rfl, hrun, c1', c2', c3, c4, K1, K2, K3, P1⟩
        go_wp2_with fail
        refine hK.out _ _ ?_ (fun hHeld => ?_)
        · ((try dsimp only); first | exact ⟨d1, e2, e3⟩ | exact HSS.out _ P1.out.2.1 | exact HSS.out _ K3.out | exact HSS.out _ K2.out | exact HSS.out _ K1.out)
        clear hK K
        try simp only [Act.put, List.setIfInBounds_toArray, List.set_cons_zero, List.set_cons_succ]
        refine wpAnyH_take (i := 22) (oi := { dst := some 40, op := Go.Op.build 91 #[(0, Go.Operand.tmp 30), (1, Go.Operand.tmp 39)], type := 91, pos := "ref.go:169", after := #[{ on := 12, ground := Go.Ground.data }, { on := 21, ground := Go.Ground.data }], guard := none }) (v := ?_) rfl (by kernel_rfl) (by kernel_rfl) (by kernel_rfl) (fun _ _ _ h => h) (Or.inl ⟨by rfl, ?_⟩) (by assumption) ?_
        rotate_left
        · (intro w hSw; (try dsimp only at hSw); (go_simp <;> with_reducible rfl))
        try simp only [Act.put, List.setIfInBounds_toArray, List.set_cons_zero, List.set_cons_succ]
        refine wpAnyH_ready (rs := [23]) (by kernel_rfl) (by simp) ?_
        refine AllReadyH.cons (o := { dst := some 41, op := Go.Op.buildSlice 83 1 #[(0, Go.Operand.tmp 40)], type := 83, pos := "ref.go:169", after := #[{ on := 22, ground := Go.Ground.data }], guard := none }) rfl (fun K hK => ?_) ?_
        rotate_left
        · exact AllReadyH.nil
        go_simp
        refine hK.out _ _ ?_ (fun hHeld => ?_)
        · ((try dsimp only); first | exact ⟨d1, e2, e3⟩ | exact HSS.out _ P1.out.2.1 | exact HSS.out _ K3.out | exact HSS.out _ K2.out | exact HSS.out _ K1.out)
        clear hK K
        try simp only [Act.put, List.setIfInBounds_toArray, List.set_cons_zero, List.set_cons_succ]
        refine wpAnyH_ready (rs := [24]) (by kernel_rfl) (by simp) ?_
        refine AllReadyH.cons (o := { dst := some 42, op := Go.Op.call { callee := Go.Callee.builtin Go.Builtin.append, args := #[Go.Operand.tmp 22, Go.Operand.tmp 41], argTypes := #[83, 83] }, type := 83, pos := "ref.go:169", after := #[{ on := 4, ground := Go.Ground.data }, { on := 23, ground := Go.Ground.data }, { on := 21, ground := Go.Ground.chain }], guard := none }) rfl (fun K hK => ?_) ?_
        rotate_left
        · exact AllReadyH.nil
        refine step_append_run (by rfl) _ _ _ (by rfl) _ _ (by rfl) (by rfl) hrun ?_
        clear hrun
        refine hK.out _ _ ?_ (fun hHeld => ?_)
        · ((try dsimp only); first | exact ⟨d1, e2, e3⟩ | exact HSS.out _ P1.out.2.1 | exact HSS.out _ K3.out | exact HSS.out _ K2.out | exact HSS.out _ K1.out)
        clear hK K
        try simp only [Act.put, List.setIfInBounds_toArray, List.set_cons_zero, List.set_cons_succ]
        refine wpAnyH_take (i := 25) (oi := { dst := some 43, op := Go.Op.nilCheck (Go.Operand.tmp 18), type := 0, pos := "ref.go:169", after := #[{ on := 0, ground := Go.Ground.data }, { on := 0, ground := Go.Ground.phase }, { on := 1, ground := Go.Ground.phase }, { on := 2, ground := Go.Ground.phase }, { on := 3, ground := Go.Ground.phase }, { on := 4, ground := Go.Ground.phase }, { on := 5, ground := Go.Ground.phase }, { on := 6, ground := Go.Ground.phase }, { on := 7, ground := Go.Ground.phase }, { on := 8, ground := Go.Ground.phase }, { on := 9, ground := Go.Ground.phase }, { on := 10, ground := Go.Ground.phase }, { on := 11, ground := Go.Ground.phase }, { on := 12, ground := Go.Ground.phase }, { on := 13, ground := Go.Ground.phase }, { on := 14, ground := Go.Ground.phase }, { on := 15, ground := Go.Ground.phase }, { on := 16, ground := Go.Ground.phase }, { on := 17, ground := Go.Ground.phase }, { on := 18, ground := Go.Ground.phase }, { on := 19, ground := Go.Ground.phase }, { on := 20, ground := Go.Ground.phase }, { on := 21, ground := Go.Ground.phase }, { on := 22, ground := Go.Ground.phase }, { on := 23, ground := Go.Ground.phase }, { on := 24, ground := Go.Ground.phase }], guard := none }) (v := ?_) rfl (by kernel_rfl) (by kernel_rfl) (by kernel_rfl) (fun _ _ _ h => h) (Or.inl ⟨by rfl, ?_⟩) (by assumption) ?_
        rotate_left
        · (intro w hSw; (try dsimp only at hSw); (go_simp <;> with_reducible rfl))
        try simp only [Act.put, List.setIfInBounds_toArray, List.set_cons_zero, List.set_cons_succ]
        refine wpAnyH_take (i := 26) (oi := { dst := some 44, op := Go.Op.fieldAddr 85 (Go.Operand.tmp 43) 1, type := 0, pos := "ref.go:169", after := #[{ on := 25, ground := Go.Ground.data }, { on := 0, ground := Go.Ground.phase }, { on := 1, ground := Go.Ground.phase }, { on := 2, ground := Go.Ground.phase }, { on := 3, ground := Go.Ground.phase }, { on := 4, ground := Go.Ground.phase }, { on := 5, ground := Go.Ground.phase }, { on := 6, ground := Go.Ground.phase }, { on := 7, ground := Go.Ground.phase }, { on := 8, ground := Go.Ground.phase }, { on := 9, ground := Go.Ground.phase }, { on := 10, ground := Go.Ground.phase }, { on := 11, ground := Go.Ground.phase }, { on := 12, ground := Go.Ground.phase }, { on := 13, ground := Go.Ground.phase }, { on := 14, ground := Go.Ground.phase }, { on := 15, ground := Go.Ground.phase }, { on := 16, ground := Go.Ground.phase }, { on := 17, ground := Go.Ground.phase }, { on := 18, ground := Go.Ground.phase }, { on := 19, ground := Go.Ground.phase }, { on := 20, ground := Go.Ground.phase }, { on := 21, ground := Go.Ground.phase }, { on := 22, ground := Go.Ground.phase }, { on := 23, ground := Go.Ground.phase }, { on := 24, ground := Go.Ground.phase }], guard := none }) (v := ?_) rfl (by kernel_rfl) (by kernel_rfl) (by kernel_rfl) (fun _ _ _ h => h) (Or.inl ⟨by rfl, ?_⟩) (by assumption) ?_
        rotate_left
        · (intro w hSw; (try dsimp only at hSw); (go_simp <;> with_reducible rfl))
        try simp only [Act.put, List.setIfInBounds_toArray, List.set_cons_zero, List.set_cons_succ]
        refine wpAnyH_ready (rs := [27]) (by kernel_rfl) (by simp) ?_
        refine AllReadyH.cons (o := { dst := none, op := Go.Op.store 83 (Go.Operand.tmp 44) (Go.Operand.tmp 42), type := 0, pos := "ref.go:169", after := #[{ on := 26, ground := Go.Ground.data }, { on := 24, ground := Go.Ground.data }, { on := 24, ground := Go.Ground.chain }, { on := 0, ground := Go.Ground.phase }, { on := 1, ground := Go.Ground.phase }, { on := 2, ground := Go.Ground.phase }, { on := 3, ground := Go.Ground.phase }, { on := 4, ground := Go.Ground.phase }, { on := 5, ground := Go.Ground.phase }, { on := 6, ground := Go.Ground.phase }, { on := 7, ground := Go.Ground.phase }, { on := 8, ground := Go.Ground.phase }, { on := 9, ground := Go.Ground.phase }, { on := 10, ground := Go.Ground.phase }, { on := 11, ground := Go.Ground.phase }, { on := 12, ground := Go.Ground.phase }, { on := 13, ground := Go.Ground.phase }, { on := 14, ground := Go.Ground.phase }, { on := 15, ground := Go.Ground.phase }, { on := 16, ground := Go.Ground.phase }, { on := 17, ground := Go.Ground.phase }, { on := 18, ground := Go.Ground.phase }, { on := 19, ground := Go.Ground.phase }, { on := 20, ground := Go.Ground.phase }, { on := 21, ground := Go.Ground.phase }, { on := 22, ground := Go.Ground.phase }, { on := 23, ground := Go.Ground.phase }, { on := 24, ground := Go.Ground.phase }], guard := none }) rfl (fun K hK => ?_) ?_
        rotate_left
        · exact AllReadyH.nil
        go_simp
        refine hK.out _ _ ?_ (fun hHeld => ?_)
        · ((try dsimp only); first | exact ⟨d1, e2, e3⟩ | exact HSS.out _ P1.out.2.1 | exact HSS.out _ K3.out | exact HSS.out _ K2.out | exact HSS.out _ K1.out)
        clear hK K
        try simp only [Act.put, List.setIfInBounds_toArray, List.set_cons_zero, List.set_cons_succ]
        refine wpAnyH_done (by kernel_rfl) ?_ _
        go_wp2
        go_roundg (gk - 1)
        case measure => omega
        case rel =>
          obtain ⟨p1, p2, p3⟩ := P1.out
          obtain ⟨f0, f1, f2, f3, f4, f5, fx⟩ := HX.out
          refine ⟨j + 1, by omega, by go_num, hide ⟨_, rfl, p1, f2, by simp [f3], ?_, ?_⟩⟩
          · rw [take_snoc (absV q.V) j (x.1, x.2.xs) (by rw [absV, List.getElem?_map, fx]; rfl), ← f4]
            simp [absV]
          · exact ((Kept.new f5 _).trans p2 (fun _ _ e => e)).grown (fun i hi e => by have := (f1.lt i e).1; omega)
      refine AllReadyH.cons (o := { dst := some 39, op := Go.Op.call { callee := Go.Callee.value (Go.Operand.func 70), args := #[Go.Operand.tmp 38], argTypes := #[32] }, type := 32, pos := "ref.go:169", after := #[{ on := 20, ground := Go.Ground.data }], guard := none }) rfl (fun K hK => ?_) ?_
      · skip
        go_simp
        go_at_call 70
        refine HT.out.mono ?_
        rintro e w1 ⟨gt, ct, g, cap2, w2, rfl, hrun, c1', c2', c3, c4, K1, K2, K3, P1⟩
        go_wp2_with fail
        refine hK.out _ _ ?_ (fun hHeld => ?_)
        · ((try dsimp only); first | exact ⟨d1, e2, e3⟩ | exact HSS.out _ P1.out.2.1 | exact HSS.out _ K3.out | exact HSS.out _ K2.out | exact HSS.out _ K1.out)
        clear hK K
        try simp only [Act.put, List.setIfInBounds_toArray, List.set_cons_zero, List.set_cons_succ]
        refine wpAnyH_take (i := 22) (oi := { dst := some 40, op := Go.Op.build 91 #[(0, Go.Operand.tmp 30), (1, Go.Operand.tmp 39)], type := 91, pos := "ref.go:169", after := #[{ on := 12, ground := Go.Ground.data }, { on := 21, ground := Go.Ground.data }], guard := none }) (v := ?_) rfl (by kernel_rfl) (by kernel_rfl) (by kernel_rfl) (fun _ _ _ h => h) (Or.inl ⟨by rfl, ?_⟩) (by assumption) ?_
        rotate_left
        · (intro w hSw; (try dsimp only at hSw); (go_simp <;> with_reducible rfl))
        try simp only [Act.put, List.setIfInBounds_toArray, List.set_cons_zero, List.set_cons_succ]
        refine wpAnyH_ready (rs := [4, 23]) (by kernel_rfl) (by simp) ?_
        refine AllReadyH.cons (o := { dst := some 22, op := Go.Op.load 83 (Go.Operand.tmp 21), type := 83, pos := "ref.go:169", after := #[{ on := 3, ground := Go.Ground.data }], guard := none }) rfl (fun K hK => ?_) ?_
        · skip
          go_simp
          refine hK.out _ _ ?_ (fun hHeld => ?_)
          · ((try dsimp only); first | exact ⟨d1, e2, e3⟩ | exact HSS.out _ P1.out.2.1 | exact HSS.out _ K3.out | exact HSS.out _ K2.out | exact HSS.out _ K1.out)
          clear hK K
          try simp only [Act.put, List.setIfInBounds_toArray, List.set_cons_zero, List.set_cons_succ]
          refine wpAnyH_ready (rs := [23]) (by kernel_rfl) (by simp) ?_
          refine AllReadyH.cons (o := { dst := some 41, op := Go.Op.buildSlice 83 1 #[(0, Go.Operand.tmp 40)], type := 83, pos := "ref.go:169", after := #[{ on := 22, ground := Go.Ground.data }], guard := none }) rfl (fun K hK => ?_) ?_
          rotate_left
          · exact AllReadyH.nil
          go_simp
          refine hK.out _ _ ?_ (fun hHeld => ?_)
          · ((try dsimp only); first | exact ⟨d1, e2, e3⟩ | exact HSS.out _ P1.out.2.1 | exact HSS.out _ K3.out | exact HSS.out _ K2.out | exact HSS.out _ K1.out)
          clear hK K
          try simp only [Act.put, List.setIfInBounds_toArray, List.set_cons_zero, List.set_cons_succ]
          refine wpAnyH_ready (rs := [24]) (by kernel_rfl) (by simp) ?_
          refine AllReadyH.cons (o := { dst := some 42, op := Go.Op.call { callee := Go.Callee.builtin Go.Builtin.append, args := #[Go.Operand.tmp 22, Go.Operand.tmp 41], argTypes := #[83, 83] }, type := 83, pos := "ref.go:169", after := #[{ on := 4, ground := Go.Ground.data }, { on := 23, ground := Go.Ground.data }, { on := 21, ground := Go.Ground.chain }], guard := none }) rfl (fun K hK => ?_) ?_
          rotate_left
          · exact AllReadyH.nil
          refine step_append_run (by rfl) _ _ _ (by rfl) _ _ (by rfl) (by rfl) hrun ?_
          clear hrun
          refine hK.out _ _ ?_ (fun hHeld => ?_)
          · ((try dsimp only); first | exact ⟨d1, e2, e3⟩ | exact HSS.out _ P1.out.2.1 | exact HSS.out _ K3.out | exact HSS.out _ K2.out | exact HSS.out _ K1.out)
          clear hK K
          try simp only [Act.put, List.setIfInBounds_toArray, List.set_cons_zero, List.set_cons_succ]
          refine wpAnyH_take (i := 25) (oi := { dst := some 43, op := Go.Op.nilCheck (Go.Operand.tmp 18), type := 0, pos := "ref.go:169", after := #[{ on := 0, ground := Go.Ground.data }, { on := 0, ground := Go.Ground.phase }, { on := 1, ground := Go.Ground.phase }, { on := 2, ground := Go.Ground.phase }, { on := 3, ground := Go.Ground.phase }, { on := 4, ground := Go.Ground.phase }, { on := 5, ground := Go.Ground.phase }, { on := 6, ground := Go.Ground.phase }, { on := 7, ground := Go.Ground.phase }, { on := 8, ground := Go.Ground.phase }, { on := 9, ground := Go.Ground.phase }, { on := 10, ground := Go.Ground.phase }, { on := 11, ground := Go.Ground.phase }, { on := 12, ground := Go.Ground.phase }, { on := 13, ground := Go.Ground.phase }, { on := 14, ground := Go.Ground.phase }, { on := 15, ground := Go.Ground.phase }, { on := 16, ground := Go.Ground.phase }, { on := 17, ground := Go.Ground.phase }, { on := 18, ground := Go.Ground.phase }, { on := 19, ground := Go.Ground.phase }, { on := 20, ground := Go.Ground.phase }, { on := 21, ground := Go.Ground.phase }, { on := 22, ground := Go.Ground.phase }, { on := 23, ground := Go.Ground.phase }, { on := 24, ground := Go.Ground.phase }], guard := none }) (v := ?_) rfl (by kernel_rfl) (by kernel_rfl) (by kernel_rfl) (fun _ _ _ h => h) (Or.inl ⟨by rfl, ?_⟩) (by assumption) ?_
          rotate_left
          · (intro w hSw; (try dsimp only at hSw); (go_simp <;> with_reducible rfl))
          try simp only [Act.put, List.setIfInBounds_toArray, List.set_cons_zero, List.set_cons_succ]
          refine wpAnyH_take (i := 26) (oi := { dst := some 44, op := Go.Op.fieldAddr 85 (Go.Operand.tmp 43) 1, type := 0, pos := "ref.go:169", after := #[{ on := 25, ground := Go.Ground.data }, { on := 0, ground := Go.Ground.phase }, { on := 1, ground := Go.Ground.phase }, { on := 2, ground := Go.Ground.phase }, { on := 3, ground := Go.Ground.phase }, { on := 4, ground := Go.Ground.phase }, { on := 5, ground := Go.Ground.phase }, { on := 6, ground := Go.Ground.phase }, { on := 7, ground := Go.Ground.phase }, { on := 8, ground := Go.Ground.phase }, { on := 9, ground := Go.Ground.phase }, { on := 10, ground := Go.Ground.phase }, { on := 11, ground := Go.Ground.phase }, { on := 12, ground := Go.Ground.phase }, { on := 13, ground := Go.Ground.phase }, { on := 14, ground := Go.Ground.phase }, { on := 15, ground := Go.Ground.phase }, { on := 16, ground := Go.Ground.phase }, { on := 17, ground := Go.Ground.phase }, { on := 18, ground := Go.Ground.phase }, { on := 19, ground := Go.Ground.phase }, { on := 20, ground := Go.Ground.phase }, { on := 21, ground := Go.Ground.phase }, { on := 22, ground := Go.Ground.phase }, { on := 23, ground := Go.Ground.phase }, { on := 24, ground := Go.Ground.phase }], guard := none }) (v := ?_) rfl (by kernel_rfl) (by kernel_rfl) (by kernel_rfl) (fun _ _ _ h => h) (Or.inl ⟨by rfl, ?_⟩) (by assumption) ?_
          rotate_left
          · (intro w hSw; (try dsimp only at hSw); (go_simp <;> with_reducible rfl))
          try simp only [Act.put, List.setIfInBounds_toArray, List.set_cons_zero, List.set_cons_succ]
          refine wpAnyH_ready (rs := [27]) (by kernel_rfl) (by simp) ?_
          refine AllReadyH.cons (o := { dst := none, op := Go.Op.store 83 (Go.Operand.tmp 44) (Go.Operand.tmp 42), type := 0, pos := "ref.go:169", after := #[{ on := 26, ground := Go.Ground.data }, { on := 24, ground := Go.Ground.data }, { on := 24, ground := Go.Ground.chain }, { on := 0, ground := Go.Ground.phase }, { on := 1, ground := Go.Ground.phase }, { on := 2, ground := Go.Ground.phase }, { on := 3, ground := Go.Ground.phase }, { on := 4, ground := Go.Ground.phase }, { on := 5, ground := Go.Ground.phase }, { on := 6, ground := Go.Ground.phase }, { on := 7, ground := Go.Ground.phase }, { on := 8, ground := Go.Ground.phase }, { on := 9, ground := Go.Ground.phase }, { on := 10, ground := Go.Ground.phase }, { on := 11, ground := Go.Ground.phase }, { on := 12, ground := Go.Ground.phase }, { on := 13, ground := Go.Ground.phase }, { on := 14, ground := Go.Ground.phase }, { on := 15, ground := Go.Ground.phase }, { on := 16, ground := Go.Ground.phase }, { on := 17, ground := Go.Ground.phase }, { on := 18, ground := Go.Ground.phase }, { on := 19, ground := Go.Ground.phase }, { on := 20, ground := Go.Ground.phase }, { on := 21, ground := Go.Ground.phase }, { on := 22, ground := Go.Ground.phase }, { on := 23, ground := Go.Ground.phase }, { on := 24, ground := Go.Ground.phase }], guard := none }) rfl (fun K hK => ?_) ?_
          rotate_left
          · exact AllReadyH.nil
          go_simp
          refine hK.out _ _ ?_ (fun hHeld => ?_)
          · ((try dsimp only); first | exact ⟨d1, e2, e3⟩ | exact HSS.out _ P1.out.2.1 | exact HSS.out _ K3.out | exact HSS.out _ K2.out | exact HSS.out _ K1.out)
          clear hK K
          try simp only [Act.put, List.setIfInBounds_toArray, List.set_cons_zero, List.set_cons_succ]
          refine wpAnyH_done (by kernel_rfl) ?_ _
          go_wp2
          go_roundg (gk - 1)
          case measure => omega
          case rel =>
            obtain ⟨p1, p2, p3⟩ := P1.out
            obtain ⟨f0, f1, f2, f3, f4, f5, fx⟩ := HX.out
            refine ⟨j + 1, by omega, by go_num, hide ⟨_, rfl, p1, f2, by simp [f3], ?_, ?_⟩⟩
            · rw [take_snoc (absV q.V) j (x.1, x.2.xs) (by rw [absV, List.getElem?_map, fx]; rfl), ← f4]
              simp [absV]
            · exact ((Kept.new f5 _).trans p2 (fun _ _ e => e)).grown (fun i hi e => by have := (f1.lt i e).1; omega)
        refine AllReadyH.cons (o := { dst := some 41, op := Go.Op.buildSlice 83 1 #[(0, Go.Operand.tmp 40)], type := 83, pos := "ref.go:169", after := #[{ on := 22, ground := Go.Ground.data }], guard := none }) rfl (fun K hK => ?_) ?_
        · skip
          go_simp
          refine hK.out _ _ ?_ (fun hHeld => ?_)
          · ((try dsimp only); first | exact ⟨d1, e2, e3⟩ | exact HSS.out _ P1.out.2.1 | exact HSS.out _ K3.out | exact HSS.out _ K2.out | exact HSS.out _ K1.out)
          clear hK K
          try simp only [Act.put, List.setIfInBounds_toArray, List.set_cons_zero, List.set_cons_succ]
          refine wpAnyH_ready (rs := [4]) (by kernel_rfl) (by simp) ?_
          refine AllReadyH.cons (o := { dst := some 22, op := Go.Op.load 83 (Go.Operand.tmp 21), type := 83, pos := "ref.go:169", after := #[{ on := 3, ground := Go.Ground.data }], guard := none }) rfl (fun K hK => ?_) ?_
          rotate_left
          · exact AllReadyH.nil
          go_simp
          refine hK.out _ _ ?_ (fun hHeld => ?_)
          · ((try dsimp only); first | exact ⟨d1, e2, e3⟩ | exact HSS.out _ P1.out.2.1 | exact HSS.out _ K3.out | exact HSS.out _ K2.out | exact HSS.out _ K1.out)
          clear hK K
          try simp only [Act.put, List.setIfInBounds_toArray, List.set_cons_zero, List.set_cons_succ]
          refine wpAnyH_ready (rs := [24]) (by kernel_rfl) (by simp) ?_
          refine AllReadyH.cons (o := { dst := some 42, op := Go.Op.call { callee := Go.Callee.builtin Go.Builtin.append, args := #[Go.Operand.tmp 22, Go.Operand.tmp 41], argTypes := #[83, 83] }, type := 83, pos := "ref.go:169", after := #[{ on := 4, ground := Go.Ground.data }, { on := 23, ground := Go.Ground.data }, { on := 21, ground := Go.Ground.chain }], guard := none }) rfl (fun K hK => ?_) ?_
          rotate_left
          · exact AllReadyH.nil
          refine step_append_run (by rfl) _ _ _ (by rfl) _ _ (by rfl) (by rfl) hrun ?_
          clear hrun
          refine hK.out _ _ ?_ (fun hHeld => ?_)
          · ((try dsimp only); first | exact ⟨d1, e2, e3⟩ | exact HSS.out _ P1.out.2.1 | exact HSS.out _ K3.out | exact HSS.out _ K2.out | exact HSS.out _ K1.out)
          clear hK K
          try simp only [Act.put, List.setIfInBounds_toArray, List.set_cons_zero, List.set_cons_succ]
          refine wpAnyH_take (i := 25) (oi := { dst := some 43, op := Go.Op.nilCheck (Go.Operand.tmp 18), type := 0, pos := "ref.go:169", after := #[{ on := 0, ground := Go.Ground.data }, { on := 0, ground := Go.Ground.phase }, { on := 1, ground := Go.Ground.phase }, { on := 2, ground := Go.Ground.phase }, { on := 3, ground := Go.Ground.phase }, { on := 4, ground := Go.Ground.phase }, { on := 5, ground := Go.Ground.phase }, { on := 6, ground := Go.Ground.phase }, { on := 7, ground := Go.Ground.phase }, { on := 8, ground := Go.Ground.phase }, { on := 9, ground := Go.Ground.phase }, { on := 10, ground := Go.Ground.phase }, { on := 11, ground := Go.Ground.phase }, { on := 12, ground := Go.Ground.phase }, { on := 13, ground := Go.Ground.phase }, { on := 14, ground := Go.Ground.phase }, { on := 15, ground := Go.Ground.phase }, { on := 16, ground := Go.Ground.phase }, { on := 17, ground := Go.Ground.phase }, { on := 18, ground := Go.Ground.phase }, { on := 19, ground := Go.Ground.phase }, { on := 20, ground := Go.Ground.phase }, { on := 21, ground := Go.Ground.phase }, { on := 22, ground := Go.Ground.phase }, { on := 23, ground := Go.Ground.phase }, { on := 24, ground := Go.Ground.phase }], guard := none }) (v := ?_) rfl (by kernel_rfl) (by kernel_rfl) (by kernel_rfl) (fun _ _ _ h => h) (Or.inl ⟨by rfl, ?_⟩) (by assumption) ?_
          rotate_left
          · (intro w hSw; (try dsimp only at hSw); (go_simp <;> with_reducible rfl))
          try simp only [Act.put, List.setIfInBounds_toArray, List.set_cons_zero, List.set_cons_succ]
          refine wpAnyH_take (i := 26) (oi := { dst := some 44, op := Go.Op.fieldAddr 85 (Go.Operand.tmp 43) 1, type := 0, pos := "ref.go:169", after := #[{ on := 25, ground := Go.Ground.data }, { on := 0, ground := Go.Ground.phase }, { on := 1, ground := Go.Ground.phase }, { on := 2, ground := Go.Ground.phase }, { on := 3, ground := Go.Ground.phase }, { on := 4, ground := Go.Ground.phase }, { on := 5, ground := Go.Ground.phase }, { on := 6, ground := Go.Ground.phase }, { on := 7, ground := Go.Ground.phase }, { on := 8, ground := Go.Ground.phase }, { on := 9, ground := Go.Ground.phase }, { on := 10, ground := Go.Ground.phase }, { on := 11, ground := Go.Ground.phase }, { on := 12, ground := Go.Ground.phase }, { on := 13, ground := Go.Ground.phase }, { on := 14, ground := Go.Ground.phase }, { on := 15, ground := Go.Ground.phase }, { on := 16, ground := Go.Ground.phase }, { on := 17, ground := Go.Ground.phase }, { on := 18, ground := Go.Ground.phase }, { on := 19, ground := Go.Ground.phase }, { on := 20, ground := Go.Ground.phase }, { on := 21, ground := Go.Ground.phase }, { on := 22, ground := Go.Ground.phase }, { on := 23, ground := Go.Ground.phase }, { on := 24, ground := Go.Ground.phase }], guard := none }) (v := ?_) rfl (by kernel_rfl) (by kernel_rfl) (by kernel_rfl) (fun _ _ _ h => h) (Or.inl ⟨by rfl, ?_⟩) (by assumption) ?_
          rotate_left
          · (intro w hSw; (try dsimp only at hSw); (go_simp <;> with_reducible rfl))
          try simp only [Act.put, List.setIfInBounds_toArray, List.set_cons_zero, List.set_cons_succ]
          refine wpAnyH_ready (rs := [27]) (by kernel_rfl) (by simp) ?_
          refine AllReadyH.cons (o := { dst := none, op := Go.Op.store 83 (Go.Operand.tmp 44) (Go.Operand.tmp 42), type := 0, pos := "ref.go:169", after := #[{ on := 26, ground := Go.Ground.data }, { on := 24, ground := Go.Ground.data }, { on := 24, ground := Go.Ground.chain }, { on := 0, ground := Go.Ground.phase }, { on := 1, ground := Go.Ground.phase }, { on := 2, ground := Go.Ground.phase }, { on := 3, ground := Go.Ground.phase }, { on := 4, ground := Go.Ground.phase }, { on := 5, ground := Go.Ground.phase }, { on := 6, ground := Go.Ground.phase }, { on := 7, ground := Go.Ground.phase }, { on := 8, ground := Go.Ground.phase }, { on := 9, ground := Go.Ground.phase }, { on := 10, ground := Go.Ground.phase }, { on := 11, ground := Go.Ground.phase }, { on := 12, ground := Go.Ground.phase }, { on := 13, ground := Go.Ground.phase }, { on := 14, ground := Go.Ground.phase }, { on := 15, ground := Go.Ground.phase }, { on := 16, ground := Go.Ground.phase }, { on := 17, ground := Go.Ground.phase }, { on := 18, ground := Go.Ground.phase }, { on := 19, ground := Go.Ground.phase }, { on := 20, ground := Go.Ground.phase }, { on := 21, ground := Go.Ground.phase }, { on := 22, ground := Go.Ground.phase }, { on := 23, ground := Go.Ground.phase }, { on := 24, ground := Go.Ground.phase }], guard := none }) rfl (fun K hK => ?_) ?_
          rotate_left
          · exact AllReadyH.nil
          go_simp
          refine hK.out _ _ ?_ (fun hHeld => ?_)
          · ((try dsimp only); first | exact ⟨d1, e2, e3⟩ | exact HSS.out _ P1.out.2.1 | exact HSS.out _ K3.out | exact HSS.out _ K2.out | exact HSS.out _ K1.out)
          clear hK K
          try simp only [Act.put, List.setIfInBounds_toArray, List.set_cons_zero, List.set_cons_succ]
          refine wpAnyH_done (by kernel_rfl) ?_ _
          go_wp2
          go_roundg (gk - 1)
          case measure => omega
          case rel =>
            obtain ⟨p1, p2, p3⟩ := P1.out
            obtain ⟨f0, f1, f2, f3, f4, f5, fx⟩ := HX.out
            refine ⟨j + 1, by omega, by go_num, hide ⟨_, rfl, p1, f2, by simp [f3], ?_, ?_⟩⟩
            · rw [take_snoc (absV q.V) j (x.1, x.2.xs) (by rw [absV, List.getElem?_map, fx]; rfl), ← f4]
              simp [absV]
            · exact ((Kept.new f5 _).trans p2 (fun _ _ e => e)).grown (fun i hi e => by have := (f1.lt i e).1; omega)
        exact AllReadyH.nil
      exact AllReadyH.nil
    · have hj : j = M := by omega
      subst hj
      have HX := hide (And.intro u0 (And.intro u1 (And.intro u2 (And.intro u3 (And.intro u4 u5)))))
      clear u0 u1 u2 u3 u4 u5 HR hkj hk
      go_wp2
      go_ret
      obtain ⟨f0, f1, f2, f3, f4, f5⟩ := HX.out
      refine ⟨q2, by rw [f0]; rfl, f1, by rw [f2]; exact A1.out.2.1, ?_, f5⟩
      rw [f4, List.take_of_length_le (by rw [absV, List.length_map]; have := HH.out.2.2.1; omega)]
end
end Go.Proofs.YtaopcidkgcekdaaGreat
