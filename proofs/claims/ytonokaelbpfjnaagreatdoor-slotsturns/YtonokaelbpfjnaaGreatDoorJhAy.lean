/- Texts joined: RefN, RefZ, RDev, RDev2. -/
import Derived.Test.YtonokaelbpfjnaaGreatDoorJhAh
import Derived.Test.YtonokaelbpfjnaaGreatDoorJhAg
import Derived.Test.YtonokaelbpfjnaaGreatDoorJhAi
import Derived.Deep.RegionHeld3
import Derived.Test.YtonokaelbpfjnaaGreatDoorJhAj
/- The document's New. -/
namespace Go.Proofs.YtonokaelbpfjnaaGreatDoor
open Go.RowKit Ap
attribute [local go_sem ↓] Go.wp_at_zero Go.wp_at_succ

/-- New bytes, and what an append of them comes to. -/
theorem make_push {wq : World} {lo rb j vcap sz : Nat} {vo : Option Addr} {vw : Value} {S : List Bx} (hb : wq.heap[rb]? = some (.cells #[.slice vo j vcap, vw] 144 (0, 0))) (hR : RowAt wq lo (.slice vo j vcap) S) (hS : S.length = j) (hs1 : sz ≤ 4096) (hlo : lo ≤ wq.heap.size) (hj : j ≤ 65536) :
    ∃ g cap2 w2, (∀ ty, (Builtin.append_ #[91, 91] ty #[.slice vo j vcap, .slice (some ⟨wq.heap.size + 1, 0, none⟩) 1 1]).run Tryz.prog ((wq.drew.alloc (.cells (bv (zs sz)).toArray 5)).alloc (.cells #[.slice (some ⟨wq.heap.size, 0, none⟩) sz sz] 36)) = .ok (.slice (some ⟨g, 0, none⟩) (j + 1) cap2) w2) ∧
      (wq.drew.alloc (.cells (bv (zs sz)).toArray 5)).cell? ⟨rb, 0, none⟩ = some (.slice vo j vcap) ∧ ((wq.drew.alloc (.cells (bv (zs sz)).toArray 5)).alloc (.cells #[.slice (some ⟨wq.heap.size, 0, none⟩) sz sz] 36)).cell? ⟨rb, 0, none⟩ = some (.slice vo j vcap) ∧ w2.cell? ⟨rb, 0, none⟩ = some (.slice vo j vcap) ∧ w2.frozen? ⟨rb, 0, none⟩ = false ∧
      Hid ((w2.setCell ⟨rb, 0, none⟩ (.slice (some ⟨g, 0, none⟩) (j + 1) cap2)).heap[rb]? = some (.cells #[.slice (some ⟨g, 0, none⟩) (j + 1) cap2, vw] 144 (0, 0)) ∧ RowAt (w2.setCell ⟨rb, 0, none⟩ (.slice (some ⟨g, 0, none⟩) (j + 1) cap2)) lo (.slice (some ⟨g, 0, none⟩) (j + 1) cap2) (S ++ [⟨wq.heap.size, sz, zs sz⟩]) ∧ Kept wq (w2.setCell ⟨rb, 0, none⟩ (.slice (some ⟨g, 0, none⟩) (j + 1) cap2)) (fun i => i = rb ∨ (Value.slice vo j vcap).ownBlock = some i)) := by
  have g1' : wq.grownBy (wq.drew.alloc (.cells (bv (zs sz)).toArray 5)) none := grown_trans (grown_drew wq none) (World.grownBy_alloc _ _ none)
  have hsz : (wq.drew.alloc (.cells (bv (zs sz)).toArray 5)).heap.size = wq.heap.size + 1 := Array.size_push ..
  have hzl : (zs sz).length = sz := by simp [zs]
  have o1 : BxAt (wq.drew.alloc (.cells (bv (zs sz)).toArray 5)) wq.heap.size ⟨wq.heap.size, sz, zs sz⟩ := by
    have := World.ownsRow_lit (base := wq.heap.size) (e := 5) (size := 1) wq.drew (bv (zs sz)).toArray sz (Nat.le_refl _) (by unfold maxLen; omega) (by simp [bv_length, zs])
    simp only [BxAt, Bx.v, hzl]
    exact this
  have hro := (hR.grown g1').row
  rw [hS] at hro
  obtain ⟨g, cap2, w2, hrun, o2, g2⟩ := run_row hro (Nat.le_trans hlo g1'.size) (.slice (some ⟨wq.heap.size, 0, none⟩) sz sz) rfl hj
  obtain ⟨c1, c2, c3, c4⟩ := push_pre hb hR g1' g2
  have gz := World.grownBy_alloc (wq.drew.alloc (.cells (bv (zs sz)).toArray 5)) (.cells #[.slice (some ⟨wq.heap.size, 0, none⟩) sz sz] 36) none
  rw [hsz] at hrun
  exact ⟨g, cap2, w2, hrun, c1, c2, c3, c4, hide (push_row hb hR (grown_trans g1' gz) (BxAt.grown o1 gz) hlo (by rw [hS, Bx.v]; simp only [hzl]; exact o2) g2)⟩

set_option maxHeartbeats 1000000 in
theorem rnew_bad (s z : Int) (w : World) (h : mayB s z = false) : Calls Tryz.prog 35 #[.int .i64 s, .int .i64 z] w fun e w' => ∃ rb, e = .returned (.tuple #[.pointer (some ⟨rb, 0, none⟩), .int .i64 2]) ∧ Empty w' rb ∧ w.heap.size ≤ rb ∧ w.grownBy w' none := by
  have HM := hide (mayR_any s z)
  rw [h] at HM
  clear h
  go_enter Tryz.func35, Tryz.ntmps35
  go_wp2_with fail
  refine (HM.out _).mono ?_
  rintro e w1 ⟨rfl, rfl⟩
  go_wp2
  go_ret2
  exact ⟨_, rfl, heap_alloc_new w _, Nat.le_refl _, World.grownBy_alloc w _ none⟩
set_option maxRecDepth 20000 in
set_option maxHeartbeats 4000000 in
theorem rnew_any (n size : Nat) (w : World) (h : mayB (n : Int) (size : Int) = true) : Calls Tryz.prog 35 #[.int .i64 (n : Int), .int .i64 (size : Int)] w fun e w' => ∃ q : Rk, e = .returned (.tuple #[.pointer (some ⟨q.r, 0, none⟩), .int .i64 0]) ∧ RefAt w' w.heap.size n size q ∧ q.S.map Bx.xs = List.replicate n (zs size) ∧ q.V = [] ∧ w.grownBy w' none := by
  have HM := hide (mayR_any n size)
  rw [h] at HM
  have hs := shape_of h
  have s1 := hs.s1
  have n1 := hs.n1
  have hmk := make_bytes size (by omega)
  have HSH := hide hs
  have H0 := hide (And.intro (heap_alloc_new w (.cells #[.slice none 0 0, .slice none 0 0] 144)) (World.grownBy_alloc w (.cells #[.slice none 0 0, .slice none 0 0] 144) none))
  clear h hs
  go_enter Tryz.func35, Tryz.ntmps35
  go_wp2_with fail
  refine (HM.out _).mono ?_
  rintro e w1 ⟨rfl, rfl⟩
  obtain ⟨rb, hrb⟩ : ∃ rb, rb = w.heap.size := ⟨_, rfl⟩
  have HB := hide hrb
  rw [← hrb] at H0 ⊢
  clear hrb
  go_wp2
  go_loopg [7] n (fun q i wr => ∃ j : Nat, q + j = n ∧ i = .int .i64 j ∧ Hid (∃ v S, S.length = j ∧ wr.heap[rb]? = some (.cells #[v, .slice none 0 0] 144 (0, 0)) ∧ RowAt wr rb v S ∧ S.map Bx.xs = List.replicate j (zs size) ∧ w.grownBy wr none))
  case atStart => exact ⟨0, by omega, rfl, hide ⟨.slice none 0 0, [], rfl, by rw [HB.out] at H0 ⊢; exact H0.out.1, RowAt.nil _ _, by simp, H0.out.2⟩⟩
  case round =>
    obtain ⟨j, hkj, rfl, HR⟩ := hrel
    obtain ⟨v, S, u0, u1, u2, u3, u5⟩ := HR.out
    by_cases hk : 0 < gk
    · obtain ⟨vo, vcap, hv, -, -, -⟩ := own_form u2.row
      rw [u0] at hv
      subst hv
      have hcv : wr.cell? ⟨rb, 0, none⟩ = some (.slice vo j vcap) := cell_row (l := [.slice vo j vcap, .slice none 0 0]) u1 0
      obtain ⟨g, cap2, w2, hrun, c1, c2, c3, c4, P2⟩ := make_push (sz := size) u1 u2 u0 (by omega) (Nat.le_of_lt (row_lt u1)) (by omega)
      have c1' : (wr.alloc (.cells (bv (zs size)).toArray 5)).cell? ⟨rb, 0, none⟩ = some (.slice vo j vcap) := c1
      have c2' : ((wr.alloc (.cells (bv (zs size)).toArray 5)).alloc (.cells #[.slice (some ⟨wr.heap.size, 0, none⟩) size size] 36)).cell? ⟨rb, 0, none⟩ = some (.slice vo j vcap) := c2
      have HX := hide (And.intro u0 (And.intro u1 (And.intro u2 (And.intro u3 u5))))
      have h2 : (j : Int) < (n : Int) := by omega
      clear u0 u1 u2 u3 u5 HR
      go_wp2
      go_region_law (refine step_append_run (by rfl) _ _ _ (by rfl) _ _ (by rfl) (by rfl) hrun ?_)
      all_goals
        go_wp2
        go_roundg (gk - 1)
        case measure => omega
        case rel =>
          obtain ⟨p1, p2, p3⟩ := P2.out
          obtain ⟨f0, f1, f2, f3, f5⟩ := HX.out
          refine ⟨j + 1, by omega, by go_num, hide ⟨_, S ++ [⟨wr.heap.size, size, zs size⟩], by simp [f0], p1, p2, ?_, ?_⟩⟩
          · rw [List.map_append, f3, List.replicate_succ']; rfl
          · refine ((Kept.new f5 _).trans p3 (fun _ _ e => e)).grown ?_
            rintro i hi (e | e)
            · have := HB.out; omega
            · have := (own_block f2.row i e).1; have := HB.out; omega
    · have hj : j = n := by omega
      subst hj
      have HX := hide (And.intro u0 (And.intro u1 (And.intro u2 (And.intro u3 u5))))
      clear u0 u1 u2 u3 u5 HR hkj hk
      go_wp2
      go_ret2
      obtain ⟨f0, f1, f2, f3, f5⟩ := HX.out
      refine ⟨⟨rb, v, .slice none 0 0, S, []⟩, rfl, ⟨f1, by rw [HB.out]; exact Nat.le_refl _, by rw [← HB.out]; exact f2, World.ownsRow_nil _ _ _ _, by simp, by simp, HSH.out, f0, ?_, by simp⟩, f3, rfl, f5⟩
      intro b hb
      have : b.xs ∈ List.replicate j (zs size) := by rw [← f3]; exact List.mem_map_of_mem hb
      rw [List.eq_of_mem_replicate this]
      simp [zs]
end Go.Proofs.YtonokaelbpfjnaaGreatDoor
/- The document's Copy. -/
namespace Go.Proofs.YtonokaelbpfjnaaGreatDoor
open Go.RowKit Ap
attribute [local go_sem ↓] Go.wp_at_zero Go.wp_at_succ

section
variable {wq : World} {lo n size : Nat} {q : Rk}
theorem twin_wait2 {ao vo : Option Addr} {cap j vcap s : Nat} {y : List Nat} (h : RefAt wq lo n size q) (hlo : lo ≤ wq.heap.size) (hvw : q.vw = .slice vo j vcap) (hj : q.V.length = j) (hj2 : j ≤ 1000000) (hat : At wq ao y) (hl : y.length = size) (hnil : ao = none → size = 0 ∧ cap = 0) (hs : s < n) :
    Calls Tryz.prog 133 #[.slice ao size cap] wq.drew fun e w1 => ∃ gt ct g cap2 w2, e = .returned (.slice (some ⟨gt, 0, none⟩) size ct) ∧ (∀ ty, (Builtin.append_ #[142, 142] ty #[.slice vo j vcap, .slice (some ⟨w1.heap.size, 0, none⟩) 1 1]).run Tryz.prog (w1.alloc (.cells #[.int .i64 (s : Int), .slice (some ⟨gt, 0, none⟩) size ct] 169)) = .ok (.slice (some ⟨g, 0, none⟩) (j + 1) cap2) w2) ∧
      w1.cell? ⟨q.r, 1, none⟩ = some (.slice vo j vcap) ∧ (w1.alloc (.cells #[.int .i64 (s : Int), .slice (some ⟨gt, 0, none⟩) size ct] 169)).cell? ⟨q.r, 1, none⟩ = some (.slice vo j vcap) ∧ w2.cell? ⟨q.r, 1, none⟩ = some (.slice vo j vcap) ∧ w2.frozen? ⟨q.r, 1, none⟩ = false ∧
      Hid (Kept wq w1 (rfoot q)) ∧ Hid (Kept wq (w1.alloc (.cells #[.int .i64 (s : Int), .slice (some ⟨gt, 0, none⟩) size ct] 169)) (rfoot q)) ∧ Hid (Kept wq w2 (rfoot q)) ∧
      Hid (RefAt (w2.setCell ⟨q.r, 1, none⟩ (.slice (some ⟨g, 0, none⟩) (j + 1) cap2)) lo n size ⟨q.r, q.v, .slice (some ⟨g, 0, none⟩) (j + 1) cap2, q.S, q.V ++ [(s, ⟨gt, ct, y⟩)]⟩ ∧ Kept wq (w2.setCell ⟨q.r, 1, none⟩ (.slice (some ⟨g, 0, none⟩) (j + 1) cap2)) (rfoot q) ∧ ∀ i, rfoot ⟨q.r, q.v, .slice (some ⟨g, 0, none⟩) (j + 1) cap2, q.S, q.V ++ [(s, ⟨gt, ct, y⟩)]⟩ i → rfoot q i ∨ wq.heap.size ≤ i) := by
  have s0 := h.shape.s0
  have s1 := h.shape.s1
  refine (twin_any ao size cap y wq.drew hat hl (by omega) hnil (by omega)).mono ?_
  rintro e w1 ⟨gt, ct, rfl, o1, g1⟩
  have g1' := grown_trans (grown_drew wq none) g1
  have h1 := h.grown g1'
  have hro := h1.wrow
  rw [hvw, hj] at hro
  obtain ⟨g, cap2, w2, hrun, o2, g2, hg⟩ := run_wait hro (Nat.le_trans hlo g1'.size) (s : Int) (.slice (some ⟨gt, 0, none⟩) size ct) rfl hj2
  have gz := World.grownBy_alloc w1 (.cells #[.int .i64 (s : Int), .slice (some ⟨gt, 0, none⟩) size ct] 169) none
  have hz := h1.grown gz
  have hwn : (Value.slice vo j vcap).ownBlock ≠ some q.r := by
    rw [← hvw]
    intro e
    obtain ⟨_, c1, q1⟩ := own_block h.wrow q.r e
    rw [h.head] at q1
    simp at q1
  have hh2 := (g2.block q.r (row_lt hz.head) (fun e => hwn e.symm)).trans hz.head
  have c3 : w2.cell? ⟨q.r, 1, none⟩ = some q.vw := cell_row (l := [q.v, q.vw]) hh2 1
  have P := h.wrote (v' := .slice (some ⟨g, 0, none⟩) (j + 1) cap2) (b := ⟨gt, ct, y⟩) (s := s) hlo (grown_trans g1' gz) (BxAt.grown o1 gz) hl hs (by rw [hj, Bx.v]; simp only [hl]; exact o2) (by rw [hvw]; exact g2) (fun x e => by
    cases e
    rw [hvw]
    exact hg.imp id (fun e => Nat.le_trans g1'.size e))
  refine ⟨gt, ct, g, cap2, w2, rfl, hrun, ?_, ?_, ?_, free_row hh2 1, hide (Kept.new g1' _), hide (Kept.new (grown_trans g1' gz) _), hide ?_, hide P⟩
  · rw [h1.c1, hvw]
  · rw [hz.c1, hvw]
  · rw [c3, hvw]
  · exact (Kept.new (grown_trans g1' gz) _).trans (Kept.of g2 (fun i e _ => .inr (.inr (.inl (by rw [hvw]; exact e))))) (fun _ _ e => e)
end
section
variable {w : World} {lo n size : Nat} {q : Rk} {r : Nat}
end
end Go.Proofs.YtonokaelbpfjnaaGreatDoor
/- The document's device. -/
namespace Go.Proofs.YtonokaelbpfjnaaGreatDoor
open Go.RowKit Ap
attribute [local go_sem ↓] Go.wp_at_zero Go.wp_at_succ

def rvcells (r : Nat) (s : Dv) : List Value := [.pointer (some ⟨r, 0, none⟩), .bool s.off, .int .i64 s.arm, .int .i64 (s.cnt : Int)]
structure RvAt (w : World) (c r : Nat) (s : Dv) : Prop where
  head : w.heap[c]? = some (.cells (rvcells r s).toArray 112 (0, 0))
  ok : s.Ok
structure RDev (w : World) (lo n size c : Nat) (s : Dv) (q : Rk) : Prop where
  ref : RefAt w lo n size q
  dev : RvAt w c q.r s
  low : lo ≤ c
structure RM (w w' : World) (c : Nat) (q q' : Rk) : Prop where
  r : q'.r = q.r
  rf : ∀ i, rfoot q' i → rfoot q i ∨ w.heap.size ≤ i
  kept : Kept w w' (fun i => rfoot q i ∨ i = c)
/-- What the document's disk holds. -/
def rst (q : Rk) : List (List Nat) × List Pr := (q.S.map Bx.xs, absV q.V)
def rsyncA (size : Nat) (st : List (List Nat) × List Pr) : List (List Nat) × List Pr := (stlR (fun _ => size) st.2 st.1 st.2.length, [])
def rcrashA (size : Nat) (F : List (Int × Int)) (st : List (List Nat) × List Pr) : List (List Nat) × List Pr := (stlR (fun i => lasts (fateK F i) (fateA F i) size) st.2 st.1 st.2.length, [])
theorem absV_length (V : List (Nat × Bx)) : (absV V).length = V.length := by simp [absV]
section
variable {w w' w'' : World} {lo n size c r : Nat} {s s' : Dv} {q q' q'' : Rk}
theorem RvAt.same (h : RvAt w c r s) (hb : w'.heap[c]? = w.heap[c]?) : RvAt w' c r s := ⟨hb.trans h.head, h.ok⟩
theorem RvAt.lt (h : RvAt w c r s) : c < w.heap.size := row_lt h.head
theorem RvAt.grown (h : RvAt w c r s) (hg : w.grownBy w' none) : RvAt w' c r s := h.same (hg.block c h.lt (by simp))
theorem RvAt.kept {S : Nat → Prop} (h : RvAt w c r s) (hk : Kept w w' S) (hS : ¬ S c) : RvAt w' c r s := h.same (hk.block c h.lt hS)
theorem RvAt.c0 (h : RvAt w c r s) : w.cell? ⟨c, 0, none⟩ = some (.pointer (some ⟨r, 0, none⟩)) := cell_row h.head 0
theorem RvAt.c1 (h : RvAt w c r s) : w.cell? ⟨c, 1, none⟩ = some (.bool s.off) := cell_row h.head 1
theorem RvAt.c2 (h : RvAt w c r s) : w.cell? ⟨c, 2, none⟩ = some (.int .i64 s.arm) := cell_row h.head 2
theorem RvAt.c3 (h : RvAt w c r s) : w.cell? ⟨c, 3, none⟩ = some (.int .i64 (s.cnt : Int)) := cell_row h.head 3
theorem RvAt.free (h : RvAt w c r s) (j : Nat) : w.frozen? ⟨c, j, none⟩ = false := free_row h.head j
theorem RDev.off (h : RDev w lo n size c s q) : ¬ rfoot q c := h.ref.other_off h.dev.head (by decide) (by decide) (by decide) (by decide)
theorem RDev.then (h : RDev w lo n size c s q) (hg : w.grownBy w' none) : RDev w' lo n size c s q := ⟨h.ref.grown hg, h.dev.grown hg, h.low⟩
theorem RM.refl (w : World) (c : Nat) (q : Rk) : RM w w c q q := ⟨rfl, fun _ e => .inl e, Kept.refl _ _⟩
theorem RM.trans (h : RM w w' c q q') (g : RM w' w'' c q' q'') : RM w w'' c q q'' := by
  refine ⟨g.r.trans h.r, ?_, h.kept.trans g.kept ?_⟩
  · intro i hi
    rcases g.rf i hi with e | e
    · exact h.rf i e
    · exact Or.inr (Nat.le_trans h.kept.size e)
  · rintro i hi (e | e)
    · rcases h.rf i e with e | e
      · exact Or.inl e
      · omega
    · exact Or.inr e
theorem RM.new (h : RM w w' c q q') (g : w'.grownBy w'' none) : RM w w'' c q q' := ⟨h.r, h.rf, h.kept.trans (Kept.new g _) (fun _ _ e => e)⟩
theorem RM.pre (g : w.grownBy w' none) (h : RM w' w'' c q q') : RM w w'' c q q' := ⟨h.r, fun i hi => (h.rf i hi).imp id (fun e => Nat.le_trans g.size e), (Kept.new g _).trans h.kept (fun _ _ e => e)⟩
theorem RM.row (hg : w.grownBy w' (some c)) : RM w w' c q q := ⟨rfl, fun _ e => .inl e, Kept.of hg (fun _ e _ => Or.inr (Option.some.inj e).symm)⟩
theorem RM.of (hr : q'.r = q.r) (hk : Kept w w' (rfoot q)) (hf : ∀ i, rfoot q' i → rfoot q i ∨ w.heap.size ≤ i) : RM w w' c q q' := ⟨hr, hf, hk.mono (fun _ _ e => Or.inl e)⟩
theorem RDev.rset (h : RDev w lo n size c s q) (hg : w.grownBy w' (some c)) (hd : RvAt w' c q.r s') : RDev w' lo n size c s' q :=
  ⟨h.ref.kept (Kept.of hg (S := fun i => i = c) (fun _ e _ => (Option.some.inj e).symm)) (fun i hi e => by have e : i = c := e; exact h.off (e ▸ hi)), hd, h.low⟩
theorem RDev.rsk (h : RDev w lo n size c s q) (hr : q'.r = q.r) (hq : RefAt w' lo n size q') (hk : Kept w w' (rfoot q)) : RDev w' lo n size c s q' :=
  ⟨hq, by rw [hr]; exact h.dev.kept hk h.off, h.low⟩
theorem at_rdev {ao : Option Addr} {xs : List Nat} (hat : At w ao xs) (h : RvAt w c r s) (hg : w.grownBy w' (some c)) : At w' ao xs := by
  intro j u hu
  obtain ⟨a, e, hc⟩ := hat j u hu
  refine ⟨a, e, hg.cell hc ?_⟩
  rintro e2
  have e2 : (a.add j).block = c := Option.some.inj e2
  have hsp : (a.add j).spot = none := by
    unfold World.cell? at hc
    split at hc
    · split at hc
      · cases hc
      · rename_i hs; simpa using hs
    · cases hc
  have he : a.add j = ⟨c, (a.add j).off, none⟩ := by
    cases hh : a.add j
    rw [hh] at e2 hsp
    simp at e2 hsp
    subst e2 hsp
    rfl
  rw [he, cell_row h.head] at hc
  generalize (a.add j).off = i at hc
  match i, hc with
  | 0, hc => simp [rvcells] at hc
  | 1, hc => simp [rvcells] at hc
  | 2, hc => simp [rvcells] at hc
  | 3, hc => simp [rvcells] at hc
  | i + 4, hc => simp [rvcells] at hc

set_option maxRecDepth 20000 in
set_option maxHeartbeats 1000000 in
theorem rmade_any (h : RvAt w c r s) (hc : s.cnt < 100000) : Calls Tryz.prog 98 #[.pointer (some ⟨c, 0, none⟩)] w fun e w' => e = .returned (.bool s.goes) ∧ RvAt w' c r s.next ∧ w.grownBy w' (some c) := by
  have c1 := h.c1
  have c2 := h.c2
  have c3 := h.c3
  have f1 := h.free 1
  have f2 := h.free 2
  have f3 := h.free 3
  have hlo := h.ok.lo
  have hhi := h.ok.hi
  have HH := hide h
  obtain ⟨x, a, n⟩ := s
  simp only at c1 c2 c3 hc hlo hhi
  cases x with
  | true =>
    have e2 : Dv.goes ⟨true, a, n⟩ = false := rfl
    rw [e2]
    clear h e2
    go_enter Tryz.func98, Tryz.ntmps98
    go_wp2
    go_ret
    exact ⟨rfl, HH.out, grown_refl _ _⟩
  | false =>
    by_cases h0 : a = 0
    · subst h0
      have e2 : Dv.goes ⟨false, 0, n⟩ = false := rfl
      rw [e2]
      clear h e2
      go_enter Tryz.func98, Tryz.ntmps98
      go_wp2
      go_ret
      refine ⟨rfl, ⟨?_, HH.out.ok.next hc⟩, grown_then (grown_setCell _ c 1 _) (grown_setCell _ c 2 _) (fun j e => Or.inr e)⟩
      have h1 := row_setCell HH.out.head 1 (.bool true)
      exact row_setCell h1 2 (.int .i64 (-1))
    · have e2 : Dv.goes ⟨false, a, n⟩ = true := by simp [Dv.goes, h0]
      by_cases h1 : 0 < a
      · have e1 : Dv.next ⟨false, a, n⟩ = ⟨false, a - 1, n + 1⟩ := by simp [Dv.next, h0, h1]
        rw [e1, e2]
        clear h e1 e2
        go_enter Tryz.func98, Tryz.ntmps98
        go_wp2
        go_ret
        refine ⟨rfl, ⟨?_, ⟨by show -1 ≤ a - 1; omega, by show a - 1 ≤ _; omega, by show n + 1 ≤ _; omega⟩⟩, grown_then (grown_setCell _ c 2 _) (grown_setCell _ c 3 _) (fun j e => Or.inr e)⟩
        have h1 := row_setCell HH.out.head 2 (.int .i64 (a - 1))
        exact row_setCell h1 3 (.int .i64 ((n + 1 : Nat) : Int))
      · have e1 : Dv.next ⟨false, a, n⟩ = ⟨false, a, n + 1⟩ := by simp [Dv.next, h0, h1]
        rw [e1, e2]
        clear h e1 e2
        go_enter Tryz.func98, Tryz.ntmps98
        go_wp2
        go_ret
        refine ⟨rfl, ⟨?_, ⟨hlo, hhi, by show n + 1 ≤ _; omega⟩⟩, grown_setCell _ c 3 _⟩
        exact row_setCell HH.out.head 3 (.int .i64 ((n + 1 : Nat) : Int))
set_option maxRecDepth 20000 in
set_option maxHeartbeats 1000000 in
theorem rarm_any (h : RvAt w c r s) (n : Int) (hn : n ≤ 9223372036854775807) : Calls Tryz.prog 26 #[.pointer (some ⟨c, 0, none⟩), .int .i64 n] w fun e w' => e = .returned (.int .i64 s.upc) ∧ RvAt w' c r (s.armed n) ∧ w.grownBy w' (some c) := by
  have c1 := h.c1
  have c2 := h.c2
  have f2 := h.free 2
  have HH := hide h
  obtain ⟨x, a, m⟩ := s
  simp only at c1 c2
  cases x with
  | true =>
    rw [show Dv.upc ⟨true, a, m⟩ = 60 from rfl]
    clear h
    go_enter Tryz.func26, Tryz.ntmps26
    go_wp2
    go_ret
    exact ⟨rfl, HH.out, grown_refl _ _⟩
  | false =>
    rw [show Dv.upc ⟨false, a, m⟩ = 0 from rfl]
    clear h
    by_cases hm : n < -1
    · have e : Dv.armed ⟨false, a, m⟩ n = ⟨false, -1, m⟩ := by simp [Dv.armed]; omega
      rw [e]
      clear e
      go_enter Tryz.func26, Tryz.ntmps26
      go_wp2
      go_ret
      exact ⟨rfl, ⟨row_setCell HH.out.head 2 (.int .i64 (-1)), ⟨by show (-1 : Int) ≤ -1; omega, by show (-1 : Int) ≤ _; omega, HH.out.ok.few⟩⟩, grown_setCell _ c 2 _⟩
    · have e : Dv.armed ⟨false, a, m⟩ n = ⟨false, n, m⟩ := by simp [Dv.armed]; omega
      rw [e]
      clear e
      have hm2 : -1 ≤ n := by omega
      go_enter Tryz.func26, Tryz.ntmps26
      go_wp2
      go_ret
      exact ⟨rfl, ⟨row_setCell HH.out.head 2 (.int .i64 n), ⟨hm2, hn, HH.out.ok.few⟩⟩, grown_setCell _ c 2 _⟩
set_option maxHeartbeats 400000 in
theorem rdown_any (h : RvAt w c r s) : Calls Tryz.prog 51 #[.pointer (some ⟨c, 0, none⟩)] w fun e w' => e = .returned (.bool s.off) ∧ w' = w := by
  have c1 := h.c1
  clear h
  go_enter Tryz.func51, Tryz.ntmps51
  go_wp2
  go_ret
  exact ⟨rfl, rfl⟩
set_option maxHeartbeats 400000 in
theorem rdsize_any (h : RDev w lo n size c s q) : Calls Tryz.prog 84 #[.pointer (some ⟨c, 0, none⟩)] w fun e w' => e = .returned (.int .i64 (size : Int)) ∧ w' = w := by
  have c0 := h.dev.c0
  have HH := hide h.ref
  clear h
  go_enter Tryz.func84, Tryz.ntmps84
  go_wp2_with fail
  refine (rsize_any rfl HH.out).mono ?_
  rintro e w' ⟨rfl, rfl⟩
  go_wp2
  go_ret
  exact ⟨rfl, rfl⟩
set_option maxHeartbeats 400000 in
theorem rdsectors_any (h : RDev w lo n size c s q) : Calls Tryz.prog 92 #[.pointer (some ⟨c, 0, none⟩)] w fun e w' => e = .returned (.int .i64 (n : Int)) ∧ w' = w := by
  have c0 := h.dev.c0
  have HH := hide h.ref
  clear h
  go_enter Tryz.func92, Tryz.ntmps92
  go_wp2_with fail
  refine (rsectors_any rfl HH.out).mono ?_
  rintro e w' ⟨rfl, rfl⟩
  go_wp2
  go_ret
  exact ⟨rfl, rfl⟩
set_option maxHeartbeats 400000 in
theorem rdwaiting_any (h : RDev w lo n size c s q) : Calls Tryz.prog 52 #[.pointer (some ⟨c, 0, none⟩)] w fun e w' => e = .returned (.int .i64 (q.V.length : Int)) ∧ w' = w := by
  have c0 := h.dev.c0
  have HH := hide h.ref
  clear h
  go_enter Tryz.func52, Tryz.ntmps52
  go_wp2_with fail
  refine (rwaiting_any rfl HH.out).mono ?_
  rintro e w' ⟨rfl, rfl⟩
  go_wp2
  go_ret
  exact ⟨rfl, rfl⟩
end
end Go.Proofs.YtonokaelbpfjnaaGreatDoor
/- The document's device: its calls that reach its disk. -/
namespace Go.Proofs.YtonokaelbpfjnaaGreatDoor
open Go.RowKit Ap
attribute [local go_sem ↓] Go.wp_at_zero Go.wp_at_succ

section
variable {w w' : World} {lo n size c r : Nat} {s : Dv} {q q' : Rk}
theorem wr_ref2 (h : RefAt w lo n size q) (hlo : lo ≤ w.heap.size) (hV : q.V.length ≤ 900000) (a : Int) (ao : Option Addr) (L cap : Nat) (xs : List Nat) (hat : At w ao xs) (hx : xs.length = L) (hnil : ao = none → L = 0 ∧ cap = 0) :
    Calls Tryz.prog 99 #[.pointer (some ⟨q.r, 0, none⟩), .int .i64 a, .slice ao L cap] w fun e w' => ∃ q' : Rk, e = .returned (.int .i64 (wcode n size a L)) ∧ q'.r = q.r ∧ RefAt w' lo n size q' ∧ q'.S = q.S ∧ absV q'.V = wabs n size a xs (absV q.V) ∧ Kept w w' (rfoot q) ∧ ∀ i, rfoot q' i → rfoot q i ∨ w.heap.size ≤ i := by
  cases ao with
  | some ad => exact wr_ref rfl h hlo hV a (some ad) L cap xs hat hx (by simp)
  | none =>
    obtain ⟨rfl, rfl⟩ := hnil rfl
    have s0 := h.shape.s0
    by_cases ha : 0 ≤ a ∧ a < (n : Int)
    · obtain ⟨i, rfl⟩ := Int.eq_ofNat_of_zero_le ha.1
      refine (rwrite_long rfl h i (by omega) none 0 0 (by omega)).mono ?_
      rintro e w' ⟨rfl, rfl⟩
      exact ⟨q, by rw [wcode, if_pos ha, if_neg (by omega)], rfl, h, rfl, by rw [wabs, if_pos ha, if_neg (by omega)], Kept.refl _ _, fun i e => .inl e⟩
    · refine (rwrite_bad rfl h a (by omega) _).mono ?_
      rintro e w' ⟨rfl, rfl⟩
      exact ⟨q, by rw [wcode, if_neg ha], rfl, h, rfl, by rw [wabs, if_neg ha], Kept.refl _ _, fun i e => .inl e⟩
set_option maxHeartbeats 1000000 in
theorem rdwrite_any (h : RDev w lo n size c s q) (hlo : lo ≤ w.heap.size) (hV : q.V.length ≤ 900000) (hc : s.cnt < 100000) (a : Int) (ao : Option Addr) (L cap : Nat) (xs : List Nat) (hat : At w ao xs) (hx : xs.length = L) (hnil : ao = none → L = 0 ∧ cap = 0) :
    Calls Tryz.prog 45 #[.pointer (some ⟨c, 0, none⟩), .int .i64 a, .slice ao L cap] w fun e w' => e = .returned (.int .i64 (s.code (wcode n size a L))) ∧ ∃ q', RDev w' lo n size c s.next q' ∧ RM w w' c q q' ∧ rst q' = (if s.goes then ((rst q).1, wabs n size a xs (rst q).2) else rst q) := by
  have H := hide (rmade_any h.dev hc)
  have HH := hide (And.intro h (And.intro hlo (And.intro hV (And.intro hat (And.intro hx hnil)))))
  unfold Dv.code
  clear h hlo hV hc hat hx hnil
  obtain ⟨g, hgo⟩ : ∃ g, g = s.goes := ⟨_, rfl⟩
  rw [← hgo] at H ⊢
  clear hgo
  generalize s.next = t at *
  cases g with
  | false =>
    go_enter Tryz.func45, Tryz.ntmps45
    go_wp2_with fail
    refine H.out.mono ?_
    rintro e w' ⟨rfl, h1, h2⟩
    have H2 := hide (And.intro h1 h2)
    clear h1 h2
    go_wp2
    go_ret
    exact ⟨rfl, q, HH.out.1.rset H2.out.2 H2.out.1, RM.row H2.out.2, rfl⟩
  | true =>
    simp only [if_true]
    go_enter Tryz.func45, Tryz.ntmps45
    go_wp2_with fail
    refine H.out.mono ?_
    rintro e w' ⟨rfl, h1, h2⟩
    have H2 := hide (And.intro h1 h2)
    have c0 := h1.c0
    clear h1 h2
    go_wp2_with fail
    have hd2 := HH.out.1.rset H2.out.2 H2.out.1
    refine (wr_ref2 hd2.ref (Nat.le_trans HH.out.2.1 H2.out.2.size) HH.out.2.2.1 a ao L cap xs (at_rdev HH.out.2.2.2.1 HH.out.1.dev H2.out.2) HH.out.2.2.2.2.1 HH.out.2.2.2.2.2).mono ?_
    rintro e w2 ⟨q2, rfl, g1, g2, g3, g4, g5, g6⟩
    have H3 := hide (And.intro (hd2.rsk g1 g2 g5) (And.intro ((RM.row (q := q) H2.out.2).trans (RM.of g1 g5 g6)) (And.intro g3 g4)))
    clear g1 g2 g3 g4 g5 g6 hd2
    go_wp2
    go_ret
    exact ⟨rfl, q2, H3.out.1, H3.out.2.1, by unfold rst; rw [H3.out.2.2.1, H3.out.2.2.2]⟩
set_option maxHeartbeats 1000000 in
theorem rdsync_any (h : RDev w lo n size c s q) (hV : q.V.length ≤ 900000) (hc : s.cnt < 100000) :
    Calls Tryz.prog 123 #[.pointer (some ⟨c, 0, none⟩)] w fun e w' => e = .returned (.int .i64 (s.code 0)) ∧ ∃ q', RDev w' lo n size c s.next q' ∧ RM w w' c q q' ∧ rst q' = (if s.goes then rsyncA size (rst q) else rst q) := by
  have H := hide (rmade_any h.dev hc)
  have HH := hide (And.intro h hV)
  unfold Dv.code
  clear h hV hc
  obtain ⟨g, hgo⟩ : ∃ g, g = s.goes := ⟨_, rfl⟩
  rw [← hgo] at H ⊢
  clear hgo
  generalize s.next = t at *
  cases g with
  | false =>
    go_enter Tryz.func123, Tryz.ntmps123
    go_wp2_with fail
    refine H.out.mono ?_
    rintro e w' ⟨rfl, h1, h2⟩
    have H2 := hide (And.intro h1 h2)
    clear h1 h2
    go_wp2
    go_ret
    exact ⟨rfl, q, HH.out.1.rset H2.out.2 H2.out.1, RM.row H2.out.2, rfl⟩
  | true =>
    simp only [if_true]
    go_enter Tryz.func123, Tryz.ntmps123
    go_wp2_with fail
    refine H.out.mono ?_
    rintro e w' ⟨rfl, h1, h2⟩
    have H2 := hide (And.intro h1 h2)
    have c0 := h1.c0
    clear h1 h2
    go_wp2_with fail
    have hd2 := HH.out.1.rset H2.out.2 H2.out.1
    refine (rsync_any rfl hd2.ref (by have := HH.out.2; omega)).mono ?_
    rintro e w2 ⟨q2, rfl, g1, g2, g3, g4, g5, g6⟩
    have H3 := hide (And.intro (hd2.rsk g1 g2 g5) (And.intro ((RM.row (q := q) H2.out.2).trans (RM.of g1 g5 (fun i hi => .inl (g6 i hi)))) (And.intro g3 g4)))
    clear g1 g2 g3 g4 g5 g6 hd2
    go_wp2
    go_ret
    exact ⟨rfl, q2, H3.out.1, H3.out.2.1, by unfold rst rsyncA; rw [H3.out.2.2.1, H3.out.2.2.2, absV_length]; rfl⟩
/-- Bytes that the document's device has told. -/
def RGives (w' : World) (size : Nat) (v : Value) (xs : List Nat) : Prop := (v = .slice none 0 0 ∧ xs = []) ∨ ∃ g cc, v = .slice (some ⟨g, 0, none⟩) size cc ∧ At w' (some ⟨g, 0, none⟩) xs ∧ xs.length = size
def rrbytes (n : Nat) (st : List (List Nat) × List Pr) (a : Int) : List Nat := if 0 ≤ a ∧ a < (n : Int) then finds st.2 st.1 a.toNat else []
theorem fold_mem (P : List Pr) (i : Nat) (r0 : Option (List Nat)) (y : List Nat) (h : P.foldl (fun r x => if i = x.1 then some x.2 else r) r0 = some y) : r0 = some y ∨ ∃ x ∈ P, x.2 = y := by
  induction P generalizing r0 with
  | nil => exact Or.inl h
  | cons x l ih =>
    rw [List.foldl_cons] at h
    rcases ih _ h with e | ⟨z, hz, e⟩
    · split at e
      · exact Or.inr ⟨x, by simp, Option.some.inj e⟩
      · exact Or.inl e
    · exact Or.inr ⟨z, by simp [hz], e⟩
theorem finds_len (h : RefAt w lo n size q) (i : Nat) (hi : i < n) : (finds (absV q.V) (q.S.map Bx.xs) i).length = size := by
  unfold finds
  cases hl : lastP (absV q.V) i with
  | some y =>
    rcases fold_mem _ _ _ _ hl with e | ⟨x, hx, e⟩
    · cases e
    · simp only [Option.getD_some]
      rw [absV, List.mem_map] at hx
      obtain ⟨z, hz, rfl⟩ := hx
      rw [← e]
      exact (h.wsz z hz).2
  | none =>
    have hl2 : i < q.S.length := by rw [h.len]; exact hi
    simp only [Option.getD_none, List.getElem?_map, List.getElem?_eq_getElem hl2, Option.map_some, Option.getD_some]
    exact h.sz _ (List.getElem_mem hl2)
theorem rrd_disk (h : RefAt w lo n size q) (hV : q.V.length ≤ 900000) (a : Int) : Calls Tryz.prog 101 #[.pointer (some ⟨q.r, 0, none⟩), .int .i64 a] w fun e w' =>
    ∃ v, e = .returned (.tuple #[v, .int .i64 (rcode n a)]) ∧ RGives w' size v (rrbytes n (rst q) a) ∧ w.grownBy w' none := by
  by_cases ha : 0 ≤ a ∧ a < (n : Int)
  · obtain ⟨i, rfl⟩ := Int.eq_ofNat_of_zero_le ha.1
    have hi : i < n := by omega
    refine (rread_any rfl h (by omega) i hi).mono ?_
    rintro e w' ⟨g, cc, rfl, h1, h2⟩
    refine ⟨_, by rw [rcode, if_pos ha], ?_, h2⟩
    rw [rrbytes, if_pos ha, Int.toNat_natCast]
    exact Or.inr ⟨g, cc, rfl, h1.at_, finds_len h i hi⟩
  · refine (rread_bad rfl h a (by omega)).mono ?_
    rintro e w' ⟨rfl, rfl⟩
    refine ⟨_, by rw [rcode, if_neg ha], ?_, grown_refl _ _⟩
    rw [rrbytes, if_neg ha]
    exact Or.inl ⟨rfl, rfl⟩
set_option maxHeartbeats 1000000 in
theorem rdread_any (h : RDev w lo n size c s q) (hV : q.V.length ≤ 900000) (hc : s.cnt < 100000) (a : Int) :
    Calls Tryz.prog 47 #[.pointer (some ⟨c, 0, none⟩), .int .i64 a] w fun e w' => ∃ v, e = .returned (.tuple #[v, .int .i64 (s.code (rcode n a))]) ∧ RGives w' size v (if s.goes then rrbytes n (rst q) a else []) ∧ RDev w' lo n size c s.next q ∧ RM w w' c q q := by
  have H := hide (rmade_any h.dev hc)
  have HH := hide (And.intro h hV)
  unfold Dv.code
  clear h hV hc
  obtain ⟨g, hgo⟩ : ∃ g, g = s.goes := ⟨_, rfl⟩
  rw [← hgo] at H ⊢
  clear hgo
  generalize s.next = t at *
  cases g with
  | false =>
    go_enter Tryz.func47, Tryz.ntmps47
    go_wp2_with fail
    refine H.out.mono ?_
    rintro e w' ⟨rfl, h1, h2⟩
    have H2 := hide (And.intro h1 h2)
    clear h1 h2
    go_wp2
    go_ret2
    exact ⟨_, rfl, Or.inl ⟨rfl, rfl⟩, HH.out.1.rset H2.out.2 H2.out.1, RM.row H2.out.2⟩
  | true =>
    simp only [if_true]
    go_enter Tryz.func47, Tryz.ntmps47
    go_wp2_with fail
    refine H.out.mono ?_
    rintro e w' ⟨rfl, h1, h2⟩
    have H2 := hide (And.intro h1 h2)
    have c0 := h1.c0
    clear h1 h2
    go_wp2_with fail
    have hd2 := HH.out.1.rset H2.out.2 H2.out.1
    refine (rrd_disk hd2.ref HH.out.2 a).mono ?_
    rintro e w2 ⟨v, rfl, g1, g2⟩
    have H3 := hide (And.intro g1 (And.intro (hd2.then g2) ((RM.row (q := q) H2.out.2).new g2)))
    clear g1 g2 hd2
    go_wp2
    go_ret2
    exact ⟨v, rfl, H3.out.1, H3.out.2.1, H3.out.2.2⟩
set_option maxHeartbeats 1000000 in
theorem rdrestart_any (h : RDev w lo n size c s q) (hV : q.V.length ≤ 900000) (fo : Option Addr) (m cap : Nat) (F : List (Int × Int)) (hm : F.length = m) (hm2 : m ≤ 140737488355328) (hF : FatesAt w fo F) (hfo : ∀ a, fo = some a → 0 < F.length → ¬ rfoot q a.block) :
    Calls Tryz.prog 20 #[.pointer (some ⟨c, 0, none⟩), .slice fo m cap] w fun e w' => e = .returned (.int .i64 0) ∧ ∃ q', RDev w' lo n size c Dv.anew q' ∧ RM w w' c q q' ∧ rst q' = rcrashA size F (rst q) := by
  have c0 := h.dev.c0
  have HH := hide (And.intro h (And.intro hV (And.intro hm (And.intro hm2 (And.intro hF hfo)))))
  clear h hV hm hm2 hF hfo
  go_enter Tryz.func20, Tryz.ntmps20
  go_wp2_with fail
  refine (rcrash_any rfl HH.out.1.ref (by have := HH.out.2.1; omega) fo m cap F HH.out.2.2.1 HH.out.2.2.2.1 HH.out.2.2.2.2.1 HH.out.2.2.2.2.2).mono ?_
  rintro e w2 ⟨q2, rfl, g1, g2, g3, g4, g5, g6⟩
  have H2 := hide (And.intro (HH.out.1.rsk g1 g2 g5) (And.intro (RM.of (c := c) g1 g5 (fun i hi => .inl (g6 i hi))) (And.intro g3 g4)))
  clear g1 g2 g3 g4 g5 g6
  have f1 := H2.out.1.dev.free 1
  have f2 := H2.out.1.dev.free 2
  have f3 := H2.out.1.dev.free 3
  have c1 := H2.out.1.dev.c1
  have c2 := H2.out.1.dev.c2
  have c3 := H2.out.1.dev.c3
  go_wp2
  go_ret
  have r1 := row_setCell H2.out.1.dev.head 1 (.bool false)
  have r2 := row_setCell r1 2 (.int .i64 (-1))
  have r3 := row_setCell r2 3 (.int .i64 0)
  have gg := grown_then (grown_then (grown_setCell w2 c 1 (.bool false)) (grown_setCell _ c 2 (.int .i64 (-1))) (fun j e => Or.inr e)) (grown_setCell _ c 3 (.int .i64 0)) (fun j e => Or.inr e)
  refine ⟨rfl, q2, H2.out.1.rset gg ⟨r3, ⟨by show (-1 : Int) ≤ -1; omega, by show (-1 : Int) ≤ _; omega, by show 0 ≤ _; omega⟩⟩, H2.out.2.1.trans (RM.row gg), ?_⟩
  unfold rst rcrashA
  rw [H2.out.2.2.1, H2.out.2.2.2, absV_length]
  rfl
set_option maxHeartbeats 1000000 in
theorem rdimage_any (h : RDev w lo n size c s q) : Calls Tryz.prog 55 #[.pointer (some ⟨c, 0, none⟩)] w fun e w' => ∃ ao cap, e = .returned (.slice ao n cap) ∧ ∃ S', RowAt w' w.heap.size (.slice ao n cap) S' ∧ S'.map Bx.xs = (rst q).1 ∧ w.grownBy w' none := by
  have c0 := h.dev.c0
  have HH := hide h.ref
  clear h
  go_enter Tryz.func55, Tryz.ntmps55
  go_wp2_with fail
  refine (rimage_row HH.out.rows HH.out.len.symm HH.out.c0 HH.out.shape.n1 (fun b hb => by rw [HH.out.sz b hb]; have := HH.out.shape.s0; have := HH.out.shape.s1; omega)).mono ?_
  rintro e w2 ⟨ao, cap, S', rfl, i1, i2, i3⟩
  have H2 := hide (And.intro i1 (And.intro i2 i3))
  clear i1 i2 i3
  go_wp2
  go_ret
  exact ⟨ao, cap, rfl, S', H2.out.1, H2.out.2.1, H2.out.2.2⟩
set_option maxHeartbeats 1000000 in
theorem rdnew_any (h : RefAt w lo n size q) (hlo : lo ≤ w.heap.size) : Calls Tryz.prog 36 #[.pointer (some ⟨q.r, 0, none⟩)] w fun e w' => ∃ c, e = .returned (.pointer (some ⟨c, 0, none⟩)) ∧ RDev w' lo n size c Dv.anew q ∧ w.heap.size ≤ c ∧ w.grownBy w' none := by
  have HH := hide (And.intro h hlo)
  clear h hlo
  go_enter Tryz.func36, Tryz.ntmps36
  go_wp2
  go_ret
  have g1 := World.grownBy_alloc w (.cells (rvcells q.r Dv.anew).toArray 112) none
  exact ⟨w.heap.size, rfl, ⟨HH.out.1.grown g1, ⟨heap_alloc_new w _, ⟨by show (-1 : Int) ≤ -1; omega, by show (-1 : Int) ≤ _; omega, by show 0 ≤ _; omega⟩⟩, HH.out.2⟩, Nat.le_refl _, g1⟩
theorem RefAt.mono {lo' : Nat} (h : RefAt w lo n size q) (hl : lo' ≤ lo) : RefAt w lo' n size q :=
  ⟨h.head, Nat.le_trans hl h.low, h.rows.mono hl, owns_mono h.wrow hl, fun x hx => (h.wat x hx).mono hl, h.nv, h.shape, h.len, h.sz, h.wsz⟩
end
end Go.Proofs.YtonokaelbpfjnaaGreatDoor
