/- Texts joined: RefN, RefZ, RDev, RDev2, Qg1, SlO. -/
import Derived.Test.YtonokaelbpfjnaaDoorJbAf
import Derived.Test.YtonokaelbpfjnaaDoorJbAe
import Derived.Deep.RegionHeld3
import Derived.Test.YtonokaelbpfjnaaDoorJbAg
import Derived.Test.YtonokaelbpfjnaaDoorJbAj
import Derived.Test.YtonokaelbpfjnaaDoorJbAu
/- The document's New. -/
namespace Go.Proofs.YtonokaelbpfjnaaDoor
open Go.RowKit Ap
attribute [local go_sem ↓] Go.wp_at_zero Go.wp_at_succ

/-- New bytes, and what an append of them comes to. -/
theorem make_push {wq : World} {lo rb j vcap sz : Nat} {vo : Option Addr} {vw : Value} {S : List Bx} (hb : wq.heap[rb]? = some (.cells #[.slice vo j vcap, vw] 133 (0, 0))) (hR : RowAt wq lo (.slice vo j vcap) S) (hS : S.length = j) (hs1 : sz ≤ 4096) (hlo : lo ≤ wq.heap.size) (hj : j ≤ 65536) :
    ∃ g cap2 w2, (∀ ty, (Builtin.append_ #[130, 130] ty #[.slice vo j vcap, .slice (some ⟨wq.heap.size + 1, 0, none⟩) 1 1]).run Tryd.prog ((wq.drew.alloc (.cells (bv (zs sz)).toArray 5)).alloc (.cells #[.slice (some ⟨wq.heap.size, 0, none⟩) sz sz] 22)) = .ok (.slice (some ⟨g, 0, none⟩) (j + 1) cap2) w2) ∧
      (wq.drew.alloc (.cells (bv (zs sz)).toArray 5)).cell? ⟨rb, 0, none⟩ = some (.slice vo j vcap) ∧ ((wq.drew.alloc (.cells (bv (zs sz)).toArray 5)).alloc (.cells #[.slice (some ⟨wq.heap.size, 0, none⟩) sz sz] 22)).cell? ⟨rb, 0, none⟩ = some (.slice vo j vcap) ∧ w2.cell? ⟨rb, 0, none⟩ = some (.slice vo j vcap) ∧ w2.frozen? ⟨rb, 0, none⟩ = false ∧
      Hid ((w2.setCell ⟨rb, 0, none⟩ (.slice (some ⟨g, 0, none⟩) (j + 1) cap2)).heap[rb]? = some (.cells #[.slice (some ⟨g, 0, none⟩) (j + 1) cap2, vw] 133 (0, 0)) ∧ RowAt (w2.setCell ⟨rb, 0, none⟩ (.slice (some ⟨g, 0, none⟩) (j + 1) cap2)) lo (.slice (some ⟨g, 0, none⟩) (j + 1) cap2) (S ++ [⟨wq.heap.size, sz, zs sz⟩]) ∧ Kept wq (w2.setCell ⟨rb, 0, none⟩ (.slice (some ⟨g, 0, none⟩) (j + 1) cap2)) (fun i => i = rb ∨ (Value.slice vo j vcap).ownBlock = some i)) := by
  have g1' : wq.grownBy (wq.drew.alloc (.cells (bv (zs sz)).toArray 5)) none := grown_trans (grown_drew wq none) (World.grownBy_alloc _ _ none)
  have hsz : (wq.drew.alloc (.cells (bv (zs sz)).toArray 5)).heap.size = wq.heap.size + 1 := Array.size_push ..
  have hzl : (zs sz).length = sz := by simp [zs]
  have o1 : BxAt (wq.drew.alloc (.cells (bv (zs sz)).toArray 5)) wq.heap.size ⟨wq.heap.size, sz, zs sz⟩ := by
    have := World.ownsRow_lit (base := wq.heap.size) (e := 5) (size := 1) wq.drew (bv (zs sz)).toArray sz (Nat.le_refl _) (by unfold maxLen; omega) (by simp [bv_length, zs])
    simp only [BxAt, Bx.v, hzl]
    exact this
  have hro := (hR.grown g1').row
  rw [hS] at hro
  obtain ⟨g, cap2, w2, hrun, o2, g2⟩ := run_row hro (Nat.le_trans hlo g1'.size) (.slice (some ⟨wq.heap.size, 0, none⟩) sz sz) rfl hj
  obtain ⟨c1, c2, c3, c4⟩ := push_pre hb hR g1' g2
  have gz := World.grownBy_alloc (wq.drew.alloc (.cells (bv (zs sz)).toArray 5)) (.cells #[.slice (some ⟨wq.heap.size, 0, none⟩) sz sz] 22) none
  rw [hsz] at hrun
  exact ⟨g, cap2, w2, hrun, c1, c2, c3, c4, hide (push_row hb hR (grown_trans g1' gz) (BxAt.grown o1 gz) hlo (by rw [hS, Bx.v]; simp only [hzl]; exact o2) g2)⟩

set_option maxHeartbeats 1000000 in
theorem rnew_bad (s z : Int) (w : World) (h : mayB s z = false) : Calls Tryd.prog 40 #[.int .i64 s, .int .i64 z] w fun e w' => ∃ rb, e = .returned (.tuple #[.pointer (some ⟨rb, 0, none⟩), .int .i64 2]) ∧ Empty w' rb ∧ w.heap.size ≤ rb ∧ w.grownBy w' none := by
  have HM := hide (mayR_any s z)
  rw [h] at HM
  clear h
  go_enter Tryd.func40, Tryd.ntmps40
  go_wp2_with fail
  refine (HM.out _).mono ?_
  rintro e w1 ⟨rfl, rfl⟩
  go_wp2
  go_ret2
  exact ⟨_, rfl, heap_alloc_new w _, Nat.le_refl _, World.grownBy_alloc w _ none⟩
set_option maxRecDepth 20000 in
set_option maxHeartbeats 4000000 in
theorem rnew_any (n size : Nat) (w : World) (h : mayB (n : Int) (size : Int) = true) : Calls Tryd.prog 40 #[.int .i64 (n : Int), .int .i64 (size : Int)] w fun e w' => ∃ q : Rk, e = .returned (.tuple #[.pointer (some ⟨q.r, 0, none⟩), .int .i64 0]) ∧ RefAt w' w.heap.size n size q ∧ q.S.map Bx.xs = List.replicate n (zs size) ∧ q.V = [] ∧ w.grownBy w' none := by
  have HM := hide (mayR_any n size)
  rw [h] at HM
  have hs := shape_of h
  have s1 := hs.s1
  have n1 := hs.n1
  have hmk := make_bytes size (by omega)
  have HSH := hide hs
  have H0 := hide (And.intro (heap_alloc_new w (.cells #[.slice none 0 0, .slice none 0 0] 133)) (World.grownBy_alloc w (.cells #[.slice none 0 0, .slice none 0 0] 133) none))
  clear h hs
  go_enter Tryd.func40, Tryd.ntmps40
  go_wp2_with fail
  refine (HM.out _).mono ?_
  rintro e w1 ⟨rfl, rfl⟩
  obtain ⟨rb, hrb⟩ : ∃ rb, rb = w.heap.size := ⟨_, rfl⟩
  have HB := hide hrb
  rw [← hrb] at H0 ⊢
  clear hrb
  go_wp2
  go_loopg [7] n (fun q i wr => ∃ j : Nat, q + j = n ∧ i = .int .i64 j ∧ Hid (∃ v S, S.length = j ∧ wr.heap[rb]? = some (.cells #[v, .slice none 0 0] 133 (0, 0)) ∧ RowAt wr rb v S ∧ S.map Bx.xs = List.replicate j (zs size) ∧ w.grownBy wr none))
  case atStart => exact ⟨0, by omega, rfl, hide ⟨.slice none 0 0, [], rfl, by rw [HB.out] at H0 ⊢; exact H0.out.1, RowAt.nil _ _, by simp, H0.out.2⟩⟩
  case round =>
    obtain ⟨j, hkj, rfl, HR⟩ := hrel
    obtain ⟨v, S, u0, u1, u2, u3, u5⟩ := HR.out
    by_cases hk : 0 < gk
    · obtain ⟨vo, vcap, hv, -, -, -⟩ := own_form u2.row
      rw [u0] at hv
      subst hv
      have hcv : wr.cell? ⟨rb, 0, none⟩ = some (.slice vo j vcap) := cell_row (l := [.slice vo j vcap, .slice none 0 0]) u1 0
      obtain ⟨g, cap2, w2, hrun, c1, c2, c3, c4, P2⟩ := make_push (sz := size) u1 u2 u0 (by omega) (Nat.le_of_lt (row_lt u1)) (by omega)
      have c1' : (wr.alloc (.cells (bv (zs size)).toArray 5)).cell? ⟨rb, 0, none⟩ = some (.slice vo j vcap) := c1
      have c2' : ((wr.alloc (.cells (bv (zs size)).toArray 5)).alloc (.cells #[.slice (some ⟨wr.heap.size, 0, none⟩) size size] 22)).cell? ⟨rb, 0, none⟩ = some (.slice vo j vcap) := c2
      have HX := hide (And.intro u0 (And.intro u1 (And.intro u2 (And.intro u3 u5))))
      have h2 : (j : Int) < (n : Int) := by omega
      clear u0 u1 u2 u3 u5 HR
      go_wp2
      go_region_law (refine step_append_run (by rfl) _ _ _ (by rfl) _ _ (by rfl) (by rfl) hrun ?_)
      all_goals
        go_wp2
        go_roundg (gk - 1)
        case measure => omega
        case rel =>
          obtain ⟨p1, p2, p3⟩ := P2.out
          obtain ⟨f0, f1, f2, f3, f5⟩ := HX.out
          refine ⟨j + 1, by omega, by go_num, hide ⟨_, S ++ [⟨wr.heap.size, size, zs size⟩], by simp [f0], p1, p2, ?_, ?_⟩⟩
          · rw [List.map_append, f3, List.replicate_succ']; rfl
          · refine ((Kept.new f5 _).trans p3 (fun _ _ e => e)).grown ?_
            rintro i hi (e | e)
            · have := HB.out; omega
            · have := (own_block f2.row i e).1; have := HB.out; omega
    · have hj : j = n := by omega
      subst hj
      have HX := hide (And.intro u0 (And.intro u1 (And.intro u2 (And.intro u3 u5))))
      clear u0 u1 u2 u3 u5 HR hkj hk
      go_wp2
      go_ret2
      obtain ⟨f0, f1, f2, f3, f5⟩ := HX.out
      refine ⟨⟨rb, v, .slice none 0 0, S, []⟩, rfl, ⟨f1, by rw [HB.out]; exact Nat.le_refl _, by rw [← HB.out]; exact f2, World.ownsRow_nil _ _ _ _, by simp, by simp, HSH.out, f0, ?_, by simp⟩, f3, rfl, f5⟩
      intro b hb
      have : b.xs ∈ List.replicate j (zs size) := by rw [← f3]; exact List.mem_map_of_mem hb
      rw [List.eq_of_mem_replicate this]
      simp [zs]
end Go.Proofs.YtonokaelbpfjnaaDoor
/- The document's Copy. -/
namespace Go.Proofs.YtonokaelbpfjnaaDoor
open Go.RowKit Ap
attribute [local go_sem ↓] Go.wp_at_zero Go.wp_at_succ

section
variable {wq : World} {lo n size : Nat} {q : Rk}
end
section
variable {w : World} {lo n size : Nat} {q : Rk} {r : Nat}
end
end Go.Proofs.YtonokaelbpfjnaaDoor
/- The document's device. -/
namespace Go.Proofs.YtonokaelbpfjnaaDoor
open Go.RowKit Ap
attribute [local go_sem ↓] Go.wp_at_zero Go.wp_at_succ

def rvcells (r : Nat) (s : Dv) : List Value := [.pointer (some ⟨r, 0, none⟩), .bool s.off, .int .i64 s.arm, .int .i64 (s.cnt : Int)]
structure RvAt (w : World) (c r : Nat) (s : Dv) : Prop where
  head : w.heap[c]? = some (.cells (rvcells r s).toArray 135 (0, 0))
  ok : s.Ok
structure RDev (w : World) (lo n size c : Nat) (s : Dv) (q : Rk) : Prop where
  ref : RefAt w lo n size q
  dev : RvAt w c q.r s
  low : lo ≤ c
structure RM (w w' : World) (c : Nat) (q q' : Rk) : Prop where
  r : q'.r = q.r
  rf : ∀ i, rfoot q' i → rfoot q i ∨ w.heap.size ≤ i
  kept : Kept w w' (fun i => rfoot q i ∨ i = c)
/-- What the document's disk holds. -/
def rst (q : Rk) : List (List Nat) × List Pr := (q.S.map Bx.xs, absV q.V)
def rsyncA (size : Nat) (st : List (List Nat) × List Pr) : List (List Nat) × List Pr := (stlR (fun _ => size) st.2 st.1 st.2.length, [])
def rcrashA (size : Nat) (F : List (Int × Int)) (st : List (List Nat) × List Pr) : List (List Nat) × List Pr := (stlR (fun i => lasts (fateK F i) (fateA F i) size) st.2 st.1 st.2.length, [])
theorem absV_length (V : List (Nat × Bx)) : (absV V).length = V.length := by simp [absV]
section
variable {w w' w'' : World} {lo n size c r : Nat} {s s' : Dv} {q q' q'' : Rk}
theorem RvAt.same (h : RvAt w c r s) (hb : w'.heap[c]? = w.heap[c]?) : RvAt w' c r s := ⟨hb.trans h.head, h.ok⟩
theorem RvAt.lt (h : RvAt w c r s) : c < w.heap.size := row_lt h.head
theorem RvAt.grown (h : RvAt w c r s) (hg : w.grownBy w' none) : RvAt w' c r s := h.same (hg.block c h.lt (by simp))
theorem RvAt.kept {S : Nat → Prop} (h : RvAt w c r s) (hk : Kept w w' S) (hS : ¬ S c) : RvAt w' c r s := h.same (hk.block c h.lt hS)
theorem RvAt.c0 (h : RvAt w c r s) : w.cell? ⟨c, 0, none⟩ = some (.pointer (some ⟨r, 0, none⟩)) := cell_row h.head 0
theorem RvAt.c1 (h : RvAt w c r s) : w.cell? ⟨c, 1, none⟩ = some (.bool s.off) := cell_row h.head 1
theorem RvAt.c2 (h : RvAt w c r s) : w.cell? ⟨c, 2, none⟩ = some (.int .i64 s.arm) := cell_row h.head 2
theorem RvAt.c3 (h : RvAt w c r s) : w.cell? ⟨c, 3, none⟩ = some (.int .i64 (s.cnt : Int)) := cell_row h.head 3
theorem RvAt.free (h : RvAt w c r s) (j : Nat) : w.frozen? ⟨c, j, none⟩ = false := free_row h.head j
theorem RDev.off (h : RDev w lo n size c s q) : ¬ rfoot q c := h.ref.other_off h.dev.head (by decide) (by decide) (by decide) (by decide)
theorem RDev.then (h : RDev w lo n size c s q) (hg : w.grownBy w' none) : RDev w' lo n size c s q := ⟨h.ref.grown hg, h.dev.grown hg, h.low⟩
theorem RM.refl (w : World) (c : Nat) (q : Rk) : RM w w c q q := ⟨rfl, fun _ e => .inl e, Kept.refl _ _⟩
theorem RM.trans (h : RM w w' c q q') (g : RM w' w'' c q' q'') : RM w w'' c q q'' := by
  refine ⟨g.r.trans h.r, ?_, h.kept.trans g.kept ?_⟩
  · intro i hi
    rcases g.rf i hi with e | e
    · exact h.rf i e
    · exact Or.inr (Nat.le_trans h.kept.size e)
  · rintro i hi (e | e)
    · rcases h.rf i e with e | e
      · exact Or.inl e
      · omega
    · exact Or.inr e
theorem RM.new (h : RM w w' c q q') (g : w'.grownBy w'' none) : RM w w'' c q q' := ⟨h.r, h.rf, h.kept.trans (Kept.new g _) (fun _ _ e => e)⟩
theorem RM.pre (g : w.grownBy w' none) (h : RM w' w'' c q q') : RM w w'' c q q' := ⟨h.r, fun i hi => (h.rf i hi).imp id (fun e => Nat.le_trans g.size e), (Kept.new g _).trans h.kept (fun _ _ e => e)⟩
theorem RM.row (hg : w.grownBy w' (some c)) : RM w w' c q q := ⟨rfl, fun _ e => .inl e, Kept.of hg (fun _ e _ => Or.inr (Option.some.inj e).symm)⟩
theorem RM.of (hr : q'.r = q.r) (hk : Kept w w' (rfoot q)) (hf : ∀ i, rfoot q' i → rfoot q i ∨ w.heap.size ≤ i) : RM w w' c q q' := ⟨hr, hf, hk.mono (fun _ _ e => Or.inl e)⟩
theorem RDev.rset (h : RDev w lo n size c s q) (hg : w.grownBy w' (some c)) (hd : RvAt w' c q.r s') : RDev w' lo n size c s' q :=
  ⟨h.ref.kept (Kept.of hg (S := fun i => i = c) (fun _ e _ => (Option.some.inj e).symm)) (fun i hi e => by have e : i = c := e; exact h.off (e ▸ hi)), hd, h.low⟩
theorem RDev.rsk (h : RDev w lo n size c s q) (hr : q'.r = q.r) (hq : RefAt w' lo n size q') (hk : Kept w w' (rfoot q)) : RDev w' lo n size c s q' :=
  ⟨hq, by rw [hr]; exact h.dev.kept hk h.off, h.low⟩
theorem at_rdev {ao : Option Addr} {xs : List Nat} (hat : At w ao xs) (h : RvAt w c r s) (hg : w.grownBy w' (some c)) : At w' ao xs := by
  intro j u hu
  obtain ⟨a, e, hc⟩ := hat j u hu
  refine ⟨a, e, hg.cell hc ?_⟩
  rintro e2
  have e2 : (a.add j).block = c := Option.some.inj e2
  have hsp : (a.add j).spot = none := by
    unfold World.cell? at hc
    split at hc
    · split at hc
      · cases hc
      · rename_i hs; simpa using hs
    · cases hc
  have he : a.add j = ⟨c, (a.add j).off, none⟩ := by
    cases hh : a.add j
    rw [hh] at e2 hsp
    simp at e2 hsp
    subst e2 hsp
    rfl
  rw [he, cell_row h.head] at hc
  generalize (a.add j).off = i at hc
  match i, hc with
  | 0, hc => simp [rvcells] at hc
  | 1, hc => simp [rvcells] at hc
  | 2, hc => simp [rvcells] at hc
  | 3, hc => simp [rvcells] at hc
  | i + 4, hc => simp [rvcells] at hc

set_option maxHeartbeats 400000 in
theorem rdsize_any (h : RDev w lo n size c s q) : Calls Tryd.prog 64 #[.pointer (some ⟨c, 0, none⟩)] w fun e w' => e = .returned (.int .i64 (size : Int)) ∧ w' = w := by
  have c0 := h.dev.c0
  have HH := hide h.ref
  clear h
  go_enter Tryd.func64, Tryd.ntmps64
  go_wp2_with fail
  refine (rsize_any rfl HH.out).mono ?_
  rintro e w' ⟨rfl, rfl⟩
  go_wp2
  go_ret
  exact ⟨rfl, rfl⟩
set_option maxHeartbeats 400000 in
theorem rdsectors_any (h : RDev w lo n size c s q) : Calls Tryd.prog 62 #[.pointer (some ⟨c, 0, none⟩)] w fun e w' => e = .returned (.int .i64 (n : Int)) ∧ w' = w := by
  have c0 := h.dev.c0
  have HH := hide h.ref
  clear h
  go_enter Tryd.func62, Tryd.ntmps62
  go_wp2_with fail
  refine (rsectors_any rfl HH.out).mono ?_
  rintro e w' ⟨rfl, rfl⟩
  go_wp2
  go_ret
  exact ⟨rfl, rfl⟩
end
end Go.Proofs.YtonokaelbpfjnaaDoor
/- The document's device: its calls that reach its disk. -/
namespace Go.Proofs.YtonokaelbpfjnaaDoor
open Go.RowKit Ap
attribute [local go_sem ↓] Go.wp_at_zero Go.wp_at_succ

section
variable {w w' : World} {lo n size c r : Nat} {s : Dv} {q q' : Rk}
/-- Bytes that the document's device has told. -/
def RGives (w' : World) (size : Nat) (v : Value) (xs : List Nat) : Prop := (v = .slice none 0 0 ∧ xs = []) ∨ ∃ g cc, v = .slice (some ⟨g, 0, none⟩) size cc ∧ At w' (some ⟨g, 0, none⟩) xs ∧ xs.length = size
def rrbytes (n : Nat) (st : List (List Nat) × List Pr) (a : Int) : List Nat := if 0 ≤ a ∧ a < (n : Int) then finds st.2 st.1 a.toNat else []
theorem fold_mem (P : List Pr) (i : Nat) (r0 : Option (List Nat)) (y : List Nat) (h : P.foldl (fun r x => if i = x.1 then some x.2 else r) r0 = some y) : r0 = some y ∨ ∃ x ∈ P, x.2 = y := by
  induction P generalizing r0 with
  | nil => exact Or.inl h
  | cons x l ih =>
    rw [List.foldl_cons] at h
    rcases ih _ h with e | ⟨z, hz, e⟩
    · split at e
      · exact Or.inr ⟨x, by simp, Option.some.inj e⟩
      · exact Or.inl e
    · exact Or.inr ⟨z, by simp [hz], e⟩
theorem finds_len (h : RefAt w lo n size q) (i : Nat) (hi : i < n) : (finds (absV q.V) (q.S.map Bx.xs) i).length = size := by
  unfold finds
  cases hl : lastP (absV q.V) i with
  | some y =>
    rcases fold_mem _ _ _ _ hl with e | ⟨x, hx, e⟩
    · cases e
    · simp only [Option.getD_some]
      rw [absV, List.mem_map] at hx
      obtain ⟨z, hz, rfl⟩ := hx
      rw [← e]
      exact (h.wsz z hz).2
  | none =>
    have hl2 : i < q.S.length := by rw [h.len]; exact hi
    simp only [Option.getD_none, List.getElem?_map, List.getElem?_eq_getElem hl2, Option.map_some, Option.getD_some]
    exact h.sz _ (List.getElem_mem hl2)
set_option maxHeartbeats 1000000 in
theorem rdnew_any (h : RefAt w lo n size q) (hlo : lo ≤ w.heap.size) : Calls Tryd.prog 41 #[.pointer (some ⟨q.r, 0, none⟩)] w fun e w' => ∃ c, e = .returned (.pointer (some ⟨c, 0, none⟩)) ∧ RDev w' lo n size c Dv.anew q ∧ w.heap.size ≤ c ∧ w.grownBy w' none := by
  have HH := hide (And.intro h hlo)
  clear h hlo
  go_enter Tryd.func41, Tryd.ntmps41
  go_wp2
  go_ret
  have g1 := World.grownBy_alloc w (.cells (rvcells q.r Dv.anew).toArray 135) none
  exact ⟨w.heap.size, rfl, ⟨HH.out.1.grown g1, ⟨heap_alloc_new w _, ⟨by show (-1 : Int) ≤ -1; omega, by show (-1 : Int) ≤ _; omega, by show 0 ≤ _; omega⟩⟩, HH.out.2⟩, Nat.le_refl _, g1⟩
theorem RefAt.mono {lo' : Nat} (h : RefAt w lo n size q) (hl : lo' ≤ lo) : RefAt w lo' n size q :=
  ⟨h.head, Nat.le_trans hl h.low, h.rows.mono hl, owns_mono h.wrow hl, fun x hx => (h.wat x hx).mono hl, h.nv, h.shape, h.len, h.sz, h.wsz⟩
end
end Go.Proofs.YtonokaelbpfjnaaDoor
/- The document's region in memory; its small calls. -/
namespace Go.Proofs.YtonokaelbpfjnaaDoor
open Go.RowKit Ap
attribute [local go_sem ↓] Go.wp_at_zero Go.wp_at_succ

/-- The document's region lies at r: sectors of its device c. -/
structure QgAt (w : World) (r c F C : Nat) : Prop where
  head : w.heap[r]? = some (.cells (rgcells c F C).toArray 137 (0, 0))
section
variable {w w' : World} {r c F C lo n size : Nat} {s : Dv} {q : Rk}
theorem QgAt.lt (h : QgAt w r c F C) : r < w.heap.size := row_lt h.head
theorem QgAt.same (h : QgAt w r c F C) (hb : w'.heap[r]? = w.heap[r]?) : QgAt w' r c F C := ⟨hb.trans h.head⟩
theorem QgAt.grown (h : QgAt w r c F C) (hg : w.grownBy w' none) : QgAt w' r c F C := h.same (hg.block r h.lt (by simp))
theorem QgAt.kept {S : Nat → Prop} (h : QgAt w r c F C) (hk : Kept w w' S) (hS : ¬ S r) : QgAt w' r c F C := h.same (hk.block r h.lt hS)
theorem QgAt.c0 (h : QgAt w r c F C) : w.cell? ⟨r, 0, none⟩ = some (.pointer (some ⟨c, 0, none⟩)) := cell_row h.head 0
theorem QgAt.c1 (h : QgAt w r c F C) : w.cell? ⟨r, 1, none⟩ = some (.int .i64 (F : Int)) := cell_row h.head 1
theorem QgAt.c2 (h : QgAt w r c F C) : w.cell? ⟨r, 2, none⟩ = some (.int .i64 (C : Int)) := cell_row h.head 2
theorem RDev.drew (h : RDev w lo n size c s q) (p : Nat) : RDev (w.drewN p) lo n size c s q := h.then (grown_drewN w p none)
set_option maxRecDepth 20000 in
set_option maxHeartbeats 1000000 in
theorem qbytes_at (h : RDev w lo n size c s q) (hr : QgAt w r c F C) (hC : C ≤ 65536) : Calls Tryd.prog 63 #[.pointer (some ⟨r, 0, none⟩)] w fun e w' => e = .returned (.int .i64 ((C * size : Nat) : Int)) ∧ ∃ p, w' = w.drewN p := by
  have c0 := hr.c0
  have c2 := hr.c2
  have s1 := h.ref.shape.s1
  have hm : C * size ≤ 65536 * 4096 := Nat.mul_le_mul hC s1
  have hm2 : (C : Int) * (size : Int) = ((C * size : Nat) : Int) := by simp
  have hm3 : (0 : Int) ≤ (C : Int) * (size : Int) ∧ (C : Int) * (size : Int) ≤ 268435456 := by rw [hm2]; omega
  have hm4 := hm3.1
  have hm5 := hm3.2
  have H := hide (fun p => rdsize_any (h.drew p))
  clear h hr hm2 hm hm3
  go_enter Tryd.func63, Tryd.ntmps63
  go_wp2_with fail
  go_quiet ((go_at_call 64; exact Calls.quiet_of_same (H.out _)))
  go_wp2
  go_ret
  exact ⟨rfl, _, rfl⟩
set_option maxRecDepth 20000 in
set_option maxHeartbeats 2000000 in
theorem qnew_at (h : RDev w lo n size c s q) (F C : Nat) (hok : spanOk n F C) : Calls Tryd.prog 42 #[.pointer (some ⟨c, 0, none⟩), .agg #[.int .i64 (F : Int), .int .i64 (C : Int)]] w fun e w' => ∃ r, e = .returned (.tuple #[.pointer (some ⟨r, 0, none⟩), .int .i64 0]) ∧ QgAt w' r c F C ∧ w.heap.size ≤ r ∧ w.grownBy w' none := by
  obtain ⟨h1, h2, h3⟩ := hok
  have n1 := h.ref.shape.n1
  have H : Hid (∀ w1 : World, w.grownBy w1 none → Calls Tryd.prog 62 #[.pointer (some ⟨c, 0, none⟩)] w1 fun e w' => e = .returned (.int .i64 (n : Int)) ∧ w' = w1) := fun w1 g1 => rdsectors_any (h.then g1)
  have G1 := hide (World.grownBy_alloc w (.cells #[.int .i64 (F : Int), .int .i64 (C : Int)] 52) none)
  have E := hide (span_new w F C)
  have hz := hide G1.out.size
  have h4 : (F : Int) ≤ (n : Int) := by omega
  clear h
  go_enter Tryd.func42, Tryd.ntmps42
  go_wp2_with fail
  generalize w.alloc (.cells #[.int .i64 (F : Int), .int .i64 (C : Int)] 52) = w1 at *
  have e0 := E.out.1
  have e1 := E.out.2
  generalize w.heap.size = z at *
  have HD : Hid (∀ p, Calls Tryd.prog 62 #[.pointer (some ⟨c, 0, none⟩)] (w1.drewN p) fun e w' => e = .returned (.int .i64 (n : Int)) ∧ w' = w1.drewN p) := fun p => H.out _ (grown_trans G1.out (grown_drewN w1 p none))
  have d1 : decide ((F : Int) < 0) = false := decide_eq_false (by omega)
  have d2 : decide ((C : Int) < 1) = false := decide_eq_false (by omega)
  have d3 : decide (n < F) = false := decide_eq_false (by omega)
  have d4 : decide ((n : Int) - (F : Int) < (C : Int)) = false := decide_eq_false (by omega)
  go_quiet ((go_at_call 62; exact Calls.quiet_of_same (HD.out _)))
  have e2 : (w1.drewN nq).cell? ⟨z, 0, none⟩ = some (.int .i64 (F : Int)) := e0
  have e3 : (w1.drewN nq).cell? ⟨z, 1, none⟩ = some (.int .i64 (C : Int)) := e1
  have G2 := hide (grown_trans G1.out (grown_drewN w1 nq none))
  generalize w1.drewN nq = w2 at *
  clear d1 d2 d3 d4
  go_wp2
  go_ret2
  have g3 := World.grownBy_alloc w2 (.cells (rgcells c F C).toArray 137) none
  exact ⟨w2.heap.size, rfl, ⟨heap_alloc_new w2 _⟩, by have := G2.out.size; have := hz.out; omega, grown_trans G2.out g3⟩
set_option maxRecDepth 20000 in
set_option maxHeartbeats 4000000 in
theorem qnew_bad (h : RDev w lo n size c s q) (F C : Int) (hF : F ≤ 9223372036854775807) (hok : ¬ spanOk n F C) : Calls Tryd.prog 42 #[.pointer (some ⟨c, 0, none⟩), .agg #[.int .i64 F, .int .i64 C]] w fun e w' => e = .returned (.tuple #[.pointer none, .int .i64 2]) ∧ w.grownBy w' none := by
  unfold spanOk at hok
  have n1 := h.ref.shape.n1
  have H : Hid (∀ w1 : World, w.grownBy w1 none → Calls Tryd.prog 62 #[.pointer (some ⟨c, 0, none⟩)] w1 fun e w' => e = .returned (.int .i64 (n : Int)) ∧ w' = w1) := fun w1 g1 => rdsectors_any (h.then g1)
  have G1 := hide (World.grownBy_alloc w (.cells #[.int .i64 F, .int .i64 C] 52) none)
  have E := hide (span_new w F C)
  clear h
  have hcase : F < 0 ∨ (0 ≤ F ∧ C < 1) ∨ (0 ≤ F ∧ 1 ≤ C ∧ (n : Int) < F) ∨ (0 ≤ F ∧ 1 ≤ C ∧ F ≤ (n : Int) ∧ (n : Int) - F < C) := by omega
  go_enter Tryd.func42, Tryd.ntmps42
  go_wp2_with fail
  generalize w.alloc (.cells #[.int .i64 F, .int .i64 C] 52) = w1 at *
  have e0 := E.out.1
  have e1 := E.out.2
  generalize w.heap.size = z at *
  have HD : Hid (∀ p, Calls Tryd.prog 62 #[.pointer (some ⟨c, 0, none⟩)] (w1.drewN p) fun e w' => e = .returned (.int .i64 (n : Int)) ∧ w' = w1.drewN p) := fun p => H.out _ (grown_trans G1.out (grown_drewN w1 p none))
  rcases hcase with k1 | ⟨k1, k2⟩ | ⟨k1, k2, k3⟩ | ⟨k1, k2, k3, k4⟩
  all_goals
    try (have d1 : decide (F < 0) = true := decide_eq_true (by omega))
    try (have d1 : decide (F < 0) = false := decide_eq_false (by omega))
    try (have d2 : decide (C < 1) = true := decide_eq_true (by omega))
    try (have d2 : decide (C < 1) = false := decide_eq_false (by omega))
    try (have d3 : decide ((n : Int) < F) = true := decide_eq_true (by omega))
    try (have d3 : decide ((n : Int) < F) = false := decide_eq_false (by omega))
    try (have d4 : decide ((n : Int) - F < C) = true := decide_eq_true (by omega))
    go_quiet ((go_at_call 62; exact Calls.quiet_of_same (HD.out _)))
    have G2 := hide (grown_trans G1.out (grown_drewN w1 nq none))
    generalize w1.drewN nq = w2 at *
    go_wp2
    go_ret2
    exact ⟨rfl, G2.out⟩
end
end Go.Proofs.YtonokaelbpfjnaaDoor
/- The document's slots: New, Bytes; made. -/
namespace Go.Proofs.YtonokaelbpfjnaaDoor
open Go.RowKit Ap
attribute [local go_sem ↓] Go.wp_at_zero Go.wp_at_succ
/-- The document's slots lie there. -/
structure RsAt (w : World) (s r1 r2 : Nat) : Prop where
  head : w.heap[s]? = some (.cells [rp r1, rp r2].toArray 139 (0, 0))
theorem RsAt.grown {w w' : World} {s r1 r2 : Nat} (h : RsAt w s r1 r2) (hg : w.grownBy w' none) : RsAt w' s r1 r2 := ⟨(hg.block _ (row_lt h.head) (by simp)).trans h.head⟩
section
variable {w w' : World} {lo n size c r1 r2 F1 F2 C : Nat} {s : Dv} {q : Rk}
set_option maxRecDepth 20000 in
set_option maxHeartbeats 4000000 in
theorem rsNew_at (h : RDev w lo n size c s q) (h1 : QgAt w r1 c F1 C) (h2 : QgAt w r2 c F2 C) (hC : 2 ≤ C) (hC2 : C ≤ 65536) : Calls Tryd.prog 43 #[rp r1, rp r2] w fun e w' => ∃ sw, e = .returned (.tuple #[.pointer (some ⟨sw, 0, none⟩), .int .i64 0]) ∧ w.heap.size ≤ sw ∧ RsAt w' sw r1 r2 ∧ w.grownBy w' none := by
  unfold rp
  have g1 := World.grownBy_alloc w (.cells #[.pointer (some ⟨r1, 0, none⟩), .pointer (some ⟨r2, 0, none⟩)] 139) none
  have b1 : (w.alloc (.cells #[.pointer (some ⟨r1, 0, none⟩), .pointer (some ⟨r2, 0, none⟩)] 139)).heap[w.heap.size]? = some (.cells [rp r1, rp r2].toArray 139 (0, 0)) := heap_alloc_new w _
  generalize hw1 : w.alloc (.cells #[.pointer (some ⟨r1, 0, none⟩), .pointer (some ⟨r2, 0, none⟩)] 139) = w1 at *
  have HA := hide (fun p => qbytes_at ((h.then g1).drew p) ((h1.grown g1).grown (grown_drewN w1 p none)) hC2)
  have HB := hide (fun p => qbytes_at ((h.then g1).drew p) ((h2.grown g1).grown (grown_drewN w1 p none)) hC2)
  have HS := hide (fun p => rdsize_any ((h.then g1).drew p))
  have c0 := (h1.grown g1).c0
  have c2 := (h1.grown g1).c2
  have d0 := (h2.grown g1).c0
  have HG := hide (And.intro g1 b1)
  have hlt : ¬ (C : Int) < 2 := by omega
  have hltd : decide ((C : Int) < 2) = false := decide_eq_false hlt
  generalize C * size = B at *
  clear h h1 h2 g1 b1
  go_enter Tryd.func43, Tryd.ntmps43
  go_wp2_with fail
  clear hw1
  go_quiet (first | (go_at_call_of 63 (Value.pointer (some ⟨r1, 0, none⟩)); exact Calls.quiet_of (HA.out _)) | (go_at_call_of 63 (Value.pointer (some ⟨r2, 0, none⟩)); exact Calls.quiet_of (HB.out _)) | (go_at_call 64; exact Calls.quiet_of_same (HS.out _)))
  go_wp2
  go_ret2
  exact ⟨_, rfl, Nat.le_refl _, ⟨HG.out.2⟩, grown_trans HG.out.1 (grown_drewN _ _ none)⟩
set_option maxRecDepth 20000 in
set_option maxHeartbeats 4000000 in
theorem rsBytes_at {sw : Nat} (hs : RsAt w sw r1 r2) (h : RDev w lo n size c s q) (h1 : QgAt w r1 c F1 C) (hC : 1 ≤ C) (hC2 : C ≤ 65536) (hz : size ≤ 4096) : Calls Tryd.prog 44 #[.pointer (some ⟨sw, 0, none⟩)] w fun e w' => e = .returned (.int .i64 (((C - 1) * size : Nat) : Int)) ∧ w.grownBy w' none := by
  have HA := hide (fun p => qbytes_at (h.drew p) (h1.grown (grown_drewN w p none)) hC2)
  have HS := hide (fun p => rdsize_any (h.drew p))
  have a0 : w.cell? ⟨sw, 0, none⟩ = some (.pointer (some ⟨r1, 0, none⟩)) := cell_row hs.head 0
  have c0 := h1.c0
  have e1 : (((C - 1) * size : Nat) : Int) = ((C * size : Nat) : Int) - (size : Int) := by
    obtain ⟨c, rfl⟩ : ∃ c, C = c + 1 := ⟨C - 1, by omega⟩
    rw [Nat.add_mul]
    simp
  rw [e1]
  have hB : C * size ≤ 65536 * 4096 := Nat.mul_le_mul hC2 hz
  have hB0 : size ≤ C * size := Nat.le_mul_of_pos_left _ hC
  clear h h1 hs e1
  generalize C * size = B at *
  have hw : IntKind.i64.wrap ((B : Int) - (size : Int)) = (B : Int) - (size : Int) := by rw [IntKind.wrap_i64]; omega
  go_enter Tryd.func44, Tryd.ntmps44
  go_wp2_with fail
  go_quiet (first | (go_at_call 63; exact Calls.quiet_of (HA.out _)) | (go_at_call 64; exact Calls.quiet_of_same (HS.out _)))
  go_wp2
  go_ret
  exact ⟨rfl, grown_drewN _ _ none⟩
end
end Go.Proofs.YtonokaelbpfjnaaDoor
