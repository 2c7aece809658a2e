/- Texts joined: RefC, StlR, RefR, Pair, RefP. -/
import Derived.Test.YtonokaelbpfjnaaGreatDoorJhAf
import Derived.Test.YtonokaelbpfjnaaGreatDoorJhAe
/- The document's disk: what it is asked. -/
namespace Go.Proofs.YtonokaelbpfjnaaGreatDoor
open Go.RowKit Ap
attribute [local go_sem ↓] Go.wp_at_zero Go.wp_at_succ

section
variable {w : World} {lo n size : Nat} {q : Rk} {r : Nat}
theorem rsectors_any (hr : q.r = r) (h : RefAt w lo n size q) : Calls Tryz.prog 126 #[.pointer (some ⟨r, 0, none⟩)] w fun e w' => e = .returned (.int .i64 (n : Int)) ∧ w' = w := by
  obtain ⟨g, cap, hv⟩ := h.vform
  have c0 := h.c0
  rw [hv, hr] at c0
  clear h hv hr
  go_enter Tryz.func126, Tryz.ntmps126
  go_wp2
  go_ret
  exact ⟨rfl, rfl⟩
theorem rsize_any (hr : q.r = r) (h : RefAt w lo n size q) : Calls Tryz.prog 122 #[.pointer (some ⟨r, 0, none⟩)] w fun e w' => e = .returned (.int .i64 (size : Int)) ∧ w' = w := by
  obtain ⟨g, cap, hv⟩ := h.vform
  have n0 := h.shape.n0
  obtain ⟨b, hb⟩ := h.get (s := 0) (by omega)
  have c0 := h.c0
  have c1 := h.sec hv hb
  rw [hv, hr] at c0
  have m0 : (0 : Int) < (n : Int) := by omega
  clear h hv hr hb
  go_enter Tryz.func122, Tryz.ntmps122
  go_wp2
  go_ret
  exact ⟨rfl, rfl⟩
theorem rwaiting_any (hr : q.r = r) (h : RefAt w lo n size q) : Calls Tryz.prog 102 #[.pointer (some ⟨r, 0, none⟩)] w fun e w' => e = .returned (.int .i64 (q.V.length : Int)) ∧ w' = w := by
  obtain ⟨ao, cap, hv, -⟩ := h.wform
  have c0 := h.c1
  rw [hv, hr] at c0
  clear h hv hr
  go_enter Tryz.func102, Tryz.ntmps102
  go_wp2
  go_ret
  exact ⟨rfl, rfl⟩
theorem rwrong_ok (hr : q.r = r) (h : RefAt w lo n size q) (s : Nat) (hs : s < n) : Calls Tryz.prog 132 #[.pointer (some ⟨r, 0, none⟩), .int .i64 (s : Int)] w fun e w' => e = .returned (.int .i64 0) ∧ w' = w := by
  obtain ⟨g, cap, hv⟩ := h.vform
  have n0 := h.shape.n0
  have c0 := h.c0
  rw [hv, hr] at c0
  clear h hv hr
  have m0 : (0 : Int) ≤ (s : Int) := by omega
  have m1 : (s : Int) < (n : Int) := by omega
  have m2 : (0 : Int) < (n : Int) := by omega
  go_enter Tryz.func132, Tryz.ntmps132
  go_wp2
  go_ret
  exact ⟨rfl, rfl⟩
theorem rwrong_bad (hr : q.r = r) (h : RefAt w lo n size q) (a : Int) (ha : a < 0 ∨ (n : Int) ≤ a) : Calls Tryz.prog 132 #[.pointer (some ⟨r, 0, none⟩), .int .i64 a] w fun e w' => e = .returned (.int .i64 50) ∧ w' = w := by
  obtain ⟨g, cap, hv⟩ := h.vform
  have n0 := h.shape.n0
  have c0 := h.c0
  rw [hv, hr] at c0
  clear h hv hr
  have m2 : (0 : Int) < (n : Int) := by omega
  rcases ha with ha | ha
  · go_enter Tryz.func132, Tryz.ntmps132
    go_wp2
    go_ret
    exact ⟨rfl, rfl⟩
  · have m0 : (0 : Int) ≤ a := by omega
    go_enter Tryz.func132, Tryz.ntmps132
    go_wp2
    go_ret
    exact ⟨rfl, rfl⟩
set_option maxHeartbeats 1000000 in
theorem rkept_any (hr : q.r = r) (h : RefAt w lo n size q) (kind at_ : Int) : Calls Tryz.prog 114 #[.pointer (some ⟨r, 0, none⟩), .agg #[.int .i64 kind, .int .i64 at_]] w fun e w' => e = .returned (.int .i64 ((lasts kind at_ size : Nat) : Int)) ∧ w.grownBy w' none := by
  have HS : Hid (∀ w', w.grownBy w' none → Calls Tryz.prog 122 #[.pointer (some ⟨r, 0, none⟩)] w' fun e w'' => e = .returned (.int .i64 (size : Int)) ∧ w'' = w') := fun w' hg => rsize_any hr (h.grown hg)
  have HG := hide (World.grownBy_alloc w (.cells #[.int .i64 kind, .int .i64 at_] 165) none)
  have hsz := h.shape.s1
  clear h hr
  unfold lasts
  by_cases h1 : kind = 1
  · subst h1
    go_enter Tryz.func114, Tryz.ntmps114
    go_wp2_with fail
    refine (HS.out _ HG.out).mono ?_
    rintro e w' ⟨rfl, rfl⟩
    go_wp2
    go_ret
    exact ⟨rfl, HG.out⟩
  · by_cases h2 : kind = 2
    · subst h2
      have hb := (World.grownBy_alloc w (.cells #[.int .i64 2, .int .i64 at_] 165) none)
      have c1 : (w.alloc (.cells #[.int .i64 2, .int .i64 at_] 165)).cell? ⟨w.heap.size, 1, none⟩ = some (.int .i64 at_) := cell_row (l := [Value.int .i64 2, .int .i64 at_]) (heap_alloc_new w _) 1
      rw [if_neg h1, if_pos rfl]
      go_enter Tryz.func114, Tryz.ntmps114
      go_wp2_with fail
      generalize w.alloc (.cells #[.int .i64 2, .int .i64 at_] 165) = wa at *
      generalize w.heap.size = B at *
      have hz : (0 : Int) ≤ (size : Int) := by omega
      by_cases a0 : at_ < 0
      · go_region_with (go_at_call 122; refine (HS.out _ (grown_trans HG.out (grown_drew _ _))).mono ?_; rintro e w2 ⟨rfl, rfl⟩)
        all_goals go_wp2
        all_goals go_ret
        all_goals exact ⟨by simp; omega, grown_trans HG.out (grown_drew _ _)⟩
      · by_cases a1 : at_ ≤ (size : Int)
        · go_region_with (go_at_call 122; refine (HS.out _ (grown_trans HG.out (grown_drew _ _))).mono ?_; rintro e w2 ⟨rfl, rfl⟩)
          all_goals go_wp2
          all_goals go_ret
          all_goals exact ⟨by simp; omega, grown_trans HG.out (grown_drew _ _)⟩
        · go_region_with (go_at_call 122; refine (HS.out _ (grown_trans HG.out (grown_drew _ _))).mono ?_; rintro e w2 ⟨rfl, rfl⟩)
          all_goals go_wp2
          all_goals go_ret
          all_goals exact ⟨by first | (simp; omega) | (simp [Act.put]; omega), grown_trans HG.out (grown_drew _ _)⟩
    · rw [if_neg h1, if_neg h2]
      go_enter Tryz.func114, Tryz.ntmps114
      go_wp2
      go_ret
      exact ⟨rfl, HG.out⟩
end
end Go.Proofs.YtonokaelbpfjnaaGreatDoor
/- What a crash makes of the sectors, row by row. -/
namespace Go.Proofs.YtonokaelbpfjnaaGreatDoor
open Go.RowKit Ap

def stlR (L : Nat → Nat) (P : List Pr) (R : List (List Nat)) : Nat → List (List Nat)
  | 0 => R
  | j + 1 => match P[j]? with
    | some x => (stlR L P R j).modify x.1 (over (x.2.take (L j)))
    | none => stlR L P R j
theorem stlR_succ (L : Nat → Nat) (P : List Pr) (R : List (List Nat)) (j : Nat) (x : Pr) (h : P[j]? = some x) : stlR L P R (j + 1) = (stlR L P R j).modify x.1 (over (x.2.take (L j))) := by
  rw [stlR, h]
theorem secs_splice {n size s : Nat} {D ys : List Nat} (hD : D.length = n * size) (hs : s < n) (hy : ys.length ≤ size) : secs n size (splice D (s * size) ys) = (secs n size D).modify s (over ys) := by
  apply List.ext_getElem?
  intro i
  rw [List.getElem?_modify]
  by_cases hi : i < n
  · rw [secs_get _ _ _ _ hi, secs_get _ _ _ _ hi]
    by_cases h : s = i
    · subst h
      rw [secOf_splice_same hD hs hy]; simp
    · rw [secOf_splice_other hD hs hy h]; simp [h]
  · rw [List.getElem?_eq_none (by rw [secs_length]; omega), List.getElem?_eq_none (by rw [secs_length]; omega)]; rfl
theorem secs_stl {n size : Nat} {L : Nat → Nat} {D : List Nat} {W : List Wt} (hD : D.length = n * size) (hW : Fits n size W) (j : Nat) : secs n size (stl size L D W j) = stlR L (abs W) (secs n size D) j := by
  induction j with
  | zero => rfl
  | succ j ih =>
    rw [stl, stlR, abs, List.getElem?_map]
    cases hx : W[j]? with
    | none => simpa [abs] using ih
    | some x =>
      obtain ⟨h1, h2⟩ := hW x (List.mem_of_getElem? hx)
      simp only [Option.map_some]
      show secs n size (splice (stl size L D W j) (x.sec * size) (x.xs.take (L j))) = _
      rw [secs_splice (stl_length hD hW j) h1 (by simp [h2]; omega), ih]
      rfl
theorem stlR_congr {L L' : Nat → Nat} {P : List Pr} {R : List (List Nat)} (j : Nat) (h : ∀ i, i < j → L i = L' i) : stlR L P R j = stlR L' P R j := by
  induction j with
  | zero => rfl
  | succ j ih =>
    rw [stlR, stlR, ih (fun i hi => h i (by omega)), h j (by omega)]
end Go.Proofs.YtonokaelbpfjnaaGreatDoor
/- The document's Read. -/
namespace Go.Proofs.YtonokaelbpfjnaaGreatDoor
open Go.RowKit Ap
attribute [local go_sem ↓] Go.wp_at_zero Go.wp_at_succ

def lastP (P : List Pr) (s : Nat) : Option (List Nat) := P.foldl (fun r x => if s = x.1 then some x.2 else r) none
theorem fold_skip (l : List Pr) (s : Nat) (r : Option (List Nat)) (h : ∀ x ∈ l, x.1 ≠ s) : l.foldl (fun r x => if s = x.1 then some x.2 else r) r = r := by
  induction l generalizing r with
  | nil => rfl
  | cons x l ih =>
    rw [List.foldl_cons, if_neg (fun e => h x (by simp) e.symm)]
    exact ih r (fun y hy => h y (by simp [hy]))
theorem lastP_none {P : List Pr} {s : Nat} (h : ∀ (k : Nat) (x : Pr), P[k]? = some x → x.1 ≠ s) : lastP P s = none :=
  fold_skip P s none (fun x hx => by obtain ⟨k, hk⟩ := List.getElem?_of_mem hx; exact h k x hk)
theorem lastP_some {P : List Pr} {s j : Nat} {y : List Nat} (hj : P[j]? = some (s, y)) (h : ∀ (k : Nat) (x : Pr), j < k → P[k]? = some x → x.1 ≠ s) : lastP P s = some y := by
  have e : P = P.take j ++ [(s, y)] ++ P.drop (j + 1) := by rw [← take_snoc P j _ hj, List.take_append_drop]
  rw [lastP, e, List.foldl_append, List.foldl_append]
  rw [fold_skip]
  · simp
  · intro x hx
    obtain ⟨k, hk⟩ := List.getElem?_of_mem hx
    rw [List.getElem?_drop] at hk
    exact h (j + 1 + k) x (by omega) hk
/-- What the document's disk finds in a sector. -/
def finds (P : List Pr) (R : List (List Nat)) (s : Nat) : List Nat := (lastP P s).getD (R[s]?.getD [])
def absV (V : List (Nat × Bx)) : List Pr := V.map (fun x => (x.1, x.2.xs))
theorem found_ref {n size : Nat} {D : List Nat} {W : List Wt} {P : List Pr} {R : List (List Nat)} {s : Nat} (hs : s < n) (hW : abs W = P) (hD : secs n size D = R) : found size D W s = finds P R s := by
  have key : ∀ V : List Wt, found size D V s = ((abs V).foldl (fun r x => if s = x.1 then some x.2 else r) none).getD (secOf size D s) := by
    intro V
    have e : (abs V).foldl (fun r x => if s = x.1 then some x.2 else r) none = (lastOf V s).map (fun x => x.xs) := by
      induction V using snoc_ind with
      | h0 => rfl
      | h1 l x ih =>
        rw [lastOf_snoc, abs, List.map_append, List.foldl_append]
        simp only [List.map_cons, List.map_nil, List.foldl_cons, List.foldl_nil]
        by_cases hx : s = x.sec
        · rw [if_pos hx, if_pos hx]; rfl
        · rw [if_neg hx, if_neg hx]; exact ih
    rw [e, found]
    cases lastOf V s <;> rfl
  rw [key, hW, finds, lastP, ← hD, secs_get _ _ _ _ hs]
  rfl
section
variable {w : World} {lo n size : Nat} {q : Rk} {r : Nat}
theorem RefAt.wcell (h : RefAt w lo n size q) {g cap m j : Nat} (hv : q.vw = .slice (some ⟨g, 0, none⟩) m cap) {x : Nat × Bx} (hx : q.V[j]? = some x) : w.cell? ⟨g, j * 2, none⟩ = some (.int .i64 (x.1 : Int)) ∧ w.cell? ⟨g, j * 2 + 1, none⟩ = some (.slice (some ⟨x.2.g, 0, none⟩) size x.2.c) := by
  obtain ⟨h1, h2⟩ := vcells_get q.V j x hx
  have c1 := h.wrow.cells (g := g) (by rw [hv]; rfl) _ _ h1
  have c2 := h.wrow.cells (g := g) (by rw [hv]; rfl) _ _ h2
  rw [Addr.add_lit, Nat.zero_add] at c1 c2
  rw [Nat.mul_comm j 2]
  rw [Bx.v, (h.wsz x (List.mem_of_getElem? hx)).2] at c2
  exact ⟨c1, c2⟩
set_option maxHeartbeats 400000 in
theorem rread_bad (hr : q.r = r) (h : RefAt w lo n size q) (a : Int) (ha : a < 0 ∨ (n : Int) ≤ a) : Calls Tryz.prog 101 #[.pointer (some ⟨r, 0, none⟩), .int .i64 a] w fun e w' => e = .returned (.tuple #[.slice none 0 0, .int .i64 50]) ∧ w' = w := by
  have H := hide (rwrong_bad hr h a ha)
  clear h hr
  go_enter Tryz.func101, Tryz.ntmps101
  go_wp2_with fail
  refine H.out.mono ?_
  rintro e w' ⟨rfl, rfl⟩
  go_wp2
  go_ret2
  exact ⟨rfl, rfl⟩
set_option maxRecDepth 20000 in
set_option maxHeartbeats 2000000 in
theorem rread_any (hr : q.r = r) (h : RefAt w lo n size q) (hV : q.V.length ≤ 1000000) (s : Nat) (hs : s < n) : Calls Tryz.prog 101 #[.pointer (some ⟨r, 0, none⟩), .int .i64 (s : Int)] w fun e w' => ∃ g c, e = .returned (.tuple #[.slice (some ⟨g, 0, none⟩) size c, .int .i64 0]) ∧ BxAt w' w.heap.size ⟨g, c, finds (absV q.V) (q.S.map Bx.xs) s⟩ ∧ w.grownBy w' none := by
  have H := hide (rwrong_ok hr h s hs)
  obtain ⟨vo, vcap, hvw, hvo⟩ := h.wform
  obtain ⟨gv, gcap, hv⟩ := h.vform
  obtain ⟨b, hb⟩ := h.get hs
  have cs := h.sec hv hb
  have c0 := h.c0
  have c1 := h.c1
  have n1 := h.shape.n1
  have s0 := h.shape.s0
  have s1 := h.shape.s1
  rw [hv, hr] at c0
  rw [hvw, hr] at c1
  have HT0 := hide (twin_any (some ⟨b.g, 0, none⟩) size b.c b.xs w (h.rows.at_ b (List.mem_of_getElem? hb)).at_ (h.sz b (List.mem_of_getElem? hb)) (by omega) (fun e => by cases e) (by omega))
  have HH := hide (And.intro h (And.intro hvw (And.intro hvo hb)))
  obtain ⟨m, hm⟩ : ∃ m, m = q.V.length := ⟨_, rfl⟩
  rw [← hm] at c1 hV
  have HM := hide hm
  have i1 : (s : Int) < (n : Int) := by omega
  have i0 : (0 : Int) ≤ (s : Int) := by omega
  clear h hv hvw hvo hb hm hr
  go_enter Tryz.func101, Tryz.ntmps101
  go_wp2_with fail
  refine H.out.mono ?_
  rintro e w' ⟨rfl, rfl⟩
  go_wp2
  go_loopg [7] m (fun gq i wr => i = .int .i64 ((gq : Int) - 1) ∧ gq ≤ m ∧ Hid (∀ (k : Nat) (x : Nat × Bx), gq ≤ k → q.V[k]? = some x → x.1 ≠ s) ∧ wr = w')
  case atStart => exact ⟨rfl, Nat.le_refl _, hide (fun k x hk hx => by have := (List.getElem?_eq_some_iff.1 hx).1; have := HM.out; omega), rfl⟩
  case round =>
    obtain ⟨rfl, hgm, HR, rfl⟩ := hrel
    by_cases hk : 0 < gk
    · obtain ⟨j, rfl⟩ : ∃ j, gk = j + 1 := ⟨gk - 1, by omega⟩
      obtain ⟨gw, rfl⟩ := HH.out.2.2.1 (by have := HM.out; omega)
      have hjl : j < q.V.length := by have := HM.out; omega
      have hx := List.getElem?_eq_getElem hjl
      generalize q.V[j] = x at *
      obtain ⟨w0, w1⟩ := HH.out.1.wcell HH.out.2.1 hx
      have hxm := List.mem_of_getElem? hx
      have HT1 := hide (twin_any (some ⟨x.2.g, 0, none⟩) size x.2.c x.2.xs wr (HH.out.1.wat x hxm).at_ (HH.out.1.wsz x hxm).2 (by omega) (fun e => by cases e) (by omega))
      have HX := hide hx
      have e1 : ((j + 1 : Nat) : Int) - 1 = (j : Int) := by omega
      rw [e1]
      have i2 : (0 : Int) ≤ (j : Int) := by omega
      have i3 : (j : Int) < (m : Int) := by omega
      clear hx hxm
      by_cases hsec : x.1 = s
      · rw [hsec] at w0
        have HS := hide hsec
        clear hsec
        go_wp2_with fail
        refine HT1.out.mono ?_
        rintro e w2 ⟨g, c, rfl, o2, g2⟩
        have A2 := hide (And.intro o2 g2)
        clear o2 g2
        go_wp2
        go_ret2
        refine ⟨g, c, rfl, ?_, A2.out.2⟩
        have : finds (absV q.V) (q.S.map Bx.xs) s = x.2.xs := by
          rw [finds, lastP_some (j := j) (y := x.2.xs) (by rw [absV, List.getElem?_map, HX.out, ← HS.out]; rfl)]
          · rfl
          · intro k y hk hy
            rw [absV, List.getElem?_map] at hy
            obtain ⟨z, hz, rfl⟩ := Option.map_eq_some_iff.1 hy
            exact HR.out k z (by omega) hz
        rw [this]
        exact A2.out.1
      · have HS := hide hsec
        have hne : ¬ (x.1 : Int) = (s : Int) := by omega
        clear hsec
        go_wp2
        go_roundg j
        case measure => omega
        case rel =>
          refine ⟨by go_num, by omega, hide ?_, rfl⟩
          intro k y hk hy
          by_cases hkj : k = j
          · subst hkj
            rw [HX.out] at hy
            obtain rfl := Option.some.inj hy
            exact HS.out
          · exact HR.out k y (by omega) hy
    · obtain rfl : gk = 0 := by omega
      go_wp2_with fail
      refine HT0.out.mono ?_
      rintro e w2 ⟨g, c, rfl, o2, g2⟩
      have A2 := hide (And.intro o2 g2)
      clear o2 g2
      go_wp2
      go_ret2
      refine ⟨g, c, rfl, ?_, A2.out.2⟩
      have : finds (absV q.V) (q.S.map Bx.xs) s = b.xs := by
        rw [finds, lastP_none, List.getElem?_map, HH.out.2.2.2]
        · rfl
        · intro k y hy
          rw [absV, List.getElem?_map] at hy
          obtain ⟨z, hz, rfl⟩ := Option.map_eq_some_iff.1 hy
          exact HR.out k z (by omega) hz
      rw [this]
      exact A2.out.1
end
end Go.Proofs.YtonokaelbpfjnaaGreatDoor
/- A disk beside the document's; two such pairs. -/
namespace Go.Proofs.YtonokaelbpfjnaaGreatDoor
open Go.RowKit Ap

structure Pr2 where
  k : Dk
  D : List Nat
  W : List Wt
  q : Rk
/-- Both lie there, and neither knows of the other. -/
structure Pair0 (w0 w : World) (n size : Nat) (p : Pr2) : Prop where
  d : DkS w0 w p.k n size p.D p.W
  r : RefAt w w0.heap.size n size p.q
  apart : ∀ i, foot p.k p.W i → ¬ rfoot p.q i
/-- And they hold the same. -/
structure Same (n size : Nat) (p : Pr2) : Prop where
  rows : secs n size p.D = p.q.S.map Bx.xs
  waits : abs p.W = absV p.q.V
structure Pair (w0 w : World) (n size : Nat) (p : Pr2) : Prop where
  z : Pair0 w0 w n size p
  same : Same n size p
structure PMoved (w w' : World) (p p' : Pr2) : Prop where
  kd : p'.k.d = p.k.d
  qr : p'.q.r = p.q.r
  own : ∀ i, p'.k.own i → p.k.own i ∨ w.heap.size ≤ i
  ft : ∀ i, foot p'.k p'.W i → foot p.k p.W i ∨ w.heap.size ≤ i
  rf : ∀ i, rfoot p'.q i → rfoot p.q i ∨ w.heap.size ≤ i
  kept : Kept w w' (fun i => p.k.own i ∨ rfoot p.q i)
/-- From w and p to w' and p'. -/
structure Went (w0 w w' : World) (n size : Nat) (p p' : Pr2) : Prop where
  z : Pair0 w0 w' n size p'
  mv : PMoved w w' p p'
  low : w0.heap.size ≤ w.heap.size
structure Two (w0 w : World) (n size : Nat) (a b : Pr2) : Prop where
  pa : Pair w0 w n size a
  pb : Pair w0 w n size b
  sep : Sep a.k a.W b.k b.W
  ab : ∀ i, foot a.k a.W i → ¬ rfoot b.q i
  ba : ∀ i, foot b.k b.W i → ¬ rfoot a.q i
  rr : ∀ i, rfoot a.q i → ¬ rfoot b.q i
section
variable {w0 w w' w'' : World} {n size : Nat} {a a' b p p' : Pr2}
theorem Pair0.grown (h : Pair0 w0 w n size p) (hg : w.grownBy w' none) : Pair0 w0 w' n size p := ⟨h.d.then hg, h.r.grown hg, h.apart⟩
theorem Pair.grown (h : Pair w0 w n size p) (hg : w.grownBy w' none) : Pair w0 w' n size p := ⟨h.z.grown hg, h.same⟩
theorem Pair.len (h : Pair w0 w n size p) : p.q.V.length = p.W.length := by
  have := congrArg List.length h.same.waits
  simpa [abs, absV] using this.symm
theorem Went.refl (h : Pair0 w0 w n size p) : Went w0 w w n size p p := ⟨h, ⟨rfl, rfl, fun _ e => .inl e, fun _ e => .inl e, fun _ e => .inl e, Kept.refl _ _⟩, h.d.grown.size⟩
theorem Went.new (h : Went w0 w w' n size p p') (hg : w'.grownBy w'' none) : Went w0 w w'' n size p p' :=
  ⟨h.z.grown hg, ⟨h.mv.kd, h.mv.qr, h.mv.own, h.mv.ft, h.mv.rf, h.mv.kept.trans (Kept.new hg _) (fun _ _ e => e)⟩, h.low⟩
/-- A block that came later is written. -/
theorem Went.row {g : Nat} (h : Went w0 w w' n size p p') (hg : w'.grownBy w'' (some g)) (hn : w.heap.size ≤ g) (h1 : ¬ foot p'.k p'.W g) (h2 : ¬ rfoot p'.q g) : Went w0 w w'' n size p p' := by
  have hk : Kept w' w'' (fun i => i = g) := Kept.of hg (fun j e _ => (Option.some.inj e).symm)
  exact ⟨⟨⟨h.z.d.disk.kept hk (fun i hi e => h1 (e ▸ hi)), h.z.d.own, kept_new h.z.d.grown hk (fun i e => by have e : i = g := e; have := h.low; omega)⟩, h.z.r.kept hk (fun i hi e => h2 (e ▸ hi)), h.z.apart⟩, ⟨h.mv.kd, h.mv.qr, h.mv.own, h.mv.ft, h.mv.rf, h.mv.kept.trans hk (fun i hi e => by have e : i = g := e; omega)⟩, h.low⟩
/-- The disk goes on. -/
theorem Went.disk {k' : Dk} {D' : List Nat} {W' : List Wt} (h : Went w0 w w' n size p p') (hd : DkS w0 w'' k' n size D' W') (hm : Moved w' w'' p'.k k' p'.W W') : Went w0 w w'' n size p ⟨k', D', W', p'.q⟩ := by
  have hz := h.mv.kept.size
  have hft : ∀ i, foot k' W' i → foot p'.k p'.W i ∨ w'.heap.size ≤ i := by
    rintro i (e | ⟨x, hx, rfl⟩)
    · exact (hm.own i e).imp .inl id
    · rcases hm.blk x hx with ⟨y, hy, e⟩ | e
      · exact Or.inl (.inr ⟨y, hy, e⟩)
      · exact Or.inr e
  refine ⟨⟨hd, h.z.r.kept hm.kept (fun i hi e => h.z.apart i (.inl e) hi), ?_⟩, ⟨hm.d.trans h.mv.kd, h.mv.qr, ?_, ?_, h.mv.rf, h.mv.kept.trans hm.kept ?_⟩, h.low⟩
  · intro i hi hr
    rcases hft i hi with e | e
    · exact h.z.apart i e hr
    · have := (h.z.r.lt i hr).2; omega
  · intro i hi
    rcases hm.own i hi with e | e
    · exact h.mv.own i e
    · exact Or.inr (by omega)
  · intro i hi
    rcases hft i hi with e | e
    · exact h.mv.ft i e
    · exact Or.inr (by omega)
  · intro i hi e
    rcases h.mv.own i e with e | e
    · exact Or.inl e
    · omega
/-- The document's disk goes on. -/
theorem Went.ref {q' : Rk} (h : Went w0 w w' n size p p') (hr : q'.r = p'.q.r) (hq : RefAt w'' w0.heap.size n size q') (hk : Kept w' w'' (rfoot p'.q)) (hf : ∀ i, rfoot q' i → rfoot p'.q i ∨ w'.heap.size ≤ i) : Went w0 w w'' n size p ⟨p'.k, p'.D, p'.W, q'⟩ := by
  have hz := h.mv.kept.size
  refine ⟨⟨⟨h.z.d.disk.kept hk (fun i hi e => h.z.apart i hi e), h.z.d.own, kept_new h.z.d.grown hk (fun i e => (h.z.r.lt i e).1)⟩, hq, ?_⟩, ⟨h.mv.kd, hr.trans h.mv.qr, h.mv.own, h.mv.ft, ?_, h.mv.kept.trans hk ?_⟩, h.low⟩
  · intro i hi e
    rcases hf i e with e | e
    · exact h.z.apart i hi e
    · have := h.z.d.disk.lt i hi; omega
  · intro i hi
    rcases hf i hi with e | e
    · exact h.mv.rf i e
    · exact Or.inr (by omega)
  · intro i hi e
    rcases h.mv.rf i e with e | e
    · exact Or.inr e
    · omega
theorem Two.symm (h : Two w0 w n size a b) : Two w0 w n size b a := ⟨h.pb, h.pa, h.sep.symm, h.ba, h.ab, fun i x y => h.rr i y x⟩
theorem Two.grown (h : Two w0 w n size a b) (hg : w.grownBy w' none) : Two w0 w' n size a b := ⟨h.pa.grown hg, h.pb.grown hg, h.sep, h.ab, h.ba, h.rr⟩
theorem Two.moved (h : Two w0 w n size a b) (ha : Pair w0 w' n size a') (hm : PMoved w w' a a') : Two w0 w' n size a' b := by
  have hf : ∀ i, foot b.k b.W i → i < w.heap.size := h.pb.z.d.disk.lt
  have hr : ∀ i, rfoot b.q i → i < w.heap.size := fun i hi => (h.pb.z.r.lt i hi).2
  refine ⟨ha, ⟨⟨⟨h.pb.z.d.disk.kept hm.kept ?_, h.pb.z.d.own, ha.z.d.grown⟩, h.pb.z.r.kept hm.kept ?_, h.pb.z.apart⟩, h.pb.same⟩, ⟨?_, ?_⟩, ?_, ?_, ?_⟩
  · rintro i hi (e | e)
    · exact h.sep.l i e hi
    · exact h.ba i hi e
  · rintro i hi (e | e)
    · exact h.ab i (.inl e) hi
    · exact h.rr i e hi
  · intro i hi hb
    rcases hm.own i hi with e | e
    · exact h.sep.l i e hb
    · have := hf i hb; omega
  · intro i hi hb
    rcases hm.ft i hb with e | e
    · exact h.sep.r i hi e
    · have := hf i (.inl hi); omega
  · intro i hi hb
    rcases hm.ft i hi with e | e
    · exact h.ab i e hb
    · have := hr i hb; omega
  · intro i hi hb
    rcases hm.rf i hb with e | e
    · exact h.ba i hi e
    · have := hf i hi; omega
  · intro i hi hb
    rcases hm.rf i hi with e | e
    · exact h.rr i e hb
    · have := hr i hb; omega
theorem Pair.copied {w1 w2 : World} {k' : Dk} {q' : Rk} (h : Pair w0 w n size p) (g1 : w.grownBy w1 none) (hk : DiskAt w1 k' n size p.D p.W) (hown : ∀ i, k'.own i → w.heap.size ≤ i)
    (g2 : w1.grownBy w2 none) (hq : RefAt w2 w1.heap.size n size q') (hS : q'.S.map Bx.xs = p.q.S.map Bx.xs) (hV : absV q'.V = absV p.q.V) :
    Two w0 w2 n size p ⟨k', p.D, p.W, q'⟩ := by
  have h2 := h.grown (grown_trans g1 g2)
  have l0 := h.z.d.grown.size
  have l1 : ∀ i, foot k' p.W i → i < w1.heap.size := hk.lt
  have l2 : ∀ i, foot p.k p.W i → i < w.heap.size := h.z.d.disk.lt
  have l3 : ∀ i, rfoot p.q i → i < w.heap.size := fun i hi => (h.z.r.lt i hi).2
  have hnew : ∀ i, rfoot q' i → w1.heap.size ≤ i := fun i hi => (hq.lt i hi).1
  have gs := g1.size
  have hq0 : RefAt w2 w0.heap.size n size q' := ⟨hq.head, Nat.le_trans (by omega) hq.low, hq.rows.mono (by omega), owns_mono hq.wrow (by omega), fun x hx => (hq.wat x hx).mono (by omega), hq.nv, hq.shape, hq.len, hq.sz, hq.wsz⟩
  refine ⟨h2, ⟨⟨⟨hk.grown g2, fun i hi => Nat.le_trans l0 (hown i hi), h2.z.d.grown⟩, hq0, ?_⟩, ⟨h.same.rows.trans hS.symm, h.same.waits.trans hV.symm⟩⟩, ⟨?_, ?_⟩, ?_, ?_, ?_⟩
  · intro i hi hr
    have := l1 i hi; have := hnew i hr; omega
  · rintro i hi (hf | ⟨x, hx, rfl⟩)
    · have := hown i hf; have := l2 i (.inl hi); omega
    · exact h.z.d.disk.blk_ne hx hi
  · intro i hi hf
    have := hown i hi; have := l2 i hf; omega
  · intro i hi hr
    have := l2 i hi; have := hnew i hr; omega
  · rintro i (hi | ⟨x, hx, rfl⟩) hr
    · have := hown i hi; have := l3 i hr; omega
    · exact h.z.apart _ (.inr ⟨x, hx, rfl⟩) hr
  · intro i hi hr
    have := l3 i hi; have := hnew i hr; omega
theorem RefAt.other_off {lo : Nat} {q : Rk} (h : RefAt w lo n size q) {A : Nat} {c : Array Value} {t : TypeId} {fr : Nat × Nat} (hA : w.heap[A]? = some (.cells c t fr)) (h1 : t ≠ 144) (h2 : t ≠ 36) (h3 : t ≠ 169) (h4 : t ≠ 5) : ¬ rfoot q A := by
  rintro (rfl | e | e | ⟨b, hb, rfl⟩ | ⟨x, hx, rfl⟩)
  · rw [h.head] at hA; simp at hA; exact h1 hA.2.1.symm
  · obtain ⟨_, c2, q2⟩ := own_block h.rows.row A e; rw [q2] at hA; simp at hA; exact h2 hA.2.1.symm
  · obtain ⟨_, c2, q2⟩ := own_block h.wrow A e; rw [q2] at hA; simp at hA; exact h3 hA.2.1.symm
  · obtain ⟨_, c2, q2⟩ := (h.rows.at_ b hb).blk; rw [q2] at hA; simp at hA; exact h4 hA.2.1.symm
  · obtain ⟨_, c2, q2⟩ := (h.wat x hx).blk; rw [q2] at hA; simp at hA; exact h4 hA.2.1.symm
/-- What stays, through a move of a pair. -/
theorem PMoved.at {A : Nat} {o : Obj} (hm : PMoved w w' p p') (hA : w.heap[A]? = some o) (h1 : ¬ p.k.own A) (h2 : ¬ rfoot p.q A) : w'.heap[A]? = some o := hm.kept.at hA (by rintro (e | e); exact h1 e; exact h2 e)
end
end Go.Proofs.YtonokaelbpfjnaaGreatDoor
/- A byte of a sector of the document's disk is written. -/
namespace Go.Proofs.YtonokaelbpfjnaaGreatDoor
open Go.RowKit Ap

theorem over_step (ys xs : List Nat) (k y : Nat) (hy : ys[k]? = some y) (hk : k < xs.length) : (over (ys.take k) xs).set k y = over (ys.take (k + 1)) xs := by
  have hky := (List.getElem?_eq_some_iff.1 hy).1
  have h1 : (ys.take k).length = k := by simp; omega
  have h2 : (ys.take (k + 1)).length = k + 1 := by simp; omega
  apply List.ext_getElem?
  intro i
  rw [List.getElem?_set, over_get, over_get, h1, h2, over_length _ _ (by omega)]
  by_cases hik : k = i
  · subst hik
    rw [if_pos rfl, if_pos hk, if_pos (by omega), List.getElem?_take, if_pos (by omega), hy]
  · rw [if_neg hik]
    by_cases hi : i < k
    · rw [if_pos hi, if_pos (by omega), List.getElem?_take, List.getElem?_take, if_pos hi, if_pos (by omega)]
    · rw [if_neg hi, if_neg (by omega)]
theorem set_self {α : Type} (l : List α) (s : Nat) (x : α) (h : l[s]? = some x) : l.set s x = l := by
  apply List.ext_getElem?
  intro i
  rw [List.getElem?_set]
  by_cases hi : s = i
  · subst hi
    rw [if_pos rfl, if_pos (List.getElem?_eq_some_iff.1 h).1, h]
  · rw [if_neg hi]
theorem set_map {α β : Type} (f : α → β) (l : List α) (s : Nat) (x y : α) (h : l[s]? = some x) (e : f y = f x) : (l.set s y).map f = l.map f := by
  rw [List.map_set, e, set_self]
  rw [List.getElem?_map, h]; rfl
theorem set_modify (l : List (List Nat)) (s : Nat) (x : List Nat) (f : List Nat → List Nat) (h : l[s]? = some x) : l.set s (f x) = l.modify s f := by
  apply List.ext_getElem?
  intro i
  rw [List.getElem?_set, List.getElem?_modify]
  by_cases hi : s = i
  · subst hi
    rw [if_pos rfl, if_pos (List.getElem?_eq_some_iff.1 h).1, h]; simp
  · rw [if_neg hi]; simp [hi]
def Rk.withS (q : Rk) (S : List Bx) : Rk := ⟨q.r, q.v, q.vw, S, q.V⟩
theorem rfoot_withS {q : Rk} {S : List Bx} (h : S.map Bx.g = q.S.map Bx.g) (i : Nat) : rfoot (q.withS S) i ↔ rfoot q i := by
  have e : (∃ b ∈ S, b.g = i) ↔ ∃ b ∈ q.S, b.g = i := by
    have : i ∈ S.map Bx.g ↔ i ∈ q.S.map Bx.g := by rw [h]
    simpa using this
  simp only [rfoot, Rk.withS, e]
section
variable {w : World} {lo n size : Nat} {q : Rk}
theorem RefAt.put (h : RefAt w lo n size q) {s : Nat} {b : Bx} (hb : q.S[s]? = some b) (k y : Nat) :
    RefAt (w.setCell ⟨b.g, k, none⟩ (.int .u8 ((y : Nat) : Int))) lo n size (q.withS (q.S.set s ⟨b.g, b.c, b.xs.set k y⟩)) ∧ w.grownBy (w.setCell ⟨b.g, k, none⟩ (.int .u8 ((y : Nat) : Int))) (some b.g) := by
  have hbm := List.mem_of_getElem? hb
  have hbx := h.rows.at_ b hbm
  have hst := World.ownsRow.stored hbx k (.int .u8 ((y : Nat) : Int))
  have hk : Kept w (w.setCell ⟨b.g, k, none⟩ (.int .u8 ((y : Nat) : Int))) (fun i => i = b.g) := Kept.of hst.2 (fun j e _ => (Option.some.inj e).symm)
  have hcur := hbx.blk.2
  have hl : (b.xs.set k y).length = b.xs.length := by simp
  have offt : ∀ {g : Nat} {cur : Array Value} {t : TypeId}, w.heap[g]? = some (.cells cur t (0, 0)) → t ≠ 5 → g ≠ b.g := by
    intro g cur t hg h5 e
    obtain ⟨c, hc⟩ := hcur
    rw [e, hc] at hg
    simp at hg
    exact h5 hg.2.symm
  have hset : (q.S.set s ⟨b.g, b.c, b.xs.set k y⟩).map Bx.g = q.S.map Bx.g := set_map _ _ _ b _ hb rfl
  have hsetv : (q.S.set s ⟨b.g, b.c, b.xs.set k y⟩).map Bx.v = q.S.map Bx.v := set_map _ _ _ b _ hb (by simp [Bx.v])
  have hmem : ∀ x ∈ q.S.set s ⟨b.g, b.c, b.xs.set k y⟩, x = ⟨b.g, b.c, b.xs.set k y⟩ ∨ (x ∈ q.S ∧ x.g ≠ b.g) := by
    intro x hx
    obtain ⟨i, hi⟩ := List.getElem?_of_mem hx
    rw [List.getElem?_set] at hi
    by_cases his : s = i
    · subst his
      rw [if_pos rfl, if_pos (List.getElem?_eq_some_iff.1 hb).1] at hi
      exact Or.inl (Option.some.inj hi).symm
    · rw [if_neg his] at hi
      refine Or.inr ⟨List.mem_of_getElem? hi, ?_⟩
      obtain ⟨i1, i2⟩ := List.getElem?_eq_some_iff.1 hi
      obtain ⟨s1, s2⟩ := List.getElem?_eq_some_iff.1 hb
      have key := List.pairwise_iff_getElem.1 h.rows.nd
      by_cases hlt : s < i
      · have := key s i s1 i1 hlt
        rw [i2, s2] at this
        exact fun e => this e.symm
      · have := key i s i1 s1 (by omega)
        rw [i2, s2] at this
        exact this
  refine ⟨⟨hk.at h.head (offt h.head (by decide)), h.low, ⟨?_, ?_, ?_⟩, owns_off h.wrow hk (fun g e => by obtain ⟨_, c, hc⟩ := own_block h.wrow g e; exact offt hc (by decide)), ?_, ?_, h.shape, ?_, ?_, h.wsz⟩, hst.2⟩
  · show World.ownsRow _ lo 36 1 q.v (q.S.set s _).length ((q.S.set s _).map Bx.v)
    rw [hsetv, List.length_set]
    exact owns_off h.rows.row hk (fun g e => by obtain ⟨_, c, hc⟩ := own_block h.rows.row g e; exact offt hc (by decide))
  · intro x hx
    rcases hmem x hx with rfl | ⟨h1, h2⟩
    · have := hst.1
      simp only [BxAt, Bx.v, hl]
      rw [bv, List.map_set]
      exact this
    · exact (h.rows.at_ x h1).off hk h2
  · have e1 : (q.S.map Bx.g).Pairwise (· ≠ ·) := by rw [List.pairwise_map]; exact h.rows.nd
    rw [← hset, List.pairwise_map] at e1
    exact e1
  · intro x hx
    exact (h.wat x hx).off hk (h.nv x hx b hbm)
  · intro x hx y' hy
    rcases hmem y' hy with rfl | ⟨h1, h2⟩
    · exact h.nv x hx b hbm
    · exact h.nv x hx y' h1
  · show (q.S.set s _).length = n
    rw [List.length_set]
    exact h.len
  · intro x hx
    rcases hmem x hx with rfl | ⟨h1, h2⟩
    · exact hl.trans (h.sz b hbm)
    · exact h.sz x h1
/-- Nothing waits any more. -/
theorem RefAt.calm (h : RefAt w lo n size q) : RefAt (w.setCell ⟨q.r, 1, none⟩ (.slice none 0 0)) lo n size ⟨q.r, q.v, .slice none 0 0, q.S, []⟩ ∧ w.grownBy (w.setCell ⟨q.r, 1, none⟩ (.slice none 0 0)) (some q.r) := by
  have gs := grown_setCell w q.r 1 (.slice none 0 0)
  have ks : Kept w (w.setCell ⟨q.r, 1, none⟩ (.slice none 0 0)) (fun i => i = q.r) := Kept.of gs (fun j e _ => (Option.some.inj e).symm)
  have offt : ∀ {g : Nat} {cur : Array Value} {t : TypeId}, w.heap[g]? = some (.cells cur t (0, 0)) → t ≠ 144 → g ≠ q.r := by
    intro g cur t hg h5 e
    rw [e, h.head] at hg
    simp at hg
    exact h5 hg.2.symm
  refine ⟨⟨?_, h.low, h.rows.off ks (fun g e => by obtain ⟨_, c, hc⟩ := own_block h.rows.row g e; exact offt hc (by decide)) (fun x hx => by obtain ⟨_, c, hc⟩ := (h.rows.at_ x hx).blk; exact offt hc (by decide)), World.ownsRow_nil _ _ _ _, by simp, by simp, h.shape, h.len, h.sz, by simp⟩, gs⟩
  have := heap_setCell_same w q.r 1 #[q.v, q.vw] 144 (.slice none 0 0) h.head
  simpa using this
end
end Go.Proofs.YtonokaelbpfjnaaGreatDoor
