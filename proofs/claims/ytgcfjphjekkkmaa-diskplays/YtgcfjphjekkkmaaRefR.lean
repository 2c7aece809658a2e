/- The document's Read. -/
import Derived.Test.YtgcfjphjekkkmaaRefC
import Derived.Test.YtgcfjphjekkkmaaStlR
namespace Go.Proofs.Ytgcfjphjekkkmaa
open Go.RowKit Ap
attribute [local go_sem ↓] Go.wp_at_zero Go.wp_at_succ

def lastP (P : List Pr) (s : Nat) : Option (List Nat) := P.foldl (fun r x => if s = x.1 then some x.2 else r) none
theorem fold_skip (l : List Pr) (s : Nat) (r : Option (List Nat)) (h : ∀ x ∈ l, x.1 ≠ s) : l.foldl (fun r x => if s = x.1 then some x.2 else r) r = r := by
  induction l generalizing r with
  | nil => rfl
  | cons x l ih =>
    rw [List.foldl_cons, if_neg (fun e => h x (by simp) e.symm)]
    exact ih r (fun y hy => h y (by simp [hy]))
theorem lastP_none {P : List Pr} {s : Nat} (h : ∀ (k : Nat) (x : Pr), P[k]? = some x → x.1 ≠ s) : lastP P s = none :=
  fold_skip P s none (fun x hx => by obtain ⟨k, hk⟩ := List.getElem?_of_mem hx; exact h k x hk)
theorem lastP_some {P : List Pr} {s j : Nat} {y : List Nat} (hj : P[j]? = some (s, y)) (h : ∀ (k : Nat) (x : Pr), j < k → P[k]? = some x → x.1 ≠ s) : lastP P s = some y := by
  have e : P = P.take j ++ [(s, y)] ++ P.drop (j + 1) := by rw [← take_snoc P j _ hj, List.take_append_drop]
  rw [lastP, e, List.foldl_append, List.foldl_append]
  rw [fold_skip]
  · simp
  · intro x hx
    obtain ⟨k, hk⟩ := List.getElem?_of_mem hx
    rw [List.getElem?_drop] at hk
    exact h (j + 1 + k) x (by omega) hk
/-- What the document's disk finds in a sector. -/
def finds (P : List Pr) (R : List (List Nat)) (s : Nat) : List Nat := (lastP P s).getD (R[s]?.getD [])
def absV (V : List (Nat × Bx)) : List Pr := V.map (fun x => (x.1, x.2.xs))
theorem found_ref {n size : Nat} {D : List Nat} {W : List Wt} {P : List Pr} {R : List (List Nat)} {s : Nat} (hs : s < n) (hW : abs W = P) (hD : secs n size D = R) : found size D W s = finds P R s := by
  have key : ∀ V : List Wt, found size D V s = ((abs V).foldl (fun r x => if s = x.1 then some x.2 else r) none).getD (secOf size D s) := by
    intro V
    have e : (abs V).foldl (fun r x => if s = x.1 then some x.2 else r) none = (lastOf V s).map (fun x => x.xs) := by
      induction V using snoc_ind with
      | h0 => rfl
      | h1 l x ih =>
        rw [lastOf_snoc, abs, List.map_append, List.foldl_append]
        simp only [List.map_cons, List.map_nil, List.foldl_cons, List.foldl_nil]
        by_cases hx : s = x.sec
        · rw [if_pos hx, if_pos hx]; rfl
        · rw [if_neg hx, if_neg hx]; exact ih
    rw [e, found]
    cases lastOf V s <;> rfl
  rw [key, hW, finds, lastP, ← hD, secs_get _ _ _ _ hs]
  rfl
section
variable {w : World} {lo n size : Nat} {q : Rk} {r : Nat}
theorem RefAt.wcell (h : RefAt w lo n size q) {g cap m j : Nat} (hv : q.vw = .slice (some ⟨g, 0, none⟩) m cap) {x : Nat × Bx} (hx : q.V[j]? = some x) : w.cell? ⟨g, j * 2, none⟩ = some (.int .i64 (x.1 : Int)) ∧ w.cell? ⟨g, j * 2 + 1, none⟩ = some (.slice (some ⟨x.2.g, 0, none⟩) size x.2.c) := by
  obtain ⟨h1, h2⟩ := vcells_get q.V j x hx
  have c1 := h.wrow.cells (g := g) (by rw [hv]; rfl) _ _ h1
  have c2 := h.wrow.cells (g := g) (by rw [hv]; rfl) _ _ h2
  rw [Addr.add_lit, Nat.zero_add] at c1 c2
  rw [Nat.mul_comm j 2]
  rw [Bx.v, (h.wsz x (List.mem_of_getElem? hx)).2] at c2
  exact ⟨c1, c2⟩
set_option maxHeartbeats 400000 in
theorem rread_bad (hr : q.r = r) (h : RefAt w lo n size q) (a : Int) (ha : a < 0 ∨ (n : Int) ≤ a) : Calls Try.prog 42 #[.pointer (some ⟨r, 0, none⟩), .int .i64 a] w fun e w' => e = .returned (.tuple #[.slice none 0 0, .int .i64 50]) ∧ w' = w := by
  have H := hide (rwrong_bad hr h a ha)
  clear h hr
  go_enter Try.func42, Try.ntmps42
  go_wp2_with fail
  refine H.out.mono ?_
  rintro e w' ⟨rfl, rfl⟩
  go_wp2
  go_ret2
  exact ⟨rfl, rfl⟩
set_option maxRecDepth 20000 in
set_option maxHeartbeats 2000000 in
theorem rread_any (hr : q.r = r) (h : RefAt w lo n size q) (hV : q.V.length ≤ 1000000) (s : Nat) (hs : s < n) : Calls Try.prog 42 #[.pointer (some ⟨r, 0, none⟩), .int .i64 (s : Int)] w fun e w' => ∃ g c, e = .returned (.tuple #[.slice (some ⟨g, 0, none⟩) size c, .int .i64 0]) ∧ BxAt w' w.heap.size ⟨g, c, finds (absV q.V) (q.S.map Bx.xs) s⟩ ∧ w.grownBy w' none := by
  have H := hide (rwrong_ok hr h s hs)
  obtain ⟨vo, vcap, hvw, hvo⟩ := h.wform
  obtain ⟨gv, gcap, hv⟩ := h.vform
  obtain ⟨b, hb⟩ := h.get hs
  have cs := h.sec hv hb
  have c0 := h.c0
  have c1 := h.c1
  have n1 := h.shape.n1
  have s0 := h.shape.s0
  have s1 := h.shape.s1
  rw [hv, hr] at c0
  rw [hvw, hr] at c1
  have HT0 := hide (twin_any (some ⟨b.g, 0, none⟩) size b.c b.xs w (h.rows.at_ b (List.mem_of_getElem? hb)).at_ (h.sz b (List.mem_of_getElem? hb)) (by omega) (fun e => by cases e) (by omega))
  have HH := hide (And.intro h (And.intro hvw (And.intro hvo hb)))
  obtain ⟨m, hm⟩ : ∃ m, m = q.V.length := ⟨_, rfl⟩
  rw [← hm] at c1 hV
  have HM := hide hm
  have i1 : (s : Int) < (n : Int) := by omega
  have i0 : (0 : Int) ≤ (s : Int) := by omega
  clear h hv hvw hvo hb hm hr
  go_enter Try.func42, Try.ntmps42
  go_wp2_with fail
  refine H.out.mono ?_
  rintro e w' ⟨rfl, rfl⟩
  go_wp2
  go_loopg [7] m (fun gq i wr => i = .int .i64 ((gq : Int) - 1) ∧ gq ≤ m ∧ Hid (∀ (k : Nat) (x : Nat × Bx), gq ≤ k → q.V[k]? = some x → x.1 ≠ s) ∧ wr = w')
  case atStart => exact ⟨rfl, Nat.le_refl _, hide (fun k x hk hx => by have := (List.getElem?_eq_some_iff.1 hx).1; have := HM.out; omega), rfl⟩
  case round =>
    obtain ⟨rfl, hgm, HR, rfl⟩ := hrel
    by_cases hk : 0 < gk
    · obtain ⟨j, rfl⟩ : ∃ j, gk = j + 1 := ⟨gk - 1, by omega⟩
      obtain ⟨gw, rfl⟩ := HH.out.2.2.1 (by have := HM.out; omega)
      have hjl : j < q.V.length := by have := HM.out; omega
      have hx := List.getElem?_eq_getElem hjl
      generalize q.V[j] = x at *
      obtain ⟨w0, w1⟩ := HH.out.1.wcell HH.out.2.1 hx
      have hxm := List.mem_of_getElem? hx
      have HT1 := hide (twin_any (some ⟨x.2.g, 0, none⟩) size x.2.c x.2.xs wr (HH.out.1.wat x hxm).at_ (HH.out.1.wsz x hxm).2 (by omega) (fun e => by cases e) (by omega))
      have HX := hide hx
      have e1 : ((j + 1 : Nat) : Int) - 1 = (j : Int) := by omega
      rw [e1]
      have i2 : (0 : Int) ≤ (j : Int) := by omega
      have i3 : (j : Int) < (m : Int) := by omega
      clear hx hxm
      by_cases hsec : x.1 = s
      · rw [hsec] at w0
        have HS := hide hsec
        clear hsec
        go_wp2_with fail
        refine HT1.out.mono ?_
        rintro e w2 ⟨g, c, rfl, o2, g2⟩
        have A2 := hide (And.intro o2 g2)
        clear o2 g2
        go_wp2
        go_ret2
        refine ⟨g, c, rfl, ?_, A2.out.2⟩
        have : finds (absV q.V) (q.S.map Bx.xs) s = x.2.xs := by
          rw [finds, lastP_some (j := j) (y := x.2.xs) (by rw [absV, List.getElem?_map, HX.out, ← HS.out]; rfl)]
          · rfl
          · intro k y hk hy
            rw [absV, List.getElem?_map] at hy
            obtain ⟨z, hz, rfl⟩ := Option.map_eq_some_iff.1 hy
            exact HR.out k z (by omega) hz
        rw [this]
        exact A2.out.1
      · have HS := hide hsec
        have hne : ¬ (x.1 : Int) = (s : Int) := by omega
        clear hsec
        go_wp2
        go_roundg j
        case measure => omega
        case rel =>
          refine ⟨by go_num, by omega, hide ?_, rfl⟩
          intro k y hk hy
          by_cases hkj : k = j
          · subst hkj
            rw [HX.out] at hy
            obtain rfl := Option.some.inj hy
            exact HS.out
          · exact HR.out k y (by omega) hy
    · obtain rfl : gk = 0 := by omega
      go_wp2_with fail
      refine HT0.out.mono ?_
      rintro e w2 ⟨g, c, rfl, o2, g2⟩
      have A2 := hide (And.intro o2 g2)
      clear o2 g2
      go_wp2
      go_ret2
      refine ⟨g, c, rfl, ?_, A2.out.2⟩
      have : finds (absV q.V) (q.S.map Bx.xs) s = b.xs := by
        rw [finds, lastP_none, List.getElem?_map, HH.out.2.2.2]
        · rfl
        · intro k y hy
          rw [absV, List.getElem?_map] at hy
          obtain ⟨z, hz, rfl⟩ := Option.map_eq_some_iff.1 hy
          exact HR.out k z (by omega) hz
      rw [this]
      exact A2.out.1
end
end Go.Proofs.Ytgcfjphjekkkmaa
