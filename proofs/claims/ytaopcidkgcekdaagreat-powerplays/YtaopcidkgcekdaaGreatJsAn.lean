/- Texts joined: RDev, RDev2, ArgP. -/
import Derived.Test.YtaopcidkgcekdaaGreatJsAl
import Derived.Test.YtaopcidkgcekdaaGreatJsAm
import Derived.Test.YtaopcidkgcekdaaGreatJsAj
import Derived.Test.YtaopcidkgcekdaaGreatJsAe
/- The document's device. -/
namespace Go.Proofs.YtaopcidkgcekdaaGreat
open Go.RowKit Ap
attribute [local go_sem ↓] Go.wp_at_zero Go.wp_at_succ

def rvcells (r : Nat) (s : Dv) : List Value := [.pointer (some ⟨r, 0, none⟩), .bool s.off, .int .i64 s.arm, .int .i64 (s.cnt : Int)]
structure RvAt (w : World) (c r : Nat) (s : Dv) : Prop where
  head : w.heap[c]? = some (.cells (rvcells r s).toArray 64 (0, 0))
  ok : s.Ok
structure RDev (w : World) (lo n size c : Nat) (s : Dv) (q : Rk) : Prop where
  ref : RefAt w lo n size q
  dev : RvAt w c q.r s
  low : lo ≤ c
structure RM (w w' : World) (c : Nat) (q q' : Rk) : Prop where
  r : q'.r = q.r
  rf : ∀ i, rfoot q' i → rfoot q i ∨ w.heap.size ≤ i
  kept : Kept w w' (fun i => rfoot q i ∨ i = c)
/-- What the document's disk holds. -/
def rst (q : Rk) : List (List Nat) × List Pr := (q.S.map Bx.xs, absV q.V)
def rsyncA (size : Nat) (st : List (List Nat) × List Pr) : List (List Nat) × List Pr := (stlR (fun _ => size) st.2 st.1 st.2.length, [])
def rcrashA (size : Nat) (F : List (Int × Int)) (st : List (List Nat) × List Pr) : List (List Nat) × List Pr := (stlR (fun i => lasts (fateK F i) (fateA F i) size) st.2 st.1 st.2.length, [])
theorem absV_length (V : List (Nat × Bx)) : (absV V).length = V.length := by simp [absV]
section
variable {w w' w'' : World} {lo n size c r : Nat} {s s' : Dv} {q q' q'' : Rk}
theorem RvAt.same (h : RvAt w c r s) (hb : w'.heap[c]? = w.heap[c]?) : RvAt w' c r s := ⟨hb.trans h.head, h.ok⟩
theorem RvAt.lt (h : RvAt w c r s) : c < w.heap.size := row_lt h.head
theorem RvAt.grown (h : RvAt w c r s) (hg : w.grownBy w' none) : RvAt w' c r s := h.same (hg.block c h.lt (by simp))
theorem RvAt.kept {S : Nat → Prop} (h : RvAt w c r s) (hk : Kept w w' S) (hS : ¬ S c) : RvAt w' c r s := h.same (hk.block c h.lt hS)
theorem RvAt.c0 (h : RvAt w c r s) : w.cell? ⟨c, 0, none⟩ = some (.pointer (some ⟨r, 0, none⟩)) := cell_row h.head 0
theorem RvAt.c1 (h : RvAt w c r s) : w.cell? ⟨c, 1, none⟩ = some (.bool s.off) := cell_row h.head 1
theorem RvAt.c2 (h : RvAt w c r s) : w.cell? ⟨c, 2, none⟩ = some (.int .i64 s.arm) := cell_row h.head 2
theorem RvAt.c3 (h : RvAt w c r s) : w.cell? ⟨c, 3, none⟩ = some (.int .i64 (s.cnt : Int)) := cell_row h.head 3
theorem RvAt.free (h : RvAt w c r s) (j : Nat) : w.frozen? ⟨c, j, none⟩ = false := free_row h.head j
theorem RDev.off (h : RDev w lo n size c s q) : ¬ rfoot q c := h.ref.other_off h.dev.head (by decide) (by decide) (by decide) (by decide)
theorem RDev.then (h : RDev w lo n size c s q) (hg : w.grownBy w' none) : RDev w' lo n size c s q := ⟨h.ref.grown hg, h.dev.grown hg, h.low⟩
theorem RM.refl (w : World) (c : Nat) (q : Rk) : RM w w c q q := ⟨rfl, fun _ e => .inl e, Kept.refl _ _⟩
theorem RM.trans (h : RM w w' c q q') (g : RM w' w'' c q' q'') : RM w w'' c q q'' := by
  refine ⟨g.r.trans h.r, ?_, h.kept.trans g.kept ?_⟩
  · intro i hi
    rcases g.rf i hi with e | e
    · exact h.rf i e
    · exact Or.inr (Nat.le_trans h.kept.size e)
  · rintro i hi (e | e)
    · rcases h.rf i e with e | e
      · exact Or.inl e
      · omega
    · exact Or.inr e
theorem RM.new (h : RM w w' c q q') (g : w'.grownBy w'' none) : RM w w'' c q q' := ⟨h.r, h.rf, h.kept.trans (Kept.new g _) (fun _ _ e => e)⟩
theorem RM.pre (g : w.grownBy w' none) (h : RM w' w'' c q q') : RM w w'' c q q' := ⟨h.r, fun i hi => (h.rf i hi).imp id (fun e => Nat.le_trans g.size e), (Kept.new g _).trans h.kept (fun _ _ e => e)⟩
theorem RM.row (hg : w.grownBy w' (some c)) : RM w w' c q q := ⟨rfl, fun _ e => .inl e, Kept.of hg (fun _ e _ => Or.inr (Option.some.inj e).symm)⟩
theorem RM.of (hr : q'.r = q.r) (hk : Kept w w' (rfoot q)) (hf : ∀ i, rfoot q' i → rfoot q i ∨ w.heap.size ≤ i) : RM w w' c q q' := ⟨hr, hf, hk.mono (fun _ _ e => Or.inl e)⟩
theorem RDev.rset (h : RDev w lo n size c s q) (hg : w.grownBy w' (some c)) (hd : RvAt w' c q.r s') : RDev w' lo n size c s' q :=
  ⟨h.ref.kept (Kept.of hg (S := fun i => i = c) (fun _ e _ => (Option.some.inj e).symm)) (fun i hi e => by have e : i = c := e; exact h.off (e ▸ hi)), hd, h.low⟩
theorem RDev.rsk (h : RDev w lo n size c s q) (hr : q'.r = q.r) (hq : RefAt w' lo n size q') (hk : Kept w w' (rfoot q)) : RDev w' lo n size c s q' :=
  ⟨hq, by rw [hr]; exact h.dev.kept hk h.off, h.low⟩
theorem at_rdev {ao : Option Addr} {xs : List Nat} (hat : At w ao xs) (h : RvAt w c r s) (hg : w.grownBy w' (some c)) : At w' ao xs := by
  intro j u hu
  obtain ⟨a, e, hc⟩ := hat j u hu
  refine ⟨a, e, hg.cell hc ?_⟩
  rintro e2
  have e2 : (a.add j).block = c := Option.some.inj e2
  have hsp : (a.add j).spot = none := by
    unfold World.cell? at hc
    split at hc
    · split at hc
      · cases hc
      · rename_i hs; simpa using hs
    · cases hc
  have he : a.add j = ⟨c, (a.add j).off, none⟩ := by
    cases hh : a.add j
    rw [hh] at e2 hsp
    simp at e2 hsp
    subst e2 hsp
    rfl
  rw [he, cell_row h.head] at hc
  generalize (a.add j).off = i at hc
  match i, hc with
  | 0, hc => simp [rvcells] at hc
  | 1, hc => simp [rvcells] at hc
  | 2, hc => simp [rvcells] at hc
  | 3, hc => simp [rvcells] at hc
  | i + 4, hc => simp [rvcells] at hc

set_option maxRecDepth 20000 in
set_option maxHeartbeats 1000000 in
theorem rmade_any (h : RvAt w c r s) (hc : s.cnt < 100000) : Calls Tryz.prog 73 #[.pointer (some ⟨c, 0, none⟩)] w fun e w' => e = .returned (.bool s.goes) ∧ RvAt w' c r s.next ∧ w.grownBy w' (some c) := by
  have c1 := h.c1
  have c2 := h.c2
  have c3 := h.c3
  have f1 := h.free 1
  have f2 := h.free 2
  have f3 := h.free 3
  have hlo := h.ok.lo
  have hhi := h.ok.hi
  have HH := hide h
  obtain ⟨x, a, n⟩ := s
  simp only at c1 c2 c3 hc hlo hhi
  cases x with
  | true =>
    have e2 : Dv.goes ⟨true, a, n⟩ = false := rfl
    rw [e2]
    clear h e2
    go_enter Tryz.func73, Tryz.ntmps73
    go_wp2
    go_ret
    exact ⟨rfl, HH.out, grown_refl _ _⟩
  | false =>
    by_cases h0 : a = 0
    · subst h0
      have e2 : Dv.goes ⟨false, 0, n⟩ = false := rfl
      rw [e2]
      clear h e2
      go_enter Tryz.func73, Tryz.ntmps73
      go_wp2
      go_ret
      refine ⟨rfl, ⟨?_, HH.out.ok.next hc⟩, grown_then (grown_setCell _ c 1 _) (grown_setCell _ c 2 _) (fun j e => Or.inr e)⟩
      have h1 := row_setCell HH.out.head 1 (.bool true)
      exact row_setCell h1 2 (.int .i64 (-1))
    · have e2 : Dv.goes ⟨false, a, n⟩ = true := by simp [Dv.goes, h0]
      by_cases h1 : 0 < a
      · have e1 : Dv.next ⟨false, a, n⟩ = ⟨false, a - 1, n + 1⟩ := by simp [Dv.next, h0, h1]
        rw [e1, e2]
        clear h e1 e2
        go_enter Tryz.func73, Tryz.ntmps73
        go_wp2
        go_ret
        refine ⟨rfl, ⟨?_, ⟨by show -1 ≤ a - 1; omega, by show a - 1 ≤ _; omega, by show n + 1 ≤ _; omega⟩⟩, grown_then (grown_setCell _ c 2 _) (grown_setCell _ c 3 _) (fun j e => Or.inr e)⟩
        have h1 := row_setCell HH.out.head 2 (.int .i64 (a - 1))
        exact row_setCell h1 3 (.int .i64 ((n + 1 : Nat) : Int))
      · have e1 : Dv.next ⟨false, a, n⟩ = ⟨false, a, n + 1⟩ := by simp [Dv.next, h0, h1]
        rw [e1, e2]
        clear h e1 e2
        go_enter Tryz.func73, Tryz.ntmps73
        go_wp2
        go_ret
        refine ⟨rfl, ⟨?_, ⟨hlo, hhi, by show n + 1 ≤ _; omega⟩⟩, grown_setCell _ c 3 _⟩
        exact row_setCell HH.out.head 3 (.int .i64 ((n + 1 : Nat) : Int))
set_option maxRecDepth 20000 in
set_option maxHeartbeats 1000000 in
theorem rarm_any (h : RvAt w c r s) (n : Int) (hn : n ≤ 9223372036854775807) : Calls Tryz.prog 40 #[.pointer (some ⟨c, 0, none⟩), .int .i64 n] w fun e w' => e = .returned (.int .i64 s.upc) ∧ RvAt w' c r (s.armed n) ∧ w.grownBy w' (some c) := by
  have c1 := h.c1
  have c2 := h.c2
  have f2 := h.free 2
  have HH := hide h
  obtain ⟨x, a, m⟩ := s
  simp only at c1 c2
  cases x with
  | true =>
    rw [show Dv.upc ⟨true, a, m⟩ = 60 from rfl]
    clear h
    go_enter Tryz.func40, Tryz.ntmps40
    go_wp2
    go_ret
    exact ⟨rfl, HH.out, grown_refl _ _⟩
  | false =>
    rw [show Dv.upc ⟨false, a, m⟩ = 0 from rfl]
    clear h
    by_cases hm : n < -1
    · have e : Dv.armed ⟨false, a, m⟩ n = ⟨false, -1, m⟩ := by simp [Dv.armed]; omega
      rw [e]
      clear e
      go_enter Tryz.func40, Tryz.ntmps40
      go_wp2
      go_ret
      exact ⟨rfl, ⟨row_setCell HH.out.head 2 (.int .i64 (-1)), ⟨by show (-1 : Int) ≤ -1; omega, by show (-1 : Int) ≤ _; omega, HH.out.ok.few⟩⟩, grown_setCell _ c 2 _⟩
    · have e : Dv.armed ⟨false, a, m⟩ n = ⟨false, n, m⟩ := by simp [Dv.armed]; omega
      rw [e]
      clear e
      have hm2 : -1 ≤ n := by omega
      go_enter Tryz.func40, Tryz.ntmps40
      go_wp2
      go_ret
      exact ⟨rfl, ⟨row_setCell HH.out.head 2 (.int .i64 n), ⟨hm2, hn, HH.out.ok.few⟩⟩, grown_setCell _ c 2 _⟩
set_option maxHeartbeats 400000 in
theorem rdown_any (h : RvAt w c r s) : Calls Tryz.prog 55 #[.pointer (some ⟨c, 0, none⟩)] w fun e w' => e = .returned (.bool s.off) ∧ w' = w := by
  have c1 := h.c1
  clear h
  go_enter Tryz.func55, Tryz.ntmps55
  go_wp2
  go_ret
  exact ⟨rfl, rfl⟩
set_option maxHeartbeats 400000 in
theorem rcount_any (h : RvAt w c r s) : Calls Tryz.prog 56 #[.pointer (some ⟨c, 0, none⟩)] w fun e w' => e = .returned (.int .i64 (s.cnt : Int)) ∧ w' = w := by
  have c3 := h.c3
  clear h
  go_enter Tryz.func56, Tryz.ntmps56
  go_wp2
  go_ret
  exact ⟨rfl, rfl⟩
set_option maxHeartbeats 400000 in
theorem rdsize_any (h : RDev w lo n size c s q) : Calls Tryz.prog 29 #[.pointer (some ⟨c, 0, none⟩)] w fun e w' => e = .returned (.int .i64 (size : Int)) ∧ w' = w := by
  have c0 := h.dev.c0
  have HH := hide h.ref
  clear h
  go_enter Tryz.func29, Tryz.ntmps29
  go_wp2_with fail
  refine (rsize_any rfl HH.out).mono ?_
  rintro e w' ⟨rfl, rfl⟩
  go_wp2
  go_ret
  exact ⟨rfl, rfl⟩
set_option maxHeartbeats 400000 in
theorem rdsectors_any (h : RDev w lo n size c s q) : Calls Tryz.prog 52 #[.pointer (some ⟨c, 0, none⟩)] w fun e w' => e = .returned (.int .i64 (n : Int)) ∧ w' = w := by
  have c0 := h.dev.c0
  have HH := hide h.ref
  clear h
  go_enter Tryz.func52, Tryz.ntmps52
  go_wp2_with fail
  refine (rsectors_any rfl HH.out).mono ?_
  rintro e w' ⟨rfl, rfl⟩
  go_wp2
  go_ret
  exact ⟨rfl, rfl⟩
set_option maxHeartbeats 400000 in
theorem rdwaiting_any (h : RDev w lo n size c s q) : Calls Tryz.prog 54 #[.pointer (some ⟨c, 0, none⟩)] w fun e w' => e = .returned (.int .i64 (q.V.length : Int)) ∧ w' = w := by
  have c0 := h.dev.c0
  have HH := hide h.ref
  clear h
  go_enter Tryz.func54, Tryz.ntmps54
  go_wp2_with fail
  refine (rwaiting_any rfl HH.out).mono ?_
  rintro e w' ⟨rfl, rfl⟩
  go_wp2
  go_ret
  exact ⟨rfl, rfl⟩
end
end Go.Proofs.YtaopcidkgcekdaaGreat
/- The document's device: its calls that reach its disk. -/
namespace Go.Proofs.YtaopcidkgcekdaaGreat
open Go.RowKit Ap
attribute [local go_sem ↓] Go.wp_at_zero Go.wp_at_succ

section
variable {w w' : World} {lo n size c r : Nat} {s : Dv} {q q' : Rk}
theorem wr_ref2 (h : RefAt w lo n size q) (hlo : lo ≤ w.heap.size) (hV : q.V.length ≤ 1000) (a : Int) (ao : Option Addr) (L cap : Nat) (xs : List Nat) (hat : At w ao xs) (hx : xs.length = L) (hnil : ao = none → L = 0 ∧ cap = 0) :
    Calls Tryz.prog 47 #[.pointer (some ⟨q.r, 0, none⟩), .int .i64 a, .slice ao L cap] w fun e w' => ∃ q' : Rk, e = .returned (.int .i64 (wcode n size a L)) ∧ q'.r = q.r ∧ RefAt w' lo n size q' ∧ q'.S = q.S ∧ absV q'.V = wabs n size a xs (absV q.V) ∧ Kept w w' (rfoot q) ∧ ∀ i, rfoot q' i → rfoot q i ∨ w.heap.size ≤ i := by
  cases ao with
  | some ad => exact wr_ref rfl h hlo hV a (some ad) L cap xs hat hx (by simp)
  | none =>
    obtain ⟨rfl, rfl⟩ := hnil rfl
    have s0 := h.shape.s0
    by_cases ha : 0 ≤ a ∧ a < (n : Int)
    · obtain ⟨i, rfl⟩ := Int.eq_ofNat_of_zero_le ha.1
      refine (rwrite_long rfl h i (by omega) none 0 0 (by omega)).mono ?_
      rintro e w' ⟨rfl, rfl⟩
      exact ⟨q, by rw [wcode, if_pos ha, if_neg (by omega)], rfl, h, rfl, by rw [wabs, if_pos ha, if_neg (by omega)], Kept.refl _ _, fun i e => .inl e⟩
    · refine (rwrite_bad rfl h a (by omega) _).mono ?_
      rintro e w' ⟨rfl, rfl⟩
      exact ⟨q, by rw [wcode, if_neg ha], rfl, h, rfl, by rw [wabs, if_neg ha], Kept.refl _ _, fun i e => .inl e⟩
set_option maxHeartbeats 1000000 in
theorem rdwrite_any (h : RDev w lo n size c s q) (hlo : lo ≤ w.heap.size) (hV : q.V.length ≤ 1000) (hc : s.cnt < 100000) (a : Int) (ao : Option Addr) (L cap : Nat) (xs : List Nat) (hat : At w ao xs) (hx : xs.length = L) (hnil : ao = none → L = 0 ∧ cap = 0) :
    Calls Tryz.prog 34 #[.pointer (some ⟨c, 0, none⟩), .int .i64 a, .slice ao L cap] w fun e w' => e = .returned (.int .i64 (s.code (wcode n size a L))) ∧ ∃ q', RDev w' lo n size c s.next q' ∧ RM w w' c q q' ∧ rst q' = (if s.goes then ((rst q).1, wabs n size a xs (rst q).2) else rst q) := by
  have H := hide (rmade_any h.dev hc)
  have HH := hide (And.intro h (And.intro hlo (And.intro hV (And.intro hat (And.intro hx hnil)))))
  unfold Dv.code
  clear h hlo hV hc hat hx hnil
  obtain ⟨g, hgo⟩ : ∃ g, g = s.goes := ⟨_, rfl⟩
  rw [← hgo] at H ⊢
  clear hgo
  generalize s.next = t at *
  cases g with
  | false =>
    go_enter Tryz.func34, Tryz.ntmps34
    go_wp2_with fail
    refine H.out.mono ?_
    rintro e w' ⟨rfl, h1, h2⟩
    have H2 := hide (And.intro h1 h2)
    clear h1 h2
    go_wp2
    go_ret
    exact ⟨rfl, q, HH.out.1.rset H2.out.2 H2.out.1, RM.row H2.out.2, rfl⟩
  | true =>
    simp only [if_true]
    go_enter Tryz.func34, Tryz.ntmps34
    go_wp2_with fail
    refine H.out.mono ?_
    rintro e w' ⟨rfl, h1, h2⟩
    have H2 := hide (And.intro h1 h2)
    have c0 := h1.c0
    clear h1 h2
    go_wp2_with fail
    have hd2 := HH.out.1.rset H2.out.2 H2.out.1
    refine (wr_ref2 hd2.ref (Nat.le_trans HH.out.2.1 H2.out.2.size) HH.out.2.2.1 a ao L cap xs (at_rdev HH.out.2.2.2.1 HH.out.1.dev H2.out.2) HH.out.2.2.2.2.1 HH.out.2.2.2.2.2).mono ?_
    rintro e w2 ⟨q2, rfl, g1, g2, g3, g4, g5, g6⟩
    have H3 := hide (And.intro (hd2.rsk g1 g2 g5) (And.intro ((RM.row (q := q) H2.out.2).trans (RM.of g1 g5 g6)) (And.intro g3 g4)))
    clear g1 g2 g3 g4 g5 g6 hd2
    go_wp2
    go_ret
    exact ⟨rfl, q2, H3.out.1, H3.out.2.1, by unfold rst; rw [H3.out.2.2.1, H3.out.2.2.2]⟩
set_option maxHeartbeats 1000000 in
theorem rdsync_any (h : RDev w lo n size c s q) (hV : q.V.length ≤ 1000) (hc : s.cnt < 100000) :
    Calls Tryz.prog 39 #[.pointer (some ⟨c, 0, none⟩)] w fun e w' => e = .returned (.int .i64 (s.code 0)) ∧ ∃ q', RDev w' lo n size c s.next q' ∧ RM w w' c q q' ∧ rst q' = (if s.goes then rsyncA size (rst q) else rst q) := by
  have H := hide (rmade_any h.dev hc)
  have HH := hide (And.intro h hV)
  unfold Dv.code
  clear h hV hc
  obtain ⟨g, hgo⟩ : ∃ g, g = s.goes := ⟨_, rfl⟩
  rw [← hgo] at H ⊢
  clear hgo
  generalize s.next = t at *
  cases g with
  | false =>
    go_enter Tryz.func39, Tryz.ntmps39
    go_wp2_with fail
    refine H.out.mono ?_
    rintro e w' ⟨rfl, h1, h2⟩
    have H2 := hide (And.intro h1 h2)
    clear h1 h2
    go_wp2
    go_ret
    exact ⟨rfl, q, HH.out.1.rset H2.out.2 H2.out.1, RM.row H2.out.2, rfl⟩
  | true =>
    simp only [if_true]
    go_enter Tryz.func39, Tryz.ntmps39
    go_wp2_with fail
    refine H.out.mono ?_
    rintro e w' ⟨rfl, h1, h2⟩
    have H2 := hide (And.intro h1 h2)
    have c0 := h1.c0
    clear h1 h2
    go_wp2_with fail
    have hd2 := HH.out.1.rset H2.out.2 H2.out.1
    refine (rsync_any rfl hd2.ref (by have := HH.out.2; omega)).mono ?_
    rintro e w2 ⟨q2, rfl, g1, g2, g3, g4, g5, g6⟩
    have H3 := hide (And.intro (hd2.rsk g1 g2 g5) (And.intro ((RM.row (q := q) H2.out.2).trans (RM.of g1 g5 (fun i hi => .inl (g6 i hi)))) (And.intro g3 g4)))
    clear g1 g2 g3 g4 g5 g6 hd2
    go_wp2
    go_ret
    exact ⟨rfl, q2, H3.out.1, H3.out.2.1, by unfold rst rsyncA; rw [H3.out.2.2.1, H3.out.2.2.2, absV_length]; rfl⟩
/-- Bytes that the document's device has told. -/
def RGives (w' : World) (size : Nat) (v : Value) (xs : List Nat) : Prop := (v = .slice none 0 0 ∧ xs = []) ∨ ∃ g cc, v = .slice (some ⟨g, 0, none⟩) size cc ∧ At w' (some ⟨g, 0, none⟩) xs ∧ xs.length = size
def rrbytes (n : Nat) (st : List (List Nat) × List Pr) (a : Int) : List Nat := if 0 ≤ a ∧ a < (n : Int) then finds st.2 st.1 a.toNat else []
theorem fold_mem (P : List Pr) (i : Nat) (r0 : Option (List Nat)) (y : List Nat) (h : P.foldl (fun r x => if i = x.1 then some x.2 else r) r0 = some y) : r0 = some y ∨ ∃ x ∈ P, x.2 = y := by
  induction P generalizing r0 with
  | nil => exact Or.inl h
  | cons x l ih =>
    rw [List.foldl_cons] at h
    rcases ih _ h with e | ⟨z, hz, e⟩
    · split at e
      · exact Or.inr ⟨x, by simp, Option.some.inj e⟩
      · exact Or.inl e
    · exact Or.inr ⟨z, by simp [hz], e⟩
theorem finds_len (h : RefAt w lo n size q) (i : Nat) (hi : i < n) : (finds (absV q.V) (q.S.map Bx.xs) i).length = size := by
  unfold finds
  cases hl : lastP (absV q.V) i with
  | some y =>
    rcases fold_mem _ _ _ _ hl with e | ⟨x, hx, e⟩
    · cases e
    · simp only [Option.getD_some]
      rw [absV, List.mem_map] at hx
      obtain ⟨z, hz, rfl⟩ := hx
      rw [← e]
      exact (h.wsz z hz).2
  | none =>
    have hl2 : i < q.S.length := by rw [h.len]; exact hi
    simp only [Option.getD_none, List.getElem?_map, List.getElem?_eq_getElem hl2, Option.map_some, Option.getD_some]
    exact h.sz _ (List.getElem_mem hl2)
theorem rrd_disk (h : RefAt w lo n size q) (hV : q.V.length ≤ 1000) (a : Int) : Calls Tryz.prog 75 #[.pointer (some ⟨q.r, 0, none⟩), .int .i64 a] w fun e w' =>
    ∃ v, e = .returned (.tuple #[v, .int .i64 (rcode n a)]) ∧ RGives w' size v (rrbytes n (rst q) a) ∧ w.grownBy w' none := by
  by_cases ha : 0 ≤ a ∧ a < (n : Int)
  · obtain ⟨i, rfl⟩ := Int.eq_ofNat_of_zero_le ha.1
    have hi : i < n := by omega
    refine (rread_any rfl h (by omega) i hi).mono ?_
    rintro e w' ⟨g, cc, rfl, h1, h2⟩
    refine ⟨_, by rw [rcode, if_pos ha], ?_, h2⟩
    rw [rrbytes, if_pos ha, Int.toNat_natCast]
    exact Or.inr ⟨g, cc, rfl, h1.at_, finds_len h i hi⟩
  · refine (rread_bad rfl h a (by omega)).mono ?_
    rintro e w' ⟨rfl, rfl⟩
    refine ⟨_, by rw [rcode, if_neg ha], ?_, grown_refl _ _⟩
    rw [rrbytes, if_neg ha]
    exact Or.inl ⟨rfl, rfl⟩
set_option maxHeartbeats 1000000 in
theorem rdread_any (h : RDev w lo n size c s q) (hV : q.V.length ≤ 1000) (hc : s.cnt < 100000) (a : Int) :
    Calls Tryz.prog 36 #[.pointer (some ⟨c, 0, none⟩), .int .i64 a] w fun e w' => ∃ v, e = .returned (.tuple #[v, .int .i64 (s.code (rcode n a))]) ∧ RGives w' size v (if s.goes then rrbytes n (rst q) a else []) ∧ RDev w' lo n size c s.next q ∧ RM w w' c q q := by
  have H := hide (rmade_any h.dev hc)
  have HH := hide (And.intro h hV)
  unfold Dv.code
  clear h hV hc
  obtain ⟨g, hgo⟩ : ∃ g, g = s.goes := ⟨_, rfl⟩
  rw [← hgo] at H ⊢
  clear hgo
  generalize s.next = t at *
  cases g with
  | false =>
    go_enter Tryz.func36, Tryz.ntmps36
    go_wp2_with fail
    refine H.out.mono ?_
    rintro e w' ⟨rfl, h1, h2⟩
    have H2 := hide (And.intro h1 h2)
    clear h1 h2
    go_wp2
    go_ret2
    exact ⟨_, rfl, Or.inl ⟨rfl, rfl⟩, HH.out.1.rset H2.out.2 H2.out.1, RM.row H2.out.2⟩
  | true =>
    simp only [if_true]
    go_enter Tryz.func36, Tryz.ntmps36
    go_wp2_with fail
    refine H.out.mono ?_
    rintro e w' ⟨rfl, h1, h2⟩
    have H2 := hide (And.intro h1 h2)
    have c0 := h1.c0
    clear h1 h2
    go_wp2_with fail
    have hd2 := HH.out.1.rset H2.out.2 H2.out.1
    refine (rrd_disk hd2.ref HH.out.2 a).mono ?_
    rintro e w2 ⟨v, rfl, g1, g2⟩
    have H3 := hide (And.intro g1 (And.intro (hd2.then g2) ((RM.row (q := q) H2.out.2).new g2)))
    clear g1 g2 hd2
    go_wp2
    go_ret2
    exact ⟨v, rfl, H3.out.1, H3.out.2.1, H3.out.2.2⟩
set_option maxHeartbeats 1000000 in
theorem rdrestart_any (h : RDev w lo n size c s q) (hV : q.V.length ≤ 1000) (fo : Option Addr) (m cap : Nat) (F : List (Int × Int)) (hm : F.length = m) (hm2 : m ≤ 140737488355328) (hF : FatesAt w fo F) (hfo : ∀ a, fo = some a → 0 < F.length → ¬ rfoot q a.block) :
    Calls Tryz.prog 43 #[.pointer (some ⟨c, 0, none⟩), .slice fo m cap] w fun e w' => e = .returned (.int .i64 0) ∧ ∃ q', RDev w' lo n size c Dv.anew q' ∧ RM w w' c q q' ∧ rst q' = rcrashA size F (rst q) := by
  have c0 := h.dev.c0
  have HH := hide (And.intro h (And.intro hV (And.intro hm (And.intro hm2 (And.intro hF hfo)))))
  clear h hV hm hm2 hF hfo
  go_enter Tryz.func43, Tryz.ntmps43
  go_wp2_with fail
  refine (rcrash_any rfl HH.out.1.ref (by have := HH.out.2.1; omega) fo m cap F HH.out.2.2.1 HH.out.2.2.2.1 HH.out.2.2.2.2.1 HH.out.2.2.2.2.2).mono ?_
  rintro e w2 ⟨q2, rfl, g1, g2, g3, g4, g5, g6⟩
  have H2 := hide (And.intro (HH.out.1.rsk g1 g2 g5) (And.intro (RM.of (c := c) g1 g5 (fun i hi => .inl (g6 i hi))) (And.intro g3 g4)))
  clear g1 g2 g3 g4 g5 g6
  have f1 := H2.out.1.dev.free 1
  have f2 := H2.out.1.dev.free 2
  have f3 := H2.out.1.dev.free 3
  have c1 := H2.out.1.dev.c1
  have c2 := H2.out.1.dev.c2
  have c3 := H2.out.1.dev.c3
  go_wp2
  go_ret
  have r1 := row_setCell H2.out.1.dev.head 1 (.bool false)
  have r2 := row_setCell r1 2 (.int .i64 (-1))
  have r3 := row_setCell r2 3 (.int .i64 0)
  have gg := grown_then (grown_then (grown_setCell w2 c 1 (.bool false)) (grown_setCell _ c 2 (.int .i64 (-1))) (fun j e => Or.inr e)) (grown_setCell _ c 3 (.int .i64 0)) (fun j e => Or.inr e)
  refine ⟨rfl, q2, H2.out.1.rset gg ⟨r3, ⟨by show (-1 : Int) ≤ -1; omega, by show (-1 : Int) ≤ _; omega, by show 0 ≤ _; omega⟩⟩, H2.out.2.1.trans (RM.row gg), ?_⟩
  unfold rst rcrashA
  rw [H2.out.2.2.1, H2.out.2.2.2, absV_length]
  rfl
set_option maxHeartbeats 1000000 in
theorem rdimage_any (h : RDev w lo n size c s q) : Calls Tryz.prog 50 #[.pointer (some ⟨c, 0, none⟩)] w fun e w' => ∃ ao cap, e = .returned (.slice ao n cap) ∧ ∃ S', RowAt w' w.heap.size (.slice ao n cap) S' ∧ S'.map Bx.xs = (rst q).1 ∧ w.grownBy w' none := by
  have c0 := h.dev.c0
  have HH := hide h.ref
  clear h
  go_enter Tryz.func50, Tryz.ntmps50
  go_wp2_with fail
  refine (rimage_row HH.out.rows HH.out.len.symm HH.out.c0 HH.out.shape.n1 (fun b hb => by rw [HH.out.sz b hb]; have := HH.out.shape.s0; have := HH.out.shape.s1; omega)).mono ?_
  rintro e w2 ⟨ao, cap, S', rfl, i1, i2, i3⟩
  have H2 := hide (And.intro i1 (And.intro i2 i3))
  clear i1 i2 i3
  go_wp2
  go_ret
  exact ⟨ao, cap, rfl, S', H2.out.1, H2.out.2.1, H2.out.2.2⟩
set_option maxHeartbeats 1000000 in
theorem rdnew_any (h : RefAt w lo n size q) (hlo : lo ≤ w.heap.size) : Calls Tryz.prog 24 #[.pointer (some ⟨q.r, 0, none⟩)] w fun e w' => ∃ c, e = .returned (.pointer (some ⟨c, 0, none⟩)) ∧ RDev w' lo n size c Dv.anew q ∧ w.heap.size ≤ c ∧ w.grownBy w' none := by
  have HH := hide (And.intro h hlo)
  clear h hlo
  go_enter Tryz.func24, Tryz.ntmps24
  go_wp2
  go_ret
  have g1 := World.grownBy_alloc w (.cells (rvcells q.r Dv.anew).toArray 64) none
  exact ⟨w.heap.size, rfl, ⟨HH.out.1.grown g1, ⟨heap_alloc_new w _, ⟨by show (-1 : Int) ≤ -1; omega, by show (-1 : Int) ≤ _; omega, by show 0 ≤ _; omega⟩⟩, HH.out.2⟩, Nat.le_refl _, g1⟩
theorem RefAt.mono {lo' : Nat} (h : RefAt w lo n size q) (hl : lo' ≤ lo) : RefAt w lo' n size q :=
  ⟨h.head, Nat.le_trans hl h.low, h.rows.mono hl, owns_mono h.wrow hl, fun x hx => (h.wat x hx).mono hl, h.nv, h.shape, h.len, h.sz, h.wsz⟩
set_option maxRecDepth 20000 in
set_option maxHeartbeats 1000000 in
theorem rdcopy_any (h : RDev w lo n size c s q) (hV : q.V.length ≤ 1000) : Calls Tryz.prog 8 #[.pointer (some ⟨c, 0, none⟩)] w fun e w' => ∃ c', e = .returned (.pointer (some ⟨c', 0, none⟩)) ∧ ∃ q', RDev w' w.heap.size n size c' s q' ∧ rst q' = rst q ∧ w.grownBy w' none := by
  have HH := hide (And.intro h hV)
  have b0 := h.dev.c0
  have hok := hide h.dev.ok
  clear h hV
  go_enter Tryz.func8, Tryz.ntmps8
  go_wp2_with fail
  go_region_held3 (fun w' => w'.cell? ⟨c, 0, none⟩ = some (.pointer (some ⟨q.r, 0, none⟩)) ∧ w'.cell? ⟨c, 1, none⟩ = some (.bool s.off) ∧ w'.cell? ⟨c, 2, none⟩ = some (.int .i64 s.arm) ∧ w'.cell? ⟨c, 3, none⟩ = some (.int .i64 (s.cnt : Int))) (first | exact ⟨HH.out.1.dev.c0, HH.out.1.dev.c1, HH.out.1.dev.c2, HH.out.1.dev.c3⟩ | assumption | go_keep) (first
    | (go_at_call 27; refine (rcopy_any rfl (HH.out.1.ref.grown (grown_drew _ _)) (by have := HH.out.2; omega)).mono ?_; rintro e w2 ⟨q2, rfl, r1, r2, r3, r4⟩; have g2 := grown_trans (grown_drew w none) r4; have hS2 := And.intro ((HH.out.1.dev.grown g2).c0) (And.intro ((HH.out.1.dev.grown g2).c1) (And.intro ((HH.out.1.dev.grown g2).c2) ((HH.out.1.dev.grown g2).c3))); have A2 := hide (And.intro r1 (And.intro r2 (And.intro r3 g2))); clear r1 r2 r3 r4 g2))
  rename_i hHeld
  clear hHeld hS2 b0
  go_wp2
  go_ret
  have g3 := World.grownBy_alloc w2 (.cells (rvcells q2.r s).toArray 64) none
  refine ⟨w2.heap.size, rfl, q2, ⟨A2.out.1.grown g3, ⟨heap_alloc_new w2 _, hok.out⟩, A2.out.2.2.2.size⟩, ?_, grown_trans A2.out.2.2.2 g3⟩
  unfold rst
  rw [A2.out.2.1, A2.out.2.2.1]
end
end Go.Proofs.YtaopcidkgcekdaaGreat
/- Steps of power's scripts that came in, opened. -/
namespace Go.Proofs.YtaopcidkgcekdaaGreat
open Go.ChangeShapes Go.WideShapes Go.ChangeAt Go.RowKit Go.Deep Ap

theorem Tryz.cells45 : Tryz.prog.cellsOf 35 = 6 := by kernel_rfl
theorem Tryz.bytes45 : Tryz.prog.bytesOf 35 = 80 := by kernel_rfl
theorem Tryz.cells4b : Tryz.prog.cellsOf 4 = 1 := by kernel_rfl
/-- A step: its kind, device, number, bytes, whether these stand as they are, fates. -/
structure Stp where
  kd : Int
  on : Int
  at_ : Int
  B : List Nat
  raw : Bool
  F : List (Int × Int)
structure BIn (w : World) (bo : Option Addr) (cap : Nat) (B : List Nat) : Prop where
  at_ : At w bo B
  nil : bo = none → B.length = 0 ∧ cap = 0
  size : B.length ≤ 140737488355000
theorem BIn.grown {w w' : World} {bo : Option Addr} {cap : Nat} {B : List Nat} (h : BIn w bo cap B) (hg : w.grownBy w' none) : BIn w' bo cap B := ⟨h.at_.grown hg, h.nil, h.size⟩
def scells (o : Stp) (bo : Option Addr) (bc : Nat) (fo : Option Addr) (fc : Nat) : List Value := [.int .i64 o.kd, .int .i64 o.on, .int .i64 o.at_, .slice bo o.B.length bc, .bool o.raw, .slice fo o.F.length fc]
structure SIn (w : World) (o : Stp) (bo : Option Addr) (bc : Nat) (fo : Option Addr) (fc : Nat) : Prop where
  bin : BIn w bo bc o.B
  fin : FIn w fo fc o.F
  hi : o.at_ ≤ 9223372036854775807
theorem SIn.grown {w w' : World} {o : Stp} {bo fo : Option Addr} {bc fc : Nat} (h : SIn w o bo bc fo fc) (hg : w.grownBy w' none) : SIn w' o bo bc fo fc := ⟨h.bin.grown hg, h.fin.grown hg, h.hi⟩
structure StAt (w : World) (b off : Nat) (o : Stp) (bo : Option Addr) (bc : Nat) (fo : Option Addr) (fc : Nat) : Prop where
  c0 : w.cell? ⟨b, off, none⟩ = some (.int .i64 o.kd)
  c1 : w.cell? ⟨b, off + 1, none⟩ = some (.int .i64 o.on)
  c2 : w.cell? ⟨b, off + 2, none⟩ = some (.int .i64 o.at_)
  c3 : w.cell? ⟨b, off + 3, none⟩ = some (.slice bo o.B.length bc)
  c4 : w.cell? ⟨b, off + 4, none⟩ = some (.bool o.raw)
  c5 : w.cell? ⟨b, off + 5, none⟩ = some (.slice fo o.F.length fc)
  sin : SIn w o bo bc fo fc
theorem StAt.grown {w w' : World} {b off : Nat} {o : Stp} {bo fo : Option Addr} {bc fc : Nat} (h : StAt w b off o bo bc fo fc) (hg : w.grownBy w' none) : StAt w' b off o bo bc fo fc :=
  ⟨hg.cell h.c0 (by simp), hg.cell h.c1 (by simp), hg.cell h.c2 (by simp), hg.cell h.c3 (by simp), hg.cell h.c4 (by simp), hg.cell h.c5 (by simp), h.sin.grown hg⟩
def StsAt (w : World) (ao : Option Addr) (os : List Stp) : Prop := ∀ j o, os[j]? = some o → ∃ b off bo bc fo fc, ao = some ⟨b, off, none⟩ ∧ StAt w b (off + j * 6) o bo bc fo fc
theorem StsAt.grown {w w' : World} {ao : Option Addr} {os : List Stp} (h : StsAt w ao os) (hg : w.grownBy w' none) : StsAt w' ao os := by
  intro j o hj
  obtain ⟨b, off, bo, bc, fo, fc, e, ho⟩ := h j o hj
  exact ⟨b, off, bo, bc, fo, fc, e, ho.grown hg⟩
section
variable {H : Type} {enc : TypeId × Value → H}
theorem open_stc {w : World} {base fuel : Nat} {spare : Nat → Bool} {held : Bool} {cs : List Value} {x : DataW H × List MemPlace} (h : DataW.trod enc Tryz.prog w base spare held fuel 35 cs = some x) (hz : ∀ n ∈ x.1.weights Tryz.prog 35, n ≤ reachBytes) :
    ∃ (o : Stp) (bo : Option Addr) (bc : Nat) (fo : Option Addr) (fc : Nat), cs = scells o bo bc fo fc ∧ SIn w o bo bc fo fc := by
  obtain ⟨xs, n, _, rfl, hl, hsz, hf⟩ := DataW.trod_struct Tryz.underlying35 h
  rw [Tryz.cells45] at hl
  obtain ⟨v0, v1, v2, v3, v4, v5, rfl⟩ := list6 hl
  obtain ⟨y0, y1, y2, y3, y4, y5, rfl⟩ := list6 (show xs.length = 6 from hsz)
  have f0 : DataW.trod enc Tryz.prog w base spare held n 3 [v0] = some y0 := by simpa [Tryz.cells3] using hf 0 _ rfl
  have f1 : DataW.trod enc Tryz.prog w base spare held n 3 [v1] = some y1 := by simpa [Tryz.cells3] using hf 1 _ rfl
  have f2 : DataW.trod enc Tryz.prog w base spare held n 3 [v2] = some y2 := by simpa [Tryz.cells3] using hf 2 _ rfl
  have f3 : DataW.trod enc Tryz.prog w base spare held n 32 [v3] = some y3 := by simpa [Tryz.cells46] using hf 3 _ rfl
  have f4 : DataW.trod enc Tryz.prog w base spare held n 4 [v4] = some y4 := by simpa [Tryz.cells4b] using hf 4 _ rfl
  have f5 : DataW.trod enc Tryz.prog w base spare held n 33 [v5] = some y5 := by simpa [Tryz.cells35] using hf 5 _ rfl
  obtain ⟨a0, e0, rfl, _⟩ := DataW.trod_int Tryz.underlying3 f0
  obtain ⟨a1, e1, rfl, _⟩ := DataW.trod_int Tryz.underlying3 f1
  obtain ⟨a2, e2, rfl, w2⟩ := DataW.trod_int Tryz.underlying3 f2
  obtain ⟨bo, bc, B, e3, hB1, hB2, hB3⟩ := open_bytes f3 (fun n hn => hz n (by
    simp only [DataW.weights, Tryz.underlying35]
    simp [DataW.weightsEach, DataW.weights, hn]))
  obtain ⟨a4, e4, rfl⟩ := DataW.trod_bool Tryz.underlying4 f4
  obtain ⟨fo, cap, F, e5, hF⟩ := open_fates f5 (fun n hn => hz n (by
    simp only [DataW.weights, Tryz.underlying35]
    simp [DataW.weightsEach, DataW.weights, hn]))
  simp only [List.cons.injEq, and_true] at e0 e1 e2 e3 e4 e5
  exact ⟨⟨a0, a1, a2, B, a4, F⟩, bo, bc, fo, cap, by rw [e0, e1, e2, e3, e4, e5]; rfl, ⟨⟨hB1, hB2, hB3⟩, hF, (bounds_i64 w2).2⟩⟩
/-- A script that came in. -/
theorem open_sts {w : World} {base fuel : Nat} {spare : Nat → Bool} {held : Bool} {cs : List Value} {x : DataW H × List MemPlace} (h : DataW.trod enc Tryz.prog w base spare held fuel 22 cs = some x) (hz : ∀ n ∈ x.1.weights Tryz.prog 22, n ≤ reachBytes) :
    ∃ ao cap os, cs = [.slice ao os.length cap] ∧ StsAt w ao os ∧ os.length ≤ cap ∧ os.length ≤ 140737488355328 := by
  rcases open_slice Tryz.underlying22 h with ⟨rfl, rfl⟩ | ⟨a, len, cap, m, n, D, Pl, rfl, hb, hl, hm, hmm, rfl, hx⟩
  · exact ⟨none, 0, [], rfl, fun j p hj => by simp at hj, by simp, by simp⟩
  · have hlm : len ≤ m := by rw [hmm]; split <;> omega
    have hw : ∀ i, i < len → ∀ n ∈ (D i).weights Tryz.prog 35, n ≤ reachBytes := fun i hi n hn => hz n (by
      simp only [DataW.weights, Tryz.underlying22]
      exact List.mem_cons_of_mem _ (List.mem_append_left _ (weights_all_mem (d := D i) (List.mem_map.2 ⟨i, by simpa using hi, rfl⟩) n hn)))
    have hsz : len * 80 ≤ reachBytes := by
      have := hz ((((List.range len).map D).length + ((List.range (m - len)).map fun j => D (len + j)).length) * Tryz.prog.bytesOf 35) (by simp [DataW.weights, Tryz.underlying22])
      rw [Tryz.bytes45] at this
      simp at this
      omega
    have hex : ∀ i, i < len → ∃ o : Stp, ∃ b off bo bc fo fc, some a = some (⟨b, off, none⟩ : Addr) ∧ StAt w b (off + i * 6) o bo bc fo fc := by
      intro i hi
      rw [Tryz.cells45] at hx
      have key : ∀ i, i < len → ∃ (o : Stp) (bo : Option Addr) (bc : Nat) (fo : Option Addr) (fc : Nat), SIn w o bo bc fo fc ∧ ∀ (j : Nat) (v : Value), (scells o bo bc fo fc)[j]? = some v → w.cell? ((a.add (i * 6)).add j) = some v := by
        intro i hi
        obtain ⟨cs', hc, ht⟩ := hx i (by omega)
        obtain ⟨_, hlen, hcell⟩ := World.cells?_some hc
        obtain ⟨o, bo, bc, fo, fc, rfl, hF⟩ := open_stc ht (hw i hi)
        refine ⟨o, bo, bc, fo, fc, hF, fun j v hv => ?_⟩
        have hj : j < 6 := (List.getElem?_eq_some_iff.1 hv).1
        have := hcell j hj
        rw [this]
        simpa using hv
      obtain ⟨o0, b0, bc0, f0, c0, _, k0⟩ := key 0 (by omega)
      have ha : a = ⟨a.block, a.off, none⟩ := addr_plain (by simpa [Addr.add] using k0 0 _ rfl) (fun _ _ _ => trivial) ⟨_, _, rfl⟩
      obtain ⟨o, bo, bc, fo, fc, hF, k⟩ := key i hi
      rw [ha] at k
      simp only [Addr.add_lit] at k
      exact ⟨o, a.block, a.off, bo, bc, fo, fc, by rw [← ha], ⟨k 0 _ rfl, k 1 _ rfl, k 2 _ rfl, k 3 _ rfl, k 4 _ rfl, k 5 _ rfl, hF⟩⟩
    obtain ⟨os, hF1, hF2⟩ : ∃ os : List Stp, os.length = len ∧ StsAt w (some a) os := by
      clear hsz hx hz h hlm hmm hl hw
      induction len with
      | zero => exact ⟨[], rfl, fun j p hj => by simp at hj⟩
      | succ k ih =>
        obtain ⟨F, f1, f2⟩ := ih (fun i hi => hex i (by omega))
        obtain ⟨p, g1⟩ := hex k (by omega)
        refine ⟨F ++ [p], by simp [f1], ?_⟩
        intro j q hj
        by_cases hjk : j < F.length
        · rw [List.getElem?_append_left hjk] at hj; exact f2 j q hj
        · have hlt := (List.getElem?_eq_some_iff.1 hj).1
          have hjk2 : j = k := by simp at hlt; omega
          subst hjk2
          rw [List.getElem?_append_right (by omega), f1, Nat.sub_self] at hj
          simp at hj
          subst hj
          exact g1
    exact ⟨some a, cap, os, by rw [hF1], hF2, by rw [hF1]; omega, by rw [hF1]; unfold reachBytes at hsz; omega⟩
end
end Go.Proofs.YtaopcidkgcekdaaGreat
