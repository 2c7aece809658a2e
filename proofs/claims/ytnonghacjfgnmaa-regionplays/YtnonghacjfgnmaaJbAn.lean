/- Texts joined: RDev, RDev2, Px, Dv0. -/
import Derived.Test.YtnonghacjfgnmaaJbAj
import Derived.Test.YtnonghacjfgnmaaJbAm
import Derived.Test.YtnonghacjfgnmaaJbAi
import Derived.OwnWalk
/- The document's device. -/
namespace Go.Proofs.Ytnonghacjfgnmaa
open Go.RowKit Ap
attribute [local go_sem ↓] Go.wp_at_zero Go.wp_at_succ

def rvcells (r : Nat) (s : Dv) : List Value := [.pointer (some ⟨r, 0, none⟩), .bool s.off, .int .i64 s.arm, .int .i64 (s.cnt : Int)]
structure RvAt (w : World) (c r : Nat) (s : Dv) : Prop where
  head : w.heap[c]? = some (.cells (rvcells r s).toArray 104 (0, 0))
  ok : s.Ok
structure RDev (w : World) (lo n size c : Nat) (s : Dv) (q : Rk) : Prop where
  ref : RefAt w lo n size q
  dev : RvAt w c q.r s
  low : lo ≤ c
structure RM (w w' : World) (c : Nat) (q q' : Rk) : Prop where
  r : q'.r = q.r
  rf : ∀ i, rfoot q' i → rfoot q i ∨ w.heap.size ≤ i
  kept : Kept w w' (fun i => rfoot q i ∨ i = c)
/-- What the document's disk holds. -/
def rst (q : Rk) : List (List Nat) × List Pr := (q.S.map Bx.xs, absV q.V)
def rsyncA (size : Nat) (st : List (List Nat) × List Pr) : List (List Nat) × List Pr := (stlR (fun _ => size) st.2 st.1 st.2.length, [])
def rcrashA (size : Nat) (F : List (Int × Int)) (st : List (List Nat) × List Pr) : List (List Nat) × List Pr := (stlR (fun i => lasts (fateK F i) (fateA F i) size) st.2 st.1 st.2.length, [])
theorem absV_length (V : List (Nat × Bx)) : (absV V).length = V.length := by simp [absV]
section
variable {w w' w'' : World} {lo n size c r : Nat} {s s' : Dv} {q q' q'' : Rk}
theorem RvAt.same (h : RvAt w c r s) (hb : w'.heap[c]? = w.heap[c]?) : RvAt w' c r s := ⟨hb.trans h.head, h.ok⟩
theorem RvAt.lt (h : RvAt w c r s) : c < w.heap.size := row_lt h.head
theorem RvAt.grown (h : RvAt w c r s) (hg : w.grownBy w' none) : RvAt w' c r s := h.same (hg.block c h.lt (by simp))
theorem RvAt.kept {S : Nat → Prop} (h : RvAt w c r s) (hk : Kept w w' S) (hS : ¬ S c) : RvAt w' c r s := h.same (hk.block c h.lt hS)
theorem RvAt.c0 (h : RvAt w c r s) : w.cell? ⟨c, 0, none⟩ = some (.pointer (some ⟨r, 0, none⟩)) := cell_row h.head 0
theorem RvAt.c1 (h : RvAt w c r s) : w.cell? ⟨c, 1, none⟩ = some (.bool s.off) := cell_row h.head 1
theorem RvAt.c2 (h : RvAt w c r s) : w.cell? ⟨c, 2, none⟩ = some (.int .i64 s.arm) := cell_row h.head 2
theorem RvAt.c3 (h : RvAt w c r s) : w.cell? ⟨c, 3, none⟩ = some (.int .i64 (s.cnt : Int)) := cell_row h.head 3
theorem RvAt.free (h : RvAt w c r s) (j : Nat) : w.frozen? ⟨c, j, none⟩ = false := free_row h.head j
theorem RDev.off (h : RDev w lo n size c s q) : ¬ rfoot q c := h.ref.other_off h.dev.head (by decide) (by decide) (by decide) (by decide)
theorem RDev.then (h : RDev w lo n size c s q) (hg : w.grownBy w' none) : RDev w' lo n size c s q := ⟨h.ref.grown hg, h.dev.grown hg, h.low⟩
theorem RM.refl (w : World) (c : Nat) (q : Rk) : RM w w c q q := ⟨rfl, fun _ e => .inl e, Kept.refl _ _⟩
theorem RM.trans (h : RM w w' c q q') (g : RM w' w'' c q' q'') : RM w w'' c q q'' := by
  refine ⟨g.r.trans h.r, ?_, h.kept.trans g.kept ?_⟩
  · intro i hi
    rcases g.rf i hi with e | e
    · exact h.rf i e
    · exact Or.inr (Nat.le_trans h.kept.size e)
  · rintro i hi (e | e)
    · rcases h.rf i e with e | e
      · exact Or.inl e
      · omega
    · exact Or.inr e
theorem RM.new (h : RM w w' c q q') (g : w'.grownBy w'' none) : RM w w'' c q q' := ⟨h.r, h.rf, h.kept.trans (Kept.new g _) (fun _ _ e => e)⟩
theorem RM.pre (g : w.grownBy w' none) (h : RM w' w'' c q q') : RM w w'' c q q' := ⟨h.r, fun i hi => (h.rf i hi).imp id (fun e => Nat.le_trans g.size e), (Kept.new g _).trans h.kept (fun _ _ e => e)⟩
theorem RM.row (hg : w.grownBy w' (some c)) : RM w w' c q q := ⟨rfl, fun _ e => .inl e, Kept.of hg (fun _ e _ => Or.inr (Option.some.inj e).symm)⟩
theorem RM.of (hr : q'.r = q.r) (hk : Kept w w' (rfoot q)) (hf : ∀ i, rfoot q' i → rfoot q i ∨ w.heap.size ≤ i) : RM w w' c q q' := ⟨hr, hf, hk.mono (fun _ _ e => Or.inl e)⟩
theorem RDev.rset (h : RDev w lo n size c s q) (hg : w.grownBy w' (some c)) (hd : RvAt w' c q.r s') : RDev w' lo n size c s' q :=
  ⟨h.ref.kept (Kept.of hg (S := fun i => i = c) (fun _ e _ => (Option.some.inj e).symm)) (fun i hi e => by have e : i = c := e; exact h.off (e ▸ hi)), hd, h.low⟩
theorem RDev.rsk (h : RDev w lo n size c s q) (hr : q'.r = q.r) (hq : RefAt w' lo n size q') (hk : Kept w w' (rfoot q)) : RDev w' lo n size c s q' :=
  ⟨hq, by rw [hr]; exact h.dev.kept hk h.off, h.low⟩
theorem at_rdev {ao : Option Addr} {xs : List Nat} (hat : At w ao xs) (h : RvAt w c r s) (hg : w.grownBy w' (some c)) : At w' ao xs := by
  intro j u hu
  obtain ⟨a, e, hc⟩ := hat j u hu
  refine ⟨a, e, hg.cell hc ?_⟩
  rintro e2
  have e2 : (a.add j).block = c := Option.some.inj e2
  have hsp : (a.add j).spot = none := by
    unfold World.cell? at hc
    split at hc
    · split at hc
      · cases hc
      · rename_i hs; simpa using hs
    · cases hc
  have he : a.add j = ⟨c, (a.add j).off, none⟩ := by
    cases hh : a.add j
    rw [hh] at e2 hsp
    simp at e2 hsp
    subst e2 hsp
    rfl
  rw [he, cell_row h.head] at hc
  generalize (a.add j).off = i at hc
  match i, hc with
  | 0, hc => simp [rvcells] at hc
  | 1, hc => simp [rvcells] at hc
  | 2, hc => simp [rvcells] at hc
  | 3, hc => simp [rvcells] at hc
  | i + 4, hc => simp [rvcells] at hc

set_option maxRecDepth 20000 in
set_option maxHeartbeats 1000000 in
theorem rmade_any (h : RvAt w c r s) (hc : s.cnt < 100000) : Calls Try.prog 123 #[.pointer (some ⟨c, 0, none⟩)] w fun e w' => e = .returned (.bool s.goes) ∧ RvAt w' c r s.next ∧ w.grownBy w' (some c) := by
  have c1 := h.c1
  have c2 := h.c2
  have c3 := h.c3
  have f1 := h.free 1
  have f2 := h.free 2
  have f3 := h.free 3
  have hlo := h.ok.lo
  have hhi := h.ok.hi
  have HH := hide h
  obtain ⟨x, a, n⟩ := s
  simp only at c1 c2 c3 hc hlo hhi
  cases x with
  | true =>
    have e2 : Dv.goes ⟨true, a, n⟩ = false := rfl
    rw [e2]
    clear h e2
    go_enter Try.func123, Try.ntmps123
    go_wp2
    go_ret
    exact ⟨rfl, HH.out, grown_refl _ _⟩
  | false =>
    by_cases h0 : a = 0
    · subst h0
      have e2 : Dv.goes ⟨false, 0, n⟩ = false := rfl
      rw [e2]
      clear h e2
      go_enter Try.func123, Try.ntmps123
      go_wp2
      go_ret
      refine ⟨rfl, ⟨?_, HH.out.ok.next hc⟩, grown_then (grown_setCell _ c 1 _) (grown_setCell _ c 2 _) (fun j e => Or.inr e)⟩
      have h1 := row_setCell HH.out.head 1 (.bool true)
      exact row_setCell h1 2 (.int .i64 (-1))
    · have e2 : Dv.goes ⟨false, a, n⟩ = true := by simp [Dv.goes, h0]
      by_cases h1 : 0 < a
      · have e1 : Dv.next ⟨false, a, n⟩ = ⟨false, a - 1, n + 1⟩ := by simp [Dv.next, h0, h1]
        rw [e1, e2]
        clear h e1 e2
        go_enter Try.func123, Try.ntmps123
        go_wp2
        go_ret
        refine ⟨rfl, ⟨?_, ⟨by show -1 ≤ a - 1; omega, by show a - 1 ≤ _; omega, by show n + 1 ≤ _; omega⟩⟩, grown_then (grown_setCell _ c 2 _) (grown_setCell _ c 3 _) (fun j e => Or.inr e)⟩
        have h1 := row_setCell HH.out.head 2 (.int .i64 (a - 1))
        exact row_setCell h1 3 (.int .i64 ((n + 1 : Nat) : Int))
      · have e1 : Dv.next ⟨false, a, n⟩ = ⟨false, a, n + 1⟩ := by simp [Dv.next, h0, h1]
        rw [e1, e2]
        clear h e1 e2
        go_enter Try.func123, Try.ntmps123
        go_wp2
        go_ret
        refine ⟨rfl, ⟨?_, ⟨hlo, hhi, by show n + 1 ≤ _; omega⟩⟩, grown_setCell _ c 3 _⟩
        exact row_setCell HH.out.head 3 (.int .i64 ((n + 1 : Nat) : Int))
set_option maxRecDepth 20000 in
set_option maxHeartbeats 1000000 in
theorem rarm_any (h : RvAt w c r s) (n : Int) (hn : n ≤ 9223372036854775807) : Calls Try.prog 59 #[.pointer (some ⟨c, 0, none⟩), .int .i64 n] w fun e w' => e = .returned (.int .i64 s.upc) ∧ RvAt w' c r (s.armed n) ∧ w.grownBy w' (some c) := by
  have c1 := h.c1
  have c2 := h.c2
  have f2 := h.free 2
  have HH := hide h
  obtain ⟨x, a, m⟩ := s
  simp only at c1 c2
  cases x with
  | true =>
    rw [show Dv.upc ⟨true, a, m⟩ = 60 from rfl]
    clear h
    go_enter Try.func59, Try.ntmps59
    go_wp2
    go_ret
    exact ⟨rfl, HH.out, grown_refl _ _⟩
  | false =>
    rw [show Dv.upc ⟨false, a, m⟩ = 0 from rfl]
    clear h
    by_cases hm : n < -1
    · have e : Dv.armed ⟨false, a, m⟩ n = ⟨false, -1, m⟩ := by simp [Dv.armed]; omega
      rw [e]
      clear e
      go_enter Try.func59, Try.ntmps59
      go_wp2
      go_ret
      exact ⟨rfl, ⟨row_setCell HH.out.head 2 (.int .i64 (-1)), ⟨by show (-1 : Int) ≤ -1; omega, by show (-1 : Int) ≤ _; omega, HH.out.ok.few⟩⟩, grown_setCell _ c 2 _⟩
    · have e : Dv.armed ⟨false, a, m⟩ n = ⟨false, n, m⟩ := by simp [Dv.armed]; omega
      rw [e]
      clear e
      have hm2 : -1 ≤ n := by omega
      go_enter Try.func59, Try.ntmps59
      go_wp2
      go_ret
      exact ⟨rfl, ⟨row_setCell HH.out.head 2 (.int .i64 n), ⟨hm2, hn, HH.out.ok.few⟩⟩, grown_setCell _ c 2 _⟩
set_option maxHeartbeats 400000 in
theorem rdown_any (h : RvAt w c r s) : Calls Try.prog 67 #[.pointer (some ⟨c, 0, none⟩)] w fun e w' => e = .returned (.bool s.off) ∧ w' = w := by
  have c1 := h.c1
  clear h
  go_enter Try.func67, Try.ntmps67
  go_wp2
  go_ret
  exact ⟨rfl, rfl⟩
set_option maxHeartbeats 400000 in
theorem rcount_any (h : RvAt w c r s) : Calls Try.prog 66 #[.pointer (some ⟨c, 0, none⟩)] w fun e w' => e = .returned (.int .i64 (s.cnt : Int)) ∧ w' = w := by
  have c3 := h.c3
  clear h
  go_enter Try.func66, Try.ntmps66
  go_wp2
  go_ret
  exact ⟨rfl, rfl⟩
set_option maxHeartbeats 400000 in
theorem rdsize_any (h : RDev w lo n size c s q) : Calls Try.prog 65 #[.pointer (some ⟨c, 0, none⟩)] w fun e w' => e = .returned (.int .i64 (size : Int)) ∧ w' = w := by
  have c0 := h.dev.c0
  have HH := hide h.ref
  clear h
  go_enter Try.func65, Try.ntmps65
  go_wp2_with fail
  refine (rsize_any rfl HH.out).mono ?_
  rintro e w' ⟨rfl, rfl⟩
  go_wp2
  go_ret
  exact ⟨rfl, rfl⟩
set_option maxHeartbeats 400000 in
theorem rdsectors_any (h : RDev w lo n size c s q) : Calls Try.prog 86 #[.pointer (some ⟨c, 0, none⟩)] w fun e w' => e = .returned (.int .i64 (n : Int)) ∧ w' = w := by
  have c0 := h.dev.c0
  have HH := hide h.ref
  clear h
  go_enter Try.func86, Try.ntmps86
  go_wp2_with fail
  refine (rsectors_any rfl HH.out).mono ?_
  rintro e w' ⟨rfl, rfl⟩
  go_wp2
  go_ret
  exact ⟨rfl, rfl⟩
set_option maxHeartbeats 400000 in
theorem rdwaiting_any (h : RDev w lo n size c s q) : Calls Try.prog 68 #[.pointer (some ⟨c, 0, none⟩)] w fun e w' => e = .returned (.int .i64 (q.V.length : Int)) ∧ w' = w := by
  have c0 := h.dev.c0
  have HH := hide h.ref
  clear h
  go_enter Try.func68, Try.ntmps68
  go_wp2_with fail
  refine (rwaiting_any rfl HH.out).mono ?_
  rintro e w' ⟨rfl, rfl⟩
  go_wp2
  go_ret
  exact ⟨rfl, rfl⟩
end
end Go.Proofs.Ytnonghacjfgnmaa
/- The document's device: its calls that reach its disk. -/
namespace Go.Proofs.Ytnonghacjfgnmaa
open Go.RowKit Ap
attribute [local go_sem ↓] Go.wp_at_zero Go.wp_at_succ

section
variable {w w' : World} {lo n size c r : Nat} {s : Dv} {q q' : Rk}
theorem wr_ref2 (h : RefAt w lo n size q) (hlo : lo ≤ w.heap.size) (hV : q.V.length ≤ 900000) (a : Int) (ao : Option Addr) (L cap : Nat) (xs : List Nat) (hat : At w ao xs) (hx : xs.length = L) (hnil : ao = none → L = 0 ∧ cap = 0) :
    Calls Try.prog 125 #[.pointer (some ⟨q.r, 0, none⟩), .int .i64 a, .slice ao L cap] w fun e w' => ∃ q' : Rk, e = .returned (.int .i64 (wcode n size a L)) ∧ q'.r = q.r ∧ RefAt w' lo n size q' ∧ q'.S = q.S ∧ absV q'.V = wabs n size a xs (absV q.V) ∧ Kept w w' (rfoot q) ∧ ∀ i, rfoot q' i → rfoot q i ∨ w.heap.size ≤ i := by
  cases ao with
  | some ad => exact wr_ref rfl h hlo hV a (some ad) L cap xs hat hx (by simp)
  | none =>
    obtain ⟨rfl, rfl⟩ := hnil rfl
    have s0 := h.shape.s0
    by_cases ha : 0 ≤ a ∧ a < (n : Int)
    · obtain ⟨i, rfl⟩ := Int.eq_ofNat_of_zero_le ha.1
      refine (rwrite_long rfl h i (by omega) none 0 0 (by omega)).mono ?_
      rintro e w' ⟨rfl, rfl⟩
      exact ⟨q, by rw [wcode, if_pos ha, if_neg (by omega)], rfl, h, rfl, by rw [wabs, if_pos ha, if_neg (by omega)], Kept.refl _ _, fun i e => .inl e⟩
    · refine (rwrite_bad rfl h a (by omega) _).mono ?_
      rintro e w' ⟨rfl, rfl⟩
      exact ⟨q, by rw [wcode, if_neg ha], rfl, h, rfl, by rw [wabs, if_neg ha], Kept.refl _ _, fun i e => .inl e⟩
set_option maxHeartbeats 1000000 in
theorem rdwrite_any (h : RDev w lo n size c s q) (hlo : lo ≤ w.heap.size) (hV : q.V.length ≤ 900000) (hc : s.cnt < 100000) (a : Int) (ao : Option Addr) (L cap : Nat) (xs : List Nat) (hat : At w ao xs) (hx : xs.length = L) (hnil : ao = none → L = 0 ∧ cap = 0) :
    Calls Try.prog 89 #[.pointer (some ⟨c, 0, none⟩), .int .i64 a, .slice ao L cap] w fun e w' => e = .returned (.int .i64 (s.code (wcode n size a L))) ∧ ∃ q', RDev w' lo n size c s.next q' ∧ RM w w' c q q' ∧ rst q' = (if s.goes then ((rst q).1, wabs n size a xs (rst q).2) else rst q) := by
  have H := hide (rmade_any h.dev hc)
  have HH := hide (And.intro h (And.intro hlo (And.intro hV (And.intro hat (And.intro hx hnil)))))
  unfold Dv.code
  clear h hlo hV hc hat hx hnil
  obtain ⟨g, hgo⟩ : ∃ g, g = s.goes := ⟨_, rfl⟩
  rw [← hgo] at H ⊢
  clear hgo
  generalize s.next = t at *
  cases g with
  | false =>
    go_enter Try.func89, Try.ntmps89
    go_wp2_with fail
    refine H.out.mono ?_
    rintro e w' ⟨rfl, h1, h2⟩
    have H2 := hide (And.intro h1 h2)
    clear h1 h2
    go_wp2
    go_ret
    exact ⟨rfl, q, HH.out.1.rset H2.out.2 H2.out.1, RM.row H2.out.2, rfl⟩
  | true =>
    simp only [if_true]
    go_enter Try.func89, Try.ntmps89
    go_wp2_with fail
    refine H.out.mono ?_
    rintro e w' ⟨rfl, h1, h2⟩
    have H2 := hide (And.intro h1 h2)
    have c0 := h1.c0
    clear h1 h2
    go_wp2_with fail
    have hd2 := HH.out.1.rset H2.out.2 H2.out.1
    refine (wr_ref2 hd2.ref (Nat.le_trans HH.out.2.1 H2.out.2.size) HH.out.2.2.1 a ao L cap xs (at_rdev HH.out.2.2.2.1 HH.out.1.dev H2.out.2) HH.out.2.2.2.2.1 HH.out.2.2.2.2.2).mono ?_
    rintro e w2 ⟨q2, rfl, g1, g2, g3, g4, g5, g6⟩
    have H3 := hide (And.intro (hd2.rsk g1 g2 g5) (And.intro ((RM.row (q := q) H2.out.2).trans (RM.of g1 g5 g6)) (And.intro g3 g4)))
    clear g1 g2 g3 g4 g5 g6 hd2
    go_wp2
    go_ret
    exact ⟨rfl, q2, H3.out.1, H3.out.2.1, by unfold rst; rw [H3.out.2.2.1, H3.out.2.2.2]⟩
set_option maxHeartbeats 1000000 in
theorem rdsync_any (h : RDev w lo n size c s q) (hV : q.V.length ≤ 900000) (hc : s.cnt < 100000) :
    Calls Try.prog 90 #[.pointer (some ⟨c, 0, none⟩)] w fun e w' => e = .returned (.int .i64 (s.code 0)) ∧ ∃ q', RDev w' lo n size c s.next q' ∧ RM w w' c q q' ∧ rst q' = (if s.goes then rsyncA size (rst q) else rst q) := by
  have H := hide (rmade_any h.dev hc)
  have HH := hide (And.intro h hV)
  unfold Dv.code
  clear h hV hc
  obtain ⟨g, hgo⟩ : ∃ g, g = s.goes := ⟨_, rfl⟩
  rw [← hgo] at H ⊢
  clear hgo
  generalize s.next = t at *
  cases g with
  | false =>
    go_enter Try.func90, Try.ntmps90
    go_wp2_with fail
    refine H.out.mono ?_
    rintro e w' ⟨rfl, h1, h2⟩
    have H2 := hide (And.intro h1 h2)
    clear h1 h2
    go_wp2
    go_ret
    exact ⟨rfl, q, HH.out.1.rset H2.out.2 H2.out.1, RM.row H2.out.2, rfl⟩
  | true =>
    simp only [if_true]
    go_enter Try.func90, Try.ntmps90
    go_wp2_with fail
    refine H.out.mono ?_
    rintro e w' ⟨rfl, h1, h2⟩
    have H2 := hide (And.intro h1 h2)
    have c0 := h1.c0
    clear h1 h2
    go_wp2_with fail
    have hd2 := HH.out.1.rset H2.out.2 H2.out.1
    refine (rsync_any rfl hd2.ref (by have := HH.out.2; omega)).mono ?_
    rintro e w2 ⟨q2, rfl, g1, g2, g3, g4, g5, g6⟩
    have H3 := hide (And.intro (hd2.rsk g1 g2 g5) (And.intro ((RM.row (q := q) H2.out.2).trans (RM.of g1 g5 (fun i hi => .inl (g6 i hi)))) (And.intro g3 g4)))
    clear g1 g2 g3 g4 g5 g6 hd2
    go_wp2
    go_ret
    exact ⟨rfl, q2, H3.out.1, H3.out.2.1, by unfold rst rsyncA; rw [H3.out.2.2.1, H3.out.2.2.2, absV_length]; rfl⟩
/-- Bytes that the document's device has told. -/
def RGives (w' : World) (size : Nat) (v : Value) (xs : List Nat) : Prop := (v = .slice none 0 0 ∧ xs = []) ∨ ∃ g cc, v = .slice (some ⟨g, 0, none⟩) size cc ∧ At w' (some ⟨g, 0, none⟩) xs ∧ xs.length = size
def rrbytes (n : Nat) (st : List (List Nat) × List Pr) (a : Int) : List Nat := if 0 ≤ a ∧ a < (n : Int) then finds st.2 st.1 a.toNat else []
theorem fold_mem (P : List Pr) (i : Nat) (r0 : Option (List Nat)) (y : List Nat) (h : P.foldl (fun r x => if i = x.1 then some x.2 else r) r0 = some y) : r0 = some y ∨ ∃ x ∈ P, x.2 = y := by
  induction P generalizing r0 with
  | nil => exact Or.inl h
  | cons x l ih =>
    rw [List.foldl_cons] at h
    rcases ih _ h with e | ⟨z, hz, e⟩
    · split at e
      · exact Or.inr ⟨x, by simp, Option.some.inj e⟩
      · exact Or.inl e
    · exact Or.inr ⟨z, by simp [hz], e⟩
theorem finds_len (h : RefAt w lo n size q) (i : Nat) (hi : i < n) : (finds (absV q.V) (q.S.map Bx.xs) i).length = size := by
  unfold finds
  cases hl : lastP (absV q.V) i with
  | some y =>
    rcases fold_mem _ _ _ _ hl with e | ⟨x, hx, e⟩
    · cases e
    · simp only [Option.getD_some]
      rw [absV, List.mem_map] at hx
      obtain ⟨z, hz, rfl⟩ := hx
      rw [← e]
      exact (h.wsz z hz).2
  | none =>
    have hl2 : i < q.S.length := by rw [h.len]; exact hi
    simp only [Option.getD_none, List.getElem?_map, List.getElem?_eq_getElem hl2, Option.map_some, Option.getD_some]
    exact h.sz _ (List.getElem_mem hl2)
theorem rrd_disk (h : RefAt w lo n size q) (hV : q.V.length ≤ 900000) (a : Int) : Calls Try.prog 124 #[.pointer (some ⟨q.r, 0, none⟩), .int .i64 a] w fun e w' =>
    ∃ v, e = .returned (.tuple #[v, .int .i64 (rcode n a)]) ∧ RGives w' size v (rrbytes n (rst q) a) ∧ w.grownBy w' none := by
  by_cases ha : 0 ≤ a ∧ a < (n : Int)
  · obtain ⟨i, rfl⟩ := Int.eq_ofNat_of_zero_le ha.1
    have hi : i < n := by omega
    refine (rread_any rfl h (by omega) i hi).mono ?_
    rintro e w' ⟨g, cc, rfl, h1, h2⟩
    refine ⟨_, by rw [rcode, if_pos ha], ?_, h2⟩
    rw [rrbytes, if_pos ha, Int.toNat_natCast]
    exact Or.inr ⟨g, cc, rfl, h1.at_, finds_len h i hi⟩
  · refine (rread_bad rfl h a (by omega)).mono ?_
    rintro e w' ⟨rfl, rfl⟩
    refine ⟨_, by rw [rcode, if_neg ha], ?_, grown_refl _ _⟩
    rw [rrbytes, if_neg ha]
    exact Or.inl ⟨rfl, rfl⟩
set_option maxHeartbeats 1000000 in
theorem rdread_any (h : RDev w lo n size c s q) (hV : q.V.length ≤ 900000) (hc : s.cnt < 100000) (a : Int) :
    Calls Try.prog 88 #[.pointer (some ⟨c, 0, none⟩), .int .i64 a] w fun e w' => ∃ v, e = .returned (.tuple #[v, .int .i64 (s.code (rcode n a))]) ∧ RGives w' size v (if s.goes then rrbytes n (rst q) a else []) ∧ RDev w' lo n size c s.next q ∧ RM w w' c q q := by
  have H := hide (rmade_any h.dev hc)
  have HH := hide (And.intro h hV)
  unfold Dv.code
  clear h hV hc
  obtain ⟨g, hgo⟩ : ∃ g, g = s.goes := ⟨_, rfl⟩
  rw [← hgo] at H ⊢
  clear hgo
  generalize s.next = t at *
  cases g with
  | false =>
    go_enter Try.func88, Try.ntmps88
    go_wp2_with fail
    refine H.out.mono ?_
    rintro e w' ⟨rfl, h1, h2⟩
    have H2 := hide (And.intro h1 h2)
    clear h1 h2
    go_wp2
    go_ret2
    exact ⟨_, rfl, Or.inl ⟨rfl, rfl⟩, HH.out.1.rset H2.out.2 H2.out.1, RM.row H2.out.2⟩
  | true =>
    simp only [if_true]
    go_enter Try.func88, Try.ntmps88
    go_wp2_with fail
    refine H.out.mono ?_
    rintro e w' ⟨rfl, h1, h2⟩
    have H2 := hide (And.intro h1 h2)
    have c0 := h1.c0
    clear h1 h2
    go_wp2_with fail
    have hd2 := HH.out.1.rset H2.out.2 H2.out.1
    refine (rrd_disk hd2.ref HH.out.2 a).mono ?_
    rintro e w2 ⟨v, rfl, g1, g2⟩
    have H3 := hide (And.intro g1 (And.intro (hd2.then g2) ((RM.row (q := q) H2.out.2).new g2)))
    clear g1 g2 hd2
    go_wp2
    go_ret2
    exact ⟨v, rfl, H3.out.1, H3.out.2.1, H3.out.2.2⟩
set_option maxHeartbeats 1000000 in
theorem rdrestart_any (h : RDev w lo n size c s q) (hV : q.V.length ≤ 900000) (fo : Option Addr) (m cap : Nat) (F : List (Int × Int)) (hm : F.length = m) (hm2 : m ≤ 140737488355328) (hF : FatesAt w fo F) (hfo : ∀ a, fo = some a → 0 < F.length → ¬ rfoot q a.block) :
    Calls Try.prog 24 #[.pointer (some ⟨c, 0, none⟩), .slice fo m cap] w fun e w' => e = .returned (.int .i64 0) ∧ ∃ q', RDev w' lo n size c Dv.anew q' ∧ RM w w' c q q' ∧ rst q' = rcrashA size F (rst q) := by
  have c0 := h.dev.c0
  have HH := hide (And.intro h (And.intro hV (And.intro hm (And.intro hm2 (And.intro hF hfo)))))
  clear h hV hm hm2 hF hfo
  go_enter Try.func24, Try.ntmps24
  go_wp2_with fail
  refine (rcrash_any rfl HH.out.1.ref (by have := HH.out.2.1; omega) fo m cap F HH.out.2.2.1 HH.out.2.2.2.1 HH.out.2.2.2.2.1 HH.out.2.2.2.2.2).mono ?_
  rintro e w2 ⟨q2, rfl, g1, g2, g3, g4, g5, g6⟩
  have H2 := hide (And.intro (HH.out.1.rsk g1 g2 g5) (And.intro (RM.of (c := c) g1 g5 (fun i hi => .inl (g6 i hi))) (And.intro g3 g4)))
  clear g1 g2 g3 g4 g5 g6
  have f1 := H2.out.1.dev.free 1
  have f2 := H2.out.1.dev.free 2
  have f3 := H2.out.1.dev.free 3
  have c1 := H2.out.1.dev.c1
  have c2 := H2.out.1.dev.c2
  have c3 := H2.out.1.dev.c3
  go_wp2
  go_ret
  have r1 := row_setCell H2.out.1.dev.head 1 (.bool false)
  have r2 := row_setCell r1 2 (.int .i64 (-1))
  have r3 := row_setCell r2 3 (.int .i64 0)
  have gg := grown_then (grown_then (grown_setCell w2 c 1 (.bool false)) (grown_setCell _ c 2 (.int .i64 (-1))) (fun j e => Or.inr e)) (grown_setCell _ c 3 (.int .i64 0)) (fun j e => Or.inr e)
  refine ⟨rfl, q2, H2.out.1.rset gg ⟨r3, ⟨by show (-1 : Int) ≤ -1; omega, by show (-1 : Int) ≤ _; omega, by show 0 ≤ _; omega⟩⟩, H2.out.2.1.trans (RM.row gg), ?_⟩
  unfold rst rcrashA
  rw [H2.out.2.2.1, H2.out.2.2.2, absV_length]
  rfl
set_option maxHeartbeats 1000000 in
theorem rdimage_any (h : RDev w lo n size c s q) : Calls Try.prog 27 #[.pointer (some ⟨c, 0, none⟩)] w fun e w' => ∃ ao cap, e = .returned (.slice ao n cap) ∧ ∃ S', RowAt w' w.heap.size (.slice ao n cap) S' ∧ S'.map Bx.xs = (rst q).1 ∧ w.grownBy w' none := by
  have c0 := h.dev.c0
  have HH := hide h.ref
  clear h
  go_enter Try.func27, Try.ntmps27
  go_wp2_with fail
  refine (rimage_row HH.out.rows HH.out.len.symm HH.out.c0 HH.out.shape.n1 (fun b hb => by rw [HH.out.sz b hb]; have := HH.out.shape.s0; have := HH.out.shape.s1; omega)).mono ?_
  rintro e w2 ⟨ao, cap, S', rfl, i1, i2, i3⟩
  have H2 := hide (And.intro i1 (And.intro i2 i3))
  clear i1 i2 i3
  go_wp2
  go_ret
  exact ⟨ao, cap, rfl, S', H2.out.1, H2.out.2.1, H2.out.2.2⟩
set_option maxHeartbeats 1000000 in
theorem rdnew_any (h : RefAt w lo n size q) (hlo : lo ≤ w.heap.size) : Calls Try.prog 54 #[.pointer (some ⟨q.r, 0, none⟩)] w fun e w' => ∃ c, e = .returned (.pointer (some ⟨c, 0, none⟩)) ∧ RDev w' lo n size c Dv.anew q ∧ w.heap.size ≤ c ∧ w.grownBy w' none := by
  have HH := hide (And.intro h hlo)
  clear h hlo
  go_enter Try.func54, Try.ntmps54
  go_wp2
  go_ret
  have g1 := World.grownBy_alloc w (.cells (rvcells q.r Dv.anew).toArray 104) none
  exact ⟨w.heap.size, rfl, ⟨HH.out.1.grown g1, ⟨heap_alloc_new w _, ⟨by show (-1 : Int) ≤ -1; omega, by show (-1 : Int) ≤ _; omega, by show 0 ≤ _; omega⟩⟩, HH.out.2⟩, Nat.le_refl _, g1⟩
theorem RefAt.mono {lo' : Nat} (h : RefAt w lo n size q) (hl : lo' ≤ lo) : RefAt w lo' n size q :=
  ⟨h.head, Nat.le_trans hl h.low, h.rows.mono hl, owns_mono h.wrow hl, fun x hx => (h.wat x hx).mono hl, h.nv, h.shape, h.len, h.sz, h.wsz⟩
end
end Go.Proofs.Ytnonghacjfgnmaa
/- A device beside the document's. -/

namespace Go.Proofs.Ytnonghacjfgnmaa
open Go.RowKit Ap

structure Px where
  b : Nat
  s : Dv
  k : Dk
  D : List Nat
  W : List Wt
  c : Nat
  t : Dv
  q : Rk
structure PxAt (w0 w : World) (n size : Nat) (p : Px) : Prop where
  dev : Dev w0 w n size p.b p.s p.k p.D p.W
  rd : RDev w w0.heap.size n size p.c p.t p.q
  ap : ∀ i, foot p.k p.W i → ¬ rfoot p.q i
/-- The blocks that it may write. -/
def Px.own (p : Px) (i : Nat) : Prop := p.k.own i ∨ rfoot p.q i ∨ i = p.b ∨ i = p.c
/-- The blocks that it looks at. -/
def Px.all (p : Px) (i : Nat) : Prop := foot p.k p.W i ∨ rfoot p.q i ∨ i = p.b ∨ i = p.c
structure PxM (w w' : World) (p p' : Px) : Prop where
  eb : p'.b = p.b
  ec : p'.c = p.c
  kd : p'.k.d = p.k.d
  own : ∀ i, p'.own i → p.own i ∨ w.heap.size ≤ i
  all : ∀ i, p'.all i → p.all i ∨ w.heap.size ≤ i
  kept : Kept w w' p.own
structure PxW (w0 w w' : World) (n size : Nat) (p p' : Px) : Prop where
  z : PxAt w0 w' n size p'
  mv : PxM w w' p p'
  low : w0.heap.size ≤ w.heap.size
/-- They hold the same. -/
structure PxSame (n size : Nat) (p : Px) : Prop where
  st : p.s = p.t
  rows : secs n size p.D = (rst p.q).1
  waits : abs p.W = (rst p.q).2
section
variable {w0 w w' w'' : World} {n size : Nat} {p p' : Px}
theorem PxAt.bq (h : PxAt w0 w n size p) : ¬ rfoot p.q p.b := h.rd.ref.other_off h.dev.dev.head (by decide) (by decide) (by decide) (by decide)
theorem PxAt.cf (h : PxAt w0 w n size p) : ¬ foot p.k p.W p.c := by
  rintro (e | ⟨x, hx, e⟩)
  · exact h.dev.disk.disk.other_off h.rd.dev.head (by decide) (by decide) (by decide) e
  · have h1 := (h.dev.disk.disk.waits x hx).2.2.2
    have h2 := h.rd.dev.head
    rw [← e, h1] at h2
    simp at h2
theorem PxAt.bc (h : PxAt w0 w n size p) : p.b ≠ p.c := by
  intro e
  have h1 := h.dev.dev.head
  rw [e, h.rd.dev.head] at h1
  simp at h1
theorem PxAt.lt (h : PxAt w0 w n size p) : ∀ i, p.all i → i < w.heap.size := by
  rintro i (e | e | rfl | rfl)
  · exact h.dev.disk.disk.lt i e
  · exact (h.rd.ref.lt i e).2
  · exact h.dev.dev.lt
  · exact h.rd.dev.lt
theorem PxAt.low (h : PxAt w0 w n size p) : ∀ i, p.own i → w0.heap.size ≤ i := by
  rintro i (e | e | rfl | rfl)
  · exact h.dev.disk.own i e
  · exact (h.rd.ref.lt i e).1
  · exact h.dev.low
  · exact h.rd.low
theorem Px.own_all {i : Nat} (h : p.own i) : p.all i := by
  rcases h with e | e | e | e
  · exact .inl (.inl e)
  · exact .inr (.inl e)
  · exact .inr (.inr (.inl e))
  · exact .inr (.inr (.inr e))
theorem PxAt.then (h : PxAt w0 w n size p) (hg : w.grownBy w' none) : PxAt w0 w' n size p := ⟨h.dev.then hg, h.rd.then hg, h.ap⟩
theorem PxAt.other (h : PxAt w0 w n size p) {S : Nat → Prop} (hk : Kept w w' S) (hS : ∀ i, p.all i → ¬ S i) (hl : ∀ i, S i → w0.heap.size ≤ i) : PxAt w0 w' n size p :=
  ⟨⟨⟨h.dev.disk.disk.kept hk (fun i hi => hS i (.inl hi)), h.dev.disk.own, kept_new h.dev.disk.grown hk hl⟩, h.dev.dev.kept hk (hS _ (.inr (.inr (.inl rfl)))), h.dev.low⟩, ⟨h.rd.ref.kept hk (fun i hi => hS i (.inr (.inl hi))), h.rd.dev.kept hk (hS _ (.inr (.inr (.inr rfl)))), h.rd.low⟩, h.ap⟩
theorem PxW.refl (h : PxAt w0 w n size p) : PxW w0 w w n size p p := ⟨h, ⟨rfl, rfl, rfl, fun _ e => .inl e, fun _ e => .inl e, Kept.refl _ _⟩, h.dev.disk.grown.size⟩
theorem PxW.new (h : PxW w0 w w' n size p p') (hg : w'.grownBy w'' none) : PxW w0 w w'' n size p p' :=
  ⟨h.z.then hg, ⟨h.mv.eb, h.mv.ec, h.mv.kd, h.mv.own, h.mv.all, h.mv.kept.trans (Kept.new hg _) (fun _ _ e => e)⟩, h.low⟩
/-- A block that came later is written. -/
theorem PxW.row {g : Nat} (h : PxW w0 w w' n size p p') (hg : w'.grownBy w'' (some g)) (hn : w.heap.size ≤ g) (h1 : ¬ p'.all g) : PxW w0 w w'' n size p p' := by
  have hk : Kept w' w'' (fun i => i = g) := Kept.of hg (fun _ e _ => (Option.some.inj e).symm)
  exact ⟨h.z.other hk (fun i hi e => by have e : i = g := e; exact h1 (e ▸ hi)) (fun i e => by have e : i = g := e; have := h.low; omega), ⟨h.mv.eb, h.mv.ec, h.mv.kd, h.mv.own, h.mv.all, h.mv.kept.trans hk (fun i hi e => by have e : i = g := e; omega)⟩, h.low⟩
/-- The device goes on. -/
theorem PxW.dev {s' : Dv} {k' : Dk} {D' : List Nat} {W' : List Wt} (h : PxW w0 w w' n size p p') (hd : Dev w0 w'' n size p'.b s' k' D' W') (hm : DvM w' w'' p'.b p'.k k' p'.W W') : PxW w0 w w'' n size p ⟨p'.b, s', k', D', W', p'.c, p'.t, p'.q⟩ := by
  have hz := h.mv.kept.size
  have hft : ∀ i, foot k' W' i → foot p'.k p'.W i ∨ w'.heap.size ≤ i := by
    rintro i (e | ⟨x, hx, rfl⟩)
    · exact (hm.own i e).imp .inl id
    · rcases hm.blk x hx with ⟨y, hy, e⟩ | e
      · exact Or.inl (.inr ⟨y, hy, e⟩)
      · exact Or.inr e
  have hnb : ¬ rfoot p'.q p'.b := h.z.bq
  have hcf : ¬ foot p'.k p'.W p'.c := h.z.cf
  have hbc : p'.b ≠ p'.c := h.z.bc
  refine ⟨⟨hd, ⟨h.z.rd.ref.kept hm.kept ?_, h.z.rd.dev.kept hm.kept ?_, h.z.rd.low⟩, ?_⟩, ⟨h.mv.eb, h.mv.ec, hm.d.trans h.mv.kd, ?_, ?_, h.mv.kept.trans hm.kept ?_⟩, h.low⟩
  · rintro i hi (e | e)
    · exact h.z.ap i (.inl e) hi
    · have e : i = p'.b := e
      exact hnb (e ▸ hi)
  · rintro (e | e)
    · exact hcf (.inl e)
    · exact hbc e.symm
  · intro i hi hr
    rcases hft i hi with e | e
    · exact h.z.ap i e hr
    · have := (h.z.rd.ref.lt i hr).2; omega
  · rintro i (e | e | e | e)
    · rcases hm.own i e with e | e
      · exact h.mv.own i (.inl e)
      · exact Or.inr (by omega)
    · exact h.mv.own i (.inr (.inl e))
    · exact h.mv.own i (.inr (.inr (.inl e)))
    · exact h.mv.own i (.inr (.inr (.inr e)))
  · rintro i (e | e | e | e)
    · rcases hft i e with e | e
      · exact h.mv.all i (.inl e)
      · exact Or.inr (by omega)
    · exact h.mv.all i (.inr (.inl e))
    · exact h.mv.all i (.inr (.inr (.inl e)))
    · exact h.mv.all i (.inr (.inr (.inr e)))
  · rintro i hi (e | e)
    · rcases h.mv.own i (.inl e) with e | e
      · exact e
      · omega
    · rcases h.mv.own i (.inr (.inr (.inl e))) with e | e
      · exact e
      · omega
/-- The document's device goes on. -/
theorem PxW.ref {t' : Dv} {q' : Rk} (h : PxW w0 w w' n size p p') (hq : RDev w'' w0.heap.size n size p'.c t' q') (hm : RM w' w'' p'.c p'.q q') : PxW w0 w w'' n size p ⟨p'.b, p'.s, p'.k, p'.D, p'.W, p'.c, t', q'⟩ := by
  have hz := h.mv.kept.size
  have hnb : ¬ rfoot p'.q p'.b := h.z.bq
  have hcf : ¬ foot p'.k p'.W p'.c := h.z.cf
  have hbc : p'.b ≠ p'.c := h.z.bc
  have hl : ∀ i, rfoot p'.q i ∨ i = p'.c → w0.heap.size ≤ i := by
    rintro i (e | rfl)
    · exact (h.z.rd.ref.lt i e).1
    · exact h.z.rd.low
  have hno : ∀ i, foot p'.k p'.W i → ¬ (rfoot p'.q i ∨ i = p'.c) := by
    rintro i hi (e | e)
    · exact h.z.ap i hi e
    · exact hcf (e ▸ hi)
  refine ⟨⟨⟨⟨h.z.dev.disk.disk.kept hm.kept hno, h.z.dev.disk.own, kept_new h.z.dev.disk.grown hm.kept hl⟩, h.z.dev.dev.kept hm.kept ?_, h.z.dev.low⟩, hq, ?_⟩, ⟨h.mv.eb, h.mv.ec, h.mv.kd, ?_, ?_, h.mv.kept.trans hm.kept ?_⟩, h.low⟩
  · rintro (e | e)
    · exact hnb e
    · exact hbc e
  · intro i hi e
    rcases hm.rf i e with e | e
    · exact h.z.ap i hi e
    · have := h.z.dev.disk.disk.lt i hi; omega
  · rintro i (e | e | e | e)
    · exact h.mv.own i (.inl e)
    · rcases hm.rf i e with e | e
      · exact h.mv.own i (.inr (.inl e))
      · exact Or.inr (by omega)
    · exact h.mv.own i (.inr (.inr (.inl e)))
    · exact h.mv.own i (.inr (.inr (.inr e)))
  · rintro i (e | e | e | e)
    · exact h.mv.all i (.inl e)
    · rcases hm.rf i e with e | e
      · exact h.mv.all i (.inr (.inl e))
      · exact Or.inr (by omega)
    · exact h.mv.all i (.inr (.inr (.inl e)))
    · exact h.mv.all i (.inr (.inr (.inr e)))
  · rintro i hi (e | e)
    · rcases h.mv.own i (.inr (.inl e)) with e | e
      · exact e
      · omega
    · rcases h.mv.own i (.inr (.inr (.inr e))) with e | e
      · exact e
      · omega
theorem PxSame.len (h : PxSame n size p) : p.q.V.length = p.W.length := by
  have := congrArg List.length h.waits
  simpa [abs, rst, absV] using this.symm
end
end Go.Proofs.Ytnonghacjfgnmaa
/- A device, both ways, over a few sectors. -/
namespace Go.Proofs.Ytnonghacjfgnmaa
open Go.RowKit Ap
attribute [local go_sem ↓] Go.wp_at_zero Go.wp_at_succ

def nOf (x : Int) : Nat := (1 + x % 9).toNat
def szOf (z : Int) : Nat := if z % 2 = 0 then 64 else 128
theorem nOf_pos (x : Int) : 1 ≤ nOf x ∧ nOf x ≤ 9 := by unfold nOf; omega
theorem szOf_is (z : Int) : szOf z = 64 ∨ szOf z = 128 := by unfold szOf; split <;> simp
theorem may_small (N SZ : Nat) (h1 : 1 ≤ N) (h2 : N ≤ 9) (h3 : SZ = 64 ∨ SZ = 128) : mayB (N : Int) (SZ : Int) = true := by
  rw [mayB_iff]
  rcases h3 with rfl | rfl
  · exact ⟨by omega, by omega, by omega, by omega, by decide, by omega⟩
  · exact ⟨by omega, by omega, by omega, by omega, by decide, by omega⟩
theorem wrap_n (x : Int) : 1 + x % 9 = (nOf x : Int) := by unfold nOf; omega
theorem wrap_sz (z : Int) : wrap64 (64 * 2 ^ (z % 2).toNat) = (szOf z : Int) := by
  have : z % 2 = 0 ∨ z % 2 = 1 := by omega
  unfold szOf
  rcases this with h | h
  · rw [h]; simp [wrap64]
  · rw [h]; simp [wrap64]
theorem secs_zs (n size : Nat) : secs n size (zs (n * size)) = List.replicate n (zs size) := by
  apply List.ext_getElem?
  intro i
  by_cases hi : i < n
  · rw [secs_get _ _ _ _ hi, zs_sec n size i hi, List.getElem?_replicate, if_pos hi]
  · rw [List.getElem?_eq_none (by rw [secs_length]; omega), List.getElem?_eq_none (by simp; omega)]
def Freshed (w0 w w' : World) (N SZ : Nat) (p : Px) : Prop :=
  PxAt w0 w' N SZ p ∧ PxSame N SZ p ∧ (p.W = [] ∧ p.q.V = [] ∧ p.s = Dv.anew ∧ p.t = Dv.anew ∧ p.D = zs (N * SZ)) ∧ (∀ i, p.all i → w.heap.size ≤ i) ∧ w.grownBy w' none
set_option maxRecDepth 20000 in
set_option maxHeartbeats 8000000 in
theorem device_any (w0 w : World) (x z : Int) (hg : w0.grownBy w none) : Calls Try.prog 15 #[.int .i64 x, .int .i64 z] w fun e w' => ∃ p : Px, e = .returned (.tuple #[.pointer (some ⟨p.b, 0, none⟩), .pointer (some ⟨p.c, 0, none⟩), .bool true]) ∧ Freshed w0 w w' (nOf x) (szOf z) p := by
  have HP : Hid (∀ w, Calls Try.prog 31 #[.int .i64 x, .int .i64 9] w fun e w' => e = .returned (.int .i64 (x % 9)) ∧ w' = w) := fun w => pick_any x 9 9 w rfl (by omega) (by omega)
  have HQ : Hid (∀ w, Calls Try.prog 31 #[.int .i64 z, .int .i64 2] w fun e w' => e = .returned (.int .i64 (z % 2)) ∧ w' = w) := fun w => pick_any z 2 2 w rfl (by omega) (by omega)
  have HWN := hide (wrap_n x)
  have HWZ := hide (wrap_sz z)
  have MB := hide (may_small (nOf x) (szOf z) (nOf_pos x).1 (nOf_pos x).2 (szOf_is z))
  generalize nOf x = N at *
  generalize szOf z = SZ at *
  have p1 : 0 ≤ x % 9 := by omega
  have p2 : x % 9 < 9 := by omega
  have p3 : 0 ≤ z % 2 := by omega
  have p4 : z % 2 < 2 := by omega
  generalize x % 9 = xx at *
  generalize z % 2 = zz at *
  have G0 := hide hg
  clear hg
  go_enter Try.func15, Try.ntmps15
  go_wp2_with fail
  refine (HP.out _).mono ?_
  rintro e w' ⟨rfl, rfl⟩
  go_wp2_with fail
  refine (HQ.out _).mono ?_
  rintro e w' ⟨rfl, rfl⟩
  go_wp2_with fail
  rw [HWN.out, HWZ.out]
  refine (newS N SZ w0 w' G0.out MB.out).mono ?_
  rintro e w2 ⟨k, rfl, u2, g2, l2⟩
  have U2 := hide (And.intro u2 (And.intro g2 l2))
  clear u2 g2 l2
  go_wp2_with fail
  refine (dnew_any rfl U2.out.1).mono ?_
  rintro e w3 ⟨b, rfl, d3, l3, g3⟩
  have D3 := hide (And.intro d3 (And.intro l3 g3))
  clear d3 l3 g3
  go_wp2_with fail
  refine (rnew_any N SZ w3 MB.out).mono ?_
  rintro e w4 ⟨q, rfl, r4, s4, v4, g4⟩
  have R4 := hide (And.intro r4 (And.intro s4 (And.intro v4 g4)))
  clear r4 s4 v4 g4
  go_wp2_with fail
  refine (rdnew_any (R4.out.1.mono (lo' := w0.heap.size) D3.out.1.disk.grown.size) (Nat.le_trans D3.out.1.disk.grown.size R4.out.2.2.2.size)).mono ?_
  rintro e w5 ⟨c, rfl, d5, l5, g5⟩
  have D5 := hide (And.intro d5 (And.intro l5 g5))
  clear d5 l5 g5
  go_wp2
  go_ret3
  have z2 := U2.out.2.1.size
  have z3 := D3.out.2.2.size
  have z4 := R4.out.2.2.2.size
  have g25 : w2.grownBy w5 none := grown_trans (grown_trans D3.out.2.2 R4.out.2.2.2) D5.out.2.2
  have g35 : w3.grownBy w5 none := grown_trans R4.out.2.2.2 D5.out.2.2
  have lk : ∀ i, foot k [] i → w'.heap.size ≤ i ∧ i < w2.heap.size := by
    rintro i (e | ⟨y, hy, _⟩)
    · exact ⟨U2.out.2.2 i e, U2.out.1.disk.lt i (.inl e)⟩
    · cases hy
  have lq : ∀ i, rfoot q i → w3.heap.size ≤ i := fun i e => (R4.out.1.lt i e).1
  have lb : w2.heap.size ≤ b := D3.out.2.1
  have lc : w4.heap.size ≤ c := D5.out.2.1
  have hz : PxAt w0 w5 N SZ ⟨b, Dv.anew, k, zs (N * SZ), [], c, Dv.anew, q⟩ := ⟨D3.out.1.then g35, D5.out.1, fun i h1 h2 => by have := lk i h1; have := lq i h2; omega⟩
  have hall : ∀ i, Px.all ⟨b, Dv.anew, k, zs (N * SZ), [], c, Dv.anew, q⟩ i → w'.heap.size ≤ i := by
    rintro i (e | e | e | e)
    · exact (lk i e).1
    · have := lq i e; omega
    · have e : i = b := e
      omega
    · have e : i = c := e
      omega
  refine ⟨⟨b, Dv.anew, k, zs (N * SZ), [], c, Dv.anew, q⟩, rfl, hz, ⟨rfl, ?_, ?_⟩, ⟨rfl, R4.out.2.2.1, rfl, rfl, rfl⟩, hall, grown_trans U2.out.2.1 g25⟩
  · show secs N SZ (zs (N * SZ)) = (rst q).1
    rw [secs_zs]; exact R4.out.2.1.symm
  · show abs [] = (rst q).2
    rw [rst, R4.out.2.2.1]; rfl
end Go.Proofs.Ytnonghacjfgnmaa
