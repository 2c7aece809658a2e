import Derived.Test.YtjfhilignbeboaaGreatDoorJuLp0
import Derived.Test.YtjfhilignbeboaaGreatDoorJuAx
namespace Go.Proofs.YtjfhilignbeboaaGreatDoor
/- The law CasesApply: what is decided, seen from the book; two books side by side. -/
open Go.RowKit
theorem del_len {L : List Bg} (h : AscB L) {i : Nat} (hi : (fnd L i).isSome = true) : (del L i).length + 1 = L.length := by
  induction L with
  | nil => cases hi
  | cons x l ih =>
    obtain ⟨h1, h2⟩ := List.pairwise_cons.1 h
    by_cases hx : x.i = i
    · have e : del (x :: l) i = l := by
        unfold del
        rw [List.filter_cons_of_neg (by simp [hx])]
        refine List.filter_eq_self.2 (fun y hy => ?_)
        have := h1 y hy
        have : y.i ≠ i := by omega
        simpa using this
      rw [e]; rfl
    · have e : del (x :: l) i = x :: del l i := by unfold del; rw [List.filter_cons_of_pos (by simpa using hx)]
      rw [e, List.length_cons, List.length_cons, ih h2 ?_]
      unfold fnd at hi ⊢
      rw [List.find?_cons_of_neg (by simpa using hx)] at hi
      exact hi
/-- A change is done: its record, its reply. -/
structure Did (S : Sb) (q : Rs.Rq) (r : Rc) (y : Rt.Ry) : Prop where
  yc : Rt.chk y = 0
  rc : Rk.chk r = 0
  ae : appE S r = 0
  rp : rpY q r = y
  rok : r.Ok
  yok : y.Ok
/-- What stands behind it. -/
def Beh (S : Sb) (q : Rs.Rq) (r : Rc) (y : Rt.Ry) : Prop :=
  (q.k = 1 ∧ r = ⟨1, (S.n : Int), q.s, S.t + q.u, 0⟩ ∧ y = ⟨q.t, 1, 0, (S.n : Int), 0, S.t + q.u, 0⟩ ∧ fnd (app S r).L S.n = some ⟨S.n, q.s.toNat, S.t + q.u⟩ ∧ (app S r).L.length = S.L.length + 1)
  ∨ (q.k = 2 ∧ r = ⟨2, q.i, 0, 0, 0⟩ ∧ y = ⟨q.t, 2, 0, 0, 0, 0, 0⟩ ∧ (∃ x, fnd (app S r).L q.i.toNat = some x ∧ x.u = 0) ∧ (app S r).L.length = S.L.length)
  ∨ (q.k = 3 ∧ r = ⟨3, q.i, 0, 0, 0⟩ ∧ y = ⟨q.t, 3, 0, 0, 0, 0, 0⟩ ∧ fnd (app S r).L q.i.toNat = none ∧ (app S r).L.length + 1 = S.L.length)
  ∨ (q.k = 4 ∧ r = ⟨4, q.i, q.s, 0, 0⟩ ∧ y = ⟨q.t, 4, 0, 0, q.s, 0, 0⟩ ∧ ∃ x, fnd (app S r).L q.i.toNat = some x ∧ x.s = q.s.toNat)
  ∨ (q.k = 7 ∧ r = ⟨5, 0, 0, 0, S.t + q.u⟩ ∧ y = ⟨q.t, 7, 0, 0, 0, S.t + q.u, 0⟩ ∧ (app S r).t = S.t + q.u)
theorem fnd_last {L : List Bg} {x : Bg} (h : ∀ y ∈ L, y.i ≠ x.i) : fnd (L ++ [x]) x.i = some x := by
  unfold fnd
  rw [List.find?_append, List.find?_eq_none.2 (fun y hy => by simpa using h y hy)]
  simp
theorem beh_of {S : Sb} {q : Rs.Rq} (ho : S.Ok) (hf : Few q) (hc : isChg q) (ha : appE S (recQ S q) = 0) : Beh S q (recQ S q) (rpY q (recQ S q)) := by
  obtain ⟨hk, hi, hs, hu, hi0⟩ := hf
  unfold Beh
  rw [app_yes ha]
  rcases chg_kinds hc with hq | hq | hq | hq | hq
  · have hr : recQ S q = ⟨1, (S.n : Int), q.s, S.t + q.u, 0⟩ := by unfold recQ; rw [if_pos hq]
    refine Or.inl ⟨hq, hr, ?_, ?_, ?_⟩
    · rw [hr]; unfold rpY; simp [hq]
    · rw [hr]
      unfold appS
      simp only [if_true]
      rw [Int.toNat_natCast]
      exact fnd_last (fun y hy => by have := ho.id y hy; simp only; omega)
    · rw [hr]; unfold appS; simp
  · have hr : recQ S q = ⟨2, q.i, 0, 0, 0⟩ := by unfold recQ; rw [if_neg (by omega), if_pos hq]
    rw [hr] at ha ⊢
    have hs1 : (fnd S.L q.i.toNat).isSome = true := by
      unfold appE at ha
      split at ha
      · cases ha
      · simp only at ha
        rw [if_neg (by decide), if_pos (by decide)] at ha
        split at ha
        · assumption
        · cases ha
    obtain ⟨x, hx⟩ := Option.isSome_iff_exists.1 hs1
    obtain ⟨hx1, hx2⟩ := (fnd_some ho.asc).1 hx
    refine Or.inr (Or.inl ⟨hq, rfl, ?_, ⟨{ x with u := 0 }, ?_, rfl⟩, ?_⟩)
    · unfold rpY; simp [hq]
    · unfold appS
      simp only
      rw [if_neg (by decide), if_pos trivial, hx]
      simp only [Option.elim_some]
      rw [fnd_upd ho.asc hx1 (y := { x with u := 0 }) rfl, if_pos hx2.symm]
    · unfold appS
      simp only
      rw [if_neg (by decide), if_pos trivial, hx]
      simp only [Option.elim_some]
      exact upd_length _ _ _
  · have hr : recQ S q = ⟨3, q.i, 0, 0, 0⟩ := by unfold recQ; rw [if_neg (by omega), if_neg (by omega), if_pos hq]
    rw [hr] at ha ⊢
    have hs1 : (fnd S.L q.i.toNat).isSome = true := by
      unfold appE at ha
      split at ha
      · cases ha
      · simp only at ha
        rw [if_neg (by decide), if_pos (by decide)] at ha
        split at ha
        · assumption
        · cases ha
    refine Or.inr (Or.inr (Or.inl ⟨hq, rfl, ?_, ?_, ?_⟩))
    · unfold rpY; simp [hq]
    · unfold appS
      simp only
      rw [if_neg (by decide), if_neg (by decide), if_pos trivial]
      exact fnd_none.2 (fun x hx => (del_mem.1 hx).2)
    · unfold appS
      simp only
      rw [if_neg (by decide), if_neg (by decide), if_pos trivial]
      exact del_len ho.asc hs1
  · have hr : recQ S q = ⟨4, q.i, q.s, 0, 0⟩ := by unfold recQ; rw [if_neg (by omega), if_neg (by omega), if_neg (by omega), if_pos hq]
    rw [hr] at ha ⊢
    have hs1 : ∃ x, fnd S.L q.i.toNat = some x := by
      unfold appE at ha
      split at ha
      · cases ha
      · simp only at ha
        rw [if_neg (by decide), if_neg (by decide), if_pos trivial, reseatE_zero] at ha
        obtain ⟨x, hx, -⟩ := ha
        exact ⟨x, hx⟩
    obtain ⟨x, hx⟩ := hs1
    obtain ⟨hx1, hx2⟩ := (fnd_some ho.asc).1 hx
    refine Or.inr (Or.inr (Or.inr (Or.inl ⟨hq, rfl, ?_, { x with s := q.s.toNat }, ?_, rfl⟩)))
    · unfold rpY; simp [hq]
    · unfold appS
      simp only
      rw [if_neg (by decide), if_neg (by decide), if_neg (by decide), if_pos trivial, hx]
      simp only [Option.elim_some]
      rw [fnd_upd ho.asc hx1 (y := { x with s := q.s.toNat }) rfl, if_pos hx2.symm]
  · have hr : recQ S q = ⟨5, 0, 0, 0, S.t + q.u⟩ := by unfold recQ; rw [if_neg (by omega), if_neg (by omega), if_neg (by omega), if_neg (by omega)]
    rw [hr]
    refine Or.inr (Or.inr (Or.inr (Or.inr ⟨hq, rfl, ?_, ?_⟩)))
    · unfold rpY; simp [hq]
    · unfold appS
      simp only
      rw [if_neg (by decide), if_neg (by decide), if_neg (by decide), if_neg (by decide)]
/-- What Decide comes to. -/
theorem dec_cases {S : Sb} {q : Rs.Rq} (ho : S.Ok) (hf : Few q) (hm : q.May) (hq : q.Ok) (room : Int) :
    (dec S room q = ⟨⟨0, 0, 0, 0, 0⟩, ⟨0, 0, 0, 0, 0, 0, 0⟩, false, 200⟩ ∧ (q.k = 5 ∨ q.k = 6 ∨ 8 ≤ q.k))
    ∨ (∃ e, dec S room q = ⟨⟨0, 0, 0, 0, 0⟩, ⟨q.t, q.k, e, 0, 0, 0, 0⟩, false, 0⟩ ∧ Why S q room e ∧ e ≠ 0 ∧ Rt.chk ⟨q.t, q.k, e, 0, 0, 0, 0⟩ = 0 ∧ Rt.Ry.Ok ⟨q.t, q.k, e, 0, 0, 0, 0⟩)
    ∨ (∃ r y, dec S room q = ⟨r, y, true, 0⟩ ∧ Did S q r y ∧ Beh S q r y) := by
  by_cases hc : isChg q
  · by_cases h0 : refE S room q = 0
    · refine Or.inr (Or.inr ⟨recQ S q, rpY q (recQ S q), dec_yes hc h0, ?_, ?_⟩)
      · have hF := fin_of ho hf hc h0
        have hn1 := ho.n1
        have ht0 := ho.t0
        have ht1 : S.t ≤ 1099511627776 := ho.t1
        obtain ⟨hk, hi, hs, hu, hi0⟩ := hf
        have ht := hq.t0
        have ht' := hq.t1
        refine ⟨hF.y, hF.r, hF.a, rfl, ?_, ?_⟩
        · unfold recQ
          repeat' split
          all_goals (refine ⟨?_, ?_, ?_, ?_, ?_, ?_, ?_, ?_, ?_, ?_⟩ <;> simp only <;> omega)
        · unfold rpY recQ
          rcases chg_kinds hc with h | h | h | h | h
          all_goals (simp only [h]; refine ⟨?_, ?_, ?_, ?_, ?_, ?_, ?_, ?_, ?_, ?_, ?_, ?_, ?_, ?_⟩ <;> simp <;> omega)
      · exact beh_of ho hf hc (fin_of ho hf hc h0).a
    · have hw := why_ref (q := q) (room := room) ho h0
      have he := why_few hw
      refine Or.inr (Or.inl ⟨refE S room q, dec_ref hc h0, hw, h0, rf_may hf.k he, ?_⟩)
      obtain ⟨hk, hi, hs, hu, hi0⟩ := hf
      exact ⟨hq.t0, hq.t1, hq.k0, hq.k1, by simp only; omega, by simp only; omega, by simp only; omega, by simp only; omega, by simp only; omega, by simp only; omega, by simp only; omega, by simp only; omega, by simp only; omega, by simp only; omega⟩
  · refine Or.inl ⟨dec_no hc, ?_⟩
    have h1 : ¬ (Rs.chg q.k = true) := fun h => hc ⟨hm, h⟩
    unfold Rs.chg at h1
    have h2 : ¬ (q.k = 1 ∨ q.k = 2 ∨ q.k = 3 ∨ q.k = 4 ∨ q.k = 7) := fun h => h1 (decide_eq_true h)
    have := hf.k
    omega
/-- Two books side by side, and boxes. -/
structure Lt (w W : World) (b c : Nat) (S T : Sb) (K : Nat) (p q : Bp) (Bs : List (Nat × List Value × TypeId)) : Prop where
  lk : Lk w W b S K p Bs
  cp : Lk w W c T 4096 q Bs
  pq : ∀ i, p.own i → ¬ q.own i
section
variable {w W W' : World} {b c : Nat} {S T : Sb} {K : Nat} {p q : Bp} {Bs Cs : List (Nat × List Value × TypeId)}
theorem Lt.then (h : Lt w W b c S T K p q Bs) (g : W.grownBy W' none) : Lt w W' b c S T K p q Bs := ⟨h.lk.then g, h.cp.then g, h.pq⟩
theorem Lt.box (h : Lt w W b c S T K p q Bs) (cs : List Value) (ty : TypeId) : Lt w (W.alloc (.cells cs.toArray ty)) b c S T K p q ((W.heap.size, cs, ty) :: Bs) := ⟨h.lk.box cs ty, h.cp.box cs ty, h.pq⟩
theorem Lt.box2 (h : Lt w W b c S T K p q Bs) (cs ds : List Value) (s t : TypeId) : Lt w ((W.alloc (.cells cs.toArray s)).alloc (.cells ds.toArray t)) b c S T K p q ((W.heap.size + 1, ds, t) :: (W.heap.size, cs, s) :: Bs) := ⟨h.lk.box2 cs ds s t, h.cp.box2 cs ds s t, h.pq⟩
theorem Lt.sub (h : Lt w W b c S T K p q Bs) (hs : ∀ x ∈ Cs, x ∈ Bs) : Lt w W b c S T K p q Cs := ⟨h.lk.sub hs, h.cp.sub hs, h.pq⟩
theorem Lt.go (h : Lt w W b c S T K p q Bs) (k : Kept W W' p.own) (hb : BkAt W' p S K) : Lt w W' b c S T K p q Bs := ⟨h.lk.step (Bst.keep k) hb, h.cp.other k h.lk.own h.pq (fun y hy => (h.lk.bx y hy).2.1), h.pq⟩
theorem Lt.decide (h : Lt w W b c S T 4096 p q Bs) (ho : S.Ok) (hT : Rk.Tab w) (room : Int) (Q : Rs.Rq) (hq : Q.Ok) : Calls Tryz.prog 9 #[.pointer (some ⟨b, 0, none⟩), .int .i64 room, Rs.rqV Q] W fun e w' => e = .returned (dcV (dec S room Q)) ∧ Lt w w' b c S T 4096 p q Bs := by
  have := decide_any h.lk.bk ho room Q hq (hT.grown h.lk.gr (by simp))
  rw [h.lk.eb] at this
  exact this.mono (fun _ _ x => ⟨x.1, h.go x.2.st x.2.bk⟩)
theorem Lt.same (h : Lt w W b c S S K p q Bs) (ho : S.Ok) : Calls Tryz.prog 16 #[.pointer (some ⟨b, 0, none⟩), .pointer (some ⟨c, 0, none⟩)] W fun e w' => e = .returned (.bool true) ∧ Lt w w' b c S S K p q Bs :=
  (h.lk.same h.cp ho.wk).mono (fun _ _ x => ⟨x.1, h.then x.2⟩)
theorem Lt.apply (h : Lt w W b c S T 4096 p q Bs) (ho : S.Ok) (hT : Rk.Tab w) (r : Rc) (hr : r.Ok) : Calls Tryz.prog 24 #[.pointer (some ⟨b, 0, none⟩), Rk.rcV r] W fun e w' => e = .returned (.int .i64 (appE S r)) ∧ ∃ p', Lt w w' b c (app S r) T 4097 p' q Bs := by
  refine (h.lk.apply ho (by omega) hT r hr).mono ?_
  rintro e w' ⟨rfl, p', h1, k⟩
  obtain ⟨h2, h3⟩ := h.cp.beside h.lk (fun i hi e => h.pq i e hi) k
  exact ⟨rfl, p', h1, h2, fun i hi e => h3 i e hi⟩
theorem Lt.get (h : Lt w W b c S T K p q Bs) (hw : S.Wk) (k : Nat) (hk : k < 4294967296) : Calls Tryz.prog 25 #[.pointer (some ⟨b, 0, none⟩), .int .u32 (k : Int)] W fun e w' => e = .returned (.tuple #[bgV ((fnd S.L k).getD ⟨0, 0, 0⟩), .int .i64 (if (fnd S.L k).isSome then 0 else 171)]) ∧ Lt w w' b c S T K p q Bs := by
  have := get_any h.lk.bk hw k hk; rw [h.lk.eb] at this
  exact this.mono (fun _ _ x => ⟨x.1, h.go x.2.2 x.2.1⟩)
theorem Lt.len (h : Lt w W b c S T K p q Bs) : Calls Tryz.prog 27 #[.pointer (some ⟨b, 0, none⟩)] W fun e w' => e = .returned (.int .i64 (S.L.length : Int)) ∧ Lt w w' b c S T K p q Bs := h.lk.len.mono (fun _ _ x => ⟨x.1, by rw [x.2]; exact h⟩)
theorem Lt.lenC (h : Lt w W b c S T K p q Bs) : Calls Tryz.prog 27 #[.pointer (some ⟨c, 0, none⟩)] W fun e w' => e = .returned (.int .i64 (T.L.length : Int)) ∧ Lt w w' b c S T K p q Bs := h.cp.len.mono (fun _ _ x => ⟨x.1, by rw [x.2]; exact h⟩)
theorem Lt.nextC (h : Lt w W b c S T K p q Bs) : Calls Tryz.prog 26 #[.pointer (some ⟨c, 0, none⟩)] W fun e w' => e = .returned (.int .u32 (T.n : Int)) ∧ Lt w w' b c S T K p q Bs := h.cp.next.mono (fun _ _ x => ⟨x.1, by rw [x.2]; exact h⟩)
theorem Lt.clock (h : Lt w W b c S T K p q Bs) : Calls Tryz.prog 28 #[.pointer (some ⟨b, 0, none⟩)] W fun e w' => e = .returned (.int .i64 S.t) ∧ Lt w w' b c S T K p q Bs := h.lk.clock.mono (fun _ _ x => ⟨x.1, by rw [x.2]; exact h⟩)
theorem Lt.clockC (h : Lt w W b c S T K p q Bs) : Calls Tryz.prog 28 #[.pointer (some ⟨c, 0, none⟩)] W fun e w' => e = .returned (.int .i64 T.t) ∧ Lt w w' b c S T K p q Bs := h.cp.clock.mono (fun _ _ x => ⟨x.1, by rw [x.2]; exact h⟩)
end
end Go.Proofs.YtjfhilignbeboaaGreatDoor
