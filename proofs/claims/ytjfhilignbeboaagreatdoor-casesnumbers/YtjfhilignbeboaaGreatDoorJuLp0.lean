import Derived.Test.YtjfhilignbeboaaGreatDoorJuAm
import Derived.Test.YtjfhilignbeboaaGreatDoorJuAn
import Derived.Test.YtjfhilignbeboaaGreatDoorJuAc
namespace Go.Proofs.YtjfhilignbeboaaGreatDoor
/- The law CasesApply: numbers alone. -/
theorem fstE_mem {l : List Int} (h : fstE l ≠ 0) : fstE l ∈ l := by
  induction l with
  | nil => exact absurd rfl h
  | cons a l ih =>
    by_cases ha : a = 0
    · subst ha
      rw [fstE_cons_ok] at h ⊢
      exact List.mem_cons_of_mem _ (ih h)
    · rw [fstE_cons_no ha]
      exact List.mem_cons_self ..
theorem fstE_all {l : List Int} (h : fstE l = 0) : ∀ x ∈ l, x = 0 := by
  induction l with
  | nil => intro x hx; cases hx
  | cons a l ih =>
    by_cases ha : a = 0
    · subst ha
      rw [fstE_cons_ok] at h
      intro x hx
      rcases List.mem_cons.1 hx with rfl | hx
      · rfl
      · exact ih h x hx
    · rw [fstE_cons_no ha] at h
      exact absurd h ha
/-- Why a change is refused. -/
def Why (S : Sb) (q : Rs.Rq) (room e : Int) : Prop := (e = 140 ∧ atE S q.s = 140) ∨ (e = 2 ∧ (q.u < 1 ∨ 1073741824 < q.u)) ∨ (e = 172 ∧ 1099511627776 < S.t + q.u) ∨ (e = 170 ∧ atE S q.s = 0 ∧ ((atX S q.s).i : Int) ≠ q.i) ∨ (e = 6 ∧ (S.L.length = S.b ∨ S.n = 4294967295)) ∨ (e = 171 ∧ (fnd S.L q.i.toNat).isSome = false) ∨ (e = 220 ∧ room < 37)
section
variable {S : Sb} {q : Rs.Rq} {room e k : Int}
theorem why_st (h : e = stE S q) (h0 : e ≠ 0) : Why S q room e := by
  unfold stE at h
  split at h
  · exact absurd h h0
  · rename_i hs
    refine Or.inl ⟨h, ?_⟩
    unfold atE
    rw [if_neg (fun x => hs x.2)]
theorem why_tt (h : e = ttE q) (h0 : e ≠ 0) : Why S q room e := by
  unfold ttE mxT at h
  split at h
  · exact absurd h h0
  · exact Or.inr (Or.inl ⟨h, by omega⟩)
theorem why_cl (h : e = clE S q) (h0 : e ≠ 0) : Why S q room e := by
  unfold clE mxC at h
  split at h
  · rename_i hs; exact Or.inr (Or.inr (Or.inl ⟨h, hs⟩))
  · exact absurd h h0
theorem why_fr (h : e = frE S q) (h0 : e ≠ 0) : Why S q room e := by
  unfold frE at h
  split at h
  · rename_i hs; exact Or.inr (Or.inr (Or.inr (Or.inl ⟨h, hs⟩)))
  · exact absurd h h0
theorem why_rm (ho : S.Ok) (h : e = rmE S) (h0 : e ≠ 0) : Why S q room e := by
  have := ho.few
  unfold rmE at h
  split at h
  · rename_i hs
    exact Or.inr (Or.inr (Or.inr (Or.inr (Or.inl ⟨h, by rcases hs with hs | hs <;> omega⟩))))
  · exact absurd h h0
theorem why_id (h : e = idE S q) (h0 : e ≠ 0) : Why S q room e := by
  unfold idE at h
  split at h
  · exact absurd h h0
  · rename_i hs; exact Or.inr (Or.inr (Or.inr (Or.inr (Or.inr (Or.inl ⟨h, by simpa using hs⟩)))))
theorem why_lg (h : e = lgE room k) (h0 : e ≠ 0) : Why S q room e := by
  have := sz_lz k
  unfold lgE at h
  split at h
  · exact Or.inr (Or.inr (Or.inr (Or.inr (Or.inr (Or.inr ⟨h, by omega⟩)))))
  · exact absurd h h0
theorem why_ref (ho : S.Ok) (h0 : refE S room q ≠ 0) : Why S q room (refE S room q) := by
  have hm := fstE_mem h0
  generalize he : fstE (chks S room q) = e at hm
  have he' : refE S room q = e := he
  rw [he'] at h0 ⊢
  unfold chks at hm
  split at hm
  · simp only [List.mem_cons, List.not_mem_nil, or_false] at hm
    rcases hm with h | h | h | h | h | h
    · exact why_st h h0
    · exact why_tt h h0
    · exact why_cl h h0
    · exact why_fr h h0
    · exact why_rm ho h h0
    · exact why_lg h h0
  split at hm
  · simp only [List.mem_cons, List.not_mem_nil, or_false] at hm
    rcases hm with h | h
    · exact why_id h h0
    · exact why_lg h h0
  split at hm
  · simp only [List.mem_cons, List.not_mem_nil, or_false] at hm
    rcases hm with h | h
    · exact why_id h h0
    · exact why_lg h h0
  split at hm
  · simp only [List.mem_cons, List.not_mem_nil, or_false] at hm
    rcases hm with h | h | h | h
    · exact why_id h h0
    · exact why_st h h0
    · exact why_fr h h0
    · exact why_lg h h0
  · simp only [List.mem_cons, List.not_mem_nil, or_false] at hm
    rcases hm with h | h | h
    · exact why_tt h h0
    · exact why_cl h h0
    · exact why_lg h h0
theorem why_few (h : Why S q room e) : 1 ≤ e ∧ e ≤ 65535 := by
  unfold Why at h
  rcases h with h | h | h | h | h | h | h <;> omega
/-- The reply of a refusal may be. -/
theorem rf_may (hk : 1 ≤ q.k ∧ q.k ≤ 10) (he : 1 ≤ e ∧ e ≤ 65535) : Rt.chk (rfY q e) = 0 := by
  unfold Rt.chk
  rw [if_pos]
  unfold Rt.Ry.May Rt.Ry.mayB Rt.Ry.kindB rfY
  obtain ⟨h1, h2, h3, h4⟩ := Rt.has_e (k := q.k) (e := e) (by omega)
  simp only [h1, h2, h3, h4]
  simp [Rt.inP]
  omega
/-- What is decided, seen from the book. -/
structure Fin (S : Sb) (q : Rs.Rq) : Prop where
  y : Rt.chk (rpY q (recQ S q)) = 0
  r : Rk.chk (recQ S q) = 0
  a : appE S (recQ S q) = 0
theorem ref_all (h : refE S room q = 0) : ∀ x ∈ chks S room q, x = 0 := fstE_all h
theorem st_ok (h : stE S q = 0) : q.s < (S.a : Int) := by
  unfold stE at h
  split at h
  · assumption
  · cases h
theorem tt_ok (h : ttE q = 0) : 1 ≤ q.u ∧ q.u ≤ 1073741824 := by
  unfold ttE mxT at h
  split at h
  · assumption
  · cases h
theorem cl_ok (h : clE S q = 0) : S.t + q.u ≤ 1099511627776 := by
  unfold clE mxC at h
  split at h
  · cases h
  · omega
theorem id_ok (h : idE S q = 0) : (fnd S.L q.i.toNat).isSome = true := by
  unfold idE at h
  split at h
  · assumption
  · cases h
theorem rm_ok (h : rmE S = 0) : S.L.length < S.b ∧ S.n ≠ 4294967295 := by
  unfold rmE at h
  split at h
  · cases h
  · omega
theorem fr_ok (hs0 : 0 ≤ q.s) (hs : q.s < (S.a : Int)) (h : frE S q = 0) : sat S.L q.s.toNat = none ∨ ∃ y, sat S.L q.s.toNat = some y ∧ (y.i : Int) = q.i := by
  cases hq : sat S.L q.s.toNat with
  | none => exact Or.inl rfl
  | some y =>
    refine Or.inr ⟨y, rfl, ?_⟩
    apply Classical.byContradiction
    intro hn
    have e1 : atE S q.s = 0 := by unfold atE; rw [if_pos ⟨hs0, hs⟩, hq]; rfl
    have e2 : atX S q.s = y := by unfold atX; rw [if_pos ⟨hs0, hs⟩, hq]; rfl
    unfold frE at h
    rw [if_pos ⟨e1, by rw [e2]; exact hn⟩] at h
    cases h
/-- A plain number's request: its parts. -/
structure Few (q : Rs.Rq) : Prop where
  k : 1 ≤ q.k ∧ q.k ≤ 10
  i : 0 ≤ q.i ∧ q.i ≤ 11
  s : 0 ≤ q.s ∧ q.s ≤ 13
  u : 0 ≤ q.u ∧ q.u ≤ 8
  i0 : q.k = 1 → q.i = 0
theorem akQ_few (A : Ak) : Few (akQ A) := by
  unfold akQ
  refine ⟨by simp only; omega, ?_, ?_, ?_, ?_⟩
  · simp only; split <;> omega
  · simp only; split <;> omega
  · simp only; split <;> omega
  · intro h
    simp only at h ⊢
    rw [if_neg]
    rw [h]; decide
theorem fin_of (ho : S.Ok) (hf : Few q) (hc : isChg q) (h : refE S room q = 0) : Fin S q := by
  have hA := ref_all h
  have hn0 := ho.n0
  have hn1 := ho.n1
  have ht0 := ho.t0
  have ht1 := ho.t1
  have ha1 := ho.a1
  obtain ⟨hk, hi, hs, hu, hi0⟩ := hf
  unfold chks at hA
  rcases chg_kinds hc with hq | hq | hq | hq | hq
  · rw [if_pos hq] at hA
    simp only [List.mem_cons, List.not_mem_nil, or_false, forall_eq_or_imp, forall_eq] at hA
    obtain ⟨h1, h2, h3, h4, h5, -⟩ := hA
    have h1 := st_ok h1
    have h2 := tt_ok h2
    have h3 := cl_ok h3
    have h4 := fr_ok hs.1 h1 h4
    have h5 := rm_ok h5
    have hi0 := hi0 hq
    have h4 : sat S.L q.s.toNat = none := by
      rcases h4 with h4 | ⟨y, hy, hyi⟩
      · exact h4
      · have := ho.id y ((sat_some ho.one).1 hy).1
        omega
    have hr : recQ S q = ⟨1, (S.n : Int), q.s, S.t + q.u, 0⟩ := by unfold recQ; rw [if_pos hq]
    have hm : (recQ S q).May := by rw [hr]; exact Or.inl ⟨rfl, by simp only; omega, by simp only; omega, by simp only [mxC]; omega, rfl⟩
    refine ⟨?_, if_pos hm, ?_⟩
    · unfold Rt.chk
      rw [if_pos]
      unfold Rt.Ry.May Rt.Ry.mayB Rt.Ry.kindB rpY recQ
      simp only [hq, if_true, Rt.hI, Rt.hS, Rt.hU, Rt.hC, Rt.inP]
      simp
      omega
    · unfold appE
      rw [if_neg (fun x => x hm)]
      rw [if_pos (by unfold recQ; rw [if_pos hq])]
      rw [holdE_zero]
      rw [hr]
      exact ⟨rfl, h1, by simp only; omega, h4, h5.1, h5.2⟩
  · rw [if_neg (by omega), if_pos hq] at hA
    simp only [List.mem_cons, List.not_mem_nil, or_false, forall_eq_or_imp, forall_eq] at hA
    have h1 := id_ok hA.1
    have hr : recQ S q = ⟨2, q.i, 0, 0, 0⟩ := by unfold recQ; rw [if_neg (by omega), if_pos hq]
    have hi1 : 1 ≤ q.i := by obtain ⟨x, hx, e⟩ := fnd_isSome.1 h1; have := ho.id x hx; omega
    have hm : (recQ S q).May := by rw [hr]; exact Or.inr (Or.inl ⟨Or.inl rfl, hi1, rfl, rfl, rfl⟩)
    refine ⟨?_, if_pos hm, ?_⟩
    · rw [hr]
      unfold Rt.chk
      rw [if_pos]
      unfold Rt.Ry.May Rt.Ry.mayB Rt.Ry.kindB rpY
      simp [hq, Rt.hI, Rt.hS, Rt.hU, Rt.hC, Rt.inP]
    · unfold appE
      rw [if_neg (fun x => x hm), hr]
      simp [h1]
  · rw [if_neg (by omega), if_neg (by omega), if_pos hq] at hA
    simp only [List.mem_cons, List.not_mem_nil, or_false, forall_eq_or_imp, forall_eq] at hA
    have h1 := id_ok hA.1
    have hr : recQ S q = ⟨3, q.i, 0, 0, 0⟩ := by unfold recQ; rw [if_neg (by omega), if_neg (by omega), if_pos hq]
    have hi1 : 1 ≤ q.i := by obtain ⟨x, hx, e⟩ := fnd_isSome.1 h1; have := ho.id x hx; omega
    have hm : (recQ S q).May := by rw [hr]; exact Or.inr (Or.inl ⟨Or.inr rfl, hi1, rfl, rfl, rfl⟩)
    refine ⟨?_, if_pos hm, ?_⟩
    · rw [hr]
      unfold Rt.chk
      rw [if_pos]
      unfold Rt.Ry.May Rt.Ry.mayB Rt.Ry.kindB rpY
      simp [hq, Rt.hI, Rt.hS, Rt.hU, Rt.hC, Rt.inP]
    · unfold appE
      rw [if_neg (fun x => x hm), hr]
      simp [h1]
  · rw [if_neg (by omega), if_neg (by omega), if_neg (by omega), if_pos hq] at hA
    simp only [List.mem_cons, List.not_mem_nil, or_false, forall_eq_or_imp, forall_eq] at hA
    obtain ⟨h1, h2, h3, -⟩ := hA
    have h1 := id_ok h1
    have h2 := st_ok h2
    have h3 := fr_ok hs.1 h2 h3
    have hr : recQ S q = ⟨4, q.i, q.s, 0, 0⟩ := by unfold recQ; rw [if_neg (by omega), if_neg (by omega), if_neg (by omega), if_pos hq]
    have hi1 : 1 ≤ q.i := by obtain ⟨x, hx, e⟩ := fnd_isSome.1 h1; have := ho.id x hx; omega
    have hm : (recQ S q).May := by rw [hr]; exact Or.inr (Or.inr (Or.inl ⟨rfl, hi1, by simp only; omega, rfl, rfl⟩))
    refine ⟨?_, if_pos hm, ?_⟩
    · rw [hr]
      unfold Rt.chk
      rw [if_pos]
      unfold Rt.Ry.May Rt.Ry.mayB Rt.Ry.kindB rpY
      simp [hq, Rt.hI, Rt.hS, Rt.hU, Rt.hC, Rt.inP]
      omega
    · unfold appE
      rw [if_neg (fun x => x hm), hr]
      simp only
      rw [if_neg (by decide), if_neg (by decide), if_pos trivial, reseatE_zero]
      obtain ⟨x, hx⟩ := Option.isSome_iff_exists.1 h1
      refine ⟨x, hx, by omega, ?_⟩
      rcases h3 with h3 | ⟨y, hy, hyi⟩
      · exact Or.inr h3
      · obtain ⟨hx1, hx2⟩ := (fnd_some ho.asc).1 hx
        obtain ⟨hy1, hy2⟩ := (sat_some ho.one).1 hy
        have e := ho.asc.same hx1 hy1 (by omega)
        exact Or.inl (by rw [e]; exact hy2.symm)
  · rw [if_neg (by omega), if_neg (by omega), if_neg (by omega), if_neg (by omega)] at hA
    simp only [List.mem_cons, List.not_mem_nil, or_false, forall_eq_or_imp, forall_eq] at hA
    obtain ⟨h1, h2, -⟩ := hA
    have h1 := tt_ok h1
    have h2 := cl_ok h2
    have hr : recQ S q = ⟨5, 0, 0, 0, S.t + q.u⟩ := by unfold recQ; rw [if_neg (by omega), if_neg (by omega), if_neg (by omega), if_neg (by omega)]
    have hm : (recQ S q).May := by rw [hr]; exact Or.inr (Or.inr (Or.inr ⟨rfl, rfl, rfl, rfl, by simp only [mxC]; omega⟩))
    refine ⟨?_, if_pos hm, ?_⟩
    · rw [hr]
      unfold Rt.chk
      rw [if_pos]
      unfold Rt.Ry.May Rt.Ry.mayB Rt.Ry.kindB rpY
      simp [hq, Rt.hI, Rt.hS, Rt.hU, Rt.hC, Rt.inP]
      omega
    · unfold appE
      rw [if_neg (fun x => x hm), hr]
      simp only
      rw [if_neg (by decide), if_neg (by decide), if_neg (by decide), if_neg (by omega)]
end
end Go.Proofs.YtjfhilignbeboaaGreatDoor
