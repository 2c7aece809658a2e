/- Fares: one class more. -/
import Derived.Test.YtbebblhnhpdpjaaVd
namespace Go.Proofs.Ytbebblhnhpdpjaa
open Go.RowKit
attribute [local go_sem ↓] Go.wp_at_zero Go.wp_at_succ
attribute [local go_sem] run_store_float

/-- A price that may be. -/
structure Pr (p : Nat) : Prop where
  nn : Nn p
  le : val (ru p) ≤ pw 1114
theorem val_p40 : val 4787326403894837248 = pw 1114 := by
  have h := val_hi 1063 0 (by omega) (by omega)
  rw [Nat.add_zero, Nat.add_zero, ← pw52, ← pw_add] at h
  exact h
theorem pr_p40 : Pr 4787326403894837248 := by
  have h := nn_low (x := 4787326403894837248) (by omega)
  exact ⟨h.1, by rw [h.2, val_p40]; exact Nat.le_refl _⟩
theorem within_fin {p lo hi : Nat} (hl : Fin64 lo) (hh : Fin64 hi) (h : within p lo hi = true) : Fin64 p := by
  apply Classical.byContradiction
  intro hn
  unfold within at h
  rw [f64_double] at h
  obtain ⟨m0, k0, e0, -⟩ := read_fin hl
  obtain ⟨m1, k1, e1, -⟩ := read_fin hh
  unfold Ieee.Format.order at h
  rw [e0, e1] at h
  rcases read_big hn with hr | ⟨t, hr⟩
  · rw [hr] at h
    unfold Ieee.Datum.order at h
    cases hs : sg p <;> rw [hs] at h <;> simp at h
  · rw [hr] at h
    unfold Ieee.Datum.order at h
    simp at h
theorem within_pr {p hi : Nat} (hh : Pr hi) (h : within p 0 hi = true) : Pr p := by
  have hf := within_fin (fin_of (x := 0) (by omega)) hh.nn.fin h
  unfold within at h
  rw [f64_double, order_fin hf (fin_of (by omega)), order_fin hf hh.nn.fin, sv_zero, hh.nn.sv_eq] at h
  simp only [some_beq, Bool.and_eq_true, Bool.or_eq_true, decide_eq_true_eq, comp_int] at h
  obtain ⟨h1, h2⟩ := h
  have hv : sv p = if sg p then -((mg p : Nat) : Int) else ((mg p : Nat) : Int) := rfl
  rw [hv] at h1 h2
  have hle := hh.le
  have hz : ∀ r, val r = 0 → r = 0 := fun r hr => val_inj (hr.trans val_zero.symm)
  unfold mg at *
  have hru : ru p = p % 2 ^ 63 := rfl
  generalize p % 2 ^ 63 = r at *
  cases hs : sg p
  · rw [hs] at h1 h2
    simp only [Bool.false_eq_true, if_false] at h1 h2
    refine ⟨⟨hf, fun e => by rw [hs] at e; cases e⟩, by rw [hru]; omega⟩
  · rw [hs] at h1 h2
    simp only [if_true] at h1 h2
    have h0 : r = 0 := hz r (by omega)
    exact ⟨⟨hf, fun _ => (show ru p = 0 by rw [hru, h0])⟩, by rw [hru, h0, val_zero]; exact Nat.zero_le _⟩
/-- A class that may be. -/
structure Gd (c : Fa) : Prop where
  pr : Pr c.1
  ch : chOk c.2 = true
theorem okF_good {l : List Fa} : ∀ {hi : Nat}, Pr hi → okF hi l = true → ∀ (j : Nat) (c : Fa), l[j]? = some c → Gd c := by
  induction l with
  | nil => intro hi _ _ j c hj; simp at hj
  | cons d l ih =>
    intro hi hp h j c hj
    unfold okF at h
    simp only [Bool.and_eq_true] at h
    have hpd := within_pr hp h.1.1
    cases j with
    | zero => simp at hj; subst hj; exact ⟨hpd, h.1.2⟩
    | succ j => exact ih hpd h.2 j c (by simpa using hj)
theorem mayB_good {l : List Fa} (h : mayB l = true) : (1 ≤ l.length ∧ l.length ≤ 16) ∧ ∀ (j : Nat) (c : Fa), l[j]? = some c → Gd c := by
  unfold mayB at h
  simp only [Bool.and_eq_true, decide_eq_true_eq] at h
  exact ⟨h.1, okF_good pr_p40 h.2⟩
theorem chOk_parts {cs : List Nat} (h : chOk cs = true) : (1 ≤ cs.length ∧ cs.length ≤ 256) ∧ ∀ j, j < cs.length → lik (cs.getD j 0) = true := by
  unfold chOk at h
  simp only [Bool.and_eq_true, decide_eq_true_eq] at h
  exact ⟨h.1.1, fun j hj => lik_all h.1.2 j hj⟩
theorem ch_le {cs : List Nat} (h : chOk cs = true) (j : Nat) : val (ru (cs.getD j 0)) ≤ pw 1074 := by
  by_cases hj : j < cs.length
  · exact lik_ru ((chOk_parts h).2 j hj)
  · rw [List.getD_eq_getElem?_getD, List.getElem?_eq_none (by omega)]; exact Nat.zero_le _

theorem rnd_scale_pw (X s t : Nat) : rnd (X * pw t) (s + t) = rnd X s := rnd_scale X s t
/-- The number of people, as a float, times the price, and what is ahead. -/
theorem cd_run {k p w n : Nat} (hk : k ≤ 256) (hp : Pr p) (hn : 48 ≤ n) (hn2 : n ≤ 800) (hw : val w ≤ pw (1074 + n)) :
    ∃ u, floatBits .mul .f64 (FloatKind.f64.nearest (k : Int)) p = some u ∧ floatBits .add .f64 u w = some (cd (ru p) k w) := by
  obtain ⟨f1, f2, f3⟩ := of_int (n := (k : Int)) (by omega)
  have hsg : sg (FloatKind.f64.nearest (k : Int)) = false := by rw [f2]; simp
  have hnn : Nn (FloatKind.f64.nearest (k : Int)) := ⟨f1, fun e => by rw [hsg] at e; cases e⟩
  have hv : val (ru (FloatKind.f64.nearest (k : Int))) = k * pw 1074 := f3
  have e : rnd (val (ru (FloatKind.f64.nearest (k : Int))) * val (ru p)) 1074 = tm k (ru p) := by
    rw [hv]
    have h := rnd_scale_pw (k * val (ru p)) 0 1074
    rw [Nat.zero_add] at h
    unfold tm
    rw [← h, Nat.mul_right_comm]
  obtain ⟨u, h1, h2, h3⟩ := mul_nn hnn hp.nn e (bd_fin (n := 48) (tm_bd hk hp.le) (by omega))
  refine ⟨u, h1, ?_⟩
  have hc : ad (ru u) w = cd (ru p) k w := by rw [h3]; rfl
  rw [← hc]
  exact add_nn h2 (bd_fin hw (by omega)) (by rw [hc]; exact bd_fin (cd_bd hk hp.le hn hw) (by omega))
/-- A chance times the best, added. -/
theorem tn_run {c b s n : Nat} (hc : lik c = true) (hb : val b ≤ pw (1074 + n)) (hn : n ≤ 800) (hs : s < 2047 * 2 ^ 52) (hs2 : ad s (tn c b) < 2047 * 2 ^ 52) :
    ∃ u, floatBits .mul .f64 c b = some u ∧ floatBits .add .f64 s u = some (ad s (tn c b)) := by
  have hb2 := bd_fin hb (by omega)
  obtain ⟨h1, h2⟩ := nn_low hb2
  have e : rnd (val (ru c) * val (ru b)) 1074 = tn c b := by rw [h2]; rfl
  obtain ⟨u, k1, k2, k3⟩ := mul_nn (lik_nn hc) h1 e (bd_fin (tn_bd (lik_ru hc) hb) (by omega))
  refine ⟨u, k1, ?_⟩
  have hc : ad s (ru u) = ad s (tn c b) := by rw [k3]
  rw [← hc]
  exact nn_add k2 hs (by rw [hc]; exact hs2)
theorem run_max {a b : Nat} (ha : a < 2047 * 2 ^ 52) (hb : b < 2047 * 2 ^ 52) (ats : Array TypeId) (ty : TypeId) (w : World) : (Builtin.max_ ats ty #[.float .f64 a, .float .f64 b]).run Try.prog w = .ok (.float .f64 (max a b)) w := by
  have h : Builtin.max_ ats ty #[.float .f64 a, .float .f64 b] = Bind.bind (Builtin.max2 (.float .f64 a) (.float .f64 b)) (fun x => pure x) := rfl
  have e := order_low ha hb
  rw [h]
  have h2 : Builtin.max2 (.float .f64 a) (.float .f64 b) = pure (.float .f64 (max a b)) := by
    unfold Builtin.max2
    dsimp only
    rw [e]
    rcases Nat.lt_trichotomy a b with hl | hl | hl
    · rw [lt_iff.2 hl, Nat.max_eq_right (by omega)]
    · subst hl
      rw [eq_iff.2 rfl, Nat.max_self]
      dsimp only
      rw [ite_self]
    · rw [gt_iff.2 hl, Nat.max_eq_left (by omega)]
  rw [h2]; rfl
theorem run_clear {w : World} {b n : Nat} {xs : List Nat} (hb : Fb w b xs) (hl : xs.length = n) (h0 : 0 < n) :
    ∃ w2, (∀ ty, (Builtin.clear_ #[27] ty #[.slice (some ⟨b, 0, none⟩) n n]).run Try.prog w = .ok (.tuple #[]) w2) ∧ Fb w2 b (List.replicate n 0) ∧ w.grownBy w2 (some b) := by
  have hz : ∀ w, (zeroValue 33).run Try.prog w = .ok (.float .f64 0) w := fun w => by kernel_rfl
  refine ⟨w.setRow b (fv (List.replicate n 0)).toArray, fun ty => ?_, setRow_heap w b _ _ 33 _ hb, ⟨rfl, rfl, rfl, by simp [World.setRow], fun k _ hne => setRow_other w b k _ (by intro e; exact hne (by simp [e]))⟩⟩
  have hzc : (Builtin.zeroCells (Value.float .f64 0).cells n).toList = List.replicate n (.float .f64 0) := by
    show (Builtin.zeroCells #[Value.float .f64 0] n).toList = _
    simp [Builtin.zeroCells]
    apply List.ext_getElem
    · simp
    · intro i h1 h2
      simp [Nat.mod_one]
  have hst := run_storeCells_from (P := Try.prog) b 33 (List.replicate n (.float .f64 0)) 0 _ w hb (by simp [fv_length, hl]) (by intro v hv'; rw [List.eq_of_mem_replicate hv']; rfl)
  rw [List.take_zero, List.nil_append] at hst
  have hfv : fv (List.replicate n 0) = List.replicate n (.float .f64 0) := by unfold fv; simp
  obtain ⟨m, rfl⟩ : ∃ m, n = m + 1 := ⟨n - 1, by omega⟩
  rw [hfv]
  simp [Builtin.clear_, run_underlying Try.underlying27, hz, hzc, hst]
end Go.Proofs.Ytbebblhnhpdpjaa
