/- Numbers alone: classes that few makes; what more seats are worth; near. -/
import Derived.Test.YtbebblhnhpdpjaaXa
namespace Go.Proofs.Ytbebblhnhpdpjaa
open Ieee

structure GF (c : Fa) : Prop where
  nn : Nn c.1
  v : ∃ P, 1 ≤ P ∧ P ≤ 1000 ∧ val (ru c.1) = P * U1
  ch : Ch c.2
structure GoodF (l : List Fa) : Prop where
  g : ∀ (j : Nat) (c : Fa), l[j]? = some c → GF c
  m : ∀ (i j : Nat) (c d : Fa), i ≤ j → l[i]? = some c → l[j]? = some d → ru d.1 ≤ ru c.1
theorem GoodF.nil : GoodF [] := ⟨fun j c h => by simp at h, fun i j c d _ h => by simp at h⟩
theorem GoodF.snoc {l : List Fa} {c : Fa} (h : GoodF l) (hc : GF c) (hm : ∀ (j : Nat) (d : Fa), l[j]? = some d → ru c.1 ≤ ru d.1) : GoodF (l ++ [c]) := by
  have hs : ∀ (j : Nat) (d : Fa), (l ++ [c])[j]? = some d → (j < l.length ∧ l[j]? = some d) ∨ (j = l.length ∧ d = c) := by
    intro j d hj
    by_cases h1 : j < l.length
    · rw [List.getElem?_append_left h1] at hj; exact .inl ⟨h1, hj⟩
    · rw [List.getElem?_append_right (by omega)] at hj
      have hl := (List.getElem?_eq_some_iff.1 hj).1
      simp at hl
      have : j = l.length := by omega
      subst this
      simp at hj
      exact .inr ⟨rfl, hj.symm⟩
  refine ⟨fun j d hj => ?_, fun i j a b hij hi hj => ?_⟩
  · rcases hs j d hj with ⟨-, h1⟩ | ⟨-, rfl⟩
    · exact h.g j d h1
    · exact hc
  · rcases hs i a hi with ⟨k1, h1⟩ | ⟨k1, rfl⟩
    · rcases hs j b hj with ⟨k2, h2⟩ | ⟨k2, rfl⟩
      · exact h.m i j a b hij h1 h2
      · exact hm i a h1
    · rcases hs j b hj with ⟨k2, h2⟩ | ⟨k2, rfl⟩
      · omega
      · exact Nat.le_refl _
theorem within_nn {x hi : Nat} (hx : Nn x) (hh : Nn hi) (h : ru x ≤ ru hi) : within x 0 hi = true := by
  obtain ⟨z1, z2⟩ := nn_low (x := 0) (by omega)
  unfold within
  rw [order_nn hx z1, order_nn hx hh, z2]
  simp only [some_beq, gt_iff, lt_iff, eq_iff, Bool.and_eq_true, Bool.or_eq_true, decide_eq_true_eq]
  omega
theorem GoodF.okF : ∀ (l : List Fa), GoodF l → ∀ hi, Nn hi → (∀ (j : Nat) (c : Fa), l[j]? = some c → ru c.1 ≤ ru hi) → okF hi l = true := by
  intro l
  induction l with
  | nil => intro _ _ _ _; rfl
  | cons d l ih =>
    intro h hi hh hm
    have gd := h.g 0 d rfl
    show (within d.1 0 hi && chOk d.2 && Go.Proofs.Ytbebblhnhpdpjaa.okF d.1 l) = true
    rw [within_nn gd.nn hh (hm 0 d rfl), gd.ch.ok, ih ⟨fun j c hj => h.g (j + 1) c (by simpa using hj), fun i j a b hij hi hj => h.m (i + 1) (j + 1) a b (by omega) (by simpa using hi) (by simpa using hj)⟩ d.1 gd.nn (fun j c hj => h.m 0 (j + 1) d c (by omega) rfl (by simpa using hj))]
    rfl
theorem GF.le {c : Fa} (h : GF c) : val (ru c.1) ≤ 1000 * U1 := by
  obtain ⟨P, h1, h2, h3⟩ := h.v
  rw [h3]; exact Nat.mul_le_mul_right _ h2
theorem GF.pr {c : Fa} (h : GF c) : Pr c.1 := ⟨h.nn, Nat.le_trans h.le (by
  have h1 : 1000 * U1 ≤ 1024 * U1 := Nat.mul_le_mul_right _ (by omega)
  refine Nat.le_trans h1 ?_
  rw [show (1024 : Nat) = pw 10 from rfl, ← pw_add]; exact pw_le (by omega))⟩
theorem GF.gd {c : Fa} (h : GF c) : Gd c := ⟨h.pr, h.ch.ok⟩
theorem GoodF.may {l : List Fa} (h : GoodF l) (h1 : 1 ≤ l.length) (h2 : l.length ≤ 3) : mayB l = true := by
  rw [mayB_mid ⟨h1, by omega⟩]
  refine h.okF l _ pr_p40.nn fun j c hj => ?_
  have hp := (h.g j c hj).pr.le
  rw [(nn_low (x := 4787326403894837248) (by omega)).2]
  exact val_le_iff.1 (by rw [val_p40]; exact hp)
theorem Ic.more {ws : List Nat} {s D E : Nat} (h : Ic ws s D) (hD : D ≤ E) : Ic ws s E := fun i hi => Nat.le_trans (h i hi) (Nat.add_le_add_left hD _)
theorem f1_small : 3 * F1 ≤ U1 := by
  have h1 : 4 * F1 = pw 1046 := by rw [show (4 : Nat) = pw 2 from rfl, ← pw_add]
  have h2 : pw 1046 ≤ U1 := pw_le (by omega)
  omega
theorem GoodF.vs {l : List Fa} {c0 : Fa} {s : Nat} (h : GoodF l) (h0 : l[0]? = some c0) (h3 : l.length ≤ 3) (hs : s ≤ 4) : ∀ j, j ≤ l.length →
    Mo (vs s (l.take j)) s ∧ Ic (vs s (l.take j)) s (val (ru c0.1) + j * F1) ∧ (vs s (l.take j)).getD 0 0 = 0 := by
  intro j
  induction j with
  | zero =>
    intro _
    rw [vs_nil]
    refine ⟨fun i _ => ?_, fun i _ => ?_, zeros_get _ _⟩
    · rw [zeros_get, zeros_get]; exact Nat.le_refl _
    · rw [zeros_get, zeros_get]; omega
  | succ j ih =>
    intro hj
    obtain ⟨i1, i2, i3⟩ := ih (by omega)
    obtain ⟨c, hc⟩ : ∃ c, l[j]? = some c := ⟨_, List.getElem?_eq_getElem (by omega)⟩
    have gc := h.g j c hc
    obtain ⟨P, p1, p2, p3⟩ := gc.v
    have hle := val_le_iff.2 (h.m 0 j c0 c (by omega) h0 hc)
    have hl := vs_length s (l.take j)
    have g0 := (h.g 0 c0 h0).le
    have hf := f1_small
    have hjf : j * F1 ≤ 3 * F1 := Nat.mul_le_mul_right _ (by omega)
    rw [take_snoc hc, vs_snoc]
    refine ⟨i1.nv hl, ?_, ?_⟩
    · have := Ic.nv (q := ru c.1) (cs := c.2) p3 p2 (by rw [← p3]; omega) i2 i3 hl hs (by omega) gc.ch
      refine this.more ?_
      rw [Nat.add_mul, Nat.one_mul]; omega
    · rw [nv_get _ _ _ _ (by omega), su_none i3]
theorem eps_words : (4517329193108106637 : Nat) < 2047 * 2 ^ 52 ∧ 8 * F1 ≤ val 4517329193108106637 ∧ val 4517329193108106637 ≤ U1 ∧ (4472406533629990549 : Nat) < 2047 * 2 ^ 52 ∧ val 4472406533629990549 ≤ U1 := by decide +kernel
theorem no_fall {a b : Nat} (ha : a < 2047 * 2 ^ 52) (hb : b < 2047 * 2 ^ 52) (h : a ≤ b) :
    ∃ r, floatBits .sub .f64 a 4517329193108106637 = some r ∧ (FloatKind.f64.format.order b r == some .lt) = false := by
  obtain ⟨e1, -⟩ := eps_words
  have hva := val_le_iff.2 h
  have hs : floatBits .sub .f64 a 4517329193108106637 = some (put (if ((val a : Nat) : Int) - ((val 4517329193108106637 : Nat) : Int) = 0 then sg a && !sg 4517329193108106637 else decide (((val a : Nat) : Int) - ((val 4517329193108106637 : Nat) : Int) < 0)) (((val a : Nat) : Int) - ((val 4517329193108106637 : Nat) : Int)).natAbs 0) := by
    show double.sub a 4517329193108106637 = _
    rw [sub_fin (fin_of ha) (fin_of e1), sv_of ha, sv_of e1]
  refine ⟨_, hs, ?_⟩
  rw [sg_of ha]
  by_cases hd : val 4517329193108106637 ≤ val a
  · have hneg : (if ((val a : Nat) : Int) - ((val 4517329193108106637 : Nat) : Int) = 0 then false && !sg 4517329193108106637 else decide (((val a : Nat) : Int) - ((val 4517329193108106637 : Nat) : Int) < 0)) = false := by
      split
      · rfl
      · simp; omega
    have hr : rnd (((val a : Nat) : Int) - ((val 4517329193108106637 : Nat) : Int)).natAbs 0 ≤ a := rnd_le_pw (by rw [pw0, Nat.mul_one]; omega)
    rw [hneg, put_low (by omega), order_low hb (by omega), some_beq]
    simp only [lt_iff, decide_eq_false_iff_not]
    omega
  · have hneg : (if ((val a : Nat) : Int) - ((val 4517329193108106637 : Nat) : Int) = 0 then false && !sg 4517329193108106637 else decide (((val a : Nat) : Int) - ((val 4517329193108106637 : Nat) : Int) < 0)) = true := by
      rw [if_neg (by omega)]; simp; omega
    have hr : rnd (((val a : Nat) : Int) - ((val 4517329193108106637 : Nat) : Int)).natAbs 0 ≤ 4517329193108106637 := rnd_le_pw (by rw [pw0, Nat.mul_one]; omega)
    rw [hneg]
    unfold put
    rw [Nat.min_eq_left (by omega), f64_double, order_fin (fin_of hb) (word_fin (by omega) true), sv_of hb, sv_word (by omega), some_beq]
    simp only [(comp_int _ _).2.1, decide_eq_false_iff_not, if_true]
    omega
theorem no_leap {a b p : Nat} (ha : a < 2047 * 2 ^ 52) (hb : b < 2047 * 2 ^ 52) (hp : Nn p) (hp2 : val (ru p) ≤ 1000 * U1) (hva : val a ≤ 4008 * U1) (h : val b ≤ val a + (val (ru p) + 3 * F1)) :
    ∃ t r, floatBits .add .f64 a p = some t ∧ floatBits .add .f64 t 4517329193108106637 = some r ∧ (FloatKind.f64.format.order b r == some .gt) = false := by
  obtain ⟨e1, e2, e3, -⟩ := eps_words
  have h92 : 8192 * U1 ≤ pw 1087 := Nat.le_of_eq u_8192
  have h93 := pw_le (show 1087 ≤ 1092 by omega)
  have hr := r_small
  have a1 := ad_err (s := a) (q := ru p) (by omega)
  have a2 := ad_err (s := ad a (ru p)) (q := 4517329193108106637) (by omega)
  have f1 : ad a (ru p) < 2047 * 2 ^ 52 := bd_fin (n := 13) (Nat.le_trans (by omega) h92) (by omega)
  have f2 : ad (ad a (ru p)) 4517329193108106637 < 2047 * 2 ^ 52 := bd_fin (n := 13) (Nat.le_trans (by omega) h92) (by omega)
  refine ⟨_, _, nn_add hp ha f1, add_low f1 e1 f2, ?_⟩
  have hrf : R1 ≤ F1 := pw_le (by omega)
  have : b ≤ ad (ad a (ru p)) 4517329193108106637 := val_le_iff.1 (by omega)
  rw [order_low hb f2, some_beq]
  simp only [gt_iff, decide_eq_false_iff_not]
  omega
theorem near_words {b : Nat} (hb : b < 2047 * 2 ^ 52) (hv : val b ≤ pw 1087) :
    floatBits .sub .f64 b b = some 0 ∧ ∃ u r, floatBits .mul .f64 4472406533629990549 b = some u ∧ floatBits .add .f64 4517329193108106637 u = some r ∧ r < 2047 * 2 ^ 52 := by
  obtain ⟨e1, -, e3, e4, e5⟩ := eps_words
  refine ⟨?_, ?_⟩
  · show double.sub b b = _
    rw [sub_fin (fin_of hb) (fin_of hb), sv_of hb, sg_of hb]
    have hn : (((val b : Nat) : Int) - ((val b : Nat) : Int)) = 0 := by omega
    rw [hn, if_pos rfl]
    show some (put false 0 0) = some 0
    rw [put_low (by rw [rnd_zero]; omega), rnd_zero]
  · obtain ⟨n1, n2⟩ := nn_low e4
    obtain ⟨m1, m2⟩ := nn_low hb
    have hbd : val (rnd (val (ru 4472406533629990549) * val (ru b)) 1074) ≤ pw 1087 := by
      refine rnd_bd ?_
      rw [n2, m2, Nat.add_comm 1087 1074, pw_add]
      exact Nat.mul_le_mul e5 hv
    obtain ⟨u, h1, h2, h3⟩ := mul_nn n1 m1 rfl (bd_fin (n := 13) hbd (by omega))
    have hfin : ad 4517329193108106637 (ru u) < 2047 * 2 ^ 52 := by
      refine bd_fin (n := 14) ?_ (by omega)
      refine rnd_bd ?_
      rw [h3]
      have k1 : pw 1087 + pw 1087 = pw 1088 := pw_two 1087
      have k2 : U1 ≤ pw 1087 := pw_le (by omega)
      show _ ≤ pw 1088
      omega
    exact ⟨u, _, h1, nn_add h2 e1 hfin, hfin⟩
/-- The best of so many people, as the plain way counts it. -/
def bu (q : Nat) (ws : List Nat) (x : Nat) : Nat → Nat
  | 0 => 0
  | u + 1 => max (bu q ws x u) (cd q u (ws.getD (x - u) 0))
theorem bt_bu (q : Nat) (ws : List Nat) (x : Nat) : ∀ k, bt q ws x k = bu q ws x (min k x + 1) := by
  intro k
  induction k with
  | zero =>
    rw [Nat.zero_min]
    show ws.getD x 0 = max 0 (cd q 0 (ws.getD (x - 0) 0))
    rw [cd_zero, Nat.sub_zero]; omega
  | succ k ih =>
    unfold bt
    by_cases h : k + 1 ≤ x
    · rw [if_pos h, ih, Nat.min_eq_left h, Nat.min_eq_left (by omega)]; rfl
    · rw [if_neg h, ih, Nat.min_eq_right (by omega), Nat.min_eq_right (by omega)]
end Go.Proofs.Ytbebblhnhpdpjaa
