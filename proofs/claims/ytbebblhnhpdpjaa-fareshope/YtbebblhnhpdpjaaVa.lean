/- Numbers alone: what seats are worth, as rungs. -/
import Derived.Test.YtbebblhnhpdpjaaFn
namespace Go.Proofs.Ytbebblhnhpdpjaa
open Ieee

/-- A finite number that is not below nothing. -/
structure Nn (p : Nat) : Prop where
  fin : Fin64 p
  pos : sg p = true → p % 2 ^ 63 = 0
/-- The rung of a word. -/
def ru (p : Nat) : Nat := p % 2 ^ 63
theorem Nn.rlt {p : Nat} (h : Nn p) : ru p < 2047 * 2 ^ 52 := h.fin
theorem Nn.sv_eq {p : Nat} (h : Nn p) : sv p = ((val (ru p) : Nat) : Int) := by
  have h2 := h.pos
  unfold sv mg ru
  cases hs : sg p
  · rfl
  · rw [h2 hs, val_zero]; rfl
theorem nn_low {x : Nat} (h : x < 2047 * 2 ^ 52) : Nn x ∧ ru x = x :=
  ⟨⟨fin_of h, fun e => by rw [sg_of h] at e; cases e⟩, by unfold ru; exact Nat.mod_eq_of_lt (by omega)⟩
theorem lik_nn {p : Nat} (h : lik p = true) : Nn p := ⟨lik_fin h, (lik_rung h).2⟩
theorem lik_ru {p : Nat} (h : lik p = true) : val (ru p) ≤ pw 1074 := val_le_one (lik_rung h).1

theorem put_cases (s : Bool) {r : Nat} (h : r < 2047 * 2 ^ 52) (h0 : s = true → r = 0) : Nn (double.word s r) ∧ ru (double.word s r) = r :=
  ⟨⟨word_fin h s, fun e => by
    have h1 : double.word s r % 2 ^ 63 = r := word_mod (by omega) s
    rw [h1]
    have h2 : sg (double.word s r) = s := word_sg (by omega) s
    exact h0 (h2 ▸ e)⟩, word_mod (by omega) s⟩
theorem mul_nn {a b r : Nat} (ha : Nn a) (hb : Nn b) (hr : rnd (val (ru a) * val (ru b)) 1074 = r) (h : r < 2047 * 2 ^ 52) :
    ∃ u, floatBits .mul .f64 a b = some u ∧ Nn u ∧ ru u = r := by
  have e : floatBits .mul .f64 a b = some (put (sg a ^^ sg b) (mg a * mg b) 1074) := mul_fin ha.fin hb.fin
  refine ⟨_, e, ?_⟩
  have e2 : rnd (mg a * mg b) 1074 = r := hr
  unfold put
  rw [e2, Nat.min_eq_left (by omega)]
  refine put_cases _ h fun hx => ?_
  have hz : mg a * mg b = 0 := by
    unfold mg
    cases hs : sg a
    · rw [hs] at hx
      have : sg b = true := by simpa using hx
      rw [hb.pos this, val_zero, Nat.mul_zero]
    · rw [ha.pos hs, val_zero, Nat.zero_mul]
  rw [← e2, hz, rnd_zero]
theorem add_nn {a b : Nat} (ha : Nn a) (hb : b < 2047 * 2 ^ 52) (h : ad (ru a) b < 2047 * 2 ^ 52) : floatBits .add .f64 a b = some (ad (ru a) b) := by
  show double.add a b = _
  rw [add_fin ha.fin (fin_of hb), ha.sv_eq, sv_of hb, sg_of hb]
  have hn : (((val (ru a) : Nat) : Int) + ((val b : Nat) : Int)).natAbs = val (ru a) + val b := by omega
  have hneg : (if ((val (ru a) : Nat) : Int) + ((val b : Nat) : Int) = 0 then (sg a && false) else decide (((val (ru a) : Nat) : Int) + ((val b : Nat) : Int) < 0)) = false := by
    split
    · simp
    · simp; omega
  rw [hn, hneg, put_low h]; rfl
theorem nn_add {a b : Nat} (ha : Nn a) (hb : b < 2047 * 2 ^ 52) (h : ad b (ru a) < 2047 * 2 ^ 52) : floatBits .add .f64 b a = some (ad b (ru a)) := by
  show double.add b a = _
  rw [add_fin (fin_of hb) ha.fin, ha.sv_eq, sv_of hb, sg_of hb]
  have hn : (((val b : Nat) : Int) + ((val (ru a) : Nat) : Int)).natAbs = val b + val (ru a) := by omega
  have hneg : (if ((val b : Nat) : Int) + ((val (ru a) : Nat) : Int) = 0 then (false && sg a) else decide (((val b : Nat) : Int) + ((val (ru a) : Nat) : Int) < 0)) = false := by
    split
    · simp
    · simp; omega
  rw [hn, hneg, put_low h]; rfl
theorem order_nn {a b : Nat} (ha : Nn a) (hb : Nn b) : FloatKind.f64.format.order a b = some (compare (ru a) (ru b)) := by
  rw [f64_double, order_fin ha.fin hb.fin, ha.sv_eq, hb.sv_eq]
  congr 1
  have h1 : ((val (ru a) : Nat) : Int) < ((val (ru b) : Nat) : Int) ↔ ru a < ru b := by rw [Int.ofNat_lt]; exact val_lt_iff
  have h2 : ((val (ru a) : Nat) : Int) = ((val (ru b) : Nat) : Int) ↔ ru a = ru b := by
    rw [Int.ofNat_inj]
    exact ⟨val_inj, fun h => by rw [h]⟩
  simp only [compare, compareOfLessAndEq, h1, h2]

/-- Sizes. -/
theorem rnd_bd {X s e : Nat} (h : X ≤ pw (e + s)) : val (rnd X s) ≤ pw e := by
  have h1 : val (rnd (1 * pw e) 0) = 1 * pw e := val_rnd_pw (by omega)
  rw [Nat.one_mul] at h1
  have h2 : rnd X s ≤ rnd (pw e) 0 := rnd_le_pw (by rw [h1, ← pw_add]; exact h)
  exact h1 ▸ val_le_iff.2 h2
theorem rnd_bdm {X m e : Nat} (hm : m ≤ 2 ^ 53) (h : X ≤ m * pw e) : val (rnd X 0) ≤ m * pw e := by
  have h1 : val (rnd (m * pw e) 0) = m * pw e := val_rnd_pw hm
  have h2 := val_le_iff.2 (rnd_mono (s := 0) h)
  rwa [h1] at h2
theorem bd_fin {r n : Nat} (h : val r ≤ pw (1074 + n)) (hn : n ≤ 900) : r < 2047 * 2 ^ 52 := by
  apply val_lt_iff.1
  have hh := val_hi 2047 0 (by omega) (by omega)
  rw [Nat.add_zero, Nat.add_zero, ← pw52, ← pw_add] at hh
  rw [← pw52, hh]
  exact Nat.lt_of_le_of_lt h (pw_lt (by omega))

/-- u times a price. -/
def tm (u q : Nat) : Nat := rnd (u * val q) 0
def cd (q u w : Nat) : Nat := ad (tm u q) w
/-- The best of so many people. -/
def bt (q : Nat) (w : List Nat) (x : Nat) : Nat → Nat
  | 0 => w.getD x 0
  | k + 1 => if k + 1 ≤ x then max (bt q w x k) (cd q (k + 1) (w.getD (x - (k + 1)) 0)) else bt q w x k
def tn (c b : Nat) : Nat := rnd (val (ru c) * val b) 1074
/-- The sum of the first so many. -/
def su (q : Nat) (w : List Nat) (cs : List Nat) (x : Nat) : Nat → Nat
  | 0 => 0
  | k + 1 => ad (su q w cs x k) (tn (cs.getD k 0) (bt q w x k))
/-- What the seats are worth with one class more. -/
def nv (q : Nat) (cs w : List Nat) : List Nat := (List.range w.length).map fun x => su q w cs x cs.length
def vs (n : Nat) (l : List (Nat × List Nat)) : List Nat := l.foldl (fun w c => nv (ru c.1) c.2 w) (List.replicate (n + 1) 0)
theorem nv_length (q : Nat) (cs w : List Nat) : (nv q cs w).length = w.length := by simp [nv]
theorem nv_get (q : Nat) (cs w : List Nat) (x : Nat) (h : x < w.length) : (nv q cs w).getD x 0 = su q w cs x cs.length := by
  simp [nv, List.getD_eq_getElem?_getD, h]
theorem vs_length (n : Nat) (l : List (Nat × List Nat)) : (vs n l).length = n + 1 := by
  unfold vs
  have : ∀ (l : List (Nat × List Nat)) (w : List Nat), (l.foldl (fun w c => nv (ru c.1) c.2 w) w).length = w.length := by
    intro l
    induction l with
    | nil => intro w; rfl
    | cons c l ih => intro w; rw [List.foldl_cons, ih, nv_length]
  rw [this]; simp
theorem vs_snoc (n : Nat) (l : List (Nat × List Nat)) (c : Nat × List Nat) : vs n (l ++ [c]) = nv (ru c.1) c.2 (vs n l) := by
  unfold vs; rw [List.foldl_append]; rfl

/-- A list of amounts up to 2^n. -/
def Bd (n : Nat) (w : List Nat) : Prop := ∀ x, val (w.getD x 0) ≤ pw (1074 + n)
theorem pw_two (n : Nat) : pw n + pw n = pw (n + 1) := by rw [pw_add, pw1]; omega
theorem ad_zero_left (w : Nat) : ad 0 w = w := by unfold ad; rw [val_zero, Nat.zero_add, rnd_val]
theorem tm_zero (q : Nat) : tm 0 q = 0 := by unfold tm; rw [Nat.zero_mul, rnd_zero]
theorem cd_zero (q w : Nat) : cd q 0 w = w := by unfold cd; rw [tm_zero, ad_zero_left]
theorem tm_bd {u q : Nat} (hu : u ≤ 256) (hq : val q ≤ pw 1114) : val (tm u q) ≤ pw 1122 := by
  refine rnd_bd ?_
  rw [show 1122 + 0 = 8 + 1114 from rfl, pw_add]
  exact Nat.mul_le_mul (by rw [show pw 8 = 256 from rfl]; exact hu) hq
theorem cd_bd {q u w n : Nat} (hu : u ≤ 256) (hq : val q ≤ pw 1114) (hn : 48 ≤ n) (hw : val w ≤ pw (1074 + n)) : val (cd q u w) ≤ pw (1074 + (n + 1)) := by
  refine rnd_bd ?_
  have h1 := tm_bd hu hq
  have h2 : pw 1122 ≤ pw (1074 + n) := pw_le (by omega)
  have h3 := pw_two (1074 + n)
  rw [Nat.add_zero, show 1074 + (n + 1) = 1074 + n + 1 from rfl]
  omega
theorem val_max {a b c : Nat} (h1 : val a ≤ c) (h2 : val b ≤ c) : val (max a b) ≤ c := by
  rcases Nat.le_total a b with h | h
  · rw [Nat.max_eq_right h]; exact h2
  · rw [Nat.max_eq_left h]; exact h1
theorem bt_bd {q n : Nat} {w : List Nat} (hq : val q ≤ pw 1114) (hn : 48 ≤ n) (hw : Bd n w) (x : Nat) : ∀ k, k ≤ 256 → val (bt q w x k) ≤ pw (1074 + (n + 1)) := by
  intro k
  induction k with
  | zero => intro _; exact Nat.le_trans (hw x) (pw_le (by omega))
  | succ k ih =>
    intro hk
    unfold bt
    split
    · exact val_max (ih (by omega)) (cd_bd hk hq hn (hw _))
    · exact ih (by omega)
theorem tn_bd {c b n : Nat} (hc : val (ru c) ≤ pw 1074) (hb : val b ≤ pw n) : val (tn c b) ≤ pw n := by
  refine rnd_bd ?_
  rw [Nat.add_comm n 1074, pw_add]
  exact Nat.mul_le_mul hc hb
theorem su_bd {q n : Nat} {w cs : List Nat} (hq : val q ≤ pw 1114) (hn : 48 ≤ n) (hw : Bd n w) (hc : ∀ k, val (ru (cs.getD k 0)) ≤ pw 1074) (x : Nat) :
    ∀ k, k ≤ 256 → val (su q w cs x k) ≤ k * pw (1074 + (n + 1)) := by
  intro k
  induction k with
  | zero => intro _; show val 0 ≤ _; rw [val_zero]; exact Nat.zero_le _
  | succ k ih =>
    intro hk
    refine rnd_bdm (by omega) ?_
    have h1 := ih (by omega)
    have h2 := tn_bd (hc k) (bt_bd hq hn hw x k (by omega))
    rw [Nat.add_mul, Nat.one_mul]; omega
theorem su_bd2 {q n : Nat} {w cs : List Nat} (hq : val q ≤ pw 1114) (hn : 48 ≤ n) (hw : Bd n w) (hc : ∀ k, val (ru (cs.getD k 0)) ≤ pw 1074) (x k : Nat) (hk : k ≤ 256) :
    val (su q w cs x k) ≤ pw (1074 + (n + 9)) := by
  refine Nat.le_trans (su_bd hq hn hw hc x k hk) ?_
  rw [show 1074 + (n + 9) = 8 + (1074 + (n + 1)) by omega, pw_add 8]
  exact Nat.mul_le_mul_right _ (by rw [show pw 8 = 256 from rfl]; exact hk)
theorem Bd.nv {q n : Nat} {w cs : List Nat} (hq : val q ≤ pw 1114) (hn : 48 ≤ n) (hw : Bd n w) (hc : ∀ k, val (ru (cs.getD k 0)) ≤ pw 1074) (hl : cs.length ≤ 256) : Bd (n + 9) (nv q cs w) := by
  intro x
  by_cases hx : x < w.length
  · rw [nv_get _ _ _ _ hx]; exact su_bd2 hq hn hw hc x _ hl
  · rw [List.getD_eq_getElem?_getD, List.getElem?_eq_none (by rw [nv_length]; omega)]; exact Nat.zero_le _
theorem Bd.fin {n : Nat} {w : List Nat} (h : Bd n w) (hn : n ≤ 900) (x : Nat) : w.getD x 0 < 2047 * 2 ^ 52 := bd_fin (h x) hn
end Go.Proofs.Ytbebblhnhpdpjaa
