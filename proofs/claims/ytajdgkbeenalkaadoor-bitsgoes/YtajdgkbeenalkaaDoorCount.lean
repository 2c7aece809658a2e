/- The contract of a set's Count. -/
import Derived.Test.YtajdgkbeenalkaaDoorHas
namespace Go.Proofs.YtajdgkbeenalkaaDoor
open Go.RowKit
attribute [local go_sem ↓] Go.wp_at_zero Go.wp_at_succ

/-- Of how many numbers below n does f tell? -/
def cnt (f : Nat → Bool) : Nat → Nat
  | 0 => 0
  | n + 1 => cnt f n + (f n).toNat
theorem cnt_congr (f g : Nat → Bool) (n : Nat) (h : ∀ i, i < n → f i = g i) : cnt f n = cnt g n := by
  induction n with
  | zero => rfl
  | succ n ih => rw [cnt, cnt, ih (fun i hi => h i (by omega)), h n (by omega)]
theorem cnt_add (f : Nat → Bool) (a b : Nat) : cnt f (a + b) = cnt f a + cnt (fun i => f (a + i)) b := by
  induction b with
  | zero => rfl
  | succ b ih => rw [← Nat.add_assoc, cnt, ih, cnt]; omega
theorem cnt_stop (f : Nat → Bool) (n m : Nat) (h : ∀ i, n ≤ i → f i = false) (hm : n ≤ m) : cnt f m = cnt f n := by
  obtain ⟨d, rfl⟩ := Nat.le.dest hm
  induction d with
  | zero => rfl
  | succ d ih => rw [← Nat.add_assoc, cnt, ih (by omega), h _ (by omega)]; rfl
theorem cnt_le (f : Nat → Bool) (n : Nat) : cnt f n ≤ n := by
  induction n with
  | zero => exact Nat.le_refl _
  | succ n ih => rw [cnt]; have := Bool.toNat_le (f n); omega
theorem pop_cnt (x n : Nat) : Pop.pop x n = cnt x.testBit n := by
  induction n with
  | zero => rfl
  | succ n ih =>
    rw [Pop.pop, cnt, ih, Pop.bit, Nat.testBit_eq_decide_div_mod_eq]
    have : x / 2 ^ n % 2 < 2 := Nat.mod_lt _ (by decide)
    generalize x / 2 ^ n % 2 = y at this
    have : y = 0 ∨ y = 1 := by omega
    rcases this with rfl | rfl <;> rfl
/-- How many numbers are in the set. -/
def cntL (L : List Bool) : Nat := cnt (fun i => L.getD i false) L.length
theorem cntL_le (L : List Bool) : cntL L ≤ L.length := cnt_le _ _
theorem getD_out (L : List Bool) (i : Nat) (h : L.length ≤ i) : L.getD i false = false := by
  rw [List.getD_eq_getElem?_getD, List.getElem?_eq_none h]; rfl
theorem cnt_mem {W : List Nat} {L : List Bool} (h : Rep W L) : cnt (mem W) (64 * W.length) = cntL L := by
  rw [cnt_congr (mem W) (fun i => L.getD i false) _ (fun i _ => h.is i)]
  exact cnt_stop _ _ _ (fun i hi => getD_out L i hi) (by rw [h.len]; omega)
theorem cnt_word (W : List Nat) (j x : Nat) (h : W[j]? = some x) : cnt (mem W) (64 * (j + 1)) = cnt (mem W) (64 * j) + Pop.pop x 64 := by
  rw [Nat.mul_add, cnt_add, pop_cnt]
  congr 1
  apply cnt_congr
  intro i hi
  have e1 : (64 * j + i) / 64 = j := by omega
  have e2 : (64 * j + i) % 64 = i := by omega
  simp [mem, e1, e2, List.getD_eq_getElem?_getD, h]

set_option maxHeartbeats 400000 in
theorem count_none (p : Option Addr) (w : World) (h : NoSet w p) : Calls Tryd.prog 28 #[.pointer p] w fun e w' => e = .returned (.int .i64 0) ∧ w' = w := by
  have H := hide h.is
  clear h
  go_enter Tryd.func28, Tryd.ntmps28
  go_wp2_with fail
  refine H.out.mono ?_
  rintro e w' ⟨rfl, rfl⟩
  go_wp2
  go_ret
  exact ⟨rfl, rfl⟩

set_option maxHeartbeats 1000000 in
theorem count_any (b g : Nat) (L : List Bool) (w : World) (h : SetAt w b g L) :
    Calls Tryd.prog 28 #[.pointer (some ⟨b, 0, none⟩)] w fun e w' => e = .returned (.int .i64 (cntL L : Int)) ∧ w' = w := by
  obtain ⟨W, cap, hc, hcap, hcap2, hR, hcells⟩ := h.words
  have hn := isNone_at b true w h.made
  have hsm := h.small
  have hlen := hR.len
  have hW : W.length ≤ 1024 := by omega
  have H := hide (And.intro hcells hR)
  have HN := hide hn
  clear hcells hn hlen hR h hsm
  go_enter Tryd.func28, Tryd.ntmps28
  go_wp2_with fail
  refine HN.out.mono ?_
  rintro e w' ⟨rfl, rfl⟩
  clear HN
  go_wp2
  go_loopg [3, 13] W.length (fun k c i wr => ∃ j : Nat, k + j = W.length ∧ i = .int .i64 j ∧ c = .int .i64 (cnt (mem W) (64 * j) : Int) ∧ wr = w')
  case atStart => exact ⟨0, by simp, rfl, rfl, rfl⟩
  case round =>
    obtain ⟨j, hkj, rfl, rfl, rfl⟩ := hrel
    by_cases hk : 0 < gk
    · have hj : j < W.length := by omega
      obtain ⟨hcells, hR⟩ := H.out
      have hx := List.getElem?_eq_getElem hj
      have hcell := hcells j _ hx
      have hlt := hR.word _ (List.getElem_mem hj)
      have hstep := hide (cnt_word W j _ hx)
      have hle := cnt_le (mem W) (64 * j)
      have hone := fun w => ones_any W[j] hlt w
      generalize W[j] = x at *
      have hple : Pop.pop x 64 ≤ 64 := by rw [pop_cnt]; exact cnt_le _ _
      generalize Pop.pop x 64 = y at *
      generalize cnt (mem W) (64 * j) = c at *
      have h1 : (0 : Int) ≤ (j : Int) := by omega
      have h2 : (j : Int) < (W.length : Int) := by omega
      have HO := hide hone
      clear hcells hR hx hone
      go_wp2_with fail
      refine (HO.out _).mono ?_
      rintro e w2 ⟨rfl, rfl⟩
      go_wp2
      go_roundg (gk - 1)
      case measure => omega
      case rel => exact ⟨j + 1, by omega, by go_num, by rw [hstep.out]; go_num, rfl⟩
    · have hj : j = W.length := by omega
      subst hj
      have hcm := cnt_mem H.out.2
      rw [hcm]
      go_wp2
      go_ret
      exact ⟨rfl, rfl⟩

end Go.Proofs.YtajdgkbeenalkaaDoor
