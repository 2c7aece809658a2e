/- Fares: the contracts of limit, worthOf, Values, Bid. -/
import Derived.Test.YtbebblhnhpdpjaaVf
namespace Go.Proofs.Ytbebblhnhpdpjaa
open Go.RowKit
attribute [local go_sem ↓] Go.wp_at_zero Go.wp_at_succ
attribute [local go_sem] run_store_float

/-- The greatest number of seats that are not worth more to those ahead, counted on from u. -/
def lf (q : Nat) (ws : List Nat) (s : Nat) : Nat → Nat → Nat
  | 0, u => u
  | f + 1, u => if ad q (ws.getD (s - (u + 1)) 0) < ws.getD (s - (u + 1) + 1) 0 then u else lf q ws s f (u + 1)
def lim (q : Nat) (ws : List Nat) (s : Nat) : Nat := lf q ws s s 0
theorem grown_drewN (w : World) (q : Nat) : w.grownBy (w.drewN q) none := ⟨rfl, rfl, rfl, Nat.le_refl _, fun _ _ _ => rfl⟩
theorem pr_add {p w e : Nat} (hp : Pr p) (he : 48 ≤ e ∧ e ≤ 800) (hw : val w ≤ pw (1074 + e)) : floatBits .add .f64 p w = some (ad (ru p) w) ∧ ad (ru p) w < 2047 * 2 ^ 52 := by
  have h : val (ad (ru p) w) ≤ pw (1074 + (e + 1)) := by
    refine rnd_bd ?_
    have h1 := hp.le
    have h2 : pw 1114 ≤ pw (1074 + e) := pw_le (by omega)
    have h3 := pw_two (1074 + e)
    rw [Nat.add_zero, show 1074 + (e + 1) = 1074 + e + 1 from rfl]
    omega
  have h2 := bd_fin h (by omega)
  exact ⟨add_nn hp.nn (bd_fin hw (by omega)) h2, h2⟩
theorem lss_low {x y : Nat} (hx : x < 2047 * 2 ^ 52) (hy : y < 2047 * 2 ^ 52) : (FloatKind.f64.format.order x y == some .lt) = decide (x < y) := by
  rw [order_low hx hy, some_beq]
  by_cases h : x < y
  · rw [decide_eq_true h, decide_eq_true (lt_iff.2 h)]
  · rw [decide_eq_false h, decide_eq_false (fun e => h (lt_iff.1 e))]

set_option maxRecDepth 20000 in
set_option maxHeartbeats 2000000 in
theorem limit_any (v b1 b2 s e : Nat) (ws sp : List Nat) (p : Nat) (w : World) (hV : VsAt w v b1 b2 (s + 1) ws sp) (hs : s ≤ 1024) (hp : Pr p) (he : 48 ≤ e ∧ e ≤ 800) (hw : Bd e ws) :
    Calls Try.prog 41 #[.pointer (some ⟨v, 0, none⟩), .float .f64 p] w fun e' w' => e' = .returned (.int .i64 (lim (ru p) ws s : Nat)) ∧ w.grownBy w' none := by
  have HV := hide hV
  have HP := hide hp
  have HE := hide he
  have HW := hide hw
  have c0 := hV.worth
  have hw1 : IntKind.i64.wrap (((s + 1 : Nat) : Int) - 1) = (s : Int) := by rw [IntKind.wrap_i64]; omega
  have hm : ((s + 1 : Nat) : Int) < 9223372036854775807 := by omega
  clear hV hp he hw
  go_enter Try.func41, Try.ntmps41
  go_wp2
  clear c0
  go_loopg [6] s (fun k i wr => ∃ j : Nat, k + j = s + 1 ∧ 1 ≤ j ∧ i = .int .i64 (j : Int) ∧ Hid (w.grownBy wr none) ∧ Hid (lf (ru p) ws s k (j - 1) = lim (ru p) ws s))
  case atStart => exact ⟨1, by omega, by omega, rfl, hide (grown_refl _ _), hide rfl⟩
  case round =>
    obtain ⟨j, hku, hj1, rfl, HG, HL⟩ := hrel
    by_cases hgo : 0 < gk
    · have hu : j ≤ s := by omega
      have hu2 : (j : Int) ≤ (s : Int) := by omega
      have hv := HV.out.kept HG.out
      have c0 := hv.worth
      have hx1 := hv.h1.cell (j := s - j) (by rw [hv.l1]; omega)
      have hx2 := hv.h1.cell (j := s - j + 1) (by rw [hv.l1]; omega)
      have hs1 : IntKind.i64.wrap ((s : Int) - (j : Int)) = ((s - j : Nat) : Int) := by rw [IntKind.wrap_i64]; omega
      have hs2 : IntKind.i64.wrap (((s - j : Nat) : Int) + 1) = ((s - j + 1 : Nat) : Int) := by rw [IntKind.wrap_i64]; omega
      have hs3 : IntKind.i64.wrap ((j : Int) - 1) = ((j - 1 : Nat) : Int) := by rw [IntKind.wrap_i64]; omega
      have hi1 : s - j < s + 1 := by omega
      have hi2 : s - j + 1 < s + 1 := by omega
      obtain ⟨hadd, hfin⟩ := pr_add HP.out HE.out (HW.out (s - j))
      have hadd' := run_add hadd
      have hlt := lss_low hfin (HW.out.fin (by have := HE.out; omega) (s - j + 1))
      obtain ⟨g, rfl⟩ : ∃ g, gk = g + 1 := ⟨gk - 1, by omega⟩
      have hl : lf (ru p) ws s (g + 1) (j - 1) = if ad (ru p) (ws.getD (s - (j - 1 + 1)) 0) < ws.getD (s - (j - 1 + 1) + 1) 0 then j - 1 else lf (ru p) ws s g (j - 1 + 1) := rfl
      rw [show j - 1 + 1 = j by omega] at hl
      have HLL := hide hl
      generalize hA : ad (ru p) (ws.getD (s - j) 0) = A at *
      generalize hB : ws.getD (s - j + 1) 0 = B at *
      generalize hC : ws.getD (s - j) 0 = C at *
      generalize s - j + 1 = i2 at *
      generalize s - j = i1 at *
      clear hadd hfin hl hv hA hB hC
      by_cases hb : A < B
      · rw [decide_eq_true hb] at hlt
        have HR : Hid (lim (ru p) ws s = j - 1) := hide (by rw [← HL.out, HLL.out, if_pos hb])
        clear HLL hb
        generalize j - 1 = j1 at *
        go_wp2
        go_quiet (fail)
        go_wp2
        go_ret
        exact ⟨by rw [HR.out]; rfl, grown_trans HG.out (grown_drewN _ _)⟩
      · rw [decide_eq_false hb] at hlt
        have HR : Hid (lf (ru p) ws s g (j + 1 - 1) = lim (ru p) ws s) := hide (by rw [← HL.out, HLL.out, if_neg hb]; rfl)
        clear HLL hb
        go_wp2
        go_quiet (fail)
        go_wp2
        go_roundg g
        case measure => omega
        case rel => exact ⟨j + 1, by omega, by omega, by go_num, hide (grown_trans HG.out (grown_drewN _ _)), HR⟩
    · have hu : j = s + 1 := by omega
      have hk : gk = 0 := by omega
      subst hk
      have HR : Hid (lim (ru p) ws s = s) := hide (by have h := HL.out; rw [hu] at h; exact h.symm)
      have hu2 : ¬ (j : Int) ≤ (s : Int) := by omega
      clear hu HL
      go_wp2
      go_ret
      exact ⟨by rw [HR.out]; rfl, HG.out⟩
end Go.Proofs.Ytbebblhnhpdpjaa
