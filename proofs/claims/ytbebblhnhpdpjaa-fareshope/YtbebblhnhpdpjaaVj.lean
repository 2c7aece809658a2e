/- Fares: the contract of Units. -/
import Derived.Test.YtbebblhnhpdpjaaOk
import Derived.Test.YtbebblhnhpdpjaaVi
namespace Go.Proofs.Ytbebblhnhpdpjaa
open Go.RowKit Ieee
attribute [local go_sem ↓] Go.wp_at_zero Go.wp_at_succ

theorem isnan_any (r : Nat) (w : World) : Calls Try.prog 50 #[.float .f64 r] w fun e w' => e = .returned (.bool (FloatKind.f64.format.order r r != some .eq)) ∧ w' = w := by
  generalize hB : (FloatKind.f64.format.order r r != some .eq) = B
  go_enter Try.func50, Try.ntmps50
  go_wp2
  go_ret
  exact ⟨rfl, rfl⟩
theorem isnan_as (r : Nat) (b : Bool) (w : World) (hb : (FloatKind.f64.format.order r r == some .eq) = b) : Calls Try.prog 50 #[.float .f64 r] w fun e w' => e = .returned (.bool (!b)) ∧ w' = w := by
  have h := isnan_any r w
  have e : (FloatKind.f64.format.order r r != some .eq) = !b := by rw [← hb]; rfl
  rwa [e] at h

theorem order_inf {r : Nat} {c : Nat} (h : double.read r = .infinity (sg r)) (hc : Fin64 c) : FloatKind.f64.format.order r c = some (if sg r then .lt else .gt) := by
  obtain ⟨m, k, ex, -⟩ := read_fin hc
  rw [f64_double]
  unfold Format.order
  rw [h, ex]
  unfold Datum.order
  rfl
theorem order_inf_self {r : Nat} (h : double.read r = .infinity (sg r)) : FloatKind.f64.format.order r r = some .eq := by
  rw [f64_double]
  unfold Format.order
  rw [h]
  unfold Datum.order
  cases sg r <;> rfl
theorem order_nan {r t : Nat} (c : Nat) (h : double.read r = .nan (sg r) t) : FloatKind.f64.format.order r c = none := by
  rw [f64_double]
  unfold Format.order
  rw [h]
  unfold Datum.order
  rfl

theorem geq_of {o : Option Ordering} (h : (o == some .lt) = true) : (o == some .gt || o == some .eq) = false := by
  have : o = some .lt := by simpa using h
  subst this; rfl
theorem geq_not {r c : Nat} (hr : Fin64 r) (hc : Fin64 c) (h : (FloatKind.f64.format.order r c == some .lt) = false) : (FloatKind.f64.format.order r c == some .gt || FloatKind.f64.format.order r c == some .eq) = true := by
  rw [f64_double, order_fin hr hc] at h ⊢
  generalize compare (sv r) (sv c) = o at *
  cases o
  · exact absurd h (by decide)
  · rfl
  · rfl

/-- What a float is told by, to be walked. -/
theorem units_of (x y r : Nat) (v e : Int) (nan lo hi : Bool) (w w0 w1 : World) (hmul : (binOp .mul 33 (.float .f64 x) (.float .f64 4636737291354636288)).run Try.prog w = .ok (.float .f64 y) w0) (hrun : (callFunc 49 #[.float .f64 y]).run Try.prog w0 = .ok (.value (.float .f64 r)) w1) (hg : w.grownBy w1 none)
    (hn : (FloatKind.f64.format.order r r == some .eq) = !nan) (hlo : (FloatKind.f64.format.order r 14114281232179134464 == some .lt) = lo)
    (hhi : (FloatKind.f64.format.order r 4890909195324358656 == some .gt || FloatKind.f64.format.order r 4890909195324358656 == some .eq) = hi)
    (hbad : (nan || lo || hi) = true → v = 0 ∧ e = 250) (hgood : (nan || lo || hi) = false → e = 0 ∧ (convert 33 2 (.float .f64 r)).run Try.prog w1 = .ok (.int .i64 v) w1) :
    Calls Try.prog 23 #[.float .f64 x] w fun e' w' => e' = .returned (.tuple #[.int .i64 v, .int .i64 e]) ∧ w.grownBy w' none := by
  have HG := hide hg
  have HN := hide (isnan_as r (!nan) w1 hn)
  have HB := hide hbad
  have HC := hide hgood
  clear hg hn hbad hgood
  cases nan
  · cases lo
    · cases hi
      · obtain ⟨rfl, hcv⟩ := HC.out rfl
        go_enter Try.func23, Try.ntmps23
        go_wp2_with fail
        refine HN.out.mono ?_
        rintro e w2 ⟨rfl, hw⟩
        obtain rfl := hw.symm
        clear hw
        go_wp2
        go_ret2
        exact ⟨rfl, HG.out⟩
      · obtain ⟨rfl, rfl⟩ := HB.out rfl
        go_enter Try.func23, Try.ntmps23
        go_wp2_with fail
        refine HN.out.mono ?_
        rintro e w2 ⟨rfl, hw⟩
        obtain rfl := hw.symm
        clear hw
        go_wp2
        go_ret2
        exact ⟨rfl, HG.out⟩
    · obtain ⟨rfl, rfl⟩ := HB.out rfl
      clear hhi
      go_enter Try.func23, Try.ntmps23
      go_wp2_with fail
      refine HN.out.mono ?_
      rintro e w2 ⟨rfl, hw⟩
      obtain rfl := hw.symm
      clear hw
      go_wp2
      go_ret2
      exact ⟨rfl, HG.out⟩
  · obtain ⟨rfl, rfl⟩ := HB.out rfl
    clear hlo hhi
    go_enter Try.func23, Try.ntmps23
    go_wp2_with fail
    refine HN.out.mono ?_
    rintro e w2 ⟨rfl, hw⟩
    obtain rfl := hw.symm
    clear hw
    go_wp2
    go_ret2
    exact ⟨rfl, HG.out⟩

theorem units_at (x0 x : Nat) (w0 w : World) (hmul : (binOp .mul 33 (.float .f64 x0) (.float .f64 4636737291354636288)).run Try.prog w0 = .ok (.float .f64 x) w) (hg0 : w0.grownBy w none) : Calls Try.prog 23 #[.float .f64 x0] w0 fun e w' => e = .returned (.tuple #[.int .i64 (nV x), .int .i64 (nE x)]) ∧ w0.grownBy w' none := by
  obtain ⟨r, w1, hrun, hg, hfin, hinf⟩ := run_rte x w
  by_cases hx : x % 2 ^ 63 < 2047 * 2 ^ 52
  · obtain ⟨f1, f2, f3⟩ := hfin hx
    have hlo := lss_lo f1 f2 f3
    have hhi := geq_hi f1 f2 f3
    have htz := tz_whole f2 f3
    by_cases h1 : NN x < -9223372036854775808
    · have e1 : nV x = 0 := by unfold nV; rw [if_neg (by omega)]
      have e2 : nE x = 250 := by unfold nE; rw [if_neg (by omega)]
      rw [e1, e2]
      rw [decide_eq_true h1] at hlo
      exact units_of x0 x r _ _ false true _ w0 w w1 hmul hrun (grown_trans hg0 hg) (order_self f1) hlo rfl (fun _ => ⟨rfl, rfl⟩) (fun h => by simp at h)
    · rw [decide_eq_false h1] at hlo
      by_cases h2 : NN x < 9223372036854775808
      · have e1 : nV x = NN x := by unfold nV; rw [if_pos ⟨hx, by omega, h2⟩]
        have e2 : nE x = 0 := by unfold nE; rw [if_pos ⟨hx, by omega, h2⟩]
        rw [e1, e2]
        rw [decide_eq_true h2] at hhi
        refine units_of x0 x r _ _ false false false w0 w w1 hmul hrun (grown_trans hg0 hg) (order_self f1) hlo (geq_of hhi) (fun h => by simp at h) (fun _ => ⟨rfl, ?_⟩)
        exact run_convert_float_int (P := Try.prog) w1 33 2 .f64 .i64 r (NN x) (by rw [Try.underlying33]; rfl) Try.underlying2 (by rw [← htz]; exact toInt_ok f1 (by omega) (by omega))
      · have e1 : nV x = 0 := by unfold nV; rw [if_neg (by omega)]
        have e2 : nE x = 250 := by unfold nE; rw [if_neg (by omega)]
        rw [e1, e2]
        rw [decide_eq_false h2] at hhi
        exact units_of x0 x r _ _ false false true w0 w w1 hmul hrun (grown_trans hg0 hg) (order_self f1) hlo (geq_not f1 hi_word.1 hhi) (fun _ => ⟨rfl, rfl⟩) (fun h => by simp at h)
  · have e1 : nV x = 0 := by unfold nV; rw [if_neg (by omega)]
    have e2 : nE x = 250 := by unfold nE; rw [if_neg (by omega)]
    rw [e1, e2]
    rcases read_big (hinf hx) with hr | ⟨t, hr⟩
    · have o1 := order_inf_self hr
      have o2 := order_inf hr lo_word.1
      have o3 := order_inf hr hi_word.1
      cases hs : sg r
      · rw [hs] at o2 o3
        exact units_of x0 x r _ _ false false true w0 w w1 hmul hrun (grown_trans hg0 hg) (by rw [o1]; rfl) (by rw [o2]; rfl) (by rw [o3]; rfl) (fun _ => ⟨rfl, rfl⟩) (fun h => by simp at h)
      · rw [hs] at o2 o3
        exact units_of x0 x r _ _ false true false w0 w w1 hmul hrun (grown_trans hg0 hg) (by rw [o1]; rfl) (by rw [o2]; rfl) (by rw [o3]; rfl) (fun _ => ⟨rfl, rfl⟩) (fun h => by simp at h)
    · exact units_of x0 x r _ _ true false false w0 w w1 hmul hrun (grown_trans hg0 hg) (by rw [order_nan _ hr]; rfl) (by rw [order_nan _ hr]; rfl) (by rw [order_nan _ hr]; rfl) (fun _ => ⟨rfl, rfl⟩) (fun h => by simp at h)

/-- What is rounded. -/
def yv (x : Nat) : Option Nat := floatBits .mul .f64 x 4636737291354636288
def uV (x : Nat) : Int := match yv x with | some y => nV y | none => 0
def uE (x : Nat) : Int := match yv x with | some y => nE y | none => 250
theorem nan_word (t : Nat) : ¬ Fin64 ((t % 2) * 2 ^ 63 + 0x7ff0000000000000 + 1 + (t / 2) % (2 ^ 52 - 1)) := by
  unfold Fin64
  have h1 := Nat.mod_lt (t / 2) (show 2 ^ 52 - 1 > 0 by omega)
  generalize t / 2 % (2 ^ 52 - 1) = a at *
  have h2 : t % 2 < 2 := Nat.mod_lt _ (by omega)
  generalize t % 2 = b at *
  omega
theorem mul_any (x c : Nat) (w : World) : ∃ y w', (binOp .mul 33 (.float .f64 x) (.float .f64 c)).run Try.prog w = .ok (.float .f64 y) w' ∧ w.grownBy w' none ∧ (floatBits .mul .f64 x c = some y ∨ floatBits .mul .f64 x c = none ∧ ¬ Fin64 y) := by
  cases h : floatBits .mul .f64 x c with
  | some y => exact ⟨y, w, run_mul h w, grown_refl _ _, .inl rfl⟩
  | none =>
    have e : (binOp .mul 33 (.float .f64 x) (.float .f64 c)) = (do pure (.float .f64 (← choose (.nanBits .f64 x c)))) := by
      have h2 : FloatKind.f64.format.mul x c = none := h
      show Op.floatArith .mul .f64 x c = _
      unfold Op.floatArith
      simp [h2]
    rw [e]
    refine ⟨_, w.drew, ?_, grown_drew _ _, .inr ⟨rfl, nan_word (w.tape w.drawn (.nanBits .f64 x c))⟩⟩
    rw [Sem.run_bind, run_choose_drew]
    rfl
theorem nV_not {y : Nat} (h : ¬ Fin64 y) : nV y = 0 ∧ nE y = 250 := by
  unfold Fin64 at h
  exact ⟨by unfold nV; rw [if_neg (by omega)], by unfold nE; rw [if_neg (by omega)]⟩
theorem units_any (x : Nat) (w : World) : Calls Try.prog 23 #[.float .f64 x] w fun e w' => e = .returned (.tuple #[.int .i64 (uV x), .int .i64 (uE x)]) ∧ w.grownBy w' none := by
  obtain ⟨y, w1, h1, h2, h3⟩ := mul_any x 4636737291354636288 w
  have h := units_at x y w w1 h1 h2
  have e : uV x = nV y ∧ uE x = nE y := by
    unfold uV uE yv
    rcases h3 with h3 | ⟨h3, h4⟩
    · rw [h3]; exact ⟨rfl, rfl⟩
    · rw [h3]; have := nV_not h4; exact ⟨this.1.symm, this.2.symm⟩
  rw [e.1, e.2]; exact h
end Go.Proofs.Ytbebblhnhpdpjaa
