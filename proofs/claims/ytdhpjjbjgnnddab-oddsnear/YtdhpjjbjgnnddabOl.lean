/- The contract of Nearest. -/
import Derived.Test.YtdhpjjbjgnnddabOk
import Derived.Test.YtdhpjjbjgnnddabOc
namespace Go.Proofs.Ytdhpjjbjgnnddab
open Go.RowKit Ieee
attribute [local go_sem ↓] Go.wp_at_zero Go.wp_at_succ

theorem isnan_any (r : Nat) (w : World) : Calls Try.prog 18 #[.float .f64 r] w fun e w' => e = .returned (.bool (FloatKind.f64.format.order r r != some .eq)) ∧ w' = w := by
  generalize hB : (FloatKind.f64.format.order r r != some .eq) = B
  go_enter Try.func18, Try.ntmps18
  go_wp2
  go_ret
  exact ⟨rfl, rfl⟩
theorem isnan_as (r : Nat) (b : Bool) (w : World) (hb : (FloatKind.f64.format.order r r == some .eq) = b) : Calls Try.prog 18 #[.float .f64 r] w fun e w' => e = .returned (.bool (!b)) ∧ w' = w := by
  have h := isnan_any r w
  have e : (FloatKind.f64.format.order r r != some .eq) = !b := by rw [← hb]; rfl
  rwa [e] at h

theorem order_inf {r : Nat} {c : Nat} (h : double.read r = .infinity (sg r)) (hc : Fin64 c) : FloatKind.f64.format.order r c = some (if sg r then .lt else .gt) := by
  obtain ⟨m, k, ex, -⟩ := read_fin hc
  rw [f64_double]
  unfold Format.order
  rw [h, ex]
  unfold Datum.order
  rfl
theorem order_inf_self {r : Nat} (h : double.read r = .infinity (sg r)) : FloatKind.f64.format.order r r = some .eq := by
  rw [f64_double]
  unfold Format.order
  rw [h]
  unfold Datum.order
  cases sg r <;> rfl
theorem order_nan {r t : Nat} (c : Nat) (h : double.read r = .nan (sg r) t) : FloatKind.f64.format.order r c = none := by
  rw [f64_double]
  unfold Format.order
  rw [h]
  unfold Datum.order
  rfl

theorem geq_of {o : Option Ordering} (h : (o == some .lt) = true) : (o == some .gt || o == some .eq) = false := by
  have : o = some .lt := by simpa using h
  subst this; rfl
theorem geq_not {r c : Nat} (hr : Fin64 r) (hc : Fin64 c) (h : (FloatKind.f64.format.order r c == some .lt) = false) : (FloatKind.f64.format.order r c == some .gt || FloatKind.f64.format.order r c == some .eq) = true := by
  rw [f64_double, order_fin hr hc] at h ⊢
  generalize compare (sv r) (sv c) = o at *
  cases o
  · exact absurd h (by decide)
  · rfl
  · rfl

/-- What a float is told by, to be walked. -/
theorem near_of (x r : Nat) (v e : Int) (nan lo hi : Bool) (w w1 : World) (hrun : (callFunc 17 #[.float .f64 x]).run Try.prog w = .ok (.value (.float .f64 r)) w1) (hg : w.grownBy w1 none)
    (hn : (FloatKind.f64.format.order r r == some .eq) = !nan) (hlo : (FloatKind.f64.format.order r 14114281232179134464 == some .lt) = lo)
    (hhi : (FloatKind.f64.format.order r 4890909195324358656 == some .gt || FloatKind.f64.format.order r 4890909195324358656 == some .eq) = hi)
    (hbad : (nan || lo || hi) = true → v = 0 ∧ e = 250) (hgood : (nan || lo || hi) = false → e = 0 ∧ (convert 27 2 (.float .f64 r)).run Try.prog w1 = .ok (.int .i64 v) w1) :
    Calls Try.prog 9 #[.float .f64 x] w fun e' w' => e' = .returned (.tuple #[.int .i64 v, .int .i64 e]) ∧ w.grownBy w' none := by
  have HG := hide hg
  have HN := hide (isnan_as r (!nan) w1 hn)
  have HB := hide hbad
  have HC := hide hgood
  clear hg hn hbad hgood
  cases nan
  · cases lo
    · cases hi
      · obtain ⟨rfl, hcv⟩ := HC.out rfl
        go_enter Try.func9, Try.ntmps9
        go_wp2_with fail
        refine HN.out.mono ?_
        rintro e w2 ⟨rfl, hw⟩
        obtain rfl := hw.symm
        clear hw
        go_wp2
        go_ret2
        exact ⟨rfl, HG.out⟩
      · obtain ⟨rfl, rfl⟩ := HB.out rfl
        go_enter Try.func9, Try.ntmps9
        go_wp2_with fail
        refine HN.out.mono ?_
        rintro e w2 ⟨rfl, hw⟩
        obtain rfl := hw.symm
        clear hw
        go_wp2
        go_ret2
        exact ⟨rfl, HG.out⟩
    · obtain ⟨rfl, rfl⟩ := HB.out rfl
      clear hhi
      go_enter Try.func9, Try.ntmps9
      go_wp2_with fail
      refine HN.out.mono ?_
      rintro e w2 ⟨rfl, hw⟩
      obtain rfl := hw.symm
      clear hw
      go_wp2
      go_ret2
      exact ⟨rfl, HG.out⟩
  · obtain ⟨rfl, rfl⟩ := HB.out rfl
    clear hlo hhi
    go_enter Try.func9, Try.ntmps9
    go_wp2_with fail
    refine HN.out.mono ?_
    rintro e w2 ⟨rfl, hw⟩
    obtain rfl := hw.symm
    clear hw
    go_wp2
    go_ret2
    exact ⟨rfl, HG.out⟩

theorem near_any (x : Nat) (w : World) : Calls Try.prog 9 #[.float .f64 x] w fun e w' => e = .returned (.tuple #[.int .i64 (nV x), .int .i64 (nE x)]) ∧ w.grownBy w' none := by
  obtain ⟨r, w1, hrun, hg, hfin, hinf⟩ := run_rte x w
  by_cases hx : x % 2 ^ 63 < 2047 * 2 ^ 52
  · obtain ⟨f1, f2, f3⟩ := hfin hx
    have hlo := lss_lo f1 f2 f3
    have hhi := geq_hi f1 f2 f3
    have htz := tz_whole f2 f3
    by_cases h1 : NN x < -9223372036854775808
    · have e1 : nV x = 0 := by unfold nV; rw [if_neg (by omega)]
      have e2 : nE x = 250 := by unfold nE; rw [if_neg (by omega)]
      rw [e1, e2]
      rw [decide_eq_true h1] at hlo
      exact near_of x r _ _ false true _ w w1 hrun hg (order_self f1) hlo rfl (fun _ => ⟨rfl, rfl⟩) (fun h => by simp at h)
    · rw [decide_eq_false h1] at hlo
      by_cases h2 : NN x < 9223372036854775808
      · have e1 : nV x = NN x := by unfold nV; rw [if_pos ⟨hx, by omega, h2⟩]
        have e2 : nE x = 0 := by unfold nE; rw [if_pos ⟨hx, by omega, h2⟩]
        rw [e1, e2]
        rw [decide_eq_true h2] at hhi
        refine near_of x r _ _ false false false w w1 hrun hg (order_self f1) hlo (geq_of hhi) (fun h => by simp at h) (fun _ => ⟨rfl, ?_⟩)
        exact run_convert_float_int (P := Try.prog) w1 27 2 .f64 .i64 r (NN x) (by rw [Try.underlying27]; rfl) Try.underlying2 (by rw [← htz]; exact toInt_ok f1 (by omega) (by omega))
      · have e1 : nV x = 0 := by unfold nV; rw [if_neg (by omega)]
        have e2 : nE x = 250 := by unfold nE; rw [if_neg (by omega)]
        rw [e1, e2]
        rw [decide_eq_false h2] at hhi
        exact near_of x r _ _ false false true w w1 hrun hg (order_self f1) hlo (geq_not f1 hi_word.1 hhi) (fun _ => ⟨rfl, rfl⟩) (fun h => by simp at h)
  · have e1 : nV x = 0 := by unfold nV; rw [if_neg (by omega)]
    have e2 : nE x = 250 := by unfold nE; rw [if_neg (by omega)]
    rw [e1, e2]
    rcases read_big (hinf hx) with hr | ⟨t, hr⟩
    · have o1 := order_inf_self hr
      have o2 := order_inf hr lo_word.1
      have o3 := order_inf hr hi_word.1
      cases hs : sg r
      · rw [hs] at o2 o3
        exact near_of x r _ _ false false true w w1 hrun hg (by rw [o1]; rfl) (by rw [o2]; rfl) (by rw [o3]; rfl) (fun _ => ⟨rfl, rfl⟩) (fun h => by simp at h)
      · rw [hs] at o2 o3
        exact near_of x r _ _ false true false w w1 hrun hg (by rw [o1]; rfl) (by rw [o2]; rfl) (by rw [o3]; rfl) (fun _ => ⟨rfl, rfl⟩) (fun h => by simp at h)
    · exact near_of x r _ _ true false false w w1 hrun hg (by rw [order_nan _ hr]; rfl) (by rw [order_nan _ hr]; rfl) (by rw [order_nan _ hr]; rfl) (fun _ => ⟨rfl, rfl⟩) (fun h => by simp at h)
end Go.Proofs.Ytdhpjjbjgnnddab
