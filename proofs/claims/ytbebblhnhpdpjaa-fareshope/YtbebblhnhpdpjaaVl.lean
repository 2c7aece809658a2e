/- Fares: the contract of the document's Units; FaresUnits. -/
import Derived.Test.YtbebblhnhpdpjaaVk
namespace Go.Proofs.Ytbebblhnhpdpjaa
open Go.RowKit Ieee
attribute [local go_sem ↓] Go.wp_at_zero Go.wp_at_succ
attribute [local go_sem] run_store_float

theorem order_sv {x c : Nat} (hx : Fin64 x) (hc : Fin64 c) : ((FloatKind.f64.format.order x c == some .gt || FloatKind.f64.format.order x c == some .eq) = decide (sv c ≤ sv x)) ∧
    ((FloatKind.f64.format.order x c == some .lt) = decide (sv x < sv c)) ∧ ((FloatKind.f64.format.order x c == some .lt || FloatKind.f64.format.order x c == some .eq) = decide (sv x ≤ sv c)) ∧
    ((FloatKind.f64.format.order x c == some .gt) = decide (sv c < sv x)) ∧ ((FloatKind.f64.format.order x c == some .eq) = decide (sv x = sv c)) := by
  rw [f64_double, order_fin hx hc]
  obtain ⟨h1, h2, h3⟩ := comp_int (sv x) (sv c)
  simp only [some_beq]
  generalize compare (sv x) (sv c) = o at *
  cases o <;> simp at h1 h2 h3 <;> simp <;> omega


theorem runits_bad (x y : Nat) (a b c : Bool) (w w0 : World) (hmul : (binOp .mul 33 (.float .f64 x) (.float .f64 4636737291354636288)).run Try.prog w = .ok (.float .f64 y) w0) (hg : w.grownBy w0 none)
    (ha : (FloatKind.f64.format.order y y != some .eq) = a) (hb : (FloatKind.f64.format.order y 4890909195324358656 == some .gt || FloatKind.f64.format.order y 4890909195324358656 == some .eq) = b)
    (hc : (FloatKind.f64.format.order y 14114281232179134464 == some .lt) = c) (habc : (a || b || c) = true) :
    Calls Try.prog 24 #[.float .f64 x] w fun e' w' => e' = .returned (.tuple #[.int .i64 0, .int .i64 250]) ∧ w.grownBy w' none := by
  have HG := hide hg
  clear hg
  cases a
  · cases b
    · obtain rfl : c = true := by simpa using habc
      clear habc
      go_enter Try.func24, Try.ntmps24
      go_wp2
      go_ret2
      exact ⟨rfl, HG.out⟩
    · clear habc hc
      go_enter Try.func24, Try.ntmps24
      go_wp2
      go_ret2
      exact ⟨rfl, HG.out⟩
  · clear habc hb hc
    go_enter Try.func24, Try.ntmps24
    go_wp2
    go_ret2
    exact ⟨rfl, HG.out⟩

set_option maxHeartbeats 1000000 in
theorem runits_good (x y r : Nat) (n N : Int) (w w0 : World) (hmul : (binOp .mul 33 (.float .f64 x) (.float .f64 4636737291354636288)).run Try.prog w = .ok (.float .f64 y) w0) (hg : w.grownBy w0 none)
    (ha : (FloatKind.f64.format.order y y != some .eq) = false) (hb : (FloatKind.f64.format.order y 4890909195324358656 == some .gt || FloatKind.f64.format.order y 4890909195324358656 == some .eq) = false)
    (hc : (FloatKind.f64.format.order y 14114281232179134464 == some .lt) = false)
    (hv : (convert 33 2 (.float .f64 y)).run Try.prog w0 = .ok (.int .i64 n) w0)
    (hsub : floatBits .sub .f64 y (floatOfInt .f64 n) = some r)
    (g e o l m : Bool) (h1 : (FloatKind.f64.format.order r 4602678819172646912 == some .gt) = g) (h2 : (FloatKind.f64.format.order r 4602678819172646912 == some .eq) = e) (h3 : (n.tmod 2 != 0) = o)
    (h4 : (FloatKind.f64.format.order r 13826050856027422720 == some .lt) = l) (h5 : (FloatKind.f64.format.order r 13826050856027422720 == some .eq) = m)
    (hx : g = true ∨ e = true → l = false ∧ m = false) (hy : g = true → e = false) (hz : l = true → m = false)
    (hN : N = if (g || (e && o)) = true then n + 1 else if (l || (m && o)) = true then n - 1 else n) (hr : -9223372036854775808 ≤ N ∧ N < 9223372036854775808) :
    Calls Try.prog 24 #[.float .f64 x] w fun e' w' => e' = .returned (.tuple #[.int .i64 N, .int .i64 0]) ∧ w.grownBy w' none := by
  have HG := hide hg
  have hs := run_sub hsub
  have hw1 : N = n + 1 → IntKind.i64.wrap (n + 1) = N := fun e => by rw [IntKind.wrap_i64]; omega
  have hw2 : N = n - 1 → IntKind.i64.wrap (n - 1) = N := fun e => by rw [IntKind.wrap_i64]; omega
  clear hg hsub hr
  cases g
  · cases e
    · cases l
      · cases m
        · simp at hN
          subst hN
          clear hx hy hz hw1 hw2
          go_enter Try.func24, Try.ntmps24
          go_wp2
          go_ret2
          exact ⟨rfl, HG.out⟩
        · cases o
          · simp at hN
            subst hN
            clear hx hy hz hw1 hw2
            go_enter Try.func24, Try.ntmps24
            go_wp2
            go_ret2
            exact ⟨rfl, HG.out⟩
          · simp at hN
            have hw := hw2 hN
            clear hx hy hz hw1 hw2 hN
            go_enter Try.func24, Try.ntmps24
            go_wp2
            go_ret2
            exact ⟨rfl, HG.out⟩
      · have hm := hz rfl
        subst hm
        simp at hN
        have hw := hw2 hN
        clear hx hy hz hw1 hw2 hN
        go_enter Try.func24, Try.ntmps24
        go_wp2
        go_ret2
        exact ⟨rfl, HG.out⟩
    · obtain ⟨rfl, rfl⟩ := hx (Or.inr rfl)
      cases o
      · simp at hN
        subst hN
        clear hx hy hz hw1 hw2
        go_enter Try.func24, Try.ntmps24
        go_wp2
        go_ret2
        exact ⟨rfl, HG.out⟩
      · simp at hN
        have hw := hw1 hN
        clear hx hy hz hw1 hw2 hN
        go_enter Try.func24, Try.ntmps24
        go_wp2
        go_ret2
        exact ⟨rfl, HG.out⟩
  · obtain ⟨rfl, rfl⟩ := hx (Or.inl rfl)
    have he := hy rfl
    subst he
    simp at hN
    have hw := hw1 hN
    clear hx hy hz hw1 hw2 hN
    go_enter Try.func24, Try.ntmps24
    go_wp2
    go_ret2
    exact ⟨rfl, HG.out⟩
end Go.Proofs.Ytbebblhnhpdpjaa
