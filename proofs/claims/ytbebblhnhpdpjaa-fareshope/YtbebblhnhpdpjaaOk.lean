/- Externs: a float's bits, to the nearest whole number. -/
import Derived.Test.YtbebblhnhpdpjaaFn
import Derived.Test.YtbebblhnhpdpjaaOb
import Derived.Laws.Externs
namespace Go.Proofs.Ytbebblhnhpdpjaa
open Go.RowKit Ieee

theorem ext34 (args : Array Value) (w : World) : (callFunc 48 args).run Try.prog w = ((Extern.MathFloatBits.float64bits args).run Try.prog w).andThen fun v w' => .ok (.value v) w' := run_callFunc_extern Try.func48 (by kernel_rfl) (by kernel_rfl) (by kernel_rfl) (by kernel_rfl) args w
theorem ext29 (args : Array Value) (w : World) : (callFunc 49 args).run Try.prog w = ((Extern.MathFloor.toIntegral "math.RoundToEven" .even args).run Try.prog w).andThen fun v w' => .ok (.value v) w' := run_callFunc_extern Try.func49 (by kernel_rfl) (by kernel_rfl) (by kernel_rfl) (by kernel_rfl) args w
theorem run_bits (b : Nat) (w : World) : (callFunc 48 #[.float .f64 b]).run Try.prog w = .ok (.value (.int .u64 (b : Int))) w := by
  rw [ext34]; rfl
/-- The entry's body. -/
def rteBody (x : Nat) : Sem Value :=
  match FloatKind.f64.decode x with
  | .nan s t =>
    if FloatKind.f64.format.quiet t = t then pure (.float .f64 x) else do
    let kept ← choose (.extern "math.Floor,Ceil,Trunc,RoundToEven.signallingNaN kept" 2)
    pure (.float .f64 (if kept == 1 then x else FloatKind.f64.encode (.nan s (FloatKind.f64.format.quiet t))))
  | d => pure (.float .f64 (FloatKind.f64.encode (d.integral .even)))
theorem rte_body (x : Nat) : Extern.MathFloor.toIntegral "math.RoundToEven" .even #[.float .f64 x] = rteBody x := rfl

theorem run_rte (x : Nat) (w : World) : ∃ r w', (callFunc 49 #[.float .f64 x]).run Try.prog w = .ok (.value (.float .f64 r)) w' ∧ w.grownBy w' none ∧
    (Fin64 x → Fin64 r ∧ sg r = sg x ∧ mg r = rhe (mg x) 1074 * pw 1074) ∧ (¬ Fin64 x → ¬ Fin64 r) := by
  rw [ext29, rte_body]
  unfold rteBody
  by_cases hx : Fin64 x
  · obtain ⟨r, h1, h2⟩ := rte_fin hx
    obtain ⟨m, k, ex, -⟩ := read_fin hx
    have ex' : FloatKind.f64.decode x = .number (sg x) m (-1074 + (k : Nat)) := ex
    rw [ex'] 
    rw [ex] at h1
    exact ⟨r, w, by rw [← h1]; rfl, grown_refl _ _, fun _ => h2, fun h => absurd hx h⟩
  · rcases read_big hx with hr | ⟨t, hr⟩
    · have ex' : FloatKind.f64.decode x = .infinity (sg x) := hr
      rw [ex']
      refine ⟨FloatKind.f64.encode (.infinity (sg x)), w, rfl, grown_refl _ _, fun h => absurd h hx, fun _ => ?_⟩
      show ¬ Fin64 (double.word (sg x) double.infRung)
      unfold Fin64
      rw [inf_eq, word_mod (by omega)]
      omega
    · have ex' : FloatKind.f64.decode x = .nan (sg x) t := hr
      rw [ex']
      dsimp only
      by_cases hq : FloatKind.f64.format.quiet t = t
      · rw [if_pos hq]
        exact ⟨x, w, rfl, grown_refl _ _, fun h => absurd h hx, fun _ => hx⟩
      · rw [if_neg hq]
        obtain ⟨kept, w', hk, hg⟩ : ∃ kept w', (choose (.extern "math.Floor,Ceil,Trunc,RoundToEven.signallingNaN kept" 2)).run Try.prog w = .ok kept w' ∧ w.grownBy w' none := by
          rw [run_choose_drew]
          split
          · exact ⟨_, _, rfl, grown_refl _ _⟩
          · exact ⟨_, _, rfl, grown_drew _ _⟩
        rw [Sem.run_bind, hk]
        refine ⟨if kept == 1 then x else FloatKind.f64.encode (.nan (sg x) (FloatKind.f64.format.quiet t)), w', rfl, hg, fun h => absurd h hx, fun _ => ?_⟩
        split
        · exact hx
        · show ¬ Fin64 (double.word (sg x) (double.infRung + _ % double.binade))
          unfold Fin64
          have hb : ∀ n, n % double.binade < 2 ^ 52 := fun n => by rw [binade_eq]; exact Nat.mod_lt _ (by omega)
          have := hb (FloatKind.f64.format.quiet t)
          rw [inf_eq, word_mod (by omega)]
          omega
end Go.Proofs.Ytbebblhnhpdpjaa
