/- A less of things: a text and a float. -/
import Derived.Test.YtkbhjdjdjfdikaaHb
namespace Go.Proofs.Ytkbhjdjdjfdikaa.Th
open Go.RowKit Ap Go.Proofs.Ytkbhjdjdjfdikaa
section
variable {P : Program} (w : World) (a : Addr) (m : Mode)
theorem run_store_float (k : FloatKind) (b : Nat) : (store a (.float k b) m).run P w = stored P w a (.float k b) m := run_store P w a _ m rfl
end
/-- A thing. -/
structure It where
  s : ByteArray
  f : Nat
instance : Inhabited It := ⟨⟨⟨#[]⟩, 0⟩⟩
/-- .. as a value. -/
def It.v (x : It) : Value := .agg #[.string x.s, .float .f64 x.f]
structure Les where
  k : Nat
  cap : Array Value
  lt : It → It → Bool
  ok : It → Prop
  I : World → Prop
  F : Nat → Prop
  S : Nat → Prop
structure Les.Ok (L : Les) : Prop where
  kind : L.k = 24 ∧ L.cap = #[]
  call : ∀ a b w, L.I w → L.ok a → L.ok b → Calls Try.prog L.k (#[.agg #[.string a.s, .float .f64 a.f], .agg #[.string b.s, .float .f64 b.f]] ++ L.cap) w fun e w' => e = .returned (.bool (L.lt a b)) ∧ L.I w' ∧ Kept w w' L.S
  keep : ∀ (w w' : World) (X : Nat → Prop), L.I w → Kept w w' X → (∀ i, X i → ¬ L.F i) → L.I w'
  below : ∀ (w : World) i, L.I w → L.F i → i < w.heap.size
  sub : ∀ i, L.S i → L.F i
def Les.fv (L : Les) : Value := .func (.func L.k) #[] L.cap
/-- The heap's own cells. -/
def hpc (L : Les) (h : Nat) (N : Int) (ve vl : Value) (mb : Nat) : List Value := [.pointer (some ⟨h, 0, none⟩), L.fv, .bool false, .int .i64 N, ve, vl, .map (some mb)]
theorem idle_any (p : Addr) (h : Nat) (w : World) (hp : w.cell? p = some (.pointer (some ⟨h, 0, none⟩))) (hc : ∃ v, w.cell? ⟨h, 2, none⟩ = some v) (hz : w.frozen? ⟨h, 2, none⟩ = false) :
    CallsD Try.prog 83 #[.pointer (some p)] .returning w fun e u' w' => e = .returned (.tuple #[]) ∧ u' = .returning ∧ w' = w.setCell ⟨h, 2, none⟩ (.bool false) := by
  obtain ⟨v, hc⟩ := hc
  refine callsD_of_wpS Try.func83 rfl fun c₀ cs hu => ?_
  apply wpS_seq
  apply wpS_region
  simp [wpOpsS, go_sem, recoverD, hu, Try.ntmps83, Exit.thenS, hp, hc, hz]
  apply wpS_region
  cases c₀
  simp_all [wpOpsS, go_sem, recoverD, bodyPostS, results, Try.results83]
end Go.Proofs.Ytkbhjdjdjfdikaa.Th
