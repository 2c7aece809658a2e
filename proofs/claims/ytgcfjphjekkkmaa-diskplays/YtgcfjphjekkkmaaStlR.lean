/- What a crash makes of the sectors, row by row. -/
import Derived.Test.YtgcfjphjekkkmaaSep
import Derived.Test.YtgcfjphjekkkmaaSurv0
namespace Go.Proofs.Ytgcfjphjekkkmaa
open Go.RowKit Ap

def stlR (L : Nat → Nat) (P : List Pr) (R : List (List Nat)) : Nat → List (List Nat)
  | 0 => R
  | j + 1 => match P[j]? with
    | some x => (stlR L P R j).modify x.1 (over (x.2.take (L j)))
    | none => stlR L P R j
theorem stlR_succ (L : Nat → Nat) (P : List Pr) (R : List (List Nat)) (j : Nat) (x : Pr) (h : P[j]? = some x) : stlR L P R (j + 1) = (stlR L P R j).modify x.1 (over (x.2.take (L j))) := by
  rw [stlR, h]
theorem secs_splice {n size s : Nat} {D ys : List Nat} (hD : D.length = n * size) (hs : s < n) (hy : ys.length ≤ size) : secs n size (splice D (s * size) ys) = (secs n size D).modify s (over ys) := by
  apply List.ext_getElem?
  intro i
  rw [List.getElem?_modify]
  by_cases hi : i < n
  · rw [secs_get _ _ _ _ hi, secs_get _ _ _ _ hi]
    by_cases h : s = i
    · subst h
      rw [secOf_splice_same hD hs hy]; simp
    · rw [secOf_splice_other hD hs hy h]; simp [h]
  · rw [List.getElem?_eq_none (by rw [secs_length]; omega), List.getElem?_eq_none (by rw [secs_length]; omega)]; rfl
theorem secs_stl {n size : Nat} {L : Nat → Nat} {D : List Nat} {W : List Wt} (hD : D.length = n * size) (hW : Fits n size W) (j : Nat) : secs n size (stl size L D W j) = stlR L (abs W) (secs n size D) j := by
  induction j with
  | zero => rfl
  | succ j ih =>
    rw [stl, stlR, abs, List.getElem?_map]
    cases hx : W[j]? with
    | none => simpa [abs] using ih
    | some x =>
      obtain ⟨h1, h2⟩ := hW x (List.mem_of_getElem? hx)
      simp only [Option.map_some]
      show secs n size (splice (stl size L D W j) (x.sec * size) (x.xs.take (L j))) = _
      rw [secs_splice (stl_length hD hW j) h1 (by simp [h2]; omega), ih]
      rfl
theorem stlR_congr {L L' : Nat → Nat} {P : List Pr} {R : List (List Nat)} (j : Nat) (h : ∀ i, i < j → L i = L' i) : stlR L P R j = stlR L' P R j := by
  induction j with
  | zero => rfl
  | succ j ih =>
    rw [stlR, stlR, ih (fun i hi => h i (by omega)), h j (by omega)]
end Go.Proofs.Ytgcfjphjekkkmaa
