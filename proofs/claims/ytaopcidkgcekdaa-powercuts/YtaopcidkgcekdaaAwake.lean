/- The contract of awake. -/
import Derived.Test.YtaopcidkgcekdaaOwn
namespace Go.Proofs.Ytaopcidkgcekdaa
open Go.RowKit Ap
attribute [local go_sem ↓] Go.wp_at_zero Go.wp_at_succ

theorem may_2_64 : mayB 2 64 = true := by decide
theorem may_4_64 : mayB 4 64 = true := by decide
theorem may_1_64 : mayB 1 64 = true := by decide

theorem news_at {w : World} {ad : Addr} {ys : List Nat} (h : At w (some ad) ys) : ∀ j u, (bv ys)[j]? = some u → w.cell? (ad.add j) = some u := by
  intro i v hv
  rw [bv, List.getElem?_map] at hv
  cases hj : ys[i]? with
  | none => simp [hj] at hv
  | some y =>
    simp [hj] at hv
    obtain ⟨a', ea', hc'⟩ := h i y hj
    cases ea'
    rw [← hv]; exact hc'
theorem bv_one (ys : List Nat) : ∀ u ∈ bv ys, u.oneCell' = true := by
  intro v hv; rw [bv, List.mem_map] at hv; obtain ⟨y, _, rfl⟩ := hv; rfl
/-- The world behind New, two fills and two writes, as it is in awake. -/
theorem awake_found (A B : List Nat) (hA : A.length = 64) (hB : B.length = 64) (p q : Nat) :
    found 64 (stl 64 (fun i => lasts (fateK [(1, 0), (2, 3)] i) (fateA [(1, 0), (2, 3)] i) 64) (zs (2 * 64)) [⟨1, p, A⟩, ⟨1, q, B⟩] 2) [] 1 = B.take 3 ++ A.drop 3 := by
  have hF : Fits 2 64 [⟨1, p, A⟩, ⟨1, q, B⟩] := by
    intro x hx
    simp at hx
    rcases hx with rfl | rfl
    · exact ⟨by show 1 < 2; omega, hA⟩
    · exact ⟨by show 1 < 2; omega, hB⟩
  show secOf 64 _ 1 = _
  rw [secOf_stl (n := 2) (zs_length _) hF]
  have l0 : lasts (fateK [(1, 0), (2, 3)] 0) (fateA [(1, 0), (2, 3)] 0) 64 = 64 := rfl
  have l1 : lasts (fateK [(1, 0), (2, 3)] 1) (fateA [(1, 0), (2, 3)] 1) 64 = 3 := by decide
  simp only [stlS, List.getElem?_cons_zero, List.getElem?_cons_succ, if_true, l0, l1]
  rw [List.take_of_length_le (Nat.le_of_eq hA)]
  have e : over A (secOf 64 (zs (2 * 64)) 1) = A := by
    rw [zs_sec 2 64 1 (by omega), over, List.drop_eq_nil_of_le (by simp [zs, hA]), List.append_nil]
  rw [e, over]
  simp [hB]

end Go.Proofs.Ytaopcidkgcekdaa
