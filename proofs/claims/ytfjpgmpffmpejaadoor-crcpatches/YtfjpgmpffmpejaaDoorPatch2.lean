/- Of rows that are alike but for four bytes no two have one sum: what the document's Patch answers is what Patch answers. -/
import Derived.Test.YtfjpgmpffmpejaaDoorPatch
import Derived.Test.YtfjpgmpffmpejaaDoorRef
import Derived.Test.YtfjpgmpffmpejaaDoorLent
namespace Go.Proofs.YtfjpgmpffmpejaaDoor
open Go.RowKit

theorem pch_other (l : List Nat) (at' t i j : Nat) (h : j < at' ∨ at' + i ≤ j) : (pch l at' t i)[j]? = l[j]? := by
  induction i with
  | zero => rfl
  | succ i ih =>
    rw [pch, List.getElem?_set_ne (by omega)]
    exact ih (by omega)
theorem patchL_take (l : List Nat) (at' want : Nat) : (patchL l at' want).take at' = l.take at' := by
  apply List.ext_getElem?
  intro j
  rw [List.getElem?_take, List.getElem?_take]
  split
  · exact pch_other _ _ _ _ _ (Or.inl (by omega))
  · rfl
theorem patchL_drop (l : List Nat) (at' want : Nat) : (patchL l at' want).drop (at' + 4) = l.drop (at' + 4) := by
  apply List.ext_getElem?
  intro j
  rw [List.getElem?_drop, List.getElem?_drop]
  exact pch_other _ _ _ _ _ (Or.inr (by omega))
theorem patchL_sum {l : List Nat} {at' want : Nat} (hl : Bytes l) (h : at' + 4 ≤ l.length) (hw : want < 4294967296) : Poly.more 0 (patchL l at' want) = want :=
  Poly.more_mended l _ at' want hl hw (patchL_length ..) (by omega) (patchL_LE hl h hw)
theorem patchL_back {l : List Nat} {at' want : Nat} (hl : Bytes l) (h : at' + 4 ≤ l.length) (hw : want < 4294967296) : patchL (patchL l at' want) at' (Poly.more 0 l) = l := by
  have hb := patchL_bytes (want := want) hl h
  have hlen := patchL_length l at' want
  have hS := Poly.more_lt l (s := 0) (by decide) hl
  apply Poly.LE_inj (patchL_bytes hb (by omega)) hl (by rw [patchL_length, hlen])
  rw [patchL_LE hb (by omega) hS, patchL_LE hl h hw, Poly.turnOf_back l _ at' want hlen (patchL_sum hl h hw), Poly.xor_cancel]

theorem LE_lt (l : List Nat) (h : Bytes l) : Poly.LE l < 2 ^ (8 * l.length) := by
  induction l with
  | nil => simp [Poly.LE]
  | cons b l ih =>
    have hb := h b (by simp)
    have hl := ih (fun x hx => h x (by simp [hx]))
    rw [Poly.LE, List.length_cons, Nat.mul_add, Nat.mul_one]
    refine Nat.xor_lt_two_pow ?_ ?_
    · exact Nat.lt_of_lt_of_le hb (show 2 ^ 8 ≤ 2 ^ (8 * l.length + 8) from Nat.pow_le_pow_right (by decide) (by omega))
    · rw [Nat.pow_add, show (2 : Nat) ^ 8 = 256 by decide]
      exact Nat.mul_lt_mul_of_pos_right hl (by decide)
theorem split4 (l : List Nat) (p : Nat) : l = l.take p ++ ((l.drop p).take 4 ++ l.drop (p + 4)) := by
  rw [← List.drop_drop, List.take_append_drop, List.take_append_drop]
theorem patch_unique {l m : List Nat} {p : Nat} (hl : Bytes l) (hm : Bytes m) (hn : m.length = l.length) (hp : p + 4 ≤ l.length) (h1 : l.take p = m.take p) (h2 : l.drop (p + 4) = m.drop (p + 4)) (hs : Poly.more 0 l = Poly.more 0 m) : l = m := by
  have bl : Bytes ((l.drop p).take 4) := fun x hx => hl x (List.mem_of_mem_drop (List.mem_of_mem_take hx))
  have bm : Bytes ((m.drop p).take 4) := fun x hx => hm x (List.mem_of_mem_drop (List.mem_of_mem_take hx))
  have ll : ((l.drop p).take 4).length = 4 := by simp; omega
  have lm : ((m.drop p).take 4).length = 4 := by simp; omega
  have lp : (l.take p).length = p := by simp; omega
  have hll := LE_lt _ bl
  have hlm := LE_lt _ bm
  rw [ll] at hll
  rw [lm] at hlm
  have eL : Poly.LE l = Poly.LE (l.take p) ^^^ (Poly.LE ((l.drop p).take 4) ^^^ Poly.LE (l.drop (p + 4)) * 2 ^ 32) * 2 ^ (8 * p) := by
    conv => lhs; rw [split4 l p]
    rw [Poly.LE_append, Poly.LE_append, ll, lp]
  have eM : Poly.LE m = Poly.LE (l.take p) ^^^ (Poly.LE ((m.drop p).take 4) ^^^ Poly.LE (l.drop (p + 4)) * 2 ^ 32) * 2 ^ (8 * p) := by
    conv => lhs; rw [split4 m p]
    rw [Poly.LE_append, Poly.LE_append, lm, ← h1, lp, ← h2]
  obtain ⟨d, hd⟩ : ∃ d, d = Poly.LE ((l.drop p).take 4) ^^^ Poly.LE ((m.drop p).take 4) := ⟨_, rfl⟩
  have hdl : d < 4294967296 := by rw [hd]; exact Poly.xor_lt32 hll hlm
  have hLE : Poly.LE m = Poly.LE l ^^^ d * 2 ^ (8 * p) := by
    rw [eL, eM, hd]
    generalize Poly.LE (l.take p) = A
    generalize Poly.LE ((l.drop p).take 4) = x
    generalize Poly.LE ((m.drop p).take 4) = y
    generalize Poly.LE (l.drop (p + 4)) * 2 ^ 32 = C
    rw [Nat.xor_assoc, ← Poly.xor_mul_pow]
    congr 2
    rw [Poly.xor_swap, Poly.xor_cancel']
  have hd0 : d = 0 := by
    by_cases h0 : d = 0
    · exact h0
    · exact absurd hs (Poly.more_tells 0 l m d (8 * p) hn (by omega) hLE hdl h0)
  have hmid : Poly.LE ((l.drop p).take 4) = Poly.LE ((m.drop p).take 4) := by
    have : Poly.LE ((l.drop p).take 4) ^^^ Poly.LE ((m.drop p).take 4) ^^^ Poly.LE ((m.drop p).take 4) = 0 ^^^ Poly.LE ((m.drop p).take 4) := by rw [← hd, hd0]
    rw [Poly.xor_cancel, Nat.zero_xor] at this
    exact this
  have hmm := Poly.LE_inj bl bm (by omega) hmid
  rw [split4 l p, split4 m p, h1, h2, hmm]

/-- The four bytes of a number. -/
def four (x : Nat) : List Nat := [x % 256, x / 256 % 256, x / 65536 % 256, x / 16777216 % 256]
theorem four_LE (x : Nat) (h : x < 4294967296) : Poly.LE (four x) = x := by
  have e : ∀ (b k : Nat), b < 256 → (b ^^^ k * 256) = k * 256 + b := by
    intro b k hb
    have h1 := Poly.low_high (k * 256 + b) 8
    rw [show (2 : Nat) ^ 8 = 256 by decide, show (k * 256 + b) / 256 * 256 = k * 256 by omega, show (k * 256 + b) % 256 = b by omega] at h1
    rw [Nat.xor_comm]; exact h1
  simp only [four, Poly.LE, Nat.zero_mul, Nat.xor_zero]
  rw [e _ _ (by omega), e _ _ (by omega), e _ _ (by omega)]
  omega
theorem four_bytes (x : Nat) : Bytes (four x) := by
  intro y hy
  simp only [four, List.mem_cons, List.not_mem_nil, or_false] at hy
  rcases hy with h | h | h | h <;> rw [h] <;> exact Nat.mod_lt _ (by decide)
/-- The row that the document's way ends with. -/
theorem doc_patch {l : List Nat} {p want X2 : Nat} (hl : Bytes l) (hp : p + 4 ≤ l.length) (hw : want < 4294967296) (hX : X2 < 4294967296) (h : Poly.run X2 (l.drop (p + 4)) = want ^^^ 4294967295) :
    l.take p ++ (four (Poly.unsteps 32 X2 ^^^ Poly.run 4294967295 (l.take p)) ++ l.drop (p + 4)) = patchL l p want := by
  have hr : Poly.run 4294967295 (l.take p) < 4294967296 := Poly.run_lt _ (by decide) (hl.take p)
  have hx : Poly.unsteps 32 X2 ^^^ Poly.run 4294967295 (l.take p) < 4294967296 := Poly.xor_lt32 (Poly.unsteps_lt 32 hX) hr
  have lp : (l.take p).length = p := by simp; omega
  have l4 : ∀ x, (four x).length = 4 := fun _ => rfl
  have ho : Bytes (l.take p ++ (four (Poly.unsteps 32 X2 ^^^ Poly.run 4294967295 (l.take p)) ++ l.drop (p + 4))) := by
    intro y hy
    rcases List.mem_append.1 hy with h1 | h1
    · exact hl y (List.mem_of_mem_take h1)
    · rcases List.mem_append.1 h1 with h2 | h2
      · exact four_bytes _ y h2
      · exact hl y (List.mem_of_mem_drop h2)
  have hlen : (l.take p ++ (four (Poly.unsteps 32 X2 ^^^ Poly.run 4294967295 (l.take p)) ++ l.drop (p + 4))).length = l.length := by
    rw [List.length_append, List.length_append, lp, l4, List.length_drop]; omega
  refine patch_unique ho (patchL_bytes hl hp) (by rw [hlen, patchL_length]) (by rw [hlen]; exact hp) ?_ ?_ ?_
  · rw [patchL_take, List.take_append_of_le_length (by omega), List.take_of_length_le (by omega)]
  · rw [patchL_drop, ← List.append_assoc, List.drop_append_of_le_length (by simp [l4]; omega), List.drop_of_length_le (by simp [l4]; omega), List.nil_append]
  · rw [patchL_sum hl hp hw]
    unfold Poly.more
    rw [Poly.run_append, Poly.run_append, Nat.xor_zero]
    have e4 : Poly.run (Poly.run 4294967295 (l.take p)) (four (Poly.unsteps 32 X2 ^^^ Poly.run 4294967295 (l.take p))) = X2 := by
      rw [Poly.run_eq, four_LE _ hx, l4, Nat.xor_comm (Poly.unsteps 32 X2), Poly.xor_cancel', Poly.steps_unsteps _ hX]
    rw [e4, h, Poly.xor_cancel]

/-- Where 'x[m:]' begins. -/
def cutA (ao : Option Addr) (n cap : Nat) : Option Addr := if cap = n then ao else ao.map (fun x => x.add n)
theorem At.cut {w : World} {ao : Option Addr} {xs : List Nat} (h : At w ao xs) (n cap : Nat) (hc : xs.length ≤ cap) : At w (cutA ao n cap) (xs.drop n) := by
  intro j u hu
  rw [List.getElem?_drop] at hu
  obtain ⟨a, ha, hcell⟩ := h _ _ hu
  unfold cutA
  split
  · rename_i e
    have := (List.getElem?_eq_some_iff.1 hu).1
    omega
  · refine ⟨a.add n, by simp [ha], ?_⟩
    rw [Addr.add_add]; exact hcell

theorem slice_from (ao : Option Addr) (len cap n : Nat) (h : n ≤ len) (w : World) : (Instr.slice 23 (.slice ao len cap) (some (.int .i64 (n : Int))) none none).run Tryd.prog w = .ok (.slice (cutA ao n cap) (len - n) (cap - n)) w := by
  simp [Instr.slice, run_underlying Tryd.underlying23, Instr.sliceBounds, Instr.sliceBound, asIntOf, h, cutA]

end Go.Proofs.YtfjpgmpffmpejaaDoor
