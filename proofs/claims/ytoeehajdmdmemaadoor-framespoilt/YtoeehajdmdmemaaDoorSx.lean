/- A frame of which one byte is turned has another sum: plain lists. -/
import Derived.Test.YtoeehajdmdmemaaDoorFx
import Derived.Test.YtoeehajdmdmemaaDoorCBase
namespace Go.Proofs.YtoeehajdmdmemaaDoor

/-- Two bytes, bit by bit. -/
def xorI (a b : Int) : Int := ((a.toNat ^^^ b.toNat : Nat) : Int)
theorem xorI_byte {a b : Int} (ha : 0 ≤ a ∧ a < 256) (hb : 0 ≤ b ∧ b < 256) : 0 ≤ xorI a b ∧ xorI a b < 256 := by
  have := Cr.Poly.xor_lt_byte (a := a.toNat) (b := b.toNat) (by omega) (by omega)
  unfold xorI
  omega
theorem bits_xorI {a b : Int} (ha : 0 ≤ a ∧ a < 256) (hb : 0 ≤ b ∧ b < 256) : bits .xor .u8 a b = xorI a b := by
  have := Cr.bits_xor_u8 a.toNat b.toNat (by omega) (by omega)
  unfold xorI
  rw [← this, show ((a.toNat : Nat) : Int) = a by omega, show ((b.toNat : Nat) : Int) = b by omega]
theorem xorI_ne {a b : Int} (ha : 0 ≤ a ∧ a < 256) (hb : 0 < b ∧ b < 256) : xorI a b ≠ a := by
  intro h
  have h1 : a.toNat ^^^ b.toNat = a.toNat := by unfold xorI at h; omega
  have h2 : b.toNat = 0 := by
    have := congrArg (a.toNat ^^^ ·) h1
    simp only [← Nat.xor_assoc, Nat.xor_self, Nat.zero_xor] at this
    exact this
  omega
theorem byt_set {xs : List Int} (h : Byt xs) (k : Nat) {y : Int} (hy : 0 ≤ y ∧ y < 256) : Byt (xs.set k y) := by
  intro x hx
  rcases List.mem_or_eq_of_mem_set hx with h1 | h1
  · exact h x h1
  · rw [h1]; exact hy

theorem nats_set (xs : List Int) (k : Nat) (b : Int) (hk : k < xs.length) : nats (xs.set k (xorI xs[k] b)) = (nats xs).set k ((nats xs).getD k 0 ^^^ b.toNat) := by
  unfold nats
  rw [List.map_set]
  congr 1
  unfold xorI
  simp [hk]

theorem sumI_turned {xs : List Int} (k : Nat) (b : Int) (hk : k < xs.length) (hb : 0 < b ∧ b < 256) : sumI (xs.set k (xorI xs[k] b)) ≠ sumI xs := by
  unfold sumI
  rw [nats_set xs k b hk]
  have hl : k < (nats xs).length := by rw [nats_length]; exact hk
  have := Cr.Poly.more_tells 0 (nats xs) ((nats xs).set k ((nats xs).getD k 0 ^^^ b.toNat)) b.toNat (8 * k) (by simp) (by omega) (Cr.Poly.LE_set _ k _ hl) (by omega) (by omega)
  intro h
  exact this (by omega)

theorem spoilt {f : Fr} (hf : f.Ok) (hl : f.b.length ≤ 32) (k : Nat) (b : Int) (h2 : 2 ≤ k) (hk : k < f.out.length) (hb : 0 < b ∧ b < 256) (rest : List Int) :
    getF (f.out.set k (xorI f.out[k] b) ++ rest) = ⟨noFr, 0, 81⟩ := by
  have hol := f.out_length
  have hhl := f.head_length
  have hB : Byt f.out := Fr.out_byt hf.byt
  have hbk := hB f.out[k] (List.getElem_mem hk)
  obtain ⟨y, hy⟩ : ∃ y, y = xorI f.out[k] b := ⟨_, rfl⟩
  have hyb : 0 ≤ y ∧ y < 256 := by rw [hy]; exact xorI_byte hbk ⟨by omega, hb.2⟩
  have hl2 : (f.out.set k y).length = 22 + f.b.length := by simp [hol]
  have t2 : (f.out.set k y ++ rest).take 2 = leB f.b.length 2 := by
    rw [List.take_append_of_le_length (by omega), List.take_set_of_le h2]
    simp only [Fr.out, Fr.head, List.append_assoc]
    exact List.take_left' (leB_length _ _)
  have hbl : blen (f.out.set k y ++ rest) = f.b.length := by
    unfold blen
    rw [t2, leV_leB' (by omega) (by omega)]
    simp
  have hs := sumI_lt (Fr.head_byt hf.byt)
  rw [← hy]
  unfold getF
  rw [hbl, if_neg (by simp; omega), if_neg (by omega), if_neg (by simp; omega)]
  rw [if_pos ?_]
  have tk : (f.out.set k y ++ rest).take (18 + f.b.length) = (f.out.set k y).take (18 + f.b.length) := List.take_append_of_le_length (by omega)
  have dk : ((f.out.set k y ++ rest).drop (18 + f.b.length)).take 4 = ((f.out.set k y).drop (18 + f.b.length)).take 4 := by
    rw [List.drop_append_of_le_length (by omega), List.take_append_of_le_length (by simp; omega)]
  rw [tk, dk]
  have th : f.out.take (18 + f.b.length) = f.head := List.take_left' hhl
  have dh : f.out.drop (18 + f.b.length) = leB (sumI f.head) 4 := List.drop_left' hhl
  by_cases hc : k < 18 + f.b.length
  · have e1 : (f.out.set k y).drop (18 + f.b.length) = f.out.drop (18 + f.b.length) := List.drop_set_of_lt hc
    have e2 : (f.out.set k y).take (18 + f.b.length) = f.head.set k y := by rw [List.take_set, th]
    rw [e1, e2, dh, List.take_of_length_le (by rw [leB_length]; omega), leV_leB' hs.1 (by omega)]
    have hk' : k < f.head.length := by omega
    have e3 : f.out[k] = f.head[k] := by
      unfold Fr.out
      exact List.getElem_append_left hk'
    rw [hy, e3]
    exact (sumI_turned k b hk' hb).symm
  · have e2 : (f.out.set k y).take (18 + f.b.length) = f.head := by rw [List.take_set_of_le (by omega), th]
    have e1 : (f.out.set k y).drop (18 + f.b.length) = (leB (sumI f.head) 4).set (k - (18 + f.b.length)) y := by
      rw [List.drop_set, if_neg hc, dh]
    rw [e1, e2, List.take_of_length_le (by rw [List.length_set, leB_length]; omega)]
    intro h
    have hv : leV ((leB (sumI f.head) 4).set (k - (18 + f.b.length)) y) = leV (leB (sumI f.head) 4) := by rw [h, leV_leB' hs.1 (by omega)]
    have hle := leV_inj (byt_set (byt_leB _ _) _ hyb) (byt_leB _ _) (by simp) hv
    have hi : k - (18 + f.b.length) < (leB (sumI f.head) 4).length := by rw [leB_length]; omega
    have e5 : (leB (sumI f.head) 4)[k - (18 + f.b.length)] = f.out[k] := by
      have : f.out[k] = (f.head ++ leB (sumI f.head) 4)[k]'(by rw [List.length_append, leB_length]; omega) := rfl
      rw [this, List.getElem_append_right (by omega)]
      congr 1
      omega
    have e4 : ((leB (sumI f.head) 4).set (k - (18 + f.b.length)) y)[k - (18 + f.b.length)]? = (leB (sumI f.head) 4)[k - (18 + f.b.length)]? := by rw [hle]
    rw [List.getElem?_set_self hi, List.getElem?_eq_getElem hi, e5, hy] at e4
    simp at e4
    exact xorI_ne hbk hb e4
end Go.Proofs.YtoeehajdmdmemaaDoor
