/- Both ways to make a disk of rows; rows that are lent. -/
import Derived.Test.YtgcfjphjekkkmaaRefOf2
import Derived.Test.YtgcfjphjekkkmaaOf
namespace Go.Proofs.Ytgcfjphjekkkmaa
open Go.RowKit Ap

/-- May these be a disk's sectors? -/
def Good (R : List (List Nat)) (sz : Nat) : Prop := ∃ x, R[0]? = some x ∧ x.length = sz ∧ mayB (R.length : Int) (sz : Int) = true ∧ ∀ y ∈ R, y.length = sz
theorem Good.shape {R : List (List Nat)} {sz : Nat} (h : Good R sz) : Shape R.length sz := by
  obtain ⟨x, _, _, hm, _⟩ := h
  exact shape_of hm
def OfAll (w w' : World) (R : List (List Nat)) (p : Option Addr) (c : Int) : Prop :=
  w.grownBy w' none ∧ ((c = 0 ∧ ∃ sz, Good R sz ∧ ∃ k D, p = some ⟨k.d, 0, none⟩ ∧ DiskAt w' k R.length sz D [] ∧ secs R.length sz D = R ∧ ∀ i, k.own i → w.heap.size ≤ i) ∨ (c = 2 ∧ (∀ sz, ¬ Good R sz) ∧ p = none))
def RofAll (w w' : World) (R : List (List Nat)) (rb : Nat) (c : Int) : Prop :=
  w.heap.size ≤ rb ∧ w.grownBy w' none ∧ ((c = 0 ∧ ∃ sz, Good R sz ∧ ∃ v S, w'.heap[rb]? = some (.cells #[v, .slice none 0 0] 54 (0, 0)) ∧ RowAt w' w.heap.size v S ∧ S.map Bx.xs = R) ∨ (c = 2 ∧ (∀ sz, ¬ Good R sz) ∧ Empty w' rb))
section
variable {w : World} {ro : Option Addr} {cap n : Nat} {R : List (List Nat)}
theorem of_all (h : RowsIn w ro R) (hn : R.length = n) : Calls Try.prog 25 #[.slice ro n cap] w fun e w' => ∃ p c, e = .returned (.tuple #[.pointer p, .int .i64 c]) ∧ OfAll w w' R p c := by
  by_cases h0 : 0 < n
  · have hx := List.getElem?_eq_getElem (show 0 < R.length by omega)
    generalize R[0]'(by omega) = x at *
    cases hm : mayB (n : Int) (x.length : Int) with
    | false =>
      refine (of_bad h hn h0 x hx hm).mono ?_
      rintro e w' ⟨rfl, rfl⟩
      refine ⟨_, _, rfl, grown_refl _ _, Or.inr ⟨rfl, ?_, rfl⟩⟩
      rintro sz ⟨y, hy, hl, hm2, _⟩
      rw [hx] at hy
      obtain rfl := Option.some.inj hy
      rw [hl, ← hn] at hm
      rw [hm] at hm2
      cases hm2
    | true =>
      have hs := shape_of hm
      refine (of_loop h hn h0 x hx rfl hm hs.n1 (by have := hs.s0; omega) hs.s1).mono ?_
      rintro e w' ⟨p, c, rfl, hg, hc⟩
      refine ⟨p, c, rfl, hg, ?_⟩
      rw [hn]
      rcases hc with ⟨rfl, hall, k, D, hp, hd, hsec, hown⟩ | ⟨rfl, ⟨y, hy, hne⟩, hp⟩
      · exact Or.inl ⟨rfl, x.length, ⟨x, hx, rfl, by rw [hn]; exact hm, hall⟩, k, D, hp, hd, hsec, hown⟩
      · refine Or.inr ⟨rfl, ?_, hp⟩
        rintro sz ⟨z, hz, hl, _, hall⟩
        rw [hx] at hz
        obtain rfl := Option.some.inj hz
        exact hne (by rw [hall y hy, hl])
  · have hn0 : n = 0 := by omega
    subst hn0
    refine (of_none w ro cap).mono ?_
    rintro e w' ⟨rfl, rfl⟩
    refine ⟨_, _, rfl, grown_refl _ _, Or.inr ⟨rfl, ?_, rfl⟩⟩
    rintro sz ⟨y, hy, _⟩
    rw [List.getElem?_eq_none (by omega)] at hy
    cases hy
theorem rof_all (h : RowsIn w ro R) (hn : R.length = n) : Calls Try.prog 26 #[.slice ro n cap] w fun e w' => ∃ rb c, e = .returned (.tuple #[.pointer (some ⟨rb, 0, none⟩), .int .i64 c]) ∧ RofAll w w' R rb c := by
  by_cases h0 : 0 < n
  · have hx := List.getElem?_eq_getElem (show 0 < R.length by omega)
    generalize R[0]'(by omega) = x at *
    cases hm : mayB (n : Int) (x.length : Int) with
    | false =>
      refine (rof_bad h hn h0 x hx hm).mono ?_
      rintro e w' ⟨rb, rfl, h1, h2, h3⟩
      refine ⟨_, _, rfl, h2, h3, Or.inr ⟨rfl, ?_, h1⟩⟩
      rintro sz ⟨y, hy, hl, hm2, _⟩
      rw [hx] at hy
      obtain rfl := Option.some.inj hy
      rw [hl, ← hn] at hm
      rw [hm] at hm2
      cases hm2
    | true =>
      have hs := shape_of hm
      refine (rof_loop h hn h0 x hx rfl hm hs.n1 (by have := hs.s0; omega) hs.s1).mono ?_
      rintro e w' ⟨rb, c, rfl, hb, hg, hc⟩
      refine ⟨rb, c, rfl, hb, hg, ?_⟩
      rcases hc with ⟨rfl, hall, k⟩ | ⟨rfl, ⟨y, hy, hne⟩, hp⟩
      · exact Or.inl ⟨rfl, x.length, ⟨x, hx, rfl, by rw [hn]; exact hm, hall⟩, k⟩
      · refine Or.inr ⟨rfl, ?_, hp⟩
        rintro sz ⟨z, hz, hl, _, hall⟩
        rw [hx] at hz
        obtain rfl := Option.some.inj hz
        exact hne (by rw [hall y hy, hl])
  · have hn0 : n = 0 := by omega
    subst hn0
    refine (rof_none w ro cap).mono ?_
    rintro e w' ⟨rb, rfl, h1, h2, h3⟩
    refine ⟨_, _, rfl, h2, h3, Or.inr ⟨rfl, ?_, h1⟩⟩
    rintro sz ⟨y, hy, _⟩
    rw [List.getElem?_eq_none (by omega)] at hy
    cases hy
end
theorem lent_bx {w : World} {B : Nat} {v : Value} {xs : List Nat} (h : LentAt w B v xs) : ∃ g cap, v = .slice (some ⟨g, 0, none⟩) xs.length cap ∧ BxAt w B ⟨g, cap, xs⟩ ∧ xs.length + 12 ≤ cap := by
  obtain ⟨g, cap, rfl, hown⟩ := h
  refine ⟨g, cap, rfl, ?_⟩
  rcases hown.2 with ⟨e, _⟩ | ⟨g', cap', cur, e, h1, h2, h3, h4, h5, h6⟩
  · cases e
  · cases e
    refine ⟨⟨by simp [bv_length], Or.inr ⟨g, cap, cur, rfl, h1, h2, by simp only []; omega, h4, h5, ?_⟩⟩, h3⟩
    simp only [Nat.mul_one] at h6 ⊢
    have := congrArg (List.take xs.length) h6
    rw [List.take_take, Nat.min_eq_left (by omega)] at this
    rw [this]
    simp [bv]
end Go.Proofs.Ytgcfjphjekkkmaa
