/- Fares: the contracts of worthOf, Values, Bid. -/
import Derived.Test.YtbebblhnhpdpjaaVg
namespace Go.Proofs.Ytbebblhnhpdpjaa
open Go.RowKit
attribute [local go_sem ↓] Go.wp_at_zero Go.wp_at_succ
attribute [local go_sem] run_store_float

theorem take_snoc {l : List Fa} {j : Nat} {c : Fa} (h : l[j]? = some c) : l.take (j + 1) = l.take j ++ [c] := by
  obtain ⟨hj, he⟩ := List.getElem?_eq_some_iff.1 h
  rw [List.take_add_one, h]; rfl
theorem bd_zero (n : Nat) : Bd 48 (List.replicate n 0) := by
  intro x
  rw [List.getD_eq_getElem?_getD, List.getElem?_replicate]
  split <;> exact Nat.zero_le _
theorem Bd.more {a b : Nat} {w : List Nat} (h : Bd a w) (hab : a ≤ b) : Bd b w := fun x => Nat.le_trans (h x) (pw_le (by omega))
theorem bd_vs {l : List Fa} (s : Nat) (hg : ∀ (j : Nat) (c : Fa), l[j]? = some c → Gd c) : ∀ j, j ≤ l.length → Bd (48 + 9 * j) (vs s (l.take j)) := by
  intro j
  induction j with
  | zero => intro _; exact bd_zero _
  | succ j ih =>
    intro hj
    obtain ⟨c, hc⟩ : ∃ c, l[j]? = some c := ⟨_, List.getElem?_eq_getElem (by omega)⟩
    have gd := hg j c hc
    rw [take_snoc hc, vs_snoc]
    have := Bd.nv (n := 48 + 9 * j) gd.pr.le (by omega) (ih (by omega)) (ch_le gd.ch) (chOk_parts gd.ch).1.2
    rwa [show 48 + 9 * j + 9 = 48 + 9 * (j + 1) by omega] at this
theorem vs_nil (s : Nat) (l : List Fa) : vs s (l.take 0) = List.replicate (s + 1) 0 := rfl

set_option maxRecDepth 20000 in
set_option maxHeartbeats 2000000 in
theorem worthOf_any (W0 : World) (ao : Option Addr) (cap n s : Nat) (l : List Fa) (w : World) (hn : n = l.length) (hl : n ≤ 16) (hb : FasAt W0 ao l) (hgd : ∀ (j : Nat) (c : Fa), l[j]? = some c → Gd c) (hs : s ≤ 1024) (hg : W0.grownBy w none) :
    Calls Try.prog 39 #[.slice ao n cap, .int .i64 (s : Int)] w fun e w' => ∃ b, e = .returned (.slice (some ⟨b, 0, none⟩) (s + 1) (s + 1)) ∧ Fb w' b (vs s l) ∧ W0.heap.size ≤ b ∧ W0.grownBy w' none := by
  have HB := hide hb
  have HN := hide hn
  have HGd := hide hgd
  have HBd := hide (bd_vs s hgd)
  have HC := hide (noClass_any W0 s w hs hg)
  clear hb hn hgd hg
  go_enter Try.func39, Try.ntmps39
  go_wp2_with fail
  refine HC.out.mono ?_
  rintro e w1 ⟨v, b1, b2, rfl, hO⟩
  have HO := hide hO
  clear hO HC
  go_wp2
  go_loopg [12] n (fun k i wr => ∃ j : Nat, k + j = n ∧ i = .int .i64 (j : Int) ∧ Hid (∃ b1 b2 sp, Own W0 wr v b1 b2 (s + 1) (vs s (l.take j)) sp))
  case atStart => exact ⟨0, by omega, rfl, hide ⟨_, _, _, HO.out⟩⟩
  case round =>
    obtain ⟨j, hkj, rfl, HL⟩ := hrel
    clear HO
    obtain ⟨c1, c2, sp, hO⟩ := HL.out
    by_cases hgo : 0 < gk
    · have hlt : j < n := by omega
      obtain ⟨c, hc⟩ : ∃ c, l[j]? = some c := ⟨_, List.getElem?_eq_getElem (by have := HN.out; omega)⟩
      obtain ⟨p, cs⟩ := c
      obtain ⟨b, off, bo, bc, rfl, hfa⟩ := HB.out j (p, cs) hc
      have hfa2 := hfa.grown hO.grown
      have k0 := hfa2.c0
      have k1 := hfa2.c1
      have hi0 : (j : Int) < (n : Int) := by omega
      dsimp only at k0 k1
      obtain ⟨x0, x1, x2⟩ := box_fa wr (.float .f64 p) (.slice bo cs.length bc)
      have HS := hide (add_any W0 v c1 c2 (s + 1) (48 + 9 * j) _ sp p bo bc cs _ (hO.then x2) (by omega) hfa.sin (HGd.out j _ hc) (by omega) (HBd.out j (by have := HN.out; omega)))
      have HT := hide ((congrArg (vs s) (take_snoc hc)).trans (vs_snoc _ _ _))
      clear hfa hfa2 hc x2 x0 x1 hO
      go_wp2_with fail
      refine HS.out.mono ?_
      rintro e w2 ⟨rfl, hO2, -⟩
      have HO2 : Hid (∃ b1 b2 sp, Own W0 w2 v b1 b2 (s + 1) (vs s (l.take (j + 1))) sp) := hide ⟨_, _, _, by rw [HT.out]; exact hO2⟩
      clear hO2 HS HT
      go_wp2
      go_roundg (gk - 1)
      case measure => omega
      case rel => exact ⟨j + 1, by omega, by go_num, HO2⟩
    · have hj : j = n := by omega
      subst hj
      have k0 := hO.at_.worth
      have HF : Hid (Fb wr c1 (vs s l) ∧ W0.heap.size ≤ c1 ∧ W0.grownBy wr none) := hide (by
        have h1 := hO.at_.h1
        rw [List.take_of_length_le (by have := HN.out; omega)] at h1
        exact ⟨h1, hO.lo1, hO.grown⟩)
      clear hO HL
      go_wp2
      go_ret
      exact ⟨_, rfl, HF.out.1, HF.out.2.1, HF.out.2.2⟩

/-- What Values tells. -/
def VsP (W0 : World) (l : List Fa) (seats : Int) (e : Ending) (w' : World) : Prop :=
  (cE l seats ≠ 0 ∧ e = .returned (.tuple #[.slice none 0 0, .int .i64 (cE l seats)]) ∨ cE l seats = 0 ∧ ∃ s b, seats = ((s : Nat) : Int) ∧ s ≤ 1024 ∧ e = .returned (.tuple #[.slice (some ⟨b, 0, none⟩) (s + 1) (s + 1), .int .i64 0]) ∧ Fb w' b (vs s l) ∧ W0.heap.size ≤ b) ∧ W0.grownBy w' none
theorem cE_zero {l : List Fa} {seats : Int} (h : cE l seats = 0) : mayB l = true ∧ ∃ s : Nat, seats = (s : Int) ∧ s ≤ 1024 := by
  unfold cE at h
  by_cases hm : mayB l = true
  · rw [if_pos hm] at h
    by_cases h2 : seats < 0 ∨ 1024 < seats
    · rw [if_pos h2] at h; omega
    · exact ⟨hm, seats.toNat, by omega, by omega⟩
  · rw [if_neg hm] at h; omega
theorem cE_cases (l : List Fa) (seats : Int) : cE l seats = 0 ∨ cE l seats = 2 ∨ cE l seats = 260 := by
  unfold cE
  split
  · split <;> simp
  · simp

set_option maxHeartbeats 1000000 in
theorem values_any (W0 : World) (ao : Option Addr) (cap n : Nat) (l : List Fa) (seats : Int) (w : World) (hn : n = l.length) (hb : FasAt W0 ao l) (hs : n ≤ 140737488355328) (hg : W0.grownBy w none) :
    Calls Try.prog 12 #[.slice ao n cap, .int .i64 seats] w (VsP W0 l seats) := by
  have HC := hide (wrong_any ao cap n l seats w hn (hb.grown hg) hs)
  have HB := hide hb
  have HN := hide hn
  have HG := hide hg
  have hcc := cE_cases l seats
  clear hn hb hg
  go_enter Try.func12, Try.ntmps12
  go_wp2_with fail
  refine HC.out.mono ?_
  rintro e w1 ⟨rfl, hg1⟩
  have HG1 := hide (grown_trans HG.out hg1)
  clear hg1 HC
  by_cases hz : cE l seats = 0
  · obtain ⟨hm, s, hse, hs2⟩ := cE_zero hz
    obtain ⟨h16, hgd⟩ := mayB_good hm
    have HZ := hide hz
    rw [hz]
    have HW := hide (worthOf_any W0 ao cap n s l w1 HN.out (by have := HN.out; omega) HB.out hgd hs2 HG1.out)
    subst hse
    clear hgd hm hz hcc
    go_wp2_with fail
    refine HW.out.mono ?_
    rintro e w2 ⟨b, rfl, h1, h2, h3⟩
    have HF := hide (And.intro h1 (And.intro h2 h3))
    clear h1 h2 h3 HW
    go_wp2
    go_ret2
    exact ⟨.inr ⟨HZ.out, s, b, rfl, hs2, rfl, HF.out.1, HF.out.2.1⟩, HF.out.2.2⟩
  · have hne : (cE l seats == 0) = false := by simpa using hz
    have HZ := hide hz
    clear hz
    generalize hce : cE l seats = ce at *
    go_wp2
    go_ret2
    exact ⟨.inl ⟨by rw [hce]; exact HZ.out, by rw [hce]; rfl⟩, HG1.out⟩
end Go.Proofs.Ytbebblhnhpdpjaa
