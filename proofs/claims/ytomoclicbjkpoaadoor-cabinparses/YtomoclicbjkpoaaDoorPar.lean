/- CabinParses: the walk. -/
import Derived.Test.YtomoclicbjkpoaaDoorDc
import Derived.SizedLaws
namespace Go.Proofs.YtomoclicbjkpoaaDoor
open Go.RowKit Cx
attribute [local go_sem ↓] Go.wp_at_zero Go.wp_at_succ

def pN (o : Option Nat) : Int := match o with | some s => (s : Int) | none => 0
def pE (o : Option Nat) : Int := match o with | some _ => 0 | none => 140
theorem prsV_eq (o : Option Nat) : prsV o = .tuple #[.int .i64 (pN o), .int .i64 (pE o)] := by cases o <;> rfl
/-- Parse of any text, and the document's. -/
theorem parse_both (R W : Int) (L : List Int) (l : List UInt8) (hl : l.length ≤ 281474976710656) : ∃ a e : Int,
    (∀ ao n cap (w : World), Er w → CbIn w ao n cap L → Calls Tryd.prog 27 #[cbV R W (.slice ao n cap), str l] w fun r w' => r = .returned (.tuple #[.int .i64 a, .int .i64 e]) ∧ w.grownBy w' none) ∧
    ∀ ao n cap (w : World), CbIn w ao n cap L → Calls Tryd.prog 28 #[cbV R W (.slice ao n cap), str l] w fun r w' => r = .returned (.tuple #[.int .i64 a, .int .i64 e]) ∧ w.grownBy w' none := by
  by_cases ho : Ok R W L
  · obtain ⟨r, rfl⟩ : ∃ r : Nat, R = (r : Int) := ⟨R.toNat, by have := ho.1; omega⟩
    obtain ⟨q, rfl⟩ : ∃ q : Nat, W = (q : Int) := ⟨W.toNat, by have := ho.2.2.1; omega⟩
    refine ⟨pN (prs r q l), pE (prs r q l), ?_, ?_⟩
    · intro ao n cap w hE hc
      rw [← prsV_eq]
      rcases List.eq_nil_or_concat l with rfl | ⟨d, x, rfl⟩
      · rw [prs_nil]; exact parse_nil _ _ ao n cap L w hc ho
      · rw [List.concat_eq_append] at *
        exact parse_ok r q ao n cap L d x (by rw [List.length_append] at hl; omega) w hE hc ho
    · intro ao n cap w hc
      rw [← prsV_eq]
      exact dparse_ok r q ao n cap L l w hc ho
  · exact ⟨0, 2, fun ao n cap w _ hc => parse_bad R W ao n cap L l w hc ho, fun ao n cap w hc => dparse_bad R W ao n cap L _ w hc ho⟩
set_option maxHeartbeats 1000000 in
theorem cabinParses_any (R W : Int) (ao : Option Addr) (n cap : Nat) (L : List Int) (l : List UInt8) (hl : l.length ≤ 281474976710656) (w : World) (hE : Er w) (hc : CbIn w ao n cap L) :
    Calls Tryd.prog 5 #[cbV R W (.slice ao n cap), str l] w fun e w' => e = .returned (.bool true) ∧ w.grownBy w' none := by
  have A := hide (fun w' (hg : w.grownBy w' none) => awake_any w' (hE.grown hg))
  have HC := hide (fun w' (hg : w.grownBy w' none) => copyCabin_any R W ao n cap L w' (hc.grown hg))
  obtain ⟨x, y, P1, P2⟩ := parse_both R W L l hl
  have P1 := hide P1
  have P2 := hide P2
  have HH := hide (And.intro hE hc)
  clear hE hc
  unfold cbV str at *
  generalize (⟨l.toArray⟩ : ByteArray) = sl at *
  go_enter Tryd.func5, Tryd.ntmps5
  go_wp2_with fail
  refine (A.out _ (grown_alloc w _)).mono ?_
  rintro e w1 ⟨rfl, hg1⟩
  have hb1 := box_kept hg1
  have G1 := hide (And.intro (grown_trans (grown_alloc w _) hg1) hb1)
  obtain ⟨c0, c1, c2⟩ := box3 hb1
  clear hg1 hb1
  go_wp2_with fail
  refine (HC.out _ G1.out.1).mono ?_
  rintro e w2 ⟨ao2, cap2, rfl, hcb2, hg2⟩
  have G2 := hide (And.intro (grown_trans G1.out.1 hg2) (And.intro (heap_kept G1.out.2 hg2 (by simp)) hcb2))
  clear hg2 hcb2 c0 c1 c2 G1
  go_wp2_with fail
  refine (P1.out _ _ _ _ (HH.out.1.grown G2.out.1) G2.out.2.2).mono ?_
  rintro e w3 ⟨rfl, hg3⟩
  have G3 := hide (And.intro (grown_trans G2.out.1 hg3) (heap_kept G2.out.2.1 hg3 (by simp)))
  obtain ⟨c0, c1, c2⟩ := box3 G3.out.2
  clear hg3 G2
  go_wp2_with fail
  refine (P2.out _ _ _ _ (HH.out.2.grown G3.out.1)).mono ?_
  rintro e w4 ⟨rfl, hg4⟩
  have G4 := hide (grown_trans G3.out.1 hg4)
  clear hg4 G3
  go_wp2
  go_ret
  exact ⟨rfl, G4.out⟩
theorem cabinParses_str (R W : Int) (ao : Option Addr) (n cap : Nat) (L : List Int) (sb : ByteArray) (hl : sb.data.toList.length ≤ reachBytes) (w : World) (hE : Er w) (hc : CbIn w ao n cap L) :
    Calls Tryd.prog 5 #[cbV R W (.slice ao n cap), .string sb] w fun e w' => e = .returned (.bool true) ∧ w.grownBy w' none := by
  have h := cabinParses_any R W ao n cap L sb.data.toList (by unfold reachBytes at hl; omega) w hE hc
  unfold str at h
  rw [← bytes_of] at h
  exact h
end Go.Proofs.YtomoclicbjkpoaaDoor
