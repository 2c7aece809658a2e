/- The contract of the statements' own 'is': a set has just what the document's has. -/
import Derived.Test.YtajdgkbeenalkaaDoorRef4
namespace Go.Proofs.YtajdgkbeenalkaaDoor
open Go.RowKit Go.Shelf
attribute [local go_sem ↓] Go.wp_at_zero Go.wp_at_succ

/-- What stays while 'is' asks. -/
structure Is (w0 w : World) (b g d r : Nat) (L : List Bool) (dcap : Nat) (dao a1 a2 : Option Addr) : Prop where
  set : SetAt w b g L
  ref : RefAt w d r true L
  tab : Tab w
  len : w.cell? ⟨d, 1, none⟩ = some (.slice dao L.length dcap)
  all : AtV w a1 (intsV (allL L))
  gaps : AtV w a2 (intsV (flat (gapsL L)))
  grown : w0.grownBy w none
theorem Is.kept {w0 w w' : World} {b g d r : Nat} {L : List Bool} {dcap : Nat} {dao a1 a2 : Option Addr} (h : Is w0 w b g d r L dcap dao a1 a2) (hg : w.grownBy w' none) : Is w0 w' b g d r L dcap dao a1 a2 :=
  ⟨h.set.kept hg (by simp) (by simp), h.ref.grown hg, h.tab.kept hg (by simp), hg.cell h.len (by simp), h.all.grown hg, h.gaps.grown hg, grown_trans h.grown hg⟩

theorem intsV_cast (xs : List Nat) : intsV xs = (xs.map fun (x : Nat) => (x : Int)).map (Value.int .i64) := by simp [intsV]

set_option maxRecDepth 100000 in
set_option maxHeartbeats 4000000 in
theorem is_any (b g d r : Nat) (L : List Bool) (w : World) (hS : SetAt w b g L) (hR : RefAt w d r true L) (hT : Tab w) :
    Calls Tryd.prog 18 #[.pointer (some ⟨b, 0, none⟩), .pointer (some ⟨d, 0, none⟩)] w fun e w' => e = .returned (.bool true) ∧ w.grownBy w' none := by
  have hsm := hS.small
  have hal := allL_length L
  have hgl := gapsL_length L
  have hfl : (flat (gapsL L)).length ≤ 131072 := by rw [flat_length]; omega
  have H0 := hide (And.intro hS (And.intro hR hT))
  clear hS hR hT
  go_enter Tryd.func18, Tryd.ntmps18
  go_wp2_with fail
  refine (all_any _ L w (Or.inl ⟨b, g, rfl, H0.out.1⟩) H0.out.2.2 hsm).mono ?_
  rintro e w1 ⟨v, rfl, hV, hg1⟩
  have H1 := hide (And.intro hV hg1)
  clear hV hg1
  go_wp2_with fail
  refine (told_any v L w1 H1.out.1).mono ?_
  rintro e w2 ⟨s, rfl, hown, hg2⟩
  obtain ⟨a1, c1, rfl, _, _, _, hat, _, _⟩ := own_at hown
  have G2 : w.grownBy w2 none := grown_trans H1.out.2 hg2
  have H2 := hide (And.intro hat (And.intro (H0.out.1.kept G2 (by simp) (by simp)) (And.intro (H0.out.2.1.grown G2) (And.intro (H0.out.2.2.kept G2 (by simp)) G2))))
  clear hat hown hg2 G2 H1 H0
  go_wp2_with fail
  refine (gaps_any _ L w2 (Or.inl ⟨b, g, rfl, H2.out.2.1⟩) H2.out.2.2.2.1 hsm).mono ?_
  rintro e w3 ⟨v2, rfl, hV, hg3⟩
  have H3 := hide (And.intro hV hg3)
  clear hV hg3
  go_wp2_with fail
  refine (pairs_any v2 L w3 H3.out.1).mono ?_
  rintro e w4 ⟨s2, rfl, hown, hg4⟩
  obtain ⟨a2, c2, rfl, _, _, _, hat, _, _⟩ := own_at hown
  have G4 : w2.grownBy w4 none := grown_trans H3.out.2 hg4
  obtain ⟨i1, i2, i3, i4, i5⟩ := H2.out
  have i3' := i3.grown G4
  obtain ⟨dao, dcap, hlen, _, _⟩ := i3'.bools
  have HI : Hid (Is w w4.drew b g d r L dcap dao a1 a2) := Is.kept (w := w4) ⟨i2.kept G4 (by simp) (by simp), i3', i4.kept G4 (by simp), hlen, i1.grown G4, hat, grown_trans i5 G4⟩ (grown_drew _ _)
  clear hat hown hg4 G4 H3 H2 i1 i2 i3 i4 i5 i3'
  go_wp2_with fail
  go_region_held3 (fun w' => w'.cell? ⟨d, 1, none⟩ = some (.slice dao L.length dcap) ∧ Is w w' b g d r L dcap dao a1 a2) (first | assumption | exact ⟨HI.out.len, HI.out⟩)
    ((first
      | (go_at_call 43; obtain ⟨_, hI⟩ := ‹_ ∧ Is w _ b g d r L dcap dao a1 a2›; refine (bound_any b g L _ hI.set).mono ?_; rintro e w5 ⟨rfl, rfl⟩)
      | (go_at_call 28; obtain ⟨_, hI⟩ := ‹_ ∧ Is w _ b g d r L dcap dao a1 a2›; refine (count_any b g L _ hI.set).mono ?_; rintro e w5 ⟨rfl, rfl⟩)
      | (go_at_call 42; obtain ⟨_, hI⟩ := ‹_ ∧ Is w _ b g d r L dcap dao a1 a2›; refine (rcount_any d r true L _ hI.ref).mono ?_; rintro e w5 ⟨rfl, rfl⟩)
      | (go_at_call 44; obtain ⟨_, hI⟩ := ‹_ ∧ Is w _ b g d r L dcap dao a1 a2›; refine (rall_any d r true L _ hI.ref).mono ?_; rintro e w5 ⟨v5, rfl, hown5, hg5⟩; obtain ⟨a5, c5, rfl, _, _, _, hat5, _, _⟩ := own_at hown5; rw [intsV_cast] at hat5; clear hown5; have hI5 := And.intro (hI.kept hg5).len (hI.kept hg5))
      | (go_at_call 45; obtain ⟨_, hI⟩ := ‹_ ∧ Is w _ b g d r L dcap dao a1 a2›; refine (rgaps_any d r true L _ hI.ref).mono ?_; rintro e w5 ⟨v5, rfl, hown5, hg5⟩; obtain ⟨a5, c5, rfl, _, _, _, hat5, _, _⟩ := own_at hown5; rw [intsV_cast] at hat5; clear hown5; have hI5 := And.intro (hI.kept hg5).len (hI.kept hg5))
      | (go_at_call_of 35 (Value.slice a1 (allL L).length c1); obtain ⟨_, hI⟩ := ‹_ ∧ Is w _ b g d r L dcap dao a1 a2›; refine (sameInts_eq a1 _ (allL L).length c1 _ ((allL L).map fun (x : Nat) => (x : Int)) _ (by simp) (by rw [← intsV_cast]; exact hI.all) (by assumption) (by omega)).mono ?_; rintro e w5 ⟨rfl, hg5⟩; have hI5 := And.intro (hI.kept hg5).len (hI.kept hg5))
      | (go_at_call_of 35 (Value.slice a2 (flat (gapsL L)).length c2); obtain ⟨_, hI⟩ := ‹_ ∧ Is w _ b g d r L dcap dao a1 a2›; refine (sameInts_eq a2 _ (flat (gapsL L)).length c2 _ ((flat (gapsL L)).map fun (x : Nat) => (x : Int)) _ (by simp) (by rw [← intsV_cast]; exact hI.gaps) (by assumption) (by omega)).mono ?_; rintro e w5 ⟨rfl, hg5⟩; have hI5 := And.intro (hI.kept hg5).len (hI.kept hg5))
      | (go_at_call 26; obtain ⟨_, hI⟩ := ‹_ ∧ Is w _ b g d r L dcap dao a1 a2›; refine (bytes_any b g L _ hI.set).mono ?_; rintro e w5 ⟨rfl, hrow5, hg5⟩; (first | (have hB := AtV.grown ‹AtV _ _ ((bytesL L).map (Value.int .u8))› hg5; have hA := atV_row hrow5) | (have hA := atV_row hrow5)); clear hrow5; have hI5 := And.intro (hI.kept hg5).len (hI.kept hg5))
      | (go_at_call 46; obtain ⟨_, hI⟩ := ‹_ ∧ Is w _ b g d r L dcap dao a1 a2›; refine (rbytes_any d r true L _ hI.ref).mono ?_; rintro e w5 ⟨rfl, hrow5, hg5⟩; (first | (have hB := AtV.grown ‹AtV _ _ ((bytesL L).map (Value.int .u8))› hg5; have hA := atV_row hrow5) | (have hA := atV_row hrow5)); clear hrow5; have hI5 := And.intro (hI.kept hg5).len (hI.kept hg5))
      | (go_at_call 36; obtain ⟨_, hI⟩ := ‹_ ∧ Is w _ b g d r L dcap dao a1 a2›; refine (sameBytes_eq _ _ ((L.length + 7) / 8) _ _ (bytesL L) _ (bytesL_length L) (by assumption) (by assumption) (by omega)).mono ?_; rintro e w5 ⟨rfl, hg5⟩; have hI5 := And.intro (hI.kept hg5).len (hI.kept hg5))))
  all_goals
    go_wp2
    go_ret
    exact ⟨rfl, (‹_ ∧ Is w _ b g d r L dcap dao a1 a2›).2.grown⟩

end Go.Proofs.YtajdgkbeenalkaaDoor
