/- Fares: the document's Values, Bid. -/
import Derived.Test.YtbebblhnhpdpjaaWg
namespace Go.Proofs.Ytbebblhnhpdpjaa
open Go.RowKit Ieee
attribute [local go_sem ↓] Go.wp_at_zero Go.wp_at_succ
attribute [local go_sem] run_store_float

/-- What the document's Values tells. -/
def RvP (W0 : World) (l : List Fa) (seats : Int) (e : Ending) (w' : World) : Prop :=
  (cE l seats ≠ 0 ∧ e = .returned (.tuple #[.slice none 0 0, .int .i64 (cE l seats)]) ∨ cE l seats = 0 ∧ ∃ (s : Nat) (a : Addr) (cap : Nat), seats = ((s : Nat) : Int) ∧ s ≤ 1024 ∧ e = .returned (.tuple #[.slice (some a) (s + 1) cap, .int .i64 0]) ∧ At w' (some a) (vs s l)) ∧ W0.grownBy w' none

set_option maxRecDepth 20000 in
set_option maxHeartbeats 2000000 in
theorem rvalues_any (ao : Option Addr) (cap n : Nat) (l : List Fa) (seats : Int) (w : World) (hn : n = l.length) (hb : FasAt w ao l) (hs : n ≤ 140737488355328) :
    Calls Try.prog 16 #[.slice ao n cap, .int .i64 seats] w (RvP w l seats) := by
  have HC := hide (rwrong_any ao cap n l seats w hn hb hs)
  have HB := hide hb
  have HN := hide hn
  have hcc := cE_cases l seats
  clear hn hb
  go_enter Try.func16, Try.ntmps16
  go_wp2_with fail
  refine HC.out.mono ?_
  rintro e w1 ⟨rfl, hg1⟩
  have HG1 := hide hg1
  clear hg1 HC
  by_cases hz : cE l seats = 0
  · obtain ⟨hm, s, hse, hs2⟩ := cE_zero hz
    obtain ⟨h16, hgd⟩ := mayB_good hm
    have HZ := hide hz
    have HGd := hide hgd
    have HBd := hide (bd_vs s hgd)
    rw [hz]
    subst hse
    have hn16 : n ≤ 16 := by have := HN.out; omega
    have hmk := make_reals (s + 1) (by omega) w1
    have hw1 : IntKind.i64.wrap ((s : Int) + 1) = ((s + 1 : Nat) : Int) := by rw [IntKind.wrap_i64]; omega
    have hnat : ((s + 1 : Nat) : Int) = (s : Int) + 1 := by omega
    rw [hnat] at hmk hw1
    have f0 : Fb (w1.alloc (.cells (fv (List.replicate (s + 1) 0)).toArray 33)) w1.heap.size (List.replicate (s + 1) 0) := heap_alloc_new w1 _
    have HA0 := hide (And.intro f0.at_ (grown_trans HG1.out (grown_alloc w1 (.cells (fv (List.replicate (s + 1) 0)).toArray 33))))
    clear hgd hm hz hcc f0 hnat
    go_wp2
    generalize w1.alloc (.cells (fv (List.replicate (s + 1) 0)).toArray 33) = w2 at *
    clear hmk hw1
    go_loopg [7, 8] n (fun k v i wr => ∃ (j : Nat) (a : Addr) (c : Nat), k + j = n ∧ i = .int .i64 (j : Int) ∧ v = .slice (some a) (s + 1) c ∧ Hid (At wr (some a) (vs s (l.take j)) ∧ w.grownBy wr none))
    case atStart => exact ⟨0, _, _, by omega, rfl, rfl, HA0⟩
    case round =>
      obtain ⟨j, a, c, hkj, rfl, rfl, HR⟩ := hrel
      by_cases hgo : 0 < gk
      · have hlt : j < n := by omega
        obtain ⟨d, hc⟩ : ∃ d, l[j]? = some d := ⟨_, List.getElem?_eq_getElem (by have := HN.out; omega)⟩
        obtain ⟨p, cs⟩ := d
        have gd := HGd.out j _ hc
        obtain ⟨b, off, bo, bc, rfl, hfa⟩ := (HB.out.grown HR.out.2) j (p, cs) hc
        have k0 := hfa.c0
        have k1 := hfa.c1
        have hi0 : (j : Int) < (n : Int) := by omega
        dsimp only at k0 k1
        have HT := hide ((congrArg (vs s) (take_snoc hc)).trans (vs_snoc _ _ _))
        have HNx := hide (rnext_any (some a) c (s + 1) (48 + 9 * j) (vs s (l.take j)) p bo bc cs wr (by rw [vs_length]) (by omega) HR.out.1 hfa.sin gd (by omega) (HBd.out j (by have := HN.out; omega)))
        clear hfa hc gd
        go_wp2_with fail
        refine HNx.out.mono ?_
        rintro e w3 ⟨v, rfl, hown, hg3⟩
        obtain ⟨av, cv, rfl, hl1, -, -, hat, hnil, -⟩ := own_at hown
        obtain ⟨a2, rfl⟩ : ∃ a2, av = some a2 := by
          cases av with
          | none => have := (hnil rfl).1; omega
          | some a2 => exact ⟨a2, rfl⟩
        have HR2 : Hid (At w3 (some a2) (vs s (l.take (j + 1))) ∧ w.grownBy w3 none) := hide ⟨by rw [HT.out]; exact hat, grown_trans HR.out.2 hg3⟩
        clear hown hg3 hl1 hat hnil HNx HT HR k0 k1
        go_wp2
        go_roundg (gk - 1)
        case measure => omega
        case rel => exact ⟨j + 1, a2, cv, by omega, by go_num, rfl, HR2⟩
      · have hj : j = n := by omega
        subst hj
        have HR2 : Hid (At wr (some a) (vs s l) ∧ w.grownBy wr none) := hide (by
          have h := HR.out
          rw [List.take_of_length_le (by have := HN.out; omega)] at h
          exact h)
        go_wp2
        go_ret2
        exact ⟨.inr ⟨HZ.out, s, a, c, rfl, hs2, rfl, HR2.out.1⟩, HR2.out.2⟩
  · have hne : (cE l seats == 0) = false := by simpa using hz
    have HZ := hide hz
    clear hz
    generalize hce : cE l seats = ce at *
    go_wp2
    go_ret2
    exact ⟨.inl ⟨by rw [hce]; exact HZ.out, by rw [hce]; rfl⟩, HG1.out⟩
set_option maxHeartbeats 1000000 in
theorem rbid_any (ao : Option Addr) (cap n : Nat) (l : List Fa) (seats : Int) (w : World) (hn : n = l.length) (hb : FasAt w ao l) (hs : n ≤ 140737488355328) :
    Calls Try.prog 18 #[.slice ao n cap, .int .i64 seats] w fun e w' => e = .returned (.tuple #[.float .f64 (bE l seats), .int .i64 (cE l seats)]) ∧ w.grownBy w' none := by
  have HV := hide (rvalues_any ao cap n l seats w hn hb hs)
  clear hn hb
  go_enter Try.func18, Try.ntmps18
  go_wp2_with fail
  refine HV.out.mono ?_
  rintro e w1 ⟨hv, hg1⟩
  have HG1 := hide hg1
  clear hg1 HV
  rcases hv with ⟨hz, rfl⟩ | ⟨hz, s, a, c, rfl, hs2, rfl, hat⟩
  · have hne : (cE l seats == 0) = false := by simpa using hz
    have HE : Hid (bE l seats = 0) := hide (by unfold bE; rw [if_neg (fun h => hz h.1)])
    clear hz
    generalize hce : cE l seats = ce at *
    go_wp2
    go_ret2
    exact ⟨by rw [HE.out, hce]; rfl, HG1.out⟩
  · have HZ := hide hz
    have HM := hide (cE_zero hz).1
    have HAt := hide hat
    clear hz hat
    by_cases h0 : s = 0
    · subst h0
      have HE : Hid (bE l ((0 : Nat) : Int) = 0) := hide (by unfold bE; rw [if_neg (by simp)])
      go_wp2
      go_ret2
      exact ⟨by rw [HE.out, HZ.out]; rfl, HG1.out⟩
    · have HE : Hid (bE l (s : Int) = sb ((vs s l).getD s 0) ((vs s l).getD (s - 1) 0)) := hide (by unfold bE; rw [if_pos ⟨HZ.out, by omega⟩]; rfl)
      have hs0 : ((s : Int) == 0) = false := by simp; omega
      have hs1 : IntKind.i64.wrap ((s : Int) - 1) = ((s - 1 : Nat) : Int) := by rw [IntKind.wrap_i64]; omega
      obtain ⟨_, e1, c1⟩ := HAt.out.take (j := s) (by rw [vs_length]; omega)
      cases e1
      obtain ⟨_, e1, c2⟩ := HAt.out.take (j := s - 1) (by rw [vs_length]; omega)
      cases e1
      have hsb := run_sub (sb_eq (vs_fin s HM.out s) (vs_fin s HM.out (s - 1)))
      have hi1 : s - 1 < s + 1 := by omega
      clear h0
      generalize sb ((vs s l).getD s 0) ((vs s l).getD (s - 1) 0) = r at *
      generalize (vs s l).getD s 0 = x at *
      generalize (vs s l).getD (s - 1) 0 = y at *
      generalize s - 1 = s1 at *
      go_wp2
      go_quiet (fail)
      go_wp2
      go_ret2
      exact ⟨by rw [HE.out, HZ.out]; rfl, grown_trans HG1.out (grown_drewN _ _)⟩
end Go.Proofs.Ytbebblhnhpdpjaa
