/- BitsSeeks, walked. -/
import Derived.Test.YtajdgkbeenalkaaDoorPick
namespace Go.Proofs.YtajdgkbeenalkaaDoor
open Go.RowKit Go.Shelf
attribute [local go_sem ↓] Go.wp_at_zero Go.wp_at_succ

theorem Seek.near {L : List Bool} {v : Bool} {i : Int} {r : Int} {k : Nat} (h : Seek L v i.toNat r) (hk : i.toNat ≤ k) (hl : k < L.length) (hv : L.getD k false = v) : i ≤ r ∧ r ≤ (k : Int) := by
  rcases h with ⟨rfl, h⟩ | ⟨k', rfl, h1, h2, h3, h4⟩
  · exact absurd hv (h k hk hl)
  · refine ⟨by omega, ?_⟩
    by_cases hlt : k < k'
    · exact absurd hv (h4 k hk hlt)
    · omega
theorem Seek.fine {L : List Bool} {v : Bool} {i : Int} {r : Int} (h : Seek L v i.toNat r) : r = -1 ∨ ((r == -1) = false ∧ i ≤ r ∧ r < (L.length : Int) ∧ 0 ≤ r ∧ L.getD r.toNat false = v) := by
  rcases h with ⟨rfl, h⟩ | ⟨k', rfl, h1, h2, h3, h4⟩
  · exact Or.inl rfl
  · exact Or.inr ⟨by simp, by omega, by omega, by omega, by simpa using h3⟩

set_option maxRecDepth 100000 in
set_option maxHeartbeats 2000000 in
theorem seeks_any (n i : Int) (ao : Option Addr) (m cap : Nat) (xs : List Int) (w : World) (hT : Tab w) (hxs : xs.length = m) (hat : AtV w ao (xs.map (Value.int .i64))) (hm : m ≤ 4611686018427387904)
    (hi1 : -9223372036854775808 ≤ i) (hi2 : i ≤ 9223372036854775807) :
    Calls Tryd.prog 7 #[.int .i64 n, .slice ao m cap, .int .i64 i] w fun e w' => e = .returned (.bool true) ∧ w.grownBy w' none := by
  have HT := hide hT
  have HX := hide (And.intro hxs hat)
  clear hT hxs hat
  go_enter Tryd.func7, Tryd.ntmps7
  go_wp2_with fail
  refine (awake_any w HT.out).mono ?_
  rintro e w1 ⟨rfl, hg1⟩
  have H1 := hide (And.intro hg1 (HT.out.kept hg1 (by simp)))
  clear hg1
  go_wp2_with fail
  refine (pick_any n 3000 3000 w1 rfl (by decide) (by decide)).mono ?_
  rintro e w' ⟨rfl, rfl⟩
  obtain ⟨n3, hn3⟩ : ∃ n3 : Nat, n % 3000 = (n3 : Int) := ⟨(n % 3000).toNat, by omega⟩
  have hn3b : n3 < 3000 := by omega
  rw [show ((3000 : Nat) : Int) = 3000 from rfl, hn3]
  clear hn3
  go_wp2_with fail
  refine (new_any n3 w' (by omega) H1.out.2.lt).mono ?_
  rintro e w2 ⟨b, g, rfl, hS, hb, hg, hg2⟩
  have G2 : w.grownBy w2 none := grown_trans H1.out.1 hg2
  have hgw : w.heap.size ≤ g := Nat.le_trans H1.out.1.size hg
  have H2 := hide (And.intro hS (And.intro G2 (HT.out.kept G2 (by simp))))
  clear hS G2 hg2 H1 hb hg
  go_wp2
  go_loopg [9] m (fun k I wr => ∃ (j : Nat) (L : List Bool), k + j = m ∧ I = .int .i64 (j : Int) ∧ Hid (SetAt wr b g L ∧ w.grownBy wr none) ∧ Hid (L.length = n3))
  case atStart => exact ⟨0, _, by omega, rfl, hide ⟨H2.out.1, H2.out.2.1⟩, hide (by simp)⟩
  case round =>
    obtain ⟨j, L, hkj, rfl, hS, hL⟩ := hrel
    by_cases hk : 0 < gk
    · obtain ⟨hxs, hat⟩ := HX.out
      have hj : j < xs.length := by omega
      obtain ⟨a, rfl, hca⟩ := hat j (.int .i64 xs[j]) (by simp [hj])
      have hca' := hS.out.2.cell hca (by simp)
      generalize xs[j] = x at *
      have h1 : (0 : Int) ≤ (j : Int) := by omega
      have h2 : (j : Int) < (m : Int) := by omega
      clear hca hat hxs hj
      by_cases h0 : n3 = 0
      · subst h0
        go_wp2_with fail
        refine (pick_any x 1 1 _ rfl (by decide) (by decide)).mono ?_
        rintro e w3 ⟨rfl, rfl⟩
        go_wp2_with fail
        refine (put_int b g L _ _ hS.out.1).mono ?_
        rintro e w3 ⟨rfl, hS3, hg3⟩
        have HS3 := hide (And.intro hS3 (grown_then hS.out.2 hg3 (fun k e => by cases e; left; exact hgw)))
        clear hS3 hg3
        go_wp2
        go_roundg (gk - 1)
        case measure => omega
        case rel => exact ⟨j + 1, _, by omega, by go_num, HS3, hide (by rw [putF_length]; exact hL.out)⟩
      · have h3 : (1 : Int) ≤ (n3 : Int) := by omega
        go_wp2_with fail
        refine (pick_any x _ n3 _ rfl (by omega) (by omega)).mono ?_
        rintro e w3 ⟨rfl, rfl⟩
        go_wp2_with fail
        refine (put_int b g L _ _ hS.out.1).mono ?_
        rintro e w3 ⟨rfl, hS3, hg3⟩
        have HS3 := hide (And.intro hS3 (grown_then hS.out.2 hg3 (fun k e => by cases e; left; exact hgw)))
        clear hS3 hg3
        go_wp2
        go_roundg (gk - 1)
        case measure => omega
        case rel => exact ⟨j + 1, _, by omega, by go_num, HS3, hide (by rw [putF_length]; exact hL.out)⟩
    · have hj : j = m := by omega
      subst hj
      have hTr := HT.out.kept hS.out.2 (by simp)
      have HTr := hide hTr
      clear hTr
      go_wp2_with fail
      refine (next_any b g L i _ hS.out.1 HTr.out).mono ?_
      rintro e w3 ⟨r1, rfl, hs1, rfl⟩
      have HS1 := hide hs1
      clear hs1
      go_wp2_with fail
      refine (free_any b g L i _ hS.out.1 HTr.out).mono ?_
      rintro e w3 ⟨r2, rfl, hs2, rfl⟩
      have HS2 := hide hs2
      clear hs2
      go_wp2
      all_goals
        go_loopg [12] (n3 - i.toNat) (fun k I wr => ∃ (t : Nat), k = n3 - t ∧ i.toNat ≤ t ∧ I = .int .i64 (t : Int) ∧ Hid (SetAt wr b g L ∧ w.grownBy wr none))
        case atStart => exact ⟨i.toNat, rfl, Nat.le_refl _, by congr 1; omega, hS⟩
        case round =>
          obtain ⟨t, hkt, hit, rfl, hS⟩ := hrel
          by_cases hk : t < n3
          · have hLn := hL.out
            have hka : (t : Int) < (n3 : Int) := by omega
            have hasH := fun w' (h : SetAt w' b g L) => has_any b g L t w' h (by omega)
            have HH := hide hasH
            clear hasH
            cases hv : L.getD t false with
            | true =>
              have hnear := HS1.out.near hit (by omega) hv
              rw [hv] at HH
              obtain ⟨hn1, hn2⟩ := hnear
              clear hv hLn
              go_wp2_with fail
              refine (HH.out _ hS.out.1).mono ?_
              rintro e w4 ⟨rfl, hg4⟩
              have HS4 := hide (And.intro (hS.out.1.kept hg4 (by simp) (by simp)) (grown_trans hS.out.2 hg4))
              clear hg4
              go_wp2_with fail
              refine (HH.out _ HS4.out.1).mono ?_
              rintro e w5 ⟨rfl, hg5⟩
              have HS5 := hide (And.intro (HS4.out.1.kept hg5 (by simp) (by simp)) (grown_trans HS4.out.2 hg5))
              clear hg5
              go_wp2
              go_roundg (n3 - (t + 1))
              case measure => omega
              case rel => exact ⟨t + 1, rfl, by omega, by go_num, HS5⟩
            | false =>
              have hnear := HS2.out.near hit (by omega) hv
              rw [hv] at HH
              obtain ⟨hn1, hn2⟩ := hnear
              clear hv hLn
              go_wp2_with fail
              refine (HH.out _ hS.out.1).mono ?_
              rintro e w4 ⟨rfl, hg4⟩
              have HS4 := hide (And.intro (hS.out.1.kept hg4 (by simp) (by simp)) (grown_trans hS.out.2 hg4))
              clear hg4
              go_wp2_with fail
              refine (HH.out _ HS4.out.1).mono ?_
              rintro e w5 ⟨rfl, hg5⟩
              have HS5 := hide (And.intro (HS4.out.1.kept hg5 (by simp) (by simp)) (grown_trans HS4.out.2 hg5))
              clear hg5
              go_wp2
              go_roundg (n3 - (t + 1))
              case measure => omega
              case rel => exact ⟨t + 1, rfl, by omega, by go_num, HS5⟩
          · have hka : (n3 : Int) ≤ (t : Int) := by omega
            have hLn := hL.out
            rcases HS1.out.fine with rfl | ⟨a0, a1, a2, a3, a4⟩
            · rcases HS2.out.fine with rfl | ⟨b0, b1, b2, b3, b4⟩
              · clear hLn
                go_wp2
                go_ret
                exact ⟨rfl, hS.out.2⟩
              · have hasH2 := has_int b g L r2
                rw [show (decide (0 ≤ r2) && L.getD r2.toNat false) = false by rw [b4]; simp] at hasH2
                have HH2 := hide hasH2
                rw [hLn] at b2
                clear hasH2 b4 hLn
                go_wp2_with fail
                refine (HH2.out _ hS.out.1).mono ?_
                rintro e w4 ⟨rfl, hg4⟩
                have HS4 := hide (grown_trans hS.out.2 hg4)
                clear hg4
                go_wp2
                go_ret
                exact ⟨rfl, HS4.out⟩
            · have hasH1 := has_int b g L r1
              rw [show (decide (0 ≤ r1) && L.getD r1.toNat false) = true by rw [a4]; simpa using a3] at hasH1
              have HH1 := hide hasH1
              rw [hLn] at a2
              clear hasH1 a4
              rcases HS2.out.fine with rfl | ⟨b0, b1, b2, b3, b4⟩
              · clear hLn
                go_wp2_with fail
                refine (HH1.out _ hS.out.1).mono ?_
                rintro e w4 ⟨rfl, hg4⟩
                have HS4 := hide (grown_trans hS.out.2 hg4)
                clear hg4
                go_wp2
                go_ret
                exact ⟨rfl, HS4.out⟩
              · have hasH2 := has_int b g L r2
                rw [show (decide (0 ≤ r2) && L.getD r2.toNat false) = false by rw [b4]; simp] at hasH2
                have HH2 := hide hasH2
                rw [hLn] at b2
                clear hasH2 b4 hLn
                go_wp2_with fail
                refine (HH1.out _ hS.out.1).mono ?_
                rintro e w4 ⟨rfl, hg4⟩
                have HS4 := hide (And.intro (hS.out.1.kept hg4 (by simp) (by simp)) (grown_trans hS.out.2 hg4))
                clear hg4
                go_wp2_with fail
                refine (HH2.out _ HS4.out.1).mono ?_
                rintro e w5 ⟨rfl, hg5⟩
                have HS5 := hide (grown_trans HS4.out.2 hg5)
                clear hg5
                go_wp2
                go_ret
                exact ⟨rfl, HS5.out⟩

end Go.Proofs.YtajdgkbeenalkaaDoor
