/- CodesBack, CodesNumbers: the walks. -/
import Derived.Test.YtnjcajcjdfhinaaDoorCf
namespace Go.Proofs.YtnjcajcjdfhinaaDoor
open Go.RowKit Cn
attribute [local go_sem ↓] Go.wp_at_zero Go.wp_at_succ

set_option maxRecDepth 100000 in
set_option maxHeartbeats 2000000 in
theorem codesBack_any (id : Nat) (s : List UInt8) (hid : id < 4294967296) (hs : s.length ≤ 281474976710656) (w : World) (hT : Tab w) :
    Calls Tryd.prog 7 #[.int .u32 (id : Int), str s] w fun e w' => e = .returned (.bool true) ∧ w.grownBy w' none := by
  have A := hide (awake_any w hT)
  have T1 := hide (fun w' (hg : w.grownBy w' none) => text_any id hid w' (hT.grown hg))
  have P1 := hide (fun w' (hg : w.grownBy w' none) => parse_any (tx id) (by rw [tx_len]; decide) w' (hT.grown hg))
  have P2 := hide (fun w' (hg : w.grownBy w' none) => parse_any s hs w' (hT.grown hg))
  rw [prs_tx hid] at P1
  have hz := size_str s
  unfold prsV at P1
  simp only at P1
  have hi0 : ((id : Int) == (id : Int)) = true := by simp
  by_cases hc : (prs s).2.2 = 0
  · obtain ⟨n, k, hp⟩ : ∃ n k, prs s = (n, k, 0) := ⟨(prs s).1, (prs s).2.1, by rw [← hc]⟩
    obtain ⟨hk, hn, htx⟩ := prs_ok hp
    subst hk
    have T2 := hide (fun w' (hg : w.grownBy w' none) => text_any n hn w' (hT.grown hg))
    rw [htx] at T2
    rw [hp] at P2
    unfold prsV at P2
    simp only at P2
    unfold str at *
    generalize (⟨s.toArray⟩ : ByteArray) = sb at *
    generalize (⟨(tx id).toArray⟩ : ByteArray) = sa at *
    clear hp htx hT hc hs hz
    go_enter Tryd.func7, Tryd.ntmps7
    go_wp2_with fail
    refine A.out.mono ?_
    rintro e w1 ⟨rfl, hg1⟩
    have G1 := hide hg1
    clear hg1
    go_wp2_with fail
    refine (T1.out _ G1.out).mono ?_
    rintro e w2 ⟨rfl, hg2⟩
    have G2 := hide (grown_trans G1.out hg2)
    clear hg2 G1
    go_wp2_with fail
    refine (P1.out _ G2.out).mono ?_
    rintro e w3 ⟨rfl, hg3⟩
    have G3 := hide (grown_trans G2.out hg3)
    clear hg3 G2
    go_wp2_with fail
    refine (P2.out _ G3.out).mono ?_
    rintro e w4 ⟨rfl, hg4⟩
    have G4 := hide (grown_trans G3.out hg4)
    clear hg4 G3
    go_wp2_with fail
    refine (T2.out _ G4.out).mono ?_
    rintro e w5 ⟨rfl, hg5⟩
    have G5 := hide (grown_trans G4.out hg5)
    clear hg5 G4
    go_wp2
    go_ret
    exact ⟨rfl, G5.out⟩
  · obtain ⟨n, k, c, hp⟩ : ∃ n k c, prs s = (n, k, c) := ⟨_, _, _, rfl⟩
    rw [hp] at hc P2
    obtain ⟨rfl, rfl, hk8, hkl⟩ := prs_no hp hc
    unfold prsV at P2
    simp only at P2
    unfold str at *
    have h1 : (k : Int) ≤ ((⟨s.toArray⟩ : ByteArray).size : Int) := by omega
    have h2 : (k : Int) ≤ 8 := by omega
    have h3 : (0 : Int) ≤ (k : Int) := by omega
    have h4 : ((⟨s.toArray⟩ : ByteArray).size : Int) ≤ 281474976710656 := by omega
    have hm : decide ((k : Int) ≤ min ((⟨s.toArray⟩ : ByteArray).size : Int) 8) = true := by rw [decide_eq_true_eq]; omega
    generalize (⟨s.toArray⟩ : ByteArray) = sb at *
    generalize (⟨(tx id).toArray⟩ : ByteArray) = sa at *
    clear hp hT hc hs hz hkl hk8
    go_enter Tryd.func7, Tryd.ntmps7
    go_wp2_with fail
    refine A.out.mono ?_
    rintro e w1 ⟨rfl, hg1⟩
    have G1 := hide hg1
    clear hg1
    go_wp2_with fail
    refine (T1.out _ G1.out).mono ?_
    rintro e w2 ⟨rfl, hg2⟩
    have G2 := hide (grown_trans G1.out hg2)
    clear hg2 G1
    go_wp2_with fail
    refine (P1.out _ G2.out).mono ?_
    rintro e w3 ⟨rfl, hg3⟩
    have G3 := hide (grown_trans G2.out hg3)
    clear hg3 G2
    go_wp2_with fail
    refine (P2.out _ G3.out).mono ?_
    rintro e w4 ⟨rfl, hg4⟩
    have G4 := hide (grown_trans G3.out hg4)
    clear hg4 G3
    go_wp2
    go_ret
    exact ⟨by rw [← hm]; rfl, G4.out⟩
theorem data_len (s : ByteArray) : s.data.toList.length = s.size := by cases s; exact Array.length_toList
theorem codesBack_str (id : Nat) (s : ByteArray) (hid : id < 4294967296) (hs : s.size ≤ 281474976710656) (w : World) (hT : Tab w) :
    Calls Tryd.prog 7 #[.int .u32 (id : Int), .string s] w fun e w' => e = .returned (.bool true) ∧ w.grownBy w' none := by
  have := codesBack_any id s.data.toList hid (by rw [data_len]; exact hs) w hT
  unfold str at this
  rwa [← bytes_of s] at this
end Go.Proofs.YtnjcajcjdfhinaaDoor
