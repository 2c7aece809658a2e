/- CodesParses: the walk. -/
import Derived.Test.YtnjcajcjdfhinaaDoorDd
namespace Go.Proofs.YtnjcajcjdfhinaaDoor
open Go.RowKit Cn
attribute [local go_sem ↓] Go.wp_at_zero Go.wp_at_succ

set_option maxHeartbeats 1000000 in
theorem codesParses_any (s : List UInt8) (hs : s.length ≤ 281474976710656) (w : World) (hT : Tab w) :
    Calls Tryd.prog 4 #[str s] w fun e w' => e = .returned (.bool true) ∧ w.grownBy w' none := by
  have A := hide (fun w' (hg : w.grownBy w' none) => awake_any w' (hT.grown hg))
  have P1 := hide (parse_any s hs w hT)
  have P2 := hide (rparse_any s hs)
  unfold prsV str at *
  generalize (⟨s.toArray⟩ : ByteArray) = sb at *
  generalize (prs s).1 = a at *
  generalize (prs s).2.1 = b at *
  generalize (prs s).2.2 = c at *
  clear hT hs
  go_enter Tryd.func4, Tryd.ntmps4
  go_wp2_with fail
  refine P1.out.mono ?_
  rintro e w1 ⟨rfl, hg1⟩
  have G1 := hide hg1
  clear hg1
  go_wp2_with fail
  refine (P2.out _).mono ?_
  rintro e w2 ⟨rfl, hg2⟩
  have G2 := hide (grown_trans G1.out hg2)
  clear hg2 G1
  go_wp2_with fail
  refine (A.out _ G2.out).mono ?_
  rintro e w3 ⟨rfl, hg3⟩
  have G3 := hide (grown_trans G2.out hg3)
  clear hg3 G2
  go_wp2
  go_ret
  exact ⟨rfl, G3.out⟩
theorem data_len' (s : ByteArray) : s.data.toList.length = s.size := by cases s; exact Array.length_toList
theorem codesParses_str (s : ByteArray) (hs : s.size ≤ 281474976710656) (w : World) (hT : Tab w) :
    Calls Tryd.prog 4 #[.string s] w fun e w' => e = .returned (.bool true) ∧ w.grownBy w' none := by
  have := codesParses_any s.data.toList (by rw [data_len']; exact hs) w hT
  unfold str at this
  rwa [← bytes_of s] at this
end Go.Proofs.YtnjcajcjdfhinaaDoor
