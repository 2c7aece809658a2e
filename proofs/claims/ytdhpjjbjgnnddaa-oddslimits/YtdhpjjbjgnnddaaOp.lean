/- OddsShows walked. -/
import Derived.Test.YtdhpjjbjgnnddaaOo
namespace Go.Proofs.Ytdhpjjbjgnnddaa
open Go.RowKit
attribute [local go_sem ↓] Go.wp_at_zero Go.wp_at_succ
attribute [local go_sem] run_store_float

theorem alloc_size (w : World) (o : Obj) : (w.alloc o).heap.size = w.heap.size + 1 := Array.size_push _
theorem bits_two (w : World) (z : Nat) : Calls Try.prog 18 #[.slice (some ⟨w.heap.size, 0, none⟩) 1 1, .slice (some ⟨w.heap.size + 1, 0, none⟩) 1 1] ((w.alloc (.cells #[.float .f64 z] 26)).alloc (.cells #[.float .f64 z] 26))
    fun e w' => e = .returned (.bool true) ∧ w.grownBy w' none := by
  have h1 : At ((w.alloc (.cells #[.float .f64 z] 26)).alloc (.cells #[.float .f64 z] 26)) (some ⟨w.heap.size, 0, none⟩) [z] := (fresh_at w [z]).grown (grown_alloc _ _)
  have h2 : At ((w.alloc (.cells #[.float .f64 z] 26)).alloc (.cells #[.float .f64 z] 26)) (some ⟨w.heap.size + 1, 0, none⟩) [z] := by
    have := fresh_at (w.alloc (.cells #[.float .f64 z] 26)) [z]
    rw [alloc_size] at this
    exact this
  have hg : w.grownBy ((w.alloc (.cells #[.float .f64 z] 26)).alloc (.cells #[.float .f64 z] 26)) none := grown_trans (grown_alloc w _) (grown_alloc _ _)
  generalize ((w.alloc (.cells #[.float .f64 z] 26)).alloc (.cells #[.float .f64 z] 26)) = w' at *
  exact (bits_eq _ _ 1 1 1 [z] w' rfl h1 h2 (by omega)).mono fun e w2 ⟨he, hg2⟩ => ⟨he, grown_trans hg hg2⟩

set_option maxHeartbeats 1000000 in
theorem oddsShows_any (n s : Int) (p : Nat) (w : World) (hs1 : -9223372036854775808 ≤ s) (hs2 : s ≤ 9223372036854775807) : Calls Try.prog 4 #[.int .i64 n, .int .i64 s, .float .f64 p] w fun e w' => e = .returned (.bool true) ∧ w.grownBy w' none := by
  go_enter Try.func4, Try.ntmps4
  go_upto_region 1 with fail
  go_cut [20] from 15 to 20 (fun v wx => ∃ b : Bool, v = .bool b ∧ wx = w)
  case first =>
    by_cases h1 : 600 < n
    · by_cases h2 : n ≤ 4096
      · go_wp2
        go_meet
        case rel => exact ⟨_, rfl, rfl⟩
      · go_wp2
        go_meet
        case rel => exact ⟨_, rfl, rfl⟩
    · go_wp2
      go_meet
      case rel => exact ⟨_, rfl, rfl⟩
  case rest =>
  obtain ⟨b, rfl, hw⟩ := hcut
  obtain rfl := hw.symm
  clear hw
  go_upto_if 20 with fail
  go_cut [0] from 21 to 22 (fun v wx => ∃ m : Int, v = .int .i64 m ∧ wx = w)
  case first =>
    cases b
    · go_wp2
      go_meet
      case rel => exact ⟨_, rfl, rfl⟩
    · go_wp2
      go_meet
      case rel => exact ⟨_, rfl, rfl⟩
  case rest =>
  obtain ⟨m, rfl, hw⟩ := hcut
  obtain rfl := hw.symm
  clear hw
  have hlen := rX_length m p
  go_wp2_with fail
  refine (shows_all m p w).mono ?_
  rintro e w1 ⟨ao, cap, len, rfl, hl1, hat1, hg1⟩
  have HA := hide hat1
  have HG1 := hide hg1
  have HL := hide hl1
  have hlb : len ≤ 4097 := by rw [hl1]; exact hlen
  clear hat1 hg1 hl1 hlen
  go_wp2_with fail
  refine (rshows_all m p w1).mono ?_
  rintro e w2 ⟨bo, cap2, len2, rfl, hl2, hat2, hg2⟩
  obtain rfl : len = len2 := by rw [HL.out, hl2]
  have HA2 := hide (And.intro (HA.out.grown hg2) hat2)
  have HG2 := hide (grown_trans HG1.out hg2)
  clear hat2 hg2 hl2 HA HG1
  have HS := hide (And.intro hs1 hs2)
  clear hs1 hs2
  go_wp2_with fail
  refine (above_any m s p w2 HS.out.1 HS.out.2).mono ?_
  rintro e w3 ⟨rfl, hg3⟩
  have HA3 := hide (And.intro (HA2.out.1.grown hg3) (HA2.out.2.grown hg3))
  have HG3 := hide (grown_trans HG2.out hg3)
  clear hg3 HA2 HG2
  go_wp2_with fail
  refine (rabove_any m s p w3 HS.out.1 HS.out.2).mono ?_
  rintro e w4 ⟨rfl, hg4⟩
  have HA4 := hide (And.intro (HA3.out.1.grown hg4) (HA3.out.2.grown hg4))
  have HG4 := hide (grown_trans HG3.out hg4)
  clear hg4 HA3 HG3
  generalize aB m s p = z at *
  generalize aE m p = er at *
  go_wp2_with fail
  refine (bits_eq ao bo len cap cap2 (rX m p) w4 HL.out HA4.out.1 HA4.out.2 (by omega)).mono ?_
  rintro e w5 ⟨rfl, hg5⟩
  have HG5 := hide (grown_trans HG4.out hg5)
  clear hg5 HA4 HG4 HL
  go_wp2_with fail
  refine (bits_two w5 z).mono ?_
  rintro e w6 ⟨rfl, hg6⟩
  have HG6 := hide (grown_trans HG5.out hg6)
  clear hg6 HG5
  go_wp2_with fail
  refine (awake_any w6).mono ?_
  rintro e w7 ⟨rfl, hg7⟩
  have HG7 := hide (grown_trans HG6.out hg7)
  clear hg7 HG6
  go_wp2
  go_ret
  exact ⟨rfl, HG7.out⟩
end Go.Proofs.Ytdhpjjbjgnnddaa
