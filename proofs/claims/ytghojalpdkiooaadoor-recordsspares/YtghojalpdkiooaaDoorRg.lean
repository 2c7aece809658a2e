/- The document's records: time, may, Check, Size. -/
import Derived.Test.YtghojalpdkiooaaDoorRe
namespace Go.Proofs.YtghojalpdkiooaaDoor
open Go.RowKit
attribute [local go_sem ↓] Go.wp_at_zero Go.wp_at_succ
theorem time_any (n : Int) (w : World) : Calls Tryd.prog 44 #[.int .i64 n] w fun e w' => e = .returned (.bool (decide (1 ≤ n ∧ n ≤ mxC))) ∧ w' = w := by
  by_cases h1 : 1 ≤ n
  · by_cases h2 : n ≤ 1099511627776
    · rw [decide_eq_true (show 1 ≤ n ∧ n ≤ mxC from ⟨h1, h2⟩)]
      go_enter Tryd.func44, Tryd.ntmps44
      go_wp2
      go_ret
      exact ⟨rfl, rfl⟩
    · rw [decide_eq_false (show ¬ (1 ≤ n ∧ n ≤ mxC) from fun h => h2 h.2)]
      go_enter Tryd.func44, Tryd.ntmps44
      go_wp2
      go_ret
      exact ⟨rfl, rfl⟩
  · rw [decide_eq_false (show ¬ (1 ≤ n ∧ n ≤ mxC) from fun h => h1 h.1)]
    go_enter Tryd.func44, Tryd.ntmps44
    go_wp2
    go_ret
    exact ⟨rfl, rfl⟩
theorem size_ref (k : Int) (w : World) : Calls Tryd.prog 16 #[.int .i64 k] w fun e w' => e = .returned (.int .i64 (sz k : Nat)) ∧ w' = w := by
  by_cases hk : 1 ≤ k ∧ k ≤ 5
  · have hk5 : k = 1 ∨ k = 2 ∨ k = 3 ∨ k = 4 ∨ k = 5 := by omega
    rcases hk5 with rfl | rfl | rfl | rfl | rfl <;>
    · go_enter Tryd.func16, Tryd.ntmps16
      go_wp2
      go_ret
      exact ⟨rfl, rfl⟩
  · rw [sz_zero hk]
    have e1 : (k == 1) = false := by simp; omega
    have e2 : (k == 2) = false := by simp; omega
    have e3 : (k == 3) = false := by simp; omega
    have e4 : (k == 4) = false := by simp; omega
    have e5 : (k == 5) = false := by simp; omega
    have d1 : decide (k = 1) = false := by simp; omega
    have d2 : decide (k = 2) = false := by simp; omega
    have d3 : decide (k = 3) = false := by simp; omega
    have d4 : decide (k = 4) = false := by simp; omega
    have d5 : decide (k = 5) = false := by simp; omega
    clear hk
    go_enter Tryd.func16, Tryd.ntmps16
    go_wp2
    go_ret
    exact ⟨rfl, rfl⟩

set_option maxHeartbeats 4000000 in
theorem rmay_1 (i s u c : Int) (hi : 0 ≤ i) (w : World) : Calls Tryd.prog 27 #[rcV ⟨1, i, s, u, c⟩] w fun e w' => e = .returned (.bool (decide (Rc.mk 1 i s u c).May)) ∧ w.grownBy w' none := by
  have HO := hi
  clear hi
  obtain ⟨res, hres⟩ : ∃ res, res = decide (Rc.mk 1 i s u c).May := ⟨_, rfl⟩
  rw [← hres]
  unfold rcV
  obtain ⟨c0, c1, c2, c3, c4⟩ := box5 (heap_alloc_new w (.cells [Value.int .i64 1, .int .u32 i, .int .i64 s, .int .i64 u, .int .i64 c].toArray 25))
  have HG := hide (World.grownBy_alloc w (.cells [Value.int .i64 1, .int .u32 i, .int .i64 s, .int .i64 u, .int .i64 c].toArray 25) none)
  by_cases hi : i = 0
  · subst hi
    obtain rfl : res = false := by rw [hres]; apply decide_eq_false; unfold Rc.May mxC; (try unfold mxC at *); dsimp only; omega
    clear HO hres
    go_enter Tryd.func27, Tryd.ntmps27
    go_wp2_with (go_at_call 44; refine (qt _).mono ?_; rintro e wt ⟨rfl, hwt⟩; obtain rfl := hwt.symm)
    all_goals
      go_ret
      exact ⟨rfl, HG.out⟩
  · have ei : (i == 0) = false := by simpa using hi
    have ni : (i != 0) = true := by simpa using hi
    have di : decide (i = 0) = false := by simpa using hi
    by_cases hs : 0 ≤ s
    · by_cases ht : s < 1024
      · skip
        have qt := time_any u
        by_cases hx : 1 ≤ u ∧ u ≤ mxC
        · rw [decide_eq_true hx] at qt
          by_cases hc : c = 0
          · subst hc
            obtain rfl : res = true := by rw [hres]; apply decide_eq_true; unfold Rc.May mxC; (try unfold mxC at *); dsimp only; omega
            clear HO hres
            go_enter Tryd.func27, Tryd.ntmps27
            go_wp2_with (go_at_call 44; refine (qt _).mono ?_; rintro e wt ⟨rfl, hwt⟩; obtain rfl := hwt.symm)
            all_goals
              go_ret
              exact ⟨rfl, HG.out⟩
          · have ec : (c == 0) = false := by simpa using hc
            have dc : decide (c = 0) = false := by simpa using hc
            obtain rfl : res = false := by rw [hres]; apply decide_eq_false; unfold Rc.May mxC; (try unfold mxC at *); dsimp only; omega
            clear HO hres
            go_enter Tryd.func27, Tryd.ntmps27
            go_wp2_with (go_at_call 44; refine (qt _).mono ?_; rintro e wt ⟨rfl, hwt⟩; obtain rfl := hwt.symm)
            all_goals
              go_ret
              exact ⟨rfl, HG.out⟩
        · rw [decide_eq_false hx] at qt
          obtain rfl : res = false := by rw [hres]; apply decide_eq_false; unfold Rc.May mxC; (try unfold mxC at *); dsimp only; omega
          clear HO hres
          go_enter Tryd.func27, Tryd.ntmps27
          go_wp2_with (go_at_call 44; refine (qt _).mono ?_; rintro e wt ⟨rfl, hwt⟩; obtain rfl := hwt.symm)
          all_goals
            go_ret
            exact ⟨rfl, HG.out⟩
      · skip
        obtain rfl : res = false := by rw [hres]; apply decide_eq_false; unfold Rc.May mxC; (try unfold mxC at *); dsimp only; omega
        clear HO hres
        go_enter Tryd.func27, Tryd.ntmps27
        go_wp2_with (go_at_call 44; refine (qt _).mono ?_; rintro e wt ⟨rfl, hwt⟩; obtain rfl := hwt.symm)
        all_goals
          go_ret
          exact ⟨rfl, HG.out⟩
    · skip
      obtain rfl : res = false := by rw [hres]; apply decide_eq_false; unfold Rc.May mxC; (try unfold mxC at *); dsimp only; omega
      clear HO hres
      go_enter Tryd.func27, Tryd.ntmps27
      go_wp2_with (go_at_call 44; refine (qt _).mono ?_; rintro e wt ⟨rfl, hwt⟩; obtain rfl := hwt.symm)
      all_goals
        go_ret
        exact ⟨rfl, HG.out⟩
set_option maxHeartbeats 4000000 in
theorem rmay_2 (i s u c : Int) (hi : 0 ≤ i) (w : World) : Calls Tryd.prog 27 #[rcV ⟨2, i, s, u, c⟩] w fun e w' => e = .returned (.bool (decide (Rc.mk 2 i s u c).May)) ∧ w.grownBy w' none := by
  have HO := hi
  clear hi
  obtain ⟨res, hres⟩ : ∃ res, res = decide (Rc.mk 2 i s u c).May := ⟨_, rfl⟩
  rw [← hres]
  unfold rcV
  obtain ⟨c0, c1, c2, c3, c4⟩ := box5 (heap_alloc_new w (.cells [Value.int .i64 2, .int .u32 i, .int .i64 s, .int .i64 u, .int .i64 c].toArray 25))
  have HG := hide (World.grownBy_alloc w (.cells [Value.int .i64 2, .int .u32 i, .int .i64 s, .int .i64 u, .int .i64 c].toArray 25) none)
  by_cases hi : i = 0
  · subst hi
    obtain rfl : res = false := by rw [hres]; apply decide_eq_false; unfold Rc.May mxC; (try unfold mxC at *); dsimp only; omega
    clear HO hres
    go_enter Tryd.func27, Tryd.ntmps27
    go_wp2_with (go_at_call 44; refine (qt _).mono ?_; rintro e wt ⟨rfl, hwt⟩; obtain rfl := hwt.symm)
    all_goals
      go_ret
      exact ⟨rfl, HG.out⟩
  · have ei : (i == 0) = false := by simpa using hi
    have ni : (i != 0) = true := by simpa using hi
    have di : decide (i = 0) = false := by simpa using hi
    by_cases hs : s = 0
    · subst hs
      by_cases hu : u = 0
      · subst hu
        by_cases hc : c = 0
        · subst hc
          obtain rfl : res = true := by rw [hres]; apply decide_eq_true; unfold Rc.May mxC; (try unfold mxC at *); dsimp only; omega
          clear HO hres
          go_enter Tryd.func27, Tryd.ntmps27
          go_wp2_with (go_at_call 44; refine (qt _).mono ?_; rintro e wt ⟨rfl, hwt⟩; obtain rfl := hwt.symm)
          all_goals
            go_ret
            exact ⟨rfl, HG.out⟩
        · have ec : (c == 0) = false := by simpa using hc
          have dc : decide (c = 0) = false := by simpa using hc
          obtain rfl : res = false := by rw [hres]; apply decide_eq_false; unfold Rc.May mxC; (try unfold mxC at *); dsimp only; omega
          clear HO hres
          go_enter Tryd.func27, Tryd.ntmps27
          go_wp2_with (go_at_call 44; refine (qt _).mono ?_; rintro e wt ⟨rfl, hwt⟩; obtain rfl := hwt.symm)
          all_goals
            go_ret
            exact ⟨rfl, HG.out⟩
      · have eu : (u == 0) = false := by simpa using hu
        have du : decide (u = 0) = false := by simpa using hu
        obtain rfl : res = false := by rw [hres]; apply decide_eq_false; unfold Rc.May mxC; (try unfold mxC at *); dsimp only; omega
        clear HO hres
        go_enter Tryd.func27, Tryd.ntmps27
        go_wp2_with (go_at_call 44; refine (qt _).mono ?_; rintro e wt ⟨rfl, hwt⟩; obtain rfl := hwt.symm)
        all_goals
          go_ret
          exact ⟨rfl, HG.out⟩
    · have es : (s == 0) = false := by simpa using hs
      have ds : decide (s = 0) = false := by simpa using hs
      obtain rfl : res = false := by rw [hres]; apply decide_eq_false; unfold Rc.May mxC; (try unfold mxC at *); dsimp only; omega
      clear HO hres
      go_enter Tryd.func27, Tryd.ntmps27
      go_wp2_with (go_at_call 44; refine (qt _).mono ?_; rintro e wt ⟨rfl, hwt⟩; obtain rfl := hwt.symm)
      all_goals
        go_ret
        exact ⟨rfl, HG.out⟩
set_option maxHeartbeats 4000000 in
theorem rmay_3 (i s u c : Int) (hi : 0 ≤ i) (w : World) : Calls Tryd.prog 27 #[rcV ⟨3, i, s, u, c⟩] w fun e w' => e = .returned (.bool (decide (Rc.mk 3 i s u c).May)) ∧ w.grownBy w' none := by
  have HO := hi
  clear hi
  obtain ⟨res, hres⟩ : ∃ res, res = decide (Rc.mk 3 i s u c).May := ⟨_, rfl⟩
  rw [← hres]
  unfold rcV
  obtain ⟨c0, c1, c2, c3, c4⟩ := box5 (heap_alloc_new w (.cells [Value.int .i64 3, .int .u32 i, .int .i64 s, .int .i64 u, .int .i64 c].toArray 25))
  have HG := hide (World.grownBy_alloc w (.cells [Value.int .i64 3, .int .u32 i, .int .i64 s, .int .i64 u, .int .i64 c].toArray 25) none)
  by_cases hi : i = 0
  · subst hi
    obtain rfl : res = false := by rw [hres]; apply decide_eq_false; unfold Rc.May mxC; (try unfold mxC at *); dsimp only; omega
    clear HO hres
    go_enter Tryd.func27, Tryd.ntmps27
    go_wp2_with (go_at_call 44; refine (qt _).mono ?_; rintro e wt ⟨rfl, hwt⟩; obtain rfl := hwt.symm)
    all_goals
      go_ret
      exact ⟨rfl, HG.out⟩
  · have ei : (i == 0) = false := by simpa using hi
    have ni : (i != 0) = true := by simpa using hi
    have di : decide (i = 0) = false := by simpa using hi
    by_cases hs : s = 0
    · subst hs
      by_cases hu : u = 0
      · subst hu
        by_cases hc : c = 0
        · subst hc
          obtain rfl : res = true := by rw [hres]; apply decide_eq_true; unfold Rc.May mxC; (try unfold mxC at *); dsimp only; omega
          clear HO hres
          go_enter Tryd.func27, Tryd.ntmps27
          go_wp2_with (go_at_call 44; refine (qt _).mono ?_; rintro e wt ⟨rfl, hwt⟩; obtain rfl := hwt.symm)
          all_goals
            go_ret
            exact ⟨rfl, HG.out⟩
        · have ec : (c == 0) = false := by simpa using hc
          have dc : decide (c = 0) = false := by simpa using hc
          obtain rfl : res = false := by rw [hres]; apply decide_eq_false; unfold Rc.May mxC; (try unfold mxC at *); dsimp only; omega
          clear HO hres
          go_enter Tryd.func27, Tryd.ntmps27
          go_wp2_with (go_at_call 44; refine (qt _).mono ?_; rintro e wt ⟨rfl, hwt⟩; obtain rfl := hwt.symm)
          all_goals
            go_ret
            exact ⟨rfl, HG.out⟩
      · have eu : (u == 0) = false := by simpa using hu
        have du : decide (u = 0) = false := by simpa using hu
        obtain rfl : res = false := by rw [hres]; apply decide_eq_false; unfold Rc.May mxC; (try unfold mxC at *); dsimp only; omega
        clear HO hres
        go_enter Tryd.func27, Tryd.ntmps27
        go_wp2_with (go_at_call 44; refine (qt _).mono ?_; rintro e wt ⟨rfl, hwt⟩; obtain rfl := hwt.symm)
        all_goals
          go_ret
          exact ⟨rfl, HG.out⟩
    · have es : (s == 0) = false := by simpa using hs
      have ds : decide (s = 0) = false := by simpa using hs
      obtain rfl : res = false := by rw [hres]; apply decide_eq_false; unfold Rc.May mxC; (try unfold mxC at *); dsimp only; omega
      clear HO hres
      go_enter Tryd.func27, Tryd.ntmps27
      go_wp2_with (go_at_call 44; refine (qt _).mono ?_; rintro e wt ⟨rfl, hwt⟩; obtain rfl := hwt.symm)
      all_goals
        go_ret
        exact ⟨rfl, HG.out⟩
set_option maxHeartbeats 4000000 in
theorem rmay_4 (i s u c : Int) (hi : 0 ≤ i) (w : World) : Calls Tryd.prog 27 #[rcV ⟨4, i, s, u, c⟩] w fun e w' => e = .returned (.bool (decide (Rc.mk 4 i s u c).May)) ∧ w.grownBy w' none := by
  have HO := hi
  clear hi
  obtain ⟨res, hres⟩ : ∃ res, res = decide (Rc.mk 4 i s u c).May := ⟨_, rfl⟩
  rw [← hres]
  unfold rcV
  obtain ⟨c0, c1, c2, c3, c4⟩ := box5 (heap_alloc_new w (.cells [Value.int .i64 4, .int .u32 i, .int .i64 s, .int .i64 u, .int .i64 c].toArray 25))
  have HG := hide (World.grownBy_alloc w (.cells [Value.int .i64 4, .int .u32 i, .int .i64 s, .int .i64 u, .int .i64 c].toArray 25) none)
  by_cases hi : i = 0
  · subst hi
    obtain rfl : res = false := by rw [hres]; apply decide_eq_false; unfold Rc.May mxC; (try unfold mxC at *); dsimp only; omega
    clear HO hres
    go_enter Tryd.func27, Tryd.ntmps27
    go_wp2_with (go_at_call 44; refine (qt _).mono ?_; rintro e wt ⟨rfl, hwt⟩; obtain rfl := hwt.symm)
    all_goals
      go_ret
      exact ⟨rfl, HG.out⟩
  · have ei : (i == 0) = false := by simpa using hi
    have ni : (i != 0) = true := by simpa using hi
    have di : decide (i = 0) = false := by simpa using hi
    by_cases hs : 0 ≤ s
    · by_cases ht : s < 1024
      · skip
        by_cases hu : u = 0
        · subst hu
          by_cases hc : c = 0
          · subst hc
            obtain rfl : res = true := by rw [hres]; apply decide_eq_true; unfold Rc.May mxC; (try unfold mxC at *); dsimp only; omega
            clear HO hres
            go_enter Tryd.func27, Tryd.ntmps27
            go_wp2_with (go_at_call 44; refine (qt _).mono ?_; rintro e wt ⟨rfl, hwt⟩; obtain rfl := hwt.symm)
            all_goals
              go_ret
              exact ⟨rfl, HG.out⟩
          · have ec : (c == 0) = false := by simpa using hc
            have dc : decide (c = 0) = false := by simpa using hc
            obtain rfl : res = false := by rw [hres]; apply decide_eq_false; unfold Rc.May mxC; (try unfold mxC at *); dsimp only; omega
            clear HO hres
            go_enter Tryd.func27, Tryd.ntmps27
            go_wp2_with (go_at_call 44; refine (qt _).mono ?_; rintro e wt ⟨rfl, hwt⟩; obtain rfl := hwt.symm)
            all_goals
              go_ret
              exact ⟨rfl, HG.out⟩
        · have eu : (u == 0) = false := by simpa using hu
          have du : decide (u = 0) = false := by simpa using hu
          obtain rfl : res = false := by rw [hres]; apply decide_eq_false; unfold Rc.May mxC; (try unfold mxC at *); dsimp only; omega
          clear HO hres
          go_enter Tryd.func27, Tryd.ntmps27
          go_wp2_with (go_at_call 44; refine (qt _).mono ?_; rintro e wt ⟨rfl, hwt⟩; obtain rfl := hwt.symm)
          all_goals
            go_ret
            exact ⟨rfl, HG.out⟩
      · skip
        obtain rfl : res = false := by rw [hres]; apply decide_eq_false; unfold Rc.May mxC; (try unfold mxC at *); dsimp only; omega
        clear HO hres
        go_enter Tryd.func27, Tryd.ntmps27
        go_wp2_with (go_at_call 44; refine (qt _).mono ?_; rintro e wt ⟨rfl, hwt⟩; obtain rfl := hwt.symm)
        all_goals
          go_ret
          exact ⟨rfl, HG.out⟩
    · skip
      obtain rfl : res = false := by rw [hres]; apply decide_eq_false; unfold Rc.May mxC; (try unfold mxC at *); dsimp only; omega
      clear HO hres
      go_enter Tryd.func27, Tryd.ntmps27
      go_wp2_with (go_at_call 44; refine (qt _).mono ?_; rintro e wt ⟨rfl, hwt⟩; obtain rfl := hwt.symm)
      all_goals
        go_ret
        exact ⟨rfl, HG.out⟩
set_option maxHeartbeats 4000000 in
theorem rmay_5 (i s u c : Int) (hi : 0 ≤ i) (w : World) : Calls Tryd.prog 27 #[rcV ⟨5, i, s, u, c⟩] w fun e w' => e = .returned (.bool (decide (Rc.mk 5 i s u c).May)) ∧ w.grownBy w' none := by
  have HO := hi
  clear hi
  obtain ⟨res, hres⟩ : ∃ res, res = decide (Rc.mk 5 i s u c).May := ⟨_, rfl⟩
  rw [← hres]
  unfold rcV
  obtain ⟨c0, c1, c2, c3, c4⟩ := box5 (heap_alloc_new w (.cells [Value.int .i64 5, .int .u32 i, .int .i64 s, .int .i64 u, .int .i64 c].toArray 25))
  have HG := hide (World.grownBy_alloc w (.cells [Value.int .i64 5, .int .u32 i, .int .i64 s, .int .i64 u, .int .i64 c].toArray 25) none)
  by_cases hi : i = 0
  · subst hi
    by_cases hs : s = 0
    · subst hs
      by_cases hu : u = 0
      · subst hu
        have qt := time_any c
        by_cases hx : 1 ≤ c ∧ c ≤ mxC
        · rw [decide_eq_true hx] at qt
          obtain rfl : res = true := by rw [hres]; apply decide_eq_true; unfold Rc.May mxC; (try unfold mxC at *); dsimp only; omega
          clear HO hres
          go_enter Tryd.func27, Tryd.ntmps27
          go_wp2_with (go_at_call 44; refine (qt _).mono ?_; rintro e wt ⟨rfl, hwt⟩; obtain rfl := hwt.symm)
          all_goals
            go_ret
            exact ⟨rfl, HG.out⟩
        · rw [decide_eq_false hx] at qt
          obtain rfl : res = false := by rw [hres]; apply decide_eq_false; unfold Rc.May mxC; (try unfold mxC at *); dsimp only; omega
          clear HO hres
          go_enter Tryd.func27, Tryd.ntmps27
          go_wp2_with (go_at_call 44; refine (qt _).mono ?_; rintro e wt ⟨rfl, hwt⟩; obtain rfl := hwt.symm)
          all_goals
            go_ret
            exact ⟨rfl, HG.out⟩
      · have eu : (u == 0) = false := by simpa using hu
        have du : decide (u = 0) = false := by simpa using hu
        obtain rfl : res = false := by rw [hres]; apply decide_eq_false; unfold Rc.May mxC; (try unfold mxC at *); dsimp only; omega
        clear HO hres
        go_enter Tryd.func27, Tryd.ntmps27
        go_wp2_with (go_at_call 44; refine (qt _).mono ?_; rintro e wt ⟨rfl, hwt⟩; obtain rfl := hwt.symm)
        all_goals
          go_ret
          exact ⟨rfl, HG.out⟩
    · have es : (s == 0) = false := by simpa using hs
      have ds : decide (s = 0) = false := by simpa using hs
      obtain rfl : res = false := by rw [hres]; apply decide_eq_false; unfold Rc.May mxC; (try unfold mxC at *); dsimp only; omega
      clear HO hres
      go_enter Tryd.func27, Tryd.ntmps27
      go_wp2_with (go_at_call 44; refine (qt _).mono ?_; rintro e wt ⟨rfl, hwt⟩; obtain rfl := hwt.symm)
      all_goals
        go_ret
        exact ⟨rfl, HG.out⟩
  · have ei : (i == 0) = false := by simpa using hi
    have di : decide (i = 0) = false := by simpa using hi
    obtain rfl : res = false := by rw [hres]; apply decide_eq_false; unfold Rc.May mxC; (try unfold mxC at *); dsimp only; omega
    clear HO hres
    go_enter Tryd.func27, Tryd.ntmps27
    go_wp2_with (go_at_call 44; refine (qt _).mono ?_; rintro e wt ⟨rfl, hwt⟩; obtain rfl := hwt.symm)
    all_goals
      go_ret
      exact ⟨rfl, HG.out⟩
theorem rmay_any (r : Rc) (ho : r.Ok) (w : World) : Calls Tryd.prog 27 #[rcV r] w fun e w' => e = .returned (.bool (decide r.May)) ∧ w.grownBy w' none := by
  have hi := ho.i0
  obtain ⟨k, i, s, u, c⟩ := r
  dsimp only at hi
  by_cases hk : 1 ≤ k ∧ k ≤ 5
  · have hk5 : k = 1 ∨ k = 2 ∨ k = 3 ∨ k = 4 ∨ k = 5 := by omega
    rcases hk5 with rfl | rfl | rfl | rfl | rfl
    · exact rmay_1 i s u c hi w
    · exact rmay_2 i s u c hi w
    · exact rmay_3 i s u c hi w
    · exact rmay_4 i s u c hi w
    · exact rmay_5 i s u c hi w
  · rw [decide_eq_false (may_not_kind (r := ⟨k, i, s, u, c⟩) hk)]
    have e1 : (k == 1) = false := by simp; omega
    have e2 : (k == 2) = false := by simp; omega
    have e3 : (k == 3) = false := by simp; omega
    have e4 : (k == 4) = false := by simp; omega
    have e5 : (k == 5) = false := by simp; omega
    have d1 : decide (k = 1) = false := by simp; omega
    have d2 : decide (k = 2) = false := by simp; omega
    have d3 : decide (k = 3) = false := by simp; omega
    have d4 : decide (k = 4) = false := by simp; omega
    have d5 : decide (k = 5) = false := by simp; omega
    clear hk hi ho
    unfold rcV
    obtain ⟨c0, c1, c2, c3, c4⟩ := box5 (heap_alloc_new w (.cells [Value.int .i64 k, .int .u32 i, .int .i64 s, .int .i64 u, .int .i64 c].toArray 25))
    have HG := hide (World.grownBy_alloc w (.cells [Value.int .i64 k, .int .u32 i, .int .i64 s, .int .i64 u, .int .i64 c].toArray 25) none)
    go_enter Tryd.func27, Tryd.ntmps27
    go_wp2
    all_goals
      go_ret
      exact ⟨rfl, HG.out⟩
theorem check_ref (r : Rc) (ho : r.Ok) (w : World) : Calls Tryd.prog 14 #[rcV r] w fun e w' => e = .returned (.int .i64 (chk r)) ∧ w.grownBy w' none := by
  have g1 := World.grownBy_alloc w (.cells (rcC r).toArray 25) none
  have b1 := heap_alloc_new w (.cells (rcC r).toArray 25)
  have q := rmay_any r ho (w.alloc (.cells (rcC r).toArray 25))
  obtain ⟨c0, c1, c2, c3, c4⟩ := box5 b1
  have G := hide g1
  clear g1 b1 ho
  unfold rcC rcV at *
  by_cases hm : r.May
  · rw [decide_eq_true hm] at q
    rw [show chk r = 0 from if_pos hm]
    clear hm
    go_enter Tryd.func14, Tryd.ntmps14
    go_wp2_with fail
    refine q.mono ?_
    rintro e w1 ⟨rfl, hg⟩
    have HG := hide (grown_trans G.out hg)
    clear hg q
    go_wp2
    go_ret
    exact ⟨rfl, HG.out⟩
  · rw [decide_eq_false hm] at q
    rw [show chk r = 160 from if_neg hm]
    clear hm
    go_enter Tryd.func14, Tryd.ntmps14
    go_wp2_with fail
    refine q.mono ?_
    rintro e w1 ⟨rfl, hg⟩
    have HG := hide (grown_trans G.out hg)
    clear hg q
    go_wp2
    go_ret
    exact ⟨rfl, HG.out⟩
end Go.Proofs.YtghojalpdkiooaaDoor
