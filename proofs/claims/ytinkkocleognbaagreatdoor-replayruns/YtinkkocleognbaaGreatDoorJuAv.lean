/- Texts joined: JpAf. -/
import Derived.Test.YtinkkocleognbaaGreatDoorJuAu
import Derived.Test.YtinkkocleognbaaGreatDoorJuAr
/- Texts joined: RkRg, Db3, Hy1. -/
/- The document's records: time, may, Check, Size. -/
namespace Go.Proofs.YtinkkocleognbaaGreatDoor.Rk
open Oc
open Go.RowKit
attribute [local go_sem ↓] Go.wp_at_zero Go.wp_at_succ
theorem time_any (n : Int) (w : World) : Calls Tryz.prog 119 #[.int .i64 n] w fun e w' => e = .returned (.bool (decide (1 ≤ n ∧ n ≤ mxC))) ∧ w' = w := by
  by_cases h1 : 1 ≤ n
  · by_cases h2 : n ≤ 1099511627776
    · rw [decide_eq_true (show 1 ≤ n ∧ n ≤ mxC from ⟨h1, h2⟩)]
      go_enter Tryz.func119, Tryz.ntmps119
      go_wp2
      go_ret
      exact ⟨rfl, rfl⟩
    · rw [decide_eq_false (show ¬ (1 ≤ n ∧ n ≤ mxC) from fun h => h2 h.2)]
      go_enter Tryz.func119, Tryz.ntmps119
      go_wp2
      go_ret
      exact ⟨rfl, rfl⟩
  · rw [decide_eq_false (show ¬ (1 ≤ n ∧ n ≤ mxC) from fun h => h1 h.1)]
    go_enter Tryz.func119, Tryz.ntmps119
    go_wp2
    go_ret
    exact ⟨rfl, rfl⟩
theorem size_ref (k : Int) (w : World) : Calls Tryz.prog 85 #[.int .i64 k] w fun e w' => e = .returned (.int .i64 (sz k : Nat)) ∧ w' = w := by
  by_cases hk : 1 ≤ k ∧ k ≤ 5
  · have hk5 : k = 1 ∨ k = 2 ∨ k = 3 ∨ k = 4 ∨ k = 5 := by omega
    rcases hk5 with rfl | rfl | rfl | rfl | rfl <;>
    · go_enter Tryz.func85, Tryz.ntmps85
      go_wp2
      go_ret
      exact ⟨rfl, rfl⟩
  · rw [sz_zero hk]
    have e1 : (k == 1) = false := by simp; omega
    have e2 : (k == 2) = false := by simp; omega
    have e3 : (k == 3) = false := by simp; omega
    have e4 : (k == 4) = false := by simp; omega
    have e5 : (k == 5) = false := by simp; omega
    have d1 : decide (k = 1) = false := by simp; omega
    have d2 : decide (k = 2) = false := by simp; omega
    have d3 : decide (k = 3) = false := by simp; omega
    have d4 : decide (k = 4) = false := by simp; omega
    have d5 : decide (k = 5) = false := by simp; omega
    clear hk
    go_enter Tryz.func85, Tryz.ntmps85
    go_wp2
    go_ret
    exact ⟨rfl, rfl⟩

set_option maxHeartbeats 4000000 in
theorem rmay_1 (i s u c : Int) (hi : 0 ≤ i) (w : World) : Calls Tryz.prog 83 #[rcV ⟨1, i, s, u, c⟩] w fun e w' => e = .returned (.bool (decide (Rc.mk 1 i s u c).May)) ∧ w.grownBy w' none := by
  have HO := hi
  clear hi
  obtain ⟨res, hres⟩ : ∃ res, res = decide (Rc.mk 1 i s u c).May := ⟨_, rfl⟩
  rw [← hres]
  unfold rcV
  obtain ⟨c0, c1, c2, c3, c4⟩ := box5 (heap_alloc_new w (.cells [Value.int .i64 1, .int .u32 i, .int .i64 s, .int .i64 u, .int .i64 c].toArray 47))
  have HG := hide (World.grownBy_alloc w (.cells [Value.int .i64 1, .int .u32 i, .int .i64 s, .int .i64 u, .int .i64 c].toArray 47) none)
  by_cases hi : i = 0
  · subst hi
    obtain rfl : res = false := by rw [hres]; apply decide_eq_false; unfold Rc.May mxC; (try unfold mxC at *); dsimp only; omega
    clear HO hres
    go_enter Tryz.func83, Tryz.ntmps83
    go_wp2_with (go_at_call 119; refine (qt _).mono ?_; rintro e wt ⟨rfl, hwt⟩; obtain rfl := hwt.symm)
    all_goals
      go_ret
      exact ⟨rfl, HG.out⟩
  · have ei : (i == 0) = false := by simpa using hi
    have ni : (i != 0) = true := by simpa using hi
    have di : decide (i = 0) = false := by simpa using hi
    by_cases hs : 0 ≤ s
    · by_cases ht : s < 1024
      · skip
        have qt := time_any u
        by_cases hx : 1 ≤ u ∧ u ≤ mxC
        · rw [decide_eq_true hx] at qt
          by_cases hc : c = 0
          · subst hc
            obtain rfl : res = true := by rw [hres]; apply decide_eq_true; unfold Rc.May mxC; (try unfold mxC at *); dsimp only; omega
            clear HO hres
            go_enter Tryz.func83, Tryz.ntmps83
            go_wp2_with (go_at_call 119; refine (qt _).mono ?_; rintro e wt ⟨rfl, hwt⟩; obtain rfl := hwt.symm)
            all_goals
              go_ret
              exact ⟨rfl, HG.out⟩
          · have ec : (c == 0) = false := by simpa using hc
            have dc : decide (c = 0) = false := by simpa using hc
            obtain rfl : res = false := by rw [hres]; apply decide_eq_false; unfold Rc.May mxC; (try unfold mxC at *); dsimp only; omega
            clear HO hres
            go_enter Tryz.func83, Tryz.ntmps83
            go_wp2_with (go_at_call 119; refine (qt _).mono ?_; rintro e wt ⟨rfl, hwt⟩; obtain rfl := hwt.symm)
            all_goals
              go_ret
              exact ⟨rfl, HG.out⟩
        · rw [decide_eq_false hx] at qt
          obtain rfl : res = false := by rw [hres]; apply decide_eq_false; unfold Rc.May mxC; (try unfold mxC at *); dsimp only; omega
          clear HO hres
          go_enter Tryz.func83, Tryz.ntmps83
          go_wp2_with (go_at_call 119; refine (qt _).mono ?_; rintro e wt ⟨rfl, hwt⟩; obtain rfl := hwt.symm)
          all_goals
            go_ret
            exact ⟨rfl, HG.out⟩
      · skip
        obtain rfl : res = false := by rw [hres]; apply decide_eq_false; unfold Rc.May mxC; (try unfold mxC at *); dsimp only; omega
        clear HO hres
        go_enter Tryz.func83, Tryz.ntmps83
        go_wp2_with (go_at_call 119; refine (qt _).mono ?_; rintro e wt ⟨rfl, hwt⟩; obtain rfl := hwt.symm)
        all_goals
          go_ret
          exact ⟨rfl, HG.out⟩
    · skip
      obtain rfl : res = false := by rw [hres]; apply decide_eq_false; unfold Rc.May mxC; (try unfold mxC at *); dsimp only; omega
      clear HO hres
      go_enter Tryz.func83, Tryz.ntmps83
      go_wp2_with (go_at_call 119; refine (qt _).mono ?_; rintro e wt ⟨rfl, hwt⟩; obtain rfl := hwt.symm)
      all_goals
        go_ret
        exact ⟨rfl, HG.out⟩
set_option maxHeartbeats 4000000 in
theorem rmay_2 (i s u c : Int) (hi : 0 ≤ i) (w : World) : Calls Tryz.prog 83 #[rcV ⟨2, i, s, u, c⟩] w fun e w' => e = .returned (.bool (decide (Rc.mk 2 i s u c).May)) ∧ w.grownBy w' none := by
  have HO := hi
  clear hi
  obtain ⟨res, hres⟩ : ∃ res, res = decide (Rc.mk 2 i s u c).May := ⟨_, rfl⟩
  rw [← hres]
  unfold rcV
  obtain ⟨c0, c1, c2, c3, c4⟩ := box5 (heap_alloc_new w (.cells [Value.int .i64 2, .int .u32 i, .int .i64 s, .int .i64 u, .int .i64 c].toArray 47))
  have HG := hide (World.grownBy_alloc w (.cells [Value.int .i64 2, .int .u32 i, .int .i64 s, .int .i64 u, .int .i64 c].toArray 47) none)
  by_cases hi : i = 0
  · subst hi
    obtain rfl : res = false := by rw [hres]; apply decide_eq_false; unfold Rc.May mxC; (try unfold mxC at *); dsimp only; omega
    clear HO hres
    go_enter Tryz.func83, Tryz.ntmps83
    go_wp2_with (go_at_call 119; refine (qt _).mono ?_; rintro e wt ⟨rfl, hwt⟩; obtain rfl := hwt.symm)
    all_goals
      go_ret
      exact ⟨rfl, HG.out⟩
  · have ei : (i == 0) = false := by simpa using hi
    have ni : (i != 0) = true := by simpa using hi
    have di : decide (i = 0) = false := by simpa using hi
    by_cases hs : s = 0
    · subst hs
      by_cases hu : u = 0
      · subst hu
        by_cases hc : c = 0
        · subst hc
          obtain rfl : res = true := by rw [hres]; apply decide_eq_true; unfold Rc.May mxC; (try unfold mxC at *); dsimp only; omega
          clear HO hres
          go_enter Tryz.func83, Tryz.ntmps83
          go_wp2_with (go_at_call 119; refine (qt _).mono ?_; rintro e wt ⟨rfl, hwt⟩; obtain rfl := hwt.symm)
          all_goals
            go_ret
            exact ⟨rfl, HG.out⟩
        · have ec : (c == 0) = false := by simpa using hc
          have dc : decide (c = 0) = false := by simpa using hc
          obtain rfl : res = false := by rw [hres]; apply decide_eq_false; unfold Rc.May mxC; (try unfold mxC at *); dsimp only; omega
          clear HO hres
          go_enter Tryz.func83, Tryz.ntmps83
          go_wp2_with (go_at_call 119; refine (qt _).mono ?_; rintro e wt ⟨rfl, hwt⟩; obtain rfl := hwt.symm)
          all_goals
            go_ret
            exact ⟨rfl, HG.out⟩
      · have eu : (u == 0) = false := by simpa using hu
        have du : decide (u = 0) = false := by simpa using hu
        obtain rfl : res = false := by rw [hres]; apply decide_eq_false; unfold Rc.May mxC; (try unfold mxC at *); dsimp only; omega
        clear HO hres
        go_enter Tryz.func83, Tryz.ntmps83
        go_wp2_with (go_at_call 119; refine (qt _).mono ?_; rintro e wt ⟨rfl, hwt⟩; obtain rfl := hwt.symm)
        all_goals
          go_ret
          exact ⟨rfl, HG.out⟩
    · have es : (s == 0) = false := by simpa using hs
      have ds : decide (s = 0) = false := by simpa using hs
      obtain rfl : res = false := by rw [hres]; apply decide_eq_false; unfold Rc.May mxC; (try unfold mxC at *); dsimp only; omega
      clear HO hres
      go_enter Tryz.func83, Tryz.ntmps83
      go_wp2_with (go_at_call 119; refine (qt _).mono ?_; rintro e wt ⟨rfl, hwt⟩; obtain rfl := hwt.symm)
      all_goals
        go_ret
        exact ⟨rfl, HG.out⟩
set_option maxHeartbeats 4000000 in
theorem rmay_3 (i s u c : Int) (hi : 0 ≤ i) (w : World) : Calls Tryz.prog 83 #[rcV ⟨3, i, s, u, c⟩] w fun e w' => e = .returned (.bool (decide (Rc.mk 3 i s u c).May)) ∧ w.grownBy w' none := by
  have HO := hi
  clear hi
  obtain ⟨res, hres⟩ : ∃ res, res = decide (Rc.mk 3 i s u c).May := ⟨_, rfl⟩
  rw [← hres]
  unfold rcV
  obtain ⟨c0, c1, c2, c3, c4⟩ := box5 (heap_alloc_new w (.cells [Value.int .i64 3, .int .u32 i, .int .i64 s, .int .i64 u, .int .i64 c].toArray 47))
  have HG := hide (World.grownBy_alloc w (.cells [Value.int .i64 3, .int .u32 i, .int .i64 s, .int .i64 u, .int .i64 c].toArray 47) none)
  by_cases hi : i = 0
  · subst hi
    obtain rfl : res = false := by rw [hres]; apply decide_eq_false; unfold Rc.May mxC; (try unfold mxC at *); dsimp only; omega
    clear HO hres
    go_enter Tryz.func83, Tryz.ntmps83
    go_wp2_with (go_at_call 119; refine (qt _).mono ?_; rintro e wt ⟨rfl, hwt⟩; obtain rfl := hwt.symm)
    all_goals
      go_ret
      exact ⟨rfl, HG.out⟩
  · have ei : (i == 0) = false := by simpa using hi
    have ni : (i != 0) = true := by simpa using hi
    have di : decide (i = 0) = false := by simpa using hi
    by_cases hs : s = 0
    · subst hs
      by_cases hu : u = 0
      · subst hu
        by_cases hc : c = 0
        · subst hc
          obtain rfl : res = true := by rw [hres]; apply decide_eq_true; unfold Rc.May mxC; (try unfold mxC at *); dsimp only; omega
          clear HO hres
          go_enter Tryz.func83, Tryz.ntmps83
          go_wp2_with (go_at_call 119; refine (qt _).mono ?_; rintro e wt ⟨rfl, hwt⟩; obtain rfl := hwt.symm)
          all_goals
            go_ret
            exact ⟨rfl, HG.out⟩
        · have ec : (c == 0) = false := by simpa using hc
          have dc : decide (c = 0) = false := by simpa using hc
          obtain rfl : res = false := by rw [hres]; apply decide_eq_false; unfold Rc.May mxC; (try unfold mxC at *); dsimp only; omega
          clear HO hres
          go_enter Tryz.func83, Tryz.ntmps83
          go_wp2_with (go_at_call 119; refine (qt _).mono ?_; rintro e wt ⟨rfl, hwt⟩; obtain rfl := hwt.symm)
          all_goals
            go_ret
            exact ⟨rfl, HG.out⟩
      · have eu : (u == 0) = false := by simpa using hu
        have du : decide (u = 0) = false := by simpa using hu
        obtain rfl : res = false := by rw [hres]; apply decide_eq_false; unfold Rc.May mxC; (try unfold mxC at *); dsimp only; omega
        clear HO hres
        go_enter Tryz.func83, Tryz.ntmps83
        go_wp2_with (go_at_call 119; refine (qt _).mono ?_; rintro e wt ⟨rfl, hwt⟩; obtain rfl := hwt.symm)
        all_goals
          go_ret
          exact ⟨rfl, HG.out⟩
    · have es : (s == 0) = false := by simpa using hs
      have ds : decide (s = 0) = false := by simpa using hs
      obtain rfl : res = false := by rw [hres]; apply decide_eq_false; unfold Rc.May mxC; (try unfold mxC at *); dsimp only; omega
      clear HO hres
      go_enter Tryz.func83, Tryz.ntmps83
      go_wp2_with (go_at_call 119; refine (qt _).mono ?_; rintro e wt ⟨rfl, hwt⟩; obtain rfl := hwt.symm)
      all_goals
        go_ret
        exact ⟨rfl, HG.out⟩
set_option maxHeartbeats 4000000 in
theorem rmay_4 (i s u c : Int) (hi : 0 ≤ i) (w : World) : Calls Tryz.prog 83 #[rcV ⟨4, i, s, u, c⟩] w fun e w' => e = .returned (.bool (decide (Rc.mk 4 i s u c).May)) ∧ w.grownBy w' none := by
  have HO := hi
  clear hi
  obtain ⟨res, hres⟩ : ∃ res, res = decide (Rc.mk 4 i s u c).May := ⟨_, rfl⟩
  rw [← hres]
  unfold rcV
  obtain ⟨c0, c1, c2, c3, c4⟩ := box5 (heap_alloc_new w (.cells [Value.int .i64 4, .int .u32 i, .int .i64 s, .int .i64 u, .int .i64 c].toArray 47))
  have HG := hide (World.grownBy_alloc w (.cells [Value.int .i64 4, .int .u32 i, .int .i64 s, .int .i64 u, .int .i64 c].toArray 47) none)
  by_cases hi : i = 0
  · subst hi
    obtain rfl : res = false := by rw [hres]; apply decide_eq_false; unfold Rc.May mxC; (try unfold mxC at *); dsimp only; omega
    clear HO hres
    go_enter Tryz.func83, Tryz.ntmps83
    go_wp2_with (go_at_call 119; refine (qt _).mono ?_; rintro e wt ⟨rfl, hwt⟩; obtain rfl := hwt.symm)
    all_goals
      go_ret
      exact ⟨rfl, HG.out⟩
  · have ei : (i == 0) = false := by simpa using hi
    have ni : (i != 0) = true := by simpa using hi
    have di : decide (i = 0) = false := by simpa using hi
    by_cases hs : 0 ≤ s
    · by_cases ht : s < 1024
      · skip
        by_cases hu : u = 0
        · subst hu
          by_cases hc : c = 0
          · subst hc
            obtain rfl : res = true := by rw [hres]; apply decide_eq_true; unfold Rc.May mxC; (try unfold mxC at *); dsimp only; omega
            clear HO hres
            go_enter Tryz.func83, Tryz.ntmps83
            go_wp2_with (go_at_call 119; refine (qt _).mono ?_; rintro e wt ⟨rfl, hwt⟩; obtain rfl := hwt.symm)
            all_goals
              go_ret
              exact ⟨rfl, HG.out⟩
          · have ec : (c == 0) = false := by simpa using hc
            have dc : decide (c = 0) = false := by simpa using hc
            obtain rfl : res = false := by rw [hres]; apply decide_eq_false; unfold Rc.May mxC; (try unfold mxC at *); dsimp only; omega
            clear HO hres
            go_enter Tryz.func83, Tryz.ntmps83
            go_wp2_with (go_at_call 119; refine (qt _).mono ?_; rintro e wt ⟨rfl, hwt⟩; obtain rfl := hwt.symm)
            all_goals
              go_ret
              exact ⟨rfl, HG.out⟩
        · have eu : (u == 0) = false := by simpa using hu
          have du : decide (u = 0) = false := by simpa using hu
          obtain rfl : res = false := by rw [hres]; apply decide_eq_false; unfold Rc.May mxC; (try unfold mxC at *); dsimp only; omega
          clear HO hres
          go_enter Tryz.func83, Tryz.ntmps83
          go_wp2_with (go_at_call 119; refine (qt _).mono ?_; rintro e wt ⟨rfl, hwt⟩; obtain rfl := hwt.symm)
          all_goals
            go_ret
            exact ⟨rfl, HG.out⟩
      · skip
        obtain rfl : res = false := by rw [hres]; apply decide_eq_false; unfold Rc.May mxC; (try unfold mxC at *); dsimp only; omega
        clear HO hres
        go_enter Tryz.func83, Tryz.ntmps83
        go_wp2_with (go_at_call 119; refine (qt _).mono ?_; rintro e wt ⟨rfl, hwt⟩; obtain rfl := hwt.symm)
        all_goals
          go_ret
          exact ⟨rfl, HG.out⟩
    · skip
      obtain rfl : res = false := by rw [hres]; apply decide_eq_false; unfold Rc.May mxC; (try unfold mxC at *); dsimp only; omega
      clear HO hres
      go_enter Tryz.func83, Tryz.ntmps83
      go_wp2_with (go_at_call 119; refine (qt _).mono ?_; rintro e wt ⟨rfl, hwt⟩; obtain rfl := hwt.symm)
      all_goals
        go_ret
        exact ⟨rfl, HG.out⟩
set_option maxHeartbeats 4000000 in
theorem rmay_5 (i s u c : Int) (hi : 0 ≤ i) (w : World) : Calls Tryz.prog 83 #[rcV ⟨5, i, s, u, c⟩] w fun e w' => e = .returned (.bool (decide (Rc.mk 5 i s u c).May)) ∧ w.grownBy w' none := by
  have HO := hi
  clear hi
  obtain ⟨res, hres⟩ : ∃ res, res = decide (Rc.mk 5 i s u c).May := ⟨_, rfl⟩
  rw [← hres]
  unfold rcV
  obtain ⟨c0, c1, c2, c3, c4⟩ := box5 (heap_alloc_new w (.cells [Value.int .i64 5, .int .u32 i, .int .i64 s, .int .i64 u, .int .i64 c].toArray 47))
  have HG := hide (World.grownBy_alloc w (.cells [Value.int .i64 5, .int .u32 i, .int .i64 s, .int .i64 u, .int .i64 c].toArray 47) none)
  by_cases hi : i = 0
  · subst hi
    by_cases hs : s = 0
    · subst hs
      by_cases hu : u = 0
      · subst hu
        have qt := time_any c
        by_cases hx : 1 ≤ c ∧ c ≤ mxC
        · rw [decide_eq_true hx] at qt
          obtain rfl : res = true := by rw [hres]; apply decide_eq_true; unfold Rc.May mxC; (try unfold mxC at *); dsimp only; omega
          clear HO hres
          go_enter Tryz.func83, Tryz.ntmps83
          go_wp2_with (go_at_call 119; refine (qt _).mono ?_; rintro e wt ⟨rfl, hwt⟩; obtain rfl := hwt.symm)
          all_goals
            go_ret
            exact ⟨rfl, HG.out⟩
        · rw [decide_eq_false hx] at qt
          obtain rfl : res = false := by rw [hres]; apply decide_eq_false; unfold Rc.May mxC; (try unfold mxC at *); dsimp only; omega
          clear HO hres
          go_enter Tryz.func83, Tryz.ntmps83
          go_wp2_with (go_at_call 119; refine (qt _).mono ?_; rintro e wt ⟨rfl, hwt⟩; obtain rfl := hwt.symm)
          all_goals
            go_ret
            exact ⟨rfl, HG.out⟩
      · have eu : (u == 0) = false := by simpa using hu
        have du : decide (u = 0) = false := by simpa using hu
        obtain rfl : res = false := by rw [hres]; apply decide_eq_false; unfold Rc.May mxC; (try unfold mxC at *); dsimp only; omega
        clear HO hres
        go_enter Tryz.func83, Tryz.ntmps83
        go_wp2_with (go_at_call 119; refine (qt _).mono ?_; rintro e wt ⟨rfl, hwt⟩; obtain rfl := hwt.symm)
        all_goals
          go_ret
          exact ⟨rfl, HG.out⟩
    · have es : (s == 0) = false := by simpa using hs
      have ds : decide (s = 0) = false := by simpa using hs
      obtain rfl : res = false := by rw [hres]; apply decide_eq_false; unfold Rc.May mxC; (try unfold mxC at *); dsimp only; omega
      clear HO hres
      go_enter Tryz.func83, Tryz.ntmps83
      go_wp2_with (go_at_call 119; refine (qt _).mono ?_; rintro e wt ⟨rfl, hwt⟩; obtain rfl := hwt.symm)
      all_goals
        go_ret
        exact ⟨rfl, HG.out⟩
  · have ei : (i == 0) = false := by simpa using hi
    have di : decide (i = 0) = false := by simpa using hi
    obtain rfl : res = false := by rw [hres]; apply decide_eq_false; unfold Rc.May mxC; (try unfold mxC at *); dsimp only; omega
    clear HO hres
    go_enter Tryz.func83, Tryz.ntmps83
    go_wp2_with (go_at_call 119; refine (qt _).mono ?_; rintro e wt ⟨rfl, hwt⟩; obtain rfl := hwt.symm)
    all_goals
      go_ret
      exact ⟨rfl, HG.out⟩
theorem rmay_any (r : Rc) (ho : r.Ok) (w : World) : Calls Tryz.prog 83 #[rcV r] w fun e w' => e = .returned (.bool (decide r.May)) ∧ w.grownBy w' none := by
  have hi := ho.i0
  obtain ⟨k, i, s, u, c⟩ := r
  dsimp only at hi
  by_cases hk : 1 ≤ k ∧ k ≤ 5
  · have hk5 : k = 1 ∨ k = 2 ∨ k = 3 ∨ k = 4 ∨ k = 5 := by omega
    rcases hk5 with rfl | rfl | rfl | rfl | rfl
    · exact rmay_1 i s u c hi w
    · exact rmay_2 i s u c hi w
    · exact rmay_3 i s u c hi w
    · exact rmay_4 i s u c hi w
    · exact rmay_5 i s u c hi w
  · rw [decide_eq_false (may_not_kind (r := ⟨k, i, s, u, c⟩) hk)]
    have e1 : (k == 1) = false := by simp; omega
    have e2 : (k == 2) = false := by simp; omega
    have e3 : (k == 3) = false := by simp; omega
    have e4 : (k == 4) = false := by simp; omega
    have e5 : (k == 5) = false := by simp; omega
    have d1 : decide (k = 1) = false := by simp; omega
    have d2 : decide (k = 2) = false := by simp; omega
    have d3 : decide (k = 3) = false := by simp; omega
    have d4 : decide (k = 4) = false := by simp; omega
    have d5 : decide (k = 5) = false := by simp; omega
    clear hk hi ho
    unfold rcV
    obtain ⟨c0, c1, c2, c3, c4⟩ := box5 (heap_alloc_new w (.cells [Value.int .i64 k, .int .u32 i, .int .i64 s, .int .i64 u, .int .i64 c].toArray 47))
    have HG := hide (World.grownBy_alloc w (.cells [Value.int .i64 k, .int .u32 i, .int .i64 s, .int .i64 u, .int .i64 c].toArray 47) none)
    go_enter Tryz.func83, Tryz.ntmps83
    go_wp2
    all_goals
      go_ret
      exact ⟨rfl, HG.out⟩
theorem check_ref (r : Rc) (ho : r.Ok) (w : World) : Calls Tryz.prog 52 #[rcV r] w fun e w' => e = .returned (.int .i64 (chk r)) ∧ w.grownBy w' none := by
  have g1 := World.grownBy_alloc w (.cells (rcC r).toArray 47) none
  have b1 := heap_alloc_new w (.cells (rcC r).toArray 47)
  have q := rmay_any r ho (w.alloc (.cells (rcC r).toArray 47))
  obtain ⟨c0, c1, c2, c3, c4⟩ := box5 b1
  have G := hide g1
  clear g1 b1 ho
  unfold rcC rcV at *
  by_cases hm : r.May
  · rw [decide_eq_true hm] at q
    rw [show chk r = 0 from if_pos hm]
    clear hm
    go_enter Tryz.func52, Tryz.ntmps52
    go_wp2_with fail
    refine q.mono ?_
    rintro e w1 ⟨rfl, hg⟩
    have HG := hide (grown_trans G.out hg)
    clear hg q
    go_wp2
    go_ret
    exact ⟨rfl, HG.out⟩
  · rw [decide_eq_false hm] at q
    rw [show chk r = 160 from if_neg hm]
    clear hm
    go_enter Tryz.func52, Tryz.ntmps52
    go_wp2_with fail
    refine q.mono ?_
    rintro e w1 ⟨rfl, hg⟩
    have HG := hide (grown_trans G.out hg)
    clear hg q
    go_wp2
    go_ret
    exact ⟨rfl, HG.out⟩
end Go.Proofs.YtinkkocleognbaaGreatDoor.Rk
namespace Go.Proofs.YtinkkocleognbaaGreatDoor
/- The document's book: Apply. -/
open Go.RowKit
attribute [local go_sem ↓] Go.wp_at_zero Go.wp_at_succ
attribute [local go_sem] Oper.semAt_some
/-- What a call leaves. -/
def DrP (w w' : World) (lo d : Nat) (v : Value) (res : Int) (S' : Sb) (e : Ending) : Prop := ∃ v', e = .returned (.int .i64 res) ∧ Db w' lo d v' S' ∧ Dst w w' d v v'
theorem DrP.no {w W : World} {B lo d : Nat} {cs : List Value} {v : Value} {S : Sb} (m : Dm w W B cs lo d v S) (res : Int) : DrP w W lo d v res S (.returned (.int .i64 res)) := ⟨v, rfl, m.db, Dst.new m.gr d v⟩
theorem DrP.of {w W w' : World} {B lo d : Nat} {cs : List Value} {v v' : Value} {S S' : Sb} {res : Int} (m : Dm w W B cs lo d v S) (h : Db w' lo d v' S') (k : Dst W w' d v v') : DrP w w' lo d v res S' (.returned (.int .i64 res)) := ⟨v', rfl, h, (Dst.new m.gr d v).trans k⟩
theorem bgs_setS {R : List Bg} {s : Nat} {x : Bg} (h : R[s]? = some x) (t : Nat) : (bgs R).set (s * 3 + 1) (.int .i64 (t : Int)) = bgs (R.set s { x with s := t }) := by
  have hs := (List.getElem?_eq_some_iff.1 h).1
  have hx : rd R s = x := by unfold rd; rw [h]; rfl
  obtain ⟨h1, h2, h3⟩ := bgs_get hs
  rw [hx] at h1 h3
  rw [bgs_set]
  simp only
  have h4 : ((bgs R).set (s * 3 + 1) (.int .i64 (t : Int)))[s * 3 + 2]? = some (.int .i64 x.u) := by rw [List.getElem?_set_ne (by omega)]; exact h3
  rw [Ix.set_same h1, Ix.set_same h4]
/-- A cell of a booking is written. -/
theorem Db.put {w : World} {lo d : Nat} {v : Value} {S : Sb} (h : Db w lo d v S) {k o : Nat} {x y : Bg} {u : Value} (hk : S.L[k]? = some x) (ho : o < 3) (hy : (bgs S.L).set (k * 3 + o) u = bgs (S.L.set k y)) : ∃ g cap, v = .slice (some ⟨g, 0, none⟩) S.L.length cap ∧ w.frozen? ⟨g, k * 3 + o, none⟩ = false ∧ (∃ u0, w.cell? ⟨g, k * 3 + o, none⟩ = some u0) ∧ Db (w.setCell ⟨g, k * 3 + o, none⟩ u) lo d v { S with L := S.L.set k y } ∧ Dst w (w.setCell ⟨g, k * 3 + o, none⟩ u) d v v := by
  have hkl := (List.getElem?_eq_some_iff.1 hk).1
  obtain ⟨g, cap, cur, e1, e2, e3, e4, e5, e6, e7⟩ := Ix.own_row h.row (by omega)
  have ks := kept_setCell w g (k * 3 + o) u
  have hr := row_setCell e3 (k * 3 + o) u
  have hg : v.ownBlock = some g := by rw [e1]; rfl
  have hgd : ¬ d = g := fun e => h.apart (by rw [e]; exact hg)
  refine ⟨g, cap, e1, free_row e3 _, ⟨cur[k * 3 + o]'(by rw [e6]; omega), by rw [cell_row e3]; exact List.getElem?_eq_getElem _⟩, ⟨ks.at h.head hgd, ?_, h.ge⟩, ⟨ks.mono (fun i _ e => .inr (by rw [e]; exact hg)), fun _ e => .inl e⟩⟩
  refine ⟨by simp [bgs_length], .inr ⟨g, cap, (cur.set (k * 3 + o) u).toArray, ?_, e2, hr, ?_, e5, ?_, ?_⟩⟩
  · rw [e1]; simp
  · simpa using e4
  · simpa using e6
  · show ((cur.set (k * 3 + o) u).toArray.toList).take ((S.L.set k y).length * 3) = bgs (S.L.set k y)
    rw [← hy, List.length_set, ← e7]
    simp [List.take_set]
set_option maxRecDepth 20000 in
set_option maxHeartbeats 8000000 in
theorem dapply_0 {w : World} {lo d : Nat} {v : Value} {S : Sb} (h : Db w lo d v S) (r : Rc) (hr : r.Ok) (hm : ¬ r.May) : Calls Tryz.prog 26 #[.pointer (some ⟨d, 0, none⟩), Rk.rcV r] w fun e w' => DrP w w' lo d v 160 S e := by
  have m0 := Dm.start h [.int .i64 r.k, .int .u32 r.i, .int .i64 r.s, .int .i64 r.u, .int .i64 r.c]
  have HC := hide (Rk.check_ref r hr (w.alloc (.cells [.int .i64 r.k, .int .u32 r.i, .int .i64 r.s, .int .i64 r.u, .int .i64 r.c].toArray 47)))
  rw [show Rk.chk r = 160 from if_neg hm] at HC
  have d0 := m0.db.cell (j := 0) rfl
  have HM := hide m0
  clear h hr hm m0
  unfold Rk.rcV at *
  go_enter Tryz.func26, Tryz.ntmps26
  go_wp2_with fail
  refine HC.out.mono ?_
  rintro e w1 ⟨rfl, g1⟩
  have HF := hide (DrP.no (HM.out.then g1) 160)
  clear g1 HC HM d0
  go_wp2
  go_ret
  exact HF.out
set_option maxRecDepth 20000 in
set_option maxHeartbeats 8000000 in
theorem dapply_1 {w : World} {lo d : Nat} {v : Value} {S : Sb} (h : Db w lo d v S) (ho : S.Ok) (i s : Nat) (u : Int) (hi : i < 4294967296) (hr : Rc.Ok ⟨1, (i : Int), (s : Int), u, 0⟩) (hm : Rc.May ⟨1, (i : Int), (s : Int), u, 0⟩) : Calls Tryz.prog 26 #[.pointer (some ⟨d, 0, none⟩), Rk.rcV ⟨1, (i : Int), (s : Int), u, 0⟩] w fun e w' => DhP w w' lo d v S ⟨1, (i : Int), (s : Int), u, 0⟩ ⟨i, s, u⟩ e := by
  have m0 := Dm.start h [.int .i64 1, .int .u32 (i : Int), .int .i64 (s : Int), .int .i64 u, .int .i64 0]
  have HC := hide (Rk.check_ref ⟨1, (i : Int), (s : Int), u, 0⟩ hr (w.alloc (.cells [.int .i64 1, .int .u32 (i : Int), .int .i64 (s : Int), .int .i64 u, .int .i64 0].toArray 47)))
  rw [show Rk.chk ⟨1, (i : Int), (s : Int), u, 0⟩ = 0 from if_pos hm] at HC
  have d0 := m0.db.cell (j := 0) rfl
  have HH : Hid (∀ W, Dm w W w.heap.size [.int .i64 1, .int .u32 (i : Int), .int .i64 (s : Int), .int .i64 u, .int .i64 0] lo d v S → Calls Tryz.prog 53 #[.pointer (some ⟨d, 0, none⟩), .agg #[.int .i64 1, .int .u32 (i : Int), .int .i64 (s : Int), .int .i64 u, .int .i64 0]] W fun e w' => ∃ res, e = .returned res ∧ DhP w w' lo d v S ⟨1, (i : Int), (s : Int), u, 0⟩ ⟨i, s, u⟩ (.returned res)) := by
    intro W m
    refine (dhold_any m.db ho i s u hi).mono ?_
    rintro e w' ⟨v', rfl, h1, h2⟩
    exact ⟨_, rfl, v', rfl, h1, (Dst.new m.gr d v).trans h2⟩
  have HM := hide m0
  clear h hr hm m0 ho
  unfold Rk.rcV at *
  go_enter Tryz.func26, Tryz.ntmps26
  go_wp2_with fail
  refine HC.out.mono ?_
  rintro e w1 ⟨rfl, g1⟩
  have m1 := HM.out.then g1
  have x0 := m1.cells 0 _ rfl
  have x1 := m1.cells 1 _ rfl
  have x2 := m1.cells 2 _ rfl
  have x3 := m1.cells 3 _ rfl
  have x4 := m1.cells 4 _ rfl
  have HH1 := hide (HH.out w1 m1)
  clear g1 HC HM d0 m1 HH
  go_wp2_with fail
  refine HH1.out.mono ?_
  rintro e w2 ⟨res, rfl, h2⟩
  have HF := hide h2
  clear h2 HH1
  go_wp2
  go_ret
  exact HF.out
set_option maxRecDepth 20000 in
set_option maxHeartbeats 8000000 in
theorem dapply_5 {w : World} {lo d : Nat} {v : Value} {S : Sb} (h : Db w lo d v S) (ho : S.Ok) (c : Int) (hr : Rc.Ok ⟨5, 0, 0, 0, c⟩) (hm : Rc.May ⟨5, 0, 0, 0, c⟩) : Calls Tryz.prog 26 #[.pointer (some ⟨d, 0, none⟩), Rk.rcV ⟨5, 0, 0, 0, c⟩] w fun e w' => DtP w w' lo d v S c e := by
  have m0 := Dm.start h [.int .i64 5, .int .u32 0, .int .i64 0, .int .i64 0, .int .i64 c]
  have HC := hide (Rk.check_ref ⟨5, 0, 0, 0, c⟩ hr (w.alloc (.cells [.int .i64 5, .int .u32 0, .int .i64 0, .int .i64 0, .int .i64 c].toArray 47)))
  rw [show Rk.chk ⟨5, 0, 0, 0, c⟩ = 0 from if_pos hm] at HC
  have d0 := m0.db.cell (j := 0) rfl
  have HH : Hid (∀ W, Dm w W w.heap.size [.int .i64 5, .int .u32 0, .int .i64 0, .int .i64 0, .int .i64 c] lo d v S → Calls Tryz.prog 54 #[.pointer (some ⟨d, 0, none⟩), .int .i64 c] W fun e w' => ∃ res, e = .returned res ∧ DtP w w' lo d v S c (.returned res)) := by
    intro W m
    refine (dtick_any m.db ho c).mono ?_
    rintro e w' ⟨v', rfl, h1, h2⟩
    exact ⟨_, rfl, v', rfl, h1, (Dst.new m.gr d v).trans h2⟩
  have HM := hide m0
  clear h hr hm m0 ho
  unfold Rk.rcV at *
  go_enter Tryz.func26, Tryz.ntmps26
  go_wp2_with fail
  refine HC.out.mono ?_
  rintro e w1 ⟨rfl, g1⟩
  have m1 := HM.out.then g1
  have x0 := m1.cells 0 _ rfl
  have x4 := m1.cells 4 _ rfl
  have HH1 := hide (HH.out w1 m1)
  clear g1 HC HM d0 m1 HH
  go_wp2_with fail
  refine HH1.out.mono ?_
  rintro e w2 ⟨res, rfl, h2⟩
  have HF := hide h2
  clear h2 HH1
  go_wp2
  go_ret
  exact HF.out
set_option maxRecDepth 20000 in
set_option maxHeartbeats 16000000 in
theorem dapply_2 {w : World} {lo d : Nat} {v : Value} {S : Sb} (h : Db w lo d v S) (ho : S.Ok) (i : Nat) (hr : Rc.Ok ⟨2, (i : Int), 0, 0, 0⟩) (hm : Rc.May ⟨2, (i : Int), 0, 0, 0⟩) (res : Int) (S' : Sb) (h1 : fnd S.L i = none → res = 171 ∧ S' = S) (h2 : ∀ x, fnd S.L i = some x → res = 0 ∧ S' = { S with L := upd S.L x.i { x with u := 0 } }) : Calls Tryz.prog 26 #[.pointer (some ⟨d, 0, none⟩), Rk.rcV ⟨2, (i : Int), 0, 0, 0⟩] w fun e w' => DrP w w' lo d v res S' e := by
  have HNo : Hid (fnd S.L i = none → ∀ W, Dm w W w.heap.size [.int .i64 2, .int .u32 (i : Int), .int .i64 0, .int .i64 0, .int .i64 0] lo d v S → DrP w W lo d v res S' (.returned (.int .i64 171))) := fun e W m => by obtain ⟨e1, e2⟩ := h1 e; rw [e1, e2]; exact DrP.no m 171
  have HYes := hide h2
  clear h1 h2
  have m0 := Dm.start h [.int .i64 2, .int .u32 (i : Int), .int .i64 0, .int .i64 0, .int .i64 0]
  have HC := hide (Rk.check_ref ⟨2, (i : Int), 0, 0, 0⟩ hr (w.alloc (.cells [.int .i64 2, .int .u32 (i : Int), .int .i64 0, .int .i64 0, .int .i64 0].toArray 47)))
  rw [show Rk.chk ⟨2, (i : Int), 0, 0, 0⟩ = 0 from if_pos hm] at HC
  have d0 := m0.db.cell (j := 0) rfl
  have hfew : S.L.length ≤ 4096 := by have := ho.b1; have := ho.few; omega
  have HFi : Hid (∀ W, Dm w W w.heap.size [.int .i64 2, .int .u32 (i : Int), .int .i64 0, .int .i64 0, .int .i64 0] lo d v S → Calls Tryz.prog 55 #[.pointer (some ⟨d, 0, none⟩), .int .u32 (i : Int)] W fun e w' => PosA (fun x => (x.i : Int) = (i : Int)) S.L e ∧ w' = W) := fun W m => dfind_any m.db (by omega) (i : Int)
  have HOk := hide ho
  have HM := hide m0
  clear h hr hm m0 ho
  unfold Rk.rcV at *
  go_enter Tryz.func26, Tryz.ntmps26
  go_wp2_with fail
  refine HC.out.mono ?_
  rintro e w1 ⟨rfl, g1⟩
  have m1 := HM.out.then g1
  have x0 := m1.cells 0 _ rfl
  have x1 := m1.cells 1 _ rfl
  have HM1 := hide m1
  have HF1 := hide (HFi.out w1 m1)
  clear g1 HC HM d0 m1 HFi
  go_wp2_with fail
  refine HF1.out.mono ?_
  rintro e w2 ⟨hpos, rfl⟩
  clear HF1
  rcases hpos with ⟨k, x, hk, hx, rfl⟩ | ⟨hno, rfl⟩
  rotate_left
  · have hnone : fnd S.L i = none := fnd_none.2 (fun x hx e => hno x hx (by omega))
    have HF := hide (HNo.out hnone _ HM1.out)
    clear hno hnone
    go_wp2
    go_ret
    exact HF.out
  · have hkl := (List.getElem?_eq_some_iff.1 hk).1
    have hxi : x.i = i := by omega
    obtain ⟨g, cap, rfl, q1, ⟨u0, q2⟩, q3, q4⟩ := HM1.out.db.put hk (by decide : 2 < 3) (bgs_setU hk 0)
    have d4 := HM1.out.db.cell (j := 4) rfl
    obtain ⟨e1, e2⟩ := HYes.out x ((fnd_some HOk.out.asc).2 ⟨List.mem_of_getElem? hk, hxi⟩)
    have HF : Hid (DrP w (w2.setCell ⟨g, k * 3 + 2, none⟩ (.int .i64 0)) lo d (.slice (some ⟨g, 0, none⟩) S.L.length cap) res S' (.returned (.int .i64 0))) := by
      rw [e1, e2, upd_set HOk.out.asc hk]
      exact DrP.of HM1.out q3 q4
    have hkn : (0 : Int) ≤ (k : Int) := by omega
    have hkl2 : (k : Int) < (S.L.length : Int) := by omega
    clear q3 q4 hx hk e1 e2 HNo HYes HOk hxi
    go_wp2
    go_ret
    exact HF.out
theorem slice_to32 (g i n cap : Nat) (hi : i ≤ cap) (w : World) : (Instr.slice 32 (.slice (some ⟨g, 0, none⟩) n cap) none (some (.int .i64 (i : Int))) none).run Tryz.prog w = .ok (.slice (some ⟨g, 0, none⟩) i cap) w := by
  simp [Instr.slice, run_underlying Tryz.underlying32, Instr.sliceBounds, Instr.sliceBound, asIntOf]
  rw [if_pos hi]
  simp [Addr.add]
theorem slice_from32 (g i n cap : Nat) (hi : i ≤ n) (_hn : n ≤ cap) (w : World) : (Instr.slice 32 (.slice (some ⟨g, 0, none⟩) n cap) (some (.int .i64 (i : Int))) none none).run Tryz.prog w = .ok (.slice (some ⟨g, if cap = i then 0 else i * 3, none⟩) (n - i) (cap - i)) w := by
  simp [Instr.slice, run_underlying Tryz.underlying32, Instr.sliceBounds, Instr.sliceBound, asIntOf]
  rw [if_pos hi]
  split
  · rfl
  · simp [Addr.add]
    try omega
theorem bgs_take (R : List Bg) (k : Nat) : bgs (R.take k) = (bgs R).take (k * 3) := by
  induction R generalizing k with
  | nil => simp [bgs]
  | cons x R ih =>
    cases k with
    | zero => simp [bgs]
    | succ k => rw [List.take_succ_cons, bgs_cons, ih, bgs_cons, show (k + 1) * 3 = k * 3 + 1 + 1 + 1 by omega]; simp
theorem bgs_drop (R : List Bg) (k : Nat) : bgs (R.drop k) = (bgs R).drop (k * 3) := by
  induction R generalizing k with
  | nil => simp [bgs]
  | cons x R ih =>
    cases k with
    | zero => simp
    | succ k => rw [List.drop_succ_cons, ih, bgs_cons, show (k + 1) * 3 = k * 3 + 1 + 1 + 1 by omega]; simp
theorem bgs_one (R : List Bg) : ∀ u ∈ bgs R, u.oneCell' = true := by
  intro u hu
  simp only [bgs, List.mem_flatMap] at hu
  obtain ⟨x, -, hu⟩ := hu
  exact bgc_one x u hu
set_option maxRecDepth 20000 in
set_option maxHeartbeats 16000000 in
theorem dapply_3 {w : World} {lo d : Nat} {v : Value} {S : Sb} (h : Db w lo d v S) (ho : S.Ok) (i : Nat) (hr : Rc.Ok ⟨3, (i : Int), 0, 0, 0⟩) (hm : Rc.May ⟨3, (i : Int), 0, 0, 0⟩) (res : Int) (S' : Sb) (h1 : fnd S.L i = none → res = 171 ∧ S' = S) (h2 : ∀ x, fnd S.L i = some x → res = 0 ∧ S' = { S with L := del S.L i }) : Calls Tryz.prog 26 #[.pointer (some ⟨d, 0, none⟩), Rk.rcV ⟨3, (i : Int), 0, 0, 0⟩] w fun e w' => DrP w w' lo d v res S' e := by
  have HNo : Hid (fnd S.L i = none → ∀ W, Dm w W w.heap.size [.int .i64 3, .int .u32 (i : Int), .int .i64 0, .int .i64 0, .int .i64 0] lo d v S → DrP w W lo d v res S' (.returned (.int .i64 171))) := fun e W m => by obtain ⟨e1, e2⟩ := h1 e; rw [e1, e2]; exact DrP.no m 171
  have HYes := hide h2
  clear h1 h2
  have m0 := Dm.start h [.int .i64 3, .int .u32 (i : Int), .int .i64 0, .int .i64 0, .int .i64 0]
  have HC := hide (Rk.check_ref ⟨3, (i : Int), 0, 0, 0⟩ hr (w.alloc (.cells [.int .i64 3, .int .u32 (i : Int), .int .i64 0, .int .i64 0, .int .i64 0].toArray 47)))
  rw [show Rk.chk ⟨3, (i : Int), 0, 0, 0⟩ = 0 from if_pos hm] at HC
  have d0 := m0.db.cell (j := 0) rfl
  have hfew : S.L.length ≤ 4096 := by have := ho.b1; have := ho.few; omega
  have HFi : Hid (∀ W, Dm w W w.heap.size [.int .i64 3, .int .u32 (i : Int), .int .i64 0, .int .i64 0, .int .i64 0] lo d v S → Calls Tryz.prog 55 #[.pointer (some ⟨d, 0, none⟩), .int .u32 (i : Int)] W fun e w' => PosA (fun x => (x.i : Int) = (i : Int)) S.L e ∧ w' = W) := fun W m => dfind_any m.db (by omega) (i : Int)
  have HOk := hide ho
  have HM := hide m0
  clear h hr hm m0 ho
  unfold Rk.rcV at *
  go_enter Tryz.func26, Tryz.ntmps26
  go_wp2_with fail
  refine HC.out.mono ?_
  rintro e w1 ⟨rfl, g1⟩
  have m1 := HM.out.then g1
  have x0 := m1.cells 0 _ rfl
  have x1 := m1.cells 1 _ rfl
  have HM1 := hide m1
  have HF1 := hide (HFi.out w1 m1)
  clear g1 HC HM d0 m1 HFi
  go_wp2_with fail
  refine HF1.out.mono ?_
  rintro e w2 ⟨hpos, rfl⟩
  clear HF1
  rcases hpos with ⟨k, x, hk, hx, rfl⟩ | ⟨hno, rfl⟩
  rotate_left
  · have hnone : fnd S.L i = none := fnd_none.2 (fun x hx e => hno x hx (by omega))
    have HF := hide (HNo.out hnone _ HM1.out)
    clear hno hnone
    go_wp2
    go_ret
    exact HF.out
  · have hkl := (List.getElem?_eq_some_iff.1 hk).1
    have hxi : x.i = i := by omega
    obtain ⟨g, cap, cur, rfl, hb, hg, hn, hmx, hcl, ht⟩ := Ix.own_row HM1.out.db.row (by omega)
    have d4 := HM1.out.db.cell (j := 4) rfl
    obtain ⟨e1, e2⟩ := HYes.out x ((fnd_some HOk.out.asc).2 ⟨List.mem_of_getElem? hk, hxi⟩)
    have hdl : del S.L i = S.L.take k ++ S.L.drop (k + 1) := by rw [← hxi]; exact del_idx HOk.out.asc hk
    have HR : Hid (res = 0 ∧ S' = { S with L := S.L.take k ++ S.L.drop (k + 1) }) := ⟨e1, by rw [e2, hdl]⟩
    have hkn : (0 : Int) ≤ (k : Int) := by omega
    have hkn2 : ((k : Int) < 0) = False := by simp
    have hs1 := slice_to32 g k S.L.length cap (by omega)
    have hs2 := slice_from32 g (k + 1) S.L.length cap (by omega) hn
    rw [show (((k + 1 : Nat)) : Int) = (k : Int) + 1 by omega] at hs2
    have hw1 : IntKind.i64.wrap ((k : Int) + 1) = (k : Int) + 1 := by rw [IntKind.wrap_i64]; omega
    obtain ⟨i0, hi0, hz0, hz1, hz2⟩ := info_parts info108
    have HI0 := hide (And.intro hi0 (And.intro hz0 (And.intro hz1 hz2)))
    have hn1 : ∀ j u, (bgs (S.L.take k))[j]? = some u → w2.cell? (Addr.add ⟨g, 0, none⟩ j) = some u := fun j u hj => by
      rw [Addr.add_lit, Nat.zero_add]
      refine Ix.own_cell hg ht ?_
      rw [bgs_take, List.getElem?_take] at hj
      split at hj
      · exact hj
      · cases hj
    have hn2 : ∀ j u, (bgs (S.L.drop (k + 1)))[j]? = some u → w2.cell? (Addr.add ⟨g, if cap = k + 1 then 0 else (k + 1) * 3, none⟩ j) = some u := fun j u hj => by
      have hjl := (List.getElem?_eq_some_iff.1 hj).1
      rw [bgs_length, List.length_drop] at hjl
      rw [if_neg (by omega), Addr.add_lit]
      refine Ix.own_cell hg ht ?_
      rw [bgs_drop, List.getElem?_drop] at hj
      exact hj
    generalize (if cap = k + 1 then 0 else (k + 1) * 3) = of at hs2 hn2
    have hl1 : (bgs (S.L.take k)).length = k * 3 := by rw [bgs_length, List.length_take]; omega
    have hl2 : (bgs (S.L.drop (k + 1))).length = (S.L.length - (k + 1)) * 3 := by rw [bgs_length, List.length_drop]
    have HL := hide (And.intro hl1 (And.intro hl2 (And.intro hn1 hn2)))
    have HD := hide (And.intro HM1.out (Nat.le_trans HM1.out.db.ge (Nat.le_of_lt (row_lt HM1.out.db.head))))
    clear hk hx hxi hg ht hb hn1 hn2 hi0 hz0 hz1 hz2 hl1 hl2 e1 e2 hdl HNo HYes HOk hcl hmx HM1
    go_wp2_with (at_builtin; refine wpList_append_own_at _ rfl (.tmp 51) (.tmp 57) 32 rfl w2.heap.size 108 i0 (.agg #[.int .u32 0, .int .i64 0, .int .i64 0]) 3 24 Tryz.underlying32 HI0.out.1 HI0.out.2.1 HI0.out.2.2.1 HI0.out.2.2.2 rfl (by decide) (.slice none 0 0) 0 [] rfl (World.ownsRow_nil _ _ _ _) ⟨g, 0, none⟩ k cap (bgs (S.L.take k)) rfl HL.out.1 HL.out.2.2.1 (bgs_one _) (by unfold maxLen; omega) (by omega) (Nat.le_refl _) ?_)
    intro v1 w3 ho1 hg1 hv1 hb1
    clear hv1 hb1
    obtain ⟨vo1, cap1, rfl, -⟩ := Ix.own_form ho1
    have hg1' : w2.grownBy w3 none := hg1
    have d4' := hg1'.cell d4 (by simp)
    have hn2 : ∀ j u, (bgs (S.L.drop (k + 1)))[j]? = some u → w3.cell? (Addr.add ⟨g, of, none⟩ j) = some u := fun j u hj => hg1'.cell (HL.out.2.2.2 j u hj) (by simp)
    have H1 := hide (And.intro ho1 (And.intro hg1' hn2))
    have hsz := hg1'.size
    clear ho1 hg1 hg1' hn2 d4
    go_wp2_with (at_builtin; refine wpList_append_own_at _ rfl (.tmp 60) (.tmp 67) 32 rfl w2.heap.size 108 i0 (.agg #[.int .u32 0, .int .i64 0, .int .i64 0]) 3 24 Tryz.underlying32 HI0.out.1 HI0.out.2.1 HI0.out.2.2.1 HI0.out.2.2.2 rfl (by decide) (.slice vo1 k cap1) k (bgs (S.L.take k)) rfl (by simpa using H1.out.1) ⟨g, of, none⟩ (S.L.length - (k + 1)) (cap - (k + 1)) (bgs (S.L.drop (k + 1))) rfl HL.out.2.1 H1.out.2.2 (bgs_one _) (by unfold maxLen; omega) (by omega) hsz ?_)
    intro v2 w4 ho2 hg2 hv hb
    clear hv hb
    obtain ⟨vo2, cap2, rfl, -⟩ := Ix.own_form ho2
    have hgr : w2.grownBy w4 none := grown_then H1.out.2.1 hg2 (fun j e => Or.inl (Ix.own_block H1.out.1 (by simpa using e)).1)
    have m4 := HD.out.1.then hgr
    have y4 := m4.db.cell (j := 4) rfl
    have z4 := m4.db.free 4
    have ks := kept_setCell w4 d 4 (.slice vo2 (k + (S.L.length - (k + 1))) cap2)
    have hge : ∀ i, (Value.slice vo2 (k + (S.L.length - (k + 1))) cap2).ownBlock = some i → w2.heap.size ≤ i := fun i hi => (Ix.own_block ho2 hi).1
    have hdl := HD.out.1.db.lt d (.inl rfl)
    have HF : Hid (DrP w (w4.setCell ⟨d, 4, none⟩ (.slice vo2 (k + (S.L.length - (k + 1))) cap2)) lo d (.slice (some ⟨g, 0, none⟩) S.L.length cap) res S' (.returned (.int .i64 0))) := by
      rw [HR.out.1, HR.out.2]
      refine DrP.of (v' := .slice vo2 (k + (S.L.length - (k + 1))) cap2) HD.out.1 ⟨row_setCell m4.db.head 4 _, ?_, m4.db.ge⟩ ⟨(Kept.new hgr _).trans ks (fun i _ e => .inl e), fun i hi => .inr (hge i hi)⟩
      · have hlen : (S.L.take k ++ S.L.drop (k + 1)).length = k + (S.L.length - (k + 1)) := by rw [List.length_append, List.length_take, List.length_drop]; omega
        show World.ownsRow _ lo 108 3 _ (S.L.take k ++ S.L.drop (k + 1)).length (bgs (S.L.take k ++ S.L.drop (k + 1)))
        rw [hlen, bgs_append]
        exact own_base (own_kept ho2 ks (fun i hi e => by have := hge i hi; omega)) HD.out.2
    clear ks hge hdl m4 hgr hg2 ho2
    go_wp2
    go_ret
    exact HF.out
set_option maxRecDepth 20000 in
set_option maxHeartbeats 16000000 in
theorem dapply_4 {w : World} {lo d : Nat} {v : Value} {S : Sb} (h : Db w lo d v S) (ho : S.Ok) (i s : Nat) (hr : Rc.Ok ⟨4, (i : Int), (s : Int), 0, 0⟩) (hm : Rc.May ⟨4, (i : Int), (s : Int), 0, 0⟩) (res : Int) (S' : Sb) (h1 : fnd S.L i = none → res = 171 ∧ S' = S) (h2 : ∀ x, fnd S.L i = some x → ¬ s < S.a → res = 140 ∧ S' = S) (h3 : ∀ x, fnd S.L i = some x → s < S.a → s ≠ x.s → (sat S.L s).isSome = true → res = 170 ∧ S' = S) (h4 : ∀ x, fnd S.L i = some x → s < S.a → (s = x.s ∨ sat S.L s = none) → res = 0 ∧ S' = { S with L := upd S.L x.i { x with s := s } }) : Calls Tryz.prog 26 #[.pointer (some ⟨d, 0, none⟩), Rk.rcV ⟨4, (i : Int), (s : Int), 0, 0⟩] w fun e w' => DrP w w' lo d v res S' e := by
  have HNo : Hid (fnd S.L i = none → ∀ W, Dm w W w.heap.size [.int .i64 4, .int .u32 (i : Int), .int .i64 (s : Int), .int .i64 0, .int .i64 0] lo d v S → DrP w W lo d v res S' (.returned (.int .i64 171))) := fun e W m => by obtain ⟨e1, e2⟩ := h1 e; rw [e1, e2]; exact DrP.no m 171
  have H140 : Hid (∀ x, fnd S.L i = some x → ¬ s < S.a → ∀ W, Dm w W w.heap.size [.int .i64 4, .int .u32 (i : Int), .int .i64 (s : Int), .int .i64 0, .int .i64 0] lo d v S → DrP w W lo d v res S' (.returned (.int .i64 140))) := fun x e e' W m => by obtain ⟨e1, e2⟩ := h2 x e e'; rw [e1, e2]; exact DrP.no m 140
  have H170 : Hid (∀ x, fnd S.L i = some x → s < S.a → s ≠ x.s → (sat S.L s).isSome = true → ∀ W, Dm w W w.heap.size [.int .i64 4, .int .u32 (i : Int), .int .i64 (s : Int), .int .i64 0, .int .i64 0] lo d v S → DrP w W lo d v res S' (.returned (.int .i64 170))) := fun x e e' e'' e3 W m => by obtain ⟨e1, e2⟩ := h3 x e e' e'' e3; rw [e1, e2]; exact DrP.no m 170
  have HYes := hide h4
  have HT : Hid (∀ W, Dm w W w.heap.size [.int .i64 4, .int .u32 (i : Int), .int .i64 (s : Int), .int .i64 0, .int .i64 0] lo d v S → Calls Tryz.prog 56 #[.pointer (some ⟨d, 0, none⟩), .int .i64 (s : Int)] W fun e w' => PosA (fun x => (x.s : Int) = (s : Int)) S.L e ∧ w' = W) := fun W m => dtaken_any m.db (by have := ho.b1; have := ho.few; omega) (s : Int)
  clear h1 h2 h3 h4
  have m0 := Dm.start h [.int .i64 4, .int .u32 (i : Int), .int .i64 (s : Int), .int .i64 0, .int .i64 0]
  have HC := hide (Rk.check_ref ⟨4, (i : Int), (s : Int), 0, 0⟩ hr (w.alloc (.cells [.int .i64 4, .int .u32 (i : Int), .int .i64 (s : Int), .int .i64 0, .int .i64 0].toArray 47)))
  rw [show Rk.chk ⟨4, (i : Int), (s : Int), 0, 0⟩ = 0 from if_pos hm] at HC
  have d0 := m0.db.cell (j := 0) rfl
  have hfew : S.L.length ≤ 4096 := by have := ho.b1; have := ho.few; omega
  have HFi : Hid (∀ W, Dm w W w.heap.size [.int .i64 4, .int .u32 (i : Int), .int .i64 (s : Int), .int .i64 0, .int .i64 0] lo d v S → Calls Tryz.prog 55 #[.pointer (some ⟨d, 0, none⟩), .int .u32 (i : Int)] W fun e w' => PosA (fun x => (x.i : Int) = (i : Int)) S.L e ∧ w' = W) := fun W m => dfind_any m.db (by omega) (i : Int)
  have HOk := hide ho
  have HM := hide m0
  clear h hr hm m0 ho
  unfold Rk.rcV at *
  go_enter Tryz.func26, Tryz.ntmps26
  go_wp2_with fail
  refine HC.out.mono ?_
  rintro e w1 ⟨rfl, g1⟩
  have m1 := HM.out.then g1
  have x0 := m1.cells 0 _ rfl
  have x1 := m1.cells 1 _ rfl
  have HM1 := hide m1
  have HF1 := hide (HFi.out w1 m1)
  clear g1 HC HM d0 m1 HFi
  go_wp2_with fail
  refine HF1.out.mono ?_
  rintro e w2 ⟨hpos, rfl⟩
  clear HF1
  rcases hpos with ⟨k, x, hk, hx, rfl⟩ | ⟨hno, rfl⟩
  rotate_left
  · have hnone : fnd S.L i = none := fnd_none.2 (fun x hx e => hno x hx (by omega))
    have HF := hide (HNo.out hnone _ HM1.out)
    clear hno hnone
    go_wp2
    go_ret
    exact HF.out
  · have hkl := (List.getElem?_eq_some_iff.1 hk).1
    have hxi : x.i = i := by omega
    have hfx : fnd S.L i = some x := (fnd_some HOk.out.asc).2 ⟨List.mem_of_getElem? hk, hxi⟩
    have HX := hide (And.intro hfx (And.intro hk hx))
    have x2 := HM1.out.cells 2 _ rfl
    have d1 := HM1.out.db.cell (j := 1) rfl
    clear hfx hk hx hxi HNo
    have hkn : (0 : Int) ≤ (k : Int) := by omega
    have hkn2 : ((k : Int) < 0) = False := by simp
    by_cases hs : s < S.a
    rotate_left
    · have f1 : decide ((s : Int) ≥ (S.a : Int)) = true := by simp; omega
      have f2 : (S.a : Int) ≤ (s : Int) := by omega
      have HF := hide (fun W m => H140.out x HX.out.1 hs W m)
      go_wp2
      go_quiet (fail)
      go_wp2
      go_ret
      exact HF.out _ (HM1.out.then (grown_drewN _ nq none))
    · have f1 : decide ((s : Int) ≥ (S.a : Int)) = false := by simp; omega
      have f2 : (s : Int) < (S.a : Int) := by omega
      go_wp2
      go_quiet (fail)
      have m3 := HM1.out.then (grown_drewN _ nq none)
      clear HM1 x0 x1 x2 d1
      generalize World.drewN _ nq = w3 at *
      have x2 := m3.cells 2 _ rfl
      have HM3 := hide m3
      have HT3 := hide (HT.out w3 m3)
      clear m3 HT
      go_wp2_with fail
      refine HT3.out.mono ?_
      rintro e w4 ⟨hpos, rfl⟩
      clear HT3
      have key : (∃ k2 : Nat, e = .returned (.int .i64 (k2 : Int)) ∧ k2 ≠ k ∧ DrP w w4 lo d v res S' (.returned (.int .i64 170))) ∨ (((∃ k2 : Nat, e = .returned (.int .i64 (k2 : Int)) ∧ k2 = k) ∨ e = .returned (.int .i64 (-1))) ∧ res = 0 ∧ S' = { S with L := S.L.set k { x with s := s } }) := by
        obtain ⟨hfx, hk, hx⟩ := HX.out
        have hup := upd_set HOk.out.asc hk { x with s := s }
        rcases hpos with ⟨k2, y, hk2, hy, rfl⟩ | ⟨hno, rfl⟩
        · have hys : y.s = s := by omega
          by_cases hkk : k2 = k
          · subst hkk
            rw [hk] at hk2
            cases hk2
            obtain ⟨e1, e2⟩ := HYes.out x hfx hs (.inl hys.symm)
            exact .inr ⟨.inl ⟨k2, rfl, rfl⟩, e1, by rw [e2, hup]⟩
          · have hsx : s ≠ x.s := fun e => hkk (HOk.out.one.at hk2 hk (by omega))
            exact .inl ⟨k2, rfl, hkk, H170.out x hfx hs hsx (sat_isSome.2 ⟨y, List.mem_of_getElem? hk2, hys⟩) _ HM3.out⟩
        · obtain ⟨e1, e2⟩ := HYes.out x hfx hs (.inr (sat_none.2 (fun y hy e => hno y hy (by omega))))
          exact .inr ⟨.inr rfl, e1, by rw [e2, hup]⟩
      clear hpos H140 H170 HYes
      rcases key with ⟨k2, rfl, hne, hF⟩ | ⟨hor, hres, hS'⟩
      · have HF := hide hF
        have g1 : ((k2 : Int) != (k : Int)) = true := by simp; omega
        have g2 : (0 : Int) ≤ (k2 : Int) := by omega
        clear hF hne
        go_wp2
        go_ret
        exact HF.out
      · obtain ⟨g, cap, rfl, q1, ⟨u0, q2⟩, q3, q4⟩ := HM3.out.db.put HX.out.2.1 (by decide : 1 < 3) (bgs_setS HX.out.2.1 s)
        have d4 := HM3.out.db.cell (j := 4) rfl
        have HF : Hid (DrP w (w4.setCell ⟨g, k * 3 + 1, none⟩ (.int .i64 (s : Int))).drew lo d (.slice (some ⟨g, 0, none⟩) S.L.length cap) res S' (.returned (.int .i64 0))) := by
          rw [hres, hS']
          exact DrP.of HM3.out (q3.then (grown_drew _ none)) (q4.trans (Dst.new (grown_drew _ none) _ _))
        have hkl2 : (k : Int) < (S.L.length : Int) := by omega
        clear q3 q4 hres hS' HX HOk
        rcases hor with ⟨k2, rfl, rfl⟩ | rfl
        · have g1 : ((k2 : Int) != (k2 : Int)) = false := by simp
          go_wp2
          go_region
          all_goals
            go_wp2
            go_ret
            exact HF.out
        · go_wp2
          go_region
          all_goals
            go_wp2
            go_ret
            exact HF.out
/-- Any record. -/
theorem dapply_any {w : World} {lo d : Nat} {v : Value} {S : Sb} (h : Db w lo d v S) (ho : S.Ok) (r : Rc) (hr : r.Ok) : Calls Tryz.prog 26 #[.pointer (some ⟨d, 0, none⟩), Rk.rcV r] w fun e w' => DrP w w' lo d v (appE S r) (app S r) e := by
  obtain ⟨k, i, s, u, c⟩ := r
  by_cases hm : Rc.May ⟨k, i, s, u, c⟩
  · have hi1 := hr.i1
    have hi0 := hr.i0
    simp only at hi0 hi1
    obtain ⟨n, rfl⟩ : ∃ n : Nat, i = (n : Int) := ⟨i.toNat, by omega⟩
    have hk := may_kind hm
    simp only at hk
    have hE : ∀ {e : Int} {S' : Sb}, appE S ⟨k, (n : Int), s, u, c⟩ = e → (e = 0 → appS S ⟨k, (n : Int), s, u, c⟩ = S') → (e ≠ 0 → S' = S) → app S ⟨k, (n : Int), s, u, c⟩ = S' := by
      intro e S' h1 h2 h3
      by_cases h4 : e = 0
      · rw [app_yes (by rw [h1, h4]), h2 h4]
      · rw [app_no (by rw [h1]; exact h4), h3 h4]
    rcases hk with rfl | rfl | rfl | rfl | rfl
    · have hv : 0 ≤ s ∧ c = 0 := by unfold Rc.May at hm; simp only at hm; omega
      obtain ⟨hs, rfl⟩ := hv
      obtain ⟨m, rfl⟩ : ∃ m : Nat, s = (m : Int) := ⟨s.toNat, by omega⟩
      have h1 : appE S ⟨1, (n : Int), (m : Int), u, 0⟩ = holdE S ⟨1, (n : Int), (m : Int), u, 0⟩ := by unfold appE; rw [if_neg (fun e => e hm)]; rfl
      rw [h1, hE (S' := if holdE S ⟨1, (n : Int), (m : Int), u, 0⟩ = 0 then { S with L := S.L ++ [⟨n, m, u⟩], n := S.n + 1 } else S) h1 (fun e => by rw [if_pos e]; rfl) (fun e => if_neg e)]
      exact dapply_1 h ho n m u (by omega) hr hm
    · have hv : s = 0 ∧ u = 0 ∧ c = 0 := by unfold Rc.May at hm; simp only at hm; omega
      obtain ⟨rfl, rfl, rfl⟩ := hv
      have h1 : appE S ⟨2, (n : Int), 0, 0, 0⟩ = if (fnd S.L n).isSome then 0 else 171 := by unfold appE; rw [if_neg (fun e => e hm)]; rfl
      refine dapply_2 h ho n hr hm _ _ (fun e => ?_) (fun x e => ?_)
      · have h2 : appE S ⟨2, (n : Int), 0, 0, 0⟩ = 171 := by rw [h1, e]; rfl
        exact ⟨h2, app_no (by rw [h2]; decide)⟩
      · have h2 : appE S ⟨2, (n : Int), 0, 0, 0⟩ = 0 := by rw [h1, e]; rfl
        refine ⟨h2, ?_⟩
        rw [app_yes h2]
        show { S with L := (fnd S.L n).elim S.L fun x => upd S.L x.i { x with u := 0 } } = _
        rw [e]
        rfl
    · have hv : s = 0 ∧ u = 0 ∧ c = 0 := by unfold Rc.May at hm; simp only at hm; omega
      obtain ⟨rfl, rfl, rfl⟩ := hv
      have h1 : appE S ⟨3, (n : Int), 0, 0, 0⟩ = if (fnd S.L n).isSome then 0 else 171 := by unfold appE; rw [if_neg (fun e => e hm)]; rfl
      refine dapply_3 h ho n hr hm _ _ (fun e => ?_) (fun x e => ?_)
      · have h2 : appE S ⟨3, (n : Int), 0, 0, 0⟩ = 171 := by rw [h1, e]; rfl
        exact ⟨h2, app_no (by rw [h2]; decide)⟩
      · have h2 : appE S ⟨3, (n : Int), 0, 0, 0⟩ = 0 := by rw [h1, e]; rfl
        refine ⟨h2, ?_⟩
        rw [app_yes h2]
        rfl
    · have hv : 0 ≤ s ∧ u = 0 ∧ c = 0 := by unfold Rc.May at hm; simp only at hm; omega
      obtain ⟨hs, rfl, rfl⟩ := hv
      obtain ⟨m, rfl⟩ : ∃ m : Nat, s = (m : Int) := ⟨s.toNat, by omega⟩
      have h1 : appE S ⟨4, (n : Int), (m : Int), 0, 0⟩ = reseatE S n m := by unfold appE; rw [if_neg (fun e => e hm)]; rfl
      refine dapply_4 h ho n m hr hm _ _ (fun e => ?_) (fun x e hs => ?_) (fun x e hs h3 h4 => ?_) (fun x e hs h3 => ?_)
      · have h2 : appE S ⟨4, (n : Int), (m : Int), 0, 0⟩ = 171 := by rw [h1]; unfold reseatE; rw [e]
        exact ⟨h2, app_no (by rw [h2]; decide)⟩
      · have h2 : appE S ⟨4, (n : Int), (m : Int), 0, 0⟩ = 140 := by rw [h1]; unfold reseatE; rw [e]; simp only; rw [if_pos hs]
        exact ⟨h2, app_no (by rw [h2]; decide)⟩
      · have h2 : appE S ⟨4, (n : Int), (m : Int), 0, 0⟩ = 170 := by rw [h1]; unfold reseatE; rw [e]; simp only; rw [if_neg (fun e => e hs), if_pos ⟨h3, h4⟩]
        exact ⟨h2, app_no (by rw [h2]; decide)⟩
      · have h2 : appE S ⟨4, (n : Int), (m : Int), 0, 0⟩ = 0 := by rw [h1]; exact reseatE_zero.2 ⟨x, e, hs, h3⟩
        refine ⟨h2, ?_⟩
        rw [app_yes h2]
        show { S with L := (fnd S.L n).elim S.L fun x => upd S.L x.i { x with s := m } } = _
        rw [e]
        rfl
    · have hv : n = 0 ∧ s = 0 ∧ u = 0 := by unfold Rc.May at hm; simp only at hm; omega
      obtain ⟨rfl, rfl, rfl⟩ := hv
      have h1 : appE S ⟨5, ((0 : Nat) : Int), 0, 0, c⟩ = if c ≤ S.t then 173 else 0 := by unfold appE; rw [if_neg (fun e => e hm)]; rfl
      rw [h1, hE (S' := if c ≤ S.t then S else { S with L := tik S.L c, t := c }) h1 (fun e => by
        by_cases h5 : c ≤ S.t
        · rw [if_pos h5] at e; cases e
        · rw [if_neg h5]; rfl) (fun e => by
        by_cases h5 : c ≤ S.t
        · rw [if_pos h5]
        · rw [if_neg h5] at e; exact absurd rfl e)]
      exact dapply_5 h ho c hr hm
  · have h1 : appE S ⟨k, i, s, u, c⟩ = 160 := by unfold appE; rw [if_pos hm]
    rw [h1, app_no (by rw [h1]; decide)]
    exact dapply_0 h _ hr hm
end Go.Proofs.YtinkkocleognbaaGreatDoor
namespace Go.Proofs.YtinkkocleognbaaGreatDoor
/- Shapes and records out of plain numbers. -/
open Go.RowKit
attribute [local go_sem ↓] Go.wp_at_zero Go.wp_at_succ
attribute [local go_sem] Oper.semAt_some
theorem tmod_neg (x : Int) (n : Nat) (hn : 1 ≤ n) (h : x.tmod (n : Int) < 0) : x.tmod (n : Int) + (n : Int) = x % (n : Int) := by
  rw [Int.tmod_eq_emod] at h ⊢
  split at h
  · have := Int.emod_nonneg x (show (n : Int) ≠ 0 by omega); omega
  · rename_i hh
    rw [if_neg hh] at *
    simp at *
theorem tmod_nonneg (x : Int) (n : Nat) (hn : 1 ≤ n) (h : 0 ≤ x.tmod (n : Int)) : x.tmod (n : Int) = x % (n : Int) := by
  have h1 := Int.emod_lt_of_pos x (show (0 : Int) < (n : Int) by omega)
  rw [Int.tmod_eq_emod] at h ⊢
  split
  · simp
  · rename_i hh
    rw [if_neg hh] at h
    simp at h
    omega
theorem pick_any (x : Int) (n : Nat) (w : World) (hn : 1 ≤ n) (hn2 : n ≤ 4294967296) :
    Calls Tryz.prog 32 #[.int .i64 x, .int .i64 (n : Int)] w fun e w' => e = .returned (.int .i64 (x % (n : Int))) ∧ w' = w := by
  have h1 : (1 : Int) ≤ (n : Int) := by omega
  have h2 : ((n : Int) == 0) = false := by simp; omega
  have hb := Int.tmod_lt_of_pos x (show (0 : Int) < (n : Int) by omega)
  have hb2 := Int.lt_tmod_of_pos x (show (0 : Int) < (n : Int) by omega)
  have hr1 := tmod_neg x n hn
  have hr2 := tmod_nonneg x n hn
  by_cases hs : x.tmod (n : Int) < 0
  · have hr := hr1 hs
    have HR := hide hr
    have hw : IntKind.i64.wrap (x.tmod (n : Int) + (n : Int)) = x.tmod (n : Int) + (n : Int) := by rw [IntKind.wrap_i64]; omega
    clear hr hr1 hr2
    go_enter Tryz.func32, Tryz.ntmps32
    go_wp2
    go_ret
    exact ⟨by rw [← HR.out]; rfl, rfl⟩
  · have hs2 : 0 ≤ x.tmod (n : Int) := by omega
    have hr := hr2 hs2
    have HR := hide hr
    clear hr hr1 hr2
    go_enter Tryz.func32, Tryz.ntmps32
    go_wp2
    go_ret
    exact ⟨by rw [← HR.out]; rfl, rfl⟩
def sa (x : Int) : Nat := 1 + (x % 384).toNat % 12
def sb (x : Int) : Nat := 1 + (x % 384).toNat / 12 % 8
def sc (x : Int) : Nat := 1 + (x % 384).toNat / 96
theorem s_ok (x : Int) : Gx.OkS (sa x) (sb x) (sc x) := by
  have h1 := Int.emod_lt_of_pos x (b := 384) (by decide)
  have h0 := Int.emod_nonneg x (b := 384) (by decide)
  unfold Gx.OkS sa sb sc
  omega
set_option maxHeartbeats 4000000 in
theorem mshape_any (x : Int) (w : World) : Calls Tryz.prog 20 #[.int .i64 x] w fun e w' => e = .returned (limV (sa x) (sb x) (sc x)) ∧ w.grownBy w' none := by
  have hP := pick_any x 384 (w.alloc (.cells [.int .i64 0, .int .i64 0, .int .i64 0].toArray 23)) (by decide) (by decide)
  have h1 := Int.emod_lt_of_pos x (b := 384) (by decide)
  have h0 := Int.emod_nonneg x (b := 384) (by decide)
  have HB := hide (heap_alloc_new w (.cells [.int .i64 0, .int .i64 0, .int .i64 0].toArray 23))
  have e1 : ((sa x : Nat) : Int) = 1 + ((x % 384).toNat % 12 : Nat) := by unfold sa; omega
  have e2 : ((sb x : Nat) : Int) = 1 + ((x % 384).toNat / 12 % 8 : Nat) := by unfold sb; omega
  have e3 : ((sc x : Nat) : Int) = 1 + ((x % 384).toNat / 96 : Nat) := by unfold sc; omega
  unfold limV
  rw [e1, e2, e3]
  clear e1 e2 e3
  simp only [show ((384 : Nat) : Int) = 384 from rfl] at hP
  obtain ⟨n, hn⟩ : ∃ n : Nat, x % 384 = (n : Int) := ⟨(x % 384).toNat, by omega⟩
  rw [hn] at hP ⊢
  simp only [Int.toNat_natCast]
  have hn3 : n < 384 := by omega
  have HP := hide hP
  clear hP hn h0 h1
  have t1 : (n : Int).tmod 12 = ((n % 12 : Nat) : Int) := by rw [Int.tmod_eq_emod_of_nonneg (by omega)]; omega
  have t2 : (n : Int).tdiv 12 = ((n / 12 : Nat) : Int) := by rw [Int.tdiv_eq_ediv_of_nonneg (by omega)]; omega
  have t3 : (((n / 12 : Nat) : Int)).tmod 8 = ((n / 12 % 8 : Nat) : Int) := by rw [Int.tmod_eq_emod_of_nonneg (by omega)]; omega
  have t4 : (n : Int).tdiv 96 = ((n / 96 : Nat) : Int) := by rw [Int.tdiv_eq_ediv_of_nonneg (by omega)]; omega
  have w1 : IntKind.i64.wrap (1 + ((n % 12 : Nat) : Int)) = 1 + ((n % 12 : Nat) : Int) := by rw [IntKind.wrap_i64]; omega
  have w2 : IntKind.i64.wrap (1 + ((n / 12 % 8 : Nat) : Int)) = 1 + ((n / 12 % 8 : Nat) : Int) := by rw [IntKind.wrap_i64]; omega
  have w3 : IntKind.i64.wrap (1 + ((n / 96 : Nat) : Int)) = 1 + ((n / 96 : Nat) : Int) := by rw [IntKind.wrap_i64]; omega
  have w4 : IntKind.i64.wrap ((n / 12 : Nat) : Int) = ((n / 12 : Nat) : Int) := by rw [IntKind.wrap_i64]; omega
  have w5 : IntKind.i64.wrap ((n / 96 : Nat) : Int) = ((n / 96 : Nat) : Int) := by rw [IntKind.wrap_i64]; omega
  generalize n % 12 = q1 at *
  generalize n / 12 % 8 = q2 at *
  generalize n / 12 = q3 at *
  generalize n / 96 = q4 at *
  obtain ⟨d0, d1, d2, d3⟩ := box3 HB.out
  go_enter Tryz.func20, Tryz.ntmps20
  go_wp2_with fail
  refine HP.out.mono ?_
  rintro e w1' ⟨rfl, rfl⟩
  go_wp2
  obtain ⟨r1, r2⟩ := row3 _ HB.out (.int .i64 (1 + (q1 : Int))) (.int .i64 (1 + (q2 : Int))) (.int .i64 (1 + (q4 : Int)))
  first
    | exact bodyPost_ret (results_cell_row rfl _ _ w.heap.size 23 #[.int .i64 (1 + (q1 : Int)), .int .i64 (1 + (q2 : Int)), .int .i64 (1 + (q4 : Int))] (0, 0) _ rfl r1 Tryz.underlying23 rfl (by kernel_rfl)) rfl ⟨rfl, gn_set (gn_set (gn_set (grown_alloc _ _) (Nat.le_refl _)) (Nat.le_refl _)) (Nat.le_refl _)⟩
    | exact bodyPost_ret (results_cell_row rfl _ _ w.heap.size 23 #[.int .i64 (1 + (q1 : Int)), .int .i64 (1 + (q2 : Int)), .int .i64 (1 + (q4 : Int))] (0, 0) _ rfl (heap_alloc_new w _) Tryz.underlying23 rfl (by kernel_rfl)) rfl ⟨rfl, grown_alloc _ _⟩
end Go.Proofs.YtinkkocleognbaaGreatDoor
