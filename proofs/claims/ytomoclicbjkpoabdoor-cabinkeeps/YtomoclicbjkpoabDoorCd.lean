/- The contracts of Seats, Place, Window, Beside. -/
import Derived.Test.YtomoclicbjkpoabDoorCc
import Derived.OwnWalk
namespace Go.Proofs.YtomoclicbjkpoabDoor
open Go.RowKit Cx
attribute [local go_sem ↓] Go.wp_at_zero Go.wp_at_succ

theorem box3 {w : World} {g : Nat} {u v x : Value} {t : TypeId} (h : w.heap[g]? = some (.cells #[u, v, x] t)) : w.cell? ⟨g, 0, none⟩ = some u ∧ w.cell? ⟨g, 1, none⟩ = some v ∧ w.cell? ⟨g, 2, none⟩ = some x :=
  ⟨cell_row (l := [u, v, x]) h 0, cell_row (l := [u, v, x]) h 1, cell_row (l := [u, v, x]) h 2⟩
theorem at_one (w : World) (o : Obj) (x : Int) : At ((w.alloc o).alloc (.cells #[.int .i64 x] 3)) (some ⟨w.heap.size + 1, 0, none⟩) [x] := by
  have h := heap_alloc_new (w.alloc o) (.cells #[.int .i64 x] 3)
  rw [alloc_size] at h
  intro j u hu
  refine ⟨_, rfl, ?_⟩
  rw [Addr.add_lit, Nat.zero_add, cell_row (l := [.int .i64 x]) h]
  cases j with
  | zero => simp at hu; subst hu; rfl
  | succ k => simp at hu
theorem at_two (w : World) (o : Obj) (x y : Int) : At ((w.alloc o).alloc (.cells #[.int .i64 x, .int .i64 y] 3)) (some ⟨w.heap.size + 1, 0, none⟩) [x, y] := by
  have h := heap_alloc_new (w.alloc o) (.cells #[.int .i64 x, .int .i64 y] 3)
  rw [alloc_size] at h
  intro j u hu
  refine ⟨_, rfl, ?_⟩
  rw [Addr.add_lit, Nat.zero_add, cell_row (l := [.int .i64 x, .int .i64 y]) h]
  cases j with
  | zero => simp at hu; subst hu; rfl
  | succ k => cases k with
    | zero => simp at hu; subst hu; rfl
    | succ k => simp at hu
theorem grown2 (w : World) (o o' : Obj) : w.grownBy ((w.alloc o).alloc o') none := grown_trans (grown_alloc _ _) (grown_alloc _ _)
theorem box_two {w w2 : World} {o o' : Obj} (h : ((w.alloc o).alloc o').grownBy w2 none) : w2.heap[w.heap.size]? = some o := box_kept (grown_trans (grown_alloc _ _) h)

set_option maxHeartbeats 1000000 in
theorem place_bad (R W : Int) (ao : Option Addr) (n cap : Nat) (L : List Int) (x : Int) (w : World) (hc : CbIn w ao n cap L) (hz : wrg R W L [x] ≠ 0) :
    Calls Tryd.prog 21 #[cbV R W (.slice ao n cap), .int .i64 x] w fun e w' => e = .returned (.tuple #[.int .i64 0, .int .i64 0, .int .i64 (wrg R W L [x])]) ∧ w.grownBy w' none := by
  have C := hide (fun w' so mc (hg : w.grownBy w' none) hx => checkSeats_any R W ao n cap L w' (hc.grown hg) so 1 mc [x] hx rfl (by omega))
  generalize wrg R W L [x] = z at *
  have hz1 : (z == 0) = false := by simpa using hz
  clear hc
  unfold cbV at *
  go_enter Tryd.func21, Tryd.ntmps21
  go_wp2_with fail
  refine (C.out _ _ _ (grown2 w _ _) (at_one w _ x)).mono ?_
  rintro e w1 ⟨rfl, hg1⟩
  have G1 := hide (grown_trans (grown2 w _ _) hg1)
  clear hg1
  go_wp2
  go_ret3
  exact ⟨rfl, G1.out⟩

set_option maxHeartbeats 1000000 in
theorem place_ok (R : Int) (W : Nat) (ao : Option Addr) (n cap : Nat) (L : List Int) (s : Nat) (w : World) (hc : CbIn w ao n cap L) (ho : Ok R W L) (hs : (s : Int) < R * W) :
    Calls Tryd.prog 21 #[cbV R W (.slice ao n cap), .int .i64 s] w fun e w' => e = .returned (.tuple #[.int .i64 (s / W : Nat), .int .i64 (s % W : Nat), .int .i64 0]) ∧ w.grownBy w' none := by
  have hz : wrg R W L [(s : Int)] = 0 := wrg_ok ho (by intro y hy; simp at hy; subst hy; omega)
  have C := hide (fun w' so mc (hg : w.grownBy w' none) hx => checkSeats_any R W ao n cap L w' (hc.grown hg) so 1 mc [(s : Int)] hx rfl (by omega))
  rw [hz] at C
  have hW := ho.2.2.1
  have h1 := tmod_nat s W
  have h2 := tdiv_nat s W
  have h3 : s / W ≤ s := Nat.div_le_self _ _
  have h4 : s < 1024 := by
    have h5 : R * W ≤ 64 * 16 := Int.mul_le_mul ho.2.1 ho.2.2.2.1 (by omega) (by omega)
    omega
  have h6 := Nat.mod_lt s (show W > 0 by omega)
  have h7 := ho.2.2.2.1
  have hne : ((W : Int) == 0) = false := by simp; omega
  generalize s / W = r at *
  generalize s % W = c at *
  clear hc ho hz hs
  unfold cbV at *
  have hwr : IntKind.i64.wrap (r : Int) = (r : Int) := IntWalk.i64_in _ (by omega)
  go_enter Tryd.func21, Tryd.ntmps21
  go_wp2_with fail
  refine (C.out _ _ _ (grown2 w _ _) (at_one w _ s)).mono ?_
  rintro e w1 ⟨rfl, hg1⟩
  obtain ⟨c0, c1, c2⟩ := box3 (box_two hg1)
  have G1 := hide (grown_trans (grown2 w _ _) hg1)
  clear hg1
  go_wp2
  go_quiet (fail)
  go_wp2
  go_ret3
  exact ⟨rfl, grown_trans G1.out (grown_drewN _ _ _)⟩

section
attribute [local go_sem ↓] wp_store61
attribute [local go_sem] blkOf_ptr offOf_ptr isPtr_ptr
/-- What Window tells of a column. -/
def win (W c : Nat) : Bool := c == 0 || c == W - 1
theorem zero61 (w : World) (C : Array Value) (hC : C = (arrC []).toArray) : rowOk (w.alloc (.cells C 47)) w.heap.size := by
  subst hC
  exact ⟨_, _, heap_alloc_new w _, by simp [arrC_len]⟩
theorem alloc_setRow (w : World) (z D : Array Value) (t : TypeId) : (w.alloc (.cells z t)).setRow w.heap.size D = w.alloc (.cells D t) := by
  unfold World.setRow World.alloc
  congr 1
  apply Array.ext
  · simp
  · intro i h1 h2
    simp only [Array.getElem_modify, Array.getElem_push]
    by_cases hi : i < w.heap.size
    · have : ¬ w.heap.size = i := by omega
      simp [this, hi]
    · simp at h2
      have : i = w.heap.size := by omega
      subst this
      simp
attribute [local go_sem] alloc_setRow
end

set_option maxHeartbeats 1000000 in
theorem beside_bad (R W : Int) (ao : Option Addr) (n cap : Nat) (L : List Int) (x y : Int) (w : World) (hc : CbIn w ao n cap L) (hz : wrg R W L [x, y] ≠ 0) :
    Calls Tryd.prog 13 #[cbV R W (.slice ao n cap), .int .i64 x, .int .i64 y] w fun e w' => e = .returned (.tuple #[.bool false, .int .i64 (wrg R W L [x, y])]) ∧ w.grownBy w' none := by
  have C := hide (fun w' so mc (hg : w.grownBy w' none) hx => checkSeats_any R W ao n cap L w' (hc.grown hg) so 2 mc [x, y] hx rfl (by omega))
  generalize wrg R W L [x, y] = z at *
  have hz1 : (z == 0) = false := by simpa using hz
  clear hc
  unfold cbV at *
  go_enter Tryd.func13, Tryd.ntmps13
  go_wp2_with fail
  refine (C.out _ _ _ (grown2 w _ _) (at_two w _ x y)).mono ?_
  rintro e w1 ⟨rfl, hg1⟩
  have G1 := hide (grown_trans (grown2 w _ _) hg1)
  clear hg1
  go_wp2
  go_ret2
  exact ⟨rfl, G1.out⟩

theorem first_grown (w : World) (n : Nat) (row : Option Nat) : w.grownBy (w.drewN n) row := grown_drewN w n row
/-- Two seats are neighbours with no aisle between them. -/
def bes (W : Nat) (L : List Int) (s t : Nat) : Bool := max s t - min s t == 1 && !bg W L (max s t)
set_option maxHeartbeats 1000000 in
theorem beside_ok (R : Int) (W : Nat) (ao : Option Addr) (n cap : Nat) (L : List Int) (s t : Nat) (w : World) (hc : CbIn w ao n cap L) (ho : Ok R W L) (hs : (s : Int) < R * W) (ht : (t : Int) < R * W) :
    Calls Tryd.prog 13 #[cbV R W (.slice ao n cap), .int .i64 s, .int .i64 t] w fun e w' => e = .returned (.tuple #[.bool (bes W L s t), .int .i64 0]) ∧ w.grownBy w' none := by
  have hz : wrg R W L [(s : Int), (t : Int)] = 0 := wrg_ok ho (by intro y hy; simp at hy; rcases hy with rfl | rfl <;> omega)
  have C := hide (fun w' so mc (hg : w.grownBy w' none) hx => checkSeats_any R W ao n cap L w' (hc.grown hg) so 2 mc [(s : Int), (t : Int)] hx rfl (by omega))
  rw [hz] at C
  have A := hide (fun w' (hg : w.grownBy w' none) => aislesOf_any R W ao n cap L w' (hc.grown hg) ho.2.2.2.1 ho.2.2.2.2)
  have hW := ho.2.2.1
  have h7 := ho.2.2.2.1
  have B := hide (fun q w' => begins_any R W (.slice ao n cap) L q (by omega) (by omega) w')
  have h4 : R * W ≤ 64 * 16 := Int.mul_le_mul ho.2.1 ho.2.2.2.1 (by omega) (by omega)
  have hs1 : s < 1024 := by omega
  have ht1 : t < 1024 := by omega
  obtain ⟨D, hD⟩ : ∃ D, D = arrC L := ⟨_, rfl⟩
  rw [← hD] at A B
  obtain ⟨z, hz⟩ : ∃ z, z = bes W L s t := ⟨_, rfl⟩
  rw [← hz]
  have HZ := hide hz
  clear hD hz hc ho hs ht h4
  unfold cbV at *
  by_cases hst : s < t
  · have HT : Hid (max s t = t ∧ min s t = s) := ⟨by omega, by omega⟩
    have hq : (s : Int) < (t : Int) := by omega
    by_cases h1 : t = s + 1
    · have hd : ((t : Int) - (s : Int) == 1) = true := by simp; omega
      have hd2 : (t : Int) - (s : Int) = 1 := by omega
      have HV : Hid (z = !bg W L t) := by
        show z = _
        rw [HZ.out]; unfold bes; rw [HT.out.1, HT.out.2]
        have : (t - s == 1) = true := by simp; omega
        rw [this]; rfl
      have HB := hide (B.out t)
      generalize bg W L t = bb at *
      clear h1
      go_enter Tryd.func13, Tryd.ntmps13
      go_wp2_with fail
      refine (C.out _ _ _ (grown2 w _ _) (at_two w _ s t)).mono ?_
      rintro e w1 ⟨rfl, hg1⟩
      have hb1 := box_two hg1
      have c := box3 hb1
      obtain ⟨c0, c1, c2⟩ := c
      have G1 := hide (And.intro (grown_trans (grown2 w _ _) hg1) hb1)
      clear hg1 hb1
      go_wp2
      go_region_held3 (fun w' => w'.cell? ⟨w.heap.size, 0, none⟩ = some (.int .i64 R) ∧ w'.cell? ⟨w.heap.size, 1, none⟩ = some (.int .i64 (W : Int)) ∧ w'.cell? ⟨w.heap.size, 2, none⟩ = some (.slice ao n cap)) (first | exact ⟨c0, c1, c2⟩ | assumption | go_keep) (first | (go_at_call 16; refine (A.out _ (grown_trans G1.out.1 (first_grown _ _ _))).mono ?_; rintro e w2 ⟨rfl, hw2⟩; have hk := And.intro (hw2.cell c0 (by simp)) (And.intro (hw2.cell c1 (by simp)) (hw2.cell c2 (by simp))); have G2 := hide hw2; clear hw2) | (go_at_call 18; refine (HB.out _).mono ?_; rintro e w3 ⟨rfl, hw3⟩; have hk3 := And.intro (hw3.cell hk.1 (by simp)) (And.intro (hw3.cell hk.2.1 (by simp)) (hw3.cell hk.2.2 (by simp))); have G3 := hide hw3; clear hw3))
      all_goals go_wp2
      all_goals go_ret2
      all_goals exact ⟨by rw [HV.out]; rfl, grown_trans (grown_trans (grown_trans G1.out.1 (first_grown _ _ _)) G2.out) G3.out⟩
    · have hd : ((t : Int) - (s : Int) == 1) = false := by simp; omega
      have HV : Hid (z = false) := by
        show z = _
        rw [HZ.out]; unfold bes; rw [HT.out.1, HT.out.2]
        have : (t - s == 1) = false := by simp; omega
        rw [this]; rfl
      clear h1
      go_enter Tryd.func13, Tryd.ntmps13
      go_wp2_with fail
      refine (C.out _ _ _ (grown2 w _ _) (at_two w _ s t)).mono ?_
      rintro e w1 ⟨rfl, hg1⟩
      have G1 := hide (grown_trans (grown2 w _ _) hg1)
      clear hg1
      go_wp2
      go_quiet (fail)
      go_wp2
      go_ret2
      exact ⟨by rw [HV.out]; rfl, grown_trans G1.out (grown_drewN _ _ _)⟩
  · by_cases hst2 : t < s
    · have HT : Hid (max s t = s ∧ min s t = t) := ⟨by omega, by omega⟩
      have hq : (t : Int) < (s : Int) := by omega
      by_cases h1 : s = t + 1
      · have hd : ((s : Int) - (t : Int) == 1) = true := by simp; omega
        have hd2 : (s : Int) - (t : Int) = 1 := by omega
        have HV : Hid (z = !bg W L s) := by
          show z = _
          rw [HZ.out]; unfold bes; rw [HT.out.1, HT.out.2]
          have : (s - t == 1) = true := by simp; omega
          rw [this]; rfl
        have HB := hide (B.out s)
        generalize bg W L s = bb at *
        clear h1
        go_enter Tryd.func13, Tryd.ntmps13
        go_wp2_with fail
        refine (C.out _ _ _ (grown2 w _ _) (at_two w _ s t)).mono ?_
        rintro e w1 ⟨rfl, hg1⟩
        have hb1 := box_two hg1
        have c := box3 hb1
        obtain ⟨c0, c1, c2⟩ := c
        have G1 := hide (And.intro (grown_trans (grown2 w _ _) hg1) hb1)
        clear hg1 hb1
        go_wp2
        go_region_held3 (fun w' => w'.cell? ⟨w.heap.size, 0, none⟩ = some (.int .i64 R) ∧ w'.cell? ⟨w.heap.size, 1, none⟩ = some (.int .i64 (W : Int)) ∧ w'.cell? ⟨w.heap.size, 2, none⟩ = some (.slice ao n cap)) (first | exact ⟨c0, c1, c2⟩ | assumption | go_keep) (first | (go_at_call 16; refine (A.out _ (grown_trans G1.out.1 (first_grown _ _ _))).mono ?_; rintro e w2 ⟨rfl, hw2⟩; have hk := And.intro (hw2.cell c0 (by simp)) (And.intro (hw2.cell c1 (by simp)) (hw2.cell c2 (by simp))); have G2 := hide hw2; clear hw2) | (go_at_call 18; refine (HB.out _).mono ?_; rintro e w3 ⟨rfl, hw3⟩; have hk3 := And.intro (hw3.cell hk.1 (by simp)) (And.intro (hw3.cell hk.2.1 (by simp)) (hw3.cell hk.2.2 (by simp))); have G3 := hide hw3; clear hw3))
        all_goals go_wp2
        all_goals go_ret2
        all_goals exact ⟨by rw [HV.out]; rfl, grown_trans (grown_trans (grown_trans G1.out.1 (first_grown _ _ _)) G2.out) G3.out⟩
      · have hd : ((s : Int) - (t : Int) == 1) = false := by simp; omega
        have HV : Hid (z = false) := by
          show z = _
          rw [HZ.out]; unfold bes; rw [HT.out.1, HT.out.2]
          have : (s - t == 1) = false := by simp; omega
          rw [this]; rfl
        clear h1
        go_enter Tryd.func13, Tryd.ntmps13
        go_wp2_with fail
        refine (C.out _ _ _ (grown2 w _ _) (at_two w _ s t)).mono ?_
        rintro e w1 ⟨rfl, hg1⟩
        have G1 := hide (grown_trans (grown2 w _ _) hg1)
        clear hg1
        go_wp2
        go_quiet (fail)
        go_wp2
        go_ret2
        exact ⟨by rw [HV.out]; rfl, grown_trans G1.out (grown_drewN _ _ _)⟩
    · obtain rfl : s = t := by omega
      have HT : Hid (max s s = s ∧ min s s = s) := ⟨by omega, by omega⟩
      have HV : Hid (z = false) := by
        show z = _
        rw [HZ.out]; unfold bes; rw [HT.out.1, HT.out.2]
        simp
      go_enter Tryd.func13, Tryd.ntmps13
      go_wp2_with fail
      refine (C.out _ _ _ (grown2 w _ _) (at_two w _ s s)).mono ?_
      rintro e w1 ⟨rfl, hg1⟩
      have G1 := hide (grown_trans (grown2 w _ _) hg1)
      clear hg1
      go_wp2
      go_quiet (fail)
      go_wp2
      go_ret2
      exact ⟨by rw [HV.out]; rfl, grown_trans G1.out (grown_drewN _ _ _)⟩
end Go.Proofs.YtomoclicbjkpoabDoor
