/- The document's cabin: Beside. -/
import Derived.Test.YtomoclicbjkpoaaDoorDd
namespace Go.Proofs.YtomoclicbjkpoaaDoor
open Go.RowKit Cx
attribute [local go_sem ↓] Go.wp_at_zero Go.wp_at_succ

theorem wrg_two (R W : Int) (L : List Int) (x y : Int) : (wrg R W L [x] ≠ 0 → wrg R W L [x, y] = wrg R W L [x]) ∧ (wrg R W L [x] = 0 → wrg R W L [x, y] = wrg R W L [y]) := by
  unfold wrg
  by_cases ho : Ok R W L
  · simp only [if_pos ho]
    by_cases hx : 0 ≤ x ∧ x < R * W <;> by_cases hy : 0 ≤ y ∧ y < R * W <;> simp [All, hx, hy]
  · simp [if_neg ho]
set_option maxHeartbeats 1000000 in
theorem dbeside_bad (R W : Int) (ao : Option Addr) (n cap : Nat) (L : List Int) (x y : Int) (w : World) (hc : CbIn w ao n cap L) (hz : wrg R W L [x, y] ≠ 0) :
    Calls Tryd.prog 26 #[cbV R W (.slice ao n cap), .int .i64 x, .int .i64 y] w fun e w' => e = .returned (.tuple #[.bool false, .int .i64 (wrg R W L [x, y])]) ∧ w.grownBy w' none := by
  have C := hide (fun w' (hg : w.grownBy w' none) => wrong_any R W ao n cap L x w' (hc.grown hg))
  have D := hide (fun w' (hg : w.grownBy w' none) => wrong_any R W ao n cap L y w' (hc.grown hg))
  obtain ⟨t1, t2⟩ := wrg_two R W L x y
  generalize wrg R W L [x, y] = z at *
  have hz1 : (z == 0) = false := by simpa using hz
  clear hc
  by_cases hx : wrg R W L [x] = 0
  · rw [← t2 hx] at D
    rw [hx] at C
    clear t1 t2 hx
    unfold cbV at *
    go_enter Tryd.func26, Tryd.ntmps26
    go_wp2_with fail
    refine (C.out _ (grown_alloc w _)).mono ?_
    rintro e w1 ⟨rfl, hg1⟩
    obtain ⟨c0, c1, c2⟩ := box3 (box_kept hg1)
    have G1 := hide (grown_trans (grown_alloc w _) hg1)
    clear hg1
    go_wp2_with fail
    refine (D.out _ G1.out).mono ?_
    rintro e w2 ⟨rfl, hg2⟩
    have G2 := hide (grown_trans G1.out hg2)
    clear hg2
    go_wp2
    go_ret2
    exact ⟨rfl, G2.out⟩
  · rw [← t1 hx] at C
    clear t1 t2 hx
    unfold cbV at *
    go_enter Tryd.func26, Tryd.ntmps26
    go_wp2_with fail
    refine (C.out _ (grown_alloc w _)).mono ?_
    rintro e w1 ⟨rfl, hg1⟩
    have G1 := hide (grown_trans (grown_alloc w _) hg1)
    clear hg1
    go_wp2
    go_ret2
    exact ⟨rfl, G1.out⟩
theorem bes_le {W : Nat} (_hW : 1 ≤ W) (L : List Int) {s t : Nat} (h : s ≤ t) : bes W L s t = (t == s + 1 && s / W == t / W && !ai L (t % W)) := by
  unfold bes bg
  rw [Nat.max_eq_right h, Nat.min_eq_left h]
  by_cases h1 : t = s + 1
  · subst h1
    have e1 : (s + 1 - s == 1) = true := by simp
    rw [e1]
    have h2 := Nat.succ_div (a := s) (b := W)
    have h3 : (s / W == (s + 1) / W) = !((s + 1) % W == 0) := by
      rw [Bool.eq_iff_iff]
      simp only [Nat.dvd_iff_mod_eq_zero] at h2
      split at h2
      · rename_i h4; simp [h4]; omega
      · rename_i h4; simp [h4]; omega
    rw [h3]
    cases ((s + 1) % W == 0) <;> simp
  · have e1 : (t - s == 1) = false := by simp; omega
    have e2 : (t == s + 1) = false := by simpa using h1
    rw [e1, e2]; rfl
set_option maxHeartbeats 1000000 in
theorem dbeside_le (R : Int) (W : Nat) (ao : Option Addr) (n cap : Nat) (L : List Int) (s t : Nat) (w : World) (hc : CbIn w ao n cap L) (ho : Ok R W L) (hs : (s : Int) < R * W) (ht : (t : Int) < R * W) (hst : s ≤ t) :
    Calls Tryd.prog 26 #[cbV R W (.slice ao n cap), .int .i64 s, .int .i64 t] w fun e w' => e = .returned (.tuple #[.bool (bes W L s t), .int .i64 0]) ∧ w.grownBy w' none := by
  have hz : wrg R W L [(s : Int)] = 0 := wrg_ok ho (by intro y hy; simp at hy; subst hy; omega)
  have hz2 : wrg R W L [(t : Int)] = 0 := wrg_ok ho (by intro y hy; simp at hy; subst hy; omega)
  have C := hide (fun w' (hg : w.grownBy w' none) => wrong_any R W ao n cap L s w' (hc.grown hg))
  have D := hide (fun w' (hg : w.grownBy w' none) => wrong_any R W ao n cap L t w' (hc.grown hg))
  rw [hz] at C
  rw [hz2] at D
  have hW := ho.2.2.1
  have h7 := ho.2.2.2.1
  have A := hide (fun w' (hg : w.grownBy w' none) => aisle_any R W ao n cap L (t % W) w' (hc.grown hg))
  have hr1 := row64 ho hs
  have hr2 := row64 ho ht
  have hm := Nat.mod_lt t (show W > 0 by omega)
  have h1 := tmod_nat t W
  have h1' : (t : Int) % (W : Int) = ((t % W : Nat) : Int) := rfl
  have q1 := tdiv_nat s W
  have q1' : (s : Int) / (W : Int) = ((s / W : Nat) : Int) := rfl
  have q2 := tdiv_nat t W
  have q2' : (t : Int) / (W : Int) = ((t / W : Nat) : Int) := rfl
  have hne : ((W : Int) == 0) = false := by simp; omega
  have hW0 : ¬ W = 0 := by omega
  have hbl := bes_le (W := W) (by omega) L hst
  obtain ⟨z, hz⟩ : ∃ z, z = bes W L s t := ⟨_, rfl⟩
  rw [← hz]
  rw [← hz] at hbl
  clear hz hc ho hs ht hz2
  have hstI : ¬ (t : Int) < (s : Int) := by omega
  have hws : IntKind.i64.wrap ((s : Int) + 1) = (s : Int) + 1 := IntWalk.i64_in _ (by omega)
  unfold cbV at *
  generalize s / W = r1 at *
  generalize t / W = r2 at *
  generalize t % W = c at *
  have hw1 : IntKind.i64.wrap (r1 : Int) = (r1 : Int) := IntWalk.i64_in _ (by omega)
  have hw2 : IntKind.i64.wrap (r2 : Int) = (r2 : Int) := IntWalk.i64_in _ (by omega)
  by_cases h2 : t = s + 1
  · have b1 : ((t : Int) == (s : Int) + 1) = true := by simp; omega
    by_cases h3 : r1 = r2
    · subst h3
      have hv : z = !ai L c := by rw [hbl, h2]; simp
      have HV := hide hv
      clear hv hbl h2
      generalize ai L c = y at *
      go_enter Tryd.func26, Tryd.ntmps26
      go_wp2_with fail
      refine (C.out _ (grown_alloc w _)).mono ?_
      rintro e w1 ⟨rfl, hg1⟩
      have hb1 := box_kept hg1
      have G1 := hide (And.intro (grown_trans (grown_alloc w _) hg1) hb1)
      obtain ⟨c0, c1, c2⟩ := box3 hb1
      clear hg1 hb1
      go_wp2_with fail
      refine (D.out _ G1.out.1).mono ?_
      rintro e w2 ⟨rfl, hg2⟩
      have G2 := hide (grown_trans G1.out.1 hg2)
      clear c0 c1 c2
      obtain ⟨c0, c1, c2⟩ := box3 (heap_kept G1.out.2 hg2 (by simp))
      clear hg2
      go_wp2
      refine wp_region_held_drew (S := (fun w' => w'.cell? ⟨w.heap.size, 0, none⟩ = some (.int .i64 R) ∧ w'.cell? ⟨w.heap.size, 1, none⟩ = some (.int .i64 (W : Int)) ∧ w'.cell? ⟨w.heap.size, 2, none⟩ = some (.slice ao n cap))) (by kernel_rfl) ?_ (fun hHeld => ?_)
      · (exact ⟨c0, c1, c2⟩)
      refine wpAnyH_take (i := 0) (oi := { dst := some 29, op := Go.Op.move (Go.Operand.tmp 2), type := 3, pos := "ref.go:106", after := #[], guard := none }) (v := ?_) rfl (by kernel_rfl) (by kernel_rfl) (by kernel_rfl) (fun _ _ _ h => h) (Or.inl ⟨by rfl, ?_⟩) (by assumption) ?_
      rotate_left
      · (intro w hSw; (try dsimp only at hSw); (go_simp <;> with_reducible rfl))
      try simp only [Act.put, List.setIfInBounds_toArray, List.set_cons_zero, List.set_cons_succ]
      refine wpAnyH_take (i := 1) (oi := { dst := some 30, op := Go.Op.move (Go.Operand.tmp 1), type := 3, pos := "ref.go:106", after := #[], guard := none }) (v := ?_) rfl (by kernel_rfl) (by kernel_rfl) (by kernel_rfl) (fun _ _ _ h => h) (Or.inl ⟨by rfl, ?_⟩) (by assumption) ?_
      rotate_left
      · (intro w hSw; (try dsimp only at hSw); (go_simp <;> with_reducible rfl))
      try simp only [Act.put, List.setIfInBounds_toArray, List.set_cons_zero, List.set_cons_succ]
      refine wpAnyH_take (i := 2) (oi := { dst := some 31, op := Go.Op.binOp Go.BinOp.add 3 (Go.Operand.tmp 30) (Go.Operand.const (Go.Value.int Go.IntKind.i64 1)) 3, type := 3, pos := "ref.go:106", after := #[{ on := 1, ground := Go.Ground.data }], guard := none }) (v := ?_) rfl (by kernel_rfl) (by kernel_rfl) (by kernel_rfl) (fun _ _ _ h => h) (Or.inl ⟨by rfl, ?_⟩) (by assumption) ?_
      rotate_left
      · (intro w hSw; (try dsimp only at hSw); (go_simp <;> with_reducible rfl))
      try simp only [Act.put, List.setIfInBounds_toArray, List.set_cons_zero, List.set_cons_succ]
      refine wpAnyH_take (i := 3) (oi := { dst := some 32, op := Go.Op.binOp Go.BinOp.eql 3 (Go.Operand.tmp 29) (Go.Operand.tmp 31) 3, type := 4, pos := "ref.go:106", after := #[{ on := 0, ground := Go.Ground.data }, { on := 2, ground := Go.Ground.data }], guard := none }) (v := ?_) rfl (by kernel_rfl) (by kernel_rfl) (by kernel_rfl) (fun _ _ _ h => h) (Or.inl ⟨by rfl, ?_⟩) (by assumption) ?_
      rotate_left
      · (intro w hSw; (try dsimp only at hSw); (go_simp <;> with_reducible rfl))
      try simp only [Act.put, List.setIfInBounds_toArray, List.set_cons_zero, List.set_cons_succ]
      refine wpAnyH_take (i := 4) (oi := { dst := some 33, op := Go.Op.move (Go.Operand.tmp 32), type := 4, pos := "ref.go:106", after := #[{ on := 3, ground := Go.Ground.data }], guard := none }) (v := ?_) rfl (by kernel_rfl) (by kernel_rfl) (by kernel_rfl) (fun _ _ _ h => h) (Or.inl ⟨by rfl, ?_⟩) (by assumption) ?_
      rotate_left
      · (intro w hSw; (try dsimp only at hSw); (go_simp <;> with_reducible rfl))
      try simp only [Act.put, List.setIfInBounds_toArray, List.set_cons_zero, List.set_cons_succ]
      refine wpAnyH_take (i := 5) (oi := { dst := some 34, op := Go.Op.move (Go.Operand.tmp 1), type := 3, pos := "ref.go:106", after := #[{ on := 4, ground := Go.Ground.guard }], guard := some (4, true) }) (v := ?_) rfl (by kernel_rfl) (by kernel_rfl) (by kernel_rfl) (fun _ _ _ h => h) (Or.inl ⟨by rfl, ?_⟩) (by assumption) ?_
      rotate_left
      · (intro w hSw; (try dsimp only at hSw); (go_simp <;> with_reducible rfl))
      try simp only [Act.put, List.setIfInBounds_toArray, List.set_cons_zero, List.set_cons_succ]
      refine wpAnyH_take (i := 6) (oi := { dst := some 35, op := Go.Op.fieldAddr 24 (Go.Operand.tmp 3) 1, type := 0, pos := "ref.go:106", after := #[{ on := 4, ground := Go.Ground.guard }], guard := some (4, true) }) (v := ?_) rfl (by kernel_rfl) (by kernel_rfl) (by kernel_rfl) (fun _ _ _ h => h) (Or.inl ⟨by rfl, ?_⟩) (by assumption) ?_
      rotate_left
      · (intro w hSw; (try dsimp only at hSw); (go_simp <;> with_reducible rfl))
      try simp only [Act.put, List.setIfInBounds_toArray, List.set_cons_zero, List.set_cons_succ]
      refine wpAnyH_take (i := 7) (oi := { dst := some 36, op := Go.Op.load 3 (Go.Operand.tmp 35), type := 3, pos := "ref.go:106", after := #[{ on := 6, ground := Go.Ground.data }, { on := 4, ground := Go.Ground.guard }], guard := some (4, true) }) (v := ?_) rfl (by kernel_rfl) (by kernel_rfl) (by kernel_rfl) (fun _ _ _ h => h) (Or.inl ⟨by rfl, ?_⟩) (by assumption) ?_
      rotate_left
      · (intro w hSw; (try dsimp only at hSw); (go_simp <;> with_reducible rfl))
      try simp only [Act.put, List.setIfInBounds_toArray, List.set_cons_zero, List.set_cons_succ]
      refine wpAnyH_take (i := 8) (oi := { dst := some 37, op := Go.Op.binOp Go.BinOp.quo 3 (Go.Operand.tmp 34) (Go.Operand.tmp 36) 3, type := 3, pos := "ref.go:106", after := #[{ on := 5, ground := Go.Ground.data }, { on := 7, ground := Go.Ground.data }, { on := 4, ground := Go.Ground.guard }], guard := some (4, true) }) (v := ?_) rfl (by kernel_rfl) (by kernel_rfl) (by kernel_rfl) (fun _ _ _ h => h) (Or.inl ⟨by rfl, ?_⟩) (by assumption) ?_
      rotate_left
      · (intro w hSw; (try dsimp only at hSw); (go_simp <;> with_reducible rfl))
      try simp only [Act.put, List.setIfInBounds_toArray, List.set_cons_zero, List.set_cons_succ]
      refine wpAnyH_take (i := 9) (oi := { dst := some 38, op := Go.Op.move (Go.Operand.tmp 2), type := 3, pos := "ref.go:106", after := #[{ on := 4, ground := Go.Ground.guard }], guard := some (4, true) }) (v := ?_) rfl (by kernel_rfl) (by kernel_rfl) (by kernel_rfl) (fun _ _ _ h => h) (Or.inl ⟨by rfl, ?_⟩) (by assumption) ?_
      rotate_left
      · (intro w hSw; (try dsimp only at hSw); (go_simp <;> with_reducible rfl))
      try simp only [Act.put, List.setIfInBounds_toArray, List.set_cons_zero, List.set_cons_succ]
      refine wpAnyH_take (i := 10) (oi := { dst := some 39, op := Go.Op.fieldAddr 24 (Go.Operand.tmp 3) 1, type := 0, pos := "ref.go:106", after := #[{ on := 4, ground := Go.Ground.guard }], guard := some (4, true) }) (v := ?_) rfl (by kernel_rfl) (by kernel_rfl) (by kernel_rfl) (fun _ _ _ h => h) (Or.inl ⟨by rfl, ?_⟩) (by assumption) ?_
      rotate_left
      · (intro w hSw; (try dsimp only at hSw); (go_simp <;> with_reducible rfl))
      try simp only [Act.put, List.setIfInBounds_toArray, List.set_cons_zero, List.set_cons_succ]
      refine wpAnyH_take (i := 11) (oi := { dst := some 40, op := Go.Op.load 3 (Go.Operand.tmp 39), type := 3, pos := "ref.go:106", after := #[{ on := 10, ground := Go.Ground.data }, { on := 4, ground := Go.Ground.guard }], guard := some (4, true) }) (v := ?_) rfl (by kernel_rfl) (by kernel_rfl) (by kernel_rfl) (fun _ _ _ h => h) (Or.inl ⟨by rfl, ?_⟩) (by assumption) ?_
      rotate_left
      · (intro w hSw; (try dsimp only at hSw); (go_simp <;> with_reducible rfl))
      try simp only [Act.put, List.setIfInBounds_toArray, List.set_cons_zero, List.set_cons_succ]
      refine wpAnyH_take (i := 12) (oi := { dst := some 41, op := Go.Op.binOp Go.BinOp.quo 3 (Go.Operand.tmp 38) (Go.Operand.tmp 40) 3, type := 3, pos := "ref.go:106", after := #[{ on := 9, ground := Go.Ground.data }, { on := 11, ground := Go.Ground.data }, { on := 4, ground := Go.Ground.guard }], guard := some (4, true) }) (v := ?_) rfl (by kernel_rfl) (by kernel_rfl) (by kernel_rfl) (fun _ _ _ h => h) (Or.inl ⟨by rfl, ?_⟩) (by assumption) ?_
      rotate_left
      · (intro w hSw; (try dsimp only at hSw); (go_simp <;> with_reducible rfl))
      try simp only [Act.put, List.setIfInBounds_toArray, List.set_cons_zero, List.set_cons_succ]
      refine wpAnyH_take (i := 13) (oi := { dst := some 42, op := Go.Op.binOp Go.BinOp.eql 3 (Go.Operand.tmp 37) (Go.Operand.tmp 41) 3, type := 4, pos := "ref.go:106", after := #[{ on := 8, ground := Go.Ground.data }, { on := 12, ground := Go.Ground.data }, { on := 4, ground := Go.Ground.guard }], guard := some (4, true) }) (v := ?_) rfl (by kernel_rfl) (by kernel_rfl) (by kernel_rfl) (fun _ _ _ h => h) (Or.inl ⟨by rfl, ?_⟩) (by assumption) ?_
      rotate_left
      · (intro w hSw; (try dsimp only at hSw); (go_simp <;> with_reducible rfl))
      try simp only [Act.put, List.setIfInBounds_toArray, List.set_cons_zero, List.set_cons_succ]
      refine wpAnyH_take (i := 14) (oi := { dst := some 43, op := Go.Op.pick (Go.Operand.tmp 33) (Go.Operand.tmp 42) (Go.Operand.const (Go.Value.bool false)), type := 4, pos := "ref.go:106", after := #[{ on := 4, ground := Go.Ground.data }, { on := 13, ground := Go.Ground.data }], guard := none }) (v := ?_) rfl (by kernel_rfl) (by kernel_rfl) (by kernel_rfl) (fun _ _ _ h => h) (Or.inl ⟨by rfl, ?_⟩) (by assumption) ?_
      rotate_left
      · (intro w hSw; (try dsimp only at hSw); (go_simp <;> with_reducible rfl))
      try simp only [Act.put, List.setIfInBounds_toArray, List.set_cons_zero, List.set_cons_succ]
      refine wpAnyH_take (i := 15) (oi := { dst := some 44, op := Go.Op.move (Go.Operand.tmp 43), type := 4, pos := "ref.go:106", after := #[{ on := 14, ground := Go.Ground.data }, { on := 4, ground := Go.Ground.chain }], guard := none }) (v := ?_) rfl (by kernel_rfl) (by kernel_rfl) (by kernel_rfl) (fun _ _ _ h => h) (Or.inl ⟨by rfl, ?_⟩) (by assumption) ?_
      rotate_left
      · (intro w hSw; (try dsimp only at hSw); (go_simp <;> with_reducible rfl))
      try simp only [Act.put, List.setIfInBounds_toArray, List.set_cons_zero, List.set_cons_succ]
      refine wpAnyH_take (i := 16) (oi := { dst := some 45, op := Go.Op.load 24 (Go.Operand.tmp 3), type := 24, pos := "ref.go:106", after := #[{ on := 15, ground := Go.Ground.guard }], guard := some (15, true) }) (v := ?_) rfl (by kernel_rfl) (by kernel_rfl) (by kernel_rfl) (fun _ _ _ h => h) (Or.inl ⟨by rfl, ?_⟩) (by assumption) ?_
      rotate_left
      · (intro w hSw; (try dsimp only at hSw); (go_simp <;> with_reducible rfl))
      try simp only [Act.put, List.setIfInBounds_toArray, List.set_cons_zero, List.set_cons_succ]
      refine wpAnyH_take (i := 17) (oi := { dst := some 46, op := Go.Op.move (Go.Operand.tmp 2), type := 3, pos := "ref.go:106", after := #[{ on := 15, ground := Go.Ground.guard }], guard := some (15, true) }) (v := ?_) rfl (by kernel_rfl) (by kernel_rfl) (by kernel_rfl) (fun _ _ _ h => h) (Or.inl ⟨by rfl, ?_⟩) (by assumption) ?_
      rotate_left
      · (intro w hSw; (try dsimp only at hSw); (go_simp <;> with_reducible rfl))
      try simp only [Act.put, List.setIfInBounds_toArray, List.set_cons_zero, List.set_cons_succ]
      refine wpAnyH_take (i := 18) (oi := { dst := some 47, op := Go.Op.fieldAddr 24 (Go.Operand.tmp 3) 1, type := 0, pos := "ref.go:106", after := #[{ on := 15, ground := Go.Ground.guard }], guard := some (15, true) }) (v := ?_) rfl (by kernel_rfl) (by kernel_rfl) (by kernel_rfl) (fun _ _ _ h => h) (Or.inl ⟨by rfl, ?_⟩) (by assumption) ?_
      rotate_left
      · (intro w hSw; (try dsimp only at hSw); (go_simp <;> with_reducible rfl))
      try simp only [Act.put, List.setIfInBounds_toArray, List.set_cons_zero, List.set_cons_succ]
      refine wpAnyH_take (i := 19) (oi := { dst := some 48, op := Go.Op.load 3 (Go.Operand.tmp 47), type := 3, pos := "ref.go:106", after := #[{ on := 18, ground := Go.Ground.data }, { on := 15, ground := Go.Ground.guard }], guard := some (15, true) }) (v := ?_) rfl (by kernel_rfl) (by kernel_rfl) (by kernel_rfl) (fun _ _ _ h => h) (Or.inl ⟨by rfl, ?_⟩) (by assumption) ?_
      rotate_left
      · (intro w hSw; (try dsimp only at hSw); (go_simp <;> with_reducible rfl))
      try simp only [Act.put, List.setIfInBounds_toArray, List.set_cons_zero, List.set_cons_succ]
      refine wpAnyH_take (i := 20) (oi := { dst := some 49, op := Go.Op.binOp Go.BinOp.rem 3 (Go.Operand.tmp 46) (Go.Operand.tmp 48) 3, type := 3, pos := "ref.go:106", after := #[{ on := 17, ground := Go.Ground.data }, { on := 19, ground := Go.Ground.data }, { on := 15, ground := Go.Ground.guard }], guard := some (15, true) }) (v := ?_) rfl (by kernel_rfl) (by kernel_rfl) (by kernel_rfl) (fun _ _ _ h => h) (Or.inl ⟨by rfl, ?_⟩) (by assumption) ?_
      rotate_left
      · (intro w hSw; (try dsimp only at hSw); (go_simp <;> with_reducible rfl))
      try simp only [Act.put, List.setIfInBounds_toArray, List.set_cons_zero, List.set_cons_succ]
      refine wpAnyH_ready (rs := [21]) (by kernel_rfl) (by simp) ?_
      refine AllReadyH.cons (o := { dst := some 50, op := Go.Op.call { callee := Go.Callee.value (Go.Operand.func 36), args := #[Go.Operand.tmp 45, Go.Operand.tmp 49], argTypes := #[24, 3] }, type := 4, pos := "ref.go:106", after := #[{ on := 16, ground := Go.Ground.data }, { on := 20, ground := Go.Ground.data }, { on := 15, ground := Go.Ground.chain }, { on := 15, ground := Go.Ground.guard }], guard := some (15, true) }) rfl (fun K hK => ?_) ?_
      rotate_left
      · exact AllReadyH.nil
      go_simp
      refine (A.out _ (grown_trans G2.out (first_grown _ _ _))).mono ?_
      rintro e w3 ⟨rfl, hw3⟩
      have hk := And.intro (hw3.cell c0 (by simp)) (And.intro (hw3.cell c1 (by simp)) (hw3.cell c2 (by simp)))
      have G3 := hide (grown_trans (grown_trans G2.out (first_grown _ _ _)) hw3)
      clear hw3
      go_wp2_with fail
      refine hK.out _ _ ?_ (fun hHeld => ?_)
      · ((try dsimp only); exact hk)
      clear hK K
      try simp only [Act.put, List.setIfInBounds_toArray, List.set_cons_zero, List.set_cons_succ]
      refine wpAnyH_take (i := 22) (oi := { dst := some 51, op := Go.Op.unOp Go.UnOp.not 4 (Go.Operand.tmp 50), type := 4, pos := "ref.go:106", after := #[{ on := 21, ground := Go.Ground.data }, { on := 15, ground := Go.Ground.guard }], guard := some (15, true) }) (v := ?_) rfl (by kernel_rfl) (by kernel_rfl) (by kernel_rfl) (fun _ _ _ h => h) (Or.inl ⟨by rfl, ?_⟩) (by assumption) ?_
      rotate_left
      · (intro w hSw; (try dsimp only at hSw); (go_simp <;> with_reducible rfl))
      try simp only [Act.put, List.setIfInBounds_toArray, List.set_cons_zero, List.set_cons_succ]
      refine wpAnyH_take (i := 23) (oi := { dst := some 52, op := Go.Op.pick (Go.Operand.tmp 44) (Go.Operand.tmp 51) (Go.Operand.const (Go.Value.bool false)), type := 4, pos := "ref.go:106", after := #[{ on := 15, ground := Go.Ground.data }, { on := 22, ground := Go.Ground.data }], guard := none }) (v := ?_) rfl (by kernel_rfl) (by kernel_rfl) (by kernel_rfl) (fun _ _ _ h => h) (Or.inl ⟨by rfl, ?_⟩) (by assumption) ?_
      rotate_left
      · (intro w hSw; (try dsimp only at hSw); (go_simp <;> with_reducible rfl))
      try simp only [Act.put, List.setIfInBounds_toArray, List.set_cons_zero, List.set_cons_succ]
      refine wpAnyH_take (i := 24) (oi := { dst := some 6, op := Go.Op.assign (Go.Operand.tmp 52), type := 4, pos := "ref.go:106", after := #[{ on := 23, ground := Go.Ground.data }, { on := 21, ground := Go.Ground.chain }, { on := 0, ground := Go.Ground.phase }, { on := 1, ground := Go.Ground.phase }, { on := 2, ground := Go.Ground.phase }, { on := 3, ground := Go.Ground.phase }, { on := 4, ground := Go.Ground.phase }, { on := 5, ground := Go.Ground.phase }, { on := 6, ground := Go.Ground.phase }, { on := 7, ground := Go.Ground.phase }, { on := 8, ground := Go.Ground.phase }, { on := 9, ground := Go.Ground.phase }, { on := 10, ground := Go.Ground.phase }, { on := 11, ground := Go.Ground.phase }, { on := 12, ground := Go.Ground.phase }, { on := 13, ground := Go.Ground.phase }, { on := 14, ground := Go.Ground.phase }, { on := 15, ground := Go.Ground.phase }, { on := 16, ground := Go.Ground.phase }, { on := 17, ground := Go.Ground.phase }, { on := 18, ground := Go.Ground.phase }, { on := 19, ground := Go.Ground.phase }, { on := 20, ground := Go.Ground.phase }, { on := 21, ground := Go.Ground.phase }, { on := 22, ground := Go.Ground.phase }, { on := 23, ground := Go.Ground.phase }], guard := none }) (v := ?_) rfl (by kernel_rfl) (by kernel_rfl) (by kernel_rfl) (fun _ _ _ h => h) (Or.inl ⟨by rfl, ?_⟩) (by assumption) ?_
      rotate_left
      · (intro w hSw; (try dsimp only at hSw); (go_simp <;> with_reducible rfl))
      try simp only [Act.put, List.setIfInBounds_toArray, List.set_cons_zero, List.set_cons_succ]
      refine wpAnyH_take (i := 25) (oi := { dst := some 7, op := Go.Op.assign (Go.Operand.const (Go.Value.int Go.IntKind.i64 0)), type := 27, pos := "ref.go:106", after := #[{ on := 24, ground := Go.Ground.chain }, { on := 0, ground := Go.Ground.phase }, { on := 1, ground := Go.Ground.phase }, { on := 2, ground := Go.Ground.phase }, { on := 3, ground := Go.Ground.phase }, { on := 4, ground := Go.Ground.phase }, { on := 5, ground := Go.Ground.phase }, { on := 6, ground := Go.Ground.phase }, { on := 7, ground := Go.Ground.phase }, { on := 8, ground := Go.Ground.phase }, { on := 9, ground := Go.Ground.phase }, { on := 10, ground := Go.Ground.phase }, { on := 11, ground := Go.Ground.phase }, { on := 12, ground := Go.Ground.phase }, { on := 13, ground := Go.Ground.phase }, { on := 14, ground := Go.Ground.phase }, { on := 15, ground := Go.Ground.phase }, { on := 16, ground := Go.Ground.phase }, { on := 17, ground := Go.Ground.phase }, { on := 18, ground := Go.Ground.phase }, { on := 19, ground := Go.Ground.phase }, { on := 20, ground := Go.Ground.phase }, { on := 21, ground := Go.Ground.phase }, { on := 22, ground := Go.Ground.phase }, { on := 23, ground := Go.Ground.phase }, { on := 24, ground := Go.Ground.phase }], guard := none }) (v := ?_) rfl (by kernel_rfl) (by kernel_rfl) (by kernel_rfl) (fun _ _ _ h => h) (Or.inl ⟨by rfl, ?_⟩) (by assumption) ?_
      rotate_left
      · (intro w hSw; (try dsimp only at hSw); (go_simp <;> with_reducible rfl))
      try simp only [Act.put, List.setIfInBounds_toArray, List.set_cons_zero, List.set_cons_succ]
      refine wpAnyH_done (by kernel_rfl) ?_ _
      all_goals go_wp2
      all_goals go_ret2
      all_goals exact ⟨by rw [HV.out]; rfl, G3.out⟩
    · have b2 : ((r1 : Int) == (r2 : Int)) = false := by simp; omega
      have hv : z = false := by
        rw [hbl]
        have : (r1 == r2) = false := by simpa using h3
        rw [this]; simp
      have HV := hide hv
      clear hv hbl h2 h3
      go_enter Tryd.func26, Tryd.ntmps26
      go_wp2_with fail
      refine (C.out _ (grown_alloc w _)).mono ?_
      rintro e w1 ⟨rfl, hg1⟩
      have hb1 := box_kept hg1
      have G1 := hide (And.intro (grown_trans (grown_alloc w _) hg1) hb1)
      obtain ⟨c0, c1, c2⟩ := box3 hb1
      clear hg1 hb1
      go_wp2_with fail
      refine (D.out _ G1.out.1).mono ?_
      rintro e w2 ⟨rfl, hg2⟩
      have G2 := hide (grown_trans G1.out.1 hg2)
      clear c0 c1 c2
      obtain ⟨c0, c1, c2⟩ := box3 (heap_kept G1.out.2 hg2 (by simp))
      clear hg2
      go_wp2
      go_quiet (fail)
      go_wp2
      go_ret2
      exact ⟨by rw [HV.out]; rfl, grown_trans G2.out (grown_drewN _ _ _)⟩
  · have b1 : ((t : Int) == (s : Int) + 1) = false := by simp; omega
    have hv : z = false := by
      rw [hbl]
      have : (t == s + 1) = false := by simpa using h2
      rw [this]; rfl
    have HV := hide hv
    clear hv hbl h2
    go_enter Tryd.func26, Tryd.ntmps26
    go_wp2_with fail
    refine (C.out _ (grown_alloc w _)).mono ?_
    rintro e w1 ⟨rfl, hg1⟩
    have hb1 := box_kept hg1
    have G1 := hide (And.intro (grown_trans (grown_alloc w _) hg1) hb1)
    obtain ⟨c0, c1, c2⟩ := box3 hb1
    clear hg1 hb1
    go_wp2_with fail
    refine (D.out _ G1.out.1).mono ?_
    rintro e w2 ⟨rfl, hg2⟩
    have G2 := hide (grown_trans G1.out.1 hg2)
    clear hg2
    go_wp2
    go_quiet (fail)
    go_wp2
    go_ret2
    exact ⟨by rw [HV.out]; rfl, grown_trans G2.out (grown_drewN _ _ _)⟩
theorem bes_comm (W : Nat) (L : List Int) (s t : Nat) : bes W L s t = bes W L t s := by
  unfold bes
  rw [Nat.max_comm, Nat.min_comm]
set_option maxHeartbeats 1000000 in
theorem dbeside_ok (R : Int) (W : Nat) (ao : Option Addr) (n cap : Nat) (L : List Int) (s t : Nat) (w : World) (hc : CbIn w ao n cap L) (ho : Ok R W L) (hs : (s : Int) < R * W) (ht : (t : Int) < R * W) :
    Calls Tryd.prog 26 #[cbV R W (.slice ao n cap), .int .i64 s, .int .i64 t] w fun e w' => e = .returned (.tuple #[.bool (bes W L s t), .int .i64 0]) ∧ w.grownBy w' none := by
  by_cases hst : s ≤ t
  · exact dbeside_le R W ao n cap L s t w hc ho hs ht hst
  · have hz : wrg R W L [(s : Int)] = 0 := wrg_ok ho (by intro y hy; simp at hy; subst hy; omega)
    have hz2 : wrg R W L [(t : Int)] = 0 := wrg_ok ho (by intro y hy; simp at hy; subst hy; omega)
    have C := hide (fun w' (hg : w.grownBy w' none) => wrong_any R W ao n cap L s w' (hc.grown hg))
    have D := hide (fun w' (hg : w.grownBy w' none) => wrong_any R W ao n cap L t w' (hc.grown hg))
    rw [hz] at C
    rw [hz2] at D
    have E := hide (fun w' (hg : w.grownBy w' none) => dbeside_le R W ao n cap L t s w' (hc.grown hg) ho ht hs (by omega))
    rw [bes_comm] at E
    generalize bes W L s t = z at *
    have hst2 : (t : Int) < (s : Int) := by omega
    clear hz hz2 hc ho hs ht hst
    unfold cbV at *
    go_enter Tryd.func26, Tryd.ntmps26
    go_wp2_with fail
    refine (C.out _ (grown_alloc w _)).mono ?_
    rintro e w1 ⟨rfl, hg1⟩
    have hb1 := box_kept hg1
    have G1 := hide (And.intro (grown_trans (grown_alloc w _) hg1) hb1)
    obtain ⟨c0, c1, c2⟩ := box3 hb1
    clear hg1 hb1
    go_wp2_with fail
    refine (D.out _ G1.out.1).mono ?_
    rintro e w2 ⟨rfl, hg2⟩
    have G2 := hide (grown_trans G1.out.1 hg2)
    clear c0 c1 c2
    obtain ⟨c0, c1, c2⟩ := box3 (heap_kept G1.out.2 hg2 (by simp))
    clear hg2
    go_wp2_with fail
    refine (E.out _ G2.out).mono ?_
    rintro e w3 ⟨rfl, hg3⟩
    have G3 := hide (grown_trans G2.out hg3)
    clear hg3
    go_wp2
    go_ret2
    exact ⟨rfl, G3.out⟩
end Go.Proofs.YtomoclicbjkpoaaDoor
