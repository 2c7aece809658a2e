/- DiskPlays answers true: disks that are there. -/
import Derived.Test.YtgcfjphjekkkmaaPlays0
namespace Go.Proofs.Ytgcfjphjekkkmaa
open Go.RowKit Ap
attribute [local go_sem ↓] Go.wp_at_zero Go.wp_at_succ

theorem small_yes (s z : Int) (w : World) (h1 : s ≤ 64) (h2 : z ≤ 512) : Calls Try.prog 11 #[.int .i64 s, .int .i64 z] w fun e w' => e = .returned (.bool true) ∧ w' = w := by
  go_enter Try.func11, Try.ntmps11
  go_wp2
  go_ret
  exact ⟨rfl, rfl⟩
theorem small_no (s z : Int) (w : World) (h : ¬ (s ≤ 64 ∧ z ≤ 512)) : Calls Try.prog 11 #[.int .i64 s, .int .i64 z] w fun e w' => e = .returned (.bool false) ∧ w' = w := by
  by_cases h1 : s ≤ 64
  · have h2 : ¬ z ≤ 512 := fun e => h ⟨h1, e⟩
    go_enter Try.func11, Try.ntmps11
    go_wp2
    go_ret
    exact ⟨rfl, rfl⟩
  · go_enter Try.func11, Try.ntmps11
    go_wp2
    go_ret
    exact ⟨rfl, rfl⟩
section
variable {w0 w : World} {n size : Nat} {p : Pr2} {d r : Nat}
theorem pair_image (hd : p.k.d = d) (h : Pair w0 w n size p) : Calls Try.prog 19 #[.pointer (some ⟨d, 0, none⟩)] w fun e w' => ∃ io ic, e = .returned (.slice io n ic) ∧ RowsAt w' io (secs n size p.D) ∧ w.grownBy w' none := by
  subst hd
  refine (image_any h.z.d.disk).mono ?_
  rintro e w' ⟨hs, rfl, c1, c2⟩
  exact ⟨_, _, rfl, c1.rowsAt h.z.d.disk.shape.s1, c2⟩
theorem pair_rimage (hr : p.q.r = r) (h : Pair w0 w n size p) : Calls Try.prog 20 #[.pointer (some ⟨r, 0, none⟩)] w fun e w' => ∃ io ic, e = .returned (.slice io n ic) ∧ RowsAt w' io (secs n size p.D) ∧ w.grownBy w' none := by
  have HR := h.z.r
  refine (rimage_row HR.rows HR.len.symm (by rw [← hr]; exact HR.c0) HR.shape.n1 (fun b hb => by rw [HR.sz b hb]; have := HR.shape.s0; have := HR.shape.s1; omega)).mono ?_
  rintro e w2 ⟨ao, cap, S', rfl, i1, i2, i3⟩
  have hl' : S'.length = n := by have := congrArg List.length i2; simp only [List.length_map] at this; rw [this]; exact HR.len
  obtain ⟨ao2, cap2, e2, hat⟩ := i1.rowsAt hl' (fun b hb => by
    have hm : b.xs ∈ p.q.S.map Bx.xs := by rw [← i2]; exact List.mem_map_of_mem hb
    obtain ⟨b', hb', e⟩ := List.mem_map.1 hm
    rw [← e, HR.sz b' hb']
    have := HR.shape.s1; omega)
  cases e2
  rw [i2, ← h.same.rows] at hat
  exact ⟨_, _, rfl, hat, i3⟩
end
/-- There are two such pairs, of which few writes wait. -/
def PSx (w0 w : World) (X Y n size j : Nat) : Prop := ∃ a b, PS w0 w X Y n size 0 1 a b ∧ a.W.length ≤ j ∧ b.W.length ≤ j
theorem psx_of {w0 w : World} {X Y n size j k k' : Nat} {a b : Pr2} (h : PS w0 w X Y n size k k' a b) (ha : a.W.length ≤ j) (hb : b.W.length ≤ j) : PSx w0 w X Y n size j := by
  have hk := h.rows.kk
  by_cases h0 : k = 0
  · obtain rfl : k' = 1 := by omega
    subst h0
    exact ⟨a, b, h, ha, hb⟩
  · obtain rfl : k = 1 := by omega
    obtain rfl : k' = 0 := by omega
    exact ⟨b, a, h.swap, hb, ha⟩
theorem psx_at {w0 w : World} {X Y n size j : Nat} (h : PSx w0 w X Y n size j) (x : Int) : ∃ (k k' : Nat) (a b : Pr2), x % ((2 : Nat) : Int) = (k : Int) ∧ k + k' = 1 ∧ PS w0 w X Y n size k k' a b ∧ a.W.length ≤ j ∧ b.W.length ≤ j := by
  obtain ⟨a, b, hp, ha, hb⟩ := h
  have : x % 2 = 0 ∨ x % 2 = 1 := by omega
  rcases this with e | e
  · exact ⟨0, 1, a, b, e, rfl, hp, ha, hb⟩
  · exact ⟨1, 0, b, a, e, rfl, hp.swap, hb, ha⟩

theorem ps_cells {w0 w : World} {X Y n size : Nat} {a b : Pr2} (h : PS w0 w X Y n size 0 1 a b) : w.cell? ⟨X, 0, none⟩ = some (.pointer (some ⟨a.k.d, 0, none⟩)) ∧ w.cell? ⟨X, 1, none⟩ = some (.pointer (some ⟨b.k.d, 0, none⟩)) ∧ w.cell? ⟨Y, 0, none⟩ = some (.pointer (some ⟨a.q.r, 0, none⟩)) ∧ w.cell? ⟨Y, 1, none⟩ = some (.pointer (some ⟨b.q.r, 0, none⟩)) := ⟨h.rows.xk, h.rows.xk', h.rows.yk, h.rows.yk'⟩
/-- What both stores of an exchange find. -/
theorem swap_pre {w0 w : World} {X Y n size k k' : Nat} {a b : Pr2} (h : PS w0 w X Y n size k k' a b) (u v : Value) :
    w.frozen? ⟨X, k', none⟩ = false ∧ w.cell? ⟨X, k', none⟩ = some (ptr b.k.d) ∧ (w.setCell ⟨X, k', none⟩ u).cell? ⟨X, k, none⟩ = some (ptr a.k.d) ∧ (w.setCell ⟨X, k', none⟩ u).cell? ⟨Y, k, none⟩ = some (ptr a.q.r) ∧
    (w.setCell ⟨X, k', none⟩ u).frozen? ⟨Y, k', none⟩ = false ∧ (w.setCell ⟨X, k', none⟩ u).cell? ⟨Y, k', none⟩ = some (ptr b.q.r) ∧
    ((w.setCell ⟨X, k', none⟩ u).setCell ⟨Y, k', none⟩ v).cell? ⟨X, k, none⟩ = some (ptr a.k.d) ∧ ((w.setCell ⟨X, k', none⟩ u).setCell ⟨Y, k', none⟩ v).cell? ⟨Y, k, none⟩ = some (ptr a.q.r) := by
  obtain ⟨cx, h1, hcx⟩ := h.rows.hx
  obtain ⟨cy, h3, hcy⟩ := h.rows.hy
  have hXY : X ≠ Y := by
    intro e
    rw [e, h3] at h1
    simp at h1
  have hkk := h.rows.kk
  have hY1 := (Below.heap_setCell w ⟨X, k', none⟩ u Y (fun e => hXY e.symm)).trans h3
  have e1 : (w.setCell ⟨X, k', none⟩ u).cell? ⟨X, k, none⟩ = some (ptr a.k.d) := (World.cell?_setCell_other _ _ _ _ (by simp <;> omega)).trans h.rows.xk
  have e2 : (w.setCell ⟨X, k', none⟩ u).cell? ⟨Y, k, none⟩ = some (ptr a.q.r) := (World.cell?_setCell_other _ _ _ _ (by simp)).trans h.rows.yk
  refine ⟨free_row h1 k', h.rows.xk', e1, e2, free_row hY1 k', (World.cell?_setCell_other _ _ _ _ (by simp)).trans h.rows.yk', ?_, ?_⟩
  · exact (World.cell?_setCell_other _ _ _ _ (by simp)).trans e1
  · exact (World.cell?_setCell_other _ _ _ _ (by simp <;> omega)).trans e2
set_option maxRecDepth 100000 in
set_option maxHeartbeats 8000000 in
theorem plays_ok (n size : Nat) (hmay : mayB (n : Int) (size : Int) = true) (hn : n ≤ 64) (hsz : size ≤ 512) (ao : Option Addr) (m cap : Nat) (os : List OpD) (w : World) (hm : os.length = m) (hm2 : m ≤ 140737488355328) (ho : OpsAt w ao os) :
    Calls Try.prog 3 #[.int .i64 (n : Int), .int .i64 (size : Int), .slice ao m cap] w fun e w' => e = .returned (.bool true) ∧ w.grownBy w' none := by
  have HO := hide (And.intro hm ho)
  have HMR := hide (mayR_any n size)
  rw [hmay] at HMR
  have HM := hide hmay
  have i1 : (n : Int) ≤ 64 := by omega
  have i2 : (size : Int) ≤ 512 := by omega
  clear hm ho hmay
  go_enter Try.func3, Try.ntmps3
  go_wp2_with fail
  refine (awake_any w).mono ?_
  rintro e w1 ⟨rfl, g1⟩
  have G1 := hide g1
  clear g1
  go_wp2_with fail
  refine (HMR.out _).mono ?_
  rintro e w1' ⟨rfl, rfl⟩
  go_wp2_with fail
  refine (small_yes _ _ _ i1 i2).mono ?_
  rintro e w1'' ⟨rfl, rfl⟩
  rename World => w1
  go_wp2_with fail
  refine (newS n size w _ G1.out HM.out).mono ?_
  rintro e w2 ⟨ka, rfl, a1, a2, a3⟩
  have G2 := hide (And.intro a1 (And.intro a2 a3))
  clear a1 a2 a3
  go_wp2_with fail
  refine (newS n size w w2 G2.out.1.grown HM.out).mono ?_
  rintro e w3 ⟨kb, rfl, a1, a2, a3⟩
  have G3 := hide (And.intro a1 (And.intro a2 a3))
  clear a1 a2 a3
  go_wp2_with fail
  refine (rnew_any n size w3 HM.out).mono ?_
  rintro e w4 ⟨qa, rfl, a1, a2, a3, a4⟩
  have G4 := hide (And.intro a1 (And.intro a2 (And.intro a3 a4)))
  clear a1 a2 a3 a4
  go_wp2_with fail
  refine (rnew_any n size w4 HM.out).mono ?_
  rintro e w5 ⟨qb, rfl, a1, a2, a3, a4⟩
  have G5 := hide (And.intro a1 (And.intro a2 (And.intro a3 a4)))
  clear a1 a2 a3 a4
  have HT := hide (two_new G1.out G2.out.1 G2.out.2.1 G2.out.2.2 G3.out.1 G3.out.2.1 G3.out.2.2 G4.out.1 G4.out.2.1 G4.out.2.2.1 G4.out.2.2.2 G5.out.1 G5.out.2.1 G5.out.2.2.1 G5.out.2.2.2)
  clear G1 G2 G3 G4 G5 HM HMR
  obtain ⟨X, hX⟩ : ∃ X, X = w5.heap.size := ⟨_, rfl⟩
  have HX := hide hX
  clear hX
  have HPX : Hid (PSx w ((w5.alloc (.cells #[.pointer (some ⟨ka.d, 0, none⟩), .pointer (some ⟨kb.d, 0, none⟩)] 25)).alloc (.cells #[.pointer (some ⟨qa.r, 0, none⟩), .pointer (some ⟨qb.r, 0, none⟩)] 29)) X (X + 1) n size 0) := by
    have h1 := heap_alloc_new w5 (.cells #[.pointer (some ⟨ka.d, 0, none⟩), .pointer (some ⟨kb.d, 0, none⟩)] 25)
    have h2 := heap_alloc_new (w5.alloc (.cells #[.pointer (some ⟨ka.d, 0, none⟩), .pointer (some ⟨kb.d, 0, none⟩)] 25)) (.cells #[.pointer (some ⟨qa.r, 0, none⟩), .pointer (some ⟨qb.r, 0, none⟩)] 29)
    rw [World.size_alloc, ← HX.out] at h2
    rw [← HX.out] at h1
    have g2 := World.grownBy_alloc (w5.alloc (.cells #[.pointer (some ⟨ka.d, 0, none⟩), .pointer (some ⟨kb.d, 0, none⟩)] 25)) (.cells #[.pointer (some ⟨qa.r, 0, none⟩), .pointer (some ⟨qb.r, 0, none⟩)] 29) none
    have h1' := (g2.block X (row_lt h1) (by simp)).trans h1
    have hl := HT.out.pa.z.d.grown.size
    refine ⟨_, _, ⟨⟨rfl, ⟨_, h1', rfl⟩, ⟨_, h2, rfl⟩, ?_, ?_, ?_, ?_⟩, (HT.out.grown (World.grownBy_alloc _ _ _)).grown g2, by rw [HX.out]; exact hl, by rw [HX.out]; omega⟩, by simp, by simp⟩
    · exact cell_row (l := [.pointer (some ⟨ka.d, 0, none⟩), .pointer (some ⟨kb.d, 0, none⟩)]) h1' 0
    · exact cell_row (l := [.pointer (some ⟨ka.d, 0, none⟩), .pointer (some ⟨kb.d, 0, none⟩)]) h1' 1
    · exact cell_row (l := [.pointer (some ⟨qa.r, 0, none⟩), .pointer (some ⟨qb.r, 0, none⟩)]) h2 0
    · exact cell_row (l := [.pointer (some ⟨qa.r, 0, none⟩), .pointer (some ⟨qb.r, 0, none⟩)]) h2 1
  go_wp2
  rw [← HX.out]
  obtain ⟨T, hT⟩ : ∃ T, T = min m 200 := ⟨_, rfl⟩
  go_loopg [17] T (fun gq i wr => ∃ j : Nat, gq + j = T ∧ i = .int .i64 j ∧ Hid (PSx w wr X (X + 1) n size j))
  case atStart => exact ⟨0, by omega, rfl, HPX⟩
  case round =>
    clear HPX HT HX
    generalize X + 1 = Y at *
    obtain ⟨j, hkj, rfl, HS⟩ := hrel
    by_cases hk : 0 < gk
    · have hjm : j < m := by omega
      have hj2 : j < 200 := by omega
      have z1 : (j : Int) < (m : Int) := by omega
      have z2 : (j : Int) < 200 := by omega
      have z0 : (0 : Int) ≤ (j : Int) := by omega
      have hx : os[j]? = some (os[j]'(by have := HO.out.1; omega)) := List.getElem?_eq_getElem _
      generalize os[j]'(by have := HO.out.1; omega) = o at *
      obtain ⟨blk, off, fo, fcap, rfl, hop⟩ := HO.out.2 j o hx
      obtain ⟨k, k', a, b, hmod, hkk, hP, hla, hlb⟩ := psx_at HS.out o.d1
      have HPk : Hid (∀ w, Calls Try.prog 14 #[.int .i64 o.d1, .int .i64 2] w fun e w' => e = .returned (.int .i64 (k : Int)) ∧ w' = w) := fun w => by have := pick_any o.d1 2 2 w rfl (by omega) (by omega); rw [hmod] at this; exact this
      have gw := hP.two.pa.z.d.grown
      have hopr := hop.grown gw
      have c0 := hopr.c0
      have c1 := hopr.c1
      have c2 := hopr.c2
      have c3 := hopr.c3
      have c4 := hopr.c4
      have c5 := hopr.c5
      have xk := hP.rows.xk
      have yk := hP.rows.yk
      unfold ptr at xk yk
      obtain ⟨da, hda⟩ : ∃ d, a.k.d = d := ⟨_, rfl⟩
      obtain ⟨ra, hra⟩ : ∃ d, a.q.r = d := ⟨_, rfl⟩
      rw [hda] at xk
      rw [hra] at yk
      have k0 : (0 : Int) ≤ (k : Int) := by omega
      have k1 : (k : Int) < 2 := by omega
      have HA := hide (And.intro hP (And.intro hla (And.intro hlb (And.intro hop (And.intro hda hra)))))
      clear hP hla hlb hop hopr gw hmod hx hda hra HS
      go_wp2_with fail
      refine (HPk.out _).mono ?_
      rintro e wx ⟨rfl, rfl⟩
      go_wp2_with fail
      go_region_held3 (fun w' => w'.cell? ⟨X, k, none⟩ = some (.pointer (some ⟨da, 0, none⟩)) ∧ w'.cell? ⟨Y, k, none⟩ = some (.pointer (some ⟨ra, 0, none⟩)) ∧ w'.cell? ⟨blk, off + j * 6, none⟩ = some (.int .i64 o.d0) ∧ w'.cell? ⟨blk, off + j * 6 + 1, none⟩ = some (.int .i64 o.d1) ∧ w'.cell? ⟨blk, off + j * 6 + 2, none⟩ = some (.int .i64 o.d2) ∧ w'.cell? ⟨blk, off + j * 6 + 3, none⟩ = some (.int .i64 o.d3) ∧ w'.cell? ⟨blk, off + j * 6 + 4, none⟩ = some (.int .i64 o.d4) ∧ w'.cell? ⟨blk, off + j * 6 + 5, none⟩ = some (.slice fo o.F.length fcap)) (first | exact ⟨xk, yk, c0, c1, c2, c3, c4, c5⟩ | exact SA)
        ((go_at_call 15; refine (one_any HA.out.2.2.2.2.1 HA.out.2.2.2.2.2 (HA.out.1.grown (grown_drew _ none)).two.pa (by have := HA.out.2.1; omega) o fo fcap HA.out.2.2.2.1.fin).mono ?_; rintro e wA ⟨rfl, a', hw, hs, hl⟩; have PA := (HA.out.1.grown (grown_drew _ none)).told hw hs; have opA := HA.out.2.2.2.1.grown PA.two.pa.z.d.grown; have SA : wA.cell? ⟨X, k, none⟩ = some (.pointer (some ⟨da, 0, none⟩)) ∧ wA.cell? ⟨Y, k, none⟩ = some (.pointer (some ⟨ra, 0, none⟩)) ∧ wA.cell? ⟨blk, off + j * 6, none⟩ = some (.int .i64 o.d0) ∧ wA.cell? ⟨blk, off + j * 6 + 1, none⟩ = some (.int .i64 o.d1) ∧ wA.cell? ⟨blk, off + j * 6 + 2, none⟩ = some (.int .i64 o.d2) ∧ wA.cell? ⟨blk, off + j * 6 + 3, none⟩ = some (.int .i64 o.d3) ∧ wA.cell? ⟨blk, off + j * 6 + 4, none⟩ = some (.int .i64 o.d4) ∧ wA.cell? ⟨blk, off + j * 6 + 5, none⟩ = some (.slice fo o.F.length fcap) := ⟨by have := PA.rows.xk; rw [hw.mv.kd, HA.out.2.2.2.2.1] at this; exact this, by have := PA.rows.yk; rw [hw.mv.qr, HA.out.2.2.2.2.2] at this; exact this, opA.c0, opA.c1, opA.c2, opA.c3, opA.c4, opA.c5⟩; have HPA := hide (And.intro PA (And.intro hl (And.intro hw.mv.kd hw.mv.qr))); clear hw hs hl PA opA))
      obtain ⟨xA, yA, e0, -, -, -, -, -⟩ := SA
      obtain ⟨v, hv⟩ : ∃ v, o.d0 % ((7 : Nat) : Int) = v := ⟨_, rfl⟩
      have HP7 : Hid (∀ w, Calls Try.prog 14 #[.int .i64 o.d0, .int .i64 7] w fun e w' => e = .returned (.int .i64 v) ∧ w' = w) := fun w => by have := pick_any o.d0 7 7 w rfl (by omega) (by omega); rw [hv] at this; exact this
      clear hv c0 c1 c2 c3 c4 c5 xk yk
      by_cases h6 : v = 6
      · subst h6
        go_wp2_with fail
        refine (HP7.out _).mono ?_
        rintro e wy ⟨rfl, rfl⟩
        have HC := hide (copy_any (HPA.out.1.grown (grown_drew _ none)).two.pa.z.d.disk)
        rw [HPA.out.2.2.1, HA.out.2.2.2.2.1] at HC
        have hc : (k = 0 ∧ k' = 1) ∨ (k = 1 ∧ k' = 0) := by omega
        clear k0 k1 hkk
        have wr1 : IntKind.i64.wrap 1 = 1 := by rw [IntKind.wrap_i64]; omega
        have wr0 : IntKind.i64.wrap 0 = 0 := by rw [IntKind.wrap_i64]; omega
        rcases hc with ⟨rfl, rfl⟩ | ⟨rfl, rfl⟩
        · rw [show ((0 : Nat) : Int) = 0 from rfl]
          go_wp2_with fail
          refine wp_region_held_drew (S := fun w' => w'.cell? ⟨X, 0, none⟩ = some (.pointer (some ⟨da, 0, none⟩)) ∧ w'.cell? ⟨Y, 0, none⟩ = some (.pointer (some ⟨ra, 0, none⟩))) (by kernel_rfl) ?_ (fun hHeld => ?_)
          · (exact ⟨xA, yA⟩)
          refine wpAnyH_take (i := 0) (oi := { dst := some 123, op := Go.Op.move (Go.Operand.tmp 15), type := 32, pos := "law.go:112", after := #[], guard := none }) (v := ?_) rfl (by kernel_rfl) (by kernel_rfl) (by kernel_rfl) (fun _ _ _ h => h) (Or.inl ⟨by rfl, ?_⟩) (by assumption) ?_
          rotate_left
          · (intro w hSw; (try dsimp only at hSw); (go_simp <;> with_reducible rfl))
          try simp only [Act.put, List.setIfInBounds_toArray, List.set_cons_zero, List.set_cons_succ]
          refine wpAnyH_take (i := 1) (oi := { dst := some 124, op := Go.Op.move (Go.Operand.tmp 18), type := 3, pos := "law.go:112", after := #[], guard := none }) (v := ?_) rfl (by kernel_rfl) (by kernel_rfl) (by kernel_rfl) (fun _ _ _ h => h) (Or.inl ⟨by rfl, ?_⟩) (by assumption) ?_
          rotate_left
          · (intro w hSw; (try dsimp only at hSw); (go_simp <;> with_reducible rfl))
          try simp only [Act.put, List.setIfInBounds_toArray, List.set_cons_zero, List.set_cons_succ]
          refine wpAnyH_take (i := 2) (oi := { dst := some 125, op := Go.Op.binOp Go.BinOp.sub 3 (Go.Operand.const (Go.Value.int Go.IntKind.i64 1)) (Go.Operand.tmp 124) 3, type := 3, pos := "law.go:112", after := #[{ on := 1, ground := Go.Ground.data }], guard := none }) (v := ?_) rfl (by kernel_rfl) (by kernel_rfl) (by kernel_rfl) (fun _ _ _ h => h) (Or.inl ⟨by rfl, ?_⟩) (by assumption) ?_
          rotate_left
          · (intro w hSw; (try dsimp only at hSw); (go_simp <;> with_reducible rfl))
          try simp only [Act.put, List.setIfInBounds_toArray, List.set_cons_zero, List.set_cons_succ]
          refine wpAnyH_take (i := 3) (oi := { dst := some 126, op := Go.Op.move (Go.Operand.tmp 16), type := 33, pos := "law.go:112", after := #[{ on := 17, ground := Go.Ground.gcOnly Go.Departure.lateStores }], guard := none }) (v := ?_) rfl (by kernel_rfl) (by kernel_rfl) (by kernel_rfl) (fun _ _ _ h => h) (Or.inl ⟨by rfl, ?_⟩) (by assumption) ?_
          rotate_left
          · (intro w hSw; (try dsimp only at hSw); (go_simp <;> with_reducible rfl))
          try simp only [Act.put, List.setIfInBounds_toArray, List.set_cons_zero, List.set_cons_succ]
          refine wpAnyH_take (i := 4) (oi := { dst := some 127, op := Go.Op.move (Go.Operand.tmp 18), type := 3, pos := "law.go:112", after := #[{ on := 17, ground := Go.Ground.gcOnly Go.Departure.lateStores }], guard := none }) (v := ?_) rfl (by kernel_rfl) (by kernel_rfl) (by kernel_rfl) (fun _ _ _ h => h) (Or.inl ⟨by rfl, ?_⟩) (by assumption) ?_
          rotate_left
          · (intro w hSw; (try dsimp only at hSw); (go_simp <;> with_reducible rfl))
          try simp only [Act.put, List.setIfInBounds_toArray, List.set_cons_zero, List.set_cons_succ]
          refine wpAnyH_take (i := 5) (oi := { dst := some 128, op := Go.Op.binOp Go.BinOp.sub 3 (Go.Operand.const (Go.Value.int Go.IntKind.i64 1)) (Go.Operand.tmp 127) 3, type := 3, pos := "law.go:112", after := #[{ on := 4, ground := Go.Ground.data }, { on := 17, ground := Go.Ground.gcOnly Go.Departure.lateStores }], guard := none }) (v := ?_) rfl (by kernel_rfl) (by kernel_rfl) (by kernel_rfl) (fun _ _ _ h => h) (Or.inl ⟨by rfl, ?_⟩) (by assumption) ?_
          rotate_left
          · (intro w hSw; (try dsimp only at hSw); (go_simp <;> with_reducible rfl))
          try simp only [Act.put, List.setIfInBounds_toArray, List.set_cons_zero, List.set_cons_succ]
          refine wpAnyH_take (i := 6) (oi := { dst := some 129, op := Go.Op.move (Go.Operand.tmp 15), type := 32, pos := "law.go:112", after := #[], guard := none }) (v := ?_) rfl (by kernel_rfl) (by kernel_rfl) (by kernel_rfl) (fun _ _ _ h => h) (Or.inl ⟨by rfl, ?_⟩) (by assumption) ?_
          rotate_left
          · (intro w hSw; (try dsimp only at hSw); (go_simp <;> with_reducible rfl))
          try simp only [Act.put, List.setIfInBounds_toArray, List.set_cons_zero, List.set_cons_succ]
          refine wpAnyH_take (i := 7) (oi := { dst := some 130, op := Go.Op.move (Go.Operand.tmp 18), type := 3, pos := "law.go:112", after := #[], guard := none }) (v := ?_) rfl (by kernel_rfl) (by kernel_rfl) (by kernel_rfl) (fun _ _ _ h => h) (Or.inl ⟨by rfl, ?_⟩) (by assumption) ?_
          rotate_left
          · (intro w hSw; (try dsimp only at hSw); (go_simp <;> with_reducible rfl))
          try simp only [Act.put, List.setIfInBounds_toArray, List.set_cons_zero, List.set_cons_succ]
          refine wpAnyH_take (i := 8) (oi := { dst := some 131, op := Go.Op.indexAddr 32 (Go.Operand.tmp 129) (Go.Operand.tmp 130), type := 0, pos := "law.go:112", after := #[{ on := 6, ground := Go.Ground.data }, { on := 7, ground := Go.Ground.data }], guard := none }) (v := ?_) rfl (by kernel_rfl) (by kernel_rfl) (by kernel_rfl) (fun _ _ _ h => h) (Or.inl ⟨by rfl, ?_⟩) (by assumption) ?_
          rotate_left
          · (intro w hSw; (try dsimp only at hSw); (go_simp <;> with_reducible rfl))
          try simp only [Act.put, List.setIfInBounds_toArray, List.set_cons_zero, List.set_cons_succ]
          refine wpAnyH_take (i := 9) (oi := { dst := some 132, op := Go.Op.load 25 (Go.Operand.tmp 131), type := 25, pos := "law.go:112", after := #[{ on := 8, ground := Go.Ground.data }], guard := none }) (v := ?_) rfl (by kernel_rfl) (by kernel_rfl) (by kernel_rfl) (fun _ _ _ h => h) (Or.inl ⟨by rfl, ?_⟩) (by assumption) ?_
          rotate_left
          · (intro w hSw; (try dsimp only at hSw); (go_simp <;> with_reducible rfl))
          try simp only [Act.put, List.setIfInBounds_toArray, List.set_cons_zero, List.set_cons_succ]
          refine wpAnyH_take (i := 11) (oi := { dst := some 134, op := Go.Op.move (Go.Operand.tmp 16), type := 33, pos := "law.go:112", after := #[], guard := none }) (v := ?_) rfl (by kernel_rfl) (by kernel_rfl) (by kernel_rfl) (fun _ _ _ h => h) (Or.inl ⟨by rfl, ?_⟩) (by assumption) ?_
          rotate_left
          · (intro w hSw; (try dsimp only at hSw); (go_simp <;> with_reducible rfl))
          try simp only [Act.put, List.setIfInBounds_toArray, List.set_cons_zero, List.set_cons_succ]
          refine wpAnyH_take (i := 12) (oi := { dst := some 135, op := Go.Op.move (Go.Operand.tmp 18), type := 3, pos := "law.go:112", after := #[], guard := none }) (v := ?_) rfl (by kernel_rfl) (by kernel_rfl) (by kernel_rfl) (fun _ _ _ h => h) (Or.inl ⟨by rfl, ?_⟩) (by assumption) ?_
          rotate_left
          · (intro w hSw; (try dsimp only at hSw); (go_simp <;> with_reducible rfl))
          try simp only [Act.put, List.setIfInBounds_toArray, List.set_cons_zero, List.set_cons_succ]
          refine wpAnyH_take (i := 13) (oi := { dst := some 136, op := Go.Op.indexAddr 33 (Go.Operand.tmp 134) (Go.Operand.tmp 135), type := 0, pos := "law.go:112", after := #[{ on := 11, ground := Go.Ground.data }, { on := 12, ground := Go.Ground.data }], guard := none }) (v := ?_) rfl (by kernel_rfl) (by kernel_rfl) (by kernel_rfl) (fun _ _ _ h => h) (Or.inl ⟨by rfl, ?_⟩) (by assumption) ?_
          rotate_left
          · (intro w hSw; (try dsimp only at hSw); (go_simp <;> with_reducible rfl))
          try simp only [Act.put, List.setIfInBounds_toArray, List.set_cons_zero, List.set_cons_succ]
          refine wpAnyH_take (i := 14) (oi := { dst := some 137, op := Go.Op.load 29 (Go.Operand.tmp 136), type := 29, pos := "law.go:112", after := #[{ on := 13, ground := Go.Ground.data }], guard := none }) (v := ?_) rfl (by kernel_rfl) (by kernel_rfl) (by kernel_rfl) (fun _ _ _ h => h) (Or.inl ⟨by rfl, ?_⟩) (by assumption) ?_
          rotate_left
          · (intro w hSw; (try dsimp only at hSw); (go_simp <;> with_reducible rfl))
          try simp only [Act.put, List.setIfInBounds_toArray, List.set_cons_zero, List.set_cons_succ]
          refine wpAnyH_ready (rs := [10]) (by kernel_rfl) (by simp) ?_
          refine AllReadyH.cons (o := { dst := some 133, op := Go.Op.call { callee := Go.Callee.value (Go.Operand.func 16), args := #[Go.Operand.tmp 132], argTypes := #[25] }, type := 25, pos := "law.go:112", after := #[{ on := 9, ground := Go.Ground.data }], guard := none }) rfl (fun K hK => ?_) ?_
          rotate_left
          · exact AllReadyH.nil
          go_simp
          go_at_call 16
          refine HC.out.mono ?_
          rintro e wB ⟨kd, rfl, b1, b2, b3⟩
          have PB := (HPA.out.1.grown (grown_drew _ none)).grown b3
          have SB : wB.cell? ⟨X, 0, none⟩ = some (.pointer (some ⟨da, 0, none⟩)) ∧ wB.cell? ⟨Y, 0, none⟩ = some (.pointer (some ⟨ra, 0, none⟩)) := ⟨by have := PB.rows.xk; rw [HPA.out.2.2.1, HA.out.2.2.2.2.1] at this; exact this, by have := PB.rows.yk; rw [HPA.out.2.2.2, HA.out.2.2.2.2.2] at this; exact this⟩
          have HB := hide (And.intro b1 (And.intro b2 (And.intro b3 PB)))
          clear b1 b2 b3 PB
          go_wp2_with fail
          refine hK.out _ _ ?_ (fun hHeld => ?_)
          · ((try dsimp only); first | exact ⟨xA, yA⟩ | exact SC | exact SD.out | exact SE.out | exact SB)
          clear hK K
          try simp only [Act.put, List.setIfInBounds_toArray, List.set_cons_zero, List.set_cons_succ]
          refine wpAnyH_ready (rs := [15]) (by kernel_rfl) (by simp) ?_
          refine AllReadyH.cons (o := { dst := some 138, op := Go.Op.call { callee := Go.Callee.value (Go.Operand.func 17), args := #[Go.Operand.tmp 137], argTypes := #[29] }, type := 29, pos := "law.go:112", after := #[{ on := 14, ground := Go.Ground.data }, { on := 10, ground := Go.Ground.chain }], guard := none }) rfl (fun K hK => ?_) ?_
          rotate_left
          · exact AllReadyH.nil
          go_simp
          go_at_call 17
          refine (rcopy_any (HPA.out.2.2.2.trans HA.out.2.2.2.2.2) HB.out.2.2.2.two.pa.z.r (by have := HB.out.2.2.2.two.pa.len; have := HPA.out.2.1; have := HA.out.2.1; omega)).mono ?_
          rintro e wC ⟨q', rfl, r1, r2, r3, r4⟩
          have PC := HB.out.2.2.2.grown r4
          have SW := swap_pre PC (.pointer (some ⟨kd.d, 0, none⟩)) (.pointer (some ⟨q'.r, 0, none⟩))
          unfold ptr at SW
          rw [HPA.out.2.2.1, HA.out.2.2.2.2.1, HPA.out.2.2.2, HA.out.2.2.2.2.2] at SW
          obtain ⟨fx, cx, sd1, sd2, fy, cy, se1, se2⟩ := SW
          have SC : wC.cell? ⟨X, 0, none⟩ = some (.pointer (some ⟨da, 0, none⟩)) ∧ wC.cell? ⟨Y, 0, none⟩ = some (.pointer (some ⟨ra, 0, none⟩)) := ⟨by have := PC.rows.xk; rw [HPA.out.2.2.1, HA.out.2.2.2.2.1] at this; exact this, by have := PC.rows.yk; rw [HPA.out.2.2.2, HA.out.2.2.2.2.2] at this; exact this⟩
          have SD := hide (And.intro sd1 sd2)
          have SE := hide (And.intro se1 se2)
          have HQ := hide (And.intro r1 (And.intro r2 (And.intro r3 r4)))
          clear r1 r2 r3 r4 PC sd1 sd2 se1 se2
          go_wp2_with fail
          refine hK.out _ _ ?_ (fun hHeld => ?_)
          · ((try dsimp only); first | exact ⟨xA, yA⟩ | exact SC | exact SD.out | exact SE.out | exact SB)
          clear hK K
          try simp only [Act.put, List.setIfInBounds_toArray, List.set_cons_zero, List.set_cons_succ]
          refine wpAnyH_ready (rs := [16]) (by kernel_rfl) (by simp) ?_
          refine AllReadyH.cons (o := { dst := some 139, op := Go.Op.indexAddr 32 (Go.Operand.tmp 123) (Go.Operand.tmp 125), type := 0, pos := "law.go:112", after := #[{ on := 0, ground := Go.Ground.data }, { on := 2, ground := Go.Ground.data }, { on := 0, ground := Go.Ground.phase }, { on := 1, ground := Go.Ground.phase }, { on := 2, ground := Go.Ground.phase }, { on := 3, ground := Go.Ground.textOnly Go.Departure.lateStores }, { on := 4, ground := Go.Ground.textOnly Go.Departure.lateStores }, { on := 5, ground := Go.Ground.textOnly Go.Departure.lateStores }, { on := 6, ground := Go.Ground.phase }, { on := 7, ground := Go.Ground.phase }, { on := 8, ground := Go.Ground.phase }, { on := 9, ground := Go.Ground.phase }, { on := 10, ground := Go.Ground.phase }, { on := 11, ground := Go.Ground.textOnly Go.Departure.lateStores }, { on := 12, ground := Go.Ground.textOnly Go.Departure.lateStores }, { on := 13, ground := Go.Ground.textOnly Go.Departure.lateStoresUnsure }, { on := 14, ground := Go.Ground.phase }, { on := 15, ground := Go.Ground.phase }], guard := none }) rfl (fun K hK => ?_) ?_
          rotate_left
          · exact AllReadyH.nil
          go_simp
          refine hK.out _ _ ?_ (fun hHeld => ?_)
          · ((try dsimp only); first | exact ⟨xA, yA⟩ | exact SC | exact SD.out | exact SE.out | exact SB)
          clear hK K
          try simp only [Act.put, List.setIfInBounds_toArray, List.set_cons_zero, List.set_cons_succ]
          refine wpAnyH_ready (rs := [17]) (by kernel_rfl) (by simp) ?_
          refine AllReadyH.cons (o := { dst := none, op := Go.Op.store 25 (Go.Operand.tmp 139) (Go.Operand.tmp 133), type := 0, pos := "law.go:112", after := #[{ on := 16, ground := Go.Ground.data }, { on := 10, ground := Go.Ground.data }, { on := 15, ground := Go.Ground.chain }, { on := 0, ground := Go.Ground.phase }, { on := 1, ground := Go.Ground.phase }, { on := 2, ground := Go.Ground.phase }, { on := 3, ground := Go.Ground.textOnly Go.Departure.lateStores }, { on := 4, ground := Go.Ground.textOnly Go.Departure.lateStores }, { on := 5, ground := Go.Ground.textOnly Go.Departure.lateStores }, { on := 6, ground := Go.Ground.phase }, { on := 7, ground := Go.Ground.phase }, { on := 8, ground := Go.Ground.phase }, { on := 9, ground := Go.Ground.phase }, { on := 10, ground := Go.Ground.phase }, { on := 11, ground := Go.Ground.textOnly Go.Departure.lateStores }, { on := 12, ground := Go.Ground.textOnly Go.Departure.lateStores }, { on := 13, ground := Go.Ground.textOnly Go.Departure.lateStoresUnsure }, { on := 14, ground := Go.Ground.phase }, { on := 15, ground := Go.Ground.phase }], guard := none }) rfl (fun K hK => ?_) ?_
          rotate_left
          · exact AllReadyH.nil
          go_simp
          refine hK.out _ _ ?_ (fun hHeld => ?_)
          · ((try dsimp only); first | exact ⟨xA, yA⟩ | exact SC | exact SD.out | exact SE.out | exact SB)
          clear hK K
          try simp only [Act.put, List.setIfInBounds_toArray, List.set_cons_zero, List.set_cons_succ]
          refine wpAnyH_take (i := 18) (oi := { dst := some 140, op := Go.Op.indexAddr 33 (Go.Operand.tmp 126) (Go.Operand.tmp 128), type := 0, pos := "law.go:112", after := #[{ on := 3, ground := Go.Ground.data }, { on := 5, ground := Go.Ground.data }, { on := 0, ground := Go.Ground.phase }, { on := 1, ground := Go.Ground.phase }, { on := 2, ground := Go.Ground.phase }, { on := 3, ground := Go.Ground.phase }, { on := 4, ground := Go.Ground.phase }, { on := 5, ground := Go.Ground.phase }, { on := 6, ground := Go.Ground.phase }, { on := 7, ground := Go.Ground.phase }, { on := 8, ground := Go.Ground.phase }, { on := 9, ground := Go.Ground.phase }, { on := 10, ground := Go.Ground.phase }, { on := 11, ground := Go.Ground.phase }, { on := 12, ground := Go.Ground.phase }, { on := 13, ground := Go.Ground.phase }, { on := 14, ground := Go.Ground.phase }, { on := 15, ground := Go.Ground.phase }, { on := 16, ground := Go.Ground.phase }, { on := 17, ground := Go.Ground.phase }], guard := none }) (v := ?_) rfl (by kernel_rfl) (by kernel_rfl) (by kernel_rfl) (fun _ _ _ h => h) (Or.inl ⟨by rfl, ?_⟩) (by assumption) ?_
          rotate_left
          · (intro w hSw; (try dsimp only at hSw); (go_simp <;> with_reducible rfl))
          try simp only [Act.put, List.setIfInBounds_toArray, List.set_cons_zero, List.set_cons_succ]
          refine wpAnyH_ready (rs := [19]) (by kernel_rfl) (by simp) ?_
          refine AllReadyH.cons (o := { dst := none, op := Go.Op.store 29 (Go.Operand.tmp 140) (Go.Operand.tmp 138), type := 0, pos := "law.go:112", after := #[{ on := 18, ground := Go.Ground.data }, { on := 15, ground := Go.Ground.data }, { on := 17, ground := Go.Ground.chain }, { on := 0, ground := Go.Ground.phase }, { on := 1, ground := Go.Ground.phase }, { on := 2, ground := Go.Ground.phase }, { on := 3, ground := Go.Ground.phase }, { on := 4, ground := Go.Ground.phase }, { on := 5, ground := Go.Ground.phase }, { on := 6, ground := Go.Ground.phase }, { on := 7, ground := Go.Ground.phase }, { on := 8, ground := Go.Ground.phase }, { on := 9, ground := Go.Ground.phase }, { on := 10, ground := Go.Ground.phase }, { on := 11, ground := Go.Ground.phase }, { on := 12, ground := Go.Ground.phase }, { on := 13, ground := Go.Ground.phase }, { on := 14, ground := Go.Ground.phase }, { on := 15, ground := Go.Ground.phase }, { on := 16, ground := Go.Ground.phase }, { on := 17, ground := Go.Ground.phase }], guard := none }) rfl (fun K hK => ?_) ?_
          rotate_left
          · exact AllReadyH.nil
          go_simp
          refine hK.out _ _ ?_ (fun hHeld => ?_)
          · ((try dsimp only); first | exact ⟨xA, yA⟩ | exact SC | exact SD.out | exact SE.out | exact SB)
          clear hK K
          try simp only [Act.put, List.setIfInBounds_toArray, List.set_cons_zero, List.set_cons_succ]
          refine wpAnyH_done (by kernel_rfl) ?_ _
          go_wp2
          go_roundg (gk - 1)
          case measure => omega
          case rel =>
            obtain ⟨b1, b2, b3, b4⟩ := HB.out
            obtain ⟨r1, r2, r3, r4⟩ := HQ.out
            have PS' := (HPA.out.1.grown (grown_drew _ none)).stored b3 b1 b2 r4 r1 r2 r3
            exact ⟨j + 1, by omega, by go_num, hide (psx_of PS' (by have := HPA.out.2.1; have := HA.out.2.1; omega) (by have := HPA.out.2.1; have := HA.out.2.1; show a'.W.length ≤ _; omega))⟩
        · rw [show ((1 : Nat) : Int) = 1 from rfl]
          go_wp2_with fail
          refine wp_region_held_drew (S := fun w' => w'.cell? ⟨X, 1, none⟩ = some (.pointer (some ⟨da, 0, none⟩)) ∧ w'.cell? ⟨Y, 1, none⟩ = some (.pointer (some ⟨ra, 0, none⟩))) (by kernel_rfl) ?_ (fun hHeld => ?_)
          · (exact ⟨xA, yA⟩)
          refine wpAnyH_take (i := 0) (oi := { dst := some 123, op := Go.Op.move (Go.Operand.tmp 15), type := 32, pos := "law.go:112", after := #[], guard := none }) (v := ?_) rfl (by kernel_rfl) (by kernel_rfl) (by kernel_rfl) (fun _ _ _ h => h) (Or.inl ⟨by rfl, ?_⟩) (by assumption) ?_
          rotate_left
          · (intro w hSw; (try dsimp only at hSw); (go_simp <;> with_reducible rfl))
          try simp only [Act.put, List.setIfInBounds_toArray, List.set_cons_zero, List.set_cons_succ]
          refine wpAnyH_take (i := 1) (oi := { dst := some 124, op := Go.Op.move (Go.Operand.tmp 18), type := 3, pos := "law.go:112", after := #[], guard := none }) (v := ?_) rfl (by kernel_rfl) (by kernel_rfl) (by kernel_rfl) (fun _ _ _ h => h) (Or.inl ⟨by rfl, ?_⟩) (by assumption) ?_
          rotate_left
          · (intro w hSw; (try dsimp only at hSw); (go_simp <;> with_reducible rfl))
          try simp only [Act.put, List.setIfInBounds_toArray, List.set_cons_zero, List.set_cons_succ]
          refine wpAnyH_take (i := 2) (oi := { dst := some 125, op := Go.Op.binOp Go.BinOp.sub 3 (Go.Operand.const (Go.Value.int Go.IntKind.i64 1)) (Go.Operand.tmp 124) 3, type := 3, pos := "law.go:112", after := #[{ on := 1, ground := Go.Ground.data }], guard := none }) (v := ?_) rfl (by kernel_rfl) (by kernel_rfl) (by kernel_rfl) (fun _ _ _ h => h) (Or.inl ⟨by rfl, ?_⟩) (by assumption) ?_
          rotate_left
          · (intro w hSw; (try dsimp only at hSw); (go_simp <;> with_reducible rfl))
          try simp only [Act.put, List.setIfInBounds_toArray, List.set_cons_zero, List.set_cons_succ]
          refine wpAnyH_take (i := 3) (oi := { dst := some 126, op := Go.Op.move (Go.Operand.tmp 16), type := 33, pos := "law.go:112", after := #[{ on := 17, ground := Go.Ground.gcOnly Go.Departure.lateStores }], guard := none }) (v := ?_) rfl (by kernel_rfl) (by kernel_rfl) (by kernel_rfl) (fun _ _ _ h => h) (Or.inl ⟨by rfl, ?_⟩) (by assumption) ?_
          rotate_left
          · (intro w hSw; (try dsimp only at hSw); (go_simp <;> with_reducible rfl))
          try simp only [Act.put, List.setIfInBounds_toArray, List.set_cons_zero, List.set_cons_succ]
          refine wpAnyH_take (i := 4) (oi := { dst := some 127, op := Go.Op.move (Go.Operand.tmp 18), type := 3, pos := "law.go:112", after := #[{ on := 17, ground := Go.Ground.gcOnly Go.Departure.lateStores }], guard := none }) (v := ?_) rfl (by kernel_rfl) (by kernel_rfl) (by kernel_rfl) (fun _ _ _ h => h) (Or.inl ⟨by rfl, ?_⟩) (by assumption) ?_
          rotate_left
          · (intro w hSw; (try dsimp only at hSw); (go_simp <;> with_reducible rfl))
          try simp only [Act.put, List.setIfInBounds_toArray, List.set_cons_zero, List.set_cons_succ]
          refine wpAnyH_take (i := 5) (oi := { dst := some 128, op := Go.Op.binOp Go.BinOp.sub 3 (Go.Operand.const (Go.Value.int Go.IntKind.i64 1)) (Go.Operand.tmp 127) 3, type := 3, pos := "law.go:112", after := #[{ on := 4, ground := Go.Ground.data }, { on := 17, ground := Go.Ground.gcOnly Go.Departure.lateStores }], guard := none }) (v := ?_) rfl (by kernel_rfl) (by kernel_rfl) (by kernel_rfl) (fun _ _ _ h => h) (Or.inl ⟨by rfl, ?_⟩) (by assumption) ?_
          rotate_left
          · (intro w hSw; (try dsimp only at hSw); (go_simp <;> with_reducible rfl))
          try simp only [Act.put, List.setIfInBounds_toArray, List.set_cons_zero, List.set_cons_succ]
          refine wpAnyH_take (i := 6) (oi := { dst := some 129, op := Go.Op.move (Go.Operand.tmp 15), type := 32, pos := "law.go:112", after := #[], guard := none }) (v := ?_) rfl (by kernel_rfl) (by kernel_rfl) (by kernel_rfl) (fun _ _ _ h => h) (Or.inl ⟨by rfl, ?_⟩) (by assumption) ?_
          rotate_left
          · (intro w hSw; (try dsimp only at hSw); (go_simp <;> with_reducible rfl))
          try simp only [Act.put, List.setIfInBounds_toArray, List.set_cons_zero, List.set_cons_succ]
          refine wpAnyH_take (i := 7) (oi := { dst := some 130, op := Go.Op.move (Go.Operand.tmp 18), type := 3, pos := "law.go:112", after := #[], guard := none }) (v := ?_) rfl (by kernel_rfl) (by kernel_rfl) (by kernel_rfl) (fun _ _ _ h => h) (Or.inl ⟨by rfl, ?_⟩) (by assumption) ?_
          rotate_left
          · (intro w hSw; (try dsimp only at hSw); (go_simp <;> with_reducible rfl))
          try simp only [Act.put, List.setIfInBounds_toArray, List.set_cons_zero, List.set_cons_succ]
          refine wpAnyH_take (i := 8) (oi := { dst := some 131, op := Go.Op.indexAddr 32 (Go.Operand.tmp 129) (Go.Operand.tmp 130), type := 0, pos := "law.go:112", after := #[{ on := 6, ground := Go.Ground.data }, { on := 7, ground := Go.Ground.data }], guard := none }) (v := ?_) rfl (by kernel_rfl) (by kernel_rfl) (by kernel_rfl) (fun _ _ _ h => h) (Or.inl ⟨by rfl, ?_⟩) (by assumption) ?_
          rotate_left
          · (intro w hSw; (try dsimp only at hSw); (go_simp <;> with_reducible rfl))
          try simp only [Act.put, List.setIfInBounds_toArray, List.set_cons_zero, List.set_cons_succ]
          refine wpAnyH_take (i := 9) (oi := { dst := some 132, op := Go.Op.load 25 (Go.Operand.tmp 131), type := 25, pos := "law.go:112", after := #[{ on := 8, ground := Go.Ground.data }], guard := none }) (v := ?_) rfl (by kernel_rfl) (by kernel_rfl) (by kernel_rfl) (fun _ _ _ h => h) (Or.inl ⟨by rfl, ?_⟩) (by assumption) ?_
          rotate_left
          · (intro w hSw; (try dsimp only at hSw); (go_simp <;> with_reducible rfl))
          try simp only [Act.put, List.setIfInBounds_toArray, List.set_cons_zero, List.set_cons_succ]
          refine wpAnyH_take (i := 11) (oi := { dst := some 134, op := Go.Op.move (Go.Operand.tmp 16), type := 33, pos := "law.go:112", after := #[], guard := none }) (v := ?_) rfl (by kernel_rfl) (by kernel_rfl) (by kernel_rfl) (fun _ _ _ h => h) (Or.inl ⟨by rfl, ?_⟩) (by assumption) ?_
          rotate_left
          · (intro w hSw; (try dsimp only at hSw); (go_simp <;> with_reducible rfl))
          try simp only [Act.put, List.setIfInBounds_toArray, List.set_cons_zero, List.set_cons_succ]
          refine wpAnyH_take (i := 12) (oi := { dst := some 135, op := Go.Op.move (Go.Operand.tmp 18), type := 3, pos := "law.go:112", after := #[], guard := none }) (v := ?_) rfl (by kernel_rfl) (by kernel_rfl) (by kernel_rfl) (fun _ _ _ h => h) (Or.inl ⟨by rfl, ?_⟩) (by assumption) ?_
          rotate_left
          · (intro w hSw; (try dsimp only at hSw); (go_simp <;> with_reducible rfl))
          try simp only [Act.put, List.setIfInBounds_toArray, List.set_cons_zero, List.set_cons_succ]
          refine wpAnyH_take (i := 13) (oi := { dst := some 136, op := Go.Op.indexAddr 33 (Go.Operand.tmp 134) (Go.Operand.tmp 135), type := 0, pos := "law.go:112", after := #[{ on := 11, ground := Go.Ground.data }, { on := 12, ground := Go.Ground.data }], guard := none }) (v := ?_) rfl (by kernel_rfl) (by kernel_rfl) (by kernel_rfl) (fun _ _ _ h => h) (Or.inl ⟨by rfl, ?_⟩) (by assumption) ?_
          rotate_left
          · (intro w hSw; (try dsimp only at hSw); (go_simp <;> with_reducible rfl))
          try simp only [Act.put, List.setIfInBounds_toArray, List.set_cons_zero, List.set_cons_succ]
          refine wpAnyH_take (i := 14) (oi := { dst := some 137, op := Go.Op.load 29 (Go.Operand.tmp 136), type := 29, pos := "law.go:112", after := #[{ on := 13, ground := Go.Ground.data }], guard := none }) (v := ?_) rfl (by kernel_rfl) (by kernel_rfl) (by kernel_rfl) (fun _ _ _ h => h) (Or.inl ⟨by rfl, ?_⟩) (by assumption) ?_
          rotate_left
          · (intro w hSw; (try dsimp only at hSw); (go_simp <;> with_reducible rfl))
          try simp only [Act.put, List.setIfInBounds_toArray, List.set_cons_zero, List.set_cons_succ]
          refine wpAnyH_ready (rs := [10]) (by kernel_rfl) (by simp) ?_
          refine AllReadyH.cons (o := { dst := some 133, op := Go.Op.call { callee := Go.Callee.value (Go.Operand.func 16), args := #[Go.Operand.tmp 132], argTypes := #[25] }, type := 25, pos := "law.go:112", after := #[{ on := 9, ground := Go.Ground.data }], guard := none }) rfl (fun K hK => ?_) ?_
          rotate_left
          · exact AllReadyH.nil
          go_simp
          go_at_call 16
          refine HC.out.mono ?_
          rintro e wB ⟨kd, rfl, b1, b2, b3⟩
          have PB := (HPA.out.1.grown (grown_drew _ none)).grown b3
          have SB : wB.cell? ⟨X, 1, none⟩ = some (.pointer (some ⟨da, 0, none⟩)) ∧ wB.cell? ⟨Y, 1, none⟩ = some (.pointer (some ⟨ra, 0, none⟩)) := ⟨by have := PB.rows.xk; rw [HPA.out.2.2.1, HA.out.2.2.2.2.1] at this; exact this, by have := PB.rows.yk; rw [HPA.out.2.2.2, HA.out.2.2.2.2.2] at this; exact this⟩
          have HB := hide (And.intro b1 (And.intro b2 (And.intro b3 PB)))
          clear b1 b2 b3 PB
          go_wp2_with fail
          refine hK.out _ _ ?_ (fun hHeld => ?_)
          · ((try dsimp only); first | exact ⟨xA, yA⟩ | exact SC | exact SD.out | exact SE.out | exact SB)
          clear hK K
          try simp only [Act.put, List.setIfInBounds_toArray, List.set_cons_zero, List.set_cons_succ]
          refine wpAnyH_ready (rs := [15]) (by kernel_rfl) (by simp) ?_
          refine AllReadyH.cons (o := { dst := some 138, op := Go.Op.call { callee := Go.Callee.value (Go.Operand.func 17), args := #[Go.Operand.tmp 137], argTypes := #[29] }, type := 29, pos := "law.go:112", after := #[{ on := 14, ground := Go.Ground.data }, { on := 10, ground := Go.Ground.chain }], guard := none }) rfl (fun K hK => ?_) ?_
          rotate_left
          · exact AllReadyH.nil
          go_simp
          go_at_call 17
          refine (rcopy_any (HPA.out.2.2.2.trans HA.out.2.2.2.2.2) HB.out.2.2.2.two.pa.z.r (by have := HB.out.2.2.2.two.pa.len; have := HPA.out.2.1; have := HA.out.2.1; omega)).mono ?_
          rintro e wC ⟨q', rfl, r1, r2, r3, r4⟩
          have PC := HB.out.2.2.2.grown r4
          have SW := swap_pre PC (.pointer (some ⟨kd.d, 0, none⟩)) (.pointer (some ⟨q'.r, 0, none⟩))
          unfold ptr at SW
          rw [HPA.out.2.2.1, HA.out.2.2.2.2.1, HPA.out.2.2.2, HA.out.2.2.2.2.2] at SW
          obtain ⟨fx, cx, sd1, sd2, fy, cy, se1, se2⟩ := SW
          have SC : wC.cell? ⟨X, 1, none⟩ = some (.pointer (some ⟨da, 0, none⟩)) ∧ wC.cell? ⟨Y, 1, none⟩ = some (.pointer (some ⟨ra, 0, none⟩)) := ⟨by have := PC.rows.xk; rw [HPA.out.2.2.1, HA.out.2.2.2.2.1] at this; exact this, by have := PC.rows.yk; rw [HPA.out.2.2.2, HA.out.2.2.2.2.2] at this; exact this⟩
          have SD := hide (And.intro sd1 sd2)
          have SE := hide (And.intro se1 se2)
          have HQ := hide (And.intro r1 (And.intro r2 (And.intro r3 r4)))
          clear r1 r2 r3 r4 PC sd1 sd2 se1 se2
          go_wp2_with fail
          refine hK.out _ _ ?_ (fun hHeld => ?_)
          · ((try dsimp only); first | exact ⟨xA, yA⟩ | exact SC | exact SD.out | exact SE.out | exact SB)
          clear hK K
          try simp only [Act.put, List.setIfInBounds_toArray, List.set_cons_zero, List.set_cons_succ]
          refine wpAnyH_ready (rs := [16]) (by kernel_rfl) (by simp) ?_
          refine AllReadyH.cons (o := { dst := some 139, op := Go.Op.indexAddr 32 (Go.Operand.tmp 123) (Go.Operand.tmp 125), type := 0, pos := "law.go:112", after := #[{ on := 0, ground := Go.Ground.data }, { on := 2, ground := Go.Ground.data }, { on := 0, ground := Go.Ground.phase }, { on := 1, ground := Go.Ground.phase }, { on := 2, ground := Go.Ground.phase }, { on := 3, ground := Go.Ground.textOnly Go.Departure.lateStores }, { on := 4, ground := Go.Ground.textOnly Go.Departure.lateStores }, { on := 5, ground := Go.Ground.textOnly Go.Departure.lateStores }, { on := 6, ground := Go.Ground.phase }, { on := 7, ground := Go.Ground.phase }, { on := 8, ground := Go.Ground.phase }, { on := 9, ground := Go.Ground.phase }, { on := 10, ground := Go.Ground.phase }, { on := 11, ground := Go.Ground.textOnly Go.Departure.lateStores }, { on := 12, ground := Go.Ground.textOnly Go.Departure.lateStores }, { on := 13, ground := Go.Ground.textOnly Go.Departure.lateStoresUnsure }, { on := 14, ground := Go.Ground.phase }, { on := 15, ground := Go.Ground.phase }], guard := none }) rfl (fun K hK => ?_) ?_
          rotate_left
          · exact AllReadyH.nil
          go_simp
          refine hK.out _ _ ?_ (fun hHeld => ?_)
          · ((try dsimp only); first | exact ⟨xA, yA⟩ | exact SC | exact SD.out | exact SE.out | exact SB)
          clear hK K
          try simp only [Act.put, List.setIfInBounds_toArray, List.set_cons_zero, List.set_cons_succ]
          refine wpAnyH_ready (rs := [17]) (by kernel_rfl) (by simp) ?_
          refine AllReadyH.cons (o := { dst := none, op := Go.Op.store 25 (Go.Operand.tmp 139) (Go.Operand.tmp 133), type := 0, pos := "law.go:112", after := #[{ on := 16, ground := Go.Ground.data }, { on := 10, ground := Go.Ground.data }, { on := 15, ground := Go.Ground.chain }, { on := 0, ground := Go.Ground.phase }, { on := 1, ground := Go.Ground.phase }, { on := 2, ground := Go.Ground.phase }, { on := 3, ground := Go.Ground.textOnly Go.Departure.lateStores }, { on := 4, ground := Go.Ground.textOnly Go.Departure.lateStores }, { on := 5, ground := Go.Ground.textOnly Go.Departure.lateStores }, { on := 6, ground := Go.Ground.phase }, { on := 7, ground := Go.Ground.phase }, { on := 8, ground := Go.Ground.phase }, { on := 9, ground := Go.Ground.phase }, { on := 10, ground := Go.Ground.phase }, { on := 11, ground := Go.Ground.textOnly Go.Departure.lateStores }, { on := 12, ground := Go.Ground.textOnly Go.Departure.lateStores }, { on := 13, ground := Go.Ground.textOnly Go.Departure.lateStoresUnsure }, { on := 14, ground := Go.Ground.phase }, { on := 15, ground := Go.Ground.phase }], guard := none }) rfl (fun K hK => ?_) ?_
          rotate_left
          · exact AllReadyH.nil
          go_simp
          refine hK.out _ _ ?_ (fun hHeld => ?_)
          · ((try dsimp only); first | exact ⟨xA, yA⟩ | exact SC | exact SD.out | exact SE.out | exact SB)
          clear hK K
          try simp only [Act.put, List.setIfInBounds_toArray, List.set_cons_zero, List.set_cons_succ]
          refine wpAnyH_take (i := 18) (oi := { dst := some 140, op := Go.Op.indexAddr 33 (Go.Operand.tmp 126) (Go.Operand.tmp 128), type := 0, pos := "law.go:112", after := #[{ on := 3, ground := Go.Ground.data }, { on := 5, ground := Go.Ground.data }, { on := 0, ground := Go.Ground.phase }, { on := 1, ground := Go.Ground.phase }, { on := 2, ground := Go.Ground.phase }, { on := 3, ground := Go.Ground.phase }, { on := 4, ground := Go.Ground.phase }, { on := 5, ground := Go.Ground.phase }, { on := 6, ground := Go.Ground.phase }, { on := 7, ground := Go.Ground.phase }, { on := 8, ground := Go.Ground.phase }, { on := 9, ground := Go.Ground.phase }, { on := 10, ground := Go.Ground.phase }, { on := 11, ground := Go.Ground.phase }, { on := 12, ground := Go.Ground.phase }, { on := 13, ground := Go.Ground.phase }, { on := 14, ground := Go.Ground.phase }, { on := 15, ground := Go.Ground.phase }, { on := 16, ground := Go.Ground.phase }, { on := 17, ground := Go.Ground.phase }], guard := none }) (v := ?_) rfl (by kernel_rfl) (by kernel_rfl) (by kernel_rfl) (fun _ _ _ h => h) (Or.inl ⟨by rfl, ?_⟩) (by assumption) ?_
          rotate_left
          · (intro w hSw; (try dsimp only at hSw); (go_simp <;> with_reducible rfl))
          try simp only [Act.put, List.setIfInBounds_toArray, List.set_cons_zero, List.set_cons_succ]
          refine wpAnyH_ready (rs := [19]) (by kernel_rfl) (by simp) ?_
          refine AllReadyH.cons (o := { dst := none, op := Go.Op.store 29 (Go.Operand.tmp 140) (Go.Operand.tmp 138), type := 0, pos := "law.go:112", after := #[{ on := 18, ground := Go.Ground.data }, { on := 15, ground := Go.Ground.data }, { on := 17, ground := Go.Ground.chain }, { on := 0, ground := Go.Ground.phase }, { on := 1, ground := Go.Ground.phase }, { on := 2, ground := Go.Ground.phase }, { on := 3, ground := Go.Ground.phase }, { on := 4, ground := Go.Ground.phase }, { on := 5, ground := Go.Ground.phase }, { on := 6, ground := Go.Ground.phase }, { on := 7, ground := Go.Ground.phase }, { on := 8, ground := Go.Ground.phase }, { on := 9, ground := Go.Ground.phase }, { on := 10, ground := Go.Ground.phase }, { on := 11, ground := Go.Ground.phase }, { on := 12, ground := Go.Ground.phase }, { on := 13, ground := Go.Ground.phase }, { on := 14, ground := Go.Ground.phase }, { on := 15, ground := Go.Ground.phase }, { on := 16, ground := Go.Ground.phase }, { on := 17, ground := Go.Ground.phase }], guard := none }) rfl (fun K hK => ?_) ?_
          rotate_left
          · exact AllReadyH.nil
          go_simp
          refine hK.out _ _ ?_ (fun hHeld => ?_)
          · ((try dsimp only); first | exact ⟨xA, yA⟩ | exact SC | exact SD.out | exact SE.out | exact SB)
          clear hK K
          try simp only [Act.put, List.setIfInBounds_toArray, List.set_cons_zero, List.set_cons_succ]
          refine wpAnyH_done (by kernel_rfl) ?_ _
          go_wp2
          go_roundg (gk - 1)
          case measure => omega
          case rel =>
            obtain ⟨b1, b2, b3, b4⟩ := HB.out
            obtain ⟨r1, r2, r3, r4⟩ := HQ.out
            have PS' := (HPA.out.1.grown (grown_drew _ none)).stored b3 b1 b2 r4 r1 r2 r3
            exact ⟨j + 1, by omega, by go_num, hide (psx_of PS' (by have := HPA.out.2.1; have := HA.out.2.1; omega) (by have := HPA.out.2.1; have := HA.out.2.1; show a'.W.length ≤ _; omega))⟩
      · have e9 : (v == 6) = false := by simpa using h6
        have e9' : decide (v = 6) = false := by simpa using h6
        go_wp2_with fail
        refine (HP7.out _).mono ?_
        rintro e wy ⟨rfl, rfl⟩
        go_wp2
        go_roundg (gk - 1)
        case measure => omega
        case rel => exact ⟨j + 1, by omega, by go_num, hide (psx_of HPA.out.1 (by have := HPA.out.2.1; have := HA.out.2.1; omega) (by have := HA.out.2.2.1; omega))⟩
    · have hjT : j = T := by omega
      subst hjT
      go_upto_region 14 with fail
      go_cut [89] from 82 to 140 (fun s89 wx => s89 = .bool false ∧ wx = wr)
      case first =>
        by_cases hm3 : m < 201
        · have hjm : j = m := by omega
          subst hjm
          clear hT hkj hk
          go_wp2_with fail
          go_meet
          case rel => exact ⟨rfl, rfl⟩
        · have hjm : j = 200 := by omega
          subst hjm
          have hlt : (200 : Int) < (m : Int) := by omega
          clear hT hkj hk hm3
          go_wp2_with fail
          go_meet
          case rel => exact ⟨rfl, rfl⟩
      case rest =>
        obtain ⟨rfl, rfl⟩ := hcut
        clear hT hkj hk
        obtain ⟨a, b, hP, -, -⟩ := HS.out
        have xa := hP.rows.xk
        have xb := hP.rows.xk'
        have ya := hP.rows.yk
        have yb := hP.rows.yk'
        unfold ptr at xa xb ya yb
        have n1 := hP.two.pa.z.d.disk.shape.n1
        obtain ⟨da, hda⟩ : ∃ d, a.k.d = d := ⟨_, rfl⟩
        obtain ⟨db, hdb⟩ : ∃ d, b.k.d = d := ⟨_, rfl⟩
        obtain ⟨ra, hra⟩ : ∃ d, a.q.r = d := ⟨_, rfl⟩
        obtain ⟨rb, hrb⟩ : ∃ d, b.q.r = d := ⟨_, rfl⟩
        rw [hda] at xa
        rw [hdb] at xb
        rw [hra] at ya
        rw [hrb] at yb
        have HP := hide hP
        have HL := hide (And.intro hda (And.intro hra (And.intro hdb hrb)))
        have HCE : Hid (∀ w' : World, PS w w' X Y n size 0 1 a b → w'.cell? ⟨X, 0, none⟩ = some (.pointer (some ⟨da, 0, none⟩)) ∧ w'.cell? ⟨X, 1, none⟩ = some (.pointer (some ⟨db, 0, none⟩)) ∧ w'.cell? ⟨Y, 0, none⟩ = some (.pointer (some ⟨ra, 0, none⟩)) ∧ w'.cell? ⟨Y, 1, none⟩ = some (.pointer (some ⟨rb, 0, none⟩))) := fun w' h => by have := ps_cells h; rw [hda, hdb, hra, hrb] at this; exact this
        clear hP HS hda hdb hra hrb
        go_wp2_with fail
        refine wp_region_held_drew (S := fun w' => w'.cell? ⟨X, 0, none⟩ = some (.pointer (some ⟨da, 0, none⟩)) ∧ w'.cell? ⟨X, 1, none⟩ = some (.pointer (some ⟨db, 0, none⟩)) ∧ w'.cell? ⟨Y, 0, none⟩ = some (.pointer (some ⟨ra, 0, none⟩)) ∧ w'.cell? ⟨Y, 1, none⟩ = some (.pointer (some ⟨rb, 0, none⟩))) (by kernel_rfl) ?_ (fun hHeld => ?_)
        · (exact ⟨xa, xb, ya, yb⟩)
        refine wpAnyH_take (i := 0) (oi := { dst := some 141, op := Go.Op.move (Go.Operand.tmp 15), type := 32, pos := "law.go:115", after := #[], guard := none }) (v := ?_) rfl (by kernel_rfl) (by kernel_rfl) (by kernel_rfl) (fun _ _ _ h => h) (Or.inl ⟨by rfl, ?_⟩) (by assumption) ?_
        rotate_left
        · (intro w hSw; (try dsimp only at hSw); (go_simp <;> with_reducible rfl))
        try simp only [Act.put, List.setIfInBounds_toArray, List.set_cons_zero, List.set_cons_succ]
        refine wpAnyH_take (i := 1) (oi := { dst := some 142, op := Go.Op.indexAddr 32 (Go.Operand.tmp 141) (Go.Operand.const (Go.Value.int Go.IntKind.i64 0)), type := 0, pos := "law.go:115", after := #[{ on := 0, ground := Go.Ground.data }], guard := none }) (v := ?_) rfl (by kernel_rfl) (by kernel_rfl) (by kernel_rfl) (fun _ _ _ h => h) (Or.inl ⟨by rfl, ?_⟩) (by assumption) ?_
        rotate_left
        · (intro w hSw; (try dsimp only at hSw); (go_simp <;> with_reducible rfl))
        try simp only [Act.put, List.setIfInBounds_toArray, List.set_cons_zero, List.set_cons_succ]
        refine wpAnyH_take (i := 2) (oi := { dst := some 143, op := Go.Op.load 25 (Go.Operand.tmp 142), type := 25, pos := "law.go:115", after := #[{ on := 1, ground := Go.Ground.data }], guard := none }) (v := ?_) rfl (by kernel_rfl) (by kernel_rfl) (by kernel_rfl) (fun _ _ _ h => h) (Or.inl ⟨by rfl, ?_⟩) (by assumption) ?_
        rotate_left
        · (intro w hSw; (try dsimp only at hSw); (go_simp <;> with_reducible rfl))
        try simp only [Act.put, List.setIfInBounds_toArray, List.set_cons_zero, List.set_cons_succ]
        refine wpAnyH_take (i := 4) (oi := { dst := some 145, op := Go.Op.move (Go.Operand.tmp 16), type := 33, pos := "law.go:115", after := #[], guard := none }) (v := ?_) rfl (by kernel_rfl) (by kernel_rfl) (by kernel_rfl) (fun _ _ _ h => h) (Or.inl ⟨by rfl, ?_⟩) (by assumption) ?_
        rotate_left
        · (intro w hSw; (try dsimp only at hSw); (go_simp <;> with_reducible rfl))
        try simp only [Act.put, List.setIfInBounds_toArray, List.set_cons_zero, List.set_cons_succ]
        refine wpAnyH_take (i := 5) (oi := { dst := some 146, op := Go.Op.indexAddr 33 (Go.Operand.tmp 145) (Go.Operand.const (Go.Value.int Go.IntKind.i64 0)), type := 0, pos := "law.go:115", after := #[{ on := 4, ground := Go.Ground.data }], guard := none }) (v := ?_) rfl (by kernel_rfl) (by kernel_rfl) (by kernel_rfl) (fun _ _ _ h => h) (Or.inl ⟨by rfl, ?_⟩) (by assumption) ?_
        rotate_left
        · (intro w hSw; (try dsimp only at hSw); (go_simp <;> with_reducible rfl))
        try simp only [Act.put, List.setIfInBounds_toArray, List.set_cons_zero, List.set_cons_succ]
        refine wpAnyH_take (i := 6) (oi := { dst := some 147, op := Go.Op.load 29 (Go.Operand.tmp 146), type := 29, pos := "law.go:115", after := #[{ on := 5, ground := Go.Ground.data }], guard := none }) (v := ?_) rfl (by kernel_rfl) (by kernel_rfl) (by kernel_rfl) (fun _ _ _ h => h) (Or.inl ⟨by rfl, ?_⟩) (by assumption) ?_
        rotate_left
        · (intro w hSw; (try dsimp only at hSw); (go_simp <;> with_reducible rfl))
        try simp only [Act.put, List.setIfInBounds_toArray, List.set_cons_zero, List.set_cons_succ]
        refine wpAnyH_ready (rs := [3]) (by kernel_rfl) (by simp) ?_
        refine AllReadyH.cons (o := { dst := some 144, op := Go.Op.call { callee := Go.Callee.value (Go.Operand.func 19), args := #[Go.Operand.tmp 143], argTypes := #[25] }, type := 42, pos := "law.go:115", after := #[{ on := 2, ground := Go.Ground.data }], guard := none }) rfl (fun K hK => ?_) ?_
        rotate_left
        · exact AllReadyH.nil
        go_simp
        go_at_call 19
        refine (pair_image HL.out.1 (HP.out.grown (grown_drew _ none)).two.pa).mono ?_
        rintro e w1 ⟨io1, ic1, rfl, q1, g1⟩
        have Q1 := hide (And.intro q1 (And.intro g1 ((HP.out.grown (grown_drew _ none)).grown g1)))
        have S1 := HCE.out _ Q1.out.2.2
        clear q1 g1
        go_wp2_with fail
        refine hK.out _ _ ?_ (fun hHeld => ?_)
        · ((try dsimp only); first | exact S6 | exact S5 | exact S4 | exact S3 | exact S2 | exact S1)
        clear hK K
        try simp only [Act.put, List.setIfInBounds_toArray, List.set_cons_zero, List.set_cons_succ]
        refine wpAnyH_ready (rs := [7]) (by kernel_rfl) (by simp) ?_
        refine AllReadyH.cons (o := { dst := some 148, op := Go.Op.call { callee := Go.Callee.value (Go.Operand.func 20), args := #[Go.Operand.tmp 147], argTypes := #[29] }, type := 42, pos := "law.go:115", after := #[{ on := 6, ground := Go.Ground.data }, { on := 3, ground := Go.Ground.chain }], guard := none }) rfl (fun K hK => ?_) ?_
        rotate_left
        · exact AllReadyH.nil
        go_simp
        go_at_call 20
        refine (pair_rimage HL.out.2.1 Q1.out.2.2.two.pa).mono ?_
        rintro e w2 ⟨io2, ic2, rfl, q2, g2⟩
        have Q2 := hide (And.intro q2 (And.intro g2 (Q1.out.2.2.grown g2)))
        have S2 := HCE.out _ Q2.out.2.2
        clear q2 g2 S1
        go_wp2_with fail
        refine hK.out _ _ ?_ (fun hHeld => ?_)
        · ((try dsimp only); first | exact S6 | exact S5 | exact S4 | exact S3 | exact S2 | exact S1)
        clear hK K
        try simp only [Act.put, List.setIfInBounds_toArray, List.set_cons_zero, List.set_cons_succ]
        refine wpAnyH_ready (rs := [8]) (by kernel_rfl) (by simp) ?_
        refine AllReadyH.cons (o := { dst := some 149, op := Go.Op.call { callee := Go.Callee.value (Go.Operand.func 18), args := #[Go.Operand.tmp 144, Go.Operand.tmp 148], argTypes := #[42, 42] }, type := 4, pos := "law.go:115", after := #[{ on := 3, ground := Go.Ground.data }, { on := 7, ground := Go.Ground.data }, { on := 7, ground := Go.Ground.chain }], guard := none }) rfl (fun K hK => ?_) ?_
        rotate_left
        · exact AllReadyH.nil
        go_simp
        go_at_call 18
        refine (sameRows_eq io1 io2 n ic1 ic2 _ w2 (secs_length _ _ _) (Q1.out.1.grown Q2.out.2.1) Q2.out.1 (by omega)).mono ?_
        rintro e w3 ⟨rfl, d3, hd3⟩
        have Q3 := hide (Q2.out.2.2.grown (show World.grownBy _ w3 none by rw [hd3]; exact grown_drewN _ _ _))
        have S3 := HCE.out _ Q3.out
        clear hd3 S2
        go_wp2_with fail
        refine hK.out _ _ ?_ (fun hHeld => ?_)
        · ((try dsimp only); first | exact S6 | exact S5 | exact S4 | exact S3 | exact S2 | exact S1)
        clear hK K
        try simp only [Act.put, List.setIfInBounds_toArray, List.set_cons_zero, List.set_cons_succ]
        refine wpAnyH_take (i := 9) (oi := { dst := some 150, op := Go.Op.move (Go.Operand.tmp 149), type := 4, pos := "law.go:115", after := #[{ on := 8, ground := Go.Ground.data }, { on := 8, ground := Go.Ground.chain }], guard := none }) (v := ?_) rfl (by kernel_rfl) (by kernel_rfl) (by kernel_rfl) (fun _ _ _ h => h) (Or.inl ⟨by rfl, ?_⟩) (by assumption) ?_
        rotate_left
        · (intro w hSw; (try dsimp only at hSw); (go_simp <;> with_reducible rfl))
        try simp only [Act.put, List.setIfInBounds_toArray, List.set_cons_zero, List.set_cons_succ]
        refine wpAnyH_take (i := 10) (oi := { dst := some 151, op := Go.Op.move (Go.Operand.tmp 15), type := 32, pos := "law.go:115", after := #[{ on := 9, ground := Go.Ground.guard }], guard := some (9, true) }) (v := ?_) rfl (by kernel_rfl) (by kernel_rfl) (by kernel_rfl) (fun _ _ _ h => h) (Or.inl ⟨by rfl, ?_⟩) (by assumption) ?_
        rotate_left
        · (intro w hSw; (try dsimp only at hSw); (go_simp <;> with_reducible rfl))
        try simp only [Act.put, List.setIfInBounds_toArray, List.set_cons_zero, List.set_cons_succ]
        refine wpAnyH_take (i := 11) (oi := { dst := some 152, op := Go.Op.indexAddr 32 (Go.Operand.tmp 151) (Go.Operand.const (Go.Value.int Go.IntKind.i64 1)), type := 0, pos := "law.go:115", after := #[{ on := 10, ground := Go.Ground.data }, { on := 9, ground := Go.Ground.guard }], guard := some (9, true) }) (v := ?_) rfl (by kernel_rfl) (by kernel_rfl) (by kernel_rfl) (fun _ _ _ h => h) (Or.inl ⟨by rfl, ?_⟩) (by assumption) ?_
        rotate_left
        · (intro w hSw; (try dsimp only at hSw); (go_simp <;> with_reducible rfl))
        try simp only [Act.put, List.setIfInBounds_toArray, List.set_cons_zero, List.set_cons_succ]
        refine wpAnyH_take (i := 12) (oi := { dst := some 153, op := Go.Op.load 25 (Go.Operand.tmp 152), type := 25, pos := "law.go:115", after := #[{ on := 11, ground := Go.Ground.data }, { on := 9, ground := Go.Ground.guard }], guard := some (9, true) }) (v := ?_) rfl (by kernel_rfl) (by kernel_rfl) (by kernel_rfl) (fun _ _ _ h => h) (Or.inl ⟨by rfl, ?_⟩) (by assumption) ?_
        rotate_left
        · (intro w hSw; (try dsimp only at hSw); (go_simp <;> with_reducible rfl))
        try simp only [Act.put, List.setIfInBounds_toArray, List.set_cons_zero, List.set_cons_succ]
        refine wpAnyH_take (i := 14) (oi := { dst := some 155, op := Go.Op.move (Go.Operand.tmp 16), type := 33, pos := "law.go:115", after := #[{ on := 9, ground := Go.Ground.guard }], guard := some (9, true) }) (v := ?_) rfl (by kernel_rfl) (by kernel_rfl) (by kernel_rfl) (fun _ _ _ h => h) (Or.inl ⟨by rfl, ?_⟩) (by assumption) ?_
        rotate_left
        · (intro w hSw; (try dsimp only at hSw); (go_simp <;> with_reducible rfl))
        try simp only [Act.put, List.setIfInBounds_toArray, List.set_cons_zero, List.set_cons_succ]
        refine wpAnyH_take (i := 15) (oi := { dst := some 156, op := Go.Op.indexAddr 33 (Go.Operand.tmp 155) (Go.Operand.const (Go.Value.int Go.IntKind.i64 1)), type := 0, pos := "law.go:115", after := #[{ on := 14, ground := Go.Ground.data }, { on := 9, ground := Go.Ground.guard }], guard := some (9, true) }) (v := ?_) rfl (by kernel_rfl) (by kernel_rfl) (by kernel_rfl) (fun _ _ _ h => h) (Or.inl ⟨by rfl, ?_⟩) (by assumption) ?_
        rotate_left
        · (intro w hSw; (try dsimp only at hSw); (go_simp <;> with_reducible rfl))
        try simp only [Act.put, List.setIfInBounds_toArray, List.set_cons_zero, List.set_cons_succ]
        refine wpAnyH_take (i := 16) (oi := { dst := some 157, op := Go.Op.load 29 (Go.Operand.tmp 156), type := 29, pos := "law.go:115", after := #[{ on := 15, ground := Go.Ground.data }, { on := 9, ground := Go.Ground.guard }], guard := some (9, true) }) (v := ?_) rfl (by kernel_rfl) (by kernel_rfl) (by kernel_rfl) (fun _ _ _ h => h) (Or.inl ⟨by rfl, ?_⟩) (by assumption) ?_
        rotate_left
        · (intro w hSw; (try dsimp only at hSw); (go_simp <;> with_reducible rfl))
        try simp only [Act.put, List.setIfInBounds_toArray, List.set_cons_zero, List.set_cons_succ]
        refine wpAnyH_ready (rs := [13]) (by kernel_rfl) (by simp) ?_
        refine AllReadyH.cons (o := { dst := some 154, op := Go.Op.call { callee := Go.Callee.value (Go.Operand.func 19), args := #[Go.Operand.tmp 153], argTypes := #[25] }, type := 42, pos := "law.go:115", after := #[{ on := 12, ground := Go.Ground.data }, { on := 9, ground := Go.Ground.chain }, { on := 9, ground := Go.Ground.guard }], guard := some (9, true) }) rfl (fun K hK => ?_) ?_
        rotate_left
        · exact AllReadyH.nil
        go_simp
        go_at_call 19
        refine (pair_image HL.out.2.2.1 Q3.out.two.pb).mono ?_
        rintro e w4 ⟨io4, ic4, rfl, q4, g4⟩
        have Q4 := hide (And.intro q4 (And.intro g4 (Q3.out.grown g4)))
        have S4 := HCE.out _ Q4.out.2.2
        clear q4 g4 S3
        go_wp2_with fail
        refine hK.out _ _ ?_ (fun hHeld => ?_)
        · ((try dsimp only); first | exact S6 | exact S5 | exact S4 | exact S3 | exact S2 | exact S1)
        clear hK K
        try simp only [Act.put, List.setIfInBounds_toArray, List.set_cons_zero, List.set_cons_succ]
        refine wpAnyH_ready (rs := [17]) (by kernel_rfl) (by simp) ?_
        refine AllReadyH.cons (o := { dst := some 158, op := Go.Op.call { callee := Go.Callee.value (Go.Operand.func 20), args := #[Go.Operand.tmp 157], argTypes := #[29] }, type := 42, pos := "law.go:115", after := #[{ on := 16, ground := Go.Ground.data }, { on := 13, ground := Go.Ground.chain }, { on := 9, ground := Go.Ground.guard }], guard := some (9, true) }) rfl (fun K hK => ?_) ?_
        rotate_left
        · exact AllReadyH.nil
        go_simp
        go_at_call 20
        refine (pair_rimage HL.out.2.2.2 Q4.out.2.2.two.pb).mono ?_
        rintro e w5 ⟨io5, ic5, rfl, q5, g5⟩
        have Q5 := hide (And.intro q5 (And.intro g5 (Q4.out.2.2.grown g5)))
        have S5 := HCE.out _ Q5.out.2.2
        clear q5 g5 S4
        go_wp2_with fail
        refine hK.out _ _ ?_ (fun hHeld => ?_)
        · ((try dsimp only); first | exact S6 | exact S5 | exact S4 | exact S3 | exact S2 | exact S1)
        clear hK K
        try simp only [Act.put, List.setIfInBounds_toArray, List.set_cons_zero, List.set_cons_succ]
        refine wpAnyH_ready (rs := [18]) (by kernel_rfl) (by simp) ?_
        refine AllReadyH.cons (o := { dst := some 159, op := Go.Op.call { callee := Go.Callee.value (Go.Operand.func 18), args := #[Go.Operand.tmp 154, Go.Operand.tmp 158], argTypes := #[42, 42] }, type := 4, pos := "law.go:115", after := #[{ on := 13, ground := Go.Ground.data }, { on := 17, ground := Go.Ground.data }, { on := 17, ground := Go.Ground.chain }, { on := 9, ground := Go.Ground.guard }], guard := some (9, true) }) rfl (fun K hK => ?_) ?_
        rotate_left
        · exact AllReadyH.nil
        go_simp
        go_at_call 18
        refine (sameRows_eq io4 io5 n ic4 ic5 _ w5 (secs_length _ _ _) (Q4.out.1.grown Q5.out.2.1) Q5.out.1 (by omega)).mono ?_
        rintro e w6 ⟨rfl, d6, hd6⟩
        have Q6 := hide (Q5.out.2.2.grown (show World.grownBy _ w6 none by rw [hd6]; exact grown_drewN _ _ _))
        have S6 := HCE.out _ Q6.out
        clear hd6 S5
        go_wp2_with fail
        refine hK.out _ _ ?_ (fun hHeld => ?_)
        · ((try dsimp only); first | exact S6 | exact S5 | exact S4 | exact S3 | exact S2 | exact S1)
        clear hK K
        try simp only [Act.put, List.setIfInBounds_toArray, List.set_cons_zero, List.set_cons_succ]
        refine wpAnyH_take (i := 19) (oi := { dst := some 160, op := Go.Op.pick (Go.Operand.tmp 150) (Go.Operand.tmp 159) (Go.Operand.const (Go.Value.bool false)), type := 4, pos := "law.go:115", after := #[{ on := 9, ground := Go.Ground.data }, { on := 18, ground := Go.Ground.data }], guard := none }) (v := ?_) rfl (by kernel_rfl) (by kernel_rfl) (by kernel_rfl) (fun _ _ _ h => h) (Or.inl ⟨by rfl, ?_⟩) (by assumption) ?_
        rotate_left
        · (intro w hSw; (try dsimp only at hSw); (go_simp <;> with_reducible rfl))
        try simp only [Act.put, List.setIfInBounds_toArray, List.set_cons_zero, List.set_cons_succ]
        refine wpAnyH_take (i := 20) (oi := { dst := some 6, op := Go.Op.assign (Go.Operand.tmp 160), type := 4, pos := "law.go:115", after := #[{ on := 19, ground := Go.Ground.data }, { on := 18, ground := Go.Ground.chain }, { on := 0, ground := Go.Ground.phase }, { on := 1, ground := Go.Ground.phase }, { on := 2, ground := Go.Ground.phase }, { on := 3, ground := Go.Ground.phase }, { on := 4, ground := Go.Ground.phase }, { on := 5, ground := Go.Ground.phase }, { on := 6, ground := Go.Ground.phase }, { on := 7, ground := Go.Ground.phase }, { on := 8, ground := Go.Ground.phase }, { on := 9, ground := Go.Ground.phase }, { on := 10, ground := Go.Ground.phase }, { on := 11, ground := Go.Ground.phase }, { on := 12, ground := Go.Ground.phase }, { on := 13, ground := Go.Ground.phase }, { on := 14, ground := Go.Ground.phase }, { on := 15, ground := Go.Ground.phase }, { on := 16, ground := Go.Ground.phase }, { on := 17, ground := Go.Ground.phase }, { on := 18, ground := Go.Ground.phase }, { on := 19, ground := Go.Ground.phase }], guard := none }) (v := ?_) rfl (by kernel_rfl) (by kernel_rfl) (by kernel_rfl) (fun _ _ _ h => h) (Or.inl ⟨by rfl, ?_⟩) (by assumption) ?_
        rotate_left
        · (intro w hSw; (try dsimp only at hSw); (go_simp <;> with_reducible rfl))
        try simp only [Act.put, List.setIfInBounds_toArray, List.set_cons_zero, List.set_cons_succ]
        refine wpAnyH_done (by kernel_rfl) ?_ _
        go_wp2
        go_ret
        exact ⟨rfl, Q6.out.two.pa.z.d.grown⟩
end Go.Proofs.Ytgcfjphjekkkmaa
