/- DiskPlays answers true: disks that are none; disks that are too great. -/
import Derived.Test.YtgcfjphjekkkmaaPlays0
namespace Go.Proofs.Ytgcfjphjekkkmaa
open Go.RowKit Ap
attribute [local go_sem ↓] Go.wp_at_zero Go.wp_at_succ

theorem small_not (s z : Int) (w : World) (h : ¬ (s ≤ 64 ∧ z ≤ 512)) : Calls Try.prog 11 #[.int .i64 s, .int .i64 z] w fun e w' => e = .returned (.bool false) ∧ w' = w := by
  by_cases h1 : s ≤ 64
  · have h2 : ¬ z ≤ 512 := fun e => h ⟨h1, e⟩
    go_enter Try.func11, Try.ntmps11
    go_wp2
    go_ret
    exact ⟨rfl, rfl⟩
  · go_enter Try.func11, Try.ntmps11
    go_wp2
    go_ret
    exact ⟨rfl, rfl⟩
set_option maxRecDepth 20000 in
set_option maxHeartbeats 2000000 in
theorem plays_big (s z : Int) (hmay : mayB s z = true) (hb : ¬ (s ≤ 64 ∧ z ≤ 512)) (v : Value) (w : World) :
    Calls Try.prog 3 #[.int .i64 s, .int .i64 z, v] w fun e w' => e = .returned (.bool true) ∧ w.grownBy w' none := by
  have HMR := hide (mayR_any s z)
  rw [hmay] at HMR
  have HS := hide (fun w => small_not s z w hb)
  clear hmay hb
  go_enter Try.func3, Try.ntmps3
  go_wp2_with fail
  refine (awake_any w).mono ?_
  rintro e w1 ⟨rfl, g1⟩
  have G1 := hide g1
  clear g1
  go_wp2_with fail
  refine (HMR.out _).mono ?_
  rintro e w1' ⟨rfl, rfl⟩
  go_wp2_with fail
  refine (HS.out _).mono ?_
  rintro e w1'' ⟨rfl, rfl⟩
  go_wp2
  go_ret
  exact ⟨rfl, G1.out⟩
/-- Two disks that are none, and the document's two. -/
structure NS (w0 w : World) (X Y ra rb : Nat) : Prop where
  x : w.heap[X]? = some (.cells #[.pointer none, .pointer none] 25 (0, 0))
  y : w.heap[Y]? = some (.cells #[.pointer (some ⟨ra, 0, none⟩), .pointer (some ⟨rb, 0, none⟩)] 29 (0, 0))
  a : Empty w ra
  b : Empty w rb
  grown : w0.grownBy w none
theorem NS.next {w0 w w' : World} {X Y ra rb : Nat} (h : NS w0 w X Y ra rb) (hg : w.grownBy w' none) : NS w0 w' X Y ra rb :=
  ⟨(hg.block X (row_lt h.x) (by simp)).trans h.x, (hg.block Y (row_lt h.y) (by simp)).trans h.y, h.a.grown hg, h.b.grown hg, grown_trans h.grown hg⟩
theorem NS.cells {w0 w : World} {X Y ra rb : Nat} (h : NS w0 w X Y ra rb) : w.cell? ⟨X, 0, none⟩ = some (.pointer none) ∧ w.cell? ⟨X, 1, none⟩ = some (.pointer none) ∧ w.cell? ⟨Y, 0, none⟩ = some (.pointer (some ⟨ra, 0, none⟩)) ∧ w.cell? ⟨Y, 1, none⟩ = some (.pointer (some ⟨rb, 0, none⟩)) :=
  ⟨cell_row (l := [.pointer none, .pointer none]) h.x 0, cell_row (l := [.pointer none, .pointer none]) h.x 1, cell_row (l := [.pointer (some ⟨ra, 0, none⟩), .pointer (some ⟨rb, 0, none⟩)]) h.y 0, cell_row (l := [.pointer (some ⟨ra, 0, none⟩), .pointer (some ⟨rb, 0, none⟩)]) h.y 1⟩
theorem image_nil (w : World) : Calls Try.prog 19 #[.pointer none] w fun e w' => ∃ io, e = .returned (.slice io 0 0) ∧ w.grownBy w' none := by
  refine (image_none none w (Or.inl rfl)).mono ?_
  rintro e w' ⟨rfl, hg⟩
  exact ⟨_, rfl, hg⟩

set_option maxRecDepth 100000 in
set_option maxHeartbeats 8000000 in
theorem plays_bad (s z : Int) (hmay : mayB s z = false) (ao : Option Addr) (m cap : Nat) (os : List OpD) (w : World) (hm : os.length = m) (hm2 : m ≤ 140737488355328) (ho : OpsAt w ao os) :
    Calls Try.prog 3 #[.int .i64 s, .int .i64 z, .slice ao m cap] w fun e w' => e = .returned (.bool true) ∧ w.grownBy w' none := by
  have HO := hide (And.intro hm ho)
  have HMR := hide (mayR_any s z)
  rw [hmay] at HMR
  have HNB := hide (fun w => new_bad s z w hmay)
  have HRB := hide (fun w => rnew_bad s z w hmay)
  clear hm ho hmay
  go_enter Try.func3, Try.ntmps3
  go_wp2_with fail
  refine (awake_any w).mono ?_
  rintro e w1 ⟨rfl, g1⟩
  have G1 := hide g1
  clear g1
  go_wp2_with fail
  refine (HMR.out _).mono ?_
  rintro e w1' ⟨rfl, rfl⟩
  go_wp2_with fail
  refine (HNB.out _).mono ?_
  rintro e w1' ⟨rfl, rfl⟩
  go_wp2_with fail
  refine (HNB.out _).mono ?_
  rintro e w1' ⟨rfl, rfl⟩
  go_wp2_with fail
  refine (HRB.out _).mono ?_
  rintro e w4 ⟨ra, rfl, a1, a2, a3⟩
  have G4 := hide (And.intro a1 a3)
  clear a1 a2 a3
  go_wp2_with fail
  refine (HRB.out _).mono ?_
  rintro e w5 ⟨rb, rfl, a1, a2, a3⟩
  have G5 := hide (And.intro a1 a3)
  clear a1 a2 a3
  obtain ⟨X, hX⟩ : ∃ X, X = w5.heap.size := ⟨_, rfl⟩
  have HX := hide hX
  clear hX
  have HNS : Hid (NS w ((w5.alloc (.cells #[.pointer none, .pointer none] 25)).alloc (.cells #[.pointer (some ⟨ra, 0, none⟩), .pointer (some ⟨rb, 0, none⟩)] 29)) X (X + 1) ra rb) := by
    have h1 := heap_alloc_new w5 (.cells #[.pointer none, .pointer none] 25)
    have h2 := heap_alloc_new (w5.alloc (.cells #[.pointer none, .pointer none] 25)) (.cells #[.pointer (some ⟨ra, 0, none⟩), .pointer (some ⟨rb, 0, none⟩)] 29)
    rw [World.size_alloc, ← HX.out] at h2
    rw [← HX.out] at h1
    have ga := World.grownBy_alloc w5 (.cells #[.pointer none, .pointer none] 25) none
    have g2 := World.grownBy_alloc (w5.alloc (.cells #[.pointer none, .pointer none] 25)) (.cells #[.pointer (some ⟨ra, 0, none⟩), .pointer (some ⟨rb, 0, none⟩)] 29) none
    exact ⟨(g2.block X (row_lt h1) (by simp)).trans h1, h2, (((G4.out.1.grown G5.out.2).grown ga).grown g2), ((G5.out.1.grown ga).grown g2), grown_trans (grown_trans (grown_trans (grown_trans G1.out G4.out.2) G5.out.2) ga) g2⟩
  clear G1 G4 G5 HNB HRB HMR
  go_wp2
  rw [← HX.out]
  obtain ⟨T, hT⟩ : ∃ T, T = min m 200 := ⟨_, rfl⟩
  go_loopg [17] T (fun gq i wr => ∃ j : Nat, gq + j = T ∧ i = .int .i64 j ∧ Hid (NS w wr X (X + 1) ra rb))
  case atStart => exact ⟨0, by omega, rfl, HNS⟩
  case round =>
    clear HNS HX
    generalize X + 1 = Y at *
    obtain ⟨j, hkj, rfl, HS⟩ := hrel
    by_cases hk : 0 < gk
    · have hjm : j < m := by omega
      have hj2 : j < 200 := by omega
      have z1 : (j : Int) < (m : Int) := by omega
      have z2 : (j : Int) < 200 := by omega
      have z0 : (0 : Int) ≤ (j : Int) := by omega
      have hx : os[j]? = some (os[j]'(by have := HO.out.1; omega)) := List.getElem?_eq_getElem _
      generalize os[j]'(by have := HO.out.1; omega) = o at *
      obtain ⟨blk, off, fo, fcap, rfl, hop⟩ := HO.out.2 j o hx
      obtain ⟨k, rr, hmod, hkb, hrr⟩ : ∃ (k rr : Nat), o.d1 % ((2 : Nat) : Int) = (k : Int) ∧ k < 2 ∧ (∀ w', NS w w' X Y ra rb → w'.cell? ⟨X, k, none⟩ = some (.pointer none) ∧ w'.cell? ⟨Y, k, none⟩ = some (.pointer (some ⟨rr, 0, none⟩)) ∧ Empty w' rr) := by
        have : o.d1 % 2 = 0 ∨ o.d1 % 2 = 1 := by omega
        rcases this with e | e
        · exact ⟨0, ra, e, by omega, fun w' h => ⟨h.cells.1, h.cells.2.2.1, h.a⟩⟩
        · exact ⟨1, rb, e, by omega, fun w' h => ⟨h.cells.2.1, h.cells.2.2.2, h.b⟩⟩
      have HRR := hide hrr
      have HPk : Hid (∀ w, Calls Try.prog 14 #[.int .i64 o.d1, .int .i64 2] w fun e w' => e = .returned (.int .i64 (k : Int)) ∧ w' = w) := fun w => by have := pick_any o.d1 2 2 w rfl (by omega) (by omega); rw [hmod] at this; exact this
      have hopr := hop.grown HS.out.grown
      have c0 := hopr.c0
      have c1 := hopr.c1
      have c2 := hopr.c2
      have c3 := hopr.c3
      have c4 := hopr.c4
      have c5 := hopr.c5
      have xk := (HRR.out _ HS.out).1
      have yk := (HRR.out _ HS.out).2.1
      have k0 : (0 : Int) ≤ (k : Int) := by omega
      have k1 : (k : Int) < 2 := by omega
      have HA := hide hop
      clear hop hopr hmod hx hrr
      go_wp2_with fail
      refine (HPk.out _).mono ?_
      rintro e wx ⟨rfl, rfl⟩
      go_wp2_with fail
      go_region_held3 (fun w' => w'.cell? ⟨X, k, none⟩ = some (.pointer none) ∧ w'.cell? ⟨Y, k, none⟩ = some (.pointer (some ⟨rr, 0, none⟩)) ∧ w'.cell? ⟨blk, off + j * 6, none⟩ = some (.int .i64 o.d0) ∧ w'.cell? ⟨blk, off + j * 6 + 1, none⟩ = some (.int .i64 o.d1) ∧ w'.cell? ⟨blk, off + j * 6 + 2, none⟩ = some (.int .i64 o.d2) ∧ w'.cell? ⟨blk, off + j * 6 + 3, none⟩ = some (.int .i64 o.d3) ∧ w'.cell? ⟨blk, off + j * 6 + 4, none⟩ = some (.int .i64 o.d4) ∧ w'.cell? ⟨blk, off + j * 6 + 5, none⟩ = some (.slice fo o.F.length fcap)) (first | exact ⟨xk, yk, c0, c1, c2, c3, c4, c5⟩ | exact SA)
        ((go_at_call 15; refine (one_none none rr o.d0 o.d1 o.d2 o.d3 o.d4 fo o.F.length fcap o.F _ (Or.inl rfl) (HRR.out _ (HS.out.next (grown_drew _ none))).2.2 rfl (HA.out.fin.at_.grown (HS.out.next (grown_drew _ none)).grown) HA.out.fin.nil HA.out.fin.size).mono ?_; rintro e wA ⟨rfl, gA⟩; have NA := (HS.out.next (grown_drew _ none)).next gA; have opA := HA.out.grown NA.grown; have SA : wA.cell? ⟨X, k, none⟩ = some (.pointer none) ∧ wA.cell? ⟨Y, k, none⟩ = some (.pointer (some ⟨rr, 0, none⟩)) ∧ wA.cell? ⟨blk, off + j * 6, none⟩ = some (.int .i64 o.d0) ∧ wA.cell? ⟨blk, off + j * 6 + 1, none⟩ = some (.int .i64 o.d1) ∧ wA.cell? ⟨blk, off + j * 6 + 2, none⟩ = some (.int .i64 o.d2) ∧ wA.cell? ⟨blk, off + j * 6 + 3, none⟩ = some (.int .i64 o.d3) ∧ wA.cell? ⟨blk, off + j * 6 + 4, none⟩ = some (.int .i64 o.d4) ∧ wA.cell? ⟨blk, off + j * 6 + 5, none⟩ = some (.slice fo o.F.length fcap) := ⟨(HRR.out _ NA).1, (HRR.out _ NA).2.1, opA.c0, opA.c1, opA.c2, opA.c3, opA.c4, opA.c5⟩; have HNA := hide NA; clear gA NA opA))
      obtain ⟨xA, yA, e0, -, -, -, -, -⟩ := SA
      obtain ⟨v, hv⟩ : ∃ v, o.d0 % ((7 : Nat) : Int) = v := ⟨_, rfl⟩
      have HP7 : Hid (∀ w, Calls Try.prog 14 #[.int .i64 o.d0, .int .i64 7] w fun e w' => e = .returned (.int .i64 v) ∧ w' = w) := fun w => by have := pick_any o.d0 7 7 w rfl (by omega) (by omega); rw [hv] at this; exact this
      clear hv c0 c1 c2 c3 c4 c5 xk yk
      by_cases h6 : v = 6
      · subst h6
        go_wp2_with fail
        refine (HP7.out _).mono ?_
        rintro e wy ⟨rfl, rfl⟩
        go_wp2
        go_roundg (gk - 1)
        case measure => omega
        case rel => exact ⟨j + 1, by omega, by go_num, HNA⟩
      · have e9 : (v == 6) = false := by simpa using h6
        have e9' : decide (v = 6) = false := by simpa using h6
        go_wp2_with fail
        refine (HP7.out _).mono ?_
        rintro e wy ⟨rfl, rfl⟩
        go_wp2
        go_roundg (gk - 1)
        case measure => omega
        case rel => exact ⟨j + 1, by omega, by go_num, HNA⟩
    · have hjT : j = T := by omega
      subst hjT
      go_upto_region 14 with fail
      go_cut [89] from 82 to 140 (fun s89 wx => s89 = .bool false ∧ wx = wr)
      case first =>
        by_cases hm3 : m < 201
        · have hjm : j = m := by omega
          subst hjm
          clear hT hkj hk
          go_wp2_with fail
          go_meet
          case rel => exact ⟨rfl, rfl⟩
        · have hjm : j = 200 := by omega
          subst hjm
          have hlt : (200 : Int) < (m : Int) := by omega
          clear hT hkj hk hm3
          go_wp2_with fail
          go_meet
          case rel => exact ⟨rfl, rfl⟩
      case rest =>
        obtain ⟨rfl, rfl⟩ := hcut
        clear hT hkj hk
        obtain ⟨xa, xb, ya, yb⟩ := HS.out.cells
        go_wp2_with fail
        refine wp_region_held_drew (S := fun w' => w'.cell? ⟨X, 0, none⟩ = some (.pointer none) ∧ w'.cell? ⟨X, 1, none⟩ = some (.pointer none) ∧ w'.cell? ⟨Y, 0, none⟩ = some (.pointer (some ⟨ra, 0, none⟩)) ∧ w'.cell? ⟨Y, 1, none⟩ = some (.pointer (some ⟨rb, 0, none⟩))) (by kernel_rfl) ?_ (fun hHeld => ?_)
        · (exact ⟨xa, xb, ya, yb⟩)
        refine wpAnyH_take (i := 0) (oi := { dst := some 141, op := Go.Op.move (Go.Operand.tmp 15), type := 32, pos := "law.go:115", after := #[], guard := none }) (v := ?_) rfl (by kernel_rfl) (by kernel_rfl) (by kernel_rfl) (fun _ _ _ h => h) (Or.inl ⟨by rfl, ?_⟩) (by assumption) ?_
        rotate_left
        · (intro w hSw; (try dsimp only at hSw); (go_simp <;> with_reducible rfl))
        try simp only [Act.put, List.setIfInBounds_toArray, List.set_cons_zero, List.set_cons_succ]
        refine wpAnyH_take (i := 1) (oi := { dst := some 142, op := Go.Op.indexAddr 32 (Go.Operand.tmp 141) (Go.Operand.const (Go.Value.int Go.IntKind.i64 0)), type := 0, pos := "law.go:115", after := #[{ on := 0, ground := Go.Ground.data }], guard := none }) (v := ?_) rfl (by kernel_rfl) (by kernel_rfl) (by kernel_rfl) (fun _ _ _ h => h) (Or.inl ⟨by rfl, ?_⟩) (by assumption) ?_
        rotate_left
        · (intro w hSw; (try dsimp only at hSw); (go_simp <;> with_reducible rfl))
        try simp only [Act.put, List.setIfInBounds_toArray, List.set_cons_zero, List.set_cons_succ]
        refine wpAnyH_take (i := 2) (oi := { dst := some 143, op := Go.Op.load 25 (Go.Operand.tmp 142), type := 25, pos := "law.go:115", after := #[{ on := 1, ground := Go.Ground.data }], guard := none }) (v := ?_) rfl (by kernel_rfl) (by kernel_rfl) (by kernel_rfl) (fun _ _ _ h => h) (Or.inl ⟨by rfl, ?_⟩) (by assumption) ?_
        rotate_left
        · (intro w hSw; (try dsimp only at hSw); (go_simp <;> with_reducible rfl))
        try simp only [Act.put, List.setIfInBounds_toArray, List.set_cons_zero, List.set_cons_succ]
        refine wpAnyH_take (i := 4) (oi := { dst := some 145, op := Go.Op.move (Go.Operand.tmp 16), type := 33, pos := "law.go:115", after := #[], guard := none }) (v := ?_) rfl (by kernel_rfl) (by kernel_rfl) (by kernel_rfl) (fun _ _ _ h => h) (Or.inl ⟨by rfl, ?_⟩) (by assumption) ?_
        rotate_left
        · (intro w hSw; (try dsimp only at hSw); (go_simp <;> with_reducible rfl))
        try simp only [Act.put, List.setIfInBounds_toArray, List.set_cons_zero, List.set_cons_succ]
        refine wpAnyH_take (i := 5) (oi := { dst := some 146, op := Go.Op.indexAddr 33 (Go.Operand.tmp 145) (Go.Operand.const (Go.Value.int Go.IntKind.i64 0)), type := 0, pos := "law.go:115", after := #[{ on := 4, ground := Go.Ground.data }], guard := none }) (v := ?_) rfl (by kernel_rfl) (by kernel_rfl) (by kernel_rfl) (fun _ _ _ h => h) (Or.inl ⟨by rfl, ?_⟩) (by assumption) ?_
        rotate_left
        · (intro w hSw; (try dsimp only at hSw); (go_simp <;> with_reducible rfl))
        try simp only [Act.put, List.setIfInBounds_toArray, List.set_cons_zero, List.set_cons_succ]
        refine wpAnyH_take (i := 6) (oi := { dst := some 147, op := Go.Op.load 29 (Go.Operand.tmp 146), type := 29, pos := "law.go:115", after := #[{ on := 5, ground := Go.Ground.data }], guard := none }) (v := ?_) rfl (by kernel_rfl) (by kernel_rfl) (by kernel_rfl) (fun _ _ _ h => h) (Or.inl ⟨by rfl, ?_⟩) (by assumption) ?_
        rotate_left
        · (intro w hSw; (try dsimp only at hSw); (go_simp <;> with_reducible rfl))
        try simp only [Act.put, List.setIfInBounds_toArray, List.set_cons_zero, List.set_cons_succ]
        refine wpAnyH_ready (rs := [3]) (by kernel_rfl) (by simp) ?_
        refine AllReadyH.cons (o := { dst := some 144, op := Go.Op.call { callee := Go.Callee.value (Go.Operand.func 19), args := #[Go.Operand.tmp 143], argTypes := #[25] }, type := 42, pos := "law.go:115", after := #[{ on := 2, ground := Go.Ground.data }], guard := none }) rfl (fun K hK => ?_) ?_
        rotate_left
        · exact AllReadyH.nil
        go_simp
        go_at_call 19
        refine (image_nil _).mono ?_
        rintro e w1 ⟨io1, rfl, g1⟩
        have Q1 := hide ((HS.out.next (grown_drew _ none)).next g1)
        have S1 := Q1.out.cells
        clear g1
        go_wp2_with fail
        refine hK.out _ _ ?_ (fun hHeld => ?_)
        · ((try dsimp only); first | exact S6 | exact S5 | exact S4 | exact S3 | exact S2 | exact S1)
        clear hK K
        try simp only [Act.put, List.setIfInBounds_toArray, List.set_cons_zero, List.set_cons_succ]
        refine wpAnyH_ready (rs := [7]) (by kernel_rfl) (by simp) ?_
        refine AllReadyH.cons (o := { dst := some 148, op := Go.Op.call { callee := Go.Callee.value (Go.Operand.func 20), args := #[Go.Operand.tmp 147], argTypes := #[29] }, type := 42, pos := "law.go:115", after := #[{ on := 6, ground := Go.Ground.data }, { on := 3, ground := Go.Ground.chain }], guard := none }) rfl (fun K hK => ?_) ?_
        rotate_left
        · exact AllReadyH.nil
        go_simp
        go_at_call 20
        refine (rimage0 Q1.out.a).mono ?_
        rintro e w2 ⟨rfl, hw2⟩
        have Q2 : Hid (NS w w2 X Y ra rb) := by (rw [hw2]; exact Q1)
        have S2 := Q2.out.cells
        clear hw2 S1
        go_wp2_with fail
        refine hK.out _ _ ?_ (fun hHeld => ?_)
        · ((try dsimp only); first | exact S6 | exact S5 | exact S4 | exact S3 | exact S2 | exact S1)
        clear hK K
        try simp only [Act.put, List.setIfInBounds_toArray, List.set_cons_zero, List.set_cons_succ]
        refine wpAnyH_ready (rs := [8]) (by kernel_rfl) (by simp) ?_
        refine AllReadyH.cons (o := { dst := some 149, op := Go.Op.call { callee := Go.Callee.value (Go.Operand.func 18), args := #[Go.Operand.tmp 144, Go.Operand.tmp 148], argTypes := #[42, 42] }, type := 4, pos := "law.go:115", after := #[{ on := 3, ground := Go.Ground.data }, { on := 7, ground := Go.Ground.data }, { on := 7, ground := Go.Ground.chain }], guard := none }) rfl (fun K hK => ?_) ?_
        rotate_left
        · exact AllReadyH.nil
        go_simp
        go_at_call 18
        refine (sameRows_eq io1 none 0 0 0 [] w2 rfl (fun j xs hj => by simp at hj) (fun j xs hj => by simp at hj) (by omega)).mono ?_
        rintro e w3 ⟨rfl, d3, hd3⟩
        have Q3 := hide (Q2.out.next (show World.grownBy _ w3 none by rw [hd3]; exact grown_drewN _ _ _))
        have S3 := Q3.out.cells
        clear hd3 S2
        go_wp2_with fail
        refine hK.out _ _ ?_ (fun hHeld => ?_)
        · ((try dsimp only); first | exact S6 | exact S5 | exact S4 | exact S3 | exact S2 | exact S1)
        clear hK K
        try simp only [Act.put, List.setIfInBounds_toArray, List.set_cons_zero, List.set_cons_succ]
        refine wpAnyH_take (i := 9) (oi := { dst := some 150, op := Go.Op.move (Go.Operand.tmp 149), type := 4, pos := "law.go:115", after := #[{ on := 8, ground := Go.Ground.data }, { on := 8, ground := Go.Ground.chain }], guard := none }) (v := ?_) rfl (by kernel_rfl) (by kernel_rfl) (by kernel_rfl) (fun _ _ _ h => h) (Or.inl ⟨by rfl, ?_⟩) (by assumption) ?_
        rotate_left
        · (intro w hSw; (try dsimp only at hSw); (go_simp <;> with_reducible rfl))
        try simp only [Act.put, List.setIfInBounds_toArray, List.set_cons_zero, List.set_cons_succ]
        refine wpAnyH_take (i := 10) (oi := { dst := some 151, op := Go.Op.move (Go.Operand.tmp 15), type := 32, pos := "law.go:115", after := #[{ on := 9, ground := Go.Ground.guard }], guard := some (9, true) }) (v := ?_) rfl (by kernel_rfl) (by kernel_rfl) (by kernel_rfl) (fun _ _ _ h => h) (Or.inl ⟨by rfl, ?_⟩) (by assumption) ?_
        rotate_left
        · (intro w hSw; (try dsimp only at hSw); (go_simp <;> with_reducible rfl))
        try simp only [Act.put, List.setIfInBounds_toArray, List.set_cons_zero, List.set_cons_succ]
        refine wpAnyH_take (i := 11) (oi := { dst := some 152, op := Go.Op.indexAddr 32 (Go.Operand.tmp 151) (Go.Operand.const (Go.Value.int Go.IntKind.i64 1)), type := 0, pos := "law.go:115", after := #[{ on := 10, ground := Go.Ground.data }, { on := 9, ground := Go.Ground.guard }], guard := some (9, true) }) (v := ?_) rfl (by kernel_rfl) (by kernel_rfl) (by kernel_rfl) (fun _ _ _ h => h) (Or.inl ⟨by rfl, ?_⟩) (by assumption) ?_
        rotate_left
        · (intro w hSw; (try dsimp only at hSw); (go_simp <;> with_reducible rfl))
        try simp only [Act.put, List.setIfInBounds_toArray, List.set_cons_zero, List.set_cons_succ]
        refine wpAnyH_take (i := 12) (oi := { dst := some 153, op := Go.Op.load 25 (Go.Operand.tmp 152), type := 25, pos := "law.go:115", after := #[{ on := 11, ground := Go.Ground.data }, { on := 9, ground := Go.Ground.guard }], guard := some (9, true) }) (v := ?_) rfl (by kernel_rfl) (by kernel_rfl) (by kernel_rfl) (fun _ _ _ h => h) (Or.inl ⟨by rfl, ?_⟩) (by assumption) ?_
        rotate_left
        · (intro w hSw; (try dsimp only at hSw); (go_simp <;> with_reducible rfl))
        try simp only [Act.put, List.setIfInBounds_toArray, List.set_cons_zero, List.set_cons_succ]
        refine wpAnyH_take (i := 14) (oi := { dst := some 155, op := Go.Op.move (Go.Operand.tmp 16), type := 33, pos := "law.go:115", after := #[{ on := 9, ground := Go.Ground.guard }], guard := some (9, true) }) (v := ?_) rfl (by kernel_rfl) (by kernel_rfl) (by kernel_rfl) (fun _ _ _ h => h) (Or.inl ⟨by rfl, ?_⟩) (by assumption) ?_
        rotate_left
        · (intro w hSw; (try dsimp only at hSw); (go_simp <;> with_reducible rfl))
        try simp only [Act.put, List.setIfInBounds_toArray, List.set_cons_zero, List.set_cons_succ]
        refine wpAnyH_take (i := 15) (oi := { dst := some 156, op := Go.Op.indexAddr 33 (Go.Operand.tmp 155) (Go.Operand.const (Go.Value.int Go.IntKind.i64 1)), type := 0, pos := "law.go:115", after := #[{ on := 14, ground := Go.Ground.data }, { on := 9, ground := Go.Ground.guard }], guard := some (9, true) }) (v := ?_) rfl (by kernel_rfl) (by kernel_rfl) (by kernel_rfl) (fun _ _ _ h => h) (Or.inl ⟨by rfl, ?_⟩) (by assumption) ?_
        rotate_left
        · (intro w hSw; (try dsimp only at hSw); (go_simp <;> with_reducible rfl))
        try simp only [Act.put, List.setIfInBounds_toArray, List.set_cons_zero, List.set_cons_succ]
        refine wpAnyH_take (i := 16) (oi := { dst := some 157, op := Go.Op.load 29 (Go.Operand.tmp 156), type := 29, pos := "law.go:115", after := #[{ on := 15, ground := Go.Ground.data }, { on := 9, ground := Go.Ground.guard }], guard := some (9, true) }) (v := ?_) rfl (by kernel_rfl) (by kernel_rfl) (by kernel_rfl) (fun _ _ _ h => h) (Or.inl ⟨by rfl, ?_⟩) (by assumption) ?_
        rotate_left
        · (intro w hSw; (try dsimp only at hSw); (go_simp <;> with_reducible rfl))
        try simp only [Act.put, List.setIfInBounds_toArray, List.set_cons_zero, List.set_cons_succ]
        refine wpAnyH_ready (rs := [13]) (by kernel_rfl) (by simp) ?_
        refine AllReadyH.cons (o := { dst := some 154, op := Go.Op.call { callee := Go.Callee.value (Go.Operand.func 19), args := #[Go.Operand.tmp 153], argTypes := #[25] }, type := 42, pos := "law.go:115", after := #[{ on := 12, ground := Go.Ground.data }, { on := 9, ground := Go.Ground.chain }, { on := 9, ground := Go.Ground.guard }], guard := some (9, true) }) rfl (fun K hK => ?_) ?_
        rotate_left
        · exact AllReadyH.nil
        go_simp
        go_at_call 19
        refine (image_nil _).mono ?_
        rintro e w4 ⟨io4, rfl, g4⟩
        have Q4 := hide (Q3.out.next g4)
        have S4 := Q4.out.cells
        clear g4 S3
        go_wp2_with fail
        refine hK.out _ _ ?_ (fun hHeld => ?_)
        · ((try dsimp only); first | exact S6 | exact S5 | exact S4 | exact S3 | exact S2 | exact S1)
        clear hK K
        try simp only [Act.put, List.setIfInBounds_toArray, List.set_cons_zero, List.set_cons_succ]
        refine wpAnyH_ready (rs := [17]) (by kernel_rfl) (by simp) ?_
        refine AllReadyH.cons (o := { dst := some 158, op := Go.Op.call { callee := Go.Callee.value (Go.Operand.func 20), args := #[Go.Operand.tmp 157], argTypes := #[29] }, type := 42, pos := "law.go:115", after := #[{ on := 16, ground := Go.Ground.data }, { on := 13, ground := Go.Ground.chain }, { on := 9, ground := Go.Ground.guard }], guard := some (9, true) }) rfl (fun K hK => ?_) ?_
        rotate_left
        · exact AllReadyH.nil
        go_simp
        go_at_call 20
        refine (rimage0 Q4.out.b).mono ?_
        rintro e w5 ⟨rfl, hw5⟩
        have Q5 : Hid (NS w w5 X Y ra rb) := by (rw [hw5]; exact Q4)
        have S5 := Q5.out.cells
        clear hw5 S4
        go_wp2_with fail
        refine hK.out _ _ ?_ (fun hHeld => ?_)
        · ((try dsimp only); first | exact S6 | exact S5 | exact S4 | exact S3 | exact S2 | exact S1)
        clear hK K
        try simp only [Act.put, List.setIfInBounds_toArray, List.set_cons_zero, List.set_cons_succ]
        refine wpAnyH_ready (rs := [18]) (by kernel_rfl) (by simp) ?_
        refine AllReadyH.cons (o := { dst := some 159, op := Go.Op.call { callee := Go.Callee.value (Go.Operand.func 18), args := #[Go.Operand.tmp 154, Go.Operand.tmp 158], argTypes := #[42, 42] }, type := 4, pos := "law.go:115", after := #[{ on := 13, ground := Go.Ground.data }, { on := 17, ground := Go.Ground.data }, { on := 17, ground := Go.Ground.chain }, { on := 9, ground := Go.Ground.guard }], guard := some (9, true) }) rfl (fun K hK => ?_) ?_
        rotate_left
        · exact AllReadyH.nil
        go_simp
        go_at_call 18
        refine (sameRows_eq io4 none 0 0 0 [] w5 rfl (fun j xs hj => by simp at hj) (fun j xs hj => by simp at hj) (by omega)).mono ?_
        rintro e w6 ⟨rfl, d6, hd6⟩
        have Q6 := hide (Q5.out.next (show World.grownBy _ w6 none by rw [hd6]; exact grown_drewN _ _ _))
        have S6 := Q6.out.cells
        clear hd6 S5
        go_wp2_with fail
        refine hK.out _ _ ?_ (fun hHeld => ?_)
        · ((try dsimp only); first | exact S6 | exact S5 | exact S4 | exact S3 | exact S2 | exact S1)
        clear hK K
        try simp only [Act.put, List.setIfInBounds_toArray, List.set_cons_zero, List.set_cons_succ]
        refine wpAnyH_take (i := 19) (oi := { dst := some 160, op := Go.Op.pick (Go.Operand.tmp 150) (Go.Operand.tmp 159) (Go.Operand.const (Go.Value.bool false)), type := 4, pos := "law.go:115", after := #[{ on := 9, ground := Go.Ground.data }, { on := 18, ground := Go.Ground.data }], guard := none }) (v := ?_) rfl (by kernel_rfl) (by kernel_rfl) (by kernel_rfl) (fun _ _ _ h => h) (Or.inl ⟨by rfl, ?_⟩) (by assumption) ?_
        rotate_left
        · (intro w hSw; (try dsimp only at hSw); (go_simp <;> with_reducible rfl))
        try simp only [Act.put, List.setIfInBounds_toArray, List.set_cons_zero, List.set_cons_succ]
        refine wpAnyH_take (i := 20) (oi := { dst := some 6, op := Go.Op.assign (Go.Operand.tmp 160), type := 4, pos := "law.go:115", after := #[{ on := 19, ground := Go.Ground.data }, { on := 18, ground := Go.Ground.chain }, { on := 0, ground := Go.Ground.phase }, { on := 1, ground := Go.Ground.phase }, { on := 2, ground := Go.Ground.phase }, { on := 3, ground := Go.Ground.phase }, { on := 4, ground := Go.Ground.phase }, { on := 5, ground := Go.Ground.phase }, { on := 6, ground := Go.Ground.phase }, { on := 7, ground := Go.Ground.phase }, { on := 8, ground := Go.Ground.phase }, { on := 9, ground := Go.Ground.phase }, { on := 10, ground := Go.Ground.phase }, { on := 11, ground := Go.Ground.phase }, { on := 12, ground := Go.Ground.phase }, { on := 13, ground := Go.Ground.phase }, { on := 14, ground := Go.Ground.phase }, { on := 15, ground := Go.Ground.phase }, { on := 16, ground := Go.Ground.phase }, { on := 17, ground := Go.Ground.phase }, { on := 18, ground := Go.Ground.phase }, { on := 19, ground := Go.Ground.phase }], guard := none }) (v := ?_) rfl (by kernel_rfl) (by kernel_rfl) (by kernel_rfl) (fun _ _ _ h => h) (Or.inl ⟨by rfl, ?_⟩) (by assumption) ?_
        rotate_left
        · (intro w hSw; (try dsimp only at hSw); (go_simp <;> with_reducible rfl))
        try simp only [Act.put, List.setIfInBounds_toArray, List.set_cons_zero, List.set_cons_succ]
        refine wpAnyH_done (by kernel_rfl) ?_ _
        go_wp2
        go_ret
        exact ⟨rfl, Q6.out.grown⟩
end Go.Proofs.Ytgcfjphjekkkmaa
