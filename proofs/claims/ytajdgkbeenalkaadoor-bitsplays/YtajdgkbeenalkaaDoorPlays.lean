/- BitsPlays, walked. -/
import Derived.Test.YtajdgkbeenalkaaDoorPlays0
import Derived.Deep.CutRange
import Derived.Deep.DeepCutAuto
namespace Go.Proofs.YtajdgkbeenalkaaDoor
open Go.RowKit Go.Shelf
attribute [local go_sem ↓] Go.wp_at_zero Go.wp_at_succ

/-- A script lies where ao leads: the calls' three numbers. -/
def OpsB (w : World) (ao : Option Addr) (os : List (Int × Int × Int)) : Prop := ∀ j o, os[j]? = some o → ∃ blk off, ao = some ⟨blk, off, none⟩ ∧
  w.cell? ⟨blk, off + j * 3, none⟩ = some (.int .i64 o.1) ∧ w.cell? ⟨blk, off + j * 3 + 1, none⟩ = some (.int .i64 o.2.1) ∧ w.cell? ⟨blk, off + j * 3 + 2, none⟩ = some (.int .i64 o.2.2)

theorem rnew_lies (n : Nat) (w : World) (h : n ≤ 65536) :
    Calls Tryd.prog 11 #[.int .i64 (n : Int)] w fun e w' => ∃ d r, e = .returned (.tuple #[.pointer (some ⟨d, 0, none⟩), .int .i64 0]) ∧ RefAt w' d r true (List.replicate n false) ∧ w.heap.size ≤ d ∧ w.heap.size ≤ r ∧ w.grownBy w' none ∧ r < w'.heap.size ∧ ∃ v cap, w'.heap[d]? = some (.cells #[v, .slice (some ⟨r, 0, none⟩) n cap] 33 (0, 0)) := by
  have hmk := make_bools n (by omega)
  have h1 : (0 : Int) ≤ (n : Int) := by omega
  have h2 : (n : Int) ≤ 65536 := by omega
  go_enter Tryd.func11, Tryd.ntmps11
  go_wp2
  go_ret2
  have e1 := heap_alloc_new (w.alloc (.cells ((List.replicate n false).map Value.bool).toArray 4)) (Obj.cells #[.bool true, .slice (some ⟨w.heap.size, 0, none⟩) n n] 33)
  rw [World.size_alloc] at e1
  refine ⟨w.heap.size + 1, w.heap.size, rfl, ?_, by omega, Nat.le_refl _, grown_trans (World.grownBy_alloc w _ _) (World.grownBy_alloc _ _ _), by simp; omega, ⟨_, _, by simpa using e1⟩⟩
  refine ⟨some ⟨w.heap.size, 0, none⟩, n, ?_, by simpa using h, Or.inr ⟨(List.replicate n false).map Value.bool, rfl, ?_, by simp, by simp, by simp, by unfold maxLen; omega⟩⟩
  · simpa using e1
  · have := (Below.heap_alloc (w.alloc (.cells ((List.replicate n false).map Value.bool).toArray 4)) (Obj.cells #[.bool true, .slice (some ⟨w.heap.size, 0, none⟩) n n] 33) w.heap.size (by simp)).trans (heap_alloc_new w _)
    simpa using this

/-- There are two such pairs. -/
def PSx (w0 w : World) (X Y c n : Nat) : Prop := ∃ b0 g0 d0 r0 b1 g1 d1 r1 L0 L1, PS w0 w X Y c n b0 g0 d0 r0 b1 g1 d1 r1 L0 L1

set_option maxRecDepth 100000 in
set_option maxHeartbeats 4000000 in
theorem plays_ok (n : Nat) (hn : n ≤ 65536) (ao : Option Addr) (m cap : Nat) (os : List (Int × Int × Int)) (w : World) (hT : Tab w) (hos : os.length = m) (hat : OpsB w ao os) (hm : m ≤ 4611686018427387904) :
    Calls Tryd.prog 3 #[.int .i64 (n : Int), .slice ao m cap] w fun e w' => e = .returned (.bool true) ∧ w.grownBy w' none := by
  have H := hide (And.intro hT (And.intro hos hat))
  clear hT hos hat
  have hn0 : (0 : Int) ≤ (n : Int) := by omega
  go_enter Tryd.func3, Tryd.ntmps3
  go_wp2_with fail
  refine (awake_any w H.out.1).mono ?_
  rintro e w1 ⟨rfl, hg1⟩
  have H1 := hide hg1
  clear hg1
  go_wp2_with fail
  refine (new_any n w1 hn (H.out.1.kept H1.out (by simp)).lt).mono ?_
  rintro e w2 ⟨b0, g0, rfl, hS0, hb0, hg0, hG2⟩
  have H2 := hide (And.intro hS0 (And.intro hG2 (And.intro hb0 hg0)))
  clear hS0 hG2 hb0 hg0
  go_wp2_with fail
  refine (new_any n w2 hn (H.out.1.kept (grown_trans H1.out H2.out.2.1) (by simp)).lt).mono ?_
  rintro e w3 ⟨b1, g1, rfl, hS1, hb1, hg1, hG3⟩
  have H3 := hide (And.intro hS1 (And.intro hG3 (And.intro hb1 hg1)))
  clear hS1 hG3 hb1 hg1
  go_wp2_with fail
  refine (rnew_lies n w3 hn).mono ?_
  rintro e w4 ⟨d0, r0, rfl, hR0, hd0, hr0, hG4, hrl0, hl0⟩
  have H4 := hide (And.intro hR0 (And.intro hG4 (And.intro hr0 (And.intro hrl0 hl0))))
  clear hR0 hG4 hr0 hrl0 hl0 hd0
  go_wp2_with fail
  refine (rnew_lies n w4 hn).mono ?_
  rintro e w5 ⟨d1, r1, rfl, hR1, hd1, hr1, hG5, hrl1, hl1⟩
  have H5 := hide (And.intro hR1 (And.intro hG5 (And.intro hr1 (And.intro hrl1 hl1))))
  clear hR1 hG5 hr1 hrl1 hl1 hd1
  have hth : w5.cell? ⟨d0, 0, none⟩ = some (.bool true) := (H4.out.1.grown H5.out.2.1).there
  obtain ⟨X, hX⟩ : ∃ X, X = w5.heap.size := ⟨_, rfl⟩
  have HP : Hid (PS w ((w5.alloc (.cells #[.pointer (some ⟨b0, 0, none⟩), .pointer (some ⟨b1, 0, none⟩)] 24)).alloc (.cells #[.pointer (some ⟨d0, 0, none⟩), .pointer (some ⟨d1, 0, none⟩)] 28)) X (X + 1) d0 n b0 g0 d0 r0 b1 g1 d1 r1 (List.replicate n false) (List.replicate n false)) := by
    subst hX
    obtain ⟨hS0, hG2, hb0, hg0⟩ := H2.out
    obtain ⟨hS1, hG3, hb1, hg1⟩ := H3.out
    obtain ⟨hR0, hG4, hr0, hrl0, v0, c0, hl0⟩ := H4.out
    obtain ⟨hR1, hG5, hr1, hrl1, v1, c1, hl1⟩ := H5.out
    have a1 := World.grownBy_alloc w5 (.cells #[.pointer (some ⟨b0, 0, none⟩), .pointer (some ⟨b1, 0, none⟩)] 24) none
    have a2 := World.grownBy_alloc (w5.alloc (.cells #[.pointer (some ⟨b0, 0, none⟩), .pointer (some ⟨b1, 0, none⟩)] 24)) (.cells #[.pointer (some ⟨d0, 0, none⟩), .pointer (some ⟨d1, 0, none⟩)] 28) none
    have G15 := grown_trans (grown_trans (grown_trans hG2 hG3) hG4) hG5
    have GF := grown_trans (grown_trans H1.out G15) (grown_trans a1 a2)
    have z1 := H1.out.size
    have z2 := hG2.size
    have z3 := hG3.size
    have z4 := hG4.size
    have z5 := hG5.size
    have t0 := hS0.lt
    have t1 := H.out.1.lt
    have e2 := heap_alloc_new (w5.alloc (.cells #[.pointer (some ⟨b0, 0, none⟩), .pointer (some ⟨b1, 0, none⟩)] 24)) (.cells #[.pointer (some ⟨d0, 0, none⟩), .pointer (some ⟨d1, 0, none⟩)] 28)
    rw [World.size_alloc] at e2
    have q0 := hR0.lt
    refine ⟨(Below.heap_alloc _ _ _ (by simp)).trans (heap_alloc_new w5 _), e2, ⟨.slice (some ⟨r0, 0, none⟩) n c0, ?_⟩, ⟨⟨hS0.kept (grown_trans (grown_trans (grown_trans hG3 hG4) hG5) (grown_trans a1 a2)) (by simp) (by simp), hR0.grown (grown_trans hG5 (grown_trans a1 a2)), H.out.1.kept GF (by simp)⟩, v0, c0, ?_⟩, ⟨⟨hS1.kept (grown_trans (grown_trans hG4 hG5) (grown_trans a1 a2)) (by simp) (by simp), hR1.grown (grown_trans a1 a2), H.out.1.kept GF (by simp)⟩, v1, c1, ?_⟩, by omega, by omega, by simp, by simp, ⟨by omega, by omega⟩, ⟨by omega, by omega⟩, ⟨by omega, by omega⟩, t1, GF⟩
    · have hv : v0 = .bool true := by
        have := hR0.there
        simp [World.cell?, hl0] at this
        exact this
      rw [← hv]
      exact ((grown_trans hG5 (grown_trans a1 a2)).block d0 q0 (by simp)).trans hl0
    · rw [List.length_replicate]; exact ((grown_trans hG5 (grown_trans a1 a2)).block d0 q0 (by simp)).trans hl0
    · rw [List.length_replicate]; exact ((grown_trans a1 a2).block d1 hR1.lt (by simp)).trans hl1
  have HX := hide hX
  clear hX
  go_wp2
  rw [← HX.out]
  have HPX : Hid (PSx w ((w5.alloc (.cells #[.pointer (some ⟨b0, 0, none⟩), .pointer (some ⟨b1, 0, none⟩)] 24)).alloc (.cells #[.pointer (some ⟨d0, 0, none⟩), .pointer (some ⟨d1, 0, none⟩)] 28)) X (X + 1) d0 n) := ⟨_, _, _, _, _, _, _, _, _, _, HP.out⟩
  clear H1 H2 H3 H4 H5 HP hth
  go_loopg [15] m (fun k I wr => ∃ j : Nat, k + j = m ∧ I = .int .i64 (j : Int) ∧ Hid (PSx w wr X (X + 1) d0 n))
  case atStart => exact ⟨0, by omega, rfl, HPX⟩
  case round =>
    clear HPX HX
    generalize X + 1 = Y at *
    obtain ⟨j, hkj, rfl, hS⟩ := hrel
    by_cases hgo : j < m ∧ (j < 2000 ∨ n < 200)
    · have hjm : (j : Int) < (m : Int) := by omega
      have hj0 : (0 : Int) ≤ (j : Int) := by omega
      go_upto_region 12 with fail
      go_cut [83] from 72 to 154 (fun s83 wx => s83 = .bool true ∧ wx = wr)
      case first =>
        by_cases h2 : j < 2000
        · have h2' : (j : Int) < 2000 := by omega
          clear hgo
          go_wp2
          go_meet
          case rel => exact ⟨rfl, rfl⟩
        · have h2' : ¬ (j : Int) < 2000 := by omega
          have h3 : (n : Int) < 200 := by omega
          clear hgo
          go_wp2
          go_meet
          case rel => exact ⟨rfl, rfl⟩
      case rest =>
        obtain ⟨rfl, rfl⟩ := hcut
        clear hgo
        obtain ⟨b0, g0, d0', r0, b1, g1, d1, r1, L0, L1, hS⟩ := hS.out
        obtain ⟨_, hos, hat⟩ := H.out
        obtain ⟨blk, off, rfl, q0, q1, q2⟩ := hat j os[j] (by simp)
        have q0' := hS.grown.cell q0 (by simp)
        have q1' := hS.grown.cell q1 (by simp)
        have q2' := hS.grown.cell q2 (by simp)
        have HS := hide hS
        generalize os[j] = o at *
        obtain ⟨Do, On, I⟩ := o
        simp only at q0' q1' q2'
        clear hS hos hat q0 q1 q2
        have H2 : On % 2 = 0 ∨ On % 2 = 1 := by omega
        have HB6 : Hid ((wc.alloc (Obj.cells #[Value.int IntKind.i64 Do, Value.int IntKind.i64 On, Value.int IntKind.i64 I] 37)).heap[wc.heap.size]? = some (.cells #[Value.int IntKind.i64 Do, Value.int IntKind.i64 On, Value.int IntKind.i64 I] 37 (0, 0))) := heap_alloc_new wc _
        have HS6 := hide (HS.out.kept (World.grownBy_alloc wc (Obj.cells #[Value.int IntKind.i64 Do, Value.int IntKind.i64 On, Value.int IntKind.i64 I] 37) none))
        obtain ⟨v, hv⟩ : ∃ v, Do % 11 = v := ⟨_, rfl⟩
        have hvb : 0 ≤ v ∧ v < 11 := by omega
        have HV := hide hv
        clear hv
        rcases H2 with hk | hk
        · have HK := hide hk
          clear hk
          go_wp2_with fail
          refine (pick2v On 0 _ HK.out).mono ?_
          rintro e w6 ⟨rfl, rfl⟩
          generalize wc.alloc (Obj.cells #[Value.int IntKind.i64 Do, Value.int IntKind.i64 On, Value.int IntKind.i64 I] 37) = w6 at *
          generalize wc.heap.size = B at *
          clear HS q0' q1' q2'
          have HS7 := hide (HS6.out.kept (grown_drew w6 none))
          have HB7 : Hid (w6.drew.heap[B]? = some (.cells #[Value.int IntKind.i64 Do, Value.int IntKind.i64 On, Value.int IntKind.i64 I] 37 (0, 0))) := HB6.out
          have HC := HS6.out.cells HB6.out
          by_cases h9 : v = 9
          · subst h9
            obtain ⟨q, hq⟩ : ∃ q, decide (L0 = L1) = q := ⟨_, rfl⟩
            have HQ := hide hq
            clear hq
            go_wp2_with fail
            go_region_held3 (fun w' => w'.cell? ⟨X, 0, none⟩ = some (.pointer (some ⟨b0, 0, none⟩)) ∧ w'.cell? ⟨X, 1, none⟩ = some (.pointer (some ⟨b1, 0, none⟩)) ∧ w'.cell? ⟨Y, 0, none⟩ = some (.pointer (some ⟨d0', 0, none⟩)) ∧ w'.cell? ⟨Y, 1, none⟩ = some (.pointer (some ⟨d1, 0, none⟩)) ∧ w'.cell? ⟨B, 0, none⟩ = some (.int .i64 Do) ∧ w'.cell? ⟨B, 1, none⟩ = some (.int .i64 On) ∧ w'.cell? ⟨B, 2, none⟩ = some (.int .i64 I) ∧ PS w w' X Y d0 n b0 g0 d0' r0 b1 g1 d1 r1 L0 L1) (first | assumption | exact HS7.out.cells8 HB7.out)
              ((first
                | (go_at_call 13; refine (HS7.out.call0 Do On I).mono ?_; rintro e wA ⟨rfl, hGA, hPA⟩; rw [oneF_9 _ _ _ HV.out] at hPA; have hBA := HS7.out.box0 HB7.out hGA; have hCA := hPA.cells8 hBA)
                | (go_at_call 12; refine (pick11v Do 9 _ HV.out).mono ?_; rintro e wB ⟨rfl, rfl⟩)
                | (go_at_call 14; refine (hPA.same HQ.out).mono ?_; rintro e wD ⟨rfl, hPD, hGD⟩; have hBD := (hGD.block B (row_lt hBA) (by simp)).trans hBA; have hCD := hPD.cells8 hBD)
                | (go_at_call 15; refine (hPD.rsame HQ.out).mono ?_; rintro e wE ⟨rfl, hPE, hGE⟩; have hBE := (hGE.block B (row_lt hBD) (by simp)).trans hBD; have hCE := hPE.cells8 hBE)))
            have k4 : wE.cell? ⟨B, 0, none⟩ = some (.int .i64 Do) := by simp [World.cell?, hBE]
            have HPE := hide hPE
            clear hPE hPA hPD hCA hCD hCE hBA hBD hBE hGA hGD hGE HC HS6 HS7 HB6 HB7
            go_wp2_with fail
            refine (pick11v Do 9 _ HV.out).mono ?_
            rintro e wC ⟨rfl, rfl⟩
            go_wp2
            go_roundg (gk - 1)
            case measure => omega
            case rel => exact ⟨j + 1, by omega, by go_num, ⟨_, _, _, _, _, _, _, _, _, _, HPE.out⟩⟩
          · have e9 : (v == 9) = false := by simpa using h9
            have e9' : decide (v = 9) = false := by simpa using h9
            go_wp2_with fail
            refine wp_region_held_drew (S := (fun w' => w'.cell? ⟨X, 0, none⟩ = some (.pointer (some ⟨b0, 0, none⟩)) ∧ w'.cell? ⟨X, 1, none⟩ = some (.pointer (some ⟨b1, 0, none⟩)) ∧ w'.cell? ⟨Y, 0, none⟩ = some (.pointer (some ⟨d0', 0, none⟩)) ∧ w'.cell? ⟨Y, 1, none⟩ = some (.pointer (some ⟨d1, 0, none⟩)) ∧ w'.cell? ⟨B, 0, none⟩ = some (.int .i64 Do) ∧ w'.cell? ⟨B, 1, none⟩ = some (.int .i64 On) ∧ w'.cell? ⟨B, 2, none⟩ = some (.int .i64 I))) (by kernel_rfl) ?_ (fun hHeld => ?_)
            · (exact HS7.out.cells HB7.out)
            refine wpAnyH_take (i := 0) (oi := { dst := some 93, op := Go.Op.move (Go.Operand.tmp 13), type := 34, pos := "law.go:82", after := #[], guard := none }) (v := ?_) rfl (by kernel_rfl) (by kernel_rfl) (by kernel_rfl) (fun _ _ _ h => h) (Or.inl ⟨by rfl, ?_⟩) (by assumption) ?_
            rotate_left
            · (intro w hSw; (try dsimp only at hSw); (go_simp <;> with_reducible rfl))
            try simp only [Act.put, List.setIfInBounds_toArray, List.set_cons_zero, List.set_cons_succ]
            refine wpAnyH_take (i := 1) (oi := { dst := some 94, op := Go.Op.move (Go.Operand.tmp 17), type := 3, pos := "law.go:82", after := #[], guard := none }) (v := ?_) rfl (by kernel_rfl) (by kernel_rfl) (by kernel_rfl) (fun _ _ _ h => h) (Or.inl ⟨by rfl, ?_⟩) (by assumption) ?_
            rotate_left
            · (intro w hSw; (try dsimp only at hSw); (go_simp <;> with_reducible rfl))
            try simp only [Act.put, List.setIfInBounds_toArray, List.set_cons_zero, List.set_cons_succ]
            refine wpAnyH_take (i := 2) (oi := { dst := some 95, op := Go.Op.indexAddr 34 (Go.Operand.tmp 93) (Go.Operand.tmp 94), type := 0, pos := "law.go:82", after := #[{ on := 0, ground := Go.Ground.data }, { on := 1, ground := Go.Ground.data }], guard := none }) (v := ?_) rfl (by kernel_rfl) (by kernel_rfl) (by kernel_rfl) (fun _ _ _ h => h) (Or.inl ⟨by rfl, ?_⟩) (by assumption) ?_
            rotate_left
            · (intro w hSw; (try dsimp only at hSw); (go_simp <;> with_reducible rfl))
            try simp only [Act.put, List.setIfInBounds_toArray, List.set_cons_zero, List.set_cons_succ]
            refine wpAnyH_take (i := 3) (oi := { dst := some 96, op := Go.Op.load 24 (Go.Operand.tmp 95), type := 24, pos := "law.go:82", after := #[{ on := 2, ground := Go.Ground.data }], guard := none }) (v := ?_) rfl (by kernel_rfl) (by kernel_rfl) (by kernel_rfl) (fun _ _ _ h => h) (Or.inl ⟨by rfl, ?_⟩) (by assumption) ?_
            rotate_left
            · (intro w hSw; (try dsimp only at hSw); (go_simp <;> with_reducible rfl))
            try simp only [Act.put, List.setIfInBounds_toArray, List.set_cons_zero, List.set_cons_succ]
            refine wpAnyH_take (i := 4) (oi := { dst := some 97, op := Go.Op.move (Go.Operand.tmp 14), type := 35, pos := "law.go:82", after := #[], guard := none }) (v := ?_) rfl (by kernel_rfl) (by kernel_rfl) (by kernel_rfl) (fun _ _ _ h => h) (Or.inl ⟨by rfl, ?_⟩) (by assumption) ?_
            rotate_left
            · (intro w hSw; (try dsimp only at hSw); (go_simp <;> with_reducible rfl))
            try simp only [Act.put, List.setIfInBounds_toArray, List.set_cons_zero, List.set_cons_succ]
            refine wpAnyH_take (i := 5) (oi := { dst := some 98, op := Go.Op.move (Go.Operand.tmp 17), type := 3, pos := "law.go:82", after := #[], guard := none }) (v := ?_) rfl (by kernel_rfl) (by kernel_rfl) (by kernel_rfl) (fun _ _ _ h => h) (Or.inl ⟨by rfl, ?_⟩) (by assumption) ?_
            rotate_left
            · (intro w hSw; (try dsimp only at hSw); (go_simp <;> with_reducible rfl))
            try simp only [Act.put, List.setIfInBounds_toArray, List.set_cons_zero, List.set_cons_succ]
            refine wpAnyH_take (i := 6) (oi := { dst := some 99, op := Go.Op.indexAddr 35 (Go.Operand.tmp 97) (Go.Operand.tmp 98), type := 0, pos := "law.go:82", after := #[{ on := 4, ground := Go.Ground.data }, { on := 5, ground := Go.Ground.data }], guard := none }) (v := ?_) rfl (by kernel_rfl) (by kernel_rfl) (by kernel_rfl) (fun _ _ _ h => h) (Or.inl ⟨by rfl, ?_⟩) (by assumption) ?_
            rotate_left
            · (intro w hSw; (try dsimp only at hSw); (go_simp <;> with_reducible rfl))
            try simp only [Act.put, List.setIfInBounds_toArray, List.set_cons_zero, List.set_cons_succ]
            refine wpAnyH_take (i := 7) (oi := { dst := some 100, op := Go.Op.load 28 (Go.Operand.tmp 99), type := 28, pos := "law.go:82", after := #[{ on := 6, ground := Go.Ground.data }], guard := none }) (v := ?_) rfl (by kernel_rfl) (by kernel_rfl) (by kernel_rfl) (fun _ _ _ h => h) (Or.inl ⟨by rfl, ?_⟩) (by assumption) ?_
            rotate_left
            · (intro w hSw; (try dsimp only at hSw); (go_simp <;> with_reducible rfl))
            try simp only [Act.put, List.setIfInBounds_toArray, List.set_cons_zero, List.set_cons_succ]
            refine wpAnyH_take (i := 8) (oi := { dst := some 101, op := Go.Op.load 37 (Go.Operand.tmp 16), type := 37, pos := "law.go:82", after := #[], guard := none }) (v := ?_) rfl (by kernel_rfl) (by kernel_rfl) (by kernel_rfl) (fun _ _ _ h => h) (Or.inl ⟨by rfl, ?_⟩) (by assumption) ?_
            rotate_left
            · (intro w hSw; (try dsimp only at hSw); (go_simp <;> with_reducible rfl))
            try simp only [Act.put, List.setIfInBounds_toArray, List.set_cons_zero, List.set_cons_succ]
            refine wpAnyH_ready (rs := [9]) (by kernel_rfl) (by simp) ?_
            refine AllReadyH.cons (o := { dst := some 102, op := Go.Op.call { callee := Go.Callee.value (Go.Operand.func 13), args := #[Go.Operand.tmp 96, Go.Operand.tmp 100, Go.Operand.tmp 101], argTypes := #[24, 28, 37] }, type := 4, pos := "law.go:82", after := #[{ on := 3, ground := Go.Ground.data }, { on := 7, ground := Go.Ground.data }, { on := 8, ground := Go.Ground.data }], guard := none }) rfl (fun K hK => ?_) ?_
            rotate_left
            · exact AllReadyH.nil
            go_simp
            refine (HS7.out.call0 Do On I).mono ?_
            rintro e wA ⟨rfl, hGA, hPA⟩
            have hBA := HS7.out.box0 HB7.out hGA
            have hCA := hPA.cells hBA
            go_wp2_with fail
            refine hK.out _ _ ?_ (fun hHeld => ?_)
            · ((try dsimp only); assumption)
            clear hK K
            try simp only [Act.put, List.setIfInBounds_toArray, List.set_cons_zero, List.set_cons_succ]
            refine wpAnyH_take (i := 10) (oi := { dst := some 103, op := Go.Op.unOp Go.UnOp.not 4 (Go.Operand.tmp 102), type := 4, pos := "law.go:82", after := #[{ on := 9, ground := Go.Ground.data }], guard := none }) (v := ?_) rfl (by kernel_rfl) (by kernel_rfl) (by kernel_rfl) (fun _ _ _ h => h) (Or.inl ⟨by rfl, ?_⟩) (by assumption) ?_
            rotate_left
            · (intro w hSw; (try dsimp only at hSw); (go_simp <;> with_reducible rfl))
            try simp only [Act.put, List.setIfInBounds_toArray, List.set_cons_zero, List.set_cons_succ]
            refine wpAnyH_take (i := 11) (oi := { dst := some 104, op := Go.Op.move (Go.Operand.tmp 103), type := 4, pos := "law.go:82", after := #[{ on := 10, ground := Go.Ground.data }, { on := 9, ground := Go.Ground.chain }], guard := none }) (v := ?_) rfl (by kernel_rfl) (by kernel_rfl) (by kernel_rfl) (fun _ _ _ h => h) (Or.inl ⟨by rfl, ?_⟩) (by assumption) ?_
            rotate_left
            · (intro w hSw; (try dsimp only at hSw); (go_simp <;> with_reducible rfl))
            try simp only [Act.put, List.setIfInBounds_toArray, List.set_cons_zero, List.set_cons_succ]
            refine wpAnyH_take (i := 12) (oi := { dst := some 105, op := Go.Op.fieldAddr 37 (Go.Operand.tmp 16) 0, type := 0, pos := "law.go:82", after := #[{ on := 11, ground := Go.Ground.guard }], guard := some (11, false) }) (v := ?_) rfl (by kernel_rfl) (by kernel_rfl) (by kernel_rfl) (fun _ _ _ h => h) (Or.inl ⟨by rfl, ?_⟩) (by assumption) ?_
            rotate_left
            · (intro w hSw; (try dsimp only at hSw); (go_simp <;> with_reducible rfl))
            try simp only [Act.put, List.setIfInBounds_toArray, List.set_cons_zero, List.set_cons_succ]
            refine wpAnyH_take (i := 13) (oi := { dst := some 106, op := Go.Op.load 3 (Go.Operand.tmp 105), type := 3, pos := "law.go:82", after := #[{ on := 12, ground := Go.Ground.data }, { on := 11, ground := Go.Ground.guard }], guard := some (11, false) }) (v := ?_) rfl (by kernel_rfl) (by kernel_rfl) (by kernel_rfl) (fun _ _ _ h => h) (Or.inl ⟨by rfl, ?_⟩) (by assumption) ?_
            rotate_left
            · (intro w hSw; (try dsimp only at hSw); (go_simp <;> with_reducible rfl))
            try simp only [Act.put, List.setIfInBounds_toArray, List.set_cons_zero, List.set_cons_succ]
            refine wpAnyH_ready (rs := [14]) (by kernel_rfl) (by simp) ?_
            refine AllReadyH.cons (o := { dst := some 107, op := Go.Op.call { callee := Go.Callee.value (Go.Operand.func 12), args := #[Go.Operand.tmp 106, Go.Operand.const (Go.Value.int Go.IntKind.i64 11)], argTypes := #[3, 3] }, type := 3, pos := "law.go:82", after := #[{ on := 13, ground := Go.Ground.data }, { on := 11, ground := Go.Ground.chain }, { on := 11, ground := Go.Ground.guard }], guard := some (11, false) }) rfl (fun K hK => ?_) ?_
            rotate_left
            · exact AllReadyH.nil
            go_simp
            refine (pick11v Do v _ HV.out).mono ?_
            rintro e wB ⟨rfl, rfl⟩
            go_wp2_with fail
            refine hK.out _ _ ?_ (fun hHeld => ?_)
            · ((try dsimp only); assumption)
            clear hK K
            try simp only [Act.put, List.setIfInBounds_toArray, List.set_cons_zero, List.set_cons_succ]
            refine wpAnyH_take (i := 15) (oi := { dst := some 108, op := Go.Op.binOp Go.BinOp.eql 3 (Go.Operand.tmp 107) (Go.Operand.const (Go.Value.int Go.IntKind.i64 9)) 3, type := 4, pos := "law.go:82", after := #[{ on := 14, ground := Go.Ground.data }, { on := 11, ground := Go.Ground.guard }], guard := some (11, false) }) (v := ?_) rfl (by kernel_rfl) (by kernel_rfl) (by kernel_rfl) (fun _ _ _ h => h) (Or.inl ⟨by rfl, ?_⟩) (by assumption) ?_
            rotate_left
            · (intro w hSw; (try dsimp only at hSw); (go_simp <;> with_reducible rfl))
            try simp only [Act.put, List.setIfInBounds_toArray, List.set_cons_zero, List.set_cons_succ]
            refine wpAnyH_take (i := 16) (oi := { dst := some 109, op := Go.Op.move (Go.Operand.tmp 108), type := 4, pos := "law.go:82", after := #[{ on := 15, ground := Go.Ground.data }, { on := 14, ground := Go.Ground.chain }, { on := 11, ground := Go.Ground.guard }], guard := some (11, false) }) (v := ?_) rfl (by kernel_rfl) (by kernel_rfl) (by kernel_rfl) (fun _ _ _ h => h) (Or.inl ⟨by rfl, ?_⟩) (by assumption) ?_
            rotate_left
            · (intro w hSw; (try dsimp only at hSw); (go_simp <;> with_reducible rfl))
            try simp only [Act.put, List.setIfInBounds_toArray, List.set_cons_zero, List.set_cons_succ]
            refine wpAnyH_take (i := 17) (oi := { dst := some 110, op := Go.Op.move (Go.Operand.tmp 13), type := 34, pos := "law.go:82", after := #[{ on := 16, ground := Go.Ground.guard }], guard := some (16, true) }) (v := undef) rfl (by kernel_rfl) (by kernel_rfl) (by kernel_rfl) (fun _ _ _ h => h) (Or.inr ⟨by rfl, rfl⟩) (by assumption) ?_
            try simp only [Act.put, List.setIfInBounds_toArray, List.set_cons_zero, List.set_cons_succ]
            refine wpAnyH_take (i := 18) (oi := { dst := some 111, op := Go.Op.indexAddr 34 (Go.Operand.tmp 110) (Go.Operand.const (Go.Value.int Go.IntKind.i64 0)), type := 0, pos := "law.go:82", after := #[{ on := 17, ground := Go.Ground.data }, { on := 16, ground := Go.Ground.guard }], guard := some (16, true) }) (v := undef) rfl (by kernel_rfl) (by kernel_rfl) (by kernel_rfl) (fun _ _ _ h => h) (Or.inr ⟨by rfl, rfl⟩) (by assumption) ?_
            try simp only [Act.put, List.setIfInBounds_toArray, List.set_cons_zero, List.set_cons_succ]
            refine wpAnyH_take (i := 19) (oi := { dst := some 112, op := Go.Op.load 24 (Go.Operand.tmp 111), type := 24, pos := "law.go:82", after := #[{ on := 18, ground := Go.Ground.data }, { on := 16, ground := Go.Ground.guard }], guard := some (16, true) }) (v := undef) rfl (by kernel_rfl) (by kernel_rfl) (by kernel_rfl) (fun _ _ _ h => h) (Or.inr ⟨by rfl, rfl⟩) (by assumption) ?_
            try simp only [Act.put, List.setIfInBounds_toArray, List.set_cons_zero, List.set_cons_succ]
            refine wpAnyH_take (i := 20) (oi := { dst := some 113, op := Go.Op.move (Go.Operand.tmp 13), type := 34, pos := "law.go:82", after := #[{ on := 16, ground := Go.Ground.guard }], guard := some (16, true) }) (v := undef) rfl (by kernel_rfl) (by kernel_rfl) (by kernel_rfl) (fun _ _ _ h => h) (Or.inr ⟨by rfl, rfl⟩) (by assumption) ?_
            try simp only [Act.put, List.setIfInBounds_toArray, List.set_cons_zero, List.set_cons_succ]
            refine wpAnyH_take (i := 21) (oi := { dst := some 114, op := Go.Op.indexAddr 34 (Go.Operand.tmp 113) (Go.Operand.const (Go.Value.int Go.IntKind.i64 1)), type := 0, pos := "law.go:82", after := #[{ on := 20, ground := Go.Ground.data }, { on := 16, ground := Go.Ground.guard }], guard := some (16, true) }) (v := undef) rfl (by kernel_rfl) (by kernel_rfl) (by kernel_rfl) (fun _ _ _ h => h) (Or.inr ⟨by rfl, rfl⟩) (by assumption) ?_
            try simp only [Act.put, List.setIfInBounds_toArray, List.set_cons_zero, List.set_cons_succ]
            refine wpAnyH_take (i := 22) (oi := { dst := some 115, op := Go.Op.load 24 (Go.Operand.tmp 114), type := 24, pos := "law.go:82", after := #[{ on := 21, ground := Go.Ground.data }, { on := 16, ground := Go.Ground.guard }], guard := some (16, true) }) (v := undef) rfl (by kernel_rfl) (by kernel_rfl) (by kernel_rfl) (fun _ _ _ h => h) (Or.inr ⟨by rfl, rfl⟩) (by assumption) ?_
            try simp only [Act.put, List.setIfInBounds_toArray, List.set_cons_zero, List.set_cons_succ]
            refine wpAnyH_take (i := 23) (oi := { dst := some 116, op := Go.Op.call { callee := Go.Callee.value (Go.Operand.func 14), args := #[Go.Operand.tmp 112, Go.Operand.tmp 115], argTypes := #[24, 24] }, type := 4, pos := "law.go:82", after := #[{ on := 19, ground := Go.Ground.data }, { on := 22, ground := Go.Ground.data }, { on := 16, ground := Go.Ground.chain }, { on := 16, ground := Go.Ground.guard }], guard := some (16, true) }) (v := undef) rfl (by kernel_rfl) (by kernel_rfl) (by kernel_rfl) (fun _ _ _ h => h) (Or.inr ⟨by rfl, rfl⟩) (by assumption) ?_
            try simp only [Act.put, List.setIfInBounds_toArray, List.set_cons_zero, List.set_cons_succ]
            refine wpAnyH_take (i := 24) (oi := { dst := some 117, op := Go.Op.move (Go.Operand.tmp 14), type := 35, pos := "law.go:82", after := #[{ on := 16, ground := Go.Ground.guard }], guard := some (16, true) }) (v := undef) rfl (by kernel_rfl) (by kernel_rfl) (by kernel_rfl) (fun _ _ _ h => h) (Or.inr ⟨by rfl, rfl⟩) (by assumption) ?_
            try simp only [Act.put, List.setIfInBounds_toArray, List.set_cons_zero, List.set_cons_succ]
            refine wpAnyH_take (i := 25) (oi := { dst := some 118, op := Go.Op.indexAddr 35 (Go.Operand.tmp 117) (Go.Operand.const (Go.Value.int Go.IntKind.i64 0)), type := 0, pos := "law.go:82", after := #[{ on := 24, ground := Go.Ground.data }, { on := 16, ground := Go.Ground.guard }], guard := some (16, true) }) (v := undef) rfl (by kernel_rfl) (by kernel_rfl) (by kernel_rfl) (fun _ _ _ h => h) (Or.inr ⟨by rfl, rfl⟩) (by assumption) ?_
            try simp only [Act.put, List.setIfInBounds_toArray, List.set_cons_zero, List.set_cons_succ]
            refine wpAnyH_take (i := 26) (oi := { dst := some 119, op := Go.Op.load 28 (Go.Operand.tmp 118), type := 28, pos := "law.go:82", after := #[{ on := 25, ground := Go.Ground.data }, { on := 16, ground := Go.Ground.guard }], guard := some (16, true) }) (v := undef) rfl (by kernel_rfl) (by kernel_rfl) (by kernel_rfl) (fun _ _ _ h => h) (Or.inr ⟨by rfl, rfl⟩) (by assumption) ?_
            try simp only [Act.put, List.setIfInBounds_toArray, List.set_cons_zero, List.set_cons_succ]
            refine wpAnyH_take (i := 27) (oi := { dst := some 120, op := Go.Op.move (Go.Operand.tmp 14), type := 35, pos := "law.go:82", after := #[{ on := 16, ground := Go.Ground.guard }], guard := some (16, true) }) (v := undef) rfl (by kernel_rfl) (by kernel_rfl) (by kernel_rfl) (fun _ _ _ h => h) (Or.inr ⟨by rfl, rfl⟩) (by assumption) ?_
            try simp only [Act.put, List.setIfInBounds_toArray, List.set_cons_zero, List.set_cons_succ]
            refine wpAnyH_take (i := 28) (oi := { dst := some 121, op := Go.Op.indexAddr 35 (Go.Operand.tmp 120) (Go.Operand.const (Go.Value.int Go.IntKind.i64 1)), type := 0, pos := "law.go:82", after := #[{ on := 27, ground := Go.Ground.data }, { on := 16, ground := Go.Ground.guard }], guard := some (16, true) }) (v := undef) rfl (by kernel_rfl) (by kernel_rfl) (by kernel_rfl) (fun _ _ _ h => h) (Or.inr ⟨by rfl, rfl⟩) (by assumption) ?_
            try simp only [Act.put, List.setIfInBounds_toArray, List.set_cons_zero, List.set_cons_succ]
            refine wpAnyH_take (i := 29) (oi := { dst := some 122, op := Go.Op.load 28 (Go.Operand.tmp 121), type := 28, pos := "law.go:82", after := #[{ on := 28, ground := Go.Ground.data }, { on := 16, ground := Go.Ground.guard }], guard := some (16, true) }) (v := undef) rfl (by kernel_rfl) (by kernel_rfl) (by kernel_rfl) (fun _ _ _ h => h) (Or.inr ⟨by rfl, rfl⟩) (by assumption) ?_
            try simp only [Act.put, List.setIfInBounds_toArray, List.set_cons_zero, List.set_cons_succ]
            refine wpAnyH_take (i := 30) (oi := { dst := some 123, op := Go.Op.call { callee := Go.Callee.value (Go.Operand.func 15), args := #[Go.Operand.tmp 119, Go.Operand.tmp 122], argTypes := #[28, 28] }, type := 4, pos := "law.go:82", after := #[{ on := 26, ground := Go.Ground.data }, { on := 29, ground := Go.Ground.data }, { on := 23, ground := Go.Ground.chain }, { on := 16, ground := Go.Ground.guard }], guard := some (16, true) }) (v := undef) rfl (by kernel_rfl) (by kernel_rfl) (by kernel_rfl) (fun _ _ _ h => h) (Or.inr ⟨by rfl, rfl⟩) (by assumption) ?_
            try simp only [Act.put, List.setIfInBounds_toArray, List.set_cons_zero, List.set_cons_succ]
            refine wpAnyH_take (i := 31) (oi := { dst := some 124, op := Go.Op.binOp Go.BinOp.neq 4 (Go.Operand.tmp 116) (Go.Operand.tmp 123) 4, type := 4, pos := "law.go:82", after := #[{ on := 23, ground := Go.Ground.data }, { on := 30, ground := Go.Ground.data }, { on := 16, ground := Go.Ground.guard }], guard := some (16, true) }) (v := undef) rfl (by kernel_rfl) (by kernel_rfl) (by kernel_rfl) (fun _ _ _ h => h) (Or.inr ⟨by rfl, rfl⟩) (by assumption) ?_
            try simp only [Act.put, List.setIfInBounds_toArray, List.set_cons_zero, List.set_cons_succ]
            refine wpAnyH_take (i := 32) (oi := { dst := some 125, op := Go.Op.pick (Go.Operand.tmp 109) (Go.Operand.tmp 124) (Go.Operand.const (Go.Value.bool false)), type := 4, pos := "law.go:82", after := #[{ on := 16, ground := Go.Ground.data }, { on := 31, ground := Go.Ground.data }, { on := 11, ground := Go.Ground.guard }], guard := some (11, false) }) (v := ?_) rfl (by kernel_rfl) (by kernel_rfl) (by kernel_rfl) (fun _ _ _ h => h) (Or.inl ⟨by rfl, ?_⟩) (by assumption) ?_
            rotate_left
            · (intro w hSw; (try dsimp only at hSw); (go_simp <;> with_reducible rfl))
            try simp only [Act.put, List.setIfInBounds_toArray, List.set_cons_zero, List.set_cons_succ]
            refine wpAnyH_take (i := 33) (oi := { dst := some 126, op := Go.Op.pick (Go.Operand.tmp 104) (Go.Operand.const (Go.Value.bool true)) (Go.Operand.tmp 125), type := 4, pos := "law.go:82", after := #[{ on := 11, ground := Go.Ground.data }, { on := 32, ground := Go.Ground.data }], guard := none }) (v := ?_) rfl (by kernel_rfl) (by kernel_rfl) (by kernel_rfl) (fun _ _ _ h => h) (Or.inl ⟨by rfl, ?_⟩) (by assumption) ?_
            rotate_left
            · (intro w hSw; (try dsimp only at hSw); (go_simp <;> with_reducible rfl))
            try simp only [Act.put, List.setIfInBounds_toArray, List.set_cons_zero, List.set_cons_succ]
            refine wpAnyH_done (by kernel_rfl) ?_ _
            clear hHeld hCA HC HS6 HS7 HB6 HB7 hGA
            have hc0 := hPA.c0
            have k4 : wB.cell? ⟨B, 0, none⟩ = some (.int .i64 Do) := by simp [World.cell?, hBA]
            have HPA := hide hPA
            clear hPA hBA
            by_cases h10 : v = 10
            · subst h10
              go_wp2_with fail
              refine (pick11v Do 10 _ HV.out).mono ?_
              rintro e wC ⟨rfl, rfl⟩
              have HP1 := hide (HPA.out.kept (grown_drew wC none))
              have hx0 : wC.drew.cell? ⟨X, 0, none⟩ = some (.pointer (some ⟨b0, 0, none⟩)) ∧ wC.drew.cell? ⟨Y, 0, none⟩ = some (.pointer (some ⟨d0', 0, none⟩)) := ⟨HP1.out.x0, HP1.out.y0⟩
              have hXY : X ≠ Y := Ty.ne (w := wC) ⟨_, HPA.out.x⟩ ⟨_, HPA.out.y⟩ (by decide)
              have hYX : Y ≠ X := Ne.symm hXY
              have s1 : ∀ (W : World) (u : Value), (W.setCell ⟨X, 1, none⟩ u).cell? ⟨X, 0, none⟩ = W.cell? ⟨X, 0, none⟩ := fun W u => World.cell?_setCell_other _ _ _ _ (by simp)
              have s2 : ∀ (W : World) (u : Value), (W.setCell ⟨Y, 1, none⟩ u).cell? ⟨Y, 0, none⟩ = W.cell? ⟨Y, 0, none⟩ := fun W u => World.cell?_setCell_other _ _ _ _ (by simp)
              have s3 : ∀ (W : World) (u : Value) (o : Nat), (W.setCell ⟨X, 1, none⟩ u).cell? ⟨Y, o, none⟩ = W.cell? ⟨Y, o, none⟩ := fun W u o => World.cell?_setCell_other _ _ _ _ (fun e => hXY (congrArg Addr.block e))
              have s4 : ∀ (W : World) (u : Value) (o : Nat), (W.setCell ⟨Y, 1, none⟩ u).cell? ⟨X, o, none⟩ = W.cell? ⟨X, o, none⟩ := fun W u o => World.cell?_setCell_other _ _ _ _ (fun e => hYX (congrArg Addr.block e))
              have hw1 : IntKind.i64.wrap 1 = 1 := by decide
              have hw0 : IntKind.i64.wrap 0 = 0 := by decide
              have hpos : 0 < wC.drew.heap.size := by have := HP1.out.grown.size; have := HP1.out.pos; omega
              go_wp2_with fail
              go_region_held3 (fun w' => w'.cell? ⟨X, 0, none⟩ = some (.pointer (some ⟨b0, 0, none⟩)) ∧ w'.cell? ⟨Y, 0, none⟩ = some (.pointer (some ⟨d0', 0, none⟩))) (first | assumption | go_keep)
                ((first
                  | (go_at_call 16; refine (copy_lies b0 g0 _ _ HP1.out.p0.both.set hpos).mono ?_; rintro e wD ⟨bb, gg, rfl, hSD, hbD, hgD, hGD⟩; have hcD := And.intro (HP1.out.kept hGD).x0 (HP1.out.kept hGD).y0; have HD := hide (And.intro hSD (And.intro hgD hGD)); clear hSD hgD hGD)
                  | (go_at_call 17; refine (rcopy_lies d0' r0 true _ _ (HP1.out.kept HD.out.2.2).p0.both.ref).mono ?_; rintro e wE ⟨dd, rr, rfl, hRE, hdE, hrE, hGE, hrlE, hlE⟩; have HE := hide (And.intro hRE (And.intro hrE (And.intro hGE (And.intro hrlE hlE)))); have hPE := HP1.out.kept (grown_trans HD.out.2.2 HE.out.2.2.1); have hcE := And.intro hPE.x0 hPE.y0; have hcE1 := hPE.x1; have hcE2 := hPE.y1; have hfE1 := free_row hPE.x 1; have hfE2 := free_row hPE.y 1; clear hRE hrE hGE hrlE hlE hPE)))
              have HF := hide (HP1.out.copy0 HD.out.1 HD.out.2.1 HD.out.2.2 HE.out.1 HE.out.2.1 HE.out.2.2.1 HE.out.2.2.2.1 HE.out.2.2.2.2)
              generalize (wE.setCell ⟨X, 1, none⟩ (Value.pointer (some ⟨bb, 0, none⟩))).setCell ⟨Y, 1, none⟩ (Value.pointer (some ⟨dd, 0, none⟩)) = wF at *
              go_wp2
              go_roundg (gk - 1)
              case measure => omega
              case rel => exact ⟨j + 1, by omega, by go_num, ⟨_, _, _, _, _, _, _, _, _, _, HF.out⟩⟩
            · have e10 : (v == 10) = false := by simpa using h10
              have e10' : decide (v = 10) = false := by simpa using h10
              go_wp2_with fail
              refine (pick11v Do v _ HV.out).mono ?_
              rintro e wC ⟨rfl, rfl⟩
              go_wp2
              go_roundg (gk - 1)
              case measure => omega
              case rel => exact ⟨j + 1, by omega, by go_num, ⟨_, _, _, _, _, _, _, _, _, _, HPA.out⟩⟩
        · have HK := hide hk
          clear hk
          go_wp2_with fail
          refine (pick2v On 1 _ HK.out).mono ?_
          rintro e w6 ⟨rfl, rfl⟩
          generalize wc.alloc (Obj.cells #[Value.int IntKind.i64 Do, Value.int IntKind.i64 On, Value.int IntKind.i64 I] 37) = w6 at *
          generalize wc.heap.size = B at *
          clear HS q0' q1' q2'
          have HS7 := hide (HS6.out.kept (grown_drew w6 none))
          have HB7 : Hid (w6.drew.heap[B]? = some (.cells #[Value.int IntKind.i64 Do, Value.int IntKind.i64 On, Value.int IntKind.i64 I] 37 (0, 0))) := HB6.out
          have HC := HS6.out.cells HB6.out
          by_cases h9 : v = 9
          · subst h9
            obtain ⟨q, hq⟩ : ∃ q, decide (L0 = L1) = q := ⟨_, rfl⟩
            have HQ := hide hq
            clear hq
            go_wp2_with fail
            go_region_held3 (fun w' => w'.cell? ⟨X, 0, none⟩ = some (.pointer (some ⟨b0, 0, none⟩)) ∧ w'.cell? ⟨X, 1, none⟩ = some (.pointer (some ⟨b1, 0, none⟩)) ∧ w'.cell? ⟨Y, 0, none⟩ = some (.pointer (some ⟨d0', 0, none⟩)) ∧ w'.cell? ⟨Y, 1, none⟩ = some (.pointer (some ⟨d1, 0, none⟩)) ∧ w'.cell? ⟨B, 0, none⟩ = some (.int .i64 Do) ∧ w'.cell? ⟨B, 1, none⟩ = some (.int .i64 On) ∧ w'.cell? ⟨B, 2, none⟩ = some (.int .i64 I) ∧ PS w w' X Y d0 n b0 g0 d0' r0 b1 g1 d1 r1 L0 L1) (first | assumption | exact HS7.out.cells8 HB7.out)
              ((first
                | (go_at_call 13; refine (HS7.out.call1 Do On I).mono ?_; rintro e wA ⟨rfl, hGA, hPA⟩; rw [oneF_9 _ _ _ HV.out] at hPA; have hBA := HS7.out.box1 HB7.out hGA; have hCA := hPA.cells8 hBA)
                | (go_at_call 12; refine (pick11v Do 9 _ HV.out).mono ?_; rintro e wB ⟨rfl, rfl⟩)
                | (go_at_call 14; refine (hPA.same HQ.out).mono ?_; rintro e wD ⟨rfl, hPD, hGD⟩; have hBD := (hGD.block B (row_lt hBA) (by simp)).trans hBA; have hCD := hPD.cells8 hBD)
                | (go_at_call 15; refine (hPD.rsame HQ.out).mono ?_; rintro e wE ⟨rfl, hPE, hGE⟩; have hBE := (hGE.block B (row_lt hBD) (by simp)).trans hBD; have hCE := hPE.cells8 hBE)))
            have k4 : wE.cell? ⟨B, 0, none⟩ = some (.int .i64 Do) := by simp [World.cell?, hBE]
            have HPE := hide hPE
            clear hPE hPA hPD hCA hCD hCE hBA hBD hBE hGA hGD hGE HC HS6 HS7 HB6 HB7
            go_wp2_with fail
            refine (pick11v Do 9 _ HV.out).mono ?_
            rintro e wC ⟨rfl, rfl⟩
            go_wp2
            go_roundg (gk - 1)
            case measure => omega
            case rel => exact ⟨j + 1, by omega, by go_num, ⟨_, _, _, _, _, _, _, _, _, _, HPE.out⟩⟩
          · have e9 : (v == 9) = false := by simpa using h9
            have e9' : decide (v = 9) = false := by simpa using h9
            go_wp2_with fail
            refine wp_region_held_drew (S := (fun w' => w'.cell? ⟨X, 0, none⟩ = some (.pointer (some ⟨b0, 0, none⟩)) ∧ w'.cell? ⟨X, 1, none⟩ = some (.pointer (some ⟨b1, 0, none⟩)) ∧ w'.cell? ⟨Y, 0, none⟩ = some (.pointer (some ⟨d0', 0, none⟩)) ∧ w'.cell? ⟨Y, 1, none⟩ = some (.pointer (some ⟨d1, 0, none⟩)) ∧ w'.cell? ⟨B, 0, none⟩ = some (.int .i64 Do) ∧ w'.cell? ⟨B, 1, none⟩ = some (.int .i64 On) ∧ w'.cell? ⟨B, 2, none⟩ = some (.int .i64 I))) (by kernel_rfl) ?_ (fun hHeld => ?_)
            · (exact HS7.out.cells HB7.out)
            refine wpAnyH_take (i := 0) (oi := { dst := some 93, op := Go.Op.move (Go.Operand.tmp 13), type := 34, pos := "law.go:82", after := #[], guard := none }) (v := ?_) rfl (by kernel_rfl) (by kernel_rfl) (by kernel_rfl) (fun _ _ _ h => h) (Or.inl ⟨by rfl, ?_⟩) (by assumption) ?_
            rotate_left
            · (intro w hSw; (try dsimp only at hSw); (go_simp <;> with_reducible rfl))
            try simp only [Act.put, List.setIfInBounds_toArray, List.set_cons_zero, List.set_cons_succ]
            refine wpAnyH_take (i := 1) (oi := { dst := some 94, op := Go.Op.move (Go.Operand.tmp 17), type := 3, pos := "law.go:82", after := #[], guard := none }) (v := ?_) rfl (by kernel_rfl) (by kernel_rfl) (by kernel_rfl) (fun _ _ _ h => h) (Or.inl ⟨by rfl, ?_⟩) (by assumption) ?_
            rotate_left
            · (intro w hSw; (try dsimp only at hSw); (go_simp <;> with_reducible rfl))
            try simp only [Act.put, List.setIfInBounds_toArray, List.set_cons_zero, List.set_cons_succ]
            refine wpAnyH_take (i := 2) (oi := { dst := some 95, op := Go.Op.indexAddr 34 (Go.Operand.tmp 93) (Go.Operand.tmp 94), type := 0, pos := "law.go:82", after := #[{ on := 0, ground := Go.Ground.data }, { on := 1, ground := Go.Ground.data }], guard := none }) (v := ?_) rfl (by kernel_rfl) (by kernel_rfl) (by kernel_rfl) (fun _ _ _ h => h) (Or.inl ⟨by rfl, ?_⟩) (by assumption) ?_
            rotate_left
            · (intro w hSw; (try dsimp only at hSw); (go_simp <;> with_reducible rfl))
            try simp only [Act.put, List.setIfInBounds_toArray, List.set_cons_zero, List.set_cons_succ]
            refine wpAnyH_take (i := 3) (oi := { dst := some 96, op := Go.Op.load 24 (Go.Operand.tmp 95), type := 24, pos := "law.go:82", after := #[{ on := 2, ground := Go.Ground.data }], guard := none }) (v := ?_) rfl (by kernel_rfl) (by kernel_rfl) (by kernel_rfl) (fun _ _ _ h => h) (Or.inl ⟨by rfl, ?_⟩) (by assumption) ?_
            rotate_left
            · (intro w hSw; (try dsimp only at hSw); (go_simp <;> with_reducible rfl))
            try simp only [Act.put, List.setIfInBounds_toArray, List.set_cons_zero, List.set_cons_succ]
            refine wpAnyH_take (i := 4) (oi := { dst := some 97, op := Go.Op.move (Go.Operand.tmp 14), type := 35, pos := "law.go:82", after := #[], guard := none }) (v := ?_) rfl (by kernel_rfl) (by kernel_rfl) (by kernel_rfl) (fun _ _ _ h => h) (Or.inl ⟨by rfl, ?_⟩) (by assumption) ?_
            rotate_left
            · (intro w hSw; (try dsimp only at hSw); (go_simp <;> with_reducible rfl))
            try simp only [Act.put, List.setIfInBounds_toArray, List.set_cons_zero, List.set_cons_succ]
            refine wpAnyH_take (i := 5) (oi := { dst := some 98, op := Go.Op.move (Go.Operand.tmp 17), type := 3, pos := "law.go:82", after := #[], guard := none }) (v := ?_) rfl (by kernel_rfl) (by kernel_rfl) (by kernel_rfl) (fun _ _ _ h => h) (Or.inl ⟨by rfl, ?_⟩) (by assumption) ?_
            rotate_left
            · (intro w hSw; (try dsimp only at hSw); (go_simp <;> with_reducible rfl))
            try simp only [Act.put, List.setIfInBounds_toArray, List.set_cons_zero, List.set_cons_succ]
            refine wpAnyH_take (i := 6) (oi := { dst := some 99, op := Go.Op.indexAddr 35 (Go.Operand.tmp 97) (Go.Operand.tmp 98), type := 0, pos := "law.go:82", after := #[{ on := 4, ground := Go.Ground.data }, { on := 5, ground := Go.Ground.data }], guard := none }) (v := ?_) rfl (by kernel_rfl) (by kernel_rfl) (by kernel_rfl) (fun _ _ _ h => h) (Or.inl ⟨by rfl, ?_⟩) (by assumption) ?_
            rotate_left
            · (intro w hSw; (try dsimp only at hSw); (go_simp <;> with_reducible rfl))
            try simp only [Act.put, List.setIfInBounds_toArray, List.set_cons_zero, List.set_cons_succ]
            refine wpAnyH_take (i := 7) (oi := { dst := some 100, op := Go.Op.load 28 (Go.Operand.tmp 99), type := 28, pos := "law.go:82", after := #[{ on := 6, ground := Go.Ground.data }], guard := none }) (v := ?_) rfl (by kernel_rfl) (by kernel_rfl) (by kernel_rfl) (fun _ _ _ h => h) (Or.inl ⟨by rfl, ?_⟩) (by assumption) ?_
            rotate_left
            · (intro w hSw; (try dsimp only at hSw); (go_simp <;> with_reducible rfl))
            try simp only [Act.put, List.setIfInBounds_toArray, List.set_cons_zero, List.set_cons_succ]
            refine wpAnyH_take (i := 8) (oi := { dst := some 101, op := Go.Op.load 37 (Go.Operand.tmp 16), type := 37, pos := "law.go:82", after := #[], guard := none }) (v := ?_) rfl (by kernel_rfl) (by kernel_rfl) (by kernel_rfl) (fun _ _ _ h => h) (Or.inl ⟨by rfl, ?_⟩) (by assumption) ?_
            rotate_left
            · (intro w hSw; (try dsimp only at hSw); (go_simp <;> with_reducible rfl))
            try simp only [Act.put, List.setIfInBounds_toArray, List.set_cons_zero, List.set_cons_succ]
            refine wpAnyH_ready (rs := [9]) (by kernel_rfl) (by simp) ?_
            refine AllReadyH.cons (o := { dst := some 102, op := Go.Op.call { callee := Go.Callee.value (Go.Operand.func 13), args := #[Go.Operand.tmp 96, Go.Operand.tmp 100, Go.Operand.tmp 101], argTypes := #[24, 28, 37] }, type := 4, pos := "law.go:82", after := #[{ on := 3, ground := Go.Ground.data }, { on := 7, ground := Go.Ground.data }, { on := 8, ground := Go.Ground.data }], guard := none }) rfl (fun K hK => ?_) ?_
            rotate_left
            · exact AllReadyH.nil
            go_simp
            refine (HS7.out.call1 Do On I).mono ?_
            rintro e wA ⟨rfl, hGA, hPA⟩
            have hBA := HS7.out.box1 HB7.out hGA
            have hCA := hPA.cells hBA
            go_wp2_with fail
            refine hK.out _ _ ?_ (fun hHeld => ?_)
            · ((try dsimp only); assumption)
            clear hK K
            try simp only [Act.put, List.setIfInBounds_toArray, List.set_cons_zero, List.set_cons_succ]
            refine wpAnyH_take (i := 10) (oi := { dst := some 103, op := Go.Op.unOp Go.UnOp.not 4 (Go.Operand.tmp 102), type := 4, pos := "law.go:82", after := #[{ on := 9, ground := Go.Ground.data }], guard := none }) (v := ?_) rfl (by kernel_rfl) (by kernel_rfl) (by kernel_rfl) (fun _ _ _ h => h) (Or.inl ⟨by rfl, ?_⟩) (by assumption) ?_
            rotate_left
            · (intro w hSw; (try dsimp only at hSw); (go_simp <;> with_reducible rfl))
            try simp only [Act.put, List.setIfInBounds_toArray, List.set_cons_zero, List.set_cons_succ]
            refine wpAnyH_take (i := 11) (oi := { dst := some 104, op := Go.Op.move (Go.Operand.tmp 103), type := 4, pos := "law.go:82", after := #[{ on := 10, ground := Go.Ground.data }, { on := 9, ground := Go.Ground.chain }], guard := none }) (v := ?_) rfl (by kernel_rfl) (by kernel_rfl) (by kernel_rfl) (fun _ _ _ h => h) (Or.inl ⟨by rfl, ?_⟩) (by assumption) ?_
            rotate_left
            · (intro w hSw; (try dsimp only at hSw); (go_simp <;> with_reducible rfl))
            try simp only [Act.put, List.setIfInBounds_toArray, List.set_cons_zero, List.set_cons_succ]
            refine wpAnyH_take (i := 12) (oi := { dst := some 105, op := Go.Op.fieldAddr 37 (Go.Operand.tmp 16) 0, type := 0, pos := "law.go:82", after := #[{ on := 11, ground := Go.Ground.guard }], guard := some (11, false) }) (v := ?_) rfl (by kernel_rfl) (by kernel_rfl) (by kernel_rfl) (fun _ _ _ h => h) (Or.inl ⟨by rfl, ?_⟩) (by assumption) ?_
            rotate_left
            · (intro w hSw; (try dsimp only at hSw); (go_simp <;> with_reducible rfl))
            try simp only [Act.put, List.setIfInBounds_toArray, List.set_cons_zero, List.set_cons_succ]
            refine wpAnyH_take (i := 13) (oi := { dst := some 106, op := Go.Op.load 3 (Go.Operand.tmp 105), type := 3, pos := "law.go:82", after := #[{ on := 12, ground := Go.Ground.data }, { on := 11, ground := Go.Ground.guard }], guard := some (11, false) }) (v := ?_) rfl (by kernel_rfl) (by kernel_rfl) (by kernel_rfl) (fun _ _ _ h => h) (Or.inl ⟨by rfl, ?_⟩) (by assumption) ?_
            rotate_left
            · (intro w hSw; (try dsimp only at hSw); (go_simp <;> with_reducible rfl))
            try simp only [Act.put, List.setIfInBounds_toArray, List.set_cons_zero, List.set_cons_succ]
            refine wpAnyH_ready (rs := [14]) (by kernel_rfl) (by simp) ?_
            refine AllReadyH.cons (o := { dst := some 107, op := Go.Op.call { callee := Go.Callee.value (Go.Operand.func 12), args := #[Go.Operand.tmp 106, Go.Operand.const (Go.Value.int Go.IntKind.i64 11)], argTypes := #[3, 3] }, type := 3, pos := "law.go:82", after := #[{ on := 13, ground := Go.Ground.data }, { on := 11, ground := Go.Ground.chain }, { on := 11, ground := Go.Ground.guard }], guard := some (11, false) }) rfl (fun K hK => ?_) ?_
            rotate_left
            · exact AllReadyH.nil
            go_simp
            refine (pick11v Do v _ HV.out).mono ?_
            rintro e wB ⟨rfl, rfl⟩
            go_wp2_with fail
            refine hK.out _ _ ?_ (fun hHeld => ?_)
            · ((try dsimp only); assumption)
            clear hK K
            try simp only [Act.put, List.setIfInBounds_toArray, List.set_cons_zero, List.set_cons_succ]
            refine wpAnyH_take (i := 15) (oi := { dst := some 108, op := Go.Op.binOp Go.BinOp.eql 3 (Go.Operand.tmp 107) (Go.Operand.const (Go.Value.int Go.IntKind.i64 9)) 3, type := 4, pos := "law.go:82", after := #[{ on := 14, ground := Go.Ground.data }, { on := 11, ground := Go.Ground.guard }], guard := some (11, false) }) (v := ?_) rfl (by kernel_rfl) (by kernel_rfl) (by kernel_rfl) (fun _ _ _ h => h) (Or.inl ⟨by rfl, ?_⟩) (by assumption) ?_
            rotate_left
            · (intro w hSw; (try dsimp only at hSw); (go_simp <;> with_reducible rfl))
            try simp only [Act.put, List.setIfInBounds_toArray, List.set_cons_zero, List.set_cons_succ]
            refine wpAnyH_take (i := 16) (oi := { dst := some 109, op := Go.Op.move (Go.Operand.tmp 108), type := 4, pos := "law.go:82", after := #[{ on := 15, ground := Go.Ground.data }, { on := 14, ground := Go.Ground.chain }, { on := 11, ground := Go.Ground.guard }], guard := some (11, false) }) (v := ?_) rfl (by kernel_rfl) (by kernel_rfl) (by kernel_rfl) (fun _ _ _ h => h) (Or.inl ⟨by rfl, ?_⟩) (by assumption) ?_
            rotate_left
            · (intro w hSw; (try dsimp only at hSw); (go_simp <;> with_reducible rfl))
            try simp only [Act.put, List.setIfInBounds_toArray, List.set_cons_zero, List.set_cons_succ]
            refine wpAnyH_take (i := 17) (oi := { dst := some 110, op := Go.Op.move (Go.Operand.tmp 13), type := 34, pos := "law.go:82", after := #[{ on := 16, ground := Go.Ground.guard }], guard := some (16, true) }) (v := undef) rfl (by kernel_rfl) (by kernel_rfl) (by kernel_rfl) (fun _ _ _ h => h) (Or.inr ⟨by rfl, rfl⟩) (by assumption) ?_
            try simp only [Act.put, List.setIfInBounds_toArray, List.set_cons_zero, List.set_cons_succ]
            refine wpAnyH_take (i := 18) (oi := { dst := some 111, op := Go.Op.indexAddr 34 (Go.Operand.tmp 110) (Go.Operand.const (Go.Value.int Go.IntKind.i64 0)), type := 0, pos := "law.go:82", after := #[{ on := 17, ground := Go.Ground.data }, { on := 16, ground := Go.Ground.guard }], guard := some (16, true) }) (v := undef) rfl (by kernel_rfl) (by kernel_rfl) (by kernel_rfl) (fun _ _ _ h => h) (Or.inr ⟨by rfl, rfl⟩) (by assumption) ?_
            try simp only [Act.put, List.setIfInBounds_toArray, List.set_cons_zero, List.set_cons_succ]
            refine wpAnyH_take (i := 19) (oi := { dst := some 112, op := Go.Op.load 24 (Go.Operand.tmp 111), type := 24, pos := "law.go:82", after := #[{ on := 18, ground := Go.Ground.data }, { on := 16, ground := Go.Ground.guard }], guard := some (16, true) }) (v := undef) rfl (by kernel_rfl) (by kernel_rfl) (by kernel_rfl) (fun _ _ _ h => h) (Or.inr ⟨by rfl, rfl⟩) (by assumption) ?_
            try simp only [Act.put, List.setIfInBounds_toArray, List.set_cons_zero, List.set_cons_succ]
            refine wpAnyH_take (i := 20) (oi := { dst := some 113, op := Go.Op.move (Go.Operand.tmp 13), type := 34, pos := "law.go:82", after := #[{ on := 16, ground := Go.Ground.guard }], guard := some (16, true) }) (v := undef) rfl (by kernel_rfl) (by kernel_rfl) (by kernel_rfl) (fun _ _ _ h => h) (Or.inr ⟨by rfl, rfl⟩) (by assumption) ?_
            try simp only [Act.put, List.setIfInBounds_toArray, List.set_cons_zero, List.set_cons_succ]
            refine wpAnyH_take (i := 21) (oi := { dst := some 114, op := Go.Op.indexAddr 34 (Go.Operand.tmp 113) (Go.Operand.const (Go.Value.int Go.IntKind.i64 1)), type := 0, pos := "law.go:82", after := #[{ on := 20, ground := Go.Ground.data }, { on := 16, ground := Go.Ground.guard }], guard := some (16, true) }) (v := undef) rfl (by kernel_rfl) (by kernel_rfl) (by kernel_rfl) (fun _ _ _ h => h) (Or.inr ⟨by rfl, rfl⟩) (by assumption) ?_
            try simp only [Act.put, List.setIfInBounds_toArray, List.set_cons_zero, List.set_cons_succ]
            refine wpAnyH_take (i := 22) (oi := { dst := some 115, op := Go.Op.load 24 (Go.Operand.tmp 114), type := 24, pos := "law.go:82", after := #[{ on := 21, ground := Go.Ground.data }, { on := 16, ground := Go.Ground.guard }], guard := some (16, true) }) (v := undef) rfl (by kernel_rfl) (by kernel_rfl) (by kernel_rfl) (fun _ _ _ h => h) (Or.inr ⟨by rfl, rfl⟩) (by assumption) ?_
            try simp only [Act.put, List.setIfInBounds_toArray, List.set_cons_zero, List.set_cons_succ]
            refine wpAnyH_take (i := 23) (oi := { dst := some 116, op := Go.Op.call { callee := Go.Callee.value (Go.Operand.func 14), args := #[Go.Operand.tmp 112, Go.Operand.tmp 115], argTypes := #[24, 24] }, type := 4, pos := "law.go:82", after := #[{ on := 19, ground := Go.Ground.data }, { on := 22, ground := Go.Ground.data }, { on := 16, ground := Go.Ground.chain }, { on := 16, ground := Go.Ground.guard }], guard := some (16, true) }) (v := undef) rfl (by kernel_rfl) (by kernel_rfl) (by kernel_rfl) (fun _ _ _ h => h) (Or.inr ⟨by rfl, rfl⟩) (by assumption) ?_
            try simp only [Act.put, List.setIfInBounds_toArray, List.set_cons_zero, List.set_cons_succ]
            refine wpAnyH_take (i := 24) (oi := { dst := some 117, op := Go.Op.move (Go.Operand.tmp 14), type := 35, pos := "law.go:82", after := #[{ on := 16, ground := Go.Ground.guard }], guard := some (16, true) }) (v := undef) rfl (by kernel_rfl) (by kernel_rfl) (by kernel_rfl) (fun _ _ _ h => h) (Or.inr ⟨by rfl, rfl⟩) (by assumption) ?_
            try simp only [Act.put, List.setIfInBounds_toArray, List.set_cons_zero, List.set_cons_succ]
            refine wpAnyH_take (i := 25) (oi := { dst := some 118, op := Go.Op.indexAddr 35 (Go.Operand.tmp 117) (Go.Operand.const (Go.Value.int Go.IntKind.i64 0)), type := 0, pos := "law.go:82", after := #[{ on := 24, ground := Go.Ground.data }, { on := 16, ground := Go.Ground.guard }], guard := some (16, true) }) (v := undef) rfl (by kernel_rfl) (by kernel_rfl) (by kernel_rfl) (fun _ _ _ h => h) (Or.inr ⟨by rfl, rfl⟩) (by assumption) ?_
            try simp only [Act.put, List.setIfInBounds_toArray, List.set_cons_zero, List.set_cons_succ]
            refine wpAnyH_take (i := 26) (oi := { dst := some 119, op := Go.Op.load 28 (Go.Operand.tmp 118), type := 28, pos := "law.go:82", after := #[{ on := 25, ground := Go.Ground.data }, { on := 16, ground := Go.Ground.guard }], guard := some (16, true) }) (v := undef) rfl (by kernel_rfl) (by kernel_rfl) (by kernel_rfl) (fun _ _ _ h => h) (Or.inr ⟨by rfl, rfl⟩) (by assumption) ?_
            try simp only [Act.put, List.setIfInBounds_toArray, List.set_cons_zero, List.set_cons_succ]
            refine wpAnyH_take (i := 27) (oi := { dst := some 120, op := Go.Op.move (Go.Operand.tmp 14), type := 35, pos := "law.go:82", after := #[{ on := 16, ground := Go.Ground.guard }], guard := some (16, true) }) (v := undef) rfl (by kernel_rfl) (by kernel_rfl) (by kernel_rfl) (fun _ _ _ h => h) (Or.inr ⟨by rfl, rfl⟩) (by assumption) ?_
            try simp only [Act.put, List.setIfInBounds_toArray, List.set_cons_zero, List.set_cons_succ]
            refine wpAnyH_take (i := 28) (oi := { dst := some 121, op := Go.Op.indexAddr 35 (Go.Operand.tmp 120) (Go.Operand.const (Go.Value.int Go.IntKind.i64 1)), type := 0, pos := "law.go:82", after := #[{ on := 27, ground := Go.Ground.data }, { on := 16, ground := Go.Ground.guard }], guard := some (16, true) }) (v := undef) rfl (by kernel_rfl) (by kernel_rfl) (by kernel_rfl) (fun _ _ _ h => h) (Or.inr ⟨by rfl, rfl⟩) (by assumption) ?_
            try simp only [Act.put, List.setIfInBounds_toArray, List.set_cons_zero, List.set_cons_succ]
            refine wpAnyH_take (i := 29) (oi := { dst := some 122, op := Go.Op.load 28 (Go.Operand.tmp 121), type := 28, pos := "law.go:82", after := #[{ on := 28, ground := Go.Ground.data }, { on := 16, ground := Go.Ground.guard }], guard := some (16, true) }) (v := undef) rfl (by kernel_rfl) (by kernel_rfl) (by kernel_rfl) (fun _ _ _ h => h) (Or.inr ⟨by rfl, rfl⟩) (by assumption) ?_
            try simp only [Act.put, List.setIfInBounds_toArray, List.set_cons_zero, List.set_cons_succ]
            refine wpAnyH_take (i := 30) (oi := { dst := some 123, op := Go.Op.call { callee := Go.Callee.value (Go.Operand.func 15), args := #[Go.Operand.tmp 119, Go.Operand.tmp 122], argTypes := #[28, 28] }, type := 4, pos := "law.go:82", after := #[{ on := 26, ground := Go.Ground.data }, { on := 29, ground := Go.Ground.data }, { on := 23, ground := Go.Ground.chain }, { on := 16, ground := Go.Ground.guard }], guard := some (16, true) }) (v := undef) rfl (by kernel_rfl) (by kernel_rfl) (by kernel_rfl) (fun _ _ _ h => h) (Or.inr ⟨by rfl, rfl⟩) (by assumption) ?_
            try simp only [Act.put, List.setIfInBounds_toArray, List.set_cons_zero, List.set_cons_succ]
            refine wpAnyH_take (i := 31) (oi := { dst := some 124, op := Go.Op.binOp Go.BinOp.neq 4 (Go.Operand.tmp 116) (Go.Operand.tmp 123) 4, type := 4, pos := "law.go:82", after := #[{ on := 23, ground := Go.Ground.data }, { on := 30, ground := Go.Ground.data }, { on := 16, ground := Go.Ground.guard }], guard := some (16, true) }) (v := undef) rfl (by kernel_rfl) (by kernel_rfl) (by kernel_rfl) (fun _ _ _ h => h) (Or.inr ⟨by rfl, rfl⟩) (by assumption) ?_
            try simp only [Act.put, List.setIfInBounds_toArray, List.set_cons_zero, List.set_cons_succ]
            refine wpAnyH_take (i := 32) (oi := { dst := some 125, op := Go.Op.pick (Go.Operand.tmp 109) (Go.Operand.tmp 124) (Go.Operand.const (Go.Value.bool false)), type := 4, pos := "law.go:82", after := #[{ on := 16, ground := Go.Ground.data }, { on := 31, ground := Go.Ground.data }, { on := 11, ground := Go.Ground.guard }], guard := some (11, false) }) (v := ?_) rfl (by kernel_rfl) (by kernel_rfl) (by kernel_rfl) (fun _ _ _ h => h) (Or.inl ⟨by rfl, ?_⟩) (by assumption) ?_
            rotate_left
            · (intro w hSw; (try dsimp only at hSw); (go_simp <;> with_reducible rfl))
            try simp only [Act.put, List.setIfInBounds_toArray, List.set_cons_zero, List.set_cons_succ]
            refine wpAnyH_take (i := 33) (oi := { dst := some 126, op := Go.Op.pick (Go.Operand.tmp 104) (Go.Operand.const (Go.Value.bool true)) (Go.Operand.tmp 125), type := 4, pos := "law.go:82", after := #[{ on := 11, ground := Go.Ground.data }, { on := 32, ground := Go.Ground.data }], guard := none }) (v := ?_) rfl (by kernel_rfl) (by kernel_rfl) (by kernel_rfl) (fun _ _ _ h => h) (Or.inl ⟨by rfl, ?_⟩) (by assumption) ?_
            rotate_left
            · (intro w hSw; (try dsimp only at hSw); (go_simp <;> with_reducible rfl))
            try simp only [Act.put, List.setIfInBounds_toArray, List.set_cons_zero, List.set_cons_succ]
            refine wpAnyH_done (by kernel_rfl) ?_ _
            clear hHeld hCA HC HS6 HS7 HB6 HB7 hGA
            have hc0 := hPA.c0
            have k4 : wB.cell? ⟨B, 0, none⟩ = some (.int .i64 Do) := by simp [World.cell?, hBA]
            have HPA := hide hPA
            clear hPA hBA
            by_cases h10 : v = 10
            · subst h10
              go_wp2_with fail
              refine (pick11v Do 10 _ HV.out).mono ?_
              rintro e wC ⟨rfl, rfl⟩
              have HP1 := hide (HPA.out.kept (grown_drew wC none))
              have hx0 : wC.drew.cell? ⟨X, 1, none⟩ = some (.pointer (some ⟨b1, 0, none⟩)) ∧ wC.drew.cell? ⟨Y, 1, none⟩ = some (.pointer (some ⟨d1, 0, none⟩)) := ⟨HP1.out.x1, HP1.out.y1⟩
              have hXY : X ≠ Y := Ty.ne (w := wC) ⟨_, HPA.out.x⟩ ⟨_, HPA.out.y⟩ (by decide)
              have hYX : Y ≠ X := Ne.symm hXY
              have s1 : ∀ (W : World) (u : Value), (W.setCell ⟨X, 0, none⟩ u).cell? ⟨X, 1, none⟩ = W.cell? ⟨X, 1, none⟩ := fun W u => World.cell?_setCell_other _ _ _ _ (by simp)
              have s2 : ∀ (W : World) (u : Value), (W.setCell ⟨Y, 0, none⟩ u).cell? ⟨Y, 1, none⟩ = W.cell? ⟨Y, 1, none⟩ := fun W u => World.cell?_setCell_other _ _ _ _ (by simp)
              have s3 : ∀ (W : World) (u : Value) (o : Nat), (W.setCell ⟨X, 0, none⟩ u).cell? ⟨Y, o, none⟩ = W.cell? ⟨Y, o, none⟩ := fun W u o => World.cell?_setCell_other _ _ _ _ (fun e => hXY (congrArg Addr.block e))
              have s4 : ∀ (W : World) (u : Value) (o : Nat), (W.setCell ⟨Y, 0, none⟩ u).cell? ⟨X, o, none⟩ = W.cell? ⟨X, o, none⟩ := fun W u o => World.cell?_setCell_other _ _ _ _ (fun e => hYX (congrArg Addr.block e))
              have hw1 : IntKind.i64.wrap 1 = 1 := by decide
              have hw0 : IntKind.i64.wrap 0 = 0 := by decide
              have hpos : 0 < wC.drew.heap.size := by have := HP1.out.grown.size; have := HP1.out.pos; omega
              go_wp2_with fail
              go_region_held3 (fun w' => w'.cell? ⟨X, 1, none⟩ = some (.pointer (some ⟨b1, 0, none⟩)) ∧ w'.cell? ⟨Y, 1, none⟩ = some (.pointer (some ⟨d1, 0, none⟩))) (first | assumption | go_keep)
                ((first
                  | (go_at_call 16; refine (copy_lies b1 g1 _ _ HP1.out.p1.both.set hpos).mono ?_; rintro e wD ⟨bb, gg, rfl, hSD, hbD, hgD, hGD⟩; have hcD := And.intro (HP1.out.kept hGD).x1 (HP1.out.kept hGD).y1; have HD := hide (And.intro hSD (And.intro hgD hGD)); clear hSD hgD hGD)
                  | (go_at_call 17; refine (rcopy_lies d1 r1 true _ _ (HP1.out.kept HD.out.2.2).p1.both.ref).mono ?_; rintro e wE ⟨dd, rr, rfl, hRE, hdE, hrE, hGE, hrlE, hlE⟩; have HE := hide (And.intro hRE (And.intro hrE (And.intro hGE (And.intro hrlE hlE)))); have hPE := HP1.out.kept (grown_trans HD.out.2.2 HE.out.2.2.1); have hcE := And.intro hPE.x1 hPE.y1; have hcE1 := hPE.x0; have hcE2 := hPE.y0; have hfE1 := free_row hPE.x 0; have hfE2 := free_row hPE.y 0; clear hRE hrE hGE hrlE hlE hPE)))
              have HF := hide (HP1.out.copy1 HD.out.1 HD.out.2.1 HD.out.2.2 HE.out.1 HE.out.2.1 HE.out.2.2.1 HE.out.2.2.2.1 HE.out.2.2.2.2)
              generalize (wE.setCell ⟨X, 0, none⟩ (Value.pointer (some ⟨bb, 0, none⟩))).setCell ⟨Y, 0, none⟩ (Value.pointer (some ⟨dd, 0, none⟩)) = wF at *
              go_wp2
              go_roundg (gk - 1)
              case measure => omega
              case rel => exact ⟨j + 1, by omega, by go_num, ⟨_, _, _, _, _, _, _, _, _, _, HF.out⟩⟩
            · have e10 : (v == 10) = false := by simpa using h10
              have e10' : decide (v = 10) = false := by simpa using h10
              go_wp2_with fail
              refine (pick11v Do v _ HV.out).mono ?_
              rintro e wC ⟨rfl, rfl⟩
              go_wp2
              go_roundg (gk - 1)
              case measure => omega
              case rel => exact ⟨j + 1, by omega, by go_num, ⟨_, _, _, _, _, _, _, _, _, _, HPA.out⟩⟩
    · have hex : ¬ (j : Int) < (m : Int) ∨ ((j : Int) < (m : Int) ∧ ¬ (j : Int) < 2000 ∧ ¬ (n : Int) < 200) := by omega
      clear hgo
      obtain ⟨b0, g0, d0', r0, b1, g1, d1, r1, L0, L1, hS⟩ := hS.out
      have HS := hide (hS.kept (grown_drew wr none))
      clear hS
      rcases hex with hx | ⟨hx, hx2, hx3⟩
      all_goals
        go_wp2_with fail
        go_region_held3 (fun w' => w'.cell? ⟨d0, 0, none⟩ = some (.bool true) ∧ w'.cell? ⟨X, 0, none⟩ = some (.pointer (some ⟨b0, 0, none⟩)) ∧ w'.cell? ⟨X, 1, none⟩ = some (.pointer (some ⟨b1, 0, none⟩)) ∧ w'.cell? ⟨Y, 0, none⟩ = some (.pointer (some ⟨d0', 0, none⟩)) ∧ w'.cell? ⟨Y, 1, none⟩ = some (.pointer (some ⟨d1, 0, none⟩)) ∧ PS w w' X Y d0 n b0 g0 d0' r0 b1 g1 d1 r1 L0 L1) (first | assumption | exact HS.out.cells6)
          ((first
            | (go_at_call_of 18 (Value.pointer (some ⟨b0, 0, none⟩)); refine (is_any b0 g0 d0' r0 L0 _ HS.out.p0.both.set HS.out.p0.both.ref HS.out.p0.both.tab).mono ?_; rintro e wD ⟨rfl, hGD⟩; have hPD := HS.out.kept hGD; have hCD := hPD.cells6)
            | (go_at_call_of 18 (Value.pointer (some ⟨b1, 0, none⟩)); refine (is_any b1 g1 d1 r1 L1 _ hPD.p1.both.set hPD.p1.both.ref hPD.p1.both.tab).mono ?_; rintro e wE ⟨rfl, hGE⟩; have hPE := hPD.kept hGE; have hCE := hPE.cells6)))
        have HF := hide hPE.grown
        clear hPE hPD hCE hCD hGE hGD
        go_wp2
        go_ret
        exact ⟨rfl, HF.out⟩
end Go.Proofs.YtajdgkbeenalkaaDoor
